/-
  The walk of ResolveStops: a source that returns by its outcome is the last one that is asked. No condition.
-/
import Derived.Test.YtocmanmogfedoaaResFit
namespace Go.Proofs.Ytocmanmogfedoaa
open Go.RowKit

/-- the outcome as sources see it -/
def acN (k : Nat) : Nat := if k = 5 then 2 else k
/-- a source that returns by one outcome -/
def sR (a : Nat) : Sr := ⟨2, false, decide (a = 1), decide (a = 2), decide (a = 3), decide (a = 4)⟩
def oS (p a : Nat) : List Sr := (List.range 4).map fun i => if i = p then sR a else zS 2
/-- the fold over them, i outcomes noted -/
def bS (p k : Nat) : Nat → Fo
  | 0 => newF (oS p (acN k)) 1
  | i + 1 => (bS p k i).note (k : Nat)
theorem bS_mid : ∀ (p : Fin 4) (k : Fin 6) (i : Fin 4), 0 < k.val → i.val ≤ p.val → (bS p.val k.val i.val).asks = true := by decide +kernel
theorem bS_end : ∀ (p : Fin 4) (k : Fin 6), 0 < k.val → (bS p.val k.val (p.val + 1)).asks = false ∧ (bS p.val k.val (p.val + 1)).came.k = (k.val : Int) ∧ (bS p.val k.val (p.val + 1)).came.s = (p.val : Int) := by decide +kernel
theorem bS_ok (p k : Nat) (h1 : 1 ≤ k) (h5 : k ≤ 5) : ∀ i, (bS p k i).Ok
  | 0 => newF_ok _ _ (by show ((List.range 4).map _).length ≤ 1000; simp) (by omega)
  | i + 1 => (bS_ok p k h1 h5 i).note (by omega) (by omega)
/-- the row while it is filled -/
def rowS (i : Nat) : Array Value := (svs ((List.range 4).map fun j => if j < i then zS 2 else zS 0)).toArray
theorem rowS_set : ∀ i : Fin 4, (rowS i.val).setIfInBounds (i.val * 6) (.int .i64 2) = rowS (i.val + 1)
  | ⟨0, _⟩ => rfl
  | ⟨1, _⟩ => rfl
  | ⟨2, _⟩ => rfl
  | ⟨3, _⟩ => rfl
theorem rowS_at : ∀ i : Fin 4, (rowS i.val)[i.val * 6]? = some (.int .i64 0)
  | ⟨0, _⟩ => rfl
  | ⟨1, _⟩ => rfl
  | ⟨2, _⟩ => rfl
  | ⟨3, _⟩ => rfl
theorem rowS_ret (p a : Nat) (hp : p ≤ 3) (h1 : 1 ≤ a) (h4 : a ≤ 4) : (rowS 4).setIfInBounds (p * 6 + 1 + a) (.bool true) = (svs (oS p a)).toArray ∧ (rowS 4)[p * 6 + 1 + a]? = some (.bool false) := by
  rcases (show p = 0 ∨ p = 1 ∨ p = 2 ∨ p = 3 by omega) with rfl | rfl | rfl | rfl <;>
  rcases (show a = 1 ∨ a = 2 ∨ a = 3 ∨ a = 4 by omega) with rfl | rfl | rfl | rfl <;> exact ⟨rfl, rfl⟩
theorem mk_src (W : World) : (Instr.makeSlice 24 (.int .i64 4) (.int .i64 4)).run Try.prog W = .ok (.slice (some ⟨W.heap.size, 0, none⟩) 4 4) (W.alloc (.cells (rowS 0) 44)) := by kernel_rfl
/-- what the row's loop keeps -/
structure RwAt (w wr : World) (b j : Nat) : Prop where
  below : Below w.heap.size w wr
  row : wr.heap[b]? = some (.cells (rowS j) 44 (0, 0))
  le : w.heap.size ≤ b
set_option maxRecDepth 100000 in
set_option maxHeartbeats 8000000 in
theorem resolveStops_walk (k0 at0 : Int) (w : World) :
    Calls Try.prog 5 #[.int .i64 k0, .int .i64 at0] w fun e w' => e = .returned (.bool true) ∧ Below w.heap.size w w' := by
  have HFit := Lib.hid fit16_e
  have HKd := Lib.hid (fun W => kind_e k0 W)
  have hkr := kd_in k0
  generalize kd k0 = k at HKd hkr
  have hlp := (bN_e at0 3 (by omega)).2
  have hbp : bits BinOp.and IntKind.i64 at0 3 = (bN at0 3 : Int) := (bN_e at0 3 (by omega)).1
  generalize bN at0 3 = p at hlp hbp
  have HKR := Lib.hid hkr
  have HLP := Lib.hid hlp
  have hk1 : (1 : Int) ≤ (k : Int) := by omega
  have hk5 : (k : Int) ≤ 5 := by omega
  have hp3 : (p : Int) ≤ 3 := by omega
  have hp0 : (0 : Int) ≤ (p : Int) := by omega
  obtain ⟨a, ha⟩ : ∃ a, a = acN k := ⟨_, rfl⟩
  have haR : 1 ≤ a ∧ a ≤ 4 := by rw [ha]; unfold acN; split <;> omega
  have HAR := Lib.hid haR
  have ha1 : (1 : Int) ≤ (a : Int) := by omega
  have ha4 : (a : Int) ≤ 4 := by omega
  have HAe := Lib.hid ha
  clear ha haR hlp hkr
  go_enter Try.func5, Try.ntmps5
  go_wp2_with fail
  refine (HFit.out _).mono ?_
  rintro e w1 ⟨rfl, hb1⟩
  have HB1 := Lib.hid hb1
  clear hb1
  go_wp2_with fail
  refine (HKd.out _).mono ?_
  rintro e w2 ⟨rfl, rfl⟩
  obtain ⟨q5, hq5⟩ : ∃ q5, ((k : Int) == 5) = q5 := ⟨_, rfl⟩
  have HQ5 := Lib.hid hq5
  go_upto_if 23 with fail
  clear hq5
  go_cut [6] from 22 to 23 (fun t6 wx => t6 = .int .i64 (a : Nat) ∧ w1 = wx)
  case first =>
    cases q5 with
    | true =>
      have hk : k = 5 := by have := HQ5.out; simp at this; omega
      have hA : (a : Int) = 2 := by have := HAe.out; unfold acN at this; rw [if_pos hk] at this; omega
      have HA := Lib.hid hA
      clear hk hA
      go_wp2_with fail
      go_meet
      case rel => exact ⟨by rw [HA.out], rfl⟩
    | false =>
      have hk : ¬ k = 5 := by have := HQ5.out; simp at this; omega
      have HA : Hid (a = k) := Lib.hid (by have := HAe.out; unfold acN at this; rw [if_neg hk] at this; exact this)
      clear hk
      go_wp2_with fail
      go_meet
      case rel => exact ⟨by rw [HA.out], rfl⟩
  case rest =>
    obtain ⟨rfl, rfl⟩ := hcut
    clear HQ5
    have hmk := mk_src w1
    have HR0 : Hid (RwAt w (w1.alloc (.cells (rowS 0) 44)) w1.heap.size 0) := Lib.hid ⟨HB1.out.alloc HB1.out.size _, heap_alloc_last w1 _, HB1.out.size⟩
    go_upto_region 9 with fail
    clear hmk HB1
    generalize w1.alloc (.cells (rowS 0) 44) = W0 at HR0 ⊢
    generalize w1.heap.size = b at HR0 ⊢
    go_wp2_with fail
    go_loopg [27, 8] 4 (fun gk i v8 wr => ∃ j : Nat, i = .int .i64 j ∧ j + gk = 4 ∧ Hid (RwAt w wr b j))
    case atStart => exact ⟨0, rfl, by omega, HR0⟩
    case round =>
      obtain ⟨j, rfl, hjg, HR⟩ := hrel
      by_cases hlt : j < 4
      · obtain ⟨gk2, rfl⟩ : ∃ gk2, gk = gk2 + 1 := ⟨gk - 1, by omega⟩
        have hltI : (j : Int) < 4 := by omega
        have hj0 : (0 : Int) ≤ (j : Int) := by omega
        have dc := (cell_of_row _ b (j * 6) _ _ _ HR.out.row).trans (rowS_at ⟨j, hlt⟩)
        have df := frozen_of_row wr b (j * 6) _ _ HR.out.row
        have HR2 : Hid (RwAt w (wr.setCell ⟨b, j * 6, none⟩ (.int .i64 2)) b (j + 1)) := Lib.hid ⟨HR.out.below.setCell (p := ⟨b, j * 6, none⟩) HR.out.le _, by
          have := heap_setCell_same wr b (j * 6) _ _ (.int .i64 2) HR.out.row
          rwa [show (rowS j).setIfInBounds (j * 6) (.int .i64 2) = rowS (j + 1) from rowS_set ⟨j, hlt⟩] at this, HR.out.le⟩
        clear HR
        go_wp2_with fail
        go_roundg gk2
        case measure => omega
        case rel => exact ⟨j + 1, by go_num, by omega, HR2⟩
      · obtain rfl : j = 4 := by omega
        have HRt := Lib.hid (rowS_ret p a HLP.out HAR.out.1 HAR.out.2)
        have dc := (cell_of_row _ b (p * 6 + 1 + a) _ _ _ HR.out.row).trans HRt.out.2
        have df := frozen_of_row wr b (p * 6 + 1 + a) _ _ HR.out.row
        have HG1 : Hid ((wr.setCell ⟨b, p * 6 + 1 + a, none⟩ (.bool true)).heap[b]? = some (.cells (svs (oS p a)).toArray 44 (0, 0))) := Lib.hid (by
          have := heap_setCell_same wr b (p * 6 + 1 + a) _ _ (.bool true) HR.out.row
          rwa [HRt.out.1] at this)
        have HB2 : Hid (Below w.heap.size w (wr.setCell ⟨b, p * 6 + 1 + a, none⟩ (.bool true))) := Lib.hid (HR.out.below.setCell (p := ⟨b, p * 6 + 1 + a, none⟩) HR.out.le _)
        clear HR HRt hlt
        go_upto_region 15 with fail
        generalize wr.setCell ⟨b, p * 6 + 1 + a, none⟩ (.bool true) = W2 at HG1 HB2 ⊢
        clear dc df HAR hbp
        have HMid : Hid (∀ i, i ≤ p → (bS p k i).asks = true) := Lib.hid (fun i hi => bS_mid ⟨p, by have := HLP.out; omega⟩ ⟨k, by have := HKR.out; omega⟩ ⟨i, by have := HLP.out; omega⟩ HKR.out.1 hi)
        have HEnd : Hid ((bS p k (p + 1)).asks = false ∧ (bS p k (p + 1)).came.k = (k : Int) ∧ (bS p k (p + 1)).came.s = (p : Int)) := Lib.hid (bS_end ⟨p, by have := HLP.out; omega⟩ ⟨k, by have := HKR.out; omega⟩ HKR.out.1)
        have HOk := Lib.hid (bS_ok p k HKR.out.1 HKR.out.2)
        have hN := new_e (oS p a) 1 _ (by show ((List.range 4).map _).length ≤ 1000; simp) W2 (RowIn.lit HG1.out 4 (by show ((List.range 4).map _).length = 4; simp))
        go_wp2_with fail
        refine (show Calls Try.prog _ _ _ _ from hN).mono ?_
        rintro e w3 ⟨g, A, c, rfl, hg, hf, hb3⟩
        rw [HAe.out] at hf
        have HF3 : Hid (FoldAt w3 g A c (bS p k 0)) := Lib.hid hf
        have HB3 := Lib.hid (HB2.out.trans (hb3.mono HB2.out.size))
        have HGE : Hid (w.heap.size ≤ g) := Lib.hid (by have := HB2.out.size; omega)
        clear hN hg hf hb3 HB2 HG1
        go_wp2_with fail
        go_loopg [43, 10, 11, 12, 13] 9 (fun gk i v10 v11 v12 v13 wr => ∃ j : Nat, i = .int .i64 j ∧ v10 = .int .i64 j ∧ j + gk = 9 ∧ Hid (j ≤ p + 1) ∧ Hid (FoldAt wr g A c (bS p k j)) ∧ Hid (Below w.heap.size w wr))
        case atStart => exact ⟨0, rfl, rfl, by omega, Lib.hid (Nat.zero_le _), HF3, HB3⟩
        case round =>
          obtain ⟨j, rfl, rfl, hjg, HJ, HF, HB⟩ := hrel
          have hj9 : j < 9 := by have := HJ.out; have := HLP.out; omega
          obtain ⟨gk2, rfl⟩ : ∃ gk2, gk = gk2 + 1 := ⟨gk - 1, by omega⟩
          have hj9I : (j : Int) < 9 := by omega
          by_cases hjp : j ≤ p
          · have hAt := at_yes HF.out (HMid.out j hjp)
            have HJ2 : Hid (j + 1 ≤ p + 1) := Lib.hid (by omega)
            clear hjp
            generalize (bS p k j).src = sv at hAt
            generalize (bS p k j).cand = cv at hAt
            go_wp2_with fail
            refine hAt.mono ?_
            rintro e w4 ⟨rfl, hb4⟩
            have HFr := Lib.hid (HF.out.below hb4)
            have HBr := Lib.hid (HB.out.trans (hb4.mono HB.out.size))
            clear hAt hb4 HF HB
            go_wp2_with fail
            refine (show Calls Try.prog _ _ _ _ from note_e ⟨0, 0, (k : Nat)⟩ HFr.out (HOk.out j) hk1 hk5).mono ?_
            rintro e wn ⟨rfl, hfn, hgn⟩
            have HFN : Hid (FoldAt wn g A c (bS p k (j + 1))) := Lib.hid hfn
            have HBN := Lib.hid (HBr.out.grown hgn HBr.out.size (fun q e => by injection e with e; have := HGE.out; omega))
            clear hfn hgn HFr HBr
            go_wp2_with fail
            go_roundg gk2
            case measure => omega
            case rel => exact ⟨j + 1, by go_num, by go_num, by omega, HJ2, HFN, HBN⟩
          · have hjq : j = p + 1 := by have := HJ.out; omega
            have hjB : ((j : Int) == (p : Int) + 1) = true := by simp; omega
            have HJQ := Lib.hid hjq
            have hA9 : Calls _ _ _ _ _ := at_no HF.out (by rw [hjq]; exact HEnd.out.1)
            clear hjp hjq
            go_wp2_with fail
            refine hA9.mono ?_
            rintro e w9 ⟨rfl, rfl⟩
            clear hA9
            go_wp2_with fail
            refine (reply_e HF.out).mono ?_
            rintro e w10 ⟨rfl, hb10⟩
            have hcells : (bS p k j).came.cells = #[.int .i64 (p : Nat), .int .i64 (bS p k j).came.c, .int .i64 (k : Nat), .slice none 0 0] := by
              show (#[.int .i64 (bS p k j).came.s, .int .i64 (bS p k j).came.c, .int .i64 (bS p k j).came.k, .slice none 0 0] : Array Value) = _
              rw [HJQ.out, HEnd.out.2.1, HEnd.out.2.2]
            rw [hcells]
            generalize (bS p k j).came.c = cv
            have HB10 := Lib.hid (HB.out.trans (hb10.mono HB.out.size))
            clear hb10 hcells HF HB
            go_wp2_with fail
            go_ret
            exact ⟨rfl, HB10.out.alloc HB10.out.size _⟩
end Go.Proofs.Ytocmanmogfedoaa
