/-
  The walk of ResolveAsks: a fold asks for candidates one after the other, up to the first one with records. No condition.
-/
import Derived.Test.YtocmanmogfedoaaResFit
namespace Go.Proofs.Ytocmanmogfedoaa
open Go.RowKit

/-- a fold over one source with m candidates, i outcomes noted, the one at t with records -/
def aS (m t : Nat) : Nat → Fo
  | 0 => newF [zS 2] (m : Nat)
  | i + 1 => (aS m t i).note (if i = t then 1 else 2)
theorem aS_mid : ∀ (m : Fin 9) (t : Fin 16) (i : Fin 9), i.val < m.val → i.val ≤ t.val → (aS m.val t.val i.val).asks = true ∧ (aS m.val t.val i.val).src = 0 ∧ (aS m.val t.val i.val).cand = i.val := by decide +kernel
theorem aS_end : ∀ (m : Fin 9) (t : Fin 16), 0 < m.val → (t.val < m.val → (aS m.val t.val (t.val + 1)).asks = false ∧ (aS m.val t.val (t.val + 1)).came.k = 1 ∧ (aS m.val t.val (t.val + 1)).came.c = (t.val : Int)) ∧
    (m.val ≤ t.val → (aS m.val t.val m.val).asks = false ∧ (aS m.val t.val m.val).came.k = 2 ∧ (aS m.val t.val m.val).came.c = 0) := by decide +kernel
theorem aS_ok (m t : Nat) (hm : m ≤ 8) : ∀ i, (aS m t i).Ok
  | 0 => newF_ok _ _ (by show 1 ≤ 1000; omega) (by omega)
  | i + 1 => (aS_ok m t hm i).note (by split <;> omega) (by split <;> omega)
set_option maxRecDepth 100000 in
set_option maxHeartbeats 8000000 in
theorem resolveAsks_walk (cs0 at0 : Int) (w : World) :
    Calls Try.prog 6 #[.int .i64 cs0, .int .i64 at0] w fun e w' => e = .returned (.bool true) ∧ Below w.heap.size w w' := by
  have HFit := Lib.hid fit16_e
  have hl7 := (bN_e cs0 7 (by omega)).2
  have hb7 : bits BinOp.and IntKind.i64 cs0 7 = (bN cs0 7 : Int) := (bN_e cs0 7 (by omega)).1
  have hl15 := (bN_e at0 15 (by omega)).2
  have hb15 : bits BinOp.and IntKind.i64 at0 15 = (bN at0 15 : Int) := (bN_e at0 15 (by omega)).1
  generalize bN cs0 7 = b at hb7 hl7
  generalize bN at0 15 = t at hb15 hl15
  obtain ⟨m, hm⟩ : ∃ m : Nat, m = b + 1 := ⟨_, rfl⟩
  have hmI : (b : Int) + 1 = (m : Int) := by omega
  have hm8 : m ≤ 8 := by omega
  have hm1 : 1 ≤ m := by omega
  have hbI : (b : Int) ≤ 7 := by omega
  have hmM : (m : Int) ≤ 8 := by omega
  have htI : (t : Int) ≤ 15 := by omega
  have HMid : Hid (∀ i, i < m → i ≤ t → (aS m t i).asks = true ∧ (aS m t i).src = 0 ∧ (aS m t i).cand = i) := Lib.hid (fun i h1 h2 => aS_mid ⟨m, by omega⟩ ⟨t, by omega⟩ ⟨i, by omega⟩ h1 h2)
  have HEnd : Hid ((t < m → (aS m t (t + 1)).asks = false ∧ (aS m t (t + 1)).came.k = 1 ∧ (aS m t (t + 1)).came.c = (t : Int)) ∧ (m ≤ t → (aS m t m).asks = false ∧ (aS m t m).came.k = 2 ∧ (aS m t m).came.c = 0)) := Lib.hid (aS_end ⟨m, by omega⟩ ⟨t, by omega⟩ hm1)
  have HOk := Lib.hid (aS_ok m t hm8)
  have HN : Hid (∀ W : World, Calls Try.prog 9 #[.slice (some ⟨W.heap.size, 0, none⟩) 1 1, .int .i64 (m : Nat)] (W.alloc (.cells (svs [zS 2]).toArray 44)) (NwPost [zS 2] (m : Nat) (W.alloc (.cells (svs [zS 2]).toArray 44)))) := Lib.hid (fun W => new_e [zS 2] (m : Nat) _ (by show 1 ≤ 1000; omega) _ (RowIn.lit (heap_alloc_last W _) 1 rfl))
  clear hm hl7 hl15 hm8
  have hm1I : (1 : Int) ≤ (m : Int) := by omega
  go_enter Try.func6, Try.ntmps6
  go_wp2_with fail
  refine (HFit.out _).mono ?_
  rintro e w1 ⟨rfl, hb1⟩
  have HB1 := Lib.hid hb1
  clear hb1
  go_wp2_with fail
  refine (show Calls Try.prog _ _ _ _ from HN.out w1).mono ?_
  rintro e w2 ⟨g, A, c, rfl, hg, hf, hb2⟩
  have HF2 : Hid (FoldAt w2 g A c (aS m t 0)) := Lib.hid hf
  have HB2 := Lib.hid (HB1.out.trans (((((Below.refl _ w1).alloc (Nat.le_refl _) _).trans (hb2.mono (by simp)))).mono HB1.out.size))
  have HGE : Hid (w.heap.size ≤ g) := Lib.hid (by have := HB1.out.size; simp at hg; omega)
  clear hg hf hb2 HB1 HN
  go_wp2_with fail
  clear hb7 hb15
  go_loopg [27, 6, 7, 8, 9, 10] m (fun gk i v6 v7 v8 v9 v10 wr => ∃ k : Nat, i = .int .i64 k ∧ k + gk = m ∧ Hid (k ≤ t) ∧ Hid (FoldAt wr g A c (aS m t k)) ∧ Hid (Below w.heap.size w wr))
  case atStart => exact ⟨0, rfl, by omega, Lib.hid (Nat.zero_le _), HF2, HB2⟩
  case round =>
    obtain ⟨k, rfl, hkg, HKT, HF, HB⟩ := hrel
    by_cases hlt : k < m
    · obtain ⟨gk2, rfl⟩ : ∃ gk2, gk = gk2 + 1 := ⟨gk - 1, by omega⟩
      have hltI : (k : Int) < (m : Int) := by omega
      obtain ⟨ha, hs, hc⟩ := HMid.out k hlt HKT.out
      have hAt := at_yes HF.out ha
      rw [hs, hc] at hAt
      clear ha hs hc
      go_wp2_with fail
      refine (show Calls Try.prog _ _ _ _ from hAt).mono ?_
      rintro e w4 ⟨rfl, hb4⟩
      have HFr := Lib.hid (HF.out.below hb4)
      have HBr := Lib.hid (HB.out.trans (hb4.mono HB.out.size))
      clear hAt hb4 HF HB
      by_cases hkt : k = t
      · have hktB : ((k : Int) == (t : Int)) = true := by simp [hkt]
        have HKQ := Lib.hid hkt
        clear hkt
        go_wp2_with fail
        refine (show Calls Try.prog _ _ _ _ from note_e ⟨0, 0, 1⟩ HFr.out (HOk.out k) (by show (1 : Int) ≤ 1; omega) (by show (1 : Int) ≤ 5; omega)).mono ?_
        rintro e wn ⟨rfl, hfn, hgn⟩
        have HFN : Hid (FoldAt wn g A c (aS m t (k + 1))) := Lib.hid (by
          have : aS m t (k + 1) = (aS m t k).note 1 := by show (aS m t k).note _ = _; rw [if_pos HKQ.out]
          rw [this]; exact hfn)
        have HBN := Lib.hid (HBr.out.grown hgn HBr.out.size (fun q e => by injection e with e; have := HGE.out; omega))
        clear hfn hgn HFr HBr
        obtain rfl : t = k := HKQ.out.symm
        have HQ := Lib.hid (HEnd.out.1 hlt)
        have htm : ((t : Int) < (m : Int)) := hltI
        have hA9 := at_no HFN.out HQ.out.1
        go_wp2_with fail
        refine hA9.mono ?_
        rintro e w9 ⟨rfl, rfl⟩
        clear hA9
        go_wp2_with fail
        refine (reply_e HFN.out).mono ?_
        rintro e w10 ⟨rfl, hb10⟩
        have hcells : (aS m t (t + 1)).came.cells = #[.int .i64 (aS m t (t + 1)).came.s, .int .i64 (t : Nat), .int .i64 1, .slice none 0 0] := by
          show (#[.int .i64 (aS m t (t + 1)).came.s, .int .i64 (aS m t (t + 1)).came.c, .int .i64 (aS m t (t + 1)).came.k, .slice none 0 0] : Array Value) = _
          rw [HQ.out.2.1, HQ.out.2.2]
        rw [hcells]
        generalize (aS m t (t + 1)).came.s = sv
        have HB10 := Lib.hid (HBN.out.trans (hb10.mono HBN.out.size))
        clear hb10 hcells HFN HBN
        go_wp2_with fail
        go_ret
        exact ⟨rfl, HB10.out.alloc HB10.out.size _⟩
      · have hktB : ((k : Int) == (t : Int)) = false := by simp; omega
        have HKQ := Lib.hid hkt
        have HKT2 : Hid (k + 1 ≤ t) := Lib.hid (by have := HKT.out; omega)
        clear hkt
        go_wp2_with fail
        refine (show Calls Try.prog _ _ _ _ from note_e ⟨0, 0, 2⟩ HFr.out (HOk.out k) (by show (1 : Int) ≤ 2; omega) (by show (2 : Int) ≤ 5; omega)).mono ?_
        rintro e wn ⟨rfl, hfn, hgn⟩
        have HFN : Hid (FoldAt wn g A c (aS m t (k + 1))) := Lib.hid (by
          have : aS m t (k + 1) = (aS m t k).note 2 := by show (aS m t k).note _ = _; rw [if_neg HKQ.out]
          rw [this]; exact hfn)
        have HBN := Lib.hid (HBr.out.grown hgn HBr.out.size (fun q e => by injection e with e; have := HGE.out; omega))
        clear hfn hgn HFr HBr
        go_wp2_with fail
        go_roundg gk2
        case measure => omega
        case rel => exact ⟨k + 1, by go_num, by omega, HKT2, HFN, HBN⟩
    · obtain rfl : k = m := by omega
      have hltI : ¬ (k : Int) < (k : Int) := by omega
      have HQ := Lib.hid (HEnd.out.2 HKT.out)
      have HFN := HF
      have HBN := HB
      have htm : ¬ ((t : Int) < (k : Int)) := by have := HKT.out; omega
      have htm2 : ((t : Int) < (k : Int)) = False := by simp; have := HKT.out; omega
      clear HF HB
      have hA9 := at_no HFN.out HQ.out.1
      go_wp2_with fail
      refine hA9.mono ?_
      rintro e w9 ⟨rfl, rfl⟩
      clear hA9
      go_wp2_with fail
      refine (reply_e HFN.out).mono ?_
      rintro e w10 ⟨rfl, hb10⟩
      have hcells : (aS k t k).came.cells = #[.int .i64 (aS k t k).came.s, .int .i64 0, .int .i64 2, .slice none 0 0] := by
        show (#[.int .i64 (aS k t k).came.s, .int .i64 (aS k t k).came.c, .int .i64 (aS k t k).came.k, .slice none 0 0] : Array Value) = _
        rw [HQ.out.2.1, HQ.out.2.2]
      rw [hcells]
      generalize (aS k t k).came.s = sv
      have HB10 := Lib.hid (HBN.out.trans (hb10.mono HBN.out.size))
      clear hb10 hcells HFN HBN
      go_wp2_with fail
      go_ret
      exact ⟨rfl, HB10.out.alloc HB10.out.size _⟩
end Go.Proofs.Ytocmanmogfedoaa
