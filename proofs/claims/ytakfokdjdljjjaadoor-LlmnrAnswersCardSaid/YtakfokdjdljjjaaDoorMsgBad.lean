/-
  The walk of msg.Decode for bytes whose question or records are none. Condition: the library's variable MaxLen holds some number; the bytes lie in memory.
-/
import Derived.Test.YtakfokdjdljjjaaDoorMsgHead
import Derived.Test.YtakfokdjdljjjaaDoorMsgRecs
namespace Go.Proofs.YtakfokdjdljjjaaDoor
open Go.RowKit

def gMsg (id : Nat) (x y z : Bool) (d : Int) (s : ByteArray) (t : Nat) : Array Value := #[.int .i64 (id : Nat), .bool x, .bool y, .bool z, .int .i64 d, .string s, .int .i64 (t : Nat), .slice none 0 0, .slice none 0 0]
theorem builtG (id : Nat) (x y z : Bool) (d : Int) (s : ByteArray) (t : Nat) : Tryd.prog.built 31 [(0, .int .i64 (id : Nat)), (1, .bool x), (2, .bool y), (3, .bool z), (4, .int .i64 d), (5, .agg #[.string s, .int .i64 (t : Nat)])] = some (gMsg id x y z d s t) := by kernel_rfl
theorem oneG (id : Nat) (x y z : Bool) (d : Int) (s : ByteArray) (t : Nat) : (gMsg id x y z d s t).all (·.oneCell') = true := by simp [gMsg, Value.oneCell']
theorem sizeG (id : Nat) (x y z : Bool) (d : Int) (s : ByteArray) (t : Nat) : (Tryd.prog.info? 31).map (·.size) = some (gMsg id x y z d s t).size := sizeM
theorem zG (id : Nat) (x y z : Bool) (d : Int) (s : ByteArray) (t : Nat) : zMsg.size = (gMsg id x y z d s t).size := rfl
theorem two_sets {base g gm c : Nat} {w w6 : World} {A : Option Addr} {b : List UInt8} (X Y : Value) (hr : RSt base w6 g A c b none) (hm : w6.heap[base]? = some (.cells zMsg 31 (0, 0))) (hb : Below base w w6) (h1 : base < g) (h2 : g < gm) :
    (((w6.setCell ⟨gm, 7, none⟩ X).setCell ⟨gm, 8, none⟩ Y).drew.heap[base]? = some (.cells zMsg 31 (0, 0))) ∧ Below base w ((w6.setCell ⟨gm, 7, none⟩ X).setCell ⟨gm, 8, none⟩ Y).drew ∧ ((w6.setCell ⟨gm, 7, none⟩ X).setCell ⟨gm, 8, none⟩ Y).drew.cell? ⟨g, 2, none⟩ = some (.bool true) ∧ base < ((w6.setCell ⟨gm, 7, none⟩ X).setCell ⟨gm, 8, none⟩ Y).drew.heap.size := by
  have hm' : (((w6.setCell ⟨gm, 7, none⟩ X).setCell ⟨gm, 8, none⟩ Y).drew.heap[base]? = some (.cells zMsg 31 (0, 0))) := ((Below.heap_setCell (w6.setCell ⟨gm, 7, none⟩ X) ⟨gm, 8, none⟩ Y base (by show base ≠ gm; omega)).trans (Below.heap_setCell w6 ⟨gm, 7, none⟩ X base (by show base ≠ gm; omega))).trans hm
  obtain ⟨p, hp⟩ := hr.blk
  have hg : ((w6.setCell ⟨gm, 7, none⟩ X).setCell ⟨gm, 8, none⟩ Y).drew.heap[g]? = w6.heap[g]? := (Below.heap_setCell (w6.setCell ⟨gm, 7, none⟩ X) ⟨gm, 8, none⟩ Y g (by show g ≠ gm; omega)).trans (Below.heap_setCell w6 ⟨gm, 7, none⟩ X g (by show g ≠ gm; omega))
  exact ⟨hm', ((hb.setCell (p := ⟨gm, 7, none⟩) (by show base ≤ gm; omega) _).setCell (p := ⟨gm, 8, none⟩) (by show base ≤ gm; omega) _).drew, (cell_of_row _ g 2 _ _ _ (hg.trans hp.blk)), heap_lt hm'⟩
set_option maxRecDepth 100000 in
set_option maxHeartbeats 16000000 in
theorem decode_bad (A : Option Addr) (c : Nat) (b : List UInt8) (w : World) (he : Env w) (hin : InB w w.heap.size A b) (hc : b.length ≤ c) (hl : b.length ≤ 140737488351232) (hn : A = none → c = 0)
    (h12 : 12 ≤ b.length) (hop : bits BinOp.and .i64 (hd b 1 : Nat) 30720 = 0) (hq1 : hd b 2 = 1) (hmx : max (hd b 3) (hd b 4) ≤ 32)
    (hrec : ∀ (W : World) (base g : Nat) (o' : Option Nat), Env W → 0 < base → RSt base W g A c b o' → Calls Tryd.prog 31 #[.pointer (some ⟨g, 0, none⟩)] W fun e w' => RecP base W g A c b (o'.bind (recF b)) e w')
    (hbad : ((qF b 12).bind fun q => recsF b q.2 (hd b 3 + hd b 4)) = none) :
    Calls Tryd.prog 10 #[.slice A b.length c] w fun e w' => e = .returned (.tuple #[.agg zMsg, .int .i64 4]) ∧ Below w.heap.size w w' := by
  have HBAD := Lib.hid hbad
  have HREC := Lib.hid hrec
  have HOP := Lib.hid hop
  have HQ1 := Lib.hid hq1
  have HMX := Lib.hid hmx
  have HMax : Hid (0 < w.heap.size) := Lib.hid he.1
  have HE := Lib.hid he
  have HR0 : Hid (RIs w.heap.size (((w.alloc (.cells zMsg 31)).alloc (.cells #[.slice A b.length c, .int .i64 0, .bool false] 67)).alloc (.cells (hdC []) 61)) (w.heap.size + 1) A c b 0 false) := Lib.hid (by
    refine ⟨?_, ?_, by omega, hc, hl, by omega, fun _ => by omega, hn⟩
    · exact (Below.heap_alloc _ _ _ (by simp)).trans (by
        have := heap_alloc_last (w.alloc (.cells zMsg 31)) (.cells #[.slice A b.length c, .int .i64 0, .bool false] 67)
        rwa [World.size_alloc] at this)
    · exact hin.below ((((Below.refl _ w).alloc (Nat.le_refl _) _).alloc (by simp) _).alloc (by simp; omega) _))
  have HD0 : Hid (HAt w.heap.size w (((w.alloc (.cells zMsg 31)).alloc (.cells #[.slice A b.length c, .int .i64 0, .bool false] 67)).alloc (.cells (hdC []) 61)) (w.heap.size + 1) (w.heap.size + 2) A c b []) := Lib.hid ⟨⟨some 0, HR0.out, .inl ⟨rfl, fun j hj => absurd hj (by simp)⟩⟩, (fun x hx => by cases hx), by
      have := heap_alloc_last ((w.alloc (.cells zMsg 31)).alloc (.cells #[.slice A b.length c, .int .i64 0, .bool false] 67)) (.cells (hdC []) 61)
      rwa [World.size_alloc, World.size_alloc] at this,
    (Below.heap_alloc _ _ _ (by simp; omega)).trans ((Below.heap_alloc _ _ _ (by simp)).trans (heap_alloc_last w _)),
    (((Below.refl _ w).alloc (Nat.le_refl _) _).alloc (by simp) _).alloc (by simp; omega) _⟩
  clear HR0 hin hbad he hrec hop hq1 hmx
  unfold hdC zMsg at HD0
  go_enter Tryd.func10, Tryd.ntmps10
  go_wp2_with fail
  obtain ⟨w0, hw0⟩ : ∃ w0, w0 = (((w.alloc (.cells #[.int .i64 0, .bool false, .bool false, .bool false, .int .i64 0, .string ⟨#[]⟩, .int .i64 0, .slice none 0 0, .slice none 0 0] 31)).alloc (.cells #[.slice A b.length c, .int .i64 0, .bool false] 67)).alloc (.cells #[.int .i64 0, .int .i64 0, .int .i64 0, .int .i64 0, .int .i64 0, .int .i64 0] 61)) := ⟨_, rfl⟩
  have HD1 : Hid (HAt w.heap.size w w0 (w.heap.size + 1) (w.heap.size + 2) A c b []) := Lib.hid (by rw [hw0]; exact HD0.out)
  try simp only [World.size_alloc]
  rw [← hw0]
  clear hw0 HD0
  go_loopw [17, 6] (fun i _ wr => ∃ xs : List Nat, xs.length ≤ 6 ∧ i = .int .i64 xs.length ∧ Hid (HAt w.heap.size w wr (w.heap.size + 1) (w.heap.size + 2) A c b xs)) (fun i _ _ => 6 - (intOf i).toNat)
  case atStart => exact ⟨[], by simp, rfl, HD1⟩
  case round =>
    obtain ⟨xs, hk, rfl, HD⟩ := hrel
    have hlt := heap_lt HD.out.hd
    obtain ⟨o, hst, ho⟩ := HD.out.r
    by_cases hk6 : xs.length < 6
    · have C := numberP w.heap.size (w.heap.size + 1) c 2 A b o wr hst (by omega)
      obtain ⟨v, hv⟩ : ∃ v, ((o.bind fun p => numF b p 2).map (·.1)).getD 0 = v := ⟨_, rfl⟩
      have hvb : v ≤ 65535 := by
        rw [← hv]
        have := numv_lt (b := b) (o := o) rfl
        omega
      unfold NumP at C
      rw [hv] at C
      have HNx : Hid (∀ w3, RSt w.heap.size w3 (w.heap.size + 1) A c b ((o.bind fun p => numF b p 2).map (·.2)) → wr.grownBy w3 (some (w.heap.size + 1)) → HAt w.heap.size w (w3.setCell ⟨w.heap.size + 2, xs.length, none⟩ (.int .i64 (v : Nat))) (w.heap.size + 1) (w.heap.size + 2) A c b (xs ++ [v])) := Lib.hid (fun w3 hr hg => HD.out.next hk6 (by omega) (by omega) hlt ho hr hg hv)
      have HC := fun (w3 : World) (hg : wr.grownBy w3 (some (w.heap.size + 1))) => (cell_of_row w3 (w.heap.size + 2) xs.length _ _ _ ((hg.block _ hlt (fun e => by injection e with e; omega)).trans HD.out.hd)).trans (hdC_at hk6)
      have HF := fun (w3 : World) (hg : wr.grownBy w3 (some (w.heap.size + 1))) => frozen_of_row w3 (w.heap.size + 2) xs.length _ _ ((hg.block _ hlt (fun e => by injection e with e; omega)).trans HD.out.hd)
      have HXL : Hid ((xs ++ [v]).length = xs.length + 1) := Lib.hid (by rw [List.length_append]; rfl)
      clear hv hk hst ho HD
      obtain ⟨k, hkx⟩ : ∃ k, k = xs.length := ⟨_, rfl⟩
      rw [← hkx] at HC HF HNx HXL hk6 ⊢
      clear hkx
      rcases (show k = 0 ∨ k = 1 ∨ k = 2 ∨ k = 3 ∨ k = 4 ∨ k = 5 by omega) with rfl | rfl | rfl | rfl | rfl | rfl
      all_goals
        go_wp2_with fail
        refine C.mono ?_
        rintro e w3 ⟨rfl, hr3, hg3⟩
        have d := HC w3 hg3
        have f := HF w3 hg3
        have HN3 := Lib.hid (HNx.out w3 hr3 hg3)
        have hs3 : w.heap.size + 2 < w3.heap.size := Nat.lt_of_lt_of_le hlt hg3.size
        clear HC HF hr3 hg3 C
        go_wp2_with fail
        go_roundw
        case rel => exact ⟨xs ++ [v], by rw [HXL.out]; omega, by rw [HXL.out]; first | rfl | go_num, HN3⟩
        case measure => simp [intOf]
    · obtain ⟨a0, a1, a2, a3, a4, a5, rfl⟩ := six (show xs.length = 6 by omega)
      have hh : wr.heap[w.heap.size + 2]? = some (.cells #[.int .i64 (a0 : Nat), .int .i64 (a1 : Nat), .int .i64 (a2 : Nat), .int .i64 (a3 : Nat), .int .i64 (a4 : Nat), .int .i64 (a5 : Nat)] 61 (0, 0)) := HD.out.hd
      have d0 := cell_of_row wr (w.heap.size + 2) 0 _ _ _ hh
      have d1 := cell_of_row wr (w.heap.size + 2) 1 _ _ _ hh
      have d2 := cell_of_row wr (w.heap.size + 2) 2 _ _ _ hh
      have d3 := cell_of_row wr (w.heap.size + 2) 3 _ _ _ hh
      have d4 := cell_of_row wr (w.heap.size + 2) 4 _ _ _ hh
      obtain ⟨p, hp⟩ := hst.blk
      have r2 := cell_of_row wr (w.heap.size + 1) 2 _ _ _ hp.blk
      simp only [List.getElem?_toArray, List.getElem?_cons_succ, List.getElem?_cons_zero] at d0 d1 d2 d3 d4 r2
      have HM := Lib.hid HD.out.ms
      have HB := Lib.hid HD.out.below
      have h1 := HD.out.lt a1 (by simp)
      have h3 := HD.out.lt a3 (by simp)
      have h4 := HD.out.lt a4 (by simp)
      have ho12 : o = some 12 := by
        cases o with
        | none => rcases ho with ⟨h, _⟩ | ⟨_, h⟩
                  · cases h
                  · omega
        | some p => rw [ho.six.1]
      subst ho12
      obtain ⟨_, _, e0, e1, e2, e3, e4⟩ := ho.six
      have hq := HOP.out
      rw [e1] at hq
      have e2' := HQ1.out
      rw [e2] at e2'
      subst e2'
      have hmx := HMX.out
      rw [e3, e4] at hmx
      have hb := HBAD.out
      rw [e3, e4] at hb
      have HBD := Lib.hid hb
      have h3' : a3 ≤ 32 := by omega
      have h4' : a4 ≤ 32 := by omega
      have hm32 : ¬ (32 : Int) < max (a3 : Int) (a4 : Int) := by omega
      have r2 : wr.cell? ⟨w.heap.size + 1, 2, none⟩ = some (.bool false) := r2
      have HRR := Lib.hid (show RIs w.heap.size wr (w.heap.size + 1) A c b 12 false from hst)
      clear hst ho hp hh HD hk hk6 HBAD HOP HQ1 HMX hmx hb e0 e1 e2 e3 e4 h1 h3 h4
      go_wp2_with fail
      go_quiet (fail)
      have HR2 : Hid (RIs w.heap.size (wr.drewN nq) (w.heap.size + 1) A c b 12 false) := Lib.hid (HRR.out.drewN _)
      have HM2 : Hid ((wr.drewN nq).heap[w.heap.size]? = some (.cells zMsg 31 (0, 0))) := Lib.hid HM.out
      have HB2 : Hid (Below w.heap.size w (wr.drewN nq)) := Lib.hid (HB.out.grown (grown_drewN wr nq (w.heap.size + 1)) (by omega) (fun k e => by injection e with e; omega))
      have hlt2 : w.heap.size + 2 < (wr.drewN nq).heap.size := hlt
      clear HRR HM HB d0 d1 d2 d3 d4 r2 hlt
      revert HR2 HM2 HB2 hlt2
      generalize wr.drewN nq = W
      intro HR2 HM2 HB2 hlt2
      have r2 := cell_of_row W (w.heap.size + 1) 2 _ _ _ HR2.out.blk
      simp only [List.getElem?_toArray, List.getElem?_cons_succ, List.getElem?_cons_zero] at r2
      have C := questionP w.heap.size (w.heap.size + 1) c A b (some 12) W (HE.out.base HB2.out HMax.out) HMax.out HR2.out
      rw [Option.bind_some] at C
      obtain ⟨q, hqq⟩ : ∃ q, qF b 12 = q := ⟨_, rfl⟩
      rw [hqq] at C HBD
      clear hqq
      have ZM := Lib.hid zeroM
      have SG := Lib.hid sizeG
      have OG := Lib.hid oneG
      have ZG := Lib.hid zG
      have BG := Lib.hid builtG
      go_wp2_with fail
      refine C.mono ?_
      rintro e w4 ⟨s, t, rfl, ht, hst, hr4, hg4⟩
      have HR4 := Lib.hid hr4
      have HG4 := Lib.hid hg4
      obtain ⟨p4, hp4⟩ := hr4.blk
      have hglt : w.heap.size + 1 < w4.heap.size := hp4.lt
      have HB4 : Hid (Below w.heap.size w w4) := Lib.hid (HB2.out.grown HG4.out (by omega) (fun k e => by injection e with e; omega))
      clear C hst hr4 hg4 r2 hp4
      have HCR : Hid (∀ (cs : Array Value), Calls Tryd.prog 22 #[.pointer (some ⟨w.heap.size + 1, 0, none⟩), .int .i64 ((a3 : Int) + (a4 : Int))] (w4.alloc (.cells cs 31)) fun e w' => RecsP w.heap.size (w4.alloc (.cells cs 31)) (w.heap.size + 1) A c b ((q.map (·.2)).bind fun p => recsF b p (a3 + a4)) (a3 + a4) e w') := Lib.hid (fun cs => by
        have h := recordsP w.heap.size (w.heap.size + 1) c (a3 + a4) A b (q.map (·.2)) (w4.alloc (.cells cs 31)) (HE.out.base (HB4.out.alloc (by omega) _) HMax.out) HMax.out (HR4.out.grown ((Below.refl _ w4).alloc (Nat.le_refl _) _)) (by omega) (fun W o' hW hr => HREC.out W _ _ o' hW HMax.out hr)
        rw [Int.natCast_add] at h
        exact h)
      have hnone : Hid (((q.map (·.2)).bind fun p => recsF b p (a3 + a4)) = none) := Lib.hid (by
        have h := HBD.out
        cases q with
        | none => rfl
        | some q => exact h)
      go_wp2_with (first
        | (refine wpList_build_v rfl 31 #[(0, .tmp 56), (1, .tmp 59), (2, .tmp 62), (3, .tmp 65), (4, .tmp 67), (5, .tmp 69)] rfl _ _ (BG.out _ _ _ _ _ _ _) rfl ?_; go_simp)
        | (refine wpList_alloc_z rfl 31 rfl zMsg ZM.out ?_; go_simp)
        | (refine wpList_store_new rfl 31 (.tmp 12) (.tmp 70) rfl w4.heap.size rfl zMsg _ 31 rfl rfl (SG.out _ _ _ _ _ _ _) (ZG.out _ _ _ _ _ _ _) (OG.out _ _ _ _ _ _ _) ?_; go_simp))
      refine (HCR.out _).mono ?_
      rintro e w6 ⟨v, rs, rfl, hrl, had, hown, _, hr6, hg6⟩
      rw [hnone.out] at hr6
      have hgm := (hg6.block w4.heap.size (by simp) (fun e => by injection e with e; omega)).trans (heap_alloc_last w4 _)
      have hs6 := hg6.size
      rw [World.size_alloc] at hs6
      have HM6 : Hid (w6.heap[w.heap.size]? = some (.cells zMsg 31 (0, 0))) := Lib.hid ((hg6.block w.heap.size (by simp; omega) (fun e => by injection e with e; omega)).trans ((Below.heap_alloc w4 _ _ (by omega)).trans ((HG4.out.block w.heap.size (by omega) (fun e => by injection e with e; omega)).trans HM2.out)))
      have HB6 : Hid (Below w.heap.size w w6) := Lib.hid ((HB4.out.alloc (by omega) _).grown hg6 (by simp; omega) (fun k e => by injection e with e; omega))
      have HR6 : Hid (RSt w.heap.size w6 (w.heap.size + 1) A c b none) := Lib.hid hr6
      have HGM := Lib.hid hgm
      have d7 := cell_of_row w6 w4.heap.size 7 _ _ _ hgm
      have f7 := frozen_of_row w6 w4.heap.size 7 _ _ hgm
      have d8 := cell_of_row w6 w4.heap.size 8 _ _ _ hgm
      have f8 := frozen_of_row w6 w4.heap.size 8 _ _ hgm
      unfold gMsg at d7 d8
      simp only [List.getElem?_toArray, List.getElem?_cons_succ, List.getElem?_cons_zero] at d7 d8
      have hv : (v = .slice none 0 0 ∧ a3 + a4 = 0) ∨ ∃ g2 cap, v = .slice (some ⟨g2, 0, none⟩) (a3 + a4) cap ∧ a3 + a4 ≤ cap ∧ cap ≤ maxLen := by
        rcases hown.2 with h | ⟨g2, cap, cur, hv, _, _, h1, h2, _⟩
        · exact .inl h
        · exact .inr ⟨g2, cap, hv, h1, h2⟩
      clear hgm hr6 hg6 hown hrl had HCR hnone HR4 HG4 HB4 HM2 HB2 HR2 BG ZG OG SG HREC HBD
      revert HGM d7 f7 d8 f8
      generalize gMsg _ _ _ _ _ _ _ = G
      generalize w4.heap.size = gm at hglt hs6 ⊢
      intro HGM d7 f7 d8 f8
      have H7 := Lib.hid (fun X Y => two_sets (gm := gm) X Y HR6.out HM6.out HB6.out (by omega) (by omega))
      have BZ := Lib.hid zeroBuilt
      have OZ := Lib.hid oneZ
      have SZ : Hid ((Tryd.prog.info? 31).map (·.size) = some zMsg.size) := Lib.hid sizeM
      clear HM6 HB6 HR6
      rcases hv with ⟨rfl, h0⟩ | ⟨g2, cap, rfl, hcap, hcm⟩
      · obtain ⟨rfl, rfl⟩ : a3 = 0 ∧ a4 = 0 := by omega
        go_wp2_with fail
        go_region
        obtain ⟨k1, k2, k3, k4⟩ := H7.out (.slice none 0 0) (.slice none 0 0)
        revert k1 k2 k3 k4
        generalize ((w6.setCell ⟨gm, 7, none⟩ (.slice none 0 0)).setCell ⟨gm, 8, none⟩ (.slice none 0 0)).drew = W7
        intro k1 k2 k3 k4
        have K1 := Lib.hid k1
        have K2 := Lib.hid k2
        clear k1 k2 d7 f7 d8 f8
        go_wp2_with (first
          | (refine wpList_build_v rfl 31 #[] rfl [] zMsg BZ.out rfl ?_; go_simp)
          | (refine wpList_store_blk rfl 31 (.tmp 2) (.tmp 94) rfl w.heap.size zMsg zMsg 31 K1.out rfl rfl SZ.out rfl OZ.out ?_; intro w8 hg8 hw8 hz8; go_simp))
        exact bodyPost_ret (results_cell_tmp rfl _ w8 w.heap.size 31 zMsg (0, 0) _ rfl hg8.out Tryd.underlying31 rfl SZ.out) rfl ⟨rfl, K2.out.grown hw8.out (by omega) (fun k e => by injection e with e; omega)⟩
      · unfold maxLen at hcm
        by_cases hc3 : cap = a3
        · subst hc3
          obtain rfl : a4 = 0 := by omega
          go_wp2_with fail
          go_region
          obtain ⟨k1, k2, k3, k4⟩ := H7.out (.slice (some ⟨g2, 0, none⟩) cap cap) (.slice (some ⟨g2, 0, none⟩) 0 0)
          revert k1 k2 k3 k4
          generalize ((w6.setCell ⟨gm, 7, none⟩ (.slice (some ⟨g2, 0, none⟩) cap cap)).setCell ⟨gm, 8, none⟩ (.slice (some ⟨g2, 0, none⟩) 0 0)).drew = W7
          intro k1 k2 k3 k4
          have K1 := Lib.hid k1
          have K2 := Lib.hid k2
          clear k1 k2 d7 f7 d8 f8
          go_wp2_with (first
            | (refine wpList_build_v rfl 31 #[] rfl [] zMsg BZ.out rfl ?_; go_simp)
            | (refine wpList_store_blk rfl 31 (.tmp 2) (.tmp 94) rfl w.heap.size zMsg zMsg 31 K1.out rfl rfl SZ.out rfl OZ.out ?_; intro w8 hg8 hw8 hz8; go_simp))
          exact bodyPost_ret (results_cell_tmp rfl _ w8 w.heap.size 31 zMsg (0, 0) _ rfl hg8.out Tryd.underlying31 rfl SZ.out) rfl ⟨rfl, K2.out.grown hw8.out (by omega) (fun k e => by injection e with e; omega)⟩
        · have hc3' : ¬ (cap : Int) = (a3 : Int) := by omega
          go_wp2_with fail
          go_region
          obtain ⟨k1, k2, k3, k4⟩ := H7.out (.slice (some ⟨g2, 0, none⟩) a3 a3) (.slice (some ⟨g2, a3 * 21, none⟩) a4 (cap - a3))
          revert k1 k2 k3 k4
          generalize ((w6.setCell ⟨gm, 7, none⟩ (.slice (some ⟨g2, 0, none⟩) a3 a3)).setCell ⟨gm, 8, none⟩ (.slice (some ⟨g2, a3 * 21, none⟩) a4 (cap - a3))).drew = W7
          intro k1 k2 k3 k4
          have K1 := Lib.hid k1
          have K2 := Lib.hid k2
          clear k1 k2 d7 f7 d8 f8
          go_wp2_with (first
            | (refine wpList_build_v rfl 31 #[] rfl [] zMsg BZ.out rfl ?_; go_simp)
            | (refine wpList_store_blk rfl 31 (.tmp 2) (.tmp 94) rfl w.heap.size zMsg zMsg 31 K1.out rfl rfl SZ.out rfl OZ.out ?_; intro w8 hg8 hw8 hz8; go_simp))
          exact bodyPost_ret (results_cell_tmp rfl _ w8 w.heap.size 31 zMsg (0, 0) _ rfl hg8.out Tryd.underlying31 rfl SZ.out) rfl ⟨rfl, K2.out.grown hw8.out (by omega) (fun k e => by injection e with e; omega)⟩
end Go.Proofs.YtakfokdjdljjjaaDoor
