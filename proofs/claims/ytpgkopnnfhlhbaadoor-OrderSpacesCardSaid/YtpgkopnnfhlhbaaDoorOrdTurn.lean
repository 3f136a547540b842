/-
  The walk of order's turn: the outcomes that return, turned by an action. Conditions: the library's variable MaxLen holds some number; the action is not too long.
-/
import Derived.Test.YtpgkopnnfhlhbaaDoorOrdMem
namespace Go.Proofs.YtpgkopnnfhlhbaaDoor
open Go.RowKit

/-- turned up to outcome o -/
def parR (r : Ret) (k : Nat) (ot v : Bool) (o : Nat) : Ret :=
  (if decide (1 < o) && (decide (1 = k) != ot) then v else r.1, if decide (2 < o) && (decide (2 = k) != ot) then v else r.2.1, if decide (3 < o) && (decide (3 = k) != ot) then v else r.2.2.1, if decide (4 < o) && (decide (4 = k) != ot) then v else r.2.2.2)
theorem parR_one (r : Ret) (k : Nat) (ot v : Bool) : parR r k ot v 1 = r := by simp [parR]
theorem parR_five (r : Ret) (k : Nat) (ot v : Bool) : parR r k ot v 5 = setR r k ot v := by simp [parR, setR]
theorem parR_keep {r : Ret} {k : Nat} {ot v : Bool} {o : Nat} (h1 : 1 ≤ o) (h4 : o < 5) (h : (decide (o = k) != ot) = false) : parR r k ot v (o + 1) = parR r k ot v o := by
  have : o = 1 ∨ o = 2 ∨ o = 3 ∨ o = 4 := by omega
  rcases this with rfl | rfl | rfl | rfl <;> simp [parR, h]
theorem parR_set {r : Ret} {k : Nat} {ot v : Bool} {o : Nat} (h1 : 1 ≤ o) (h4 : o < 5) (h : (decide (o = k) != ot) = true) : (retV (parR r k ot v o)).setIfInBounds o (.bool v) = retV (parR r k ot v (o + 1)) := by
  have : o = 1 ∨ o = 2 ∨ o = 3 ∨ o = 4 := by omega
  rcases this with rfl | rfl | rfl | rfl <;> simp [parR, h, retV]
/-- block g holds these outcomes, block q holds no more than was laid -/
structure TAt (w wr : World) (r : Ret) : Prop where
  below : Below w.heap.size w wr
  blk : wr.heap[w.heap.size]? = some (.cells (retV r) 28 (0, 0))
  res : wr.heap[w.heap.size + 1]? = some (.cells zR 28 (0, 0))
theorem TAt.new (w : World) (r : Ret) : TAt w ((w.alloc (.cells (retV r) 28)).alloc (.cells zR 28)) r := by
  have h1 : (w.alloc (.cells (retV r) 28)).heap.size = w.heap.size + 1 := World.size_alloc _ _
  have hb : Below (w.alloc (.cells (retV r) 28)).heap.size (w.alloc (.cells (retV r) 28)) ((w.alloc (.cells (retV r) 28)).alloc (.cells zR 28)) := (Below.refl _ _).alloc (Nat.le_refl _) _
  refine ⟨((Below.refl _ w).alloc (Nat.le_refl _) _).trans (hb.mono (by omega)), (hb.block _ (by omega)).trans (heap_alloc_last w _), ?_⟩
  rw [← h1]
  exact heap_alloc_last _ _
theorem TAt.draws {w wr : World} {r : Ret} (h : TAt w wr r) (q : Nat) : TAt w (wr.drewN q) r := ⟨below_drewQ h.below q, h.blk, h.res⟩
theorem TAt.put {w wr : World} {r : Ret} {k : Nat} {ot v : Bool} {o : Nat} (h : TAt w wr (parR r k ot v o)) (h1 : 1 ≤ o) (h4 : o < 5) (hc : (decide (o = k) != ot) = true) : TAt w (wr.setCell ⟨w.heap.size, o, none⟩ (.bool v)) (parR r k ot v (o + 1)) := by
  refine ⟨h.below.setCell (p := ⟨w.heap.size, o, none⟩) (Nat.le_refl _) _, ?_, ?_⟩
  · rw [← parR_set h1 h4 hc]; exact heap_setCell_same wr w.heap.size o _ _ _ h.blk
  · exact (Go.Deep.blk_setCell_other _ _ _ _ (fun e => by simp at e)).trans h.res
/-- what turn answers -/
def TnPost (w : World) (r : Ret) (a : List UInt8) (e : Ending) (w' : World) : Prop :=
  Below w.heap.size w w' ∧ ((turnA r a = none ∧ e = .returned (.tuple #[.agg zR, .bool false])) ∨ ∃ q, turnA r a = some q ∧ e = .returned (.tuple #[.agg (retV q), .bool true]))
theorem str_ne {y : ByteArray} {l : List UInt8} (h : ¬ y.data.toList = l) : (y.toList == l) = false := by
  rw [Lib.toList_data]; exact beq_eq_false_iff_ne.2 h
theorem str_eq {y : ByteArray} {l : List UInt8} (h : y.data.toList = l) : (y.toList == l) = true := by
  rw [Lib.toList_data, h]; exact beq_self_eq_true _
theorem TAt.cells {w wr : World} {r : Ret} (h : TAt w wr r) (o : Nat) (ho : o < 5) : (∃ u, wr.cell? ⟨w.heap.size, o, none⟩ = some u) ∧ wr.frozen? ⟨w.heap.size, o, none⟩ = false := by
  refine ⟨⟨(retV r)[o]'(by show o < 5; exact ho), ?_⟩, frozen_of_row wr w.heap.size o _ _ h.blk⟩
  rw [cell_of_row wr w.heap.size o _ _ (0, 0) h.blk, Array.getElem?_eq_getElem (by show o < 5; exact ho)]
theorem TAt.fin {w wr : World} {r : Ret} (h : TAt w wr r) : ∃ w', w' = wr.setRow (w.heap.size + 1) (retV r) ∧ w'.heap[w.heap.size + 1]? = some (.cells (retV r) 28 (0, 0)) ∧ Below w.heap.size w w' := by
  refine ⟨_, rfl, setRow_heap wr (w.heap.size + 1) zR (retV r) 28 (0, 0) h.res, h.below.grown (row := some (w.heap.size + 1)) ⟨rfl, rfl, rfl, by simp, fun k _ hk => setRow_other wr (w.heap.size + 1) k (retV r) (fun e => hk (by rw [e]))⟩ h.below.size (fun k hk => by injection hk with hk; omega)⟩
set_option maxRecDepth 100000 in
set_option maxHeartbeats 4000000 in
theorem turn_e (r : Ret) (s : ByteArray) (w : World) (he : Env w) (hs : s.size < 4294967281) : Calls Tryd.prog 28 #[.agg (retV r), .string s] w (TnPost w r s.data.toList) := by
  have hT0 := TAt.new w r
  obtain ⟨m1, hm1⟩ := (he.below hT0.below).2
  have hcut := Tryd.strings_Cut s ⟨#[61]⟩ m1 _ hs hm1
  rw [show (ByteArray.mk #[61]).data.toList = [61] from rfl] at hcut
  have hta : turnA r s.data.toList = if outW (Go.Lib.trimPrefix (Go.Lib.cut s.data.toList [61]).1 [33]) = 0 ∨ ¬ ((Go.Lib.cut s.data.toList [61]).2.1 = wRet ∨ (Go.Lib.cut s.data.toList [61]).2.1 = wCon) then none
    else some (setR r (outW (Go.Lib.trimPrefix (Go.Lib.cut s.data.toList [61]).1 [33])) (Go.Lib.hasPrefix (Go.Lib.cut s.data.toList [61]).1 [33]) (decide ((Go.Lib.cut s.data.toList [61]).2.1 = wRet))) := rfl
  have hw1 : (Go.Lib.cut s.data.toList [61]).1 = (ByteArray.mk (Go.Lib.cut s.data.toList [61]).1.toArray).data.toList := rfl
  have hw2 : (Go.Lib.cut s.data.toList [61]).2.1 = (ByteArray.mk (Go.Lib.cut s.data.toList [61]).2.1.toArray).data.toList := rfl
  rw [hw1, hw2] at hta
  clear hw1 hw2
  generalize (ByteArray.mk (Go.Lib.cut s.data.toList [61]).1.toArray) = c1 at hcut hta
  generalize (ByteArray.mk (Go.Lib.cut s.data.toList [61]).2.1.toArray) = D at hcut hta
  generalize (Go.Lib.cut s.data.toList [61]).2.2 = fnd at hcut
  have hcp := fun W => Tryd.strings_CutPrefix c1 ⟨#[33]⟩ W
  rw [show (ByteArray.mk #[33]).data.toList = [33] from rfl] at hcp
  have hw3 : Go.Lib.trimPrefix c1.data.toList [33] = (ByteArray.mk (Go.Lib.trimPrefix c1.data.toList [33]).toArray).data.toList := rfl
  rw [hw3] at hta
  clear hw3
  generalize (ByteArray.mk (Go.Lib.trimPrefix c1.data.toList [33]).toArray) = N at hcp hta
  generalize Go.Lib.hasPrefix c1.data.toList [33] = ot at hcp hta
  have hou := fun W => outcomeOf_e N W
  generalize outW N.data.toList = k at hou hta
  have HT := Lib.hid hT0
  have HTA := Lib.hid hta
  have HZ := Lib.hid zeroRet
  have HBz := Lib.hid builtZeroR
  have HCP := Lib.hid hcp
  have HOU := Lib.hid hou
  have HC := Lib.hid hcut
  clear hcp hta hT0 hou hcut
  have HSZ : Hid ((Tryd.prog.info? 28).map (·.size) = some zR.size) := Lib.hid sizeRet
  have H1 : Hid (zR.all (·.oneCell') = true) := Lib.hid zR_one
  by_cases hk : k = 0
  · have HT0 : Hid (turnA r s.data.toList = none) := Lib.hid (by rw [HTA.out, if_pos (.inl hk)])
    subst hk
    clear HTA
    obtain ⟨Z, hZ⟩ : ∃ Z, Z = zR := ⟨_, rfl⟩
    rw [← hZ] at HZ HBz HSZ H1
    have HZe := Lib.hid hZ
    clear hZ
    go_enter Tryd.func28, Tryd.ntmps28
    go_wp2_with (first
      | (refine wpList_alloc_z rfl 28 rfl Z HZ.out ?_; go_simp)
      | (go_at_call 22; rw [HZe.out]; refine HC.out.mono ?_; rintro e w2 ⟨rfl, q, hw2⟩; have HT2 : Hid (TAt w w2 r) := Lib.hid (by rw [hw2]; exact HT.out.draws q); clear hw2)
      | (go_at_call 35; refine (HCP.out _).mono ?_; rintro e w3 ⟨rfl, rfl⟩)
      | (go_at_call 36; refine (HOU.out _).mono ?_; rintro e w4 ⟨rfl, rfl⟩)
      | (refine wpList_build_z rfl 28 #[] rfl Z HBz.out ?_; go_simp)
      | (refine wpList_store_blk rfl 28 (.tmp 4) (.tmp 35) rfl (w.heap.size + 1) Z Z 28 (by rw [HZe.out]; exact HT2.out.res) rfl rfl HSZ.out rfl H1.out ?_; intro w8 hg8 hw8 hs8; go_simp))
    all_goals rw [HZe.out] at hg8
    exact bodyPost_ret (results_cell_tmp rfl _ w8 (w.heap.size + 1) 28 zR (0, 0) _ rfl hg8.out Tryd.underlying28 rfl sizeRet) rfl ⟨HT2.out.below.grown hw8.out HT2.out.below.size (fun k e => by injection e with e; omega), .inl ⟨HT0.out, by rw [HZe.out]; rfl⟩⟩
  by_cases hD : D.data.toList = wRet ∨ D.data.toList = wCon
  rotate_left
  · have HT0 : Hid (turnA r s.data.toList = none) := Lib.hid (by rw [HTA.out, if_pos (.inr hD)])
    have f1 := str_ne (y := D) (l := [114, 101, 116, 117, 114, 110]) (fun h => hD (.inl h))
    have f2 := str_ne (y := D) (l := [99, 111, 110, 116, 105, 110, 117, 101]) (fun h => hD (.inr h))
    have hkI : ¬ (k : Int) = 0 := by omega
    clear hD hk
    clear HTA
    obtain ⟨Z, hZ⟩ : ∃ Z, Z = zR := ⟨_, rfl⟩
    rw [← hZ] at HZ HBz HSZ H1
    have HZe := Lib.hid hZ
    clear hZ
    go_enter Tryd.func28, Tryd.ntmps28
    go_wp2_with (first
      | (refine wpList_alloc_z rfl 28 rfl Z HZ.out ?_; go_simp)
      | (go_at_call 22; rw [HZe.out]; refine HC.out.mono ?_; rintro e w2 ⟨rfl, q, hw2⟩; have HT2 : Hid (TAt w w2 r) := Lib.hid (by rw [hw2]; exact HT.out.draws q); clear hw2)
      | (go_at_call 35; refine (HCP.out _).mono ?_; rintro e w3 ⟨rfl, rfl⟩)
      | (go_at_call 36; refine (HOU.out _).mono ?_; rintro e w4 ⟨rfl, rfl⟩)
      | (refine wpList_build_z rfl 28 #[] rfl Z HBz.out ?_; go_simp)
      | (refine wpList_store_blk rfl 28 (.tmp 4) (.tmp 35) rfl (w.heap.size + 1) Z Z 28 (by rw [HZe.out]; exact HT2.out.res) rfl rfl HSZ.out rfl H1.out ?_; intro w8 hg8 hw8 hs8; go_simp))
    all_goals rw [HZe.out] at hg8
    exact bodyPost_ret (results_cell_tmp rfl _ w8 (w.heap.size + 1) 28 zR (0, 0) _ rfl hg8.out Tryd.underlying28 rfl sizeRet) rfl ⟨HT2.out.below.grown hw8.out HT2.out.below.size (fun k e => by injection e with e; omega), .inl ⟨HT0.out, by rw [HZe.out]; rfl⟩⟩
  have HSet : Hid (∀ v, decide (D.data.toList = wRet) = v → turnA r s.data.toList = some (setR r k ot v)) := Lib.hid (fun v hv => by rw [HTA.out, if_neg (by rintro (h | h); exact hk h; exact h hD), hv])
  obtain ⟨v, hv⟩ : ∃ v, decide (D.data.toList = wRet) = v := ⟨_, rfl⟩
  have HV := Lib.hid (HSet.out v hv)
  have hf : (D.toList == [114, 101, 116, 117, 114, 110]) = v ∧ (D.toList == [99, 111, 110, 116, 105, 110, 117, 101]) = !v := by
    rw [← hv]
    rcases hD with h | h
    · rw [decide_eq_true h]
      exact ⟨str_eq h, str_ne (by rw [h]; decide)⟩
    · rw [decide_eq_false (by rw [h]; decide)]
      exact ⟨str_ne (by rw [h]; decide), str_eq h⟩
  obtain ⟨f1, f2⟩ := hf
  have hkI : ¬ (k : Int) = 0 := by omega
  clear HTA HSet hv hD hk HBz
  obtain ⟨Z, hZ⟩ : ∃ Z, Z = zR := ⟨_, rfl⟩
  rw [← hZ] at HZ HSZ H1
  have HZe := Lib.hid hZ
  clear hZ
  obtain ⟨nv, hnv⟩ : ∃ nv, (!v) = nv := ⟨_, rfl⟩
  rw [hnv] at f2
  rcases (show (v = true ∧ nv = false) ∨ (v = false ∧ nv = true) by rw [← hnv]; cases v <;> simp) with ⟨rfl, rfl⟩ | ⟨rfl, rfl⟩
  · clear hnv
    go_enter Tryd.func28, Tryd.ntmps28
    go_wp2_with (first
      | (refine wpList_alloc_z rfl 28 rfl Z HZ.out ?_; go_simp)
      | (go_at_call 22; rw [HZe.out]; refine HC.out.mono ?_; rintro e w2 ⟨rfl, q, hw2⟩; have HT2 : Hid (TAt w w2 r) := Lib.hid (by rw [hw2]; exact HT.out.draws q); clear hw2)
      | (go_at_call 35; refine (HCP.out _).mono ?_; rintro e w3 ⟨rfl, rfl⟩)
      | (go_at_call 36; refine (HOU.out _).mono ?_; rintro e w4 ⟨rfl, rfl⟩))
    clear HC HCP HOU HZ
    go_loopg [11] 4 (fun gk i wr => ∃ o : Nat, i = .int .i64 o ∧ o + gk = 5 ∧ 1 ≤ o ∧ Hid (TAt w wr (parR r k ot true o)))
    case atStart => exact ⟨1, rfl, by omega, by omega, Lib.hid (by rw [parR_one]; exact HT2.out)⟩
    case round =>
      obtain ⟨o, rfl, hog, ho1, HTo⟩ := hrel
      by_cases ho5 : o < 5
      · obtain ⟨g2, rfl⟩ : ∃ g2, gk = g2 + 1 := ⟨gk - 1, by omega⟩
        have hoI : (o : Int) ≤ 4 := by omega
        obtain ⟨⟨u, hcu⟩, hfu⟩ := HTo.out.cells o ho5
        have o1I : (0 : Int) ≤ (o : Int) := by omega
        have o2I : (o : Int) < 5 := by omega
        by_cases hok : o = k
        · subst hok
          rcases (show ot = true ∨ ot = false by cases ot <;> simp) with rfl | rfl
          · have HK2 := Lib.hid (parR_keep (r := r) (v := true) ho1 ho5 (show (decide (o = o) != true) = false by rw [decide_eq_true rfl]; rfl))
            go_wp2
            go_roundg g2
            case measure => omega
            case rel => exact ⟨o + 1, by go_num, by omega, by omega, Lib.hid (by rw [HK2.out]; exact HTo.out)⟩
          · have HP2 := Lib.hid (HTo.out.put ho1 ho5 (show (decide (o = o) != false) = true by rw [decide_eq_true rfl]; rfl))
            go_wp2
            go_roundg g2
            case measure => omega
            case rel => exact ⟨o + 1, by go_num, by omega, by omega, HP2⟩
        · have hokI : ¬ (o : Int) = (k : Int) := by omega
          have hokB : ((o : Int) == (k : Int)) = false := by simp [hokI]
          rcases (show ot = true ∨ ot = false by cases ot <;> simp) with rfl | rfl
          · have HP2 := Lib.hid (HTo.out.put ho1 ho5 (show (decide (o = k) != true) = true by rw [decide_eq_false hok]; rfl))
            clear hok
            go_wp2
            go_roundg g2
            case measure => omega
            case rel => exact ⟨o + 1, by go_num, by omega, by omega, HP2⟩
          · have HK2 := Lib.hid (parR_keep (r := r) (v := true) ho1 ho5 (show (decide (o = k) != false) = false by rw [decide_eq_false hok]; rfl))
            clear hok
            go_wp2
            go_roundg g2
            case measure => omega
            case rel => exact ⟨o + 1, by go_num, by omega, by omega, Lib.hid (by rw [HK2.out]; exact HTo.out)⟩
      · obtain rfl : o = 5 := by omega
        have hT5 := HTo.out
        rw [parR_five] at hT5
        have HT5 := Lib.hid hT5
        obtain ⟨R, hR⟩ : ∃ R, R = retV (setR r k ot true) := ⟨_, rfl⟩
        have hblk := hT5.blk
        rw [← hR] at hblk
        have HRs : Hid ((Tryd.prog.info? 28).map (·.size) = some R.size) := Lib.hid (by rw [hR]; exact sizeRet)
        have HRz : Hid (Z.size = R.size) := Lib.hid (by rw [hR, HZe.out]; rfl)
        have HR1 : Hid (R.all (·.oneCell') = true) := Lib.hid (by rw [hR]; exact retV_one _)
        have HRe := Lib.hid hR
        have HRb := Lib.hid hblk
        have huR := Tryd.underlying28
        clear hT5 hR hblk
        go_wp2_with (first
          | (refine wpList_load_row rfl 28 (.tmp 2) rfl w.heap.size rfl 28 R (0, 0) _ HRb.out huR rfl HRs.out ?_; go_simp)
          | (refine wpList_store_blk rfl 28 (.tmp 4) (.tmp 49) rfl (w.heap.size + 1) Z R 28 (by rw [HZe.out]; exact HT5.out.res) rfl rfl HRs.out HRz.out HR1.out ?_; intro w8 hg8 hw8 hs8; clear hs8; go_simp))
        exact bodyPost_ret (results_cell_tmp rfl _ w8 (w.heap.size + 1) 28 R (0, 0) _ rfl hg8.out huR rfl HRs.out) rfl ⟨HT5.out.below.grown hw8.out HT5.out.below.size (fun k e => by injection e with e; omega), .inr ⟨_, HV.out, by rw [HRe.out]; rfl⟩⟩
  · clear hnv
    go_enter Tryd.func28, Tryd.ntmps28
    go_wp2_with (first
      | (refine wpList_alloc_z rfl 28 rfl Z HZ.out ?_; go_simp)
      | (go_at_call 22; rw [HZe.out]; refine HC.out.mono ?_; rintro e w2 ⟨rfl, q, hw2⟩; have HT2 : Hid (TAt w w2 r) := Lib.hid (by rw [hw2]; exact HT.out.draws q); clear hw2)
      | (go_at_call 35; refine (HCP.out _).mono ?_; rintro e w3 ⟨rfl, rfl⟩)
      | (go_at_call 36; refine (HOU.out _).mono ?_; rintro e w4 ⟨rfl, rfl⟩))
    clear HC HCP HOU HZ
    go_loopg [11] 4 (fun gk i wr => ∃ o : Nat, i = .int .i64 o ∧ o + gk = 5 ∧ 1 ≤ o ∧ Hid (TAt w wr (parR r k ot false o)))
    case atStart => exact ⟨1, rfl, by omega, by omega, Lib.hid (by rw [parR_one]; exact HT2.out)⟩
    case round =>
      obtain ⟨o, rfl, hog, ho1, HTo⟩ := hrel
      by_cases ho5 : o < 5
      · obtain ⟨g2, rfl⟩ : ∃ g2, gk = g2 + 1 := ⟨gk - 1, by omega⟩
        have hoI : (o : Int) ≤ 4 := by omega
        obtain ⟨⟨u, hcu⟩, hfu⟩ := HTo.out.cells o ho5
        have o1I : (0 : Int) ≤ (o : Int) := by omega
        have o2I : (o : Int) < 5 := by omega
        by_cases hok : o = k
        · subst hok
          rcases (show ot = true ∨ ot = false by cases ot <;> simp) with rfl | rfl
          · have HK2 := Lib.hid (parR_keep (r := r) (v := false) ho1 ho5 (show (decide (o = o) != true) = false by rw [decide_eq_true rfl]; rfl))
            go_wp2
            go_roundg g2
            case measure => omega
            case rel => exact ⟨o + 1, by go_num, by omega, by omega, Lib.hid (by rw [HK2.out]; exact HTo.out)⟩
          · have HP2 := Lib.hid (HTo.out.put ho1 ho5 (show (decide (o = o) != false) = true by rw [decide_eq_true rfl]; rfl))
            go_wp2
            go_roundg g2
            case measure => omega
            case rel => exact ⟨o + 1, by go_num, by omega, by omega, HP2⟩
        · have hokI : ¬ (o : Int) = (k : Int) := by omega
          have hokB : ((o : Int) == (k : Int)) = false := by simp [hokI]
          rcases (show ot = true ∨ ot = false by cases ot <;> simp) with rfl | rfl
          · have HP2 := Lib.hid (HTo.out.put ho1 ho5 (show (decide (o = k) != true) = true by rw [decide_eq_false hok]; rfl))
            clear hok
            go_wp2
            go_roundg g2
            case measure => omega
            case rel => exact ⟨o + 1, by go_num, by omega, by omega, HP2⟩
          · have HK2 := Lib.hid (parR_keep (r := r) (v := false) ho1 ho5 (show (decide (o = k) != false) = false by rw [decide_eq_false hok]; rfl))
            clear hok
            go_wp2
            go_roundg g2
            case measure => omega
            case rel => exact ⟨o + 1, by go_num, by omega, by omega, Lib.hid (by rw [HK2.out]; exact HTo.out)⟩
      · obtain rfl : o = 5 := by omega
        have hT5 := HTo.out
        rw [parR_five] at hT5
        have HT5 := Lib.hid hT5
        obtain ⟨R, hR⟩ : ∃ R, R = retV (setR r k ot false) := ⟨_, rfl⟩
        have hblk := hT5.blk
        rw [← hR] at hblk
        have HRs : Hid ((Tryd.prog.info? 28).map (·.size) = some R.size) := Lib.hid (by rw [hR]; exact sizeRet)
        have HRz : Hid (Z.size = R.size) := Lib.hid (by rw [hR, HZe.out]; rfl)
        have HR1 : Hid (R.all (·.oneCell') = true) := Lib.hid (by rw [hR]; exact retV_one _)
        have HRe := Lib.hid hR
        have HRb := Lib.hid hblk
        have huR := Tryd.underlying28
        clear hT5 hR hblk
        go_wp2_with (first
          | (refine wpList_load_row rfl 28 (.tmp 2) rfl w.heap.size rfl 28 R (0, 0) _ HRb.out huR rfl HRs.out ?_; go_simp)
          | (refine wpList_store_blk rfl 28 (.tmp 4) (.tmp 49) rfl (w.heap.size + 1) Z R 28 (by rw [HZe.out]; exact HT5.out.res) rfl rfl HRs.out HRz.out HR1.out ?_; intro w8 hg8 hw8 hs8; clear hs8; go_simp))
        exact bodyPost_ret (results_cell_tmp rfl _ w8 (w.heap.size + 1) 28 R (0, 0) _ rfl hg8.out huR rfl HRs.out) rfl ⟨HT5.out.below.grown hw8.out HT5.out.below.size (fun k e => by injection e with e; omega), .inr ⟨_, HV.out, by rw [HRe.out]; rfl⟩⟩
end Go.Proofs.YtpgkopnnfhlhbaaDoor
