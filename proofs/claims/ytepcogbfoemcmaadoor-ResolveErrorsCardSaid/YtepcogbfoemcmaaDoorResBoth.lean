/-
  The walks of resolve.Both and resolve.returns. Conditions: outcomes have no records; kinds are 1 to 5.
-/
import Derived.Test.YtepcogbfoemcmaaDoorResBase
namespace Go.Proofs.YtepcogbfoemcmaaDoor
open Go.RowKit

/-- what two outcomes come to -/
def bothO (a b : Oc) : Oc := if wt a.k < wt b.k then b else a
set_option maxRecDepth 100000 in
set_option maxHeartbeats 2000000 in
theorem both_e (x y : Oc) (hx1 : 1 ≤ x.k) (hx5 : x.k ≤ 5) (hy1 : 1 ≤ y.k) (hy5 : y.k ≤ 5) (w : World) : Calls Tryd.prog 34 #[.agg x.cells, .agg y.cells] w fun e w' => e = .returned (.agg (bothO x y).cells) ∧ Below w.heap.size w w' := by
  have HZ := Lib.hid zeroO
  have HS := Lib.hid (sizeO (bothO x y))
  have HE : Hid (zO.cells.size = (bothO x y).cells.size) := Lib.hid rfl
  have H1 := Lib.hid (bothO x y).one
  have HWX := Lib.hid (fun W => weight_e x.k hx1 hx5 W)
  have HWY := Lib.hid (fun W => weight_e y.k hy1 hy5 W)
  have HCX := Lib.hid (fun W => copied_e x W)
  have HCY := Lib.hid (fun W => copied_e y W)
  have HX2 : Hid (x.cells[2]? = some (.int .i64 x.k)) := Lib.hid rfl
  have HY2 : Hid (y.cells[2]? = some (.int .i64 y.k)) := Lib.hid rfl
  have HSX := Lib.hid (sizeO x)
  have HSY := Lib.hid (sizeO y)
  clear hx1 hx5 hy1 hy5
  have HEQ : Hid ((bothO x y).cells = if wt x.k < wt y.k then y.cells else x.cells) := Lib.hid (by unfold bothO; split <;> rfl)
  generalize (bothO x y).cells = R at HS HE H1 HEQ ⊢
  generalize x.cells = CX at HCX HX2 HSX HEQ ⊢
  generalize y.cells = CY at HCY HY2 HSY HEQ ⊢
  generalize wt x.k = wx at HWX HEQ
  generalize wt y.k = wy at HWY HEQ
  generalize x.k = kx at HWX HX2
  generalize y.k = ky at HWY HY2
  generalize zO.cells = Z at HZ HE
  have b1 := heap_alloc_last w (.cells CX 29)
  have b2 := heap_alloc_last (w.alloc (.cells CX 29)) (.cells CY 29)
  have b3 := heap_alloc_last ((w.alloc (.cells CX 29)).alloc (.cells CY 29)) (.cells Z 29)
  have l1 := (Below.refl _ w).alloc (Nat.le_refl _) (.cells CX 29)
  have l2 := (Below.refl _ (w.alloc (.cells CX 29))).alloc (Nat.le_refl _) (.cells CY 29)
  have l3 := (Below.refl _ ((w.alloc (.cells CX 29)).alloc (.cells CY 29))).alloc (Nat.le_refl _) (.cells Z 29)
  simp only [World.size_alloc] at b2 b3
  have HM1 := Lib.hid ((l3.block w.heap.size (by simp only [World.size_alloc]; omega)).trans ((l2.block w.heap.size (by simp only [World.size_alloc]; omega)).trans b1))
  have HM2 := Lib.hid ((l3.block (w.heap.size + 1) (by simp only [World.size_alloc]; omega)).trans b2)
  have HM3 := Lib.hid b3
  have HB := Lib.hid ((l1.trans (l2.mono l1.size)).trans (l3.mono (Nat.le_trans l1.size l2.size)))
  clear b1 b2 b3 l1 l2 l3
  go_enter Tryd.func34, Tryd.ntmps34
  go_upto_region 1 with (first
    | (refine wpList_alloc_z rfl 29 rfl Z HZ.out ?_; go_simp))
  clear HZ
  generalize ((w.alloc (.cells CX 29)).alloc (.cells CY 29)).alloc (.cells Z 29) = W0 at HB HM1 HM2 HM3 ⊢
  have d1 := (cell_of_row _ w.heap.size 2 _ _ _ HM1.out).trans HX2.out
  have d2 := (cell_of_row _ (w.heap.size + 1) 2 _ _ _ HM2.out).trans HY2.out
  by_cases hlt : wx < wy
  · rw [if_pos hlt] at HEQ
    obtain rfl : CY = R := HEQ.out.symm
    clear HEQ HCX HSX HX2
    go_quiet (first
      | (go_at_call 38; with_reducible refine Calls.quiet_of_same ((HWY.out _).mono fun _ _ h => ⟨h.1, h.2.symm⟩))
      | (go_at_call 38; with_reducible refine Calls.quiet_of_same ((HWX.out _).mono fun _ _ h => ⟨h.1, h.2.symm⟩)))
    rename_i nq
    have HN2 : Hid ((W0.drewN nq).heap[w.heap.size + 1]? = some (.cells CY 29 (0, 0))) := Lib.hid HM2.out
    have HN3 : Hid ((W0.drewN nq).heap[w.heap.size + 1 + 1]? = some (.cells Z 29 (0, 0))) := Lib.hid HM3.out
    have HNB : Hid (Below w.heap.size w (W0.drewN nq)) := Lib.hid (HB.out.trans ((below_drewN (Below.refl _ W0) nq).mono HB.out.size))
    clear HB HM1 HM2 HM3 d1 d2 hlt HWX HWY
    generalize W0.drewN nq = W1 at HN2 HN3 HNB ⊢
    go_wp2_with (refine wpList_load_row rfl 29 (.tmp 3) rfl (w.heap.size + 1) rfl 29 CY (0, 0) _ HN2.out Tryd.underlying29 rfl HSY.out ?_; go_simp)
    refine (HCY.out _).mono ?_
    rintro e w2 ⟨rfl, hb2⟩
    have HR3 := Lib.hid ((hb2.block _ (heap_lt HN3.out)).trans HN3.out)
    have HRB := Lib.hid (HNB.out.trans (hb2.mono HNB.out.size))
    clear hb2 HN2 HN3 HNB
    go_wp2_with (refine wpList_store_blk rfl 29 (.tmp 4) (.tmp 13) rfl (w.heap.size + 1 + 1) Z CY 29 HR3.out rfl rfl HS.out HE.out H1.out ?_; intro w9 hg9 hw9 hz9; go_simp)
    exact bodyPost_ret (results_cell_row rfl _ w9 (w.heap.size + 1 + 1) 29 CY (0, 0) _ rfl hg9.out Tryd.underlying29 rfl HS.out) rfl ⟨rfl, HRB.out.grown hw9.out HRB.out.size (fun k e => by injection e with e; omega)⟩
  · rw [if_neg hlt] at HEQ
    obtain rfl : CX = R := HEQ.out.symm
    clear HEQ HCY HSY HY2
    go_quiet (first
      | (go_at_call 38; with_reducible refine Calls.quiet_of_same ((HWY.out _).mono fun _ _ h => ⟨h.1, h.2.symm⟩))
      | (go_at_call 38; with_reducible refine Calls.quiet_of_same ((HWX.out _).mono fun _ _ h => ⟨h.1, h.2.symm⟩)))
    rename_i nq
    have HN2 : Hid ((W0.drewN nq).heap[w.heap.size]? = some (.cells CX 29 (0, 0))) := Lib.hid HM1.out
    have HN3 : Hid ((W0.drewN nq).heap[w.heap.size + 1 + 1]? = some (.cells Z 29 (0, 0))) := Lib.hid HM3.out
    have HNB : Hid (Below w.heap.size w (W0.drewN nq)) := Lib.hid (HB.out.trans ((below_drewN (Below.refl _ W0) nq).mono HB.out.size))
    clear HB HM1 HM2 HM3 d1 d2 hlt HWX HWY
    generalize W0.drewN nq = W1 at HN2 HN3 HNB ⊢
    go_wp2_with (refine wpList_load_row rfl 29 (.tmp 2) rfl (w.heap.size) rfl 29 CX (0, 0) _ HN2.out Tryd.underlying29 rfl HSX.out ?_; go_simp)
    refine (HCX.out _).mono ?_
    rintro e w2 ⟨rfl, hb2⟩
    have HR3 := Lib.hid ((hb2.block _ (heap_lt HN3.out)).trans HN3.out)
    have HRB := Lib.hid (HNB.out.trans (hb2.mono HNB.out.size))
    clear hb2 HN2 HN3 HNB
    go_wp2_with (refine wpList_store_blk rfl 29 (.tmp 4) (.tmp 15) rfl (w.heap.size + 1 + 1) Z CX 29 HR3.out rfl rfl HS.out HE.out H1.out ?_; intro w9 hg9 hw9 hz9; go_simp)
    exact bodyPost_ret (results_cell_row rfl _ w9 (w.heap.size + 1 + 1) 29 CX (0, 0) _ rfl hg9.out Tryd.underlying29 rfl HS.out) rfl ⟨rfl, HRB.out.grown hw9.out HRB.out.size (fun k e => by injection e with e; omega)⟩
/-- does a source return by an outcome of a kind? -/
structure Sr where
  k : Int
  r0 : Bool
  r1 : Bool
  r2 : Bool
  r3 : Bool
  r4 : Bool
def Sr.cells (s : Sr) : Array Value := #[.int .i64 s.k, .bool s.r0, .bool s.r1, .bool s.r2, .bool s.r3, .bool s.r4]
def retB (s : Sr) (k : Int) : Bool := if k = 1 then s.r1 else if k = 2 then s.r2 else if k = 3 then s.r3 else if k = 4 then s.r4 else s.r2
theorem sizeS6 : (Tryd.prog.info? 44).map (·.size) = some 6 := by kernel_rfl
theorem sizeS (s : Sr) : (Tryd.prog.info? 44).map (·.size) = some s.cells.size := sizeS6
set_option maxRecDepth 100000 in
theorem returns_e (s : Sr) (k : Int) (h1 : 1 ≤ k) (h5 : k ≤ 5) (w : World) : Calls Tryd.prog 39 #[.agg s.cells, .int .i64 k] w fun e w' => e = .returned (.bool (retB s k)) ∧ Below w.heap.size w w' := by
  obtain ⟨sk, r0, r1, r2, r3, r4⟩ := s
  have HB : Hid (Below w.heap.size w (w.alloc (.cells #[.int .i64 sk, .bool r0, .bool r1, .bool r2, .bool r3, .bool r4] 44))) := Lib.hid ((Below.refl _ w).alloc (Nat.le_refl _) _)
  unfold Sr.cells
  rcases (show k = 1 ∨ k = 2 ∨ k = 3 ∨ k = 4 ∨ k = 5 by omega) with rfl | rfl | rfl | rfl | rfl
  all_goals
    clear h1 h5
    go_enter Tryd.func39, Tryd.ntmps39
    go_wp2
    go_ret
    exact ⟨rfl, HB.out⟩
end Go.Proofs.YtepcogbfoemcmaaDoor
