/-
  The walks of package rank's small functions: has, number, compareTruths, compareScopes. Conditions: each states its own.
-/
import Derived.Test.YtoaedlllnkcfnaaDoorRankBase
namespace Go.Proofs.YtoaedlllnkcfnaaDoor
open Go.RowKit

theorem number_e (b : Bool) (w : World) : Calls Tryd.prog 27 #[.bool b] w fun e w' => e = .returned (.int .i64 (if b = true then 1 else 0)) ∧ Below w.heap.size w w' := by
  go_enter Tryd.func27, Tryd.ntmps27
  cases b <;> (go_wp2; go_ret; exact ⟨rfl, Below.refl _ _⟩)
/-- 'cmp.Compare' of two numbers of which one is of two truths -/
def cmpT (x y : Bool) : Int := if x = y then 0 else if x = true then 1 else -1
theorem cmpT_e (x y : Bool) (w : World) : Calls Tryd.prog 37 #[.bool x, .bool y] w fun e w' => e = .returned (.int .i64 (cmpT x y)) ∧ Below w.heap.size w w' := by
  have h1 := fun W => number_e x W
  have h2 := fun W => number_e y W
  have h3 := fun W => Tryd.cmp_Compare_int (if x = true then 1 else 0) (if y = true then 1 else 0) W
  have h4 : cmpT x y = Lib.compareInt (if x = true then 1 else 0) (if y = true then 1 else 0) := by cases x <;> cases y <;> rfl
  rw [h4]
  generalize (if x = true then (1 : Int) else 0) = X at *
  generalize (if y = true then (1 : Int) else 0) = Y at *
  go_enter Tryd.func37, Tryd.ntmps37
  go_wp2_with fail
  refine (h1 _).mono ?_
  rintro e w1 ⟨rfl, hb1⟩
  have HB1 := Lib.hid hb1
  clear hb1 h1
  go_wp2_with fail
  refine (h2 _).mono ?_
  rintro e w2 ⟨rfl, hb2⟩
  have HB2 := Lib.hid (HB1.out.trans (hb2.mono HB1.out.size))
  clear hb2 h2
  go_wp2_with fail
  refine (h3 _).mono ?_
  rintro e w3 ⟨rfl, hw3⟩
  go_wp2
  go_ret
  subst hw3
  exact ⟨rfl, HB2.out⟩
/-- of two scopes the better one to reach a third one -/
def cmpS (x y t : Int) : Int := if min x y < t then Lib.compareInt x y else Lib.compareInt y x
theorem cmpS_e (x y t : Int) (w : World) : Calls Tryd.prog 38 #[.int .i64 x, .int .i64 y, .int .i64 t] w fun e w' => e = .returned (.int .i64 (cmpS x y t)) ∧ Below w.heap.size w w' := by
  have h1 := fun W => Tryd.cmp_Compare_int x y W
  have h2 := fun W => Tryd.cmp_Compare_int y x W
  obtain ⟨M, hM⟩ : ∃ M, min x y = M := ⟨_, rfl⟩
  have hS : cmpS x y t = if M < t then Lib.compareInt x y else Lib.compareInt y x := by unfold cmpS; rw [hM]
  rw [hS]
  generalize Lib.compareInt x y = X at *
  generalize Lib.compareInt y x = Y at *
  clear hS
  go_enter Tryd.func38, Tryd.ntmps38
  by_cases hlt : M < t
  · rw [if_pos hlt]
    go_wp2_with fail
    refine (h1 _).mono ?_
    rintro e w3 ⟨rfl, hw3⟩
    go_wp2
    go_ret
    subst hw3
    exact ⟨rfl, Below.refl _ _⟩
  · rw [if_neg hlt]
    go_wp2_with fail
    refine (h2 _).mono ?_
    rintro e w3 ⟨rfl, hw3⟩
    go_wp2
    go_ret
    subst hw3
    exact ⟨rfl, Below.refl _ _⟩
theorem has_e (b : List UInt8) (hb : b.length = 16) (n : Nat) (a : List UInt8) (ha : a.length = 16) (w : World) :
    Calls Tryd.prog 25 #[.agg (bvs b ++ [Value.int .i64 n]).toArray, .agg (bvs a).toArray] w fun e w' => e = .returned (.bool (decide (n ≤ sh a b))) ∧ Below w.heap.size w w' := by
  have C := fun W => shared_e a b ha hb W
  obtain ⟨s, hs⟩ : ∃ s, sh a b = s := ⟨_, rfl⟩
  rw [hs] at C ⊢
  have hS1 := sizeBv ha
  have hS2 := sizeBv hb
  rw [List.size_toArray] at hS1 hS2
  obtain ⟨c1, hc1⟩ : ∃ c, c = bvs a := ⟨_, rfl⟩
  obtain ⟨c2, hc2⟩ : ∃ c, c = bvs b := ⟨_, rfl⟩
  obtain ⟨c3, hc3⟩ : ∃ c, c = (bvs b ++ [Value.int .i64 n]).toArray := ⟨_, rfl⟩
  rw [← hc1, ← hc2] at C
  rw [← hc1] at hS1
  rw [← hc2] at hS2
  rw [← hc1, ← hc3]
  have hL2 : c2.length = 16 := by rw [hc2, bvs_length, hb]
  have k3 : ∀ j v, c2[j]? = some v → c3[j]? = some v := fun j v h => by
    rw [hc3, List.getElem?_toArray, List.getElem?_append_left (by have := (List.getElem?_eq_some_iff.1 h).1; rw [hc2] at this; exact this)]
    rw [hc2] at h; exact h
  have k4 : c3[16]? = some (.int .i64 n) := by
    rw [hc3, List.getElem?_toArray, List.getElem?_append_right (by rw [bvs_length, hb]; omega), bvs_length, hb]; rfl
  clear hc1 hc2 hc3
  have hu := Tryd.underlying27
  have r1 : ((w.alloc (.cells c3 54)).alloc (.cells c1.toArray 27)).rangeAt (w.heap.size + 1) 0 c1 := fun j v hj => by
    rw [Nat.zero_add, ← World.size_alloc w (.cells c3 54), World.cell?_alloc_mark]; simpa using hj
  have hw1 : ((w.alloc (.cells c3 54)).alloc (.cells c1.toArray 27)).heap[w.heap.size]? = some (.cells c3 54 (0, 0)) := heap_alloc2_old _ _ _
  have r2 : ((w.alloc (.cells c3 54)).alloc (.cells c1.toArray 27)).rangeAt w.heap.size 0 c2 := fun j v hj => by
    rw [Nat.zero_add, cell_of_row _ _ _ _ _ _ hw1]; exact k3 j v hj
  have r3 : ((w.alloc (.cells c3 54)).alloc (.cells c1.toArray 27)).cell? ⟨w.heap.size, 16, none⟩ = some (.int .i64 n) := by
    rw [cell_of_row _ _ _ _ _ _ hw1]; exact k4
  have hB0 : Below w.heap.size w ((w.alloc (.cells c3 54)).alloc (.cells c1.toArray 27)) := ((Below.refl _ w).alloc (Nat.le_refl _) _).alloc (by rw [World.size_alloc]; omega) _
  have hsz : w.heap.size + 2 ≤ ((w.alloc (.cells c3 54)).alloc (.cells c1.toArray 27)).heap.size := by rw [World.size_alloc, World.size_alloc]; exact Nat.le_refl _
  have HB0 := Lib.hid hB0
  have HSZ := Lib.hid hsz
  have HC := Lib.hid C
  clear k3 k4 hw1 hB0 hsz C
  go_enter Tryd.func25, Tryd.ntmps25
  go_wp2_with fail
  generalize (w.alloc (.cells c3 54)).alloc (.cells c1.toArray 27) = w2 at r1 r2 r3 HB0 HSZ ⊢
  have R1 := Lib.hid (fun (W : World) (hb : Below w2.heap.size w2 W) => (fun j v hj => (hb.cell (p := ⟨w.heap.size + 1, 0 + j, none⟩) (by show w.heap.size + 1 < _; have := HSZ.out; omega)).trans (r1 j v hj) : W.rangeAt (w.heap.size + 1) 0 c1))
  have R2 := Lib.hid (fun (W : World) (hb : Below w2.heap.size w2 W) => (fun j v hj => (hb.cell (p := ⟨w.heap.size, 0 + j, none⟩) (by show w.heap.size < _; have := HSZ.out; omega)).trans (r2 j v hj) : W.rangeAt w.heap.size 0 c2))
  have R3 := Lib.hid (fun (W : World) (hb : Below w2.heap.size w2 W) => (hb.cell (p := ⟨w.heap.size, 16, none⟩) (by show w.heap.size < _; have := HSZ.out; omega)).trans r3)
  clear r1 r2 r3
  refine wp_region_held_drew (S := (fun W : World => Below w2.heap.size w2 W)) (by kernel_rfl) (Below.refl _ w2).drew (fun hHeld => ?_)
  refine wpAnyH_take (i := 0) (oi := ({ dst := some 5, op := Go.Op.load 27 (Go.Operand.tmp 3), type := 27, pos := "rank.go:26", after := #[], guard := none } : Oper)) (v := .agg (c1).toArray) rfl (by kernel_rfl) (by kernel_rfl) (by kernel_rfl) (fun _ _ _ h => h) (yieldsIf_load_mid (by rfl) _ _ rfl _ _ rfl _ _ (fun W h => R1.out W h) hu rfl hS1) hHeld ?_
  simp only [Act.put, List.setIfInBounds_toArray, List.set_cons_zero, List.set_cons_succ]
  refine wpAnyH_take (i := 1) (oi := ({ dst := some 6, op := Go.Op.fieldAddr 54 (Go.Operand.tmp 2) 0, type := 0, pos := "rank.go:26", after := #[], guard := none } : Oper)) (v := .pointer (some ⟨w.heap.size, 0, none⟩)) rfl (by kernel_rfl) (by kernel_rfl) (by kernel_rfl) (fun _ _ _ h => h) (Or.inl ⟨by rfl, fun w' _ => ?_⟩) hHeld ?_
  · go_simp
  simp only [Act.put, List.setIfInBounds_toArray, List.set_cons_zero, List.set_cons_succ]
  refine wpAnyH_take (i := 2) (oi := ({ dst := some 7, op := Go.Op.load 27 (Go.Operand.tmp 6), type := 27, pos := "rank.go:26", after := #[{ on := 1, ground := Go.Ground.data }], guard := none } : Oper)) (v := .agg (c2).toArray) rfl (by kernel_rfl) (by kernel_rfl) (by kernel_rfl) (fun _ _ _ h => h) (yieldsIf_load_mid (by rfl) _ _ rfl _ _ rfl _ _ (fun W h => R2.out W h) hu rfl hS2) hHeld ?_
  simp only [Act.put, List.setIfInBounds_toArray, List.set_cons_zero, List.set_cons_succ]
  refine wpAnyH_take (i := 4) (oi := ({ dst := some 9, op := Go.Op.fieldAddr 54 (Go.Operand.tmp 2) 1, type := 0, pos := "rank.go:26", after := #[], guard := none } : Oper)) (v := .pointer (some ⟨w.heap.size, 16, none⟩)) rfl (by kernel_rfl) (by kernel_rfl) (by kernel_rfl) (fun _ _ _ h => h) (Or.inl ⟨by rfl, fun w' _ => ?_⟩) hHeld ?_
  · go_simp
  simp only [Act.put, List.setIfInBounds_toArray, List.set_cons_zero, List.set_cons_succ]
  refine wpAnyH_take (i := 5) (oi := ({ dst := some 10, op := Go.Op.load 3 (Go.Operand.tmp 9), type := 3, pos := "rank.go:26", after := #[{ on := 4, ground := Go.Ground.data }], guard := none } : Oper)) (v := .int .i64 n) rfl (by kernel_rfl) (by kernel_rfl) (by kernel_rfl) (fun _ _ _ h => h) (Or.inl ⟨by rfl, fun w' hS' => ?_⟩) hHeld ?_
  · have hcell := R3.out _ hS'
    go_simp
  simp only [Act.put, List.setIfInBounds_toArray, List.set_cons_zero, List.set_cons_succ]
  refine wpAnyH_ready (rs := [3]) (by kernel_rfl) (by simp) ?_
  refine AllReadyH.cons (o := ({ dst := some 8, op := Go.Op.call { callee := Go.Callee.value (Go.Operand.func 29), args := #[Go.Operand.tmp 5, Go.Operand.tmp 7], argTypes := #[27, 27] }, type := 3, pos := "rank.go:26", after := #[{ on := 0, ground := Go.Ground.data }, { on := 2, ground := Go.Ground.data }], guard := none } : Oper)) rfl (fun K hK => ?_) AllReadyH.nil
  go_simp
  go_at_call 29
  refine (HC.out _).mono ?_
  rintro e' wc ⟨rfl, hbc⟩
  refine hK.out _ _ (Below.trans hHeld (Below.mono hbc (Below.size hHeld))) (fun hHeld' => ?_)
  clear hK K hbc
  try clear hHeld
  try simp only [Act.put, List.setIfInBounds_toArray, List.set_cons_zero, List.set_cons_succ]
  refine wpAnyH_take (i := 6) (oi := ({ dst := some 11, op := Go.Op.binOp Go.BinOp.geq 3 (Go.Operand.tmp 8) (Go.Operand.tmp 10) 3, type := 4, pos := "rank.go:26", after := #[{ on := 3, ground := Go.Ground.data }, { on := 5, ground := Go.Ground.data }], guard := none } : Oper)) (v := .bool (decide (n ≤ s))) rfl (by kernel_rfl) (by kernel_rfl) (by kernel_rfl) (fun _ _ _ h => h) (Or.inl ⟨by rfl, fun w' _ => ?_⟩) hHeld' ?_
  · go_simp
  simp only [Act.put, List.setIfInBounds_toArray, List.set_cons_zero, List.set_cons_succ]
  refine wpAnyH_take (i := 7) (oi := ({ dst := some 4, op := Go.Op.assign (Go.Operand.tmp 11), type := 4, pos := "rank.go:26", after := #[{ on := 6, ground := Go.Ground.data }, { on := 3, ground := Go.Ground.chain }, { on := 0, ground := Go.Ground.phase }, { on := 1, ground := Go.Ground.phase }, { on := 2, ground := Go.Ground.phase }, { on := 3, ground := Go.Ground.phase }, { on := 4, ground := Go.Ground.phase }, { on := 5, ground := Go.Ground.phase }, { on := 6, ground := Go.Ground.phase }], guard := none } : Oper)) (v := .bool (decide (n ≤ s))) rfl (by kernel_rfl) (by kernel_rfl) (by kernel_rfl) (fun _ _ _ h => h) (Or.inl ⟨by rfl, fun w' _ => ?_⟩) hHeld' ?_
  · go_simp
  simp only [Act.put, List.setIfInBounds_toArray, List.set_cons_zero, List.set_cons_succ]
  refine wpAnyH_done (by kernel_rfl) ?_ _
  go_wp2
  go_ret
  exact ⟨rfl, HB0.out.trans (Below.mono hHeld' HB0.out.size)⟩
end Go.Proofs.YtoaedlllnkcfnaaDoor
