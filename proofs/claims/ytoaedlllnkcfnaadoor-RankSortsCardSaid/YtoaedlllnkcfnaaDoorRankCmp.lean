/-
  The walk of rank.compare. Condition: the two tables hold what their initialisers lay.
-/
import Derived.Test.YtoaedlllnkcfnaaDoorRankLab
import Derived.Deep.RegionHeld3
namespace Go.Proofs.YtoaedlllnkcfnaaDoor
open Go.RowKit

/-- 'compare' of two local addresses -/
def cmpL (x y : LV) (t : List UInt8) : Int := firstNZ [cmpT (x.addr == t) (y.addr == t), cmpS (scopeR x.addr) (scopeR y.addr) (scopeR t), cmpT (!x.dep) (!y.dep), cmpT x.home y.home, cmpT (decide (PL x.addr = PL t)) (decide (PL y.addr = PL t)), Lib.compareInt (sh x.addr t) (sh y.addr t)]
theorem or_b (a b c d e f : Int) (W : World) :
    Calls Tryd.prog 36 #[.slice (some ⟨W.heap.size, 0, none⟩) 6 6] (W.alloc (.cells #[.int .i64 a, .int .i64 b, .int .i64 c, .int .i64 d, .int .i64 e, .int .i64 f] 3)) fun e' w' => e' = .returned (.int .i64 (firstNZ [a, b, c, d, e, f])) ∧ Below (W.alloc (.cells #[.int .i64 a, .int .i64 b, .int .i64 c, .int .i64 d, .int .i64 e, .int .i64 f] 3)).heap.size (W.alloc (.cells #[.int .i64 a, .int .i64 b, .int .i64 c, .int .i64 d, .int .i64 e, .int .i64 f] 3)) w' := by
  have := or_e [a, b, c, d, e, f] W.heap.size (W.alloc (.cells #[.int .i64 a, .int .i64 b, .int .i64 c, .int .i64 d, .int .i64 e, .int .i64 f] 3)) (fun j v hj => by
    rw [Nat.zero_add, World.cell?_alloc_mark]; simpa using hj) (by simp)
  refine this.mono ?_
  rintro e' w' ⟨rfl, rfl⟩
  exact ⟨rfl, Below.refl _ _⟩
set_option maxRecDepth 100000 in
set_option maxHeartbeats 4000000 in
theorem compare_e (x0 y0 : LV) (t0 : List UInt8) (hx : x0.addr.length = 16) (hy : y0.addr.length = 16) (ht : t0.length = 16) (w : World) (he : REnv w) :
    Calls Tryd.prog 30 #[.agg x0.cells.toArray, .agg y0.cells.toArray, .agg (bvs t0).toArray] w fun e w' => e = .returned (.int .i64 (cmpL x0 y0 t0)) ∧ Below w.heap.size w w' := by
  have hSx := sizeBv hx
  have hSy := sizeBv hy
  have hSt := sizeBv ht
  rw [List.size_toArray] at hSx hSy hSt
  have hu := Tryd.underlying27
  have hq1 : ∀ W : World, (Op.equalIn 10000 27 (.agg (bvs x0.addr).toArray) (.agg (bvs t0).toArray)).run Tryd.prog W = .ok (x0.addr == t0) W := fun W => eq_addr 9998 W hx ht
  have hq2 : ∀ W : World, (Op.equalIn 10000 27 (.agg (bvs y0.addr).toArray) (.agg (bvs t0).toArray)).run Tryd.prog W = .ok (y0.addr == t0) W := fun W => eq_addr 9998 W hy ht
  have cX := fun W (h : REnv W) => scope_e x0.addr hx W h
  have cY := fun W (h : REnv W) => scope_e y0.addr hy W h
  have cT := fun W (h : REnv W) => scope_e t0 ht W h
  have lX := fun W (h : REnv W) => labelled_e x0.addr t0 hx ht W h
  have lY := fun W (h : REnv W) => labelled_e y0.addr t0 hy ht W h
  have sX := fun W => shared_e x0.addr t0 hx ht W
  have sY := fun W => shared_e y0.addr t0 hy ht W
  obtain ⟨kx, kxd, kxh⟩ := LV.has hx
  obtain ⟨ky, kyd, kyh⟩ := LV.has hy
  unfold cmpL
  generalize scopeR x0.addr = sx at *
  generalize scopeR y0.addr = sy at *
  generalize scopeR t0 = st at *
  generalize decide (PL x0.addr = PL t0) = lx at *
  generalize decide (PL y0.addr = PL t0) = ly at *
  generalize sh x0.addr t0 = px at *
  generalize sh y0.addr t0 = py at *
  generalize (x0.addr == t0) = e1 at *
  generalize (y0.addr == t0) = e2 at *
  generalize x0.dep = xd at *
  generalize x0.home = xh at *
  generalize y0.dep = yd at *
  generalize y0.home = yh at *
  generalize x0.cells = xc at *
  generalize y0.cells = yc at *
  generalize bvs x0.addr = x at *
  generalize bvs y0.addr = y at *
  generalize bvs t0 = t at *
  obtain ⟨w2, hw2⟩ : ∃ w2, w2 = ((w.alloc (.cells xc.toArray 42)).alloc (.cells yc.toArray 42)).alloc (.cells t.toArray 27) := ⟨_, rfl⟩
  have hz2 : w2.heap.size = w.heap.size + 3 := by rw [hw2, World.size_alloc, World.size_alloc, World.size_alloc]
  have b1 : w2.heap[w.heap.size]? = some (.cells xc.toArray 42 (0, 0)) := by
    rw [hw2, heap_alloc_old' _ _ (by rw [World.size_alloc, World.size_alloc]; omega)]; exact heap_alloc2_old _ _ _
  have b2 : w2.heap[w.heap.size + 1]? = some (.cells yc.toArray 42 (0, 0)) := by
    rw [hw2, heap_alloc_old' _ _ (by rw [World.size_alloc, World.size_alloc]; omega)]; exact heap_alloc2_new _ _ _
  have b3 : w2.heap[w.heap.size + 2]? = some (.cells t.toArray 27 (0, 0)) := by
    rw [hw2, show w.heap.size + 2 = ((w.alloc (.cells xc.toArray 42)).alloc (.cells yc.toArray 42)).heap.size by rw [World.size_alloc, World.size_alloc]]; exact heap_alloc_last _ _
  have hb2 : Below w.heap.size w w2 := by
    rw [hw2]
    exact (((Below.refl _ w).alloc (Nat.le_refl _) _).alloc (by rw [World.size_alloc]; omega) _).alloc (by rw [World.size_alloc, World.size_alloc]; omega) _
  have hE := he.below hb2
  have RX := Lib.hid (fun (W : World) (hb : Below w2.heap.size w2 W) => (fun j v hj => by rw [Nat.zero_add, hb.cell (p := ⟨w.heap.size, j, none⟩) (by show w.heap.size < _; omega), cell_of_row _ _ _ _ _ _ b1, List.getElem?_toArray]; exact kx j v hj : W.rangeAt w.heap.size 0 x))
  have RY := Lib.hid (fun (W : World) (hb : Below w2.heap.size w2 W) => (fun j v hj => by rw [Nat.zero_add, hb.cell (p := ⟨w.heap.size + 1, j, none⟩) (by show w.heap.size + 1 < _; omega), cell_of_row _ _ _ _ _ _ b2, List.getElem?_toArray]; exact ky j v hj : W.rangeAt (w.heap.size + 1) 0 y))
  have RT := Lib.hid (fun (W : World) (hb : Below w2.heap.size w2 W) => (fun j v hj => by rw [Nat.zero_add, hb.cell (p := ⟨w.heap.size + 2, j, none⟩) (by show w.heap.size + 2 < _; omega), cell_of_row _ _ _ _ _ _ b3, List.getElem?_toArray]; exact hj : W.rangeAt (w.heap.size + 2) 0 t))
  have DX := Lib.hid (fun (W : World) (hb : Below w2.heap.size w2 W) => (by rw [hb.cell (p := ⟨w.heap.size, 16, none⟩) (by show w.heap.size < _; omega), cell_of_row _ _ _ _ _ _ b1, List.getElem?_toArray]; exact kxd : W.cell? ⟨w.heap.size, 16, none⟩ = some (.bool xd)))
  have HHX := Lib.hid (fun (W : World) (hb : Below w2.heap.size w2 W) => (by rw [hb.cell (p := ⟨w.heap.size, 17, none⟩) (by show w.heap.size < _; omega), cell_of_row _ _ _ _ _ _ b1, List.getElem?_toArray]; exact kxh : W.cell? ⟨w.heap.size, 17, none⟩ = some (.bool xh)))
  have DY := Lib.hid (fun (W : World) (hb : Below w2.heap.size w2 W) => (by rw [hb.cell (p := ⟨w.heap.size + 1, 16, none⟩) (by show w.heap.size + 1 < _; omega), cell_of_row _ _ _ _ _ _ b2, List.getElem?_toArray]; exact kyd : W.cell? ⟨w.heap.size + 1, 16, none⟩ = some (.bool yd)))
  have HHY := Lib.hid (fun (W : World) (hb : Below w2.heap.size w2 W) => (by rw [hb.cell (p := ⟨w.heap.size + 1, 17, none⟩) (by show w.heap.size + 1 < _; omega), cell_of_row _ _ _ _ _ _ b2, List.getElem?_toArray]; exact kyh : W.cell? ⟨w.heap.size + 1, 17, none⟩ = some (.bool yh)))
  have HX := Lib.hid (fun (W : World) (hb : Below w2.heap.size w2 W) => cX W (hE.below hb))
  have HY := Lib.hid (fun (W : World) (hb : Below w2.heap.size w2 W) => cY W (hE.below hb))
  have HT := Lib.hid (fun (W : World) (hb : Below w2.heap.size w2 W) => cT W (hE.below hb))
  have LX := Lib.hid (fun (W : World) (hb : Below w2.heap.size w2 W) => lX W (hE.below hb))
  have LY := Lib.hid (fun (W : World) (hb : Below w2.heap.size w2 W) => lY W (hE.below hb))
  have SX := Lib.hid sX
  have SY := Lib.hid sY
  have CI := Lib.hid (fun (W : World) => (Tryd.cmp_Compare_int (px : Int) (py : Int) W).mono (R' := fun e w' => e = .returned (.int .i64 (Lib.compareInt px py)) ∧ Below W.heap.size W w') (by rintro e w' ⟨rfl, rfl⟩; exact ⟨rfl, Below.refl _ _⟩))
  have HB2 := Lib.hid hb2
  clear kx kxd kxh ky kyd kyh b1 b2 b3 hb2 hE cX cY cT lX lY sX sY he hx hy ht hz2
  go_enter Tryd.func30, Tryd.ntmps30
  go_wp2_with fail
  rw [← hw2]
  clear hw2
  refine wp_region_held_drew (S := (fun W : World => Below w2.heap.size w2 W)) (by kernel_rfl) (Below.refl _ w2).drew (fun hHeld => ?_)
  refine wpAnyH_take (i := 0) (oi := ({ dst := some 7, op := Go.Op.fieldAddr 42 (Go.Operand.tmp 3) 0, type := 0, pos := "rank.go:101", after := #[], guard := none } : Oper)) (v := .pointer (some ⟨w.heap.size, 0, none⟩)) rfl (by kernel_rfl) (by kernel_rfl) (by kernel_rfl) (fun _ _ _ h => h) (Or.inl ⟨by rfl, fun w' _ => ?_⟩) hHeld ?_
  · go_simp
  simp only [Act.put, List.setIfInBounds_toArray, List.set_cons_zero, List.set_cons_succ]
  refine wpAnyH_take (i := 1) (oi := ({ dst := some 8, op := Go.Op.load 27 (Go.Operand.tmp 7), type := 27, pos := "rank.go:101", after := #[{ on := 0, ground := Go.Ground.data }], guard := none } : Oper)) (v := .agg (x).toArray) rfl (by kernel_rfl) (by kernel_rfl) (by kernel_rfl) (fun _ _ _ h => h) (yieldsIf_load_mid (by rfl) _ _ rfl _ _ rfl _ _ (fun W h => RX.out W h) hu rfl hSx) hHeld ?_
  simp only [Act.put, List.setIfInBounds_toArray, List.set_cons_zero, List.set_cons_succ]
  refine wpAnyH_take (i := 2) (oi := ({ dst := some 9, op := Go.Op.load 27 (Go.Operand.tmp 5), type := 27, pos := "rank.go:101", after := #[], guard := none } : Oper)) (v := .agg (t).toArray) rfl (by kernel_rfl) (by kernel_rfl) (by kernel_rfl) (fun _ _ _ h => h) (yieldsIf_load_mid (by rfl) _ _ rfl _ _ rfl _ _ (fun W h => RT.out W h) hu rfl hSt) hHeld ?_
  simp only [Act.put, List.setIfInBounds_toArray, List.set_cons_zero, List.set_cons_succ]
  refine wpAnyH_take (i := 3) (oi := ({ dst := some 10, op := Go.Op.binOp Go.BinOp.eql 27 (Go.Operand.tmp 8) (Go.Operand.tmp 9) 27, type := 4, pos := "rank.go:101", after := #[{ on := 1, ground := Go.Ground.data }, { on := 2, ground := Go.Ground.data }], guard := none } : Oper)) (v := .bool e1) rfl (by kernel_rfl) (by kernel_rfl) (by kernel_rfl) (fun _ _ _ h => h) (Or.inl ⟨by rfl, fun w' _ => ?_⟩) hHeld ?_
  · go_simp
  simp only [Act.put, List.setIfInBounds_toArray, List.set_cons_zero, List.set_cons_succ]
  refine wpAnyH_take (i := 4) (oi := ({ dst := some 11, op := Go.Op.fieldAddr 42 (Go.Operand.tmp 4) 0, type := 0, pos := "rank.go:101", after := #[], guard := none } : Oper)) (v := .pointer (some ⟨w.heap.size + 1, 0, none⟩)) rfl (by kernel_rfl) (by kernel_rfl) (by kernel_rfl) (fun _ _ _ h => h) (Or.inl ⟨by rfl, fun w' _ => ?_⟩) hHeld ?_
  · go_simp
  simp only [Act.put, List.setIfInBounds_toArray, List.set_cons_zero, List.set_cons_succ]
  refine wpAnyH_take (i := 5) (oi := ({ dst := some 12, op := Go.Op.load 27 (Go.Operand.tmp 11), type := 27, pos := "rank.go:101", after := #[{ on := 4, ground := Go.Ground.data }], guard := none } : Oper)) (v := .agg (y).toArray) rfl (by kernel_rfl) (by kernel_rfl) (by kernel_rfl) (fun _ _ _ h => h) (yieldsIf_load_mid (by rfl) _ _ rfl _ _ rfl _ _ (fun W h => RY.out W h) hu rfl hSy) hHeld ?_
  simp only [Act.put, List.setIfInBounds_toArray, List.set_cons_zero, List.set_cons_succ]
  refine wpAnyH_take (i := 6) (oi := ({ dst := some 13, op := Go.Op.load 27 (Go.Operand.tmp 5), type := 27, pos := "rank.go:101", after := #[], guard := none } : Oper)) (v := .agg (t).toArray) rfl (by kernel_rfl) (by kernel_rfl) (by kernel_rfl) (fun _ _ _ h => h) (yieldsIf_load_mid (by rfl) _ _ rfl _ _ rfl _ _ (fun W h => RT.out W h) hu rfl hSt) hHeld ?_
  simp only [Act.put, List.setIfInBounds_toArray, List.set_cons_zero, List.set_cons_succ]
  refine wpAnyH_take (i := 7) (oi := ({ dst := some 14, op := Go.Op.binOp Go.BinOp.eql 27 (Go.Operand.tmp 12) (Go.Operand.tmp 13) 27, type := 4, pos := "rank.go:101", after := #[{ on := 5, ground := Go.Ground.data }, { on := 6, ground := Go.Ground.data }], guard := none } : Oper)) (v := .bool e2) rfl (by kernel_rfl) (by kernel_rfl) (by kernel_rfl) (fun _ _ _ h => h) (Or.inl ⟨by rfl, fun w' _ => ?_⟩) hHeld ?_
  · go_simp
  simp only [Act.put, List.setIfInBounds_toArray, List.set_cons_zero, List.set_cons_succ]
  refine wpAnyH_take (i := 9) (oi := ({ dst := some 16, op := Go.Op.fieldAddr 42 (Go.Operand.tmp 3) 0, type := 0, pos := "rank.go:101", after := #[], guard := none } : Oper)) (v := .pointer (some ⟨w.heap.size, 0, none⟩)) rfl (by kernel_rfl) (by kernel_rfl) (by kernel_rfl) (fun _ _ _ h => h) (Or.inl ⟨by rfl, fun w' _ => ?_⟩) hHeld ?_
  · go_simp
  simp only [Act.put, List.setIfInBounds_toArray, List.set_cons_zero, List.set_cons_succ]
  refine wpAnyH_take (i := 10) (oi := ({ dst := some 17, op := Go.Op.load 27 (Go.Operand.tmp 16), type := 27, pos := "rank.go:101", after := #[{ on := 9, ground := Go.Ground.data }], guard := none } : Oper)) (v := .agg (x).toArray) rfl (by kernel_rfl) (by kernel_rfl) (by kernel_rfl) (fun _ _ _ h => h) (yieldsIf_load_mid (by rfl) _ _ rfl _ _ rfl _ _ (fun W h => RX.out W h) hu rfl hSx) hHeld ?_
  simp only [Act.put, List.setIfInBounds_toArray, List.set_cons_zero, List.set_cons_succ]
  refine wpAnyH_take (i := 12) (oi := ({ dst := some 19, op := Go.Op.fieldAddr 42 (Go.Operand.tmp 4) 0, type := 0, pos := "rank.go:101", after := #[], guard := none } : Oper)) (v := .pointer (some ⟨w.heap.size + 1, 0, none⟩)) rfl (by kernel_rfl) (by kernel_rfl) (by kernel_rfl) (fun _ _ _ h => h) (Or.inl ⟨by rfl, fun w' _ => ?_⟩) hHeld ?_
  · go_simp
  simp only [Act.put, List.setIfInBounds_toArray, List.set_cons_zero, List.set_cons_succ]
  refine wpAnyH_take (i := 13) (oi := ({ dst := some 20, op := Go.Op.load 27 (Go.Operand.tmp 19), type := 27, pos := "rank.go:101", after := #[{ on := 12, ground := Go.Ground.data }], guard := none } : Oper)) (v := .agg (y).toArray) rfl (by kernel_rfl) (by kernel_rfl) (by kernel_rfl) (fun _ _ _ h => h) (yieldsIf_load_mid (by rfl) _ _ rfl _ _ rfl _ _ (fun W h => RY.out W h) hu rfl hSy) hHeld ?_
  simp only [Act.put, List.setIfInBounds_toArray, List.set_cons_zero, List.set_cons_succ]
  refine wpAnyH_take (i := 15) (oi := ({ dst := some 22, op := Go.Op.load 27 (Go.Operand.tmp 5), type := 27, pos := "rank.go:101", after := #[], guard := none } : Oper)) (v := .agg (t).toArray) rfl (by kernel_rfl) (by kernel_rfl) (by kernel_rfl) (fun _ _ _ h => h) (yieldsIf_load_mid (by rfl) _ _ rfl _ _ rfl _ _ (fun W h => RT.out W h) hu rfl hSt) hHeld ?_
  simp only [Act.put, List.setIfInBounds_toArray, List.set_cons_zero, List.set_cons_succ]
  refine wpAnyH_take (i := 18) (oi := ({ dst := some 25, op := Go.Op.fieldAddr 42 (Go.Operand.tmp 3) 1, type := 0, pos := "rank.go:101", after := #[], guard := none } : Oper)) (v := .pointer (some ⟨w.heap.size, 16, none⟩)) rfl (by kernel_rfl) (by kernel_rfl) (by kernel_rfl) (fun _ _ _ h => h) (Or.inl ⟨by rfl, fun w' _ => ?_⟩) hHeld ?_
  · go_simp
  simp only [Act.put, List.setIfInBounds_toArray, List.set_cons_zero, List.set_cons_succ]
  refine wpAnyH_take (i := 19) (oi := ({ dst := some 26, op := Go.Op.load 4 (Go.Operand.tmp 25), type := 4, pos := "rank.go:101", after := #[{ on := 18, ground := Go.Ground.data }], guard := none } : Oper)) (v := .bool xd) rfl (by kernel_rfl) (by kernel_rfl) (by kernel_rfl) (fun _ _ _ h => h) (Or.inl ⟨by rfl, fun w' hS' => ?_⟩) hHeld ?_
  · have hcell := DX.out _ hS'
    go_simp
  simp only [Act.put, List.setIfInBounds_toArray, List.set_cons_zero, List.set_cons_succ]
  refine wpAnyH_take (i := 20) (oi := ({ dst := some 27, op := Go.Op.unOp Go.UnOp.not 4 (Go.Operand.tmp 26), type := 4, pos := "rank.go:101", after := #[{ on := 19, ground := Go.Ground.data }], guard := none } : Oper)) (v := .bool (!xd)) rfl (by kernel_rfl) (by kernel_rfl) (by kernel_rfl) (fun _ _ _ h => h) (Or.inl ⟨by rfl, fun w' _ => ?_⟩) hHeld ?_
  · go_simp
  simp only [Act.put, List.setIfInBounds_toArray, List.set_cons_zero, List.set_cons_succ]
  refine wpAnyH_take (i := 21) (oi := ({ dst := some 28, op := Go.Op.fieldAddr 42 (Go.Operand.tmp 4) 1, type := 0, pos := "rank.go:101", after := #[], guard := none } : Oper)) (v := .pointer (some ⟨w.heap.size + 1, 16, none⟩)) rfl (by kernel_rfl) (by kernel_rfl) (by kernel_rfl) (fun _ _ _ h => h) (Or.inl ⟨by rfl, fun w' _ => ?_⟩) hHeld ?_
  · go_simp
  simp only [Act.put, List.setIfInBounds_toArray, List.set_cons_zero, List.set_cons_succ]
  refine wpAnyH_take (i := 22) (oi := ({ dst := some 29, op := Go.Op.load 4 (Go.Operand.tmp 28), type := 4, pos := "rank.go:101", after := #[{ on := 21, ground := Go.Ground.data }], guard := none } : Oper)) (v := .bool yd) rfl (by kernel_rfl) (by kernel_rfl) (by kernel_rfl) (fun _ _ _ h => h) (Or.inl ⟨by rfl, fun w' hS' => ?_⟩) hHeld ?_
  · have hcell := DY.out _ hS'
    go_simp
  simp only [Act.put, List.setIfInBounds_toArray, List.set_cons_zero, List.set_cons_succ]
  refine wpAnyH_take (i := 23) (oi := ({ dst := some 30, op := Go.Op.unOp Go.UnOp.not 4 (Go.Operand.tmp 29), type := 4, pos := "rank.go:101", after := #[{ on := 22, ground := Go.Ground.data }], guard := none } : Oper)) (v := .bool (!yd)) rfl (by kernel_rfl) (by kernel_rfl) (by kernel_rfl) (fun _ _ _ h => h) (Or.inl ⟨by rfl, fun w' _ => ?_⟩) hHeld ?_
  · go_simp
  simp only [Act.put, List.setIfInBounds_toArray, List.set_cons_zero, List.set_cons_succ]
  refine wpAnyH_take (i := 25) (oi := ({ dst := some 32, op := Go.Op.fieldAddr 42 (Go.Operand.tmp 3) 2, type := 0, pos := "rank.go:101", after := #[], guard := none } : Oper)) (v := .pointer (some ⟨w.heap.size, 17, none⟩)) rfl (by kernel_rfl) (by kernel_rfl) (by kernel_rfl) (fun _ _ _ h => h) (Or.inl ⟨by rfl, fun w' _ => ?_⟩) hHeld ?_
  · go_simp
  simp only [Act.put, List.setIfInBounds_toArray, List.set_cons_zero, List.set_cons_succ]
  refine wpAnyH_take (i := 26) (oi := ({ dst := some 33, op := Go.Op.load 4 (Go.Operand.tmp 32), type := 4, pos := "rank.go:101", after := #[{ on := 25, ground := Go.Ground.data }], guard := none } : Oper)) (v := .bool xh) rfl (by kernel_rfl) (by kernel_rfl) (by kernel_rfl) (fun _ _ _ h => h) (Or.inl ⟨by rfl, fun w' hS' => ?_⟩) hHeld ?_
  · have hcell := HHX.out _ hS'
    go_simp
  simp only [Act.put, List.setIfInBounds_toArray, List.set_cons_zero, List.set_cons_succ]
  refine wpAnyH_take (i := 27) (oi := ({ dst := some 34, op := Go.Op.fieldAddr 42 (Go.Operand.tmp 4) 2, type := 0, pos := "rank.go:101", after := #[], guard := none } : Oper)) (v := .pointer (some ⟨w.heap.size + 1, 17, none⟩)) rfl (by kernel_rfl) (by kernel_rfl) (by kernel_rfl) (fun _ _ _ h => h) (Or.inl ⟨by rfl, fun w' _ => ?_⟩) hHeld ?_
  · go_simp
  simp only [Act.put, List.setIfInBounds_toArray, List.set_cons_zero, List.set_cons_succ]
  refine wpAnyH_take (i := 28) (oi := ({ dst := some 35, op := Go.Op.load 4 (Go.Operand.tmp 34), type := 4, pos := "rank.go:101", after := #[{ on := 27, ground := Go.Ground.data }], guard := none } : Oper)) (v := .bool yh) rfl (by kernel_rfl) (by kernel_rfl) (by kernel_rfl) (fun _ _ _ h => h) (Or.inl ⟨by rfl, fun w' hS' => ?_⟩) hHeld ?_
  · have hcell := HHY.out _ hS'
    go_simp
  simp only [Act.put, List.setIfInBounds_toArray, List.set_cons_zero, List.set_cons_succ]
  refine wpAnyH_take (i := 30) (oi := ({ dst := some 37, op := Go.Op.fieldAddr 42 (Go.Operand.tmp 3) 0, type := 0, pos := "rank.go:101", after := #[], guard := none } : Oper)) (v := .pointer (some ⟨w.heap.size, 0, none⟩)) rfl (by kernel_rfl) (by kernel_rfl) (by kernel_rfl) (fun _ _ _ h => h) (Or.inl ⟨by rfl, fun w' _ => ?_⟩) hHeld ?_
  · go_simp
  simp only [Act.put, List.setIfInBounds_toArray, List.set_cons_zero, List.set_cons_succ]
  refine wpAnyH_take (i := 31) (oi := ({ dst := some 38, op := Go.Op.load 27 (Go.Operand.tmp 37), type := 27, pos := "rank.go:101", after := #[{ on := 30, ground := Go.Ground.data }], guard := none } : Oper)) (v := .agg (x).toArray) rfl (by kernel_rfl) (by kernel_rfl) (by kernel_rfl) (fun _ _ _ h => h) (yieldsIf_load_mid (by rfl) _ _ rfl _ _ rfl _ _ (fun W h => RX.out W h) hu rfl hSx) hHeld ?_
  simp only [Act.put, List.setIfInBounds_toArray, List.set_cons_zero, List.set_cons_succ]
  refine wpAnyH_take (i := 32) (oi := ({ dst := some 39, op := Go.Op.load 27 (Go.Operand.tmp 5), type := 27, pos := "rank.go:101", after := #[], guard := none } : Oper)) (v := .agg (t).toArray) rfl (by kernel_rfl) (by kernel_rfl) (by kernel_rfl) (fun _ _ _ h => h) (yieldsIf_load_mid (by rfl) _ _ rfl _ _ rfl _ _ (fun W h => RT.out W h) hu rfl hSt) hHeld ?_
  simp only [Act.put, List.setIfInBounds_toArray, List.set_cons_zero, List.set_cons_succ]
  refine wpAnyH_take (i := 34) (oi := ({ dst := some 41, op := Go.Op.fieldAddr 42 (Go.Operand.tmp 4) 0, type := 0, pos := "rank.go:101", after := #[], guard := none } : Oper)) (v := .pointer (some ⟨w.heap.size + 1, 0, none⟩)) rfl (by kernel_rfl) (by kernel_rfl) (by kernel_rfl) (fun _ _ _ h => h) (Or.inl ⟨by rfl, fun w' _ => ?_⟩) hHeld ?_
  · go_simp
  simp only [Act.put, List.setIfInBounds_toArray, List.set_cons_zero, List.set_cons_succ]
  refine wpAnyH_take (i := 35) (oi := ({ dst := some 42, op := Go.Op.load 27 (Go.Operand.tmp 41), type := 27, pos := "rank.go:101", after := #[{ on := 34, ground := Go.Ground.data }], guard := none } : Oper)) (v := .agg (y).toArray) rfl (by kernel_rfl) (by kernel_rfl) (by kernel_rfl) (fun _ _ _ h => h) (yieldsIf_load_mid (by rfl) _ _ rfl _ _ rfl _ _ (fun W h => RY.out W h) hu rfl hSy) hHeld ?_
  simp only [Act.put, List.setIfInBounds_toArray, List.set_cons_zero, List.set_cons_succ]
  refine wpAnyH_take (i := 36) (oi := ({ dst := some 43, op := Go.Op.load 27 (Go.Operand.tmp 5), type := 27, pos := "rank.go:101", after := #[], guard := none } : Oper)) (v := .agg (t).toArray) rfl (by kernel_rfl) (by kernel_rfl) (by kernel_rfl) (fun _ _ _ h => h) (yieldsIf_load_mid (by rfl) _ _ rfl _ _ rfl _ _ (fun W h => RT.out W h) hu rfl hSt) hHeld ?_
  simp only [Act.put, List.setIfInBounds_toArray, List.set_cons_zero, List.set_cons_succ]
  refine wpAnyH_take (i := 39) (oi := ({ dst := some 46, op := Go.Op.fieldAddr 42 (Go.Operand.tmp 3) 0, type := 0, pos := "rank.go:101", after := #[], guard := none } : Oper)) (v := .pointer (some ⟨w.heap.size, 0, none⟩)) rfl (by kernel_rfl) (by kernel_rfl) (by kernel_rfl) (fun _ _ _ h => h) (Or.inl ⟨by rfl, fun w' _ => ?_⟩) hHeld ?_
  · go_simp
  simp only [Act.put, List.setIfInBounds_toArray, List.set_cons_zero, List.set_cons_succ]
  refine wpAnyH_take (i := 40) (oi := ({ dst := some 47, op := Go.Op.load 27 (Go.Operand.tmp 46), type := 27, pos := "rank.go:101", after := #[{ on := 39, ground := Go.Ground.data }], guard := none } : Oper)) (v := .agg (x).toArray) rfl (by kernel_rfl) (by kernel_rfl) (by kernel_rfl) (fun _ _ _ h => h) (yieldsIf_load_mid (by rfl) _ _ rfl _ _ rfl _ _ (fun W h => RX.out W h) hu rfl hSx) hHeld ?_
  simp only [Act.put, List.setIfInBounds_toArray, List.set_cons_zero, List.set_cons_succ]
  refine wpAnyH_take (i := 41) (oi := ({ dst := some 48, op := Go.Op.load 27 (Go.Operand.tmp 5), type := 27, pos := "rank.go:101", after := #[], guard := none } : Oper)) (v := .agg (t).toArray) rfl (by kernel_rfl) (by kernel_rfl) (by kernel_rfl) (fun _ _ _ h => h) (yieldsIf_load_mid (by rfl) _ _ rfl _ _ rfl _ _ (fun W h => RT.out W h) hu rfl hSt) hHeld ?_
  simp only [Act.put, List.setIfInBounds_toArray, List.set_cons_zero, List.set_cons_succ]
  refine wpAnyH_take (i := 43) (oi := ({ dst := some 50, op := Go.Op.fieldAddr 42 (Go.Operand.tmp 4) 0, type := 0, pos := "rank.go:101", after := #[], guard := none } : Oper)) (v := .pointer (some ⟨w.heap.size + 1, 0, none⟩)) rfl (by kernel_rfl) (by kernel_rfl) (by kernel_rfl) (fun _ _ _ h => h) (Or.inl ⟨by rfl, fun w' _ => ?_⟩) hHeld ?_
  · go_simp
  simp only [Act.put, List.setIfInBounds_toArray, List.set_cons_zero, List.set_cons_succ]
  refine wpAnyH_take (i := 44) (oi := ({ dst := some 51, op := Go.Op.load 27 (Go.Operand.tmp 50), type := 27, pos := "rank.go:101", after := #[{ on := 43, ground := Go.Ground.data }], guard := none } : Oper)) (v := .agg (y).toArray) rfl (by kernel_rfl) (by kernel_rfl) (by kernel_rfl) (fun _ _ _ h => h) (yieldsIf_load_mid (by rfl) _ _ rfl _ _ rfl _ _ (fun W h => RY.out W h) hu rfl hSy) hHeld ?_
  simp only [Act.put, List.setIfInBounds_toArray, List.set_cons_zero, List.set_cons_succ]
  refine wpAnyH_take (i := 45) (oi := ({ dst := some 52, op := Go.Op.load 27 (Go.Operand.tmp 5), type := 27, pos := "rank.go:101", after := #[], guard := none } : Oper)) (v := .agg (t).toArray) rfl (by kernel_rfl) (by kernel_rfl) (by kernel_rfl) (fun _ _ _ h => h) (yieldsIf_load_mid (by rfl) _ _ rfl _ _ rfl _ _ (fun W h => RT.out W h) hu rfl hSt) hHeld ?_
  simp only [Act.put, List.setIfInBounds_toArray, List.set_cons_zero, List.set_cons_succ]
  refine wpAnyH_ready (rs := [8]) (by kernel_rfl) (by simp) ?_
  refine AllReadyH.cons (o := ({ dst := some 15, op := Go.Op.call { callee := Go.Callee.value (Go.Operand.func 37), args := #[Go.Operand.tmp 10, Go.Operand.tmp 14], argTypes := #[4, 4] }, type := 3, pos := "rank.go:102", after := #[{ on := 3, ground := Go.Ground.data }, { on := 7, ground := Go.Ground.data }], guard := none } : Oper)) rfl (fun K hK => ?_) AllReadyH.nil
  go_simp
  go_at_call 37
  refine (cmpT_e _ _ _).mono ?_
  rintro e' wc ⟨rfl, hbc⟩
  refine hK.out _ _ (Below.trans hHeld (Below.mono hbc (Below.size hHeld))) (fun hHeld' => ?_)
  clear hK K hbc
  try clear hHeld
  try simp only [Act.put, List.setIfInBounds_toArray, List.set_cons_zero, List.set_cons_succ]
  refine wpAnyH_ready (rs := [11]) (by kernel_rfl) (by simp) ?_
  refine AllReadyH.cons (o := ({ dst := some 18, op := Go.Op.call { callee := Go.Callee.value (Go.Operand.func 14), args := #[Go.Operand.tmp 17], argTypes := #[27] }, type := 3, pos := "rank.go:103", after := #[{ on := 10, ground := Go.Ground.data }, { on := 8, ground := Go.Ground.chain }], guard := none } : Oper)) rfl (fun K hK => ?_) AllReadyH.nil
  go_simp
  go_at_call 14
  refine (HX.out _ hHeld').mono ?_
  rintro e' wc ⟨rfl, hbc⟩
  refine hK.out _ _ (Below.trans hHeld' (Below.mono hbc (Below.size hHeld'))) (fun hHeld'' => ?_)
  clear hK K hbc
  try clear hHeld'
  try simp only [Act.put, List.setIfInBounds_toArray, List.set_cons_zero, List.set_cons_succ]
  refine wpAnyH_ready (rs := [14]) (by kernel_rfl) (by simp) ?_
  refine AllReadyH.cons (o := ({ dst := some 21, op := Go.Op.call { callee := Go.Callee.value (Go.Operand.func 14), args := #[Go.Operand.tmp 20], argTypes := #[27] }, type := 3, pos := "rank.go:103", after := #[{ on := 13, ground := Go.Ground.data }, { on := 11, ground := Go.Ground.chain }], guard := none } : Oper)) rfl (fun K hK => ?_) AllReadyH.nil
  go_simp
  go_at_call 14
  refine (HY.out _ hHeld'').mono ?_
  rintro e' wc ⟨rfl, hbc⟩
  refine hK.out _ _ (Below.trans hHeld'' (Below.mono hbc (Below.size hHeld''))) (fun hHeld''' => ?_)
  clear hK K hbc
  try clear hHeld''
  try simp only [Act.put, List.setIfInBounds_toArray, List.set_cons_zero, List.set_cons_succ]
  refine wpAnyH_ready (rs := [16]) (by kernel_rfl) (by simp) ?_
  refine AllReadyH.cons (o := ({ dst := some 23, op := Go.Op.call { callee := Go.Callee.value (Go.Operand.func 14), args := #[Go.Operand.tmp 22], argTypes := #[27] }, type := 3, pos := "rank.go:103", after := #[{ on := 15, ground := Go.Ground.data }, { on := 14, ground := Go.Ground.chain }], guard := none } : Oper)) rfl (fun K hK => ?_) AllReadyH.nil
  go_simp
  go_at_call 14
  refine (HT.out _ hHeld''').mono ?_
  rintro e' wc ⟨rfl, hbc⟩
  refine hK.out _ _ (Below.trans hHeld''' (Below.mono hbc (Below.size hHeld'''))) (fun hHeld'''' => ?_)
  clear hK K hbc
  try clear hHeld'''
  try simp only [Act.put, List.setIfInBounds_toArray, List.set_cons_zero, List.set_cons_succ]
  refine wpAnyH_ready (rs := [17]) (by kernel_rfl) (by simp) ?_
  refine AllReadyH.cons (o := ({ dst := some 24, op := Go.Op.call { callee := Go.Callee.value (Go.Operand.func 38), args := #[Go.Operand.tmp 18, Go.Operand.tmp 21, Go.Operand.tmp 23], argTypes := #[3, 3, 3] }, type := 3, pos := "rank.go:103", after := #[{ on := 11, ground := Go.Ground.data }, { on := 14, ground := Go.Ground.data }, { on := 16, ground := Go.Ground.data }, { on := 16, ground := Go.Ground.chain }], guard := none } : Oper)) rfl (fun K hK => ?_) AllReadyH.nil
  go_simp
  go_at_call 38
  refine (cmpS_e _ _ _ _).mono ?_
  rintro e' wc ⟨rfl, hbc⟩
  refine hK.out _ _ (Below.trans hHeld'''' (Below.mono hbc (Below.size hHeld''''))) (fun hHeld''''' => ?_)
  clear hK K hbc
  try clear hHeld''''
  try simp only [Act.put, List.setIfInBounds_toArray, List.set_cons_zero, List.set_cons_succ]
  refine wpAnyH_ready (rs := [24]) (by kernel_rfl) (by simp) ?_
  refine AllReadyH.cons (o := ({ dst := some 31, op := Go.Op.call { callee := Go.Callee.value (Go.Operand.func 37), args := #[Go.Operand.tmp 27, Go.Operand.tmp 30], argTypes := #[4, 4] }, type := 3, pos := "rank.go:104", after := #[{ on := 20, ground := Go.Ground.data }, { on := 23, ground := Go.Ground.data }, { on := 17, ground := Go.Ground.chain }], guard := none } : Oper)) rfl (fun K hK => ?_) AllReadyH.nil
  go_simp
  go_at_call 37
  refine (cmpT_e _ _ _).mono ?_
  rintro e' wc ⟨rfl, hbc⟩
  refine hK.out _ _ (Below.trans hHeld''''' (Below.mono hbc (Below.size hHeld'''''))) (fun hHeld'''''' => ?_)
  clear hK K hbc
  try clear hHeld'''''
  try simp only [Act.put, List.setIfInBounds_toArray, List.set_cons_zero, List.set_cons_succ]
  refine wpAnyH_ready (rs := [29]) (by kernel_rfl) (by simp) ?_
  refine AllReadyH.cons (o := ({ dst := some 36, op := Go.Op.call { callee := Go.Callee.value (Go.Operand.func 37), args := #[Go.Operand.tmp 33, Go.Operand.tmp 35], argTypes := #[4, 4] }, type := 3, pos := "rank.go:105", after := #[{ on := 26, ground := Go.Ground.data }, { on := 28, ground := Go.Ground.data }, { on := 24, ground := Go.Ground.chain }], guard := none } : Oper)) rfl (fun K hK => ?_) AllReadyH.nil
  go_simp
  go_at_call 37
  refine (cmpT_e _ _ _).mono ?_
  rintro e' wc ⟨rfl, hbc⟩
  refine hK.out _ _ (Below.trans hHeld'''''' (Below.mono hbc (Below.size hHeld''''''))) (fun hHeld''''''' => ?_)
  clear hK K hbc
  try clear hHeld''''''
  try simp only [Act.put, List.setIfInBounds_toArray, List.set_cons_zero, List.set_cons_succ]
  refine wpAnyH_ready (rs := [33]) (by kernel_rfl) (by simp) ?_
  refine AllReadyH.cons (o := ({ dst := some 40, op := Go.Op.call { callee := Go.Callee.value (Go.Operand.func 28), args := #[Go.Operand.tmp 38, Go.Operand.tmp 39], argTypes := #[27, 27] }, type := 4, pos := "rank.go:106", after := #[{ on := 31, ground := Go.Ground.data }, { on := 32, ground := Go.Ground.data }, { on := 29, ground := Go.Ground.chain }], guard := none } : Oper)) rfl (fun K hK => ?_) AllReadyH.nil
  go_simp
  go_at_call 28
  refine (LX.out _ hHeld''''''').mono ?_
  rintro e' wc ⟨rfl, hbc⟩
  refine hK.out _ _ (Below.trans hHeld''''''' (Below.mono hbc (Below.size hHeld'''''''))) (fun hHeld'''''''' => ?_)
  clear hK K hbc
  try clear hHeld'''''''
  try simp only [Act.put, List.setIfInBounds_toArray, List.set_cons_zero, List.set_cons_succ]
  refine wpAnyH_ready (rs := [37]) (by kernel_rfl) (by simp) ?_
  refine AllReadyH.cons (o := ({ dst := some 44, op := Go.Op.call { callee := Go.Callee.value (Go.Operand.func 28), args := #[Go.Operand.tmp 42, Go.Operand.tmp 43], argTypes := #[27, 27] }, type := 4, pos := "rank.go:106", after := #[{ on := 35, ground := Go.Ground.data }, { on := 36, ground := Go.Ground.data }, { on := 33, ground := Go.Ground.chain }], guard := none } : Oper)) rfl (fun K hK => ?_) AllReadyH.nil
  go_simp
  go_at_call 28
  refine (LY.out _ hHeld'''''''').mono ?_
  rintro e' wc ⟨rfl, hbc⟩
  refine hK.out _ _ (Below.trans hHeld'''''''' (Below.mono hbc (Below.size hHeld''''''''))) (fun hHeld''''''''' => ?_)
  clear hK K hbc
  try clear hHeld''''''''
  try simp only [Act.put, List.setIfInBounds_toArray, List.set_cons_zero, List.set_cons_succ]
  refine wpAnyH_ready (rs := [38]) (by kernel_rfl) (by simp) ?_
  refine AllReadyH.cons (o := ({ dst := some 45, op := Go.Op.call { callee := Go.Callee.value (Go.Operand.func 37), args := #[Go.Operand.tmp 40, Go.Operand.tmp 44], argTypes := #[4, 4] }, type := 3, pos := "rank.go:106", after := #[{ on := 33, ground := Go.Ground.data }, { on := 37, ground := Go.Ground.data }, { on := 37, ground := Go.Ground.chain }], guard := none } : Oper)) rfl (fun K hK => ?_) AllReadyH.nil
  go_simp
  go_at_call 37
  refine (cmpT_e _ _ _).mono ?_
  rintro e' wc ⟨rfl, hbc⟩
  refine hK.out _ _ (Below.trans hHeld''''''''' (Below.mono hbc (Below.size hHeld'''''''''))) (fun hHeld'''''''''' => ?_)
  clear hK K hbc
  try clear hHeld'''''''''
  try simp only [Act.put, List.setIfInBounds_toArray, List.set_cons_zero, List.set_cons_succ]
  refine wpAnyH_ready (rs := [42]) (by kernel_rfl) (by simp) ?_
  refine AllReadyH.cons (o := ({ dst := some 49, op := Go.Op.call { callee := Go.Callee.value (Go.Operand.func 29), args := #[Go.Operand.tmp 47, Go.Operand.tmp 48], argTypes := #[27, 27] }, type := 3, pos := "rank.go:107", after := #[{ on := 40, ground := Go.Ground.data }, { on := 41, ground := Go.Ground.data }, { on := 38, ground := Go.Ground.chain }], guard := none } : Oper)) rfl (fun K hK => ?_) AllReadyH.nil
  go_simp
  go_at_call 29
  refine (SX.out _).mono ?_
  rintro e' wc ⟨rfl, hbc⟩
  refine hK.out _ _ (Below.trans hHeld'''''''''' (Below.mono hbc (Below.size hHeld''''''''''))) (fun hHeld''''''''''' => ?_)
  clear hK K hbc
  try clear hHeld''''''''''
  try simp only [Act.put, List.setIfInBounds_toArray, List.set_cons_zero, List.set_cons_succ]
  refine wpAnyH_ready (rs := [46]) (by kernel_rfl) (by simp) ?_
  refine AllReadyH.cons (o := ({ dst := some 53, op := Go.Op.call { callee := Go.Callee.value (Go.Operand.func 29), args := #[Go.Operand.tmp 51, Go.Operand.tmp 52], argTypes := #[27, 27] }, type := 3, pos := "rank.go:107", after := #[{ on := 44, ground := Go.Ground.data }, { on := 45, ground := Go.Ground.data }, { on := 42, ground := Go.Ground.chain }], guard := none } : Oper)) rfl (fun K hK => ?_) AllReadyH.nil
  go_simp
  go_at_call 29
  refine (SY.out _).mono ?_
  rintro e' wc ⟨rfl, hbc⟩
  refine hK.out _ _ (Below.trans hHeld''''''''''' (Below.mono hbc (Below.size hHeld'''''''''''))) (fun hHeld'''''''''''' => ?_)
  clear hK K hbc
  try clear hHeld'''''''''''
  try simp only [Act.put, List.setIfInBounds_toArray, List.set_cons_zero, List.set_cons_succ]
  refine wpAnyH_ready (rs := [47]) (by kernel_rfl) (by simp) ?_
  refine AllReadyH.cons (o := ({ dst := some 54, op := Go.Op.call { callee := Go.Callee.value (Go.Operand.func 32), args := #[Go.Operand.tmp 49, Go.Operand.tmp 53], argTypes := #[3, 3] }, type := 3, pos := "rank.go:107", after := #[{ on := 42, ground := Go.Ground.data }, { on := 46, ground := Go.Ground.data }, { on := 46, ground := Go.Ground.chain }], guard := none } : Oper)) rfl (fun K hK => ?_) AllReadyH.nil
  go_simp
  go_at_call 32
  refine (CI.out _).mono ?_
  rintro e' wc ⟨rfl, hbc⟩
  refine hK.out _ _ (Below.trans hHeld'''''''''''' (Below.mono hbc (Below.size hHeld''''''''''''))) (fun hHeld''''''''''''' => ?_)
  clear hK K hbc
  try clear hHeld''''''''''''
  try simp only [Act.put, List.setIfInBounds_toArray, List.set_cons_zero, List.set_cons_succ]
  refine wpAnyH_ready (rs := [48]) (by kernel_rfl) (by simp) ?_
  refine AllReadyH.cons (o := ({ dst := some 55, op := Go.Op.buildSlice 48 6 #[(0, Go.Operand.tmp 15), (1, Go.Operand.tmp 24), (2, Go.Operand.tmp 31), (3, Go.Operand.tmp 36), (4, Go.Operand.tmp 45), (5, Go.Operand.tmp 54)], type := 48, pos := "rank.go:101", after := #[{ on := 8, ground := Go.Ground.data }, { on := 17, ground := Go.Ground.data }, { on := 24, ground := Go.Ground.data }, { on := 29, ground := Go.Ground.data }, { on := 38, ground := Go.Ground.data }, { on := 47, ground := Go.Ground.data }], guard := none } : Oper)) rfl (fun K hK => ?_) AllReadyH.nil
  go_simp
  refine hK.out _ _ (Below.alloc hHeld''''''''''''' (Below.size hHeld''''''''''''') _) (fun hHeldZ => ?_)
  clear hK K
  try simp only [Act.put, List.setIfInBounds_toArray, List.set_cons_zero, List.set_cons_succ]
  refine wpAnyH_ready (rs := [49]) (by kernel_rfl) (by simp) ?_
  refine AllReadyH.cons (o := ({ dst := some 56, op := Go.Op.call { callee := Go.Callee.value (Go.Operand.func 36), args := #[Go.Operand.tmp 55], argTypes := #[48] }, type := 3, pos := "rank.go:101", after := #[{ on := 48, ground := Go.Ground.data }, { on := 47, ground := Go.Ground.chain }], guard := none } : Oper)) rfl (fun K hK => ?_) AllReadyH.nil
  go_simp
  go_at_call 36
  refine (or_b _ _ _ _ _ _ _).mono ?_
  rintro e' wc ⟨rfl, hbc⟩
  refine hK.out _ _ (Below.trans hHeldZ (Below.mono hbc (Below.size hHeldZ))) (fun hHeldZ' => ?_)
  clear hK K hbc
  try clear hHeldZ
  try simp only [Act.put, List.setIfInBounds_toArray, List.set_cons_zero, List.set_cons_succ]
  refine wpAnyH_take (i := 50) (oi := ({ dst := some 6, op := Go.Op.assign (Go.Operand.tmp 56), type := 3, pos := "rank.go:101", after := #[{ on := 49, ground := Go.Ground.data }, { on := 49, ground := Go.Ground.chain }, { on := 0, ground := Go.Ground.phase }, { on := 1, ground := Go.Ground.phase }, { on := 2, ground := Go.Ground.phase }, { on := 3, ground := Go.Ground.phase }, { on := 4, ground := Go.Ground.phase }, { on := 5, ground := Go.Ground.phase }, { on := 6, ground := Go.Ground.phase }, { on := 7, ground := Go.Ground.phase }, { on := 8, ground := Go.Ground.phase }, { on := 9, ground := Go.Ground.phase }, { on := 10, ground := Go.Ground.phase }, { on := 11, ground := Go.Ground.phase }, { on := 12, ground := Go.Ground.phase }, { on := 13, ground := Go.Ground.phase }, { on := 14, ground := Go.Ground.phase }, { on := 15, ground := Go.Ground.phase }, { on := 16, ground := Go.Ground.phase }, { on := 17, ground := Go.Ground.phase }, { on := 18, ground := Go.Ground.phase }, { on := 19, ground := Go.Ground.phase }, { on := 20, ground := Go.Ground.phase }, { on := 21, ground := Go.Ground.phase }, { on := 22, ground := Go.Ground.phase }, { on := 23, ground := Go.Ground.phase }, { on := 24, ground := Go.Ground.phase }, { on := 25, ground := Go.Ground.phase }, { on := 26, ground := Go.Ground.phase }, { on := 27, ground := Go.Ground.phase }, { on := 28, ground := Go.Ground.phase }, { on := 29, ground := Go.Ground.phase }, { on := 30, ground := Go.Ground.phase }, { on := 31, ground := Go.Ground.phase }, { on := 32, ground := Go.Ground.phase }, { on := 33, ground := Go.Ground.phase }, { on := 34, ground := Go.Ground.phase }, { on := 35, ground := Go.Ground.phase }, { on := 36, ground := Go.Ground.phase }, { on := 37, ground := Go.Ground.phase }, { on := 38, ground := Go.Ground.phase }, { on := 39, ground := Go.Ground.phase }, { on := 40, ground := Go.Ground.phase }, { on := 41, ground := Go.Ground.phase }, { on := 42, ground := Go.Ground.phase }, { on := 43, ground := Go.Ground.phase }, { on := 44, ground := Go.Ground.phase }, { on := 45, ground := Go.Ground.phase }, { on := 46, ground := Go.Ground.phase }, { on := 47, ground := Go.Ground.phase }, { on := 48, ground := Go.Ground.phase }, { on := 49, ground := Go.Ground.phase }], guard := none } : Oper)) (v := .int .i64 (firstNZ [cmpT e1 e2, cmpS sx sy st, cmpT (!xd) (!yd), cmpT xh yh, cmpT lx ly, Lib.compareInt px py])) rfl (by kernel_rfl) (by kernel_rfl) (by kernel_rfl) (fun _ _ _ h => h) (Or.inl ⟨by rfl, fun w' _ => ?_⟩) hHeldZ' ?_
  · go_simp
  simp only [Act.put, List.setIfInBounds_toArray, List.set_cons_zero, List.set_cons_succ]
  refine wpAnyH_done (by kernel_rfl) ?_ _
  go_wp2
  go_ret
  exact ⟨rfl, HB2.out.trans (Below.mono hHeldZ' HB2.out.size)⟩
end Go.Proofs.YtoaedlllnkcfnaaDoor
