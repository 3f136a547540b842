/-
  The walk of the document's own answer better. Condition: sixteen bytes.
-/
import Derived.Test.YtoaedlllnkcfnaaDoorRankBit
namespace Go.Proofs.YtoaedlllnkcfnaaDoor
open Go.RowKit

/-- is x better than y to reach t? -/
def betterB (x y : LV) (t : List UInt8) : Bool :=
  if (!((x.addr == t) == (y.addr == t))) = true then (x.addr == t)
  else if scA x.addr < scA y.addr then decide (scA t ≤ scA x.addr)
  else if scA y.addr < scA x.addr then decide (scA y.addr < scA t)
  else if (!(x.dep == y.dep)) = true then y.dep
  else if (!(x.home == y.home)) = true then x.home
  else if (!(((polA x.addr).2 == (polA t).2) == ((polA y.addr).2 == (polA t).2))) = true then ((polA x.addr).2 == (polA t).2)
  else decide (sh y.addr t < sh x.addr t)
theorem firstNZ_zero (l : List Int) : firstNZ (0 :: l) = firstNZ l := by rw [firstNZ, if_pos rfl]
theorem firstNZ_cons {a : Int} (h : a ≠ 0) (l : List Int) : firstNZ (a :: l) = a := by rw [firstNZ, if_neg h]
theorem pl_eq {a : List UInt8} (ha : a.length = 16) : PL a = (polA a).2 := congrArg Prod.snd (pol_eq ha)
theorem better_cmp {x y : LV} {t : List UInt8} (hx : x.addr.length = 16) (hy : y.addr.length = 16) (ht : t.length = 16) : betterB x y t = decide (0 < cmpL x y t) := by
  unfold betterB cmpL
  rw [scope_eq hx, scope_eq hy, scope_eq ht, pl_eq hx, pl_eq hy, pl_eq ht]
  generalize (x.addr == t) = e1
  generalize (y.addr == t) = e2
  generalize scA x.addr = sx
  generalize scA y.addr = sy
  generalize scA t = st
  generalize x.dep = xd
  generalize y.dep = yd
  generalize x.home = xh
  generalize y.home = yh
  generalize hl1 : decide ((polA x.addr).2 = (polA t).2) = l1
  generalize hl2 : decide ((polA y.addr).2 = (polA t).2) = l2
  have k1 : ((polA x.addr).2 == (polA t).2) = l1 := by rw [← hl1, Bool.eq_iff_iff, beq_iff_eq, decide_eq_true_iff]
  have k2 : ((polA y.addr).2 == (polA t).2) = l2 := by rw [← hl2, Bool.eq_iff_iff, beq_iff_eq, decide_eq_true_iff]
  rw [k1, k2]
  generalize sh x.addr t = px
  generalize sh y.addr t = py
  clear hl1 hl2 k1 k2
  by_cases he : e1 = e2
  · subst he
    have c1 : cmpT e1 e1 = 0 := by unfold cmpT; rw [if_pos rfl]
    rw [c1, firstNZ_zero, beq_self_eq_true, if_neg (by simp)]
    by_cases h1 : sx < sy
    · rw [if_pos h1]
      have h2 : cmpS (sx : Int) sy st = if (sx : Int) < st then -1 else 1 := by
        unfold cmpS Lib.compareInt
        rw [show min (sx : Int) sy = sx by omega]
        by_cases h3 : (sx : Int) < st
        · rw [if_pos h3, if_pos h3, if_pos (by omega)]
        · rw [if_neg h3, if_neg h3, if_neg (by omega), if_pos (by omega)]
      rw [h2]
      by_cases h3 : (sx : Int) < st
      · rw [if_pos h3, firstNZ_cons (by decide)]
        rw [decide_eq_false (by omega)]; rfl
      · rw [if_neg h3, firstNZ_cons (by decide)]
        rw [decide_eq_true (by omega)]; rfl
    · rw [if_neg h1]
      by_cases h4 : sy < sx
      · rw [if_pos h4]
        have h2 : cmpS (sx : Int) sy st = if (sy : Int) < st then 1 else -1 := by
          unfold cmpS Lib.compareInt
          rw [show min (sx : Int) sy = sy by omega]
          by_cases h3 : (sy : Int) < st
          · rw [if_pos h3, if_pos h3, if_neg (by omega), if_pos (by omega)]
          · rw [if_neg h3, if_neg h3, if_pos (by omega)]
        rw [h2]
        by_cases h3 : (sy : Int) < st
        · rw [if_pos h3, firstNZ_cons (by decide)]
          rw [decide_eq_true (by omega)]; rfl
        · rw [if_neg h3, firstNZ_cons (by decide)]
          rw [decide_eq_false (by omega)]; rfl
      · rw [if_neg h4]
        have h2 : cmpS (sx : Int) sy st = 0 := by
          obtain rfl : sx = sy := by omega
          unfold cmpS Lib.compareInt
          simp
        rw [h2, firstNZ_zero]
        have hc : Lib.compareInt (px : Int) py = if px < py then -1 else if py < px then 1 else 0 := by
          unfold Lib.compareInt
          by_cases h5 : px < py
          · rw [if_pos (by omega), if_pos h5]
          · rw [if_neg (by omega), if_neg h5]
            by_cases h6 : py < px
            · rw [if_pos (by omega), if_pos h6]
            · rw [if_neg (by omega), if_neg h6]
        have hf : ∀ c : Int, firstNZ [c] = c := fun c => by
          rw [firstNZ]
          by_cases h : c = 0
          · rw [if_pos h, h]; rfl
          · rw [if_neg h]
        cases xd <;> cases yd <;> cases xh <;> cases yh <;> cases l1 <;> cases l2 <;> simp only [cmpT, firstNZ_zero, firstNZ_cons, hf, hc, Bool.not_true, Bool.not_false, if_true, if_false, beq_self_eq_true, Bool.false_eq_true, Bool.true_eq_false, reduceCtorEq, ne_eq, not_false_eq_true]
        all_goals first | rfl | (by_cases h5 : px < py <;> by_cases h6 : py < px <;> simp [h5, h6] <;> omega) | (simp [firstNZ]; done)
  · have hc : cmpT e1 e2 = if e1 = true then 1 else -1 := by unfold cmpT; rw [if_neg he]
    have hb : (!(e1 == e2)) = true := by simp [he]
    rw [if_pos hb, hc]
    cases e1
    · rw [if_neg (by decide), firstNZ_cons (by decide)]; rfl
    · rw [if_pos rfl, firstNZ_cons (by decide)]; rfl
set_option maxRecDepth 100000 in
set_option maxHeartbeats 4000000 in
theorem refBetter_e (x0 y0 : LV) (t0 : List UInt8) (hx : x0.addr.length = 16) (hy : y0.addr.length = 16) (ht : t0.length = 16) (w : World) :
    Calls Tryd.prog 33 #[.agg x0.cells.toArray, .agg y0.cells.toArray, .agg (bvs t0).toArray] w fun e w' => e = .returned (.bool (betterB x0 y0 t0)) ∧ Below w.heap.size w w' := by
  have hSx := sizeBv hx
  have hSy := sizeBv hy
  have hSt := sizeBv ht
  rw [List.size_toArray] at hSx hSy hSt
  have hu := Tryd.underlying27
  have hq1 : ∀ W : World, (Op.equalIn 10000 27 (.agg (bvs x0.addr).toArray) (.agg (bvs t0).toArray)).run Tryd.prog W = .ok (x0.addr == t0) W := fun W => eq_addr 9998 W hx ht
  have hq2 : ∀ W : World, (Op.equalIn 10000 27 (.agg (bvs y0.addr).toArray) (.agg (bvs t0).toArray)).run Tryd.prog W = .ok (y0.addr == t0) W := fun W => eq_addr 9998 W hy ht
  have cX := fun W => refScope_e x0.addr hx W
  have cY := fun W => refScope_e y0.addr hy W
  have cT := fun W => refScope_e t0 ht W
  have pX := fun W => refPolicy_e x0.addr hx W
  have pY := fun W => refPolicy_e y0.addr hy W
  have pT := fun W => refPolicy_e t0 ht W
  have sX := fun W => refShared_e x0.addr t0 hx ht W
  have sY := fun W => refShared_e y0.addr t0 hy ht W
  obtain ⟨kx, kxd, kxh⟩ := LV.has hx
  obtain ⟨ky, kyd, kyh⟩ := LV.has hy
  have hB : betterB x0 y0 t0 = if (!((x0.addr == t0) == (y0.addr == t0))) = true then (x0.addr == t0)
    else if scA x0.addr < scA y0.addr then decide (scA t0 ≤ scA x0.addr)
    else if scA y0.addr < scA x0.addr then decide (scA y0.addr < scA t0)
    else if (!(x0.dep == y0.dep)) = true then y0.dep
    else if (!(x0.home == y0.home)) = true then x0.home
    else if (!(((polA x0.addr).2 == (polA t0).2) == ((polA y0.addr).2 == (polA t0).2))) = true then ((polA x0.addr).2 == (polA t0).2)
    else decide (sh y0.addr t0 < sh x0.addr t0) := rfl
  generalize betterB x0 y0 t0 = R at *
  generalize scA x0.addr = sx at *
  generalize scA y0.addr = sy at *
  generalize scA t0 = st at *
  generalize (polA x0.addr).1 = qx at *
  generalize (polA y0.addr).1 = qy at *
  generalize (polA t0).1 = qt at *
  generalize (polA x0.addr).2 = lx at *
  generalize (polA y0.addr).2 = ly at *
  generalize (polA t0).2 = lt at *
  generalize sh x0.addr t0 = px at *
  generalize sh y0.addr t0 = py at *
  generalize (x0.addr == t0) = e1 at *
  generalize (y0.addr == t0) = e2 at *
  generalize x0.dep = xd at *
  generalize x0.home = xh at *
  generalize y0.dep = yd at *
  generalize y0.home = yh at *
  generalize x0.cells = xc at *
  generalize y0.cells = yc at *
  generalize bvs x0.addr = x at *
  generalize bvs y0.addr = y at *
  generalize bvs t0 = t at *
  obtain ⟨w2, hw2⟩ : ∃ w2, w2 = ((w.alloc (.cells xc.toArray 42)).alloc (.cells yc.toArray 42)).alloc (.cells t.toArray 27) := ⟨_, rfl⟩
  have hz2 : w2.heap.size = w.heap.size + 3 := by rw [hw2, World.size_alloc, World.size_alloc, World.size_alloc]
  have b1 : w2.heap[w.heap.size]? = some (.cells xc.toArray 42 (0, 0)) := by
    rw [hw2, heap_alloc_old' _ _ (by rw [World.size_alloc, World.size_alloc]; omega)]; exact heap_alloc2_old _ _ _
  have b2 : w2.heap[w.heap.size + 1]? = some (.cells yc.toArray 42 (0, 0)) := by
    rw [hw2, heap_alloc_old' _ _ (by rw [World.size_alloc, World.size_alloc]; omega)]; exact heap_alloc2_new _ _ _
  have b3 : w2.heap[w.heap.size + 2]? = some (.cells t.toArray 27 (0, 0)) := by
    rw [hw2, show w.heap.size + 2 = ((w.alloc (.cells xc.toArray 42)).alloc (.cells yc.toArray 42)).heap.size by rw [World.size_alloc, World.size_alloc]]; exact heap_alloc_last _ _
  have hb2 : Below w.heap.size w w2 := by
    rw [hw2]
    exact (((Below.refl _ w).alloc (Nat.le_refl _) _).alloc (by rw [World.size_alloc]; omega) _).alloc (by rw [World.size_alloc, World.size_alloc]; omega) _
  have lX : ∀ W, Below w2.heap.size w2 W → ∀ j v, x.toArray.toList[j]? = some v → W.cell? ((⟨w.heap.size, 0, none⟩ : Addr).add j) = some v := fun W hb j v hj => by
    rw [Addr.add_lit, Nat.zero_add, hb.cell (p := ⟨w.heap.size, j, none⟩) (by show w.heap.size < _; omega), cell_of_row _ _ _ _ _ _ b1, List.getElem?_toArray]; exact kx j v hj
  have lY : ∀ W, Below w2.heap.size w2 W → ∀ j v, y.toArray.toList[j]? = some v → W.cell? ((⟨w.heap.size + 1, 0, none⟩ : Addr).add j) = some v := fun W hb j v hj => by
    rw [Addr.add_lit, Nat.zero_add, hb.cell (p := ⟨w.heap.size + 1, j, none⟩) (by show w.heap.size + 1 < _; omega), cell_of_row _ _ _ _ _ _ b2, List.getElem?_toArray]; exact ky j v hj
  have lT : ∀ W, Below w2.heap.size w2 W → ∀ j v, t.toArray.toList[j]? = some v → W.cell? ((⟨w.heap.size + 2, 0, none⟩ : Addr).add j) = some v := fun W hb j v hj => by
    rw [Addr.add_lit, Nat.zero_add, hb.cell (p := ⟨w.heap.size + 2, j, none⟩) (by show w.heap.size + 2 < _; omega), cell_of_row _ _ _ _ _ _ b3, List.getElem?_toArray]; exact hj
  have LX := Lib.hid lX
  have LY := Lib.hid lY
  have LT := Lib.hid lT
  have RX := Lib.hid (fun (W : World) (hb : Below w2.heap.size w2 W) => (fun j v hj => by have := lX W hb j v hj; rwa [Addr.add_lit] at this : W.rangeAt w.heap.size 0 x))
  have RY := Lib.hid (fun (W : World) (hb : Below w2.heap.size w2 W) => (fun j v hj => by have := lY W hb j v hj; rwa [Addr.add_lit] at this : W.rangeAt (w.heap.size + 1) 0 y))
  have RT := Lib.hid (fun (W : World) (hb : Below w2.heap.size w2 W) => (fun j v hj => by have := lT W hb j v hj; rwa [Addr.add_lit] at this : W.rangeAt (w.heap.size + 2) 0 t))
  have DX := Lib.hid (fun (W : World) (hb : Below w2.heap.size w2 W) => (by rw [hb.cell (p := ⟨w.heap.size, 16, none⟩) (by show w.heap.size < _; omega), cell_of_row _ _ _ _ _ _ b1, List.getElem?_toArray]; exact kxd : W.cell? ⟨w.heap.size, 16, none⟩ = some (.bool xd)))
  have HHX := Lib.hid (fun (W : World) (hb : Below w2.heap.size w2 W) => (by rw [hb.cell (p := ⟨w.heap.size, 17, none⟩) (by show w.heap.size < _; omega), cell_of_row _ _ _ _ _ _ b1, List.getElem?_toArray]; exact kxh : W.cell? ⟨w.heap.size, 17, none⟩ = some (.bool xh)))
  have DY := Lib.hid (fun (W : World) (hb : Below w2.heap.size w2 W) => (by rw [hb.cell (p := ⟨w.heap.size + 1, 16, none⟩) (by show w.heap.size + 1 < _; omega), cell_of_row _ _ _ _ _ _ b2, List.getElem?_toArray]; exact kyd : W.cell? ⟨w.heap.size + 1, 16, none⟩ = some (.bool yd)))
  have HHY := Lib.hid (fun (W : World) (hb : Below w2.heap.size w2 W) => (by rw [hb.cell (p := ⟨w.heap.size + 1, 17, none⟩) (by show w.heap.size + 1 < _; omega), cell_of_row _ _ _ _ _ _ b2, List.getElem?_toArray]; exact kyh : W.cell? ⟨w.heap.size + 1, 17, none⟩ = some (.bool yh)))
  have CX := Lib.hid cX
  have CY := Lib.hid cY
  have CT := Lib.hid cT
  have PX := Lib.hid pX
  have PY := Lib.hid pY
  have PT := Lib.hid pT
  have SX := Lib.hid sX
  have SY := Lib.hid sY
  have HSx := Lib.hid hSx
  have HSy := Lib.hid hSy
  have HSt := Lib.hid hSt
  have HB2 := Lib.hid hb2
  have HR0 := Lib.hid hB
  clear kx kxd kxh ky kyd kyh b1 b2 b3 hb2 cX cY cT pX pY pT sX sY hx hy ht hz2 lX lY lT hSx hSy hSt hB
  go_enter Tryd.func33, Tryd.ntmps33
  go_wp2_with fail
  rw [← hw2]
  clear hw2
  refine wp_region_held_drew (S := (fun W : World => Below w2.heap.size w2 W)) (by kernel_rfl) (Below.refl _ w2).drew (fun hHeld => ?_)
  refine wpAnyH_take (i := 0) (oi := ({ dst := some 16, op := Go.Op.fieldAddr 42 (Go.Operand.tmp 3) 0, type := 0, pos := "ref.go:75", after := #[], guard := none } : Oper)) (v := .pointer (some ⟨w.heap.size, 0, none⟩)) rfl (by kernel_rfl) (by kernel_rfl) (by kernel_rfl) (fun _ _ _ h => h) (Or.inl ⟨by rfl, fun w' _ => ?_⟩) hHeld ?_
  · go_simp
  simp only [Act.put, List.setIfInBounds_toArray, List.set_cons_zero, List.set_cons_succ]
  refine wpAnyH_take (i := 1) (oi := ({ dst := some 17, op := Go.Op.load 27 (Go.Operand.tmp 16), type := 27, pos := "ref.go:75", after := #[{ on := 0, ground := Go.Ground.data }], guard := none } : Oper)) (v := .agg (x).toArray) rfl (by kernel_rfl) (by kernel_rfl) (by kernel_rfl) (fun _ _ _ h => h) (yieldsIf_load_mid (by rfl) _ _ rfl _ _ rfl _ _ (fun W h => RX.out W h) hu rfl HSx.out) hHeld ?_
  simp only [Act.put, List.setIfInBounds_toArray, List.set_cons_zero, List.set_cons_succ]
  refine wpAnyH_take (i := 2) (oi := ({ dst := some 18, op := Go.Op.load 27 (Go.Operand.tmp 5), type := 27, pos := "ref.go:75", after := #[], guard := none } : Oper)) (v := .agg (t).toArray) rfl (by kernel_rfl) (by kernel_rfl) (by kernel_rfl) (fun _ _ _ h => h) (yieldsIf_load_mid (by rfl) _ _ rfl _ _ rfl _ _ (fun W h => RT.out W h) hu rfl HSt.out) hHeld ?_
  simp only [Act.put, List.setIfInBounds_toArray, List.set_cons_zero, List.set_cons_succ]
  refine wpAnyH_take (i := 3) (oi := ({ dst := some 19, op := Go.Op.binOp Go.BinOp.eql 27 (Go.Operand.tmp 17) (Go.Operand.tmp 18) 27, type := 4, pos := "ref.go:75", after := #[{ on := 1, ground := Go.Ground.data }, { on := 2, ground := Go.Ground.data }], guard := none } : Oper)) (v := .bool e1) rfl (by kernel_rfl) (by kernel_rfl) (by kernel_rfl) (fun _ _ _ h => h) (Or.inl ⟨by rfl, fun w' _ => ?_⟩) hHeld ?_
  · go_simp
  simp only [Act.put, List.setIfInBounds_toArray, List.set_cons_zero, List.set_cons_succ]
  refine wpAnyH_take (i := 4) (oi := ({ dst := some 20, op := Go.Op.fieldAddr 42 (Go.Operand.tmp 4) 0, type := 0, pos := "ref.go:75", after := #[], guard := none } : Oper)) (v := .pointer (some ⟨w.heap.size + 1, 0, none⟩)) rfl (by kernel_rfl) (by kernel_rfl) (by kernel_rfl) (fun _ _ _ h => h) (Or.inl ⟨by rfl, fun w' _ => ?_⟩) hHeld ?_
  · go_simp
  simp only [Act.put, List.setIfInBounds_toArray, List.set_cons_zero, List.set_cons_succ]
  refine wpAnyH_take (i := 5) (oi := ({ dst := some 21, op := Go.Op.load 27 (Go.Operand.tmp 20), type := 27, pos := "ref.go:75", after := #[{ on := 4, ground := Go.Ground.data }], guard := none } : Oper)) (v := .agg (y).toArray) rfl (by kernel_rfl) (by kernel_rfl) (by kernel_rfl) (fun _ _ _ h => h) (yieldsIf_load_mid (by rfl) _ _ rfl _ _ rfl _ _ (fun W h => RY.out W h) hu rfl HSy.out) hHeld ?_
  simp only [Act.put, List.setIfInBounds_toArray, List.set_cons_zero, List.set_cons_succ]
  refine wpAnyH_take (i := 6) (oi := ({ dst := some 22, op := Go.Op.load 27 (Go.Operand.tmp 5), type := 27, pos := "ref.go:75", after := #[], guard := none } : Oper)) (v := .agg (t).toArray) rfl (by kernel_rfl) (by kernel_rfl) (by kernel_rfl) (fun _ _ _ h => h) (yieldsIf_load_mid (by rfl) _ _ rfl _ _ rfl _ _ (fun W h => RT.out W h) hu rfl HSt.out) hHeld ?_
  simp only [Act.put, List.setIfInBounds_toArray, List.set_cons_zero, List.set_cons_succ]
  refine wpAnyH_take (i := 7) (oi := ({ dst := some 23, op := Go.Op.binOp Go.BinOp.eql 27 (Go.Operand.tmp 21) (Go.Operand.tmp 22) 27, type := 4, pos := "ref.go:75", after := #[{ on := 5, ground := Go.Ground.data }, { on := 6, ground := Go.Ground.data }], guard := none } : Oper)) (v := .bool e2) rfl (by kernel_rfl) (by kernel_rfl) (by kernel_rfl) (fun _ _ _ h => h) (Or.inl ⟨by rfl, fun w' _ => ?_⟩) hHeld ?_
  · go_simp
  simp only [Act.put, List.setIfInBounds_toArray, List.set_cons_zero, List.set_cons_succ]
  refine wpAnyH_take (i := 8) (oi := ({ dst := some 24, op := Go.Op.binOp Go.BinOp.neq 4 (Go.Operand.tmp 19) (Go.Operand.tmp 23) 4, type := 4, pos := "ref.go:75", after := #[{ on := 3, ground := Go.Ground.data }, { on := 7, ground := Go.Ground.data }], guard := none } : Oper)) (v := .bool (!(e1 == e2))) rfl (by kernel_rfl) (by kernel_rfl) (by kernel_rfl) (fun _ _ _ h => h) (Or.inl ⟨by rfl, fun w' _ => ?_⟩) hHeld ?_
  · go_simp
  simp only [Act.put, List.setIfInBounds_toArray, List.set_cons_zero, List.set_cons_succ]
  refine wpAnyH_done (by kernel_rfl) ?_ _
  have HQ0 := Lib.hid hHeld
  obtain ⟨b, hb⟩ : ∃ b, b = !(e1 == e2) := ⟨_, rfl⟩
  rw [← hb]
  rw [← hb] at HR0
  clear hb
  cases b with
  | true =>
    have HR := Lib.hid (show R = e1 by rw [HR0.out, if_pos rfl])
    go_wp2_with (first
      | (refine wpList_load_agg rfl 27 (.tmp 25) rfl ⟨w.heap.size, 0, none⟩ rfl x.toArray _ (LX.out _ HQ0.out) Tryd.underlying27 rfl HSx.out ?_; go_simp)
      | (refine wpList_load_agg rfl 27 (.tmp 5) rfl ⟨w.heap.size + 2, 0, none⟩ rfl t.toArray _ (LT.out _ HQ0.out) Tryd.underlying27 rfl HSt.out ?_; go_simp))
    go_ret
    refine ⟨?_, HB2.out.trans (HQ0.out.mono HB2.out.size)⟩
    rw [HR.out]
    first | rfl | (simp; done)
  | false =>
  have HR1 := Lib.hid (show R = _ by rw [HR0.out, if_neg (by simp)])
  clear HR0
  go_wp2_with (first
    | (refine wpList_load_agg rfl 27 (.tmp 29) rfl ⟨w.heap.size, 0, none⟩ rfl x.toArray _ (LX.out _ HQ0.out) Tryd.underlying27 rfl HSx.out ?_; go_simp))
  refine (CX.out _).mono ?_
  rintro e w3 ⟨rfl, hbn⟩
  have HQ1 := Lib.hid (HQ0.out.trans (hbn.mono HQ0.out.size))
  clear hbn
  go_wp2_with (first
    | (refine wpList_load_agg rfl 27 (.tmp 32) rfl ⟨w.heap.size + 1, 0, none⟩ rfl y.toArray _ (LY.out _ HQ1.out) Tryd.underlying27 rfl HSy.out ?_; go_simp))
  refine (CY.out _).mono ?_
  rintro e w4 ⟨rfl, hbn⟩
  have HQ2 := Lib.hid (HQ1.out.trans (hbn.mono HQ1.out.size))
  clear hbn
  go_wp2_with (first
    | (refine wpList_load_agg rfl 27 (.tmp 5) rfl ⟨w.heap.size + 2, 0, none⟩ rfl t.toArray _ (LT.out _ HQ2.out) Tryd.underlying27 rfl HSt.out ?_; go_simp))
  refine (CT.out _).mono ?_
  rintro e w5 ⟨rfl, hbn⟩
  have HQ3 := Lib.hid (HQ2.out.trans (hbn.mono HQ2.out.size))
  clear hbn
  by_cases hc1 : sx < sy
  · have HR := Lib.hid (show R = decide (st ≤ sx) by rw [HR1.out, if_pos hc1])
    have g1 : (sx : Int) < (sy : Int) := by omega
    clear HR1
    go_wp2_with fail
    go_ret
    refine ⟨?_, HB2.out.trans (HQ3.out.mono HB2.out.size)⟩
    rw [HR.out]
    first | rfl | (simp; done) | (congr 2; simp)
  have HR2 := Lib.hid (show R = _ by rw [HR1.out, if_neg hc1])
  clear HR1
  have g1 : ¬ (sx : Int) < (sy : Int) := by omega
  by_cases hc2 : sy < sx
  · have HR := Lib.hid (show R = decide (sy < st) by rw [HR2.out, if_pos hc2])
    have g2 : (sy : Int) < (sx : Int) := by omega
    clear HR2
    go_wp2_with fail
    go_ret
    refine ⟨?_, HB2.out.trans (HQ3.out.mono HB2.out.size)⟩
    rw [HR.out]
    first | rfl | (simp; done) | (congr 2; simp)
  have HR3 := Lib.hid (show R = _ by rw [HR2.out, if_neg hc2])
  clear HR2
  have g2 : ¬ (sy : Int) < (sx : Int) := by omega
  have d1 := DX.out _ HQ3.out
  have d2 := DY.out _ HQ3.out
  have d3 := HHX.out _ HQ3.out
  have d4 := HHY.out _ HQ3.out
  by_cases hc3 : (!xd == yd) = true
  · have HR := Lib.hid (show R = yd by rw [HR3.out, if_pos hc3])
    clear HR3
    go_wp2_with fail
    go_ret
    refine ⟨?_, HB2.out.trans (HQ3.out.mono HB2.out.size)⟩
    rw [HR.out]
    first | rfl | (simp; done)
  have HR4 := Lib.hid (show R = _ by rw [HR3.out, if_neg hc3])
  clear HR3
  by_cases hc4 : (!xh == yh) = true
  · have HR := Lib.hid (show R = xh by rw [HR4.out, if_pos hc4])
    clear HR4
    go_wp2_with fail
    go_ret
    refine ⟨?_, HB2.out.trans (HQ3.out.mono HB2.out.size)⟩
    rw [HR.out]
    first | rfl | (simp; done)
  have HR5 := Lib.hid (show R = _ by rw [HR4.out, if_neg hc4])
  clear HR4
  go_wp2_with (first
    | (refine wpList_load_agg rfl 27 (.tmp 64) rfl ⟨w.heap.size, 0, none⟩ rfl x.toArray _ (LX.out _ HQ3.out) Tryd.underlying27 rfl HSx.out ?_; go_simp))
  refine (PX.out _).mono ?_
  rintro e w6 ⟨rfl, hbn⟩
  have HQ4 := Lib.hid (HQ3.out.trans (hbn.mono HQ3.out.size))
  clear hbn
  go_wp2_with (first
    | (refine wpList_load_agg rfl 27 (.tmp 70) rfl ⟨w.heap.size + 1, 0, none⟩ rfl y.toArray _ (LY.out _ HQ4.out) Tryd.underlying27 rfl HSy.out ?_; go_simp))
  refine (PY.out _).mono ?_
  rintro e w7 ⟨rfl, hbn⟩
  have HQ5 := Lib.hid (HQ4.out.trans (hbn.mono HQ4.out.size))
  clear hbn
  go_wp2_with (first
    | (refine wpList_load_agg rfl 27 (.tmp 5) rfl ⟨w.heap.size + 2, 0, none⟩ rfl t.toArray _ (LT.out _ HQ5.out) Tryd.underlying27 rfl HSt.out ?_; go_simp))
  refine (PT.out _).mono ?_
  rintro e w8 ⟨rfl, hbn⟩
  have HQ6 := Lib.hid (HQ5.out.trans (hbn.mono HQ5.out.size))
  clear hbn
  clear d1 d2 d3 d4
  have n1 : ((lx : Int) == (lt : Int)) = (lx == lt) := by rw [Bool.eq_iff_iff, beq_iff_eq, beq_iff_eq]; omega
  have n2 : ((ly : Int) == (lt : Int)) = (ly == lt) := by rw [Bool.eq_iff_iff, beq_iff_eq, beq_iff_eq]; omega
  rw [← n1, ← n2] at HR5
  clear n1 n2
  by_cases hc5 : (!((lx : Int) == (lt : Int)) == ((ly : Int) == (lt : Int))) = true
  · have HR := Lib.hid (show R = ((lx : Int) == (lt : Int)) by rw [HR5.out, if_pos hc5])
    clear HR5
    go_wp2_with fail
    go_ret
    refine ⟨?_, HB2.out.trans (HQ6.out.mono HB2.out.size)⟩
    rw [HR.out]
    first | rfl | (simp; done)
  have HR := Lib.hid (show R = _ by rw [HR5.out, if_neg hc5])
  clear HR5
  go_wp2_with fail
  refine wp_region_held_drew (S := (fun W : World => Below w2.heap.size w2 W)) (by kernel_rfl) HQ6.out.drew (fun hHeld => ?_)
  refine wpAnyH_take (i := 0) (oi := ({ dst := some 90, op := Go.Op.fieldAddr 42 (Go.Operand.tmp 3) 0, type := 0, pos := "ref.go:99", after := #[], guard := none } : Oper)) (v := .pointer (some ⟨w.heap.size, 0, none⟩)) rfl (by kernel_rfl) (by kernel_rfl) (by kernel_rfl) (fun _ _ _ h => h) (Or.inl ⟨by rfl, fun w' _ => ?_⟩) hHeld ?_
  · go_simp
  simp only [Act.put, List.setIfInBounds_toArray, List.set_cons_zero, List.set_cons_succ]
  refine wpAnyH_take (i := 1) (oi := ({ dst := some 91, op := Go.Op.load 27 (Go.Operand.tmp 90), type := 27, pos := "ref.go:99", after := #[{ on := 0, ground := Go.Ground.data }], guard := none } : Oper)) (v := .agg (x).toArray) rfl (by kernel_rfl) (by kernel_rfl) (by kernel_rfl) (fun _ _ _ h => h) (yieldsIf_load_mid (by rfl) _ _ rfl _ _ rfl _ _ (fun W h => RX.out W h) hu rfl HSx.out) hHeld ?_
  simp only [Act.put, List.setIfInBounds_toArray, List.set_cons_zero, List.set_cons_succ]
  refine wpAnyH_take (i := 2) (oi := ({ dst := some 92, op := Go.Op.load 27 (Go.Operand.tmp 5), type := 27, pos := "ref.go:99", after := #[], guard := none } : Oper)) (v := .agg (t).toArray) rfl (by kernel_rfl) (by kernel_rfl) (by kernel_rfl) (fun _ _ _ h => h) (yieldsIf_load_mid (by rfl) _ _ rfl _ _ rfl _ _ (fun W h => RT.out W h) hu rfl HSt.out) hHeld ?_
  simp only [Act.put, List.setIfInBounds_toArray, List.set_cons_zero, List.set_cons_succ]
  refine wpAnyH_take (i := 4) (oi := ({ dst := some 94, op := Go.Op.fieldAddr 42 (Go.Operand.tmp 4) 0, type := 0, pos := "ref.go:99", after := #[], guard := none } : Oper)) (v := .pointer (some ⟨w.heap.size + 1, 0, none⟩)) rfl (by kernel_rfl) (by kernel_rfl) (by kernel_rfl) (fun _ _ _ h => h) (Or.inl ⟨by rfl, fun w' _ => ?_⟩) hHeld ?_
  · go_simp
  simp only [Act.put, List.setIfInBounds_toArray, List.set_cons_zero, List.set_cons_succ]
  refine wpAnyH_take (i := 5) (oi := ({ dst := some 95, op := Go.Op.load 27 (Go.Operand.tmp 94), type := 27, pos := "ref.go:99", after := #[{ on := 4, ground := Go.Ground.data }], guard := none } : Oper)) (v := .agg (y).toArray) rfl (by kernel_rfl) (by kernel_rfl) (by kernel_rfl) (fun _ _ _ h => h) (yieldsIf_load_mid (by rfl) _ _ rfl _ _ rfl _ _ (fun W h => RY.out W h) hu rfl HSy.out) hHeld ?_
  simp only [Act.put, List.setIfInBounds_toArray, List.set_cons_zero, List.set_cons_succ]
  refine wpAnyH_take (i := 6) (oi := ({ dst := some 96, op := Go.Op.load 27 (Go.Operand.tmp 5), type := 27, pos := "ref.go:99", after := #[], guard := none } : Oper)) (v := .agg (t).toArray) rfl (by kernel_rfl) (by kernel_rfl) (by kernel_rfl) (fun _ _ _ h => h) (yieldsIf_load_mid (by rfl) _ _ rfl _ _ rfl _ _ (fun W h => RT.out W h) hu rfl HSt.out) hHeld ?_
  simp only [Act.put, List.setIfInBounds_toArray, List.set_cons_zero, List.set_cons_succ]
  refine wpAnyH_ready (rs := [3]) (by kernel_rfl) (by simp) ?_
  refine AllReadyH.cons (o := ({ dst := some 93, op := Go.Op.call { callee := Go.Callee.value (Go.Operand.func 24), args := #[Go.Operand.tmp 91, Go.Operand.tmp 92], argTypes := #[27, 27] }, type := 3, pos := "ref.go:99", after := #[{ on := 1, ground := Go.Ground.data }, { on := 2, ground := Go.Ground.data }], guard := none } : Oper)) rfl (fun K hK => ?_) AllReadyH.nil
  go_simp
  go_at_call 24
  refine (SX.out _).mono ?_
  rintro e' wc ⟨rfl, hbc⟩
  refine hK.out _ _ (Below.trans hHeld (Below.mono hbc (Below.size hHeld))) (fun hHeld' => ?_)
  clear hK K hbc
  try clear hHeld
  try simp only [Act.put, List.setIfInBounds_toArray, List.set_cons_zero, List.set_cons_succ]
  refine wpAnyH_ready (rs := [7]) (by kernel_rfl) (by simp) ?_
  refine AllReadyH.cons (o := ({ dst := some 97, op := Go.Op.call { callee := Go.Callee.value (Go.Operand.func 24), args := #[Go.Operand.tmp 95, Go.Operand.tmp 96], argTypes := #[27, 27] }, type := 3, pos := "ref.go:99", after := #[{ on := 5, ground := Go.Ground.data }, { on := 6, ground := Go.Ground.data }, { on := 3, ground := Go.Ground.chain }], guard := none } : Oper)) rfl (fun K hK => ?_) AllReadyH.nil
  go_simp
  go_at_call 24
  refine (SY.out _).mono ?_
  rintro e' wc ⟨rfl, hbc⟩
  refine hK.out _ _ (Below.trans hHeld' (Below.mono hbc (Below.size hHeld'))) (fun hHeld'' => ?_)
  clear hK K hbc
  try clear hHeld'
  try simp only [Act.put, List.setIfInBounds_toArray, List.set_cons_zero, List.set_cons_succ]
  refine wpAnyH_take (i := 8) (oi := ({ dst := some 98, op := Go.Op.binOp Go.BinOp.gtr 3 (Go.Operand.tmp 93) (Go.Operand.tmp 97) 3, type := 4, pos := "ref.go:99", after := #[{ on := 3, ground := Go.Ground.data }, { on := 7, ground := Go.Ground.data }], guard := none } : Oper)) (v := .bool (decide (py < px))) rfl (by kernel_rfl) (by kernel_rfl) (by kernel_rfl) (fun _ _ _ h => h) (Or.inl ⟨by rfl, fun w' _ => ?_⟩) hHeld'' ?_
  · go_simp
  simp only [Act.put, List.setIfInBounds_toArray, List.set_cons_zero, List.set_cons_succ]
  refine wpAnyH_take (i := 9) (oi := ({ dst := some 6, op := Go.Op.assign (Go.Operand.tmp 98), type := 4, pos := "ref.go:99", after := #[{ on := 8, ground := Go.Ground.data }, { on := 7, ground := Go.Ground.chain }, { on := 0, ground := Go.Ground.phase }, { on := 1, ground := Go.Ground.phase }, { on := 2, ground := Go.Ground.phase }, { on := 3, ground := Go.Ground.phase }, { on := 4, ground := Go.Ground.phase }, { on := 5, ground := Go.Ground.phase }, { on := 6, ground := Go.Ground.phase }, { on := 7, ground := Go.Ground.phase }, { on := 8, ground := Go.Ground.phase }], guard := none } : Oper)) (v := .bool (decide (py < px))) rfl (by kernel_rfl) (by kernel_rfl) (by kernel_rfl) (fun _ _ _ h => h) (Or.inl ⟨by rfl, fun w' _ => ?_⟩) hHeld'' ?_
  · go_simp
  simp only [Act.put, List.setIfInBounds_toArray, List.set_cons_zero, List.set_cons_succ]
  refine wpAnyH_done (by kernel_rfl) ?_ _
  go_wp2_with fail
  go_ret
  refine ⟨?_, HB2.out.trans (Below.mono hHeld'' HB2.out.size)⟩
  rw [HR.out]
  rfl
end Go.Proofs.YtoaedlllnkcfnaaDoor
