/-
  The walk of AddrApart: unlike addresses have unlike texts. Condition: the library's variables hold what their initialisers lay.
-/
import Derived.Test.YtohjkfhjkghhfaaDoorAddrFit
import Derived.Deep.RegionHeld3
namespace Go.Proofs.YtohjkfhjkghhfaaDoor
open Go.RowKit

theorem run_eq_addr (W : World) {x y : List UInt8} (hx : x.length = 16) (hy : y.length = 16) : (Op.equalIn 10000 23 (.agg (bvs x).toArray) (.agg (bvs y).toArray)).run Tryd.prog W = .ok (x == y) W := eq_addr 9998 W hx hy
theorem range_row {w : World} {g : Nat} {cs : List Value} {t : TypeId} {fr : Nat × Nat} (hg : w.heap[g]? = some (.cells cs.toArray t fr)) : w.rangeAt g 0 cs := fun j v hj => by
  rw [Nat.zero_add, cell_of_row w g j _ t fr hg]; simpa using hj
theorem range_below {w w' : World} {g : Nat} {cs : List Value} (h : w.rangeAt g 0 cs) (hlt : g < w.heap.size) (hb : Below w.heap.size w w') : w'.rangeAt g 0 cs := fun j v hj => (hb.cell (p := ⟨g, 0 + j, none⟩) hlt).trans (h j v hj)
/-- two addresses lie in memory, and the library's variables are as they were -/
structure APS (w : World) (g1 g2 : Nat) (c1 c2 : List Value) (wr : World) : Prop where
  ra : wr.rangeAt g1 0 c1
  rb : wr.rangeAt g2 0 c2
  la : g1 < wr.heap.size
  lb : g2 < wr.heap.size
  env : AEnv wr
  below : Below w.heap.size w wr
theorem APS.step {w wr w2 : World} {g1 g2 : Nat} {c1 c2 : List Value} (h : APS w g1 g2 c1 c2 wr) (hb : Below wr.heap.size wr w2) : APS w g1 g2 c1 c2 w2 :=
  ⟨range_below h.ra h.la hb, range_below h.rb h.lb hb, Nat.lt_of_lt_of_le h.la hb.size, Nat.lt_of_lt_of_le h.lb hb.size, h.env.below hb, h.below.trans (hb.mono h.below.size)⟩
theorem APS.drew {w wr : World} {g1 g2 : Nat} {c1 c2 : List Value} (h : APS w g1 g2 c1 c2 wr) : APS w g1 g2 c1 c2 wr.drew := h.step (Below.refl _ wr).drew
theorem txt_beq {a b : List UInt8} (ha : a.length = 16) (hb : b.length = 16) : ((tb (txt a)).toList == (tb (txt b)).toList) = (a == b) := by
  rw [Lib.toList_data, Lib.toList_data, tb_data, tb_data, Bool.eq_iff_iff, beq_iff_eq, beq_iff_eq]
  exact ⟨txt_inj ha hb, fun e => by rw [e]⟩
set_option maxRecDepth 100000 in
set_option maxHeartbeats 1000000 in
theorem addrApart_walk (a : List UInt8) (ha : a.length = 16) (b : List UInt8) (hb : b.length = 16) (w : World) (he : AEnv w) :
    Calls Tryd.prog 8 #[.agg (bvs a).toArray, .agg (bvs b).toArray] w fun e w' => e = .returned (.bool true) ∧ Below w.heap.size w w' := by
  have hq : ∀ W : World, (Op.equalIn 10000 23 (.agg (bvs a).toArray) (.agg (bvs b).toArray)).run Tryd.prog W = .ok (a == b) W := fun W => run_eq_addr W ha hb
  have hS : (Tryd.prog.info? 23).map (·.size) = some (bvs a).length := by rw [sizeAddr, bvs_length, ha]
  have hS2 : (Tryd.prog.info? 23).map (·.size) = some (bvs b).length := by rw [sizeAddr, bvs_length, hb]
  have hu := Tryd.underlying23
  have hpa := fun W (hW : AEnv W) => print_e a ha W hW
  have hpb := fun W (hW : AEnv W) => print_e b hb W hW
  have hxy := txt_beq ha hb
  generalize tb (txt a) = x at hpa hxy
  generalize tb (txt b) = y at hpb hxy
  generalize (a == b) = res at hq hxy
  generalize bvs a = c1 at *
  generalize bvs b = c2 at *
  have ht : ∀ cs : List Value, cs.toArray.size = cs.length := fun cs => List.size_toArray
  have hb2 : Below w.heap.size w ((w.alloc (.cells c1.toArray 23)).alloc (.cells c2.toArray 23)) := ((Below.refl _ w).alloc (Nat.le_refl _) _).alloc (by rw [World.size_alloc]; omega) _
  have hp0 : APS w w.heap.size (w.heap.size + 1) c1 c2 ((w.alloc (.cells c1.toArray 23)).alloc (.cells c2.toArray 23)) :=
    ⟨range_row (heap_alloc2_old w _ _), range_row (heap_alloc2_new w _ _), by rw [World.size_alloc, World.size_alloc]; omega, by rw [World.size_alloc, World.size_alloc]; omega, he.below hb2, hb2⟩
  have hfit := fun W (hW : AEnv W) => fit_e W hW
  have HP0 := Lib.hid hp0
  have HF := Lib.hid hfit
  have CA : ∀ W, APS w w.heap.size (w.heap.size + 1) c1 c2 W → Calls Tryd.prog 13 #[.agg c1.toArray] W fun e w' => e = .returned (.string x) ∧ APS w w.heap.size (w.heap.size + 1) c1 c2 w' := fun W hW => (hpa W hW.env).mono fun _ _ ⟨h1, h2⟩ => ⟨h1, hW.step h2⟩
  have CB : ∀ W, APS w w.heap.size (w.heap.size + 1) c1 c2 W → Calls Tryd.prog 13 #[.agg c2.toArray] W fun e w' => e = .returned (.string y) ∧ APS w w.heap.size (w.heap.size + 1) c1 c2 w' := fun W hW => (hpb W hW.env).mono fun _ _ ⟨h1, h2⟩ => ⟨h1, hW.step h2⟩
  have HA := Lib.hid CA
  have HB := Lib.hid CB
  clear hpa hpb hp0 hfit CA CB he ha hb hb2 ht
  go_enter Tryd.func8, Tryd.ntmps8
  go_wp2_with fail
  refine (HF.out _ HP0.out.env).mono ?_
  rintro e w1 ⟨rfl, hb1⟩
  have h0 := HP0.out.step hb1
  clear hb1
  have r1 := h0.ra
  have r2 := h0.rb
  go_wp2_with fail
  refine wp_region_held_drew (S := APS w w.heap.size (w.heap.size + 1) c1 c2) (by kernel_rfl) h0.drew (fun hHeld => ?_)
  refine wpAnyH_take (i := 0) (oi := ({ dst := some 7, op := Go.Op.load 23 (Go.Operand.tmp 2), type := 23, pos := "law.go:127", after := #[], guard := none } : Oper)) (v := .agg c1.toArray) rfl (by kernel_rfl) (by kernel_rfl) (by kernel_rfl) (fun _ _ _ h => h) (yieldsIf_load_mid (by rfl) _ _ rfl _ _ rfl _ _ (fun w h => h.ra) hu rfl hS) hHeld ?_
  refine wpAnyH_take (i := 2) (oi := ({ dst := some 9, op := Go.Op.load 23 (Go.Operand.tmp 3), type := 23, pos := "law.go:127", after := #[], guard := none } : Oper)) (v := .agg c2.toArray) rfl (by kernel_rfl) (by kernel_rfl) (by kernel_rfl) (fun _ _ _ h => h) (yieldsIf_load_mid (by rfl) _ _ rfl _ _ rfl _ _ (fun w h => h.rb) hu rfl hS2) hHeld ?_
  refine wpAnyH_take (i := 5) (oi := ({ dst := some 12, op := Go.Op.load 23 (Go.Operand.tmp 2), type := 23, pos := "law.go:127", after := #[], guard := none } : Oper)) (v := .agg c1.toArray) rfl (by kernel_rfl) (by kernel_rfl) (by kernel_rfl) (fun _ _ _ h => h) (yieldsIf_load_mid (by rfl) _ _ rfl _ _ rfl _ _ (fun w h => h.ra) hu rfl hS) hHeld ?_
  refine wpAnyH_take (i := 6) (oi := ({ dst := some 13, op := Go.Op.load 23 (Go.Operand.tmp 3), type := 23, pos := "law.go:127", after := #[], guard := none } : Oper)) (v := .agg c2.toArray) rfl (by kernel_rfl) (by kernel_rfl) (by kernel_rfl) (fun _ _ _ h => h) (yieldsIf_load_mid (by rfl) _ _ rfl _ _ rfl _ _ (fun w h => h.rb) hu rfl hS2) hHeld ?_
  refine wpAnyH_take (i := 7) (oi := ({ dst := some 14, op := Go.Op.binOp Go.BinOp.eql 23 (Go.Operand.tmp 12) (Go.Operand.tmp 13) 23, type := 4, pos := "law.go:127", after := #[{ on := 5, ground := Go.Ground.data }, { on := 6, ground := Go.Ground.data }], guard := none } : Oper)) (v := .bool res) rfl (by kernel_rfl) (by kernel_rfl) (by kernel_rfl) (fun _ _ _ h => h) (Or.inl ⟨by rfl, fun w' _ => ?_⟩) hHeld ?_
  · go_simp
  simp only [Act.put, List.setIfInBounds_toArray, List.set_cons_zero, List.set_cons_succ]
  refine wpAnyH_ready (rs := [1]) (by kernel_rfl) (by simp) ?_
  refine AllReadyH.cons (o := ({ dst := some 8, op := Go.Op.call { callee := Go.Callee.value (Go.Operand.func 13), args := #[Go.Operand.tmp 7], argTypes := #[23] }, type := 9, pos := "law.go:127", after := #[{ on := 0, ground := Go.Ground.data }], guard := none } : Oper)) rfl (fun K hK => ?_) ?_
  · go_simp
    go_at_call 13
    refine (HA.out _ hHeld).mono ?_
    rintro e' w4 ⟨rfl, hp4⟩
    refine hK.out _ _ hp4 (fun hHeld' => ?_)
    clear hK K
    refine wpAnyH_ready (rs := [3]) (by kernel_rfl) (by simp) ?_
    refine AllReadyH.cons (o := ({ dst := some 10, op := Go.Op.call { callee := Go.Callee.value (Go.Operand.func 13), args := #[Go.Operand.tmp 9], argTypes := #[23] }, type := 9, pos := "law.go:127", after := #[{ on := 2, ground := Go.Ground.data }, { on := 1, ground := Go.Ground.chain }], guard := none } : Oper)) rfl (fun K hK => ?_) ?_
    · go_simp
      go_at_call 13
      refine (HB.out _ hHeld').mono ?_
      rintro e' w6 ⟨rfl, hp6⟩
      refine hK.out _ _ hp6 (fun hHeld'' => ?_)
      clear hK K
      refine wpAnyH_take (i := 4) (oi := ({ dst := some 11, op := Go.Op.binOp Go.BinOp.eql 9 (Go.Operand.tmp 8) (Go.Operand.tmp 10) 9, type := 4, pos := "law.go:127", after := #[{ on := 1, ground := Go.Ground.data }, { on := 3, ground := Go.Ground.data }], guard := none } : Oper)) (v := .bool res) rfl (by kernel_rfl) (by kernel_rfl) (by kernel_rfl) (fun _ _ _ h => h) (Or.inl ⟨by rfl, fun w' _ => ?_⟩) hHeld'' ?_
      · go_simp
      refine wpAnyH_take (i := 8) (oi := ({ dst := some 15, op := Go.Op.binOp Go.BinOp.eql 4 (Go.Operand.tmp 11) (Go.Operand.tmp 14) 4, type := 4, pos := "law.go:127", after := #[{ on := 4, ground := Go.Ground.data }, { on := 7, ground := Go.Ground.data }], guard := none } : Oper)) (v := .bool true) rfl (by kernel_rfl) (by kernel_rfl) (by kernel_rfl) (fun _ _ _ h => h) (Or.inl ⟨by rfl, fun w' _ => ?_⟩) hHeld'' ?_
      · go_simp
      refine wpAnyH_take (i := 9) (oi := ({ dst := some 4, op := Go.Op.assign (Go.Operand.tmp 15), type := 4, pos := "law.go:127", after := #[{ on := 8, ground := Go.Ground.data }, { on := 3, ground := Go.Ground.chain }, { on := 0, ground := Go.Ground.phase }, { on := 1, ground := Go.Ground.phase }, { on := 2, ground := Go.Ground.phase }, { on := 3, ground := Go.Ground.phase }, { on := 4, ground := Go.Ground.phase }, { on := 5, ground := Go.Ground.phase }, { on := 6, ground := Go.Ground.phase }, { on := 7, ground := Go.Ground.phase }, { on := 8, ground := Go.Ground.phase }], guard := none } : Oper)) (v := .bool true) rfl (by kernel_rfl) (by kernel_rfl) (by kernel_rfl) (fun _ _ _ h => h) (Or.inl ⟨by rfl, fun w' _ => ?_⟩) hHeld'' ?_
      · go_simp
      simp only [Act.put, List.setIfInBounds_toArray, List.set_cons_zero, List.set_cons_succ]
      refine wpAnyH_done (by kernel_rfl) ?_ _
      go_wp2
      go_ret
      refine ⟨?_, hHeld''.below⟩
      rfl
    exact AllReadyH.nil
  exact AllReadyH.nil
end Go.Proofs.YtohjkfhjkghhfaaDoor
