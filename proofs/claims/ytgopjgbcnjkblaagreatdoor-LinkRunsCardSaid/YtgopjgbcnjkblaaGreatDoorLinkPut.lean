/-
  The walk of Put into a cache without entries. Conditions: each states its own.
-/
import Derived.Test.YtgopjgbcnjkblaaGreatDoorLinkPut0
import Derived.Great.BuildSlice
import Derived.Great.FillDense
import Derived.Laws.AppendOwn
namespace Go.Proofs.YtgopjgbcnjkblaaGreatDoor
open Go.RowKit Go.Lib

def zEn : List Value := [.string ⟨#[]⟩, .int .i64 0, .int .i64 0, .slice none 0 0, .int .i64 0, .int .i64 0]
theorem infoEn : ∃ i, Tryz.prog.info? 79 = some i ∧ i.zero = some (.agg zEn.toArray) ∧ i.size = 6 ∧ i.bytes = 72 := by
  obtain ⟨i0, hi, hz0, hz1, hz2⟩ := info_parts (show (Tryz.prog.info? 79).map (fun i => (i.zero, i.size, i.bytes)) = some (some (.agg zEn.toArray), 6, 72) by kernel_rfl)
  exact ⟨i0, hi, hz0, hz1, hz2⟩
theorem fill6 {cs : List Value} (h : cs.length = 6) : Instr.fill (fun i => some (i * 6, 6)) ((Array.range (1 * 6)).map ((Value.agg zEn.toArray).cells[· % (Value.agg zEn.toArray).cells.size]!)) [(0, .agg cs.toArray)] = some cs.toArray := by
  have := Great.fill_whole (s := 6) (by decide) [Value.agg cs.toArray] ((Array.range (1 * 6)).map ((Value.agg zEn.toArray).cells[· % (Value.agg zEn.toArray).cells.size]!)) (by simp [Value.cells, h]) (by simp)
  simpa [Value.cells] using this
theorem rangeQ {w : World} {g : Nat} {cs : List Value} {t : TypeId} {fr : Nat × Nat} (hg : w.heap[g]? = some (.cells cs.toArray t fr)) : w.rangeAt g 0 cs := fun j v hj => by
  rw [Nat.zero_add, cell_of_row w g j _ t fr hg]; simpa using hj
theorem sizeQ (a : ByteArray) (x : Int) : (Tryz.prog.info? 52).map (·.size) = some [Value.string a, .int .i64 x].length := (by kernel_rfl : (Tryz.prog.info? 52).map (·.size) = some 2)
def Put0 (C : Nat) (w : World) (e : Ending) (w' : World) : Prop := ∃ A c, e = .returned (.tuple #[]) ∧ w'.heap[C]? = some (.cells #[.int .i64 16, .slice A (0 + 1) c] 67 (0, 0)) ∧ w.grownBy w' (some C)
set_option maxRecDepth 100000 in
set_option maxHeartbeats 4000000 in
theorem put0_e {C : Nat} {w : World} (h : C16 w C) (qn : ByteArray) (qt out : Int) : Calls Tryz.prog 20 #[.pointer (some ⟨C, 0, none⟩), .int .i64 0, .agg #[.string qn, .int .i64 qt], .int .i64 out, .slice none 0 0, .int .i64 9] w fun e w' => Put0 C w e w' := by
  have hb : Below w.heap.size w (w.alloc (.cells #[.string qn, .int .i64 qt] 52)) := (Below.refl _ w).alloc (Nat.le_refl _) _
  have hA := (hb.block C (heap_ltk h)).trans h
  have c0 := cell_of_row _ C 0 _ _ _ hA
  simp only [List.getElem?_toArray, List.getElem?_cons_zero] at c0
  have hE := expire0_e hA 0
  have HSW := Lib.hid (grown_of_below (some C) hb)
  have HQ0 := Lib.hid (heap_alloc_last w (.cells #[.string qn, .int .i64 qt] 52))
  have hlt := heap_ltk h
  clear hb hA h
  go_enter Tryz.func20, Tryz.ntmps20
  go_wp2_with fail
  refine hE.mono ?_
  rintro e w2 ⟨rfl, hg2, hC2⟩
  obtain ⟨W0, hW0⟩ : ∃ B, B = w.heap.size := ⟨_, rfl⟩
  rw [← hW0] at HQ0 hlt ⊢
  have HQ2 := Lib.hid ((hg2.block W0 (heap_ltk HQ0.out) (fun e => by injection e with e; omega)).trans HQ0.out)
  have q0 := cell_of_row w2 W0 0 _ _ _ HQ2.out
  have q1 := cell_of_row w2 W0 1 _ _ _ HQ2.out
  simp only [List.getElem?_toArray, List.getElem?_cons_succ, List.getElem?_cons_zero] at q0 q1
  have hF := find0_e hC2 qn qt
  have HC2 := Lib.hid hC2
  have HS2 := Lib.hid (grown_trans HSW.out hg2)
  clear hE c0 hC2 hg2 HSW HQ0 hW0
  go_wp2_with fail
  refine hF.mono ?_
  rintro e w3 ⟨rfl, hb3⟩
  have HC3 := Lib.hid ((hb3.block C (heap_ltk HC2.out)).trans HC2.out)
  have HS3 := Lib.hid (grown_trans HS2.out (grown_of_below (some C) hb3))
  have HQ3 := Lib.hid ((hb3.block W0 (heap_ltk HQ2.out)).trans HQ2.out)
  clear hF hb3 q0 q1 HC2 HS2 HQ2
  have c0 := cell_of_row w3 C 0 _ _ _ HC3.out
  have c1 := cell_of_row w3 C 1 _ _ _ HC3.out
  simp only [List.getElem?_toArray, List.getElem?_cons_succ, List.getElem?_cons_zero] at c0 c1
  go_wp2_with fail
  go_quiet (fail)
  go_wp2_with fail
  clear c0 c1
  have hbd : Below w3.heap.size w3 (w3.drewN nq).drew := ⟨rfl, rfl, rfl, Nat.le_refl _, fun _ _ => rfl⟩
  have HCX := Lib.hid ((hbd.block C (heap_ltk HC3.out)).trans HC3.out)
  have HQX := Lib.hid ((hbd.block W0 (heap_ltk HQ3.out)).trans HQ3.out)
  have HGX := Lib.hid (grown_trans HS3.out (grown_of_below (some C) hbd))
  clear hbd HC3 HQ3 HS3
  refine wp_region_held_drew (S := (fun W : World => W.heap[W0]? = some (.cells #[.string qn, .int .i64 qt] 52 (0, 0)))) (by kernel_rfl) HQX.out (fun hHeld => ?_)
  generalize (w3.drewN nq).drew = W at hHeld HCX HQX HGX ⊢
  have k1 := cell_of_row W C 1 _ _ _ HCX.out
  simp only [List.getElem?_toArray, List.getElem?_cons_succ, List.getElem?_cons_zero] at k1
  refine wpAnyH_take (i := 0) (oi := ({ dst := some 73, op := Go.Op.move (Go.Operand.tmp 0), type := 41, pos := "cache.go:76", after := #[], guard := none } : Oper)) (v := .pointer (some ⟨C, 0, none⟩)) rfl (by kernel_rfl) (by kernel_rfl) (by kernel_rfl) (fun _ _ _ h => h) (Or.inl ⟨by rfl, fun w' _ => ?_⟩) hHeld ?_
  · go_simp
  try simp only [Act.put, List.setIfInBounds_toArray, List.set_cons_zero, List.set_cons_succ]
  refine wpAnyH_take (i := 1) (oi := ({ dst := some 74, op := Go.Op.move (Go.Operand.tmp 0), type := 41, pos := "cache.go:76", after := #[], guard := none } : Oper)) (v := .pointer (some ⟨C, 0, none⟩)) rfl (by kernel_rfl) (by kernel_rfl) (by kernel_rfl) (fun _ _ _ h => h) (Or.inl ⟨by rfl, fun w' _ => ?_⟩) hHeld ?_
  · go_simp
  try simp only [Act.put, List.setIfInBounds_toArray, List.set_cons_zero, List.set_cons_succ]
  refine wpAnyH_take (i := 2) (oi := ({ dst := some 75, op := Go.Op.nilCheck (Go.Operand.tmp 74), type := 0, pos := "cache.go:76", after := #[{ on := 1, ground := Go.Ground.data }], guard := none } : Oper)) (v := .pointer (some ⟨C, 0, none⟩)) rfl (by kernel_rfl) (by kernel_rfl) (by kernel_rfl) (fun _ _ _ h => h) (Or.inl ⟨by rfl, fun w' _ => ?_⟩) hHeld ?_
  · go_simp
  try simp only [Act.put, List.setIfInBounds_toArray, List.set_cons_zero, List.set_cons_succ]
  refine wpAnyH_take (i := 3) (oi := ({ dst := some 76, op := Go.Op.fieldAddr 67 (Go.Operand.tmp 75) 1, type := 0, pos := "cache.go:76", after := #[{ on := 2, ground := Go.Ground.data }], guard := none } : Oper)) (v := .pointer (some ⟨C, 1, none⟩)) rfl (by kernel_rfl) (by kernel_rfl) (by kernel_rfl) (fun _ _ _ h => h) (Or.inl ⟨by rfl, fun w' _ => ?_⟩) hHeld ?_
  · go_simp
  try simp only [Act.put, List.setIfInBounds_toArray, List.set_cons_zero, List.set_cons_succ]
  refine wpAnyH_take (i := 5) (oi := ({ dst := some 78, op := Go.Op.load 52 (Go.Operand.tmp 8), type := 52, pos := "cache.go:76", after := #[], guard := none } : Oper)) (v := .agg #[.string qn, .int .i64 qt]) rfl (by kernel_rfl) (by kernel_rfl) (by kernel_rfl) (fun _ _ _ h => h) (yieldsIf_load_mid (by rfl) _ _ rfl _ _ rfl [.string qn, .int .i64 qt] _ (fun w h => rangeQ h) Tryz.underlying52 rfl (sizeQ qn qt)) hHeld ?_
  try simp only [Act.put, List.setIfInBounds_toArray, List.set_cons_zero, List.set_cons_succ]
  refine wpAnyH_take (i := 6) (oi := ({ dst := some 79, op := Go.Op.move (Go.Operand.tmp 3), type := 3, pos := "cache.go:76", after := #[], guard := none } : Oper)) (v := .int .i64 out) rfl (by kernel_rfl) (by kernel_rfl) (by kernel_rfl) (fun _ _ _ h => h) (Or.inl ⟨by rfl, fun w' _ => ?_⟩) hHeld ?_
  · go_simp
  try simp only [Act.put, List.setIfInBounds_toArray, List.set_cons_zero, List.set_cons_succ]
  refine wpAnyH_take (i := 7) (oi := ({ dst := some 80, op := Go.Op.move (Go.Operand.tmp 4), type := 74, pos := "cache.go:76", after := #[], guard := none } : Oper)) (v := .slice none 0 0) rfl (by kernel_rfl) (by kernel_rfl) (by kernel_rfl) (fun _ _ _ h => h) (Or.inl ⟨by rfl, fun w' _ => ?_⟩) hHeld ?_
  · go_simp
  try simp only [Act.put, List.setIfInBounds_toArray, List.set_cons_zero, List.set_cons_succ]
  refine wpAnyH_take (i := 9) (oi := ({ dst := some 82, op := Go.Op.move (Go.Operand.tmp 1), type := 3, pos := "cache.go:76", after := #[], guard := none } : Oper)) (v := .int .i64 0) rfl (by kernel_rfl) (by kernel_rfl) (by kernel_rfl) (fun _ _ _ h => h) (Or.inl ⟨by rfl, fun w' _ => ?_⟩) hHeld ?_
  · go_simp
  try simp only [Act.put, List.setIfInBounds_toArray, List.set_cons_zero, List.set_cons_succ]
  refine wpAnyH_take (i := 10) (oi := ({ dst := some 83, op := Go.Op.move (Go.Operand.tmp 5), type := 3, pos := "cache.go:76", after := #[], guard := none } : Oper)) (v := .int .i64 9) rfl (by kernel_rfl) (by kernel_rfl) (by kernel_rfl) (fun _ _ _ h => h) (Or.inl ⟨by rfl, fun w' _ => ?_⟩) hHeld ?_
  · go_simp
  try simp only [Act.put, List.setIfInBounds_toArray, List.set_cons_zero, List.set_cons_succ]
  refine wpAnyH_take (i := 11) (oi := ({ dst := some 84, op := Go.Op.call { callee := Go.Callee.builtin Go.Builtin.min, args := #[Go.Operand.tmp 83, Go.Operand.const (Go.Value.int Go.IntKind.i64 1048576)], argTypes := #[3, 3] }, type := 3, pos := "cache.go:76", after := #[{ on := 10, ground := Go.Ground.data }], guard := none } : Oper)) (v := .int .i64 9) rfl (by kernel_rfl) (by kernel_rfl) (by kernel_rfl) (fun _ _ _ h => h) (Or.inl ⟨by rfl, fun w' _ => ?_⟩) hHeld ?_
  · go_simp; decide
  try simp only [Act.put, List.setIfInBounds_toArray, List.set_cons_zero, List.set_cons_succ]
  refine wpAnyH_ready (rs := [4, 8]) (by kernel_rfl) (by simp) ?_
  refine AllReadyH.cons (o := ({ dst := some 77, op := Go.Op.load 65 (Go.Operand.tmp 76), type := 65, pos := "cache.go:76", after := #[{ on := 3, ground := Go.Ground.data }], guard := none } : Oper)) rfl (fun K hK => ?_) (AllReadyH.cons (o := ({ dst := some 81, op := Go.Op.call { callee := Go.Callee.value (Go.Operand.func 38), args := #[Go.Operand.tmp 80], argTypes := #[74] }, type := 74, pos := "cache.go:79", after := #[{ on := 7, ground := Go.Ground.data }], guard := none } : Oper)) rfl (fun K hK => ?_) AllReadyH.nil)
  · go_simp
    refine hK.out _ _ hHeld (fun hHeld1 => ?_)
    clear hK K
    try simp only [Act.put, List.setIfInBounds_toArray, List.set_cons_zero, List.set_cons_succ]
    refine wpAnyH_ready (rs := [8]) (by kernel_rfl) (by simp) ?_
    refine AllReadyH.cons (o := ({ dst := some 81, op := Go.Op.call { callee := Go.Callee.value (Go.Operand.func 38), args := #[Go.Operand.tmp 80], argTypes := #[74] }, type := 74, pos := "cache.go:79", after := #[{ on := 7, ground := Go.Ground.data }], guard := none } : Oper)) rfl (fun K hK => ?_) AllReadyH.nil
    go_simp
    go_at_call 38
    refine (cloneR0_e _).mono ?_
    rintro e' w5 ⟨rfl, rfl⟩
    refine hK.out _ _ hHeld1 (fun hHeld2 => ?_)
    clear hK K
    try simp only [Act.put, List.setIfInBounds_toArray, List.set_cons_zero, List.set_cons_succ]
    refine wpAnyH_take (i := 12) (oi := ({ dst := some 85, op := Go.Op.build 79 #[(0, Go.Operand.tmp 78), (1, Go.Operand.tmp 79), (2, Go.Operand.tmp 81), (3, Go.Operand.tmp 82), (4, Go.Operand.tmp 84)], type := 79, pos := "cache.go:76", after := #[{ on := 5, ground := Go.Ground.data }, { on := 6, ground := Go.Ground.data }, { on := 8, ground := Go.Ground.data }, { on := 9, ground := Go.Ground.data }, { on := 11, ground := Go.Ground.data }], guard := none } : Oper)) (v := .agg [Value.string qn, .int .i64 qt, .int .i64 out, .slice none 0 0, .int .i64 0, .int .i64 9].toArray) rfl (by kernel_rfl) (by kernel_rfl) (by kernel_rfl) (fun _ _ _ h => h) (Or.inl ⟨by rfl, fun w' _ => ?_⟩) hHeld2 ?_
    · go_simp
    try simp only [Act.put, List.setIfInBounds_toArray, List.set_cons_zero, List.set_cons_succ]
    refine wpAnyH_ready (rs := [13]) (by kernel_rfl) (by simp) ?_
    refine AllReadyH.cons (o := ({ dst := some 86, op := Go.Op.buildSlice 65 1 #[(0, Go.Operand.tmp 85)], type := 65, pos := "cache.go:76", after := #[{ on := 12, ground := Go.Ground.data }], guard := none } : Oper)) rfl (fun K hK => ?_) AllReadyH.nil
    rw [if_pos (by kernel_rfl)]
    obtain ⟨i1, hi1, hz1, hs1, hy1⟩ := infoEn
    refine wp_buildSlice 65 79 1 _ rfl [Value.string qn, .int .i64 qt, .int .i64 out, .slice none 0 0, .int .i64 0, .int .i64 9].toArray i1 _ Tryz.underlying65 hi1 hz1 (by rw [hs1]; decide) (by rw [hs1]; decide) (by rw [hs1]; refine (congrArg _ (?_ : _ = [(0, Value.agg [Value.string qn, .int .i64 qt, .int .i64 out, .slice none 0 0, .int .i64 0, .int .i64 9].toArray)])).trans (fill6 rfl); rw [Array.toList_map]; rfl) ?_
    have hba : Below W.heap.size W (W.alloc (.cells [Value.string qn, .int .i64 qt, .int .i64 out, .slice none 0 0, .int .i64 0, .int .i64 9].toArray 79)) := (Below.refl _ W).alloc (Nat.le_refl _) _
    have HC6 := Lib.hid ((hba.block C (heap_ltk HCX.out)).trans HCX.out)
    have HG6 := Lib.hid (grown_trans HGX.out (grown_of_below (some C) hba))
    refine hK.out _ _ ((hba.block W0 (heap_ltk hHeld2)).trans hHeld2) (fun hH6 => ?_)
    clear hK K hba
    try simp only [Act.put, List.setIfInBounds_toArray, List.set_cons_zero, List.set_cons_succ]
    refine wpAnyH_ready (rs := [14]) (by kernel_rfl) (by simp) ?_
    refine AllReadyH.cons (o := ({ dst := some 87, op := Go.Op.call { callee := Go.Callee.builtin Go.Builtin.append, args := #[Go.Operand.tmp 77, Go.Operand.tmp 86], argTypes := #[65, 65] }, type := 65, pos := "cache.go:76", after := #[{ on := 4, ground := Go.Ground.data }, { on := 13, ground := Go.Ground.data }, { on := 8, ground := Go.Ground.chain }], guard := none } : Oper)) rfl (fun K hK => ?_) AllReadyH.nil
    rw [if_pos (by kernel_rfl)]
    refine wp_append_own (w := W.alloc (.cells [Value.string qn, .int .i64 qt, .int .i64 out, .slice none 0 0, .int .i64 0, .int .i64 9].toArray 79)) (.tmp 77) (.tmp 86) 65 rfl 0 79 i1 _ 6 72 Tryz.underlying65 hi1 hz1 hs1 hy1 rfl (by decide) _ 0 [] rfl (World.ownsRow_nil _ _ _ _) ⟨W.heap.size, 0, none⟩ 1 1 [Value.string qn, .int .i64 qt, .int .i64 out, .slice none 0 0, .int .i64 0, .int .i64 9] rfl rfl (fun j u hj => by rw [Addr.add_lit, Nat.zero_add, World.cell?_alloc_mark, List.getElem?_toArray]; exact hj) (fun u hu => by simp only [List.mem_cons, List.not_mem_nil, or_false] at hu; rcases hu with rfl | rfl | rfl | rfl | rfl | rfl <;> rfl) (by unfold maxLen; omega) (by omega) (Nat.zero_le _) ?_
    intro v1 w6 ho6 hg6 _
    replace hg6 : (W.alloc (.cells [Value.string qn, .int .i64 qt, .int .i64 out, .slice none 0 0, .int .i64 0, .int .i64 9].toArray 79)).grownBy w6 none := hg6
    obtain ⟨A1, cap1, hv1⟩ := own_fm ho6
    subst hv1
    have hC6 := (hg6.block C (heap_ltk HC6.out) (by simp)).trans HC6.out
    have hQ6 := (hg6.block W0 (heap_ltk hH6) (by simp)).trans hH6
    have d1 := cell_of_row w6 C 1 _ _ _ hC6
    have f1 := frozen_of_row w6 C 1 _ _ hC6
    simp only [List.getElem?_toArray, List.getElem?_cons_succ, List.getElem?_cons_zero] at d1
    have hg6' : (W.alloc (.cells [Value.string qn, .int .i64 qt, .int .i64 out, .slice none 0 0, .int .i64 0, .int .i64 9].toArray 79)).grownBy w6 (some C) := ⟨hg6.os, hg6.tape, hg6.output, hg6.size, fun k hk _ => hg6.block k hk (by simp)⟩
    have HF := Lib.hid (show (w6.setCell ⟨C, 1, none⟩ (.slice A1 (0 + 1) cap1)).heap[C]? = some (.cells #[.int .i64 16, .slice A1 (0 + 1) cap1] 67 (0, 0)) by simpa using heap_setCell_same w6 C 1 _ _ (.slice A1 (0 + 1) cap1) hC6)
    have HGF := Lib.hid (grown_trans (grown_trans HG6.out hg6') (grown_set w6 C 1 (.slice A1 (0 + 1) cap1)))
    have hQ7 : (w6.setCell ⟨C, 1, none⟩ (.slice A1 (0 + 1) cap1)).heap[W0]? = _ := ((grown_set w6 C 1 (.slice A1 (0 + 1) cap1)).block W0 (heap_ltk hQ6) (fun e => by injection e with e; omega)).trans hQ6
    clear ho6 hg6 hg6' hC6
    refine hK.out _ _ hQ6 (fun hH7' => ?_)
    clear hK K
    try simp only [Act.put, List.setIfInBounds_toArray, List.set_cons_zero, List.set_cons_succ]
    refine wpAnyH_take (i := 15) (oi := ({ dst := some 88, op := Go.Op.nilCheck (Go.Operand.tmp 73), type := 0, pos := "cache.go:76", after := #[{ on := 0, ground := Go.Ground.data }, { on := 0, ground := Go.Ground.phase }, { on := 1, ground := Go.Ground.phase }, { on := 2, ground := Go.Ground.phase }, { on := 3, ground := Go.Ground.phase }, { on := 4, ground := Go.Ground.phase }, { on := 5, ground := Go.Ground.phase }, { on := 6, ground := Go.Ground.phase }, { on := 7, ground := Go.Ground.phase }, { on := 8, ground := Go.Ground.phase }, { on := 9, ground := Go.Ground.phase }, { on := 10, ground := Go.Ground.phase }, { on := 11, ground := Go.Ground.phase }, { on := 12, ground := Go.Ground.phase }, { on := 13, ground := Go.Ground.phase }, { on := 14, ground := Go.Ground.phase }], guard := none } : Oper)) (v := .pointer (some ⟨C, 0, none⟩)) rfl (by kernel_rfl) (by kernel_rfl) (by kernel_rfl) (fun _ _ _ h => h) (Or.inl ⟨by rfl, fun w' _ => ?_⟩) hH7' ?_
    · go_simp
    try simp only [Act.put, List.setIfInBounds_toArray, List.set_cons_zero, List.set_cons_succ]
    refine wpAnyH_take (i := 16) (oi := ({ dst := some 89, op := Go.Op.fieldAddr 67 (Go.Operand.tmp 88) 1, type := 0, pos := "cache.go:76", after := #[{ on := 15, ground := Go.Ground.data }, { on := 0, ground := Go.Ground.phase }, { on := 1, ground := Go.Ground.phase }, { on := 2, ground := Go.Ground.phase }, { on := 3, ground := Go.Ground.phase }, { on := 4, ground := Go.Ground.phase }, { on := 5, ground := Go.Ground.phase }, { on := 6, ground := Go.Ground.phase }, { on := 7, ground := Go.Ground.phase }, { on := 8, ground := Go.Ground.phase }, { on := 9, ground := Go.Ground.phase }, { on := 10, ground := Go.Ground.phase }, { on := 11, ground := Go.Ground.phase }, { on := 12, ground := Go.Ground.phase }, { on := 13, ground := Go.Ground.phase }, { on := 14, ground := Go.Ground.phase }], guard := none } : Oper)) (v := .pointer (some ⟨C, 1, none⟩)) rfl (by kernel_rfl) (by kernel_rfl) (by kernel_rfl) (fun _ _ _ h => h) (Or.inl ⟨by rfl, fun w' _ => ?_⟩) hH7' ?_
    · go_simp
    try simp only [Act.put, List.setIfInBounds_toArray, List.set_cons_zero, List.set_cons_succ]
    refine wpAnyH_ready (rs := [17]) (by kernel_rfl) (by simp) ?_
    refine AllReadyH.cons (o := ({ dst := none, op := Go.Op.store 65 (Go.Operand.tmp 89) (Go.Operand.tmp 87), type := 0, pos := "cache.go:76", after := #[{ on := 16, ground := Go.Ground.data }, { on := 14, ground := Go.Ground.data }, { on := 14, ground := Go.Ground.chain }, { on := 0, ground := Go.Ground.phase }, { on := 1, ground := Go.Ground.phase }, { on := 2, ground := Go.Ground.phase }, { on := 3, ground := Go.Ground.phase }, { on := 4, ground := Go.Ground.phase }, { on := 5, ground := Go.Ground.phase }, { on := 6, ground := Go.Ground.phase }, { on := 7, ground := Go.Ground.phase }, { on := 8, ground := Go.Ground.phase }, { on := 9, ground := Go.Ground.phase }, { on := 10, ground := Go.Ground.phase }, { on := 11, ground := Go.Ground.phase }, { on := 12, ground := Go.Ground.phase }, { on := 13, ground := Go.Ground.phase }, { on := 14, ground := Go.Ground.phase }], guard := none } : Oper)) rfl (fun K hK => ?_) AllReadyH.nil
    go_simp
    refine hK.out _ _ hQ7 (fun _ => ?_)
    clear hK K
    try simp only [Act.put, List.setIfInBounds_toArray, List.set_cons_zero, List.set_cons_succ]
    refine wpAnyH_done (by kernel_rfl) ?_ _
    go_wp2_with fail
    go_end0
    exact ⟨_, _, rfl, HF.out, HGF.out⟩
  · go_simp
    go_at_call 38
    refine (cloneR0_e _).mono ?_
    rintro e' w5 ⟨rfl, rfl⟩
    refine hK.out _ _ hHeld (fun hHeld1 => ?_)
    clear hK K
    try simp only [Act.put, List.setIfInBounds_toArray, List.set_cons_zero, List.set_cons_succ]
    refine wpAnyH_take (i := 12) (oi := ({ dst := some 85, op := Go.Op.build 79 #[(0, Go.Operand.tmp 78), (1, Go.Operand.tmp 79), (2, Go.Operand.tmp 81), (3, Go.Operand.tmp 82), (4, Go.Operand.tmp 84)], type := 79, pos := "cache.go:76", after := #[{ on := 5, ground := Go.Ground.data }, { on := 6, ground := Go.Ground.data }, { on := 8, ground := Go.Ground.data }, { on := 9, ground := Go.Ground.data }, { on := 11, ground := Go.Ground.data }], guard := none } : Oper)) (v := .agg [Value.string qn, .int .i64 qt, .int .i64 out, .slice none 0 0, .int .i64 0, .int .i64 9].toArray) rfl (by kernel_rfl) (by kernel_rfl) (by kernel_rfl) (fun _ _ _ h => h) (Or.inl ⟨by rfl, fun w' _ => ?_⟩) hHeld1 ?_
    · go_simp
    try simp only [Act.put, List.setIfInBounds_toArray, List.set_cons_zero, List.set_cons_succ]
    refine wpAnyH_ready (rs := [4, 13]) (by kernel_rfl) (by simp) ?_
    refine AllReadyH.cons (o := ({ dst := some 77, op := Go.Op.load 65 (Go.Operand.tmp 76), type := 65, pos := "cache.go:76", after := #[{ on := 3, ground := Go.Ground.data }], guard := none } : Oper)) rfl (fun K hK => ?_) (AllReadyH.cons (o := ({ dst := some 86, op := Go.Op.buildSlice 65 1 #[(0, Go.Operand.tmp 85)], type := 65, pos := "cache.go:76", after := #[{ on := 12, ground := Go.Ground.data }], guard := none } : Oper)) rfl (fun K hK => ?_) AllReadyH.nil)
    · go_simp
      refine hK.out _ _ hHeld1 (fun hHeld2 => ?_)
      clear hK K
      try simp only [Act.put, List.setIfInBounds_toArray, List.set_cons_zero, List.set_cons_succ]
      refine wpAnyH_ready (rs := [13]) (by kernel_rfl) (by simp) ?_
      refine AllReadyH.cons (o := ({ dst := some 86, op := Go.Op.buildSlice 65 1 #[(0, Go.Operand.tmp 85)], type := 65, pos := "cache.go:76", after := #[{ on := 12, ground := Go.Ground.data }], guard := none } : Oper)) rfl (fun K hK => ?_) AllReadyH.nil
      rw [if_pos (by kernel_rfl)]
      obtain ⟨i1, hi1, hz1, hs1, hy1⟩ := infoEn
      refine wp_buildSlice 65 79 1 _ rfl [Value.string qn, .int .i64 qt, .int .i64 out, .slice none 0 0, .int .i64 0, .int .i64 9].toArray i1 _ Tryz.underlying65 hi1 hz1 (by rw [hs1]; decide) (by rw [hs1]; decide) (by rw [hs1]; refine (congrArg _ (?_ : _ = [(0, Value.agg [Value.string qn, .int .i64 qt, .int .i64 out, .slice none 0 0, .int .i64 0, .int .i64 9].toArray)])).trans (fill6 rfl); rw [Array.toList_map]; rfl) ?_
      have hba : Below W.heap.size W (W.alloc (.cells [Value.string qn, .int .i64 qt, .int .i64 out, .slice none 0 0, .int .i64 0, .int .i64 9].toArray 79)) := (Below.refl _ W).alloc (Nat.le_refl _) _
      have HC6 := Lib.hid ((hba.block C (heap_ltk HCX.out)).trans HCX.out)
      have HG6 := Lib.hid (grown_trans HGX.out (grown_of_below (some C) hba))
      refine hK.out _ _ ((hba.block W0 (heap_ltk hHeld2)).trans hHeld2) (fun hH6 => ?_)
      clear hK K hba
      try simp only [Act.put, List.setIfInBounds_toArray, List.set_cons_zero, List.set_cons_succ]
      refine wpAnyH_ready (rs := [14]) (by kernel_rfl) (by simp) ?_
      refine AllReadyH.cons (o := ({ dst := some 87, op := Go.Op.call { callee := Go.Callee.builtin Go.Builtin.append, args := #[Go.Operand.tmp 77, Go.Operand.tmp 86], argTypes := #[65, 65] }, type := 65, pos := "cache.go:76", after := #[{ on := 4, ground := Go.Ground.data }, { on := 13, ground := Go.Ground.data }, { on := 8, ground := Go.Ground.chain }], guard := none } : Oper)) rfl (fun K hK => ?_) AllReadyH.nil
      rw [if_pos (by kernel_rfl)]
      refine wp_append_own (w := W.alloc (.cells [Value.string qn, .int .i64 qt, .int .i64 out, .slice none 0 0, .int .i64 0, .int .i64 9].toArray 79)) (.tmp 77) (.tmp 86) 65 rfl 0 79 i1 _ 6 72 Tryz.underlying65 hi1 hz1 hs1 hy1 rfl (by decide) _ 0 [] rfl (World.ownsRow_nil _ _ _ _) ⟨W.heap.size, 0, none⟩ 1 1 [Value.string qn, .int .i64 qt, .int .i64 out, .slice none 0 0, .int .i64 0, .int .i64 9] rfl rfl (fun j u hj => by rw [Addr.add_lit, Nat.zero_add, World.cell?_alloc_mark, List.getElem?_toArray]; exact hj) (fun u hu => by simp only [List.mem_cons, List.not_mem_nil, or_false] at hu; rcases hu with rfl | rfl | rfl | rfl | rfl | rfl <;> rfl) (by unfold maxLen; omega) (by omega) (Nat.zero_le _) ?_
      intro v1 w6 ho6 hg6 _
      replace hg6 : (W.alloc (.cells [Value.string qn, .int .i64 qt, .int .i64 out, .slice none 0 0, .int .i64 0, .int .i64 9].toArray 79)).grownBy w6 none := hg6
      obtain ⟨A1, cap1, hv1⟩ := own_fm ho6
      subst hv1
      have hC6 := (hg6.block C (heap_ltk HC6.out) (by simp)).trans HC6.out
      have hQ6 := (hg6.block W0 (heap_ltk hH6) (by simp)).trans hH6
      have d1 := cell_of_row w6 C 1 _ _ _ hC6
      have f1 := frozen_of_row w6 C 1 _ _ hC6
      simp only [List.getElem?_toArray, List.getElem?_cons_succ, List.getElem?_cons_zero] at d1
      have hg6' : (W.alloc (.cells [Value.string qn, .int .i64 qt, .int .i64 out, .slice none 0 0, .int .i64 0, .int .i64 9].toArray 79)).grownBy w6 (some C) := ⟨hg6.os, hg6.tape, hg6.output, hg6.size, fun k hk _ => hg6.block k hk (by simp)⟩
      have HF := Lib.hid (show (w6.setCell ⟨C, 1, none⟩ (.slice A1 (0 + 1) cap1)).heap[C]? = some (.cells #[.int .i64 16, .slice A1 (0 + 1) cap1] 67 (0, 0)) by simpa using heap_setCell_same w6 C 1 _ _ (.slice A1 (0 + 1) cap1) hC6)
      have HGF := Lib.hid (grown_trans (grown_trans HG6.out hg6') (grown_set w6 C 1 (.slice A1 (0 + 1) cap1)))
      have hQ7 : (w6.setCell ⟨C, 1, none⟩ (.slice A1 (0 + 1) cap1)).heap[W0]? = _ := ((grown_set w6 C 1 (.slice A1 (0 + 1) cap1)).block W0 (heap_ltk hQ6) (fun e => by injection e with e; omega)).trans hQ6
      clear ho6 hg6 hg6' hC6
      refine hK.out _ _ hQ6 (fun hH7' => ?_)
      clear hK K
      try simp only [Act.put, List.setIfInBounds_toArray, List.set_cons_zero, List.set_cons_succ]
      refine wpAnyH_take (i := 15) (oi := ({ dst := some 88, op := Go.Op.nilCheck (Go.Operand.tmp 73), type := 0, pos := "cache.go:76", after := #[{ on := 0, ground := Go.Ground.data }, { on := 0, ground := Go.Ground.phase }, { on := 1, ground := Go.Ground.phase }, { on := 2, ground := Go.Ground.phase }, { on := 3, ground := Go.Ground.phase }, { on := 4, ground := Go.Ground.phase }, { on := 5, ground := Go.Ground.phase }, { on := 6, ground := Go.Ground.phase }, { on := 7, ground := Go.Ground.phase }, { on := 8, ground := Go.Ground.phase }, { on := 9, ground := Go.Ground.phase }, { on := 10, ground := Go.Ground.phase }, { on := 11, ground := Go.Ground.phase }, { on := 12, ground := Go.Ground.phase }, { on := 13, ground := Go.Ground.phase }, { on := 14, ground := Go.Ground.phase }], guard := none } : Oper)) (v := .pointer (some ⟨C, 0, none⟩)) rfl (by kernel_rfl) (by kernel_rfl) (by kernel_rfl) (fun _ _ _ h => h) (Or.inl ⟨by rfl, fun w' _ => ?_⟩) hH7' ?_
      · go_simp
      try simp only [Act.put, List.setIfInBounds_toArray, List.set_cons_zero, List.set_cons_succ]
      refine wpAnyH_take (i := 16) (oi := ({ dst := some 89, op := Go.Op.fieldAddr 67 (Go.Operand.tmp 88) 1, type := 0, pos := "cache.go:76", after := #[{ on := 15, ground := Go.Ground.data }, { on := 0, ground := Go.Ground.phase }, { on := 1, ground := Go.Ground.phase }, { on := 2, ground := Go.Ground.phase }, { on := 3, ground := Go.Ground.phase }, { on := 4, ground := Go.Ground.phase }, { on := 5, ground := Go.Ground.phase }, { on := 6, ground := Go.Ground.phase }, { on := 7, ground := Go.Ground.phase }, { on := 8, ground := Go.Ground.phase }, { on := 9, ground := Go.Ground.phase }, { on := 10, ground := Go.Ground.phase }, { on := 11, ground := Go.Ground.phase }, { on := 12, ground := Go.Ground.phase }, { on := 13, ground := Go.Ground.phase }, { on := 14, ground := Go.Ground.phase }], guard := none } : Oper)) (v := .pointer (some ⟨C, 1, none⟩)) rfl (by kernel_rfl) (by kernel_rfl) (by kernel_rfl) (fun _ _ _ h => h) (Or.inl ⟨by rfl, fun w' _ => ?_⟩) hH7' ?_
      · go_simp
      try simp only [Act.put, List.setIfInBounds_toArray, List.set_cons_zero, List.set_cons_succ]
      refine wpAnyH_ready (rs := [17]) (by kernel_rfl) (by simp) ?_
      refine AllReadyH.cons (o := ({ dst := none, op := Go.Op.store 65 (Go.Operand.tmp 89) (Go.Operand.tmp 87), type := 0, pos := "cache.go:76", after := #[{ on := 16, ground := Go.Ground.data }, { on := 14, ground := Go.Ground.data }, { on := 14, ground := Go.Ground.chain }, { on := 0, ground := Go.Ground.phase }, { on := 1, ground := Go.Ground.phase }, { on := 2, ground := Go.Ground.phase }, { on := 3, ground := Go.Ground.phase }, { on := 4, ground := Go.Ground.phase }, { on := 5, ground := Go.Ground.phase }, { on := 6, ground := Go.Ground.phase }, { on := 7, ground := Go.Ground.phase }, { on := 8, ground := Go.Ground.phase }, { on := 9, ground := Go.Ground.phase }, { on := 10, ground := Go.Ground.phase }, { on := 11, ground := Go.Ground.phase }, { on := 12, ground := Go.Ground.phase }, { on := 13, ground := Go.Ground.phase }, { on := 14, ground := Go.Ground.phase }], guard := none } : Oper)) rfl (fun K hK => ?_) AllReadyH.nil
      go_simp
      refine hK.out _ _ hQ7 (fun _ => ?_)
      clear hK K
      try simp only [Act.put, List.setIfInBounds_toArray, List.set_cons_zero, List.set_cons_succ]
      refine wpAnyH_done (by kernel_rfl) ?_ _
      go_wp2_with fail
      go_end0
      exact ⟨_, _, rfl, HF.out, HGF.out⟩
    · rw [if_pos (by kernel_rfl)]
      obtain ⟨i1, hi1, hz1, hs1, hy1⟩ := infoEn
      refine wp_buildSlice 65 79 1 _ rfl [Value.string qn, .int .i64 qt, .int .i64 out, .slice none 0 0, .int .i64 0, .int .i64 9].toArray i1 _ Tryz.underlying65 hi1 hz1 (by rw [hs1]; decide) (by rw [hs1]; decide) (by rw [hs1]; refine (congrArg _ (?_ : _ = [(0, Value.agg [Value.string qn, .int .i64 qt, .int .i64 out, .slice none 0 0, .int .i64 0, .int .i64 9].toArray)])).trans (fill6 rfl); rw [Array.toList_map]; rfl) ?_
      have hba : Below W.heap.size W (W.alloc (.cells [Value.string qn, .int .i64 qt, .int .i64 out, .slice none 0 0, .int .i64 0, .int .i64 9].toArray 79)) := (Below.refl _ W).alloc (Nat.le_refl _) _
      have HC6 := Lib.hid ((hba.block C (heap_ltk HCX.out)).trans HCX.out)
      have HG6 := Lib.hid (grown_trans HGX.out (grown_of_below (some C) hba))
      refine hK.out _ _ ((hba.block W0 (heap_ltk hHeld1)).trans hHeld1) (fun hH6 => ?_)
      clear hK K hba
      try simp only [Act.put, List.setIfInBounds_toArray, List.set_cons_zero, List.set_cons_succ]
      refine wpAnyH_ready (rs := [4]) (by kernel_rfl) (by simp) ?_
      refine AllReadyH.cons (o := ({ dst := some 77, op := Go.Op.load 65 (Go.Operand.tmp 76), type := 65, pos := "cache.go:76", after := #[{ on := 3, ground := Go.Ground.data }], guard := none } : Oper)) rfl (fun K hK => ?_) AllReadyH.nil
      have kk := cell_of_row _ C 1 _ _ _ HC6.out
      simp only [List.getElem?_toArray, List.getElem?_cons_succ, List.getElem?_cons_zero] at kk
      go_simp
      refine hK.out _ _ hH6 (fun hH6' => ?_)
      clear hK K
      try simp only [Act.put, List.setIfInBounds_toArray, List.set_cons_zero, List.set_cons_succ]
      refine wpAnyH_ready (rs := [14]) (by kernel_rfl) (by simp) ?_
      refine AllReadyH.cons (o := ({ dst := some 87, op := Go.Op.call { callee := Go.Callee.builtin Go.Builtin.append, args := #[Go.Operand.tmp 77, Go.Operand.tmp 86], argTypes := #[65, 65] }, type := 65, pos := "cache.go:76", after := #[{ on := 4, ground := Go.Ground.data }, { on := 13, ground := Go.Ground.data }, { on := 8, ground := Go.Ground.chain }], guard := none } : Oper)) rfl (fun K hK => ?_) AllReadyH.nil
      rw [if_pos (by kernel_rfl)]
      refine wp_append_own (w := W.alloc (.cells [Value.string qn, .int .i64 qt, .int .i64 out, .slice none 0 0, .int .i64 0, .int .i64 9].toArray 79)) (.tmp 77) (.tmp 86) 65 rfl 0 79 i1 _ 6 72 Tryz.underlying65 hi1 hz1 hs1 hy1 rfl (by decide) _ 0 [] rfl (World.ownsRow_nil _ _ _ _) ⟨W.heap.size, 0, none⟩ 1 1 [Value.string qn, .int .i64 qt, .int .i64 out, .slice none 0 0, .int .i64 0, .int .i64 9] rfl rfl (fun j u hj => by rw [Addr.add_lit, Nat.zero_add, World.cell?_alloc_mark, List.getElem?_toArray]; exact hj) (fun u hu => by simp only [List.mem_cons, List.not_mem_nil, or_false] at hu; rcases hu with rfl | rfl | rfl | rfl | rfl | rfl <;> rfl) (by unfold maxLen; omega) (by omega) (Nat.zero_le _) ?_
      intro v1 w6 ho6 hg6 _
      replace hg6 : (W.alloc (.cells [Value.string qn, .int .i64 qt, .int .i64 out, .slice none 0 0, .int .i64 0, .int .i64 9].toArray 79)).grownBy w6 none := hg6
      obtain ⟨A1, cap1, hv1⟩ := own_fm ho6
      subst hv1
      have hC6 := (hg6.block C (heap_ltk HC6.out) (by simp)).trans HC6.out
      have hQ6 := (hg6.block W0 (heap_ltk hH6') (by simp)).trans hH6'
      have d1 := cell_of_row w6 C 1 _ _ _ hC6
      have f1 := frozen_of_row w6 C 1 _ _ hC6
      simp only [List.getElem?_toArray, List.getElem?_cons_succ, List.getElem?_cons_zero] at d1
      have hg6' : (W.alloc (.cells [Value.string qn, .int .i64 qt, .int .i64 out, .slice none 0 0, .int .i64 0, .int .i64 9].toArray 79)).grownBy w6 (some C) := ⟨hg6.os, hg6.tape, hg6.output, hg6.size, fun k hk _ => hg6.block k hk (by simp)⟩
      have HF := Lib.hid (show (w6.setCell ⟨C, 1, none⟩ (.slice A1 (0 + 1) cap1)).heap[C]? = some (.cells #[.int .i64 16, .slice A1 (0 + 1) cap1] 67 (0, 0)) by simpa using heap_setCell_same w6 C 1 _ _ (.slice A1 (0 + 1) cap1) hC6)
      have HGF := Lib.hid (grown_trans (grown_trans HG6.out hg6') (grown_set w6 C 1 (.slice A1 (0 + 1) cap1)))
      have hQ7 : (w6.setCell ⟨C, 1, none⟩ (.slice A1 (0 + 1) cap1)).heap[W0]? = _ := ((grown_set w6 C 1 (.slice A1 (0 + 1) cap1)).block W0 (heap_ltk hQ6) (fun e => by injection e with e; omega)).trans hQ6
      clear ho6 hg6 hg6' hC6
      refine hK.out _ _ hQ6 (fun hH7' => ?_)
      clear hK K
      try simp only [Act.put, List.setIfInBounds_toArray, List.set_cons_zero, List.set_cons_succ]
      refine wpAnyH_take (i := 15) (oi := ({ dst := some 88, op := Go.Op.nilCheck (Go.Operand.tmp 73), type := 0, pos := "cache.go:76", after := #[{ on := 0, ground := Go.Ground.data }, { on := 0, ground := Go.Ground.phase }, { on := 1, ground := Go.Ground.phase }, { on := 2, ground := Go.Ground.phase }, { on := 3, ground := Go.Ground.phase }, { on := 4, ground := Go.Ground.phase }, { on := 5, ground := Go.Ground.phase }, { on := 6, ground := Go.Ground.phase }, { on := 7, ground := Go.Ground.phase }, { on := 8, ground := Go.Ground.phase }, { on := 9, ground := Go.Ground.phase }, { on := 10, ground := Go.Ground.phase }, { on := 11, ground := Go.Ground.phase }, { on := 12, ground := Go.Ground.phase }, { on := 13, ground := Go.Ground.phase }, { on := 14, ground := Go.Ground.phase }], guard := none } : Oper)) (v := .pointer (some ⟨C, 0, none⟩)) rfl (by kernel_rfl) (by kernel_rfl) (by kernel_rfl) (fun _ _ _ h => h) (Or.inl ⟨by rfl, fun w' _ => ?_⟩) hH7' ?_
      · go_simp
      try simp only [Act.put, List.setIfInBounds_toArray, List.set_cons_zero, List.set_cons_succ]
      refine wpAnyH_take (i := 16) (oi := ({ dst := some 89, op := Go.Op.fieldAddr 67 (Go.Operand.tmp 88) 1, type := 0, pos := "cache.go:76", after := #[{ on := 15, ground := Go.Ground.data }, { on := 0, ground := Go.Ground.phase }, { on := 1, ground := Go.Ground.phase }, { on := 2, ground := Go.Ground.phase }, { on := 3, ground := Go.Ground.phase }, { on := 4, ground := Go.Ground.phase }, { on := 5, ground := Go.Ground.phase }, { on := 6, ground := Go.Ground.phase }, { on := 7, ground := Go.Ground.phase }, { on := 8, ground := Go.Ground.phase }, { on := 9, ground := Go.Ground.phase }, { on := 10, ground := Go.Ground.phase }, { on := 11, ground := Go.Ground.phase }, { on := 12, ground := Go.Ground.phase }, { on := 13, ground := Go.Ground.phase }, { on := 14, ground := Go.Ground.phase }], guard := none } : Oper)) (v := .pointer (some ⟨C, 1, none⟩)) rfl (by kernel_rfl) (by kernel_rfl) (by kernel_rfl) (fun _ _ _ h => h) (Or.inl ⟨by rfl, fun w' _ => ?_⟩) hH7' ?_
      · go_simp
      try simp only [Act.put, List.setIfInBounds_toArray, List.set_cons_zero, List.set_cons_succ]
      refine wpAnyH_ready (rs := [17]) (by kernel_rfl) (by simp) ?_
      refine AllReadyH.cons (o := ({ dst := none, op := Go.Op.store 65 (Go.Operand.tmp 89) (Go.Operand.tmp 87), type := 0, pos := "cache.go:76", after := #[{ on := 16, ground := Go.Ground.data }, { on := 14, ground := Go.Ground.data }, { on := 14, ground := Go.Ground.chain }, { on := 0, ground := Go.Ground.phase }, { on := 1, ground := Go.Ground.phase }, { on := 2, ground := Go.Ground.phase }, { on := 3, ground := Go.Ground.phase }, { on := 4, ground := Go.Ground.phase }, { on := 5, ground := Go.Ground.phase }, { on := 6, ground := Go.Ground.phase }, { on := 7, ground := Go.Ground.phase }, { on := 8, ground := Go.Ground.phase }, { on := 9, ground := Go.Ground.phase }, { on := 10, ground := Go.Ground.phase }, { on := 11, ground := Go.Ground.phase }, { on := 12, ground := Go.Ground.phase }, { on := 13, ground := Go.Ground.phase }, { on := 14, ground := Go.Ground.phase }], guard := none } : Oper)) rfl (fun K hK => ?_) AllReadyH.nil
      go_simp
      refine hK.out _ _ hQ7 (fun _ => ?_)
      clear hK K
      try simp only [Act.put, List.setIfInBounds_toArray, List.set_cons_zero, List.set_cons_succ]
      refine wpAnyH_done (by kernel_rfl) ?_ _
      go_wp2_with fail
      go_end0
      exact ⟨_, _, rfl, HF.out, HGF.out⟩
end Go.Proofs.YtgopjgbcnjkblaaGreatDoor
