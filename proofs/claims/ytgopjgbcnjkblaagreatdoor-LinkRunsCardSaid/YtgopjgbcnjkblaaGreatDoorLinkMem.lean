/-
  Package link's ground: rules for whole values that are loaded and stored; a table of links in memory; the walks of there, lives, New and cache.New. Conditions: each states its own.
-/
import Derived.Test.YtgopjgbcnjkblaaGreatDoorProg
import Derived.WalkKit
import Derived.Below
import Derived.Lib.Hide
import Derived.Laws.MakeOwn
import Derived.Laws.OwnMore
import Derived.Laws.Rows
import Derived.Laws.Tables
import Derived.Laws.Cells
import Derived.Laws.CopyRow
import Derived.Deep.WholeRow
import Derived.BigQuiet
namespace Go.Proofs.YtgopjgbcnjkblaaGreatDoor
open Go.RowKit

theorem heap_ltk {w : World} {g : Nat} {o : Obj} (h : w.heap[g]? = some o) : g < w.heap.size := (Array.getElem?_eq_some_iff.1 h).1
theorem grown_trans {w w1 w2 : World} {r : Option Nat} (h : w.grownBy w1 r) (k : w1.grownBy w2 r) : w.grownBy w2 r :=
  ⟨k.os.trans h.os, k.tape.trans h.tape, k.output.trans h.output, Nat.le_trans h.size k.size, fun i hi hr => (k.block i (Nat.lt_of_lt_of_le hi h.size) hr).trans (h.block i hi hr)⟩
theorem grown_of_below {w w1 : World} (r : Option Nat) (h : Below w.heap.size w w1) : w.grownBy w1 r :=
  ⟨h.os, h.tape, h.output, h.size, fun i hi _ => h.block i hi⟩
theorem below_of_grown {w w1 : World} {b T : Nat} (h : w.grownBy w1 (some T)) (hT : b ≤ T) (hb : b ≤ w.heap.size) : Below b w w1 :=
  ⟨h.os, h.tape, h.output, h.size, fun i hi => h.block i (by omega) (fun e => by injection e with e; omega)⟩
theorem ret_b {a b : Bool} (h : a = b) : Ending.returned (.bool a) = .returned (.bool b) := by rw [h]
theorem ret_i {k : IntKind} {a b : Int} (h : a = b) : Ending.returned (.int k a) = .returned (.int k b) := by rw [h]
section
variable {P : Program} {ops : Array Oper} {rest : List Oper} {o : Oper} {a : Act} {Q : Exit → Act → World → Prop}
/-- a whole value of several cells, from wherever -/
theorem wpList_load_agg {w : World} (hgd : o.guard = none) (ty : TypeId) (x : Operand) (ho : o.op = .load ty x) (p : Addr) (hx : a.eval x = .pointer (some p)) (cs : Array Value) (d : TypeDesc)
    (hc : ∀ j v, cs.toList[j]? = some v → w.cell? (p.add j) = some v)
    (hu : P.underlying ty = some d) (hd : (match d with | .struct _ | .array _ _ => true | _ => false) = true) (hi : (P.info? ty).map (·.size) = some cs.size)
    (h : wpList P ops Q rest (a.put o.dst (.agg cs)) w) : wpList P ops Q (o :: rest) a w :=
  wpList_plain hgd fun _ hK => by
    have hl := run_loadCells_list (P := P) w p cs.toList hc
    cases hq : P.info? ty with
    | none => simp [hq] at hi
    | some i =>
      have hs : i.size = cs.size := by simpa [hq] using hi
      have hagg : (isAgg ty).run P w = .ok true w := by
        unfold isAgg
        rw [Sem.run_bind, run_underlying hu w]
        cases d <;> simp_all
      have hlv : (loadVar ty p).run P w = .ok (.agg cs) w := by
        simp only [Array.length_toList, Array.toArray_toList] at hl
        simp [loadVar, Sem.run_bind, hagg, sizeOf, typeInfo, hq, hs, hl]
      unfold Oper.wp execOp
      simp only [ho, hx, Instr.loadAt, Instr.sureAddr, Sem.run_bind, Sem.run_pure, Result.andThen_ok, hlv]
      exact hK _ _ h
/-- a whole value into the block that was made last -/
theorem wpList_store_new {W : World} (hgd : o.guard = none) (ty : TypeId) (x y : Operand) (ho : o.op = .store ty x y) (g : Nat) (hg : W.heap.size = g) (z cells : Array Value) (t : TypeId)
    (hx : a.eval x = .pointer (some ⟨g, 0, none⟩)) (hy : a.eval y = .agg cells) (hi : (P.info? ty).map (·.size) = some cells.size) (hz : z.size = cells.size) (h1 : cells.all (·.oneCell') = true)
    (h : wpList P ops Q rest (a.put o.dst undef) (W.alloc (.cells cells t))) : wpList P ops Q (o :: rest) a (W.alloc (.cells z t)) := by
  subst hg
  exact wpList_store_row hgd ty x y ho W.heap.size cells hx hy t z (heap_alloc_last W _) hi hz h1 (by rw [World.setRow_alloc_new]; exact h)
theorem run_load_agg {w : World} (ty : TypeId) (p : Addr) (cs : Array Value) (d : TypeDesc) (hc : ∀ j v, cs.toList[j]? = some v → w.cell? (p.add j) = some v)
    (hu : P.underlying ty = some d) (hd : (match d with | .struct _ | .array _ _ => true | _ => false) = true) (hi : (P.info? ty).map (·.size) = some cs.size) : (loadVar ty p).run P w = .ok (.agg cs) w := by
  have hl := run_loadCells_list (P := P) w p cs.toList hc
  cases hq : P.info? ty with
  | none => simp [hq] at hi
  | some i =>
    have hs : i.size = cs.size := by simpa [hq] using hi
    have hagg : (isAgg ty).run P w = .ok true w := by
      unfold isAgg
      rw [Sem.run_bind, run_underlying hu w]
      cases d <;> simp_all
    simp only [Array.length_toList, Array.toArray_toList] at hl
    simp [loadVar, Sem.run_bind, hagg, sizeOf, typeInfo, hq, hs, hl]
/-- the same two as steps of a region that draws its order -/
theorem step_load_agg {w : World} {K : Act → World → Prop} {E : Prop} (hgd : o.guard = none) (ty : TypeId) (x : Operand) (ho : o.op = .load ty x) (p : Addr) (hx : a.eval x = .pointer (some p)) (cs : Array Value) (d : TypeDesc)
    (hc : ∀ j v, cs.toList[j]? = some v → w.cell? (p.add j) = some v)
    (hu : P.underlying ty = some d) (hd : (match d with | .struct _ | .array _ _ => true | _ => false) = true) (hi : (P.info? ty).map (·.size) = some cs.size)
    (h : K (a.put o.dst (.agg cs)) w) : if Region.wanted o (yielded ops a.tmps) = true then Oper.wp P o a w K Q else E := by
  have hw : Region.wanted o (yielded ops a.tmps) = true := by simp [Region.wanted, hgd]
  rw [if_pos hw]
  unfold Oper.wp execOp
  simp only [ho, hx, Instr.loadAt, Instr.sureAddr, Sem.run_bind, Sem.run_pure, Result.andThen_ok, run_load_agg ty p cs d hc hu hd hi]
  exact h
theorem step_eql_agg {w : World} {K : Act → World → Prop} {E : Prop} (hgd : o.guard = none) (t : TypeId) (x y : Operand) (s : TypeId) (ho : o.op = .binOp .eql t x y s) (xs ys : Array Value) (b : Bool) (hx : a.eval x = .agg xs) (hy : a.eval y = .agg ys)
    (hm : P.eqGuardType P.depth t = false) (hr : (Op.equalIn 10000 t (.agg xs) (.agg ys)).run P w = .ok b w)
    (h : K (a.put o.dst (.bool b)) w) : if Region.wanted o (yielded ops a.tmps) = true then Oper.wp P o a w K Q else E := by
  have hw : Region.wanted o (yielded ops a.tmps) = true := by simp [Region.wanted, hgd]
  rw [if_pos hw]
  have h1 := run_eqGuard_agg (P := P) w .eql t x y xs ys hm
  have h2 := run_eql_struct (P := P) w t xs ys
  rw [hr] at h2
  unfold Oper.wp execOp
  simp only [ho, hx, hy, Sem.run_bind, h1, h2, Result.andThen_ok]
  exact h
/-- a whole value into a block of which all is known -/
theorem wpList_store_blk {w : World} (hgd : o.guard = none) (ty : TypeId) (x y : Operand) (ho : o.op = .store ty x y) (g : Nat) (z cells : Array Value) (t : TypeId) (hg : w.heap[g]? = some (.cells z t (0, 0)))
    (hx : a.eval x = .pointer (some ⟨g, 0, none⟩)) (hy : a.eval y = .agg cells) (hi : (P.info? ty).map (·.size) = some cells.size) (hz : z.size = cells.size) (h1 : cells.all (·.oneCell') = true)
    (h : ∀ w', Hid (w'.heap[g]? = some (.cells cells t (0, 0))) → Hid (w.grownBy w' (some g)) → w'.heap.size = w.heap.size → wpList P ops Q rest (a.put o.dst undef) w') : wpList P ops Q (o :: rest) a w :=
  wpList_store_row hgd ty x y ho g cells hx hy t z hg hi hz h1
    (h _ (setRow_heap w g z cells t _ hg) ⟨rfl, rfl, rfl, by simp, fun k _ hk => setRow_other w g k cells (fun e => hk (by rw [e]))⟩ (by simp))
/-- a value of several cells into a part of a block of which all is known -/
theorem wpList_store_sub {w : World} (hgd : o.guard = none) (ty : TypeId) (x y : Operand) (ho : o.op = .store ty x y) (g off : Nat) (z cells z' : Array Value) (t : TypeId) (hg : w.heap[g]? = some (.cells z t (0, 0)))
    (hx : a.eval x = .pointer (some ⟨g, off, none⟩)) (hy : a.eval y = .agg cells) (hi : (P.info? ty).map (·.size) = some cells.size) (hz : off + cells.size ≤ z.size) (h1 : cells.all (·.oneCell') = true)
    (he : (z.toList.take off ++ cells.toList ++ z.toList.drop (off + cells.size)).toArray = z')
    (h : ∀ w', Hid (w'.heap[g]? = some (.cells z' t (0, 0))) → Hid (w.grownBy w' (some g)) → w'.heap.size = w.heap.size → wpList P ops Q rest (a.put o.dst undef) w') : wpList P ops Q (o :: rest) a w :=
  wpList_plain hgd fun _ hK => by
    have hst := run_storeCells_at P g off t cells.toList 0 z w hg (by simpa using hz) (fun v hv => (Array.all_eq_true_iff_forall_mem.1 h1) v (by simpa using hv))
    simp only [Nat.add_zero, Array.length_toList, he] at hst
    have hsv : (storeVar ty ⟨g, off, none⟩ (.agg cells)).run P w = .ok () (w.setRow g z') := by
      cases hq : P.info? ty with
      | none => simp [hq] at hi
      | some i =>
        have hs : cells.size = i.size := by simp [hq] at hi; omega
        simp [storeVar, sizeOf, typeInfo, hq, Value.cells, hs, hst]
    unfold Oper.wp execOp
    simp only [ho, hx, hy, Instr.storeAt, Instr.sureAddr, Sem.run_bind, Sem.run_pure, Result.andThen_ok, hsv]
    exact hK _ _ (h _ (setRow_heap w g z z' t _ hg) ⟨rfl, rfl, rfl, by simp, fun k _ hk => setRow_other w g k z' (fun e => hk (by rw [e]))⟩ (by simp))
/-- two values of several cells held against one another -/
theorem wpList_eql_agg {w : World} (hgd : o.guard = none) (t : TypeId) (x y : Operand) (s : TypeId) (ho : o.op = .binOp .eql t x y s) (xs ys : Array Value) (b : Bool) (hx : a.eval x = .agg xs) (hy : a.eval y = .agg ys)
    (hm : P.eqGuardType P.depth t = false) (hr : (Op.equalIn 10000 t (.agg xs) (.agg ys)).run P w = .ok b w)
    (h : wpList P ops Q rest (a.put o.dst (.bool b)) w) : wpList P ops Q (o :: rest) a w :=
  wpList_plain hgd fun _ hK => by
    have h1 := run_eqGuard_agg (P := P) w .eql t x y xs ys hm
    have h2 := run_eql_struct (P := P) w t xs ys
    rw [hr] at h2
    unfold Oper.wp execOp
    simp only [ho, hx, hy, Sem.run_bind, h1, h2, Result.andThen_ok]
    exact hK _ _ h
/-- a new variable, what it holds under a name -/
theorem wpList_alloc_z {w : World} (hgd : o.guard = none) (ty : TypeId) (ho : o.op = .alloc ty) (z : Array Value) (hz : (P.info? ty).map (·.zero) = some (some (.agg z)))
    (h : wpList P ops Q rest (a.put o.dst (.pointer (some ⟨w.heap.size, 0, none⟩))) (w.alloc (.cells z ty))) : wpList P ops Q (o :: rest) a w :=
  wpList_plain hgd fun _ hK => by
    have hzr : (zeroValue ty).run P w = .ok (.agg z) w := by
      cases hq : P.info? ty with
      | none => simp [hq] at hz
      | some i =>
        have : i.zero = some (.agg z) := by simpa [hq] using hz
        simp [zeroValue, typeInfo, hq, this]
    unfold Oper.wp execOp
    simp only [ho, Instr.alloc, newVar, newRow, Sem.run_bind, hzr, Result.andThen_ok, run_newObj_alloc, Sem.run_pure, Value.cells]
    exact hK _ _ h
/-- a value built of parts, under a name -/
theorem wpList_build_z {w : World} (hgd : o.guard = none) (t : TypeId) (parts : Array (Nat × Operand)) (ho : o.op = .build t parts) (cs : Array Value) (hf : P.built t (parts.toList.map fun (i, x) => (i, a.eval x)) = some cs)
    (h : wpList P ops Q rest (a.put o.dst (.agg cs)) w) : wpList P ops Q (o :: rest) a w := by
  have hf' : P.built t (parts.map fun (i, x) => (i, a.eval x)).toList = some cs := by rw [Array.toList_map]; exact hf
  exact wpList_build hgd t parts ho (by rw [hf']; rfl) (by rw [hf']; exact h)
theorem wpList_load_agg_gh {w : World} (hw : Region.wanted o (yielded ops a.tmps) = true) (ty : TypeId) (x : Operand) (ho : o.op = .load ty x) (p : Addr) (hx : a.eval x = .pointer (some p)) (cs : Array Value) (d : TypeDesc)
    (hc : ∀ j v, cs.toList[j]? = some v → w.cell? (p.add j) = some v)
    (hu : P.underlying ty = some d) (hd : (match d with | .struct _ | .array _ _ => true | _ => false) = true) (hi : (P.info? ty).map (·.size) = some cs.size)
    (h : wpList P ops Q rest (a.put o.dst (.agg cs)) w) : wpList P ops Q (o :: rest) a w := by
  unfold wpList
  rw [if_pos hw]
  left
  have hl := run_loadCells_list (P := P) w p cs.toList hc
  cases hq : P.info? ty with
  | none => simp [hq] at hi
  | some i =>
    have hs : i.size = cs.size := by simpa [hq] using hi
    have hagg : (isAgg ty).run P w = .ok true w := by
      unfold isAgg
      rw [Sem.run_bind, run_underlying hu w]
      cases d <;> simp_all
    have hlv : (loadVar ty p).run P w = .ok (.agg cs) w := by
      simp only [Array.length_toList, Array.toArray_toList] at hl
      simp [loadVar, Sem.run_bind, hagg, sizeOf, typeInfo, hq, hs, hl]
    unfold Oper.wp execOp
    simp only [ho, hx, Instr.loadAt, Instr.sureAddr, Sem.run_bind, Sem.run_pure, Result.andThen_ok, hlv]
    exact h
end

/-- a link with its cache as it lies in a table: slices by where they lie, and what lies there -/
structure Sl where
  live : Bool
  gen : Int
  dA : Option Addr
  dc : Nat
  ds : List ByteArray
  df : Bool
  ll : Bool
  sA : Option Addr
  sc : Nat
  ns : Nat
  ss : List Value
  lA : Option Addr
  lc : Nat
  nl : Nat
  ls : List Value
  ca : Option Addr
def Sl.dv (s : Sl) : Value := .slice s.dA s.ds.length s.dc
def Sl.sv (s : Sl) : Value := .slice s.sA s.ns s.sc
def Sl.lv (s : Sl) : Value := .slice s.lA s.nl s.lc
/-- the link's cells -/
def Sl.lk (s : Sl) : List Value := [.bool s.live, .int .i64 s.gen, .slice s.dA s.ds.length s.dc, .bool s.df, .bool s.ll, .slice s.sA s.ns s.sc, .slice s.lA s.nl s.lc]
def Sl.cells (s : Sl) : List Value := s.lk ++ [.pointer s.ca]
def zSl : Sl := ⟨false, 0, none, 0, [], false, false, none, 0, 0, [], none, 0, 0, [], none⟩
/-- the lists of a link lie in memory of the call's own -/
structure SlOk (base : Nat) (w : World) (s : Sl) : Prop where
  dom : w.ownsRow base 9 1 s.dv s.ds.length (s.ds.map .string)
  srv : w.ownsRow base 83 16 s.sv s.ns s.ss
  loc : w.ownsRow base 94 18 s.lv s.nl s.ls
  nd : s.ds.length ≤ 4
  nsl : s.ns ≤ 3
  nll : s.nl ≤ 4
  sz : ∀ d ∈ s.ds, d.size ≤ 300
  ones : ∀ u ∈ s.ss, u.oneCell' = true
  one : ∀ u ∈ s.ls, u.oneCell' = true
  dead : s.live = false → s = zSl
  alive : s.live = true → ∃ C, s.ca = some ⟨C, 0, none⟩ ∧ base ≤ C ∧ C < w.heap.size
theorem zSl_ok (base : Nat) (w : World) : SlOk base w zSl :=
  ⟨World.ownsRow_nil _ _ _ _, World.ownsRow_nil _ _ _ _, World.ownsRow_nil _ _ _ _, Nat.zero_le _, Nat.zero_le _, Nat.zero_le _, (fun _ h => by cases h), (fun _ h => by cases h), (fun _ h => by cases h), fun _ => rfl, fun h => by cases h⟩
theorem own_other {b size n g : Nat} {w w' : World} {T U : TypeId} {v : Value} {xs : List Value} {cs : Array Value} (h : w.ownsRow b T size v n xs) (hg : w.heap[g]? = some (.cells cs U (0, 0))) (hT : T ≠ U) (hw : w.grownBy w' (some g)) : w'.ownsRow b T size v n xs := by
  refine ⟨h.1, ?_⟩
  rcases h.2 with h0 | ⟨k, cap, cur, rfl, hb, hk, r⟩
  · exact .inl h0
  · refine .inr ⟨k, cap, cur, rfl, hb, ?_, r⟩
    refine (hw.block k (heap_ltk hk) fun e => ?_).trans hk
    injection e with e
    subst e
    rw [hg] at hk
    injection hk with hk
    injection hk with _ hk
    exact hT hk.symm
theorem SlOk.kept {base T : Nat} {w w' : World} {s : Sl} {cs : Array Value} (h : SlOk base w s) (hg : w.heap[T]? = some (.cells cs 59 (0, 0))) (hw : w.grownBy w' (some T)) : SlOk base w' s :=
  ⟨own_other h.dom hg (by decide) hw, own_other h.srv hg (by decide) hw, own_other h.loc hg (by decide) hw, h.nd, h.nsl, h.nll, h.sz, h.ones, h.one, h.dead, fun hl => by
    obtain ⟨C, h1, h2, h3⟩ := h.alive hl
    exact ⟨C, h1, h2, Nat.lt_of_lt_of_le h3 hw.size⟩⟩
/-- a table: its cells -/
def tcells : List Sl → Int → List Value
  | [], n => [.int .i64 n]
  | s :: l, n => s.cells ++ tcells l n
/-- a table of the call's own -/
structure TAt (base : Nat) (w : World) (T : Nat) (ss : List Sl) (last : Nat) : Prop where
  ge : base ≤ T
  hb : base ≤ w.heap.size
  obj : w.heap[T]? = some (.cells (tcells ss last).toArray 59 (0, 0))
  four : ss.length = 4
  oks : ∀ s ∈ ss, SlOk base w s
  few : last ≤ 4611686018427387904
theorem TAt.lt {base T last : Nat} {w : World} {ss : List Sl} (h : TAt base w T ss last) : T < w.heap.size := heap_ltk h.obj
theorem TAt.below {base T last : Nat} {w w' : World} {ss : List Sl} (h : TAt base w T ss last) (hb : Below w.heap.size w w') : TAt base w' T ss last :=
  ⟨h.ge, Nat.le_trans h.hb hb.size, (hb.block T h.lt).trans h.obj, h.four, fun s hs => (h.oks s hs).kept h.obj (grown_of_below _ hb), h.few⟩
theorem TAt.abcd {base T last : Nat} {w : World} {ss : List Sl} (h : TAt base w T ss last) : ∃ a b c d, ss = [a, b, c, d] := by
  have := h.four
  match ss, this with
  | [a, b, c, d], _ => exact ⟨a, b, c, d, rfl⟩
theorem TAt.cell {base T last : Nat} {w : World} {ss : List Sl} (h : TAt base w T ss last) {j : Nat} {v : Value} (hj : (tcells ss last)[j]? = some v) : w.cell? ⟨T, j, none⟩ = some v := by
  have := cell_of_row w T j _ _ _ h.obj
  rw [this]; simpa using hj
theorem TAt.free {base T last : Nat} {w : World} {ss : List Sl} (h : TAt base w T ss last) (j : Nat) : w.frozen? ⟨T, j, none⟩ = false := frozen_of_row w T j _ _ h.obj
/-- is there a link of that number that lives? -/
def liveI (ss : List Sl) (i : Int) : Bool := decide (0 ≤ i ∧ i < 4) && ((ss[i.toNat]?).map (·.live)).getD false
theorem there_e (i : Int) (w : World) : Calls Tryz.prog 26 #[.int .i64 i] w fun e w' => e = .returned (.bool (decide (0 ≤ i ∧ i < 4))) ∧ w = w' := by
  by_cases h0 : 0 ≤ i
  · by_cases h4 : i < 4
    · have R := Lib.hid (show decide (0 ≤ i ∧ i < 4) = true from decide_eq_true ⟨h0, h4⟩)
      go_enter Tryz.func26, Tryz.ntmps26
      go_wp2
      go_ret
      exact ⟨ret_b R.out.symm, rfl⟩
    · have R := Lib.hid (show decide (0 ≤ i ∧ i < 4) = false from decide_eq_false (by omega))
      have R2 := Lib.hid h4
      clear R
      go_enter Tryz.func26, Tryz.ntmps26
      go_wp2
      go_ret
      exact ⟨ret_b (decide_eq_false (by have := R2.out; omega)).symm, rfl⟩
  · have R := Lib.hid (show decide (0 ≤ i ∧ i < 4) = false from decide_eq_false (by omega))
    have R2 := Lib.hid h0
    clear R
    go_enter Tryz.func26, Tryz.ntmps26
    go_wp2
    go_ret
    exact ⟨ret_b (by rw [decide_eq_false (by have := R2.out; omega : ¬ 0 ≤ i)]; rfl), rfl⟩
theorem lives_out (T : Nat) (i : Int) (w : World) (h : ¬ (0 ≤ i ∧ i < 4)) : Calls Tryz.prog 28 #[.pointer (some ⟨T, 0, none⟩), .int .i64 i] w fun e w' => e = .returned (.bool false) ∧ w = w' := by
  have R := decide_eq_false h
  go_enter Tryz.func28, Tryz.ntmps28
  go_wp2_with fail
  refine (there_e _ _).mono ?_; rintro e w1 ⟨rfl, rfl⟩
  rw [R]
  go_wp2
  go_ret
  exact ⟨rfl, rfl⟩
theorem lives_in (T k : Nat) (b : Bool) (w : World) (hk : k < 4) (hc : w.cell? ⟨T, k * 8, none⟩ = some (.bool b)) : Calls Tryz.prog 28 #[.pointer (some ⟨T, 0, none⟩), .int .i64 k] w fun e w' => e = .returned (.bool b) ∧ w = w' := by
  have R : decide (0 ≤ (k : Int) ∧ (k : Int) < 4) = true := decide_eq_true (by omega)
  go_enter Tryz.func28, Tryz.ntmps28
  go_wp2_with fail
  refine (there_e _ _).mono ?_; rintro e w1 ⟨rfl, rfl⟩
  rw [R]
  go_wp2
  go_ret
  exact ⟨rfl, rfl⟩
end Go.Proofs.YtgopjgbcnjkblaaGreatDoor
