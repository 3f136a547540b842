/-
  The walks of rank.Policy and rank.Scope. Condition: the two tables hold what their initialisers lay.
-/
import Derived.Test.YtoaedlllnkcfnaaDoorRankFn
namespace Go.Proofs.YtoaedlllnkcfnaaDoor
open Go.RowKit

/-- a beginning: its bytes, and how many bits of them -/
def pad16 (l : List UInt8) : List UInt8 := l ++ List.replicate (16 - l.length) 0
/-- a row of the policy table -/
structure PRow where
  addr : List UInt8
  bits : Nat
  prec : Nat
  lab : Nat
def PRow.cells (r : PRow) : List Value := bvs r.addr ++ [Value.int .i64 r.bits, Value.int .i64 r.prec, Value.int .i64 r.lab]
def pZero : PRow := ⟨zero16, 0, 0, 0⟩
def one6 : List UInt8 := [0, 0, 0, 0, 0, 0, 0, 0, 0, 0, 0, 0, 0, 0, 0, 1]
def pRows : List PRow := [⟨one6, 128, 50, 0⟩, ⟨zero16, 0, 40, 1⟩, ⟨[0, 0, 0, 0, 0, 0, 0, 0, 0, 0, 255, 255, 0, 0, 0, 0], 96, 35, 4⟩, ⟨[32, 2, 0, 0, 0, 0, 0, 0, 0, 0, 0, 0, 0, 0, 0, 0], 16, 30, 2⟩, ⟨[32, 1, 0, 0, 0, 0, 0, 0, 0, 0, 0, 0, 0, 0, 0, 0], 32, 5, 5⟩,
  ⟨[252, 0, 0, 0, 0, 0, 0, 0, 0, 0, 0, 0, 0, 0, 0, 0], 7, 3, 13⟩, ⟨zero16, 96, 1, 3⟩, ⟨[254, 192, 0, 0, 0, 0, 0, 0, 0, 0, 0, 0, 0, 0, 0, 0], 10, 1, 11⟩, ⟨[63, 254, 0, 0, 0, 0, 0, 0, 0, 0, 0, 0, 0, 0, 0, 0], 16, 1, 12⟩]
def pRow (k : Nat) : PRow := pRows.getD k pZero
def polT : List Value := pRows.flatMap PRow.cells
/-- the best row of the first k -/
def bestP (a : List UInt8) : Nat → PRow
  | 0 => pZero
  | k + 1 => if (pRow k).bits ≤ sh a (pRow k).addr ∧ (bestP a k).bits ≤ (pRow k).bits then pRow k else bestP a k
theorem pRow_len (k : Nat) : (pRow k).addr.length = 16 := by
  unfold pRow
  rcases Nat.lt_or_ge k 9 with h | h
  · match k, h with
    | 0, _ | 1, _ | 2, _ | 3, _ | 4, _ | 5, _ | 6, _ | 7, _ | 8, _ => rfl
  · rw [List.getD_eq_getElem?_getD, List.getElem?_eq_none (by exact h)]; rfl
theorem bestP_len (a : List UInt8) : ∀ k, (bestP a k).addr.length = 16
  | 0 => rfl
  | k + 1 => by
    rw [bestP]
    split
    · exact pRow_len k
    · exact bestP_len a k
theorem PRow.size {r : PRow} (h : r.addr.length = 16) : r.cells.length = 19 := by
  unfold PRow.cells; simp [bvs_length, h]
theorem pIndex (k : Nat) (h : k < 9) (W : World) : (Instr.index 57 (.agg polT.toArray) (.int .i64 k)).run Tryd.prog W = .ok (.agg (pRow k).cells.toArray) W := by
  obtain rfl | rfl | rfl | rfl | rfl | rfl | rfl | rfl | rfl : k = 0 ∨ k = 1 ∨ k = 2 ∨ k = 3 ∨ k = 4 ∨ k = 5 ∨ k = 6 ∨ k = 7 ∨ k = 8 := by omega
  all_goals kernel_rfl
/-- a row of the table of scopes -/
structure SRow where
  addr : List UInt8
  bits : Nat
  scope : Nat
def SRow.cells (r : SRow) : List Value := bvs r.addr ++ [Value.int .i64 r.bits, Value.int .i64 r.scope]
def sRows : List SRow := [⟨[254, 128, 0, 0, 0, 0, 0, 0, 0, 0, 0, 0, 0, 0, 0, 0], 10, 2⟩, ⟨one6, 128, 2⟩, ⟨[0, 0, 0, 0, 0, 0, 0, 0, 0, 0, 255, 255, 127, 0, 0, 0], 104, 2⟩, ⟨[0, 0, 0, 0, 0, 0, 0, 0, 0, 0, 255, 255, 169, 254, 0, 0], 112, 2⟩, ⟨[254, 192, 0, 0, 0, 0, 0, 0, 0, 0, 0, 0, 0, 0, 0, 0], 10, 5⟩]
def sRow (k : Nat) : SRow := sRows.getD k ⟨zero16, 0, 0⟩
def regT : List Value := sRows.flatMap SRow.cells
theorem sRow_len (k : Nat) : (sRow k).addr.length = 16 := by
  unfold sRow
  rcases Nat.lt_or_ge k 5 with h | h
  · match k, h with
    | 0, _ | 1, _ | 2, _ | 3, _ | 4, _ => rfl
  · rw [List.getD_eq_getElem?_getD, List.getElem?_eq_none (by exact h)]; rfl
theorem SRow.size {r : SRow} (h : r.addr.length = 16) : r.cells.length = 18 := by
  unfold SRow.cells; simp [bvs_length, h]
theorem sIndex (k : Nat) (h : k < 5) (W : World) : (Instr.index 60 (.agg regT.toArray) (.int .i64 k)).run Tryd.prog W = .ok (.agg (sRow k).cells.toArray) W := by
  obtain rfl | rfl | rfl | rfl | rfl : k = 0 ∨ k = 1 ∨ k = 2 ∨ k = 3 ∨ k = 4 := by omega
  all_goals kernel_rfl
/-- the first row, from the k-th on, of which an address is -/
def scopeFrom (a : List UInt8) (k : Nat) : Nat → Nat
  | 0 => 14
  | g + 1 => if (sRow k).bits ≤ sh a (sRow k).addr then (sRow k).scope else scopeFrom a (k + 1) g
def scopeR (a : List UInt8) : Nat := if a.getD 0 0 = 255 then (a.getD 1 0).toNat % 16 else scopeFrom a 0 5
/-- the two tables as they are laid -/
structure REnv (w : World) : Prop where
  pol : ∀ j v, polT.toArray.toList[j]? = some v → w.cell? ((⟨0, 0, none⟩ : Addr).add j) = some v
  reg : ∀ j v, regT.toArray.toList[j]? = some v → w.cell? ((⟨1, 0, none⟩ : Addr).add j) = some v
theorem REnv.below {w w' : World} (h : REnv w) (hb : Below w.heap.size w w') : REnv w' :=
  ⟨fun j v hj => (hb.cell (cell_lt (h.pol j v hj))).trans (h.pol j v hj), fun j v hj => (hb.cell (cell_lt (h.reg j v hj))).trans (h.reg j v hj)⟩
/-- a value is taken out of an array, given as a fact -/
theorem wpList_index {P : Program} {ops : Array Oper} {rest : List Oper} {o : Oper} {a : Act} {Q : Exit → Act → World → Prop} {w : World} (hgd : o.guard = none) (ty : TypeId) (x y : Operand) (ho : o.op = .index ty x y) (v : Value)
    (hr : (Instr.index ty (a.eval x) (a.eval y)).run P w = .ok v w) (h : wpList P ops Q rest (a.put o.dst v) w) : wpList P ops Q (o :: rest) a w :=
  wpList_plain hgd fun _ hK => by
    unfold Oper.wp execOp
    simp only [ho, Sem.run_bind, hr, Result.andThen_ok, Sem.run_pure]
    exact hK _ _ h

/-- a part of a block's cells -/
theorem part_at {w : World} {g : Nat} {cs : Array Value} {t : TypeId} {fr : Nat × Nat} (hg : w.heap[g]? = some (.cells cs t fr)) (off : Nat) (l : List Value) (hl : ∀ j v, l[j]? = some v → cs[off + j]? = some v) : ∀ j v, l.toArray.toList[j]? = some v → w.cell? ((⟨g, off, none⟩ : Addr).add j) = some v := fun j v hj => by
  rw [Addr.add_lit, cell_of_row _ _ _ _ _ _ hg]
  exact hl j v hj
theorem PRow.has {r : PRow} (h : r.addr.length = 16) : (∀ j v, (bvs r.addr ++ [Value.int .i64 r.bits])[j]? = some v → r.cells.toArray[0 + j]? = some v) ∧ r.cells.toArray[16]? = some (.int .i64 r.bits) ∧ r.cells.toArray[17]? = some (.int .i64 r.prec) ∧ r.cells.toArray[18]? = some (.int .i64 r.lab) := by
  have hl : (bvs r.addr).length = 16 := by rw [bvs_length, h]
  unfold PRow.cells
  refine ⟨fun j v hj => ?_, ?_, ?_, ?_⟩
  · rw [Nat.zero_add, List.getElem?_toArray]
    rw [show bvs r.addr ++ [Value.int .i64 r.bits, .int .i64 r.prec, .int .i64 r.lab] = (bvs r.addr ++ [Value.int .i64 r.bits]) ++ [.int .i64 r.prec, .int .i64 r.lab] by simp]
    rw [List.getElem?_append_left (List.getElem?_eq_some_iff.1 hj).1]; exact hj
  all_goals rw [List.getElem?_toArray, List.getElem?_append_right (by omega), hl]; rfl
theorem SRow.has {r : SRow} (h : r.addr.length = 16) : (∀ j v, (bvs r.addr ++ [Value.int .i64 r.bits])[j]? = some v → r.cells.toArray[0 + j]? = some v) ∧ r.cells.toArray[17]? = some (.int .i64 r.scope) := by
  have hl : (bvs r.addr).length = 16 := by rw [bvs_length, h]
  unfold SRow.cells
  refine ⟨fun j v hj => ?_, ?_⟩
  · rw [Nat.zero_add, List.getElem?_toArray]
    rw [show bvs r.addr ++ [Value.int .i64 r.bits, .int .i64 r.scope] = (bvs r.addr ++ [Value.int .i64 r.bits]) ++ [.int .i64 r.scope] by simp]
    rw [List.getElem?_append_left (List.getElem?_eq_some_iff.1 hj).1]; exact hj
  · rw [List.getElem?_toArray, List.getElem?_append_right (by omega), hl]; rfl
theorem PRow.one (r : PRow) : r.cells.toArray.all (·.oneCell') = true := by
  rw [List.all_toArray]
  refine List.all_eq_true.2 fun v hv => ?_
  unfold PRow.cells at hv
  rcases List.mem_append.1 hv with h | h
  · exact bvs_one _ v h
  · simp only [List.mem_cons, List.not_mem_nil, or_false] at h
    rcases h with rfl | rfl | rfl <;> rfl
theorem SRow.one (r : SRow) : r.cells.toArray.all (·.oneCell') = true := by
  rw [List.all_toArray]
  refine List.all_eq_true.2 fun v hv => ?_
  unfold SRow.cells at hv
  rcases List.mem_append.1 hv with h | h
  · exact bvs_one _ v h
  · simp only [List.mem_cons, List.not_mem_nil, or_false] at h
    rcases h with rfl | rfl <;> rfl
theorem pSize {r : PRow} (h : r.addr.length = 16) : (Tryd.prog.info? 56).map (·.size) = some r.cells.toArray.size := by
  rw [List.size_toArray, PRow.size h]; kernel_rfl
theorem sSize {r : SRow} (h : r.addr.length = 16) : (Tryd.prog.info? 59).map (·.size) = some r.cells.toArray.size := by
  rw [List.size_toArray, SRow.size h]; kernel_rfl
theorem bSize {x : List UInt8} (h : x.length = 16) (n : Nat) : (Tryd.prog.info? 54).map (·.size) = some (bvs x ++ [Value.int .i64 n]).toArray.size := by
  rw [List.size_toArray, List.length_append, bvs_length, h]; kernel_rfl
theorem pZeroAt : (Tryd.prog.info? 56).map (·.zero) = some (some (.agg pZero.cells.toArray)) := by kernel_rfl
theorem sZeroAt : (Tryd.prog.info? 59).map (·.zero) = some (some (.agg (SRow.cells ⟨zero16, 0, 0⟩).toArray)) := by kernel_rfl
theorem polSize : (Tryd.prog.info? 57).map (·.size) = some polT.toArray.size := by kernel_rfl
theorem regSize : (Tryd.prog.info? 60).map (·.size) = some regT.toArray.size := by kernel_rfl
end Go.Proofs.YtoaedlllnkcfnaaDoor
