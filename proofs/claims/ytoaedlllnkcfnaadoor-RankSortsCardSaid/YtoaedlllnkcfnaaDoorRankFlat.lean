/-
  Plain facts on values of several cells, one behind the other: made, and set one by one. Each states its own conditions.
-/
import Derived.Test.YtoaedlllnkcfnaaDoorRankStab
namespace Go.Proofs.YtoaedlllnkcfnaaDoor
open Go.RowKit

/-- the first k set, the others as they were made -/
def flatK (xs : List (List Value)) (z : List Value) (n k : Nat) : List Value := (xs.take k).flatten ++ (List.replicate (n - k) z).flatten
theorem flat_len {s : Nat} : ∀ {l : List (List Value)}, (∀ x ∈ l, x.length = s) → l.flatten.length = l.length * s
  | [], _ => by simp
  | x :: l, h => by
    rw [List.flatten_cons, List.length_append, h x List.mem_cons_self, flat_len (fun y hy => h y (List.mem_cons_of_mem _ hy)), List.length_cons, Nat.succ_mul]; omega
theorem flat_at {s : Nat} : ∀ {l : List (List Value)} {k j : Nat} {c : List Value}, (∀ x ∈ l, x.length = s) → l[k]? = some c → j < s → l.flatten[k * s + j]? = c[j]?
  | [], k, j, c, _, h, _ => by simp at h
  | x :: l, 0, j, c, hl, h, hj => by
    obtain rfl : x = c := by simpa using h
    rw [List.flatten_cons, Nat.zero_mul, Nat.zero_add, List.getElem?_append_left (by rw [hl x List.mem_cons_self]; exact hj)]
  | x :: l, k + 1, j, c, hl, h, hj => by
    have hx := hl x List.mem_cons_self
    have : (k + 1) * s + j - x.length = k * s + j := by rw [hx, Nat.succ_mul]; omega
    rw [List.flatten_cons, List.getElem?_append_right (by rw [hx, Nat.succ_mul]; omega), this]
    exact flat_at (fun y hy => hl y (List.mem_cons_of_mem _ hy)) (by simpa using h) hj
theorem flatK_len {xs : List (List Value)} {z : List Value} {s n k : Nat} (hl : ∀ x ∈ xs, x.length = s) (hz : z.length = s) (hn : xs.length = n) (hk : k ≤ n) : (flatK xs z n k).length = n * s := by
  unfold flatK
  rw [List.length_append, flat_len (s := s) (fun x hx => hl x (List.mem_of_mem_take hx)), flat_len (s := s) (fun x hx => by rw [List.eq_of_mem_replicate hx]; exact hz), List.length_take, List.length_replicate, Nat.min_eq_left (by omega), ← Nat.add_mul]
  congr 1; omega
theorem flatK_step {xs : List (List Value)} {z c : List Value} {s n k : Nat} (hl : ∀ x ∈ xs, x.length = s) (hz : z.length = s) (hn : xs.length = n) (hk : xs[k]? = some c) :
    (flatK xs z n k).take (k * s) ++ c ++ (flatK xs z n k).drop (k * s + c.length) = flatK xs z n (k + 1) := by
  have hkn : k < n := by rw [← hn]; exact (List.getElem?_eq_some_iff.1 hk).1
  have hc : c.length = s := hl c (List.mem_of_getElem? hk)
  have h1 : ((xs.take k).flatten).length = k * s := by
    rw [flat_len (s := s) (fun x hx => hl x (List.mem_of_mem_take hx)), List.length_take, Nat.min_eq_left (by omega)]
  have h2 : (List.replicate (n - k) z).flatten = z ++ (List.replicate (n - (k + 1)) z).flatten := by
    rw [show n - k = (n - (k + 1)) + 1 by omega, List.replicate_succ, List.flatten_cons]
  unfold flatK
  rw [h2, List.take_left' h1, List.drop_append, h1, List.drop_eq_nil_of_le (by omega), List.nil_append, show k * s + c.length - k * s = z.length by omega, List.drop_left, List.take_add_one, hk]
  simp
theorem flatK_done {xs : List (List Value)} {z : List Value} {n : Nat} (hn : xs.length = n) : flatK xs z n n = xs.flatten := by
  unfold flatK; rw [Nat.sub_self]; simp [← hn]
theorem made_flat (z : Array Value) (n : Nat) (h : 0 < z.size) : (madeCells z (n * z.size)).toList = (List.replicate n z.toList).flatten := by
  have hl : ∀ x ∈ List.replicate n z.toList, x.length = z.size := fun x hx => by rw [List.eq_of_mem_replicate hx]; simp
  apply List.ext_getElem?
  intro i
  rcases Nat.lt_or_ge i (n * z.size) with hi | hi
  · have hq : i / z.size < n := (Nat.div_lt_iff_lt_mul h).2 hi
    have hr := Nat.mod_lt i h
    have he : i = i / z.size * z.size + i % z.size := by rw [Nat.mul_comm]; exact (Nat.div_add_mod i z.size).symm
    have hf := flat_at (l := List.replicate n z.toList) (k := i / z.size) (j := i % z.size) (c := z.toList) hl (by rw [List.getElem?_replicate, if_pos hq]) hr
    rw [← he] at hf
    rw [hf]
    unfold madeCells
    rw [Array.getElem?_toList, Array.getElem?_map, Array.getElem?_range]
    simp [hi, Array.getElem!_eq_getD, Array.getD, hr]
  · rw [List.getElem?_eq_none (by rw [Array.length_toList, size_madeCells]; exact hi), List.getElem?_eq_none (by rw [flat_len hl, List.length_replicate]; exact hi)]
section
variable {P : Program}
/-- a value of several cells into a part of a block, as a step of a region -/
theorem wp_store_sub {o : Oper} {a : Act} {w : World} {K : Act → World → Prop} {Q : Exit → Act → World → Prop} (ty : TypeId) (x y : Operand) (ho : o.op = .store ty x y) (g off : Nat) (z cells z' : Array Value) (t : TypeId) (hg : w.heap[g]? = some (.cells z t (0, 0)))
    (hx : a.eval x = .pointer (some ⟨g, off, none⟩)) (hy : a.eval y = .agg cells) (hi : (P.info? ty).map (·.size) = some cells.size) (hz : off + cells.size ≤ z.size) (h1 : cells.all (·.oneCell') = true)
    (he : (z.toList.take off ++ cells.toList ++ z.toList.drop (off + cells.size)).toArray = z')
    (h : K (a.put o.dst undef) (w.setRow g z')) : o.wp P a w K Q := by
  have hst := run_storeCells_at P g off t cells.toList 0 z w hg (by simpa using hz) (fun v hv => (Array.all_eq_true_iff_forall_mem.1 h1) v (by simpa using hv))
  simp only [Nat.add_zero, Array.length_toList, he] at hst
  have hsv : (storeVar ty ⟨g, off, none⟩ (.agg cells)).run P w = .ok () (w.setRow g z') := by
    cases hq : P.info? ty with
    | none => simp [hq] at hi
    | some i =>
      have hs : cells.size = i.size := by simp [hq] at hi; omega
      simp [storeVar, sizeOf, typeInfo, hq, Value.cells, hs, hst]
  unfold Oper.wp execOp
  simp only [ho, hx, hy, Instr.storeAt, Instr.sureAddr, Sem.run_bind, Sem.run_pure, Result.andThen_ok, hsv]
  exact h
end
/-- a record -/
structure RV where
  name : ByteArray
  typ : Int
  ttl : Int
  addr : List UInt8
  text : ByteArray
  data : ByteArray
def RV.cells (r : RV) : List Value := .string r.name :: .int .i64 r.typ :: .int .i64 r.ttl :: (bvs r.addr ++ [.string r.text, .string r.data])
def rvZero : RV := ⟨⟨#[]⟩, 0, 0, zero16, ⟨#[]⟩, ⟨#[]⟩⟩
theorem RV.size {r : RV} (h : r.addr.length = 16) : r.cells.length = 21 := by
  unfold RV.cells; simp [bvs_length, h]
theorem RV.one (r : RV) : r.cells.toArray.all (·.oneCell') = true := by
  rw [List.all_toArray]
  refine List.all_eq_true.2 fun v hv => ?_
  unfold RV.cells at hv
  simp only [List.mem_cons, List.mem_append] at hv
  rcases hv with rfl | rfl | rfl | h | h
  · rfl
  · rfl
  · rfl
  · exact bvs_one _ v h
  · simp only [List.not_mem_nil, or_false] at h
    rcases h with rfl | rfl <;> rfl
theorem rSize {r : RV} (h : r.addr.length = 16) : (Tryd.prog.info? 29).map (·.size) = some r.cells.toArray.size := by
  rw [List.size_toArray, RV.size h]; kernel_rfl
theorem rZeroAt : (Tryd.prog.info? 29).map (·.zero) = some (some (.agg rvZero.cells.toArray)) := by kernel_rfl
theorem RV.has {r : RV} (h : r.addr.length = 16) : (∀ (j : Nat) (v : Value), (bvs r.addr)[j]? = some v → r.cells[3 + j]? = some v) ∧ r.cells[0]? = some (.string r.name) ∧ r.cells[1]? = some (.int .i64 r.typ) ∧ r.cells[2]? = some (.int .i64 r.ttl) ∧ r.cells[19]? = some (.string r.text) ∧ r.cells[20]? = some (.string r.data) := by
  have hl : (bvs r.addr).length = 16 := by rw [bvs_length, h]
  unfold RV.cells
  refine ⟨fun j v hj => ?_, rfl, rfl, rfl, ?_, ?_⟩
  · rw [show 3 + j = j + 1 + 1 + 1 by omega, List.getElem?_cons_succ, List.getElem?_cons_succ, List.getElem?_cons_succ, List.getElem?_append_left (List.getElem?_eq_some_iff.1 hj).1]; exact hj
  all_goals rw [List.getElem?_cons_succ, List.getElem?_cons_succ, List.getElem?_cons_succ, List.getElem?_append_right (by omega), hl]; rfl
def RecsAt (w : World) (A : Option Addr) (rs : List RV) : Prop := RowsAt 21 w A (rs.map RV.cells)
theorem mk_keys (n : Nat) (hn : n ≤ 1000000) (W : World) : (Instr.makeSlice 47 (.int .i64 (n : Int)) (.int .i64 (n : Int))).run Tryd.prog W = .ok (.slice (some ⟨W.heap.size, 0, none⟩) n n) (W.alloc (.cells (flatK [] (key8 [0, 0, 0, 0, 0, 0, 0, 0]).toList n 0).toArray 38)) := by
  obtain ⟨i0, hi, hz0, hz1, hz2⟩ := info_parts (show (Tryd.prog.info? 38).map (fun i => (i.zero, i.size, i.bytes)) = some (some (.agg (key8 [0, 0, 0, 0, 0, 0, 0, 0])), 8, 64) by kernel_rfl)
  have h := run_make (P := Tryd.prog) W 47 38 i0 (.agg (key8 [0, 0, 0, 0, 0, 0, 0, 0])) Tryd.underlying47 hi hz0 .i64 .i64 (n : Int) (n : Int) (by omega) (by omega) (by rw [hz2]; omega) (by omega)
  rw [hz1] at h
  have hm := made_flat (key8 [0, 0, 0, 0, 0, 0, 0, 0]) n (by decide)
  have e : madeCells (key8 [0, 0, 0, 0, 0, 0, 0, 0]) (n * 8) = (flatK [] (key8 [0, 0, 0, 0, 0, 0, 0, 0]).toList n 0).toArray := by
    rw [← Array.toArray_toList (xs := madeCells _ _)]
    refine congrArg List.toArray ?_
    rw [show n * 8 = n * (key8 [0, 0, 0, 0, 0, 0, 0, 0]).size by rfl, hm]
    unfold flatK; simp
  rw [← e]
  simpa [Value.cells] using h
theorem mk_ints (n : Nat) (hn : n ≤ 1000000) (W : World) : (Instr.makeSlice 48 (.int .i64 (n : Int)) (.int .i64 (n : Int))).run Tryd.prog W = .ok (.slice (some ⟨W.heap.size, 0, none⟩) n n) (W.alloc (.cells (flatK [] [Value.int .i64 0] n 0).toArray 3)) := by
  obtain ⟨i0, hi, hz0, hz1, hz2⟩ := info_parts (show (Tryd.prog.info? 3).map (fun i => (i.zero, i.size, i.bytes)) = some (some (.int .i64 0), 1, 8) by kernel_rfl)
  have h := run_make (P := Tryd.prog) W 48 3 i0 (.int .i64 0) Tryd.underlying48 hi hz0 .i64 .i64 (n : Int) (n : Int) (by omega) (by omega) (by rw [hz2]; omega) (by omega)
  rw [hz1] at h
  have hm := made_flat #[Value.int .i64 0] n (by decide)
  have e : madeCells #[Value.int .i64 0] (n * 1) = (flatK [] [Value.int .i64 0] n 0).toArray := by
    rw [← Array.toArray_toList (xs := madeCells _ _)]
    refine congrArg List.toArray ?_
    rw [show n * 1 = n * (#[Value.int .i64 0] : Array Value).size by rfl, hm]
    unfold flatK; simp
  rw [← e]
  simpa [Value.cells] using h
theorem mk_recs (n : Nat) (hn : n ≤ 1000000) (W : World) : (Instr.makeSlice 25 (.int .i64 (n : Int)) (.int .i64 (n : Int))).run Tryd.prog W = .ok (.slice (some ⟨W.heap.size, 0, none⟩) n n) (W.alloc (.cells (flatK [] rvZero.cells n 0).toArray 29)) := by
  obtain ⟨i0, hi, hz0, hz1, hz2⟩ := info_parts (show (Tryd.prog.info? 29).map (fun i => (i.zero, i.size, i.bytes)) = some (some (.agg rvZero.cells.toArray), 21, 80) by kernel_rfl)
  have h := run_make (P := Tryd.prog) W 25 29 i0 (.agg rvZero.cells.toArray) Tryd.underlying25 hi hz0 .i64 .i64 (n : Int) (n : Int) (by omega) (by omega) (by rw [hz2]; omega) (by omega)
  rw [hz1] at h
  have hm := made_flat rvZero.cells.toArray n (by decide)
  have e : madeCells rvZero.cells.toArray (n * 21) = (flatK [] rvZero.cells n 0).toArray := by
    rw [← Array.toArray_toList (xs := madeCells _ _)]
    refine congrArg List.toArray ?_
    rw [show n * 21 = n * rvZero.cells.toArray.size by rfl, hm]
    unfold flatK; simp
  rw [← e]
  simpa [Value.cells] using h
theorem flatK_zero (xs : List (List Value)) (z : List Value) (n : Nat) : flatK xs z n 0 = flatK [] z n 0 := by unfold flatK; simp
end Go.Proofs.YtoaedlllnkcfnaaDoor
