/-
  A record as it lies in memory; rules for whole records that are loaded, stored and held against one another. Conditions: each states its own.
-/
import Derived.Test.YtakfokdjdljjjaaDoorMsgGoes
import Derived.Deep.WholeRow
import Derived.Stop.BytesEq
import Derived.Laws.OwnMore
namespace Go.Proofs.YtakfokdjdljjjaaDoor
open Go.RowKit

def bvs (xs : List UInt8) : List Value := xs.map fun c => .int .u8 c.toNat
theorem bvs_length (xs : List UInt8) : (bvs xs).length = xs.length := by unfold bvs; simp
theorem bvs_at {xs : List UInt8} {j : Nat} (h : j < xs.length) : (bvs xs)[j]? = some (.int .u8 (xs.getD j 0).toNat) := by
  unfold bvs; simp [List.getElem?_map, List.getElem?_eq_getElem h, List.getD]
theorem bvs_one (xs : List UInt8) : ∀ v ∈ bvs xs, v.oneCell' = true := fun v hv => by
  obtain ⟨c, _, rfl⟩ := List.mem_map.1 hv; rfl
theorem bvs_append (a b : List UInt8) : bvs (a ++ b) = bvs a ++ bvs b := by unfold bvs; simp
theorem bvs_inj {a b : List UInt8} (h : bvs a = bvs b) : a = b := by
  induction a generalizing b with
  | nil =>
    cases b with
    | nil => rfl
    | cons y b => cases h
  | cons x a ih =>
    cases b with
    | nil => cases h
    | cons y b =>
      unfold bvs at h
      simp only [List.map_cons, List.cons.injEq, Value.int.injEq, true_and] at h
      rw [UInt8.toNat_inj.1 (by omega : x.toNat = y.toNat), ih h.2]
/-- a record's fields -/
structure RV where
  nm : ByteArray
  ty : Int
  ttl : Int
  ad : List UInt8
  tx : ByteArray
  da : ByteArray
def RV.cells (r : RV) : Array Value := (.string r.nm :: .int .i64 r.ty :: .int .i64 r.ttl :: (bvs r.ad ++ [.string r.tx, .string r.da])).toArray
theorem RV.size {r : RV} (h : r.ad.length = 16) : r.cells.size = 21 := by unfold RV.cells; simp [bvs_length, h]
theorem RV.c0 (r : RV) : r.cells[0]? = some (.string r.nm) := by unfold RV.cells; simp
theorem RV.c1 (r : RV) : r.cells[1]? = some (.int .i64 r.ty) := by unfold RV.cells; simp
theorem RV.c2 (r : RV) : r.cells[2]? = some (.int .i64 r.ttl) := by unfold RV.cells; simp
theorem RV.c3 {r : RV} (h : r.ad.length = 16) {j : Nat} (hj : j < 16) : r.cells[3 + j]? = some (.int .u8 (r.ad.getD j 0).toNat) := by
  unfold RV.cells
  rw [show 3 + j = j + 1 + 1 + 1 by omega]
  simp only [List.getElem?_toArray, List.getElem?_cons_succ]
  rw [List.getElem?_append_left (by rw [bvs_length, h]; exact hj), bvs_at (by omega)]
theorem RV.c19 {r : RV} (h : r.ad.length = 16) : r.cells[19]? = some (.string r.tx) := by
  unfold RV.cells
  simp only [List.getElem?_toArray, List.getElem?_cons_succ]
  rw [List.getElem?_append_right (by rw [bvs_length, h]; omega), bvs_length, h]; rfl
theorem RV.c20 {r : RV} (h : r.ad.length = 16) : r.cells[20]? = some (.string r.da) := by
  unfold RV.cells
  simp only [List.getElem?_toArray, List.getElem?_cons_succ]
  rw [List.getElem?_append_right (by rw [bvs_length, h]; omega), bvs_length, h]; rfl
theorem RV.one (r : RV) : r.cells.all (·.oneCell') = true := by
  unfold RV.cells
  simp only [List.all_toArray, List.all_cons, List.all_append, List.all_nil, Bool.and_true]
  rw [show (bvs r.ad).all (·.oneCell') = true from List.all_eq_true.2 (bvs_one r.ad)]; rfl
theorem RV.set1 (r : RV) (v : Int) : r.cells.setIfInBounds 1 (.int .i64 v) = RV.cells { r with ty := v } := by unfold RV.cells; simp
theorem RV.set2 (r : RV) (v : Int) : r.cells.setIfInBounds 2 (.int .i64 v) = RV.cells { r with ttl := v } := by unfold RV.cells; simp
theorem RV.set19 {r : RV} (h : r.ad.length = 16) (v : ByteArray) : r.cells.setIfInBounds 19 (.string v) = RV.cells { r with tx := v } := by
  unfold RV.cells
  simp only [List.setIfInBounds_toArray, List.set_cons_succ]
  rw [List.set_append_right _ _ (by rw [bvs_length, h]; omega), bvs_length, h]; rfl
theorem RV.set20 {r : RV} (h : r.ad.length = 16) (v : ByteArray) : r.cells.setIfInBounds 20 (.string v) = RV.cells { r with da := v } := by
  unfold RV.cells
  simp only [List.setIfInBounds_toArray, List.set_cons_succ]
  rw [List.set_append_right _ _ (by rw [bvs_length, h]; omega), bvs_length, h]; rfl
theorem RV.set3 {r : RV} (h : r.ad.length = 16) {x : List UInt8} (hx : x.length = 16) : (r.cells.toList.take 3 ++ (bvs x).toArray.toList ++ r.cells.toList.drop (3 + (bvs x).toArray.size)).toArray = RV.cells { r with ad := x } := by
  unfold RV.cells
  simp only [List.size_toArray, bvs_length, hx, List.take_succ_cons, List.take_zero, List.drop_succ_cons]
  rw [List.drop_append_of_le_length (by rw [bvs_length, h]; omega), List.drop_of_length_le (by rw [bvs_length, h]; omega)]
  simp
theorem RV.sub3 {r : RV} (h : r.ad.length = 16) : ∀ j v, (bvs r.ad).toArray.toList[j]? = some v → r.cells[3 + j]? = some v := fun j v hj => by
  have hj' : j < 16 := by have := (List.getElem?_eq_some_iff.1 hj).1; simp only [bvs_length, h] at this; exact this
  rw [RV.c3 h hj', ← bvs_at (by omega)]; exact hj
def RV.zero : RV := ⟨⟨#[]⟩, 0, 0, zero16, ⟨#[]⟩, ⟨#[]⟩⟩
theorem sizeU8 : (Tryd.prog.info? 5).map (·.size) = some 1 := by kernel_rfl
theorem sizeAddr : (Tryd.prog.info? 40).map (·.size) = some 16 := by kernel_rfl
theorem sizeRec : (Tryd.prog.info? 45).map (·.size) = some 21 := by kernel_rfl

section
variable {P : Program} {ops : Array Oper} {rest : List Oper} {o : Oper} {a : Act} {Q : Exit → Act → World → Prop}
/-- a whole value of several cells, from wherever -/
theorem wpList_load_agg {w : World} (hgd : o.guard = none) (ty : TypeId) (x : Operand) (ho : o.op = .load ty x) (p : Addr) (hx : a.eval x = .pointer (some p)) (cs : Array Value) (d : TypeDesc)
    (hc : ∀ j v, cs.toList[j]? = some v → w.cell? (p.add j) = some v)
    (hu : P.underlying ty = some d) (hd : (match d with | .struct _ | .array _ _ => true | _ => false) = true) (hi : (P.info? ty).map (·.size) = some cs.size)
    (h : wpList P ops Q rest (a.put o.dst (.agg cs)) w) : wpList P ops Q (o :: rest) a w :=
  wpList_plain hgd fun _ hK => by
    have hl := run_loadCells_list (P := P) w p cs.toList hc
    cases hq : P.info? ty with
    | none => simp [hq] at hi
    | some i =>
      have hs : i.size = cs.size := by simpa [hq] using hi
      have hagg : (isAgg ty).run P w = .ok true w := by
        unfold isAgg
        rw [Sem.run_bind, run_underlying hu w]
        cases d <;> simp_all
      have hlv : (loadVar ty p).run P w = .ok (.agg cs) w := by
        simp only [Array.length_toList, Array.toArray_toList] at hl
        simp [loadVar, Sem.run_bind, hagg, sizeOf, typeInfo, hq, hs, hl]
      unfold Oper.wp execOp
      simp only [ho, hx, Instr.loadAt, Instr.sureAddr, Sem.run_bind, Sem.run_pure, Result.andThen_ok, hlv]
      exact hK _ _ h
/-- a whole value into the block that was made last -/
theorem wpList_store_new {W : World} (hgd : o.guard = none) (ty : TypeId) (x y : Operand) (ho : o.op = .store ty x y) (g : Nat) (hg : W.heap.size = g) (z cells : Array Value) (t : TypeId)
    (hx : a.eval x = .pointer (some ⟨g, 0, none⟩)) (hy : a.eval y = .agg cells) (hi : (P.info? ty).map (·.size) = some cells.size) (hz : z.size = cells.size) (h1 : cells.all (·.oneCell') = true)
    (h : wpList P ops Q rest (a.put o.dst undef) (W.alloc (.cells cells t))) : wpList P ops Q (o :: rest) a (W.alloc (.cells z t)) := by
  subst hg
  exact wpList_store_row hgd ty x y ho W.heap.size cells hx hy t z (heap_alloc_last W _) hi hz h1 (by rw [World.setRow_alloc_new]; exact h)
theorem run_load_agg {w : World} (ty : TypeId) (p : Addr) (cs : Array Value) (d : TypeDesc) (hc : ∀ j v, cs.toList[j]? = some v → w.cell? (p.add j) = some v)
    (hu : P.underlying ty = some d) (hd : (match d with | .struct _ | .array _ _ => true | _ => false) = true) (hi : (P.info? ty).map (·.size) = some cs.size) : (loadVar ty p).run P w = .ok (.agg cs) w := by
  have hl := run_loadCells_list (P := P) w p cs.toList hc
  cases hq : P.info? ty with
  | none => simp [hq] at hi
  | some i =>
    have hs : i.size = cs.size := by simpa [hq] using hi
    have hagg : (isAgg ty).run P w = .ok true w := by
      unfold isAgg
      rw [Sem.run_bind, run_underlying hu w]
      cases d <;> simp_all
    simp only [Array.length_toList, Array.toArray_toList] at hl
    simp [loadVar, Sem.run_bind, hagg, sizeOf, typeInfo, hq, hs, hl]
/-- the same two as steps of a region that draws its order -/
theorem step_load_agg {w : World} {K : Act → World → Prop} {E : Prop} (hgd : o.guard = none) (ty : TypeId) (x : Operand) (ho : o.op = .load ty x) (p : Addr) (hx : a.eval x = .pointer (some p)) (cs : Array Value) (d : TypeDesc)
    (hc : ∀ j v, cs.toList[j]? = some v → w.cell? (p.add j) = some v)
    (hu : P.underlying ty = some d) (hd : (match d with | .struct _ | .array _ _ => true | _ => false) = true) (hi : (P.info? ty).map (·.size) = some cs.size)
    (h : K (a.put o.dst (.agg cs)) w) : if Region.wanted o (yielded ops a.tmps) = true then Oper.wp P o a w K Q else E := by
  have hw : Region.wanted o (yielded ops a.tmps) = true := by simp [Region.wanted, hgd]
  rw [if_pos hw]
  unfold Oper.wp execOp
  simp only [ho, hx, Instr.loadAt, Instr.sureAddr, Sem.run_bind, Sem.run_pure, Result.andThen_ok, run_load_agg ty p cs d hc hu hd hi]
  exact h
theorem step_eql_agg {w : World} {K : Act → World → Prop} {E : Prop} (hgd : o.guard = none) (t : TypeId) (x y : Operand) (s : TypeId) (ho : o.op = .binOp .eql t x y s) (xs ys : Array Value) (b : Bool) (hx : a.eval x = .agg xs) (hy : a.eval y = .agg ys)
    (hm : P.eqGuardType P.depth t = false) (hr : (Op.equalIn 10000 t (.agg xs) (.agg ys)).run P w = .ok b w)
    (h : K (a.put o.dst (.bool b)) w) : if Region.wanted o (yielded ops a.tmps) = true then Oper.wp P o a w K Q else E := by
  have hw : Region.wanted o (yielded ops a.tmps) = true := by simp [Region.wanted, hgd]
  rw [if_pos hw]
  have h1 := run_eqGuard_agg (P := P) w .eql t x y xs ys hm
  have h2 := run_eql_struct (P := P) w t xs ys
  rw [hr] at h2
  unfold Oper.wp execOp
  simp only [ho, hx, hy, Sem.run_bind, h1, h2, Result.andThen_ok]
  exact h
/-- a whole value into a block of which all is known -/
theorem wpList_store_blk {w : World} (hgd : o.guard = none) (ty : TypeId) (x y : Operand) (ho : o.op = .store ty x y) (g : Nat) (z cells : Array Value) (t : TypeId) (hg : w.heap[g]? = some (.cells z t (0, 0)))
    (hx : a.eval x = .pointer (some ⟨g, 0, none⟩)) (hy : a.eval y = .agg cells) (hi : (P.info? ty).map (·.size) = some cells.size) (hz : z.size = cells.size) (h1 : cells.all (·.oneCell') = true)
    (h : ∀ w', Hid (w'.heap[g]? = some (.cells cells t (0, 0))) → Hid (w.grownBy w' (some g)) → w'.heap.size = w.heap.size → wpList P ops Q rest (a.put o.dst undef) w') : wpList P ops Q (o :: rest) a w :=
  wpList_store_row hgd ty x y ho g cells hx hy t z hg hi hz h1
    (h _ (setRow_heap w g z cells t _ hg) ⟨rfl, rfl, rfl, by simp, fun k _ hk => setRow_other w g k cells (fun e => hk (by rw [e]))⟩ (by simp))
/-- a value of several cells into a part of a block of which all is known -/
theorem wpList_store_sub {w : World} (hgd : o.guard = none) (ty : TypeId) (x y : Operand) (ho : o.op = .store ty x y) (g off : Nat) (z cells z' : Array Value) (t : TypeId) (hg : w.heap[g]? = some (.cells z t (0, 0)))
    (hx : a.eval x = .pointer (some ⟨g, off, none⟩)) (hy : a.eval y = .agg cells) (hi : (P.info? ty).map (·.size) = some cells.size) (hz : off + cells.size ≤ z.size) (h1 : cells.all (·.oneCell') = true)
    (he : (z.toList.take off ++ cells.toList ++ z.toList.drop (off + cells.size)).toArray = z')
    (h : ∀ w', Hid (w'.heap[g]? = some (.cells z' t (0, 0))) → Hid (w.grownBy w' (some g)) → w'.heap.size = w.heap.size → wpList P ops Q rest (a.put o.dst undef) w') : wpList P ops Q (o :: rest) a w :=
  wpList_plain hgd fun _ hK => by
    have hst := run_storeCells_at P g off t cells.toList 0 z w hg (by simpa using hz) (fun v hv => (Array.all_eq_true_iff_forall_mem.1 h1) v (by simpa using hv))
    simp only [Nat.add_zero, Array.length_toList, he] at hst
    have hsv : (storeVar ty ⟨g, off, none⟩ (.agg cells)).run P w = .ok () (w.setRow g z') := by
      cases hq : P.info? ty with
      | none => simp [hq] at hi
      | some i =>
        have hs : cells.size = i.size := by simp [hq] at hi; omega
        simp [storeVar, sizeOf, typeInfo, hq, Value.cells, hs, hst]
    unfold Oper.wp execOp
    simp only [ho, hx, hy, Instr.storeAt, Instr.sureAddr, Sem.run_bind, Sem.run_pure, Result.andThen_ok, hsv]
    exact hK _ _ (h _ (setRow_heap w g z z' t _ hg) ⟨rfl, rfl, rfl, by simp, fun k _ hk => setRow_other w g k z' (fun e => hk (by rw [e]))⟩ (by simp))
/-- two values of several cells held against one another -/
theorem wpList_eql_agg {w : World} (hgd : o.guard = none) (t : TypeId) (x y : Operand) (s : TypeId) (ho : o.op = .binOp .eql t x y s) (xs ys : Array Value) (b : Bool) (hx : a.eval x = .agg xs) (hy : a.eval y = .agg ys)
    (hm : P.eqGuardType P.depth t = false) (hr : (Op.equalIn 10000 t (.agg xs) (.agg ys)).run P w = .ok b w)
    (h : wpList P ops Q rest (a.put o.dst (.bool b)) w) : wpList P ops Q (o :: rest) a w :=
  wpList_plain hgd fun _ hK => by
    have h1 := run_eqGuard_agg (P := P) w .eql t x y xs ys hm
    have h2 := run_eql_struct (P := P) w t xs ys
    rw [hr] at h2
    unfold Oper.wp execOp
    simp only [ho, hx, hy, Sem.run_bind, h1, h2, Result.andThen_ok]
    exact hK _ _ h
/-- a new variable, what it holds under a name -/
theorem wpList_alloc_z {w : World} (hgd : o.guard = none) (ty : TypeId) (ho : o.op = .alloc ty) (z : Array Value) (hz : (P.info? ty).map (·.zero) = some (some (.agg z)))
    (h : wpList P ops Q rest (a.put o.dst (.pointer (some ⟨w.heap.size, 0, none⟩))) (w.alloc (.cells z ty))) : wpList P ops Q (o :: rest) a w :=
  wpList_plain hgd fun _ hK => by
    have hzr : (zeroValue ty).run P w = .ok (.agg z) w := by
      cases hq : P.info? ty with
      | none => simp [hq] at hz
      | some i =>
        have : i.zero = some (.agg z) := by simpa [hq] using hz
        simp [zeroValue, typeInfo, hq, this]
    unfold Oper.wp execOp
    simp only [ho, Instr.alloc, newVar, newRow, Sem.run_bind, hzr, Result.andThen_ok, run_newObj_alloc, Sem.run_pure, Value.cells]
    exact hK _ _ h
/-- a value built of parts, under a name -/
theorem wpList_build_z {w : World} (hgd : o.guard = none) (t : TypeId) (parts : Array (Nat × Operand)) (ho : o.op = .build t parts) (cs : Array Value) (hf : P.built t (parts.toList.map fun (i, x) => (i, a.eval x)) = some cs)
    (h : wpList P ops Q rest (a.put o.dst (.agg cs)) w) : wpList P ops Q (o :: rest) a w := by
  have hf' : P.built t (parts.map fun (i, x) => (i, a.eval x)).toList = some cs := by rw [Array.toList_map]; exact hf
  exact wpList_build hgd t parts ho (by rw [hf']; rfl) (by rw [hf']; exact h)
end

theorem sizeOfU8 (w : World) : (sizeOf 5).run Tryd.prog w = .ok 1 w := by kernel_rfl
theorem eq_addr (d : Nat) (w : World) {x y : List UInt8} (hx : x.length = 16) (hy : y.length = 16) : (Op.equalIn (d + 2) 40 (.agg (bvs x).toArray) (.agg (bvs y).toArray)).run Tryd.prog w = .ok (x == y) w :=
  run_equalIn_bytes w d 40 5 16 Tryd.underlying40 Tryd.underlying5 sizeOfU8 x y hx hy
theorem ext_addr {r : RV} (h : r.ad.length = 16) : r.cells.extract 3 (3 + 16) = (bvs r.ad).toArray := by
  unfold RV.cells
  simp only [List.extract_toArray, List.extract_eq_take_drop]
  congr 1
  simp only [List.drop_succ_cons, List.drop_zero]
  rw [List.take_append_of_le_length (by rw [bvs_length, h]; omega), List.take_of_length_le (by rw [bvs_length, h]; omega)]
def RV.eqB (r s : RV) : Bool := (r.nm.toList == s.nm.toList) && (r.ty == s.ty) && (r.ttl == s.ttl) && (r.ad == s.ad) && (r.tx.toList == s.tx.toList) && (r.da.toList == s.da.toList)
theorem eqf_str {f : Field} {fs : List Field} (d : Nat) (w : World) {xs ys : Array Value} {a b : ByteArray} (hn : f.name ≠ "_") (ht : f.type = 9) (hx : xs[f.offset]? = some (.string a)) (hy : ys[f.offset]? = some (.string b)) :
    (Op.eqFields (d + 1) xs ys (f :: fs)).run Tryd.prog w = if (a.toList == b.toList) = true then (Op.eqFields (d + 1) xs ys fs).run Tryd.prog w else .ok false w := by
  have p1 : (part f.type xs f.offset).run Tryd.prog w = .ok (.string a) w := by rw [ht]; simp [part, isAgg, run_underlying Tryd.underlying9, hx]
  have p2 : (part f.type ys f.offset).run Tryd.prog w = .ok (.string b) w := by rw [ht]; simp [part, isAgg, run_underlying Tryd.underlying9, hy]
  have p3 : (Op.equalIn (d + 1) f.type (.string a) (.string b)).run Tryd.prog w = .ok (a.toList == b.toList) w := by rw [ht]; exact run_equalIn_string w d _ a b Tryd.underlying9
  simp only [Op.eqFields, if_pos hn, Sem.run_bind, p1, p2, p3, Result.andThen_ok]
  cases (a.toList == b.toList) <;> simp
theorem eqf_int {f : Field} {fs : List Field} (d : Nat) (w : World) {xs ys : Array Value} {a b : Int} (hn : f.name ≠ "_") (ht : f.type = 3) (hx : xs[f.offset]? = some (.int .i64 a)) (hy : ys[f.offset]? = some (.int .i64 b)) :
    (Op.eqFields (d + 1) xs ys (f :: fs)).run Tryd.prog w = if (a == b) = true then (Op.eqFields (d + 1) xs ys fs).run Tryd.prog w else .ok false w := by
  have p1 : (part f.type xs f.offset).run Tryd.prog w = .ok (.int .i64 a) w := by rw [ht]; simp [part, isAgg, run_underlying Tryd.underlying3, hx]
  have p2 : (part f.type ys f.offset).run Tryd.prog w = .ok (.int .i64 b) w := by rw [ht]; simp [part, isAgg, run_underlying Tryd.underlying3, hy]
  have p3 : (Op.equalIn (d + 1) f.type (.int .i64 a) (.int .i64 b)).run Tryd.prog w = .ok (a == b) w := by rw [ht]; exact run_equalIn_int w d _ _ _ a b Tryd.underlying3
  simp only [Op.eqFields, if_pos hn, Sem.run_bind, p1, p2, p3, Result.andThen_ok]
  cases (a == b) <;> simp
theorem sizeOfAddr (w : World) : (sizeOf 40).run Tryd.prog w = .ok 16 w := by kernel_rfl
theorem eqf_addr {f : Field} {fs : List Field} (d : Nat) (w : World) {xs ys : Array Value} {x y : List UInt8} (hn : f.name ≠ "_") (ht : f.type = 40) (hx : xs.extract f.offset (f.offset + 16) = (bvs x).toArray) (hy : ys.extract f.offset (f.offset + 16) = (bvs y).toArray) (h1 : x.length = 16) (h2 : y.length = 16) :
    (Op.eqFields (d + 2) xs ys (f :: fs)).run Tryd.prog w = if (x == y) = true then (Op.eqFields (d + 2) xs ys fs).run Tryd.prog w else .ok false w := by
  have p1 : (part f.type xs f.offset).run Tryd.prog w = .ok (.agg (bvs x).toArray) w := by rw [ht]; simp only [part, isAgg, Sem.run_bind, run_underlying Tryd.underlying40, Result.andThen_ok, Sem.run_pure, if_true, sizeOfAddr, hx]
  have p2 : (part f.type ys f.offset).run Tryd.prog w = .ok (.agg (bvs y).toArray) w := by rw [ht]; simp only [part, isAgg, Sem.run_bind, run_underlying Tryd.underlying40, Result.andThen_ok, Sem.run_pure, if_true, sizeOfAddr, hy]
  have p3 : (Op.equalIn (d + 2) f.type (.agg (bvs x).toArray) (.agg (bvs y).toArray)).run Tryd.prog w = .ok (x == y) w := by rw [ht]; exact eq_addr d w h1 h2
  simp only [Op.eqFields, if_pos hn, Sem.run_bind, p1, p2, p3, Result.andThen_ok]
  cases (x == y) <;> simp
theorem eq_recs (w : World) {r s : RV} (hr : r.ad.length = 16) (hs : s.ad.length = 16) : (Op.equalIn 10000 45 (.agg r.cells) (.agg s.cells)).run Tryd.prog w = .ok (r.eqB s) w := by
  have hf : Tryd.prog.underlying 45 = some (.struct (Tryd.prog.fieldsOf 45)) := by kernel_rfl
  rw [show 10000 = 9999 + 1 from rfl, run_equalIn_agg w 9999 45 r.cells s.cells hf (by kernel_rfl)]
  have hfs : (Tryd.prog.fieldsOf 45).toList.map (fun f => (f.name != "_", f.type, f.offset)) = [(true, 9, 0), (true, 3, 1), (true, 3, 2), (true, 40, 3), (true, 9, 19), (true, 9, 20)] := by kernel_rfl
  generalize (Tryd.prog.fieldsOf 45).toList = fs at hfs ⊢
  have hl : fs.length = 6 := by simpa using congrArg List.length hfs
  revert hfs
  match fs, hl with
  | [f0, f1, f2, f3, f4, f5], _ =>
    intro hfs
    simp only [List.map_cons, List.map_nil, List.cons.injEq, Prod.mk.injEq, bne_iff_ne, and_true] at hfs
    obtain ⟨⟨n0, t0, o0⟩, ⟨n1, t1, o1⟩, ⟨n2, t2, o2⟩, ⟨n3, t3, o3⟩, ⟨n4, t4, o4⟩, ⟨n5, t5, o5⟩⟩ := hfs
    rw [show 9999 = 9998 + 1 from rfl, eqf_str 9998 w n0 t0 (by rw [o0]; exact r.c0) (by rw [o0]; exact s.c0), eqf_int 9998 w n1 t1 (by rw [o1]; exact r.c1) (by rw [o1]; exact s.c1),
      eqf_int 9998 w n2 t2 (by rw [o2]; exact r.c2) (by rw [o2]; exact s.c2), show 9998 + 1 = 9997 + 2 from rfl, eqf_addr 9997 w n3 t3 (by rw [o3]; exact ext_addr hr) (by rw [o3]; exact ext_addr hs) hr hs,
      show 9997 + 2 = 9998 + 1 from rfl, eqf_str 9998 w n4 t4 (by rw [o4]; exact RV.c19 hr) (by rw [o4]; exact RV.c19 hs), eqf_str 9998 w n5 t5 (by rw [o5]; exact RV.c20 hr) (by rw [o5]; exact RV.c20 hs)]
    unfold RV.eqB
    simp only [Op.eqFields, Sem.run_pure]
    generalize (r.nm.toList == s.nm.toList) = b0
    generalize (r.ty == s.ty) = b1
    generalize (r.ttl == s.ttl) = b2
    generalize (r.ad == s.ad) = b3
    generalize (r.tx.toList == s.tx.toList) = b4
    generalize (r.da.toList == s.da.toList) = b5
    cases b0 <;> cases b1 <;> cases b2 <;> cases b3 <;> cases b4 <;> cases b5 <;> rfl
end Go.Proofs.YtakfokdjdljjjaaDoor
