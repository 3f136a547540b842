/-
  Package rank's ground: rules for whole values that are loaded, stored and held against one another; addresses as sixteen bytes; the walks of addr.V4, Is4 and Shared. Conditions: each states its own.
-/
import Derived.Test.YtoaedlllnkcfnaaDoorShelf
import Derived.WalkKit
import Derived.Below
import Derived.Lib.Hide
import Derived.Lib.SmallJoins
import Derived.Laws.MakeOwn
import Derived.Laws.OwnMore
import Derived.Laws.Rows
import Derived.Laws.Tables
import Derived.Laws.Cells
import Derived.Laws.CopyRow
import Derived.Deep.WholeRow
import Derived.Stop.BytesEq
import Derived.Deep.RegionHeld3
import Derived.Deep.RegionLaw
import Derived.Deep.QuietTactic
import Derived.BigQuiet
namespace Go.Proofs.YtoaedlllnkcfnaaDoor
open Go.RowKit

/-- bytes as they lie in memory -/
def bvs (xs : List UInt8) : List Value := xs.map fun c => .int .u8 c.toNat
theorem cell_lt {w : World} {a : Addr} {v : Value} (h : w.cell? a = some v) : a.block < w.heap.size := by
  rcases Nat.lt_or_ge a.block w.heap.size with h' | h'
  · exact h'
  · unfold World.cell? at h
    rw [Array.getElem?_eq_none h'] at h
    simp at h
/-- block g, new since w, whose first n cells are f's, and may be written -/
structure Blk (w wr : World) (g n : Nat) (f : Nat → Value) : Prop where
  below : Below w.heap.size w wr
  base : w.heap.size ≤ g
  lt : g < wr.heap.size
  cells : ∀ j, j < n → wr.cell? ⟨g, j, none⟩ = some (f j)
  free : ∀ j, j < n → wr.frozen? ⟨g, j, none⟩ = false
theorem Blk.new {w wr : World} (hb : Below w.heap.size w wr) {n : Nat} {f : Nat → Value} {z : Array Value} {t : TypeId} (hz : ∀ j, j < n → z[j]? = some (f j)) : Blk w (wr.alloc (.cells z t)) wr.heap.size n f :=
  ⟨hb.alloc hb.size _, hb.size, by rw [World.size_alloc]; omega, fun j hj => by
    have := World.cell?_alloc_mark wr z t (0, 0) j
    exact this.trans (hz j hj), fun j hj => by
    show (wr.alloc _).frozen? _ = _
    rw [World.frozen?_alloc_mark]; simp⟩
theorem Blk.step {w wr w2 : World} {g n : Nat} {f : Nat → Value} (h : Blk w wr g n f) (hb : Below wr.heap.size wr w2) : Blk w w2 g n f :=
  ⟨h.below.trans (hb.mono h.below.size), h.base, Nat.lt_of_lt_of_le h.lt hb.size, fun j hj => (hb.cell (p := ⟨g, j, none⟩) h.lt).trans (h.cells j hj), fun j hj => (hb.frozen (p := ⟨g, j, none⟩) h.lt).trans (h.free j hj)⟩
theorem Blk.set {w wr : World} {g n : Nat} {f : Nat → Value} (h : Blk w wr g n f) (k : Nat) (hk : k < n) (v : Value) : Blk w (wr.setCell ⟨g, k, none⟩ v) g n (fun j => if j = k then v else f j) :=
  ⟨h.below.setCell h.base _, h.base, by rw [World.size_setCell]; exact h.lt, fun j hj => by
    by_cases e : j = k
    · subst e; rw [World.cell?_setCell_same (h := h.cells j hj), if_pos rfl]
    · rw [World.cell?_setCell_other (h := by intro e'; injection e' with _ e' _; omega), h.cells j hj, if_neg e], fun j hj => by rw [World.frozen?_setCell]; exact h.free j hj⟩
theorem Blk.congr {w wr : World} {g n : Nat} {f f' : Nat → Value} (h : Blk w wr g n f) (he : ∀ j, j < n → f j = f' j) : Blk w wr g n f' :=
  ⟨h.below, h.base, h.lt, fun j hj => (h.cells j hj).trans (by rw [he j hj]), h.free⟩
theorem Blk.drew {w wr : World} {g n : Nat} {f : Nat → Value} (h : Blk w wr g n f) : Blk w wr.drew g n f :=
  ⟨h.below.drew, h.base, h.lt, h.cells, h.free⟩


theorem bvs_length (xs : List UInt8) : (bvs xs).length = xs.length := by unfold bvs; simp
theorem bvs_at {xs : List UInt8} {j : Nat} (h : j < xs.length) : (bvs xs)[j]? = some (.int .u8 (xs.getD j 0).toNat) := by
  unfold bvs; simp [List.getElem?_map, List.getElem?_eq_getElem h, List.getD]
theorem bvs_one (xs : List UInt8) : ∀ v ∈ bvs xs, v.oneCell' = true := fun v hv => by
  obtain ⟨c, _, rfl⟩ := List.mem_map.1 hv; rfl
theorem bvs_append (a b : List UInt8) : bvs (a ++ b) = bvs a ++ bvs b := by unfold bvs; simp
theorem bvs_inj {a b : List UInt8} (h : bvs a = bvs b) : a = b := by
  induction a generalizing b with
  | nil =>
    cases b with
    | nil => rfl
    | cons y b => cases h
  | cons x a ih =>
    cases b with
    | nil => cases h
    | cons y b =>
      unfold bvs at h
      simp only [List.map_cons, List.cons.injEq, Value.int.injEq, true_and] at h
      rw [UInt8.toNat_inj.1 (by omega : x.toNat = y.toNat), ih h.2]
theorem sizeAddr : (Tryd.prog.info? 27).map (·.size) = some 16 := by kernel_rfl
section
variable {P : Program} {ops : Array Oper} {rest : List Oper} {o : Oper} {a : Act} {Q : Exit → Act → World → Prop}
/-- a whole value of several cells, from wherever -/
theorem wpList_load_agg {w : World} (hgd : o.guard = none) (ty : TypeId) (x : Operand) (ho : o.op = .load ty x) (p : Addr) (hx : a.eval x = .pointer (some p)) (cs : Array Value) (d : TypeDesc)
    (hc : ∀ j v, cs.toList[j]? = some v → w.cell? (p.add j) = some v)
    (hu : P.underlying ty = some d) (hd : (match d with | .struct _ | .array _ _ => true | _ => false) = true) (hi : (P.info? ty).map (·.size) = some cs.size)
    (h : wpList P ops Q rest (a.put o.dst (.agg cs)) w) : wpList P ops Q (o :: rest) a w :=
  wpList_plain hgd fun _ hK => by
    have hl := run_loadCells_list (P := P) w p cs.toList hc
    cases hq : P.info? ty with
    | none => simp [hq] at hi
    | some i =>
      have hs : i.size = cs.size := by simpa [hq] using hi
      have hagg : (isAgg ty).run P w = .ok true w := by
        unfold isAgg
        rw [Sem.run_bind, run_underlying hu w]
        cases d <;> simp_all
      have hlv : (loadVar ty p).run P w = .ok (.agg cs) w := by
        simp only [Array.length_toList, Array.toArray_toList] at hl
        simp [loadVar, Sem.run_bind, hagg, sizeOf, typeInfo, hq, hs, hl]
      unfold Oper.wp execOp
      simp only [ho, hx, Instr.loadAt, Instr.sureAddr, Sem.run_bind, Sem.run_pure, Result.andThen_ok, hlv]
      exact hK _ _ h
/-- a whole value into the block that was made last -/
theorem wpList_store_new {W : World} (hgd : o.guard = none) (ty : TypeId) (x y : Operand) (ho : o.op = .store ty x y) (g : Nat) (hg : W.heap.size = g) (z cells : Array Value) (t : TypeId)
    (hx : a.eval x = .pointer (some ⟨g, 0, none⟩)) (hy : a.eval y = .agg cells) (hi : (P.info? ty).map (·.size) = some cells.size) (hz : z.size = cells.size) (h1 : cells.all (·.oneCell') = true)
    (h : wpList P ops Q rest (a.put o.dst undef) (W.alloc (.cells cells t))) : wpList P ops Q (o :: rest) a (W.alloc (.cells z t)) := by
  subst hg
  exact wpList_store_row hgd ty x y ho W.heap.size cells hx hy t z (heap_alloc_last W _) hi hz h1 (by rw [World.setRow_alloc_new]; exact h)
theorem run_load_agg {w : World} (ty : TypeId) (p : Addr) (cs : Array Value) (d : TypeDesc) (hc : ∀ j v, cs.toList[j]? = some v → w.cell? (p.add j) = some v)
    (hu : P.underlying ty = some d) (hd : (match d with | .struct _ | .array _ _ => true | _ => false) = true) (hi : (P.info? ty).map (·.size) = some cs.size) : (loadVar ty p).run P w = .ok (.agg cs) w := by
  have hl := run_loadCells_list (P := P) w p cs.toList hc
  cases hq : P.info? ty with
  | none => simp [hq] at hi
  | some i =>
    have hs : i.size = cs.size := by simpa [hq] using hi
    have hagg : (isAgg ty).run P w = .ok true w := by
      unfold isAgg
      rw [Sem.run_bind, run_underlying hu w]
      cases d <;> simp_all
    simp only [Array.length_toList, Array.toArray_toList] at hl
    simp [loadVar, Sem.run_bind, hagg, sizeOf, typeInfo, hq, hs, hl]
/-- the same two as steps of a region that draws its order -/
theorem step_load_agg {w : World} {K : Act → World → Prop} {E : Prop} (hgd : o.guard = none) (ty : TypeId) (x : Operand) (ho : o.op = .load ty x) (p : Addr) (hx : a.eval x = .pointer (some p)) (cs : Array Value) (d : TypeDesc)
    (hc : ∀ j v, cs.toList[j]? = some v → w.cell? (p.add j) = some v)
    (hu : P.underlying ty = some d) (hd : (match d with | .struct _ | .array _ _ => true | _ => false) = true) (hi : (P.info? ty).map (·.size) = some cs.size)
    (h : K (a.put o.dst (.agg cs)) w) : if Region.wanted o (yielded ops a.tmps) = true then Oper.wp P o a w K Q else E := by
  have hw : Region.wanted o (yielded ops a.tmps) = true := by simp [Region.wanted, hgd]
  rw [if_pos hw]
  unfold Oper.wp execOp
  simp only [ho, hx, Instr.loadAt, Instr.sureAddr, Sem.run_bind, Sem.run_pure, Result.andThen_ok, run_load_agg ty p cs d hc hu hd hi]
  exact h
theorem step_eql_agg {w : World} {K : Act → World → Prop} {E : Prop} (hgd : o.guard = none) (t : TypeId) (x y : Operand) (s : TypeId) (ho : o.op = .binOp .eql t x y s) (xs ys : Array Value) (b : Bool) (hx : a.eval x = .agg xs) (hy : a.eval y = .agg ys)
    (hm : P.eqGuardType P.depth t = false) (hr : (Op.equalIn 10000 t (.agg xs) (.agg ys)).run P w = .ok b w)
    (h : K (a.put o.dst (.bool b)) w) : if Region.wanted o (yielded ops a.tmps) = true then Oper.wp P o a w K Q else E := by
  have hw : Region.wanted o (yielded ops a.tmps) = true := by simp [Region.wanted, hgd]
  rw [if_pos hw]
  have h1 := run_eqGuard_agg (P := P) w .eql t x y xs ys hm
  have h2 := run_eql_struct (P := P) w t xs ys
  rw [hr] at h2
  unfold Oper.wp execOp
  simp only [ho, hx, hy, Sem.run_bind, h1, h2, Result.andThen_ok]
  exact h
/-- a whole value into a block of which all is known -/
theorem wpList_store_blk {w : World} (hgd : o.guard = none) (ty : TypeId) (x y : Operand) (ho : o.op = .store ty x y) (g : Nat) (z cells : Array Value) (t : TypeId) (hg : w.heap[g]? = some (.cells z t (0, 0)))
    (hx : a.eval x = .pointer (some ⟨g, 0, none⟩)) (hy : a.eval y = .agg cells) (hi : (P.info? ty).map (·.size) = some cells.size) (hz : z.size = cells.size) (h1 : cells.all (·.oneCell') = true)
    (h : ∀ w', Hid (w'.heap[g]? = some (.cells cells t (0, 0))) → Hid (w.grownBy w' (some g)) → w'.heap.size = w.heap.size → wpList P ops Q rest (a.put o.dst undef) w') : wpList P ops Q (o :: rest) a w :=
  wpList_store_row hgd ty x y ho g cells hx hy t z hg hi hz h1
    (h _ (setRow_heap w g z cells t _ hg) ⟨rfl, rfl, rfl, by simp, fun k _ hk => setRow_other w g k cells (fun e => hk (by rw [e]))⟩ (by simp))
/-- a value of several cells into a part of a block of which all is known -/
theorem wpList_store_sub {w : World} (hgd : o.guard = none) (ty : TypeId) (x y : Operand) (ho : o.op = .store ty x y) (g off : Nat) (z cells z' : Array Value) (t : TypeId) (hg : w.heap[g]? = some (.cells z t (0, 0)))
    (hx : a.eval x = .pointer (some ⟨g, off, none⟩)) (hy : a.eval y = .agg cells) (hi : (P.info? ty).map (·.size) = some cells.size) (hz : off + cells.size ≤ z.size) (h1 : cells.all (·.oneCell') = true)
    (he : (z.toList.take off ++ cells.toList ++ z.toList.drop (off + cells.size)).toArray = z')
    (h : ∀ w', Hid (w'.heap[g]? = some (.cells z' t (0, 0))) → Hid (w.grownBy w' (some g)) → w'.heap.size = w.heap.size → wpList P ops Q rest (a.put o.dst undef) w') : wpList P ops Q (o :: rest) a w :=
  wpList_plain hgd fun _ hK => by
    have hst := run_storeCells_at P g off t cells.toList 0 z w hg (by simpa using hz) (fun v hv => (Array.all_eq_true_iff_forall_mem.1 h1) v (by simpa using hv))
    simp only [Nat.add_zero, Array.length_toList, he] at hst
    have hsv : (storeVar ty ⟨g, off, none⟩ (.agg cells)).run P w = .ok () (w.setRow g z') := by
      cases hq : P.info? ty with
      | none => simp [hq] at hi
      | some i =>
        have hs : cells.size = i.size := by simp [hq] at hi; omega
        simp [storeVar, sizeOf, typeInfo, hq, Value.cells, hs, hst]
    unfold Oper.wp execOp
    simp only [ho, hx, hy, Instr.storeAt, Instr.sureAddr, Sem.run_bind, Sem.run_pure, Result.andThen_ok, hsv]
    exact hK _ _ (h _ (setRow_heap w g z z' t _ hg) ⟨rfl, rfl, rfl, by simp, fun k _ hk => setRow_other w g k z' (fun e => hk (by rw [e]))⟩ (by simp))
/-- two values of several cells held against one another -/
theorem wpList_eql_agg {w : World} (hgd : o.guard = none) (t : TypeId) (x y : Operand) (s : TypeId) (ho : o.op = .binOp .eql t x y s) (xs ys : Array Value) (b : Bool) (hx : a.eval x = .agg xs) (hy : a.eval y = .agg ys)
    (hm : P.eqGuardType P.depth t = false) (hr : (Op.equalIn 10000 t (.agg xs) (.agg ys)).run P w = .ok b w)
    (h : wpList P ops Q rest (a.put o.dst (.bool b)) w) : wpList P ops Q (o :: rest) a w :=
  wpList_plain hgd fun _ hK => by
    have h1 := run_eqGuard_agg (P := P) w .eql t x y xs ys hm
    have h2 := run_eql_struct (P := P) w t xs ys
    rw [hr] at h2
    unfold Oper.wp execOp
    simp only [ho, hx, hy, Sem.run_bind, h1, h2, Result.andThen_ok]
    exact hK _ _ h
/-- a new variable, what it holds under a name -/
theorem wpList_alloc_z {w : World} (hgd : o.guard = none) (ty : TypeId) (ho : o.op = .alloc ty) (z : Array Value) (hz : (P.info? ty).map (·.zero) = some (some (.agg z)))
    (h : wpList P ops Q rest (a.put o.dst (.pointer (some ⟨w.heap.size, 0, none⟩))) (w.alloc (.cells z ty))) : wpList P ops Q (o :: rest) a w :=
  wpList_plain hgd fun _ hK => by
    have hzr : (zeroValue ty).run P w = .ok (.agg z) w := by
      cases hq : P.info? ty with
      | none => simp [hq] at hz
      | some i =>
        have : i.zero = some (.agg z) := by simpa [hq] using hz
        simp [zeroValue, typeInfo, hq, this]
    unfold Oper.wp execOp
    simp only [ho, Instr.alloc, newVar, newRow, Sem.run_bind, hzr, Result.andThen_ok, run_newObj_alloc, Sem.run_pure, Value.cells]
    exact hK _ _ h
/-- a value built of parts, under a name -/
theorem wpList_build_z {w : World} (hgd : o.guard = none) (t : TypeId) (parts : Array (Nat × Operand)) (ho : o.op = .build t parts) (cs : Array Value) (hf : P.built t (parts.toList.map fun (i, x) => (i, a.eval x)) = some cs)
    (h : wpList P ops Q rest (a.put o.dst (.agg cs)) w) : wpList P ops Q (o :: rest) a w := by
  have hf' : P.built t (parts.map fun (i, x) => (i, a.eval x)).toList = some cs := by rw [Array.toList_map]; exact hf
  exact wpList_build hgd t parts ho (by rw [hf']; rfl) (by rw [hf']; exact h)
end

theorem sizeOfU8 (w : World) : (sizeOf 5).run Tryd.prog w = .ok 1 w := by kernel_rfl
theorem eq_addr (d : Nat) (w : World) {x y : List UInt8} (hx : x.length = 16) (hy : y.length = 16) : (Op.equalIn (d + 2) 27 (.agg (bvs x).toArray) (.agg (bvs y).toArray)).run Tryd.prog w = .ok (x == y) w :=
  run_equalIn_bytes w d 27 5 16 Tryd.underlying27 Tryd.underlying5 sizeOfU8 x y hx hy

def four12 : List UInt8 := [0, 0, 0, 0, 0, 0, 0, 0, 0, 0, 255, 255]
def isV4 (a : List UInt8) : Bool := a == four12 ++ a.drop 12
theorem wpList_build_g {P : Program} {ops : Array Oper} {rest : List Oper} {o : Oper} {a : Act} {Q : Exit → Act → World → Prop} {w : World} (t : TypeId) (parts : Array (Nat × Operand)) (hw : Region.wanted o (yielded ops a.tmps) = true) (ho : o.op = .build t parts) (cs : Array Value) (hf : P.built t (parts.toList.map fun (i, x) => (i, a.eval x)) = some cs)
    (h : wpList P ops Q rest (a.put o.dst (.agg cs)) w) : wpList P ops Q (o :: rest) a w := by
  have hf' : P.built t (parts.map fun (i, x) => (i, a.eval x)).toList = some cs := by rw [Array.toList_map]; exact hf
  unfold wpList
  rw [if_pos hw]
  exact .inl (wp_build t parts ho (by rw [hf']; rfl) (by rw [hf']; exact h))


theorem sizeBv {l : List UInt8} (h : l.length = 16) : (Tryd.prog.info? 27).map (·.size) = some (bvs l).toArray.size := by
  rw [sizeAddr, List.size_toArray, bvs_length, h]
theorem oneBv (l : List UInt8) : (bvs l).toArray.all (·.oneCell') = true := by
  rw [List.all_toArray]; exact List.all_eq_true.2 (bvs_one l)
def zero16 : List UInt8 := [0, 0, 0, 0, 0, 0, 0, 0, 0, 0, 0, 0, 0, 0, 0, 0]
theorem zeroAddr : (Tryd.prog.info? 27).map (·.zero) = some (some (.agg (bvs zero16).toArray)) := by kernel_rfl
theorem builtNone : Tryd.prog.built 27 [] = some (bvs zero16).toArray := by kernel_rfl
theorem builtAll (a b c d : Int) : Tryd.prog.built 27 [(10, .int .u8 255), (11, .int .u8 255), (12, .int .u8 a), (13, .int .u8 b), (14, .int .u8 c), (15, .int .u8 d)] = some #[.int .u8 0, .int .u8 0, .int .u8 0, .int .u8 0, .int .u8 0, .int .u8 0, .int .u8 0, .int .u8 0, .int .u8 0, .int .u8 0, .int .u8 255, .int .u8 255, .int .u8 a, .int .u8 b, .int .u8 c, .int .u8 d] := by
  kernel_rfl
theorem builtV4 (x y z u : UInt8) : Tryd.prog.built 27 [(10, .int .u8 255), (11, .int .u8 255), (12, .int .u8 x.toNat), (13, .int .u8 y.toNat), (14, .int .u8 z.toNat), (15, .int .u8 u.toNat)] = some (bvs (four12 ++ [x, y, z, u])).toArray := builtAll _ _ _ _
theorem heap_lt {w : World} {g : Nat} {o : Obj} (h : w.heap[g]? = some o) : g < w.heap.size := (Array.getElem?_eq_some_iff.1 h).1
set_option maxRecDepth 100000 in
set_option maxHeartbeats 1000000 in
theorem v4_e (x y z u : UInt8) (w : World) :
    Calls Tryd.prog 19 #[.int .u8 x.toNat, .int .u8 y.toNat, .int .u8 z.toNat, .int .u8 u.toNat] w fun e w' => e = .returned (.agg (bvs (four12 ++ [x, y, z, u])).toArray) ∧ Below w.heap.size w w' := by
  have hl : (four12 ++ [x, y, z, u]).length = 16 := rfl
  have hs := sizeBv hl
  have h1 := oneBv (four12 ++ [x, y, z, u])
  have hz : (bvs zero16).toArray.size = (bvs (four12 ++ [x, y, z, u])).toArray.size := rfl
  have zA := zeroAddr
  have hb := builtV4 x y z u
  revert hs h1 hz zA hb
  generalize (bvs (four12 ++ [x, y, z, u])).toArray = r
  generalize (bvs zero16).toArray = zz
  intro hs h1 hz zA hb
  have HS := Lib.hid hs
  have H1 := Lib.hid h1
  have HZ := Lib.hid hz
  have ZA := Lib.hid zA
  have HB := Lib.hid hb
  clear hs h1 hz zA hb hl
  go_enter Tryd.func19, Tryd.ntmps19
  go_wp2_with (first
    | (refine wpList_alloc_z rfl 27 rfl zz ZA.out ?_; go_simp)
    | (refine wpList_build_z rfl 27 #[(10, .const (.int .u8 255)), (11, .const (.int .u8 255)), (12, .tmp 9), (13, .tmp 10), (14, .tmp 11), (15, .tmp 12)] rfl r HB.out ?_; go_simp)
    | (refine wpList_store_new rfl 27 (.tmp 8) (.tmp 13) rfl w.heap.size rfl zz r 27 rfl rfl HS.out HZ.out H1.out ?_; go_simp))
  exact bodyPost_ret (results_cell_row rfl _ _ w.heap.size 27 r (0, 0) _ rfl (heap_alloc_last w _) Tryd.underlying27 rfl HS.out) rfl ⟨rfl, (Below.refl _ w).alloc (Nat.le_refl _) _⟩

theorem eqGuardAddr : Tryd.prog.eqGuardType Tryd.prog.depth 27 = false := by kernel_rfl
theorem bcell {W w1 : World} (hb : Below W.heap.size W w1) : ∀ b o, b < W.heap.size → w1.cell? ⟨b, o, none⟩ = W.cell? ⟨b, o, none⟩ := fun b o h => hb.cell (p := ⟨b, o, none⟩) h
theorem list16 {x : List UInt8} (h : x.length = 16) : ∃ a b c d e f g i j k l m n o p q, x = [a, b, c, d, e, f, g, i, j, k, l, m, n, o, p, q] := by
  match x, h with
  | [a, b, c, d, e, f, g, i, j, k, l, m, n, o, p, q], _ => exact ⟨a, b, c, d, e, f, g, i, j, k, l, m, n, o, p, q, rfl⟩
theorem drop12 {x : List UInt8} (h : x.length = 16) : four12 ++ x.drop 12 = four12 ++ [x.getD 12 0, x.getD 13 0, x.getD 14 0, x.getD 15 0] := by
  obtain ⟨a, b, c, d, e, f, g, i, j, k, l, m, n, o, p, q, rfl⟩ := list16 h
  rfl
set_option maxRecDepth 100000 in
set_option maxHeartbeats 1000000 in
theorem is4_e (x : List UInt8) (hx : x.length = 16) (w : World) :
    Calls Tryd.prog 18 #[.agg (bvs x).toArray] w fun e w' => e = .returned (.bool (isV4 x)) ∧ Below w.heap.size w w' := by
  have hq : ∀ W : World, (Op.equalIn 10000 27 (.agg (bvs x).toArray) (.agg (bvs (four12 ++ [x.getD 12 0, x.getD 13 0, x.getD 14 0, x.getD 15 0])).toArray)).run Tryd.prog W = .ok (isV4 x) W := fun W => by
    have := eq_addr 9998 W hx (y := four12 ++ [x.getD 12 0, x.getD 13 0, x.getD 14 0, x.getD 15 0]) rfl
    unfold isV4
    rw [drop12 hx]; exact this
  have C := fun W => v4_e (x.getD 12 0) (x.getD 13 0) (x.getD 14 0) (x.getD 15 0) W
  have hsz : (Tryd.prog.info? 27).map (·.size) = some (bvs x).length := by rw [sizeAddr, bvs_length, hx]
  have hu := Tryd.underlying27
  have hat : ∀ j, j < 16 → (bvs x)[j]? = some (.int .u8 (x.getD j 0).toNat) := fun j hj => bvs_at (by omega)
  have h12 := hat 12 (by decide)
  have h13 := hat 13 (by decide)
  have h14 := hat 14 (by decide)
  have h15 := hat 15 (by decide)
  have HC := Lib.hid C
  clear C hat
  revert HC hq h12 h13 h14 h15 hsz
  generalize (bvs (four12 ++ [x.getD 12 0, x.getD 13 0, x.getD 14 0, x.getD 15 0])).toArray = r
  generalize isV4 x = res
  generalize bvs x = cs
  generalize Value.int .u8 (x.getD 12 0).toNat = x12
  generalize Value.int .u8 (x.getD 13 0).toNat = x13
  generalize Value.int .u8 (x.getD 14 0).toNat = x14
  generalize Value.int .u8 (x.getD 15 0).toNat = x15
  intro hq hsz h12 h13 h14 h15 HC
  clear hx
  have hr : (w.alloc (.cells cs.toArray 27)).rangeAt w.heap.size 0 cs := fun j v hj => by
    rw [Nat.zero_add, World.cell?_alloc_mark]; simpa using hj
  have hlt : w.heap.size < (w.alloc (.cells cs.toArray 27)).heap.size := by rw [World.size_alloc]; omega
  have d12 := hr 12 _ h12
  have d13 := hr 13 _ h13
  have d14 := hr 14 _ h14
  have d15 := hr 15 _ h15
  rw [Nat.zero_add] at d12 d13 d14 d15
  go_enter Tryd.func18, Tryd.ntmps18
  go_wp2_with fail
  go_region_held3 (fun w' => w'.rangeAt w.heap.size 0 cs ∧ w'.cell? ⟨w.heap.size, 12, none⟩ = some x12 ∧ w'.cell? ⟨w.heap.size, 13, none⟩ = some x13 ∧ w'.cell? ⟨w.heap.size, 14, none⟩ = some x14 ∧ w'.cell? ⟨w.heap.size, 15, none⟩ = some x15)
    (first
      | go_keep
      | exact ⟨hr, d12, d13, d14, d15⟩
      | exact ⟨er, e12, e13, e14, e15⟩)
    (first
      | (go_at_call 19; refine (HC.out _).mono ?_; rintro e' w1 ⟨rfl, hb1⟩; have er : w1.rangeAt w.heap.size 0 cs := (fun j v hj => (hb1.cell (p := ⟨w.heap.size, 0 + j, none⟩) hlt).trans (hr j v hj)); have e12 := (hb1.cell (p := ⟨w.heap.size, 12, none⟩) hlt).trans d12; have e13 := (hb1.cell (p := ⟨w.heap.size, 13, none⟩) hlt).trans d13; have e14 := (hb1.cell (p := ⟨w.heap.size, 14, none⟩) hlt).trans d14; have e15 := (hb1.cell (p := ⟨w.heap.size, 15, none⟩) hlt).trans d15; have HB := Lib.hid hb1; clear hb1))
  all_goals go_wp2_with fail
  all_goals go_ret
  all_goals exact ⟨rfl, ((Below.refl _ w).alloc (Nat.le_refl _) _).drew.trans (HB.out.mono (Nat.le_of_lt hlt))⟩


/-- how many first bits of two bytes are the same, if they part -/
def part8 (x y : UInt8) : Nat := 8 - Lib.bitLen (x.toNat ^^^ y.toNat)
/-- how many first bits are the same -/
def sh : List UInt8 → List UInt8 → Nat
  | x :: a, y :: b => if x = y then 8 + sh a b else part8 x y
  | _, _ => 0
theorem xor8 (x y : Nat) (hx : x < 256) (hy : y < 256) : bits .xor .u8 (x : Int) (y : Int) = ((x ^^^ y : Nat) : Int) ∧ x ^^^ y < 256 := by
  have h : x ^^^ y < 2 ^ 8 := Nat.xor_lt_two_pow (by omega) (by omega)
  have h1 : (BitVec.ofInt 8 (x : Int)).toNat = x := by
    rw [BitVec.ofInt_natCast, BitVec.toNat_ofNat]; exact Nat.mod_eq_of_lt (by omega)
  have h2 : (BitVec.ofInt 8 (y : Int)).toNat = y := by
    rw [BitVec.ofInt_natCast, BitVec.toNat_ofNat]; exact Nat.mod_eq_of_lt (by omega)
  refine ⟨?_, by omega⟩
  show IntKind.u8.wrap ((BitVec.ofInt 8 (x : Int) ^^^ BitVec.ofInt 8 (y : Int)).toNat : Int) = _
  rw [BitVec.toNat_xor, h1, h2, IntKind.wrap_u8]
  omega
theorem sh_drop {a b : List UInt8} {k : Nat} (ha : k < a.length) (hb : k < b.length) :
    sh (a.drop k) (b.drop k) = if a.getD k 0 = b.getD k 0 then 8 + sh (a.drop (k + 1)) (b.drop (k + 1)) else part8 (a.getD k 0) (b.getD k 0) := by
  rw [List.drop_eq_getElem_cons ha, List.drop_eq_getElem_cons hb, sh]
  simp [List.getD, List.getElem?_eq_getElem ha, List.getElem?_eq_getElem hb]
set_option maxRecDepth 100000 in
set_option maxHeartbeats 1000000 in
theorem shared_e (a b : List UInt8) (ha : a.length = 16) (hb : b.length = 16) (w : World) :
    Calls Tryd.prog 29 #[.agg (bvs a).toArray, .agg (bvs b).toArray] w fun e w' => e = .returned (.int .i64 (sh a b)) ∧ Below w.heap.size w w' := by
  have hc1 : ∀ j, j < 16 → (bvs a).toArray[j]? = some (.int .u8 (a.getD j 0).toNat) := fun j hj => by rw [List.getElem?_toArray]; exact bvs_at (by omega)
  have hc2 : ∀ j, j < 16 → (bvs b).toArray[j]? = some (.int .u8 (b.getD j 0).toNat) := fun j hj => by rw [List.getElem?_toArray]; exact bvs_at (by omega)
  have hstep : ∀ k, k < 16 → sh (a.drop k) (b.drop k) = if a.getD k 0 = b.getD k 0 then 8 + sh (a.drop (k + 1)) (b.drop (k + 1)) else part8 (a.getD k 0) (b.getD k 0) := fun k hk => sh_drop (by omega) (by omega)
  have hend : sh (a.drop 16) (b.drop 16) = 0 := by rw [List.drop_of_length_le (by omega), List.drop_of_length_le (by omega)]; rfl
  obtain ⟨S, hS⟩ : ∃ S : Nat → Nat, ∀ k, S k = sh (a.drop k) (b.drop k) := ⟨_, fun _ => rfl⟩
  have h0 : sh a b = S 0 := (hS 0).symm
  simp only [← hS] at hstep hend
  rw [h0]
  generalize (bvs a).toArray = c1 at hc1 ⊢
  generalize (bvs b).toArray = c2 at hc2 ⊢
  have hcell : ∀ wr, Below ((w.alloc (.cells c1 27)).alloc (.cells c2 27)).heap.size ((w.alloc (.cells c1 27)).alloc (.cells c2 27)) wr → ∀ j, j < 16 → wr.cell? ⟨w.heap.size, j, none⟩ = some (.int .u8 (a.getD j 0).toNat) ∧ wr.cell? ⟨w.heap.size + 1, j, none⟩ = some (.int .u8 (b.getD j 0).toNat) := fun wr hb j hj => by
    have g1 : wr.heap[w.heap.size]? = some (.cells c1 27 (0, 0)) := by
      rw [hb.block _ (by rw [World.size_alloc, World.size_alloc]; omega)]; exact heap_alloc2_old w _ _
    have g2 : wr.heap[w.heap.size + 1]? = some (.cells c2 27 (0, 0)) := by
      rw [hb.block _ (by rw [World.size_alloc, World.size_alloc]; omega)]; exact heap_alloc2_new w _ _
    exact ⟨by rw [cell_of_row wr _ _ _ _ _ g1]; exact hc1 j hj, by rw [cell_of_row wr _ _ _ _ _ g2]; exact hc2 j hj⟩
  have hb2 : Below w.heap.size w ((w.alloc (.cells c1 27)).alloc (.cells c2 27)) := ((Below.refl _ w).alloc (Nat.le_refl _) _).alloc (by rw [World.size_alloc]; omega) _
  have HC := Lib.hid hcell
  have HST := Lib.hid hstep
  have HEnd := Lib.hid hend
  have HB2 := Lib.hid hb2
  clear hc1 hc2 hstep hend hcell ha hb hS h0 hb2
  go_enter Tryd.func29, Tryd.ntmps29
  go_wp2
  go_loopw [6, 5] (fun i _ wr => ∃ k : Nat, k ≤ 16 ∧ i = .int .i64 k ∧ S 0 = 8 * k + S k ∧ Below ((w.alloc (.cells c1 27)).alloc (.cells c2 27)).heap.size ((w.alloc (.cells c1 27)).alloc (.cells c2 27)) wr) (fun i _ _ => 16 - (intOf i).toNat)
  case atStart => exact ⟨0, by decide, rfl, by omega, Below.refl _ _⟩
  case round =>
    obtain ⟨k, hk, rfl, heq, hbw⟩ := hrel
    by_cases hlt : k < 16
    · obtain ⟨c0, d0⟩ := HC.out wr hbw k hlt
      have hs := HST.out k hlt
      have HB := Lib.hid hbw
      clear hbw
      generalize a.getD k 0 = x at c0 hs
      generalize b.getD k 0 = y at d0 hs
      have hx := x.toNat_lt
      have hy := y.toNat_lt
      by_cases hxy : x = y
      · rw [if_pos hxy] at hs
        subst hxy
        have HS := Lib.hid (show S 0 = 8 * (k + 1) + S (k + 1) by omega)
        clear hs heq
        go_wp2_with fail
        go_quiet (fail)
        go_wp2
        go_roundw
        case rel => exact ⟨k + 1, by omega, by go_num, HS.out, Joins.below_draws _ _ _ |> HB.out.trans⟩
        case measure => simp [intOf]; omega
      · rw [if_neg hxy] at hs
        have hne : ¬ (x.toNat : Int) = (y.toNat : Int) := fun e => hxy (UInt8.toNat_inj.1 (by omega))
        obtain ⟨hX, hXl⟩ := xor8 x.toNat y.toNat hx hy
        have hbl := Lib.bitLen_le (x.toNat ^^^ y.toNat) 8 (by omega) (by omega)
        have hlz := fun W => Tryd.bits_LeadingZeros8 ((x.toNat ^^^ y.toNat : Nat) : Int) W (by omega) (by omega)
        rw [Int.toNat_natCast] at hlz
        have HS := Lib.hid (show ((S 0 : Nat) : Int) = 8 * (k : Int) + (8 - (Lib.bitLen (x.toNat ^^^ y.toNat) : Int)) by rw [heq, hs]; unfold part8; omega)
        clear hs heq hxy
        generalize Lib.bitLen (x.toNat ^^^ y.toNat) = bl at hbl hlz HS
        generalize x.toNat ^^^ y.toNat = z at hX hXl hlz
        generalize x.toNat = x at *
        generalize y.toNat = y at *
        have hw8 : IntKind.i64.wrap (8 * (k : Int)) = 8 * (k : Int) := by rw [IntKind.wrap_i64]; omega
        go_wp2_with fail
        go_quiet (fail)
        have c0' : (wr.drewN nq).cell? ⟨w.heap.size, k, none⟩ = some (.int .u8 (x : Nat)) := c0
        have d0' : (wr.drewN nq).cell? ⟨w.heap.size + 1, k, none⟩ = some (.int .u8 (y : Nat)) := d0
        have HBq := Lib.hid (HB.out.trans (Joins.below_draws _ wr nq))
        generalize wr.drewN nq = w2 at c0' d0' HBq ⊢
        clear c0 d0
        go_wp2_with fail
        go_quiet ((go_at_call 35; refine Calls.quiet_of_same (hlz _)))
        go_wp2
        go_ret
        refine ⟨?_, HB2.out.trans ((HBq.out.trans (Joins.below_draws _ _ _)).mono HB2.out.size)⟩
        rw [HS.out]; rfl
    · obtain rfl : k = 16 := by omega
      have HS := Lib.hid (show ((S 0 : Nat) : Int) = 128 by rw [heq, HEnd.out]; rfl)
      have HB := Lib.hid hbw
      clear hbw heq
      go_wp2
      go_ret
      refine ⟨?_, HB2.out.trans (HB.out.mono HB2.out.size)⟩
      rw [HS.out]; rfl
end Go.Proofs.YtoaedlllnkcfnaaDoor
