/-
  Rules for whole values that are loaded, stored and appended; sources as they lie in memory. Conditions: each states its own.
-/
import Derived.Test.YtpgkopnnfhlhbaaDoorOrdWd
import Derived.Stop.BytesEq
import Derived.Great.BuildSlice
import Derived.Lib.SmallJoins
import Derived.Deep.WholeRow
import Derived.Deep.AppendLies
import Derived.Deep.Heap
import Derived.ArgAppend
namespace Go.Proofs.YtpgkopnnfhlhbaaDoor
open Go.RowKit

section
variable {P : Program} {ops : Array Oper} {rest : List Oper} {o : Oper} {a : Act} {Q : Exit → Act → World → Prop}
/-- a whole value of several cells, from wherever -/
theorem wpList_load_agg {w : World} (hgd : o.guard = none) (ty : TypeId) (x : Operand) (ho : o.op = .load ty x) (p : Addr) (hx : a.eval x = .pointer (some p)) (cs : Array Value) (d : TypeDesc)
    (hc : ∀ j v, cs.toList[j]? = some v → w.cell? (p.add j) = some v)
    (hu : P.underlying ty = some d) (hd : (match d with | .struct _ | .array _ _ => true | _ => false) = true) (hi : (P.info? ty).map (·.size) = some cs.size)
    (h : wpList P ops Q rest (a.put o.dst (.agg cs)) w) : wpList P ops Q (o :: rest) a w :=
  wpList_plain hgd fun _ hK => by
    have hl := run_loadCells_list (P := P) w p cs.toList hc
    cases hq : P.info? ty with
    | none => simp [hq] at hi
    | some i =>
      have hs : i.size = cs.size := by simpa [hq] using hi
      have hagg : (isAgg ty).run P w = .ok true w := by
        unfold isAgg
        rw [Sem.run_bind, run_underlying hu w]
        cases d <;> simp_all
      have hlv : (loadVar ty p).run P w = .ok (.agg cs) w := by
        simp only [Array.length_toList, Array.toArray_toList] at hl
        simp [loadVar, Sem.run_bind, hagg, sizeOf, typeInfo, hq, hs, hl]
      unfold Oper.wp execOp
      simp only [ho, hx, Instr.loadAt, Instr.sureAddr, Sem.run_bind, Sem.run_pure, Result.andThen_ok, hlv]
      exact hK _ _ h
/-- a whole value into the block that was made last -/
theorem wpList_store_new {W : World} (hgd : o.guard = none) (ty : TypeId) (x y : Operand) (ho : o.op = .store ty x y) (g : Nat) (hg : W.heap.size = g) (z cells : Array Value) (t : TypeId)
    (hx : a.eval x = .pointer (some ⟨g, 0, none⟩)) (hy : a.eval y = .agg cells) (hi : (P.info? ty).map (·.size) = some cells.size) (hz : z.size = cells.size) (h1 : cells.all (·.oneCell') = true)
    (h : wpList P ops Q rest (a.put o.dst undef) (W.alloc (.cells cells t))) : wpList P ops Q (o :: rest) a (W.alloc (.cells z t)) := by
  subst hg
  exact wpList_store_row hgd ty x y ho W.heap.size cells hx hy t z (heap_alloc_last W _) hi hz h1 (by rw [World.setRow_alloc_new]; exact h)
theorem run_load_agg {w : World} (ty : TypeId) (p : Addr) (cs : Array Value) (d : TypeDesc) (hc : ∀ j v, cs.toList[j]? = some v → w.cell? (p.add j) = some v)
    (hu : P.underlying ty = some d) (hd : (match d with | .struct _ | .array _ _ => true | _ => false) = true) (hi : (P.info? ty).map (·.size) = some cs.size) : (loadVar ty p).run P w = .ok (.agg cs) w := by
  have hl := run_loadCells_list (P := P) w p cs.toList hc
  cases hq : P.info? ty with
  | none => simp [hq] at hi
  | some i =>
    have hs : i.size = cs.size := by simpa [hq] using hi
    have hagg : (isAgg ty).run P w = .ok true w := by
      unfold isAgg
      rw [Sem.run_bind, run_underlying hu w]
      cases d <;> simp_all
    simp only [Array.length_toList, Array.toArray_toList] at hl
    simp [loadVar, Sem.run_bind, hagg, sizeOf, typeInfo, hq, hs, hl]
/-- the same two as steps of a region that draws its order -/
theorem step_load_agg {w : World} {K : Act → World → Prop} {E : Prop} (hgd : o.guard = none) (ty : TypeId) (x : Operand) (ho : o.op = .load ty x) (p : Addr) (hx : a.eval x = .pointer (some p)) (cs : Array Value) (d : TypeDesc)
    (hc : ∀ j v, cs.toList[j]? = some v → w.cell? (p.add j) = some v)
    (hu : P.underlying ty = some d) (hd : (match d with | .struct _ | .array _ _ => true | _ => false) = true) (hi : (P.info? ty).map (·.size) = some cs.size)
    (h : K (a.put o.dst (.agg cs)) w) : if Region.wanted o (yielded ops a.tmps) = true then Oper.wp P o a w K Q else E := by
  have hw : Region.wanted o (yielded ops a.tmps) = true := by simp [Region.wanted, hgd]
  rw [if_pos hw]
  unfold Oper.wp execOp
  simp only [ho, hx, Instr.loadAt, Instr.sureAddr, Sem.run_bind, Sem.run_pure, Result.andThen_ok, run_load_agg ty p cs d hc hu hd hi]
  exact h
theorem step_eql_agg {w : World} {K : Act → World → Prop} {E : Prop} (hgd : o.guard = none) (t : TypeId) (x y : Operand) (s : TypeId) (ho : o.op = .binOp .eql t x y s) (xs ys : Array Value) (b : Bool) (hx : a.eval x = .agg xs) (hy : a.eval y = .agg ys)
    (hm : P.eqGuardType P.depth t = false) (hr : (Op.equalIn 10000 t (.agg xs) (.agg ys)).run P w = .ok b w)
    (h : K (a.put o.dst (.bool b)) w) : if Region.wanted o (yielded ops a.tmps) = true then Oper.wp P o a w K Q else E := by
  have hw : Region.wanted o (yielded ops a.tmps) = true := by simp [Region.wanted, hgd]
  rw [if_pos hw]
  have h1 := run_eqGuard_agg (P := P) w .eql t x y xs ys hm
  have h2 := run_eql_struct (P := P) w t xs ys
  rw [hr] at h2
  unfold Oper.wp execOp
  simp only [ho, hx, hy, Sem.run_bind, h1, h2, Result.andThen_ok]
  exact h
/-- a whole value into a block of which all is known -/
theorem wpList_store_blk {w : World} (hgd : o.guard = none) (ty : TypeId) (x y : Operand) (ho : o.op = .store ty x y) (g : Nat) (z cells : Array Value) (t : TypeId) (hg : w.heap[g]? = some (.cells z t (0, 0)))
    (hx : a.eval x = .pointer (some ⟨g, 0, none⟩)) (hy : a.eval y = .agg cells) (hi : (P.info? ty).map (·.size) = some cells.size) (hz : z.size = cells.size) (h1 : cells.all (·.oneCell') = true)
    (h : ∀ w', Hid (w'.heap[g]? = some (.cells cells t (0, 0))) → Hid (w.grownBy w' (some g)) → w'.heap.size = w.heap.size → wpList P ops Q rest (a.put o.dst undef) w') : wpList P ops Q (o :: rest) a w :=
  wpList_store_row hgd ty x y ho g cells hx hy t z hg hi hz h1
    (h _ (setRow_heap w g z cells t _ hg) ⟨rfl, rfl, rfl, by simp, fun k _ hk => setRow_other w g k cells (fun e => hk (by rw [e]))⟩ (by simp))
/-- a value of several cells into a part of a block of which all is known -/
theorem wpList_store_sub {w : World} (hgd : o.guard = none) (ty : TypeId) (x y : Operand) (ho : o.op = .store ty x y) (g off : Nat) (z cells z' : Array Value) (t : TypeId) (hg : w.heap[g]? = some (.cells z t (0, 0)))
    (hx : a.eval x = .pointer (some ⟨g, off, none⟩)) (hy : a.eval y = .agg cells) (hi : (P.info? ty).map (·.size) = some cells.size) (hz : off + cells.size ≤ z.size) (h1 : cells.all (·.oneCell') = true)
    (he : (z.toList.take off ++ cells.toList ++ z.toList.drop (off + cells.size)).toArray = z')
    (h : ∀ w', Hid (w'.heap[g]? = some (.cells z' t (0, 0))) → Hid (w.grownBy w' (some g)) → w'.heap.size = w.heap.size → wpList P ops Q rest (a.put o.dst undef) w') : wpList P ops Q (o :: rest) a w :=
  wpList_plain hgd fun _ hK => by
    have hst := run_storeCells_at P g off t cells.toList 0 z w hg (by simpa using hz) (fun v hv => (Array.all_eq_true_iff_forall_mem.1 h1) v (by simpa using hv))
    simp only [Nat.add_zero, Array.length_toList, he] at hst
    have hsv : (storeVar ty ⟨g, off, none⟩ (.agg cells)).run P w = .ok () (w.setRow g z') := by
      cases hq : P.info? ty with
      | none => simp [hq] at hi
      | some i =>
        have hs : cells.size = i.size := by simp [hq] at hi; omega
        simp [storeVar, sizeOf, typeInfo, hq, Value.cells, hs, hst]
    unfold Oper.wp execOp
    simp only [ho, hx, hy, Instr.storeAt, Instr.sureAddr, Sem.run_bind, Sem.run_pure, Result.andThen_ok, hsv]
    exact hK _ _ (h _ (setRow_heap w g z z' t _ hg) ⟨rfl, rfl, rfl, by simp, fun k _ hk => setRow_other w g k z' (fun e => hk (by rw [e]))⟩ (by simp))
/-- two values of several cells held against one another -/
theorem wpList_eql_agg {w : World} (hgd : o.guard = none) (t : TypeId) (x y : Operand) (s : TypeId) (ho : o.op = .binOp .eql t x y s) (xs ys : Array Value) (b : Bool) (hx : a.eval x = .agg xs) (hy : a.eval y = .agg ys)
    (hm : P.eqGuardType P.depth t = false) (hr : (Op.equalIn 10000 t (.agg xs) (.agg ys)).run P w = .ok b w)
    (h : wpList P ops Q rest (a.put o.dst (.bool b)) w) : wpList P ops Q (o :: rest) a w :=
  wpList_plain hgd fun _ hK => by
    have h1 := run_eqGuard_agg (P := P) w .eql t x y xs ys hm
    have h2 := run_eql_struct (P := P) w t xs ys
    rw [hr] at h2
    unfold Oper.wp execOp
    simp only [ho, hx, hy, Sem.run_bind, h1, h2, Result.andThen_ok]
    exact hK _ _ h
/-- a new variable, what it holds under a name -/
theorem wpList_alloc_z {w : World} (hgd : o.guard = none) (ty : TypeId) (ho : o.op = .alloc ty) (z : Array Value) (hz : (P.info? ty).map (·.zero) = some (some (.agg z)))
    (h : wpList P ops Q rest (a.put o.dst (.pointer (some ⟨w.heap.size, 0, none⟩))) (w.alloc (.cells z ty))) : wpList P ops Q (o :: rest) a w :=
  wpList_plain hgd fun _ hK => by
    have hzr : (zeroValue ty).run P w = .ok (.agg z) w := by
      cases hq : P.info? ty with
      | none => simp [hq] at hz
      | some i =>
        have : i.zero = some (.agg z) := by simpa [hq] using hz
        simp [zeroValue, typeInfo, hq, this]
    unfold Oper.wp execOp
    simp only [ho, Instr.alloc, newVar, newRow, Sem.run_bind, hzr, Result.andThen_ok, run_newObj_alloc, Sem.run_pure, Value.cells]
    exact hK _ _ h
/-- a value built of parts, under a name -/
theorem wpList_build_z {w : World} (hgd : o.guard = none) (t : TypeId) (parts : Array (Nat × Operand)) (ho : o.op = .build t parts) (cs : Array Value) (hf : P.built t (parts.toList.map fun (i, x) => (i, a.eval x)) = some cs)
    (h : wpList P ops Q rest (a.put o.dst (.agg cs)) w) : wpList P ops Q (o :: rest) a w := by
  have hf' : P.built t (parts.map fun (i, x) => (i, a.eval x)).toList = some cs := by rw [Array.toList_map]; exact hf
  exact wpList_build hgd t parts ho (by rw [hf']; rfl) (by rw [hf']; exact h)
end

section
variable {ops : Array Oper} {rest : List Oper} {o : Oper} {a : Act} {Q : Exit → Act → World → Prop} {w : World}
set_option maxRecDepth 100000 in
/-- several texts more behind a row of the call's own -/
theorem wpList_append_strs (hgd : o.guard = none) (s x : Operand) (ho : o.op = .call { callee := .builtin .append, args := #[s, x], argTypes := #[33, 33] })
    (base n m : Nat) (v : Value) (xs ys : List ByteArray) (hs : a.eval s = v) (hown : w.ownsRow base 9 1 v n (xs.map Value.string)) (hn : n + m ≤ 1000000) (hbase : base ≤ w.heap.size)
    (ad : Addr) (c1 : Nat) (hx : a.eval x = .slice (some ad) m c1) (hl : ys.length = m) (hy : ∀ j, j < m → w.cell? (ad.add j) = some (.string (ys.getD j ByteArray.empty)))
    (h : ∀ v' w', w'.ownsRow base 9 1 v' (n + m) ((xs ++ ys).map Value.string) → Below base w w' → wpList Tryd.prog ops Q rest (a.put o.dst v') w') : wpList Tryd.prog ops Q (o :: rest) a w := by
  obtain ⟨i0, hi, hz0, hz1, hz2⟩ := info_parts (show (Tryd.prog.info? 9).map (fun i => (i.zero, i.size, i.bytes)) = some (some (.string ⟨#[]⟩), 1, 16) by kernel_rfl)
  refine wpList_append_own (w := w) hgd s x 33 ho base 9 i0 (.string ⟨#[]⟩) 1 16 Tryd.underlying33 hi hz0 hz1 hz2 rfl (by decide) v n (xs.map Value.string) hs hown ad m c1 (ys.map Value.string) hx (by rw [List.length_map, hl, Nat.mul_one]) (fun j u hj => ?_)
    (fun u hu => by obtain ⟨y, _, rfl⟩ := List.mem_map.1 hu; rfl) (by unfold maxLen; omega) (by omega) hbase (fun v' w' h2 h3 _ => h v' w' (by rw [List.map_append]; exact h2) ((Below.refl _ _).grown h3 hbase fun k hk => (hown.lt k hk).1))
  rw [List.getElem?_map] at hj
  rcases Nat.lt_or_ge j ys.length with hlt | hlt
  · rw [List.getElem?_eq_getElem hlt] at hj
    injection hj with hj
    rw [hy j (by omega), ← hj, List.getD_eq_getElem?_getD, List.getElem?_eq_getElem hlt]; rfl
  · rw [List.getElem?_eq_none hlt] at hj; cases hj
end
/-- the cells of outcomes, and of a source -/
def retV (r : Ret) : Array Value := #[.bool false, .bool r.1, .bool r.2.1, .bool r.2.2.1, .bool r.2.2.2]
def srcV (s : Src) : Array Value := #[.int .i64 s.1, .bool false, .bool s.2.1, .bool s.2.2.1, .bool s.2.2.2.1, .bool s.2.2.2.2]
def zS : Array Value := #[.int .i64 0, .bool false, .bool false, .bool false, .bool false, .bool false]
def zR : Array Value := #[.bool false, .bool false, .bool false, .bool false, .bool false]
theorem sizeSrc : (Tryd.prog.info? 30).map (·.size) = some 6 := by kernel_rfl
theorem zeroSrc : (Tryd.prog.info? 30).map (·.zero) = some (some (.agg zS)) := by kernel_rfl
theorem sizeRet : (Tryd.prog.info? 28).map (·.size) = some 5 := by kernel_rfl
theorem zeroRet : (Tryd.prog.info? 28).map (·.zero) = some (some (.agg zR)) := by kernel_rfl
theorem builtRet : Tryd.prog.built 28 [(1, .bool true)] = some (retV r0) := by kernel_rfl
theorem builtSrc (k : Int) : Tryd.prog.built 30 [(0, .int .i64 k), (1, .agg (retV r0))] = some #[.int .i64 k, .bool false, .bool true, .bool false, .bool false, .bool false] := by kernel_rfl
theorem builtZero : Tryd.prog.built 30 [] = some zS := by kernel_rfl
theorem builtZeroR : Tryd.prog.built 28 [] = some zR := by kernel_rfl
theorem srcV_one (s : Src) : (srcV s).all (·.oneCell') = true := by simp [srcV]; exact ⟨rfl, rfl, rfl, rfl, rfl, rfl⟩
theorem retV_one (r : Ret) : (retV r).all (·.oneCell') = true := by simp [retV]; exact ⟨rfl, rfl, rfl, rfl, rfl⟩
theorem zR_one : zR.all (·.oneCell') = true := by simp [zR]; exact rfl
theorem zS_one : zS.all (·.oneCell') = true := by simp [zS]; exact ⟨rfl, rfl⟩
theorem srcV_size (s : Src) : (srcV s).size = 6 := rfl
set_option maxRecDepth 100000 in
theorem plain_e (k : Nat) (w : World) : Calls Tryd.prog 21 #[.int .i64 k] w fun e w' => e = .returned (.agg (srcV (k, r0))) ∧ Below w.heap.size w w' := by
  have HZ := Lib.hid zeroSrc
  have HS : Hid ((Tryd.prog.info? 30).map (·.size) = some (srcV (k, r0)).size) := Lib.hid sizeSrc
  have HE : Hid (zS.size = (srcV (k, r0)).size) := Lib.hid rfl
  have H1 := Lib.hid (srcV_one (k, r0))
  have HBu : Hid (Tryd.prog.built 30 [(0, .int .i64 k), (1, .agg (retV r0))] = some (srcV (k, r0))) := Lib.hid (builtSrc k)
  have HBr := Lib.hid builtRet
  generalize zS = Z at HZ HE
  generalize srcV (k, r0) = D at HS HE H1 HBu
  generalize retV r0 = R at HBu HBr
  have HB : Hid (Below w.heap.size w (w.alloc (.cells D 30))) := Lib.hid ((Below.refl _ w).alloc (Nat.le_refl _) _)
  go_enter Tryd.func21, Tryd.ntmps21
  go_wp2_with (first
    | (refine wpList_alloc_z rfl 30 rfl Z HZ.out ?_; go_simp)
    | (refine wpList_build_z rfl 28 #[(1, .const (.bool true))] rfl R HBr.out ?_; go_simp)
    | (refine wpList_build_z rfl 30 #[(0, .tmp 3), (1, .tmp 4)] rfl D HBu.out ?_; go_simp)
    | (refine wpList_store_new rfl 30 (.tmp 2) (.tmp 5) rfl w.heap.size rfl Z D 30 rfl rfl HS.out HE.out H1.out ?_; go_simp))
  exact bodyPost_ret (results_cell_row rfl _ _ w.heap.size 30 D (0, 0) _ rfl (heap_alloc_last w _) Tryd.underlying30 rfl HS.out) rfl ⟨rfl, HB.out⟩
theorem results_cell_tmp {P : Program} {fn : Func} {p q : Tmp} {ty : TypeId} (h : fn.results = #[.cell p ty, .tmp q]) (tmps : Array Value) (w : World) (g : Nat) (t : TypeId) (cs : Array Value) (fr : Nat × Nat) (d : TypeDesc)
    (hp : tmps.getD p undef = .pointer (some ⟨g, 0, none⟩)) (hg : w.heap[g]? = some (.cells cs t fr))
    (hu : P.underlying ty = some d) (hd : (match d with | .struct _ | .array _ _ => true | _ => false) = true) (hi : (P.info? ty).map (·.size) = some cs.size) :
    (results fn tmps).run P w = .ok (.tuple #[.agg cs, tmps.getD q undef]) w := by
  have hp' : tmps[p]?.getD undef = .pointer (some ⟨g, 0, none⟩) := by simpa using hp
  simp [results, h, hp', asAddr, run_loadVar_row w g t ty cs fr d hg hu hd hi]
/-- the same of a cell and two that are none -/
theorem results_cell_tmp2 {P : Program} {fn : Func} {p q q' : Tmp} {ty : TypeId} (h : fn.results = #[.cell p ty, .tmp q, .tmp q']) (tmps : Array Value) (w : World) (g : Nat) (t : TypeId) (cs : Array Value) (fr : Nat × Nat) (d : TypeDesc)
    (hp : tmps.getD p undef = .pointer (some ⟨g, 0, none⟩)) (hg : w.heap[g]? = some (.cells cs t fr))
    (hu : P.underlying ty = some d) (hd : (match d with | .struct _ | .array _ _ => true | _ => false) = true) (hi : (P.info? ty).map (·.size) = some cs.size) :
    (results fn tmps).run P w = .ok (.tuple #[.agg cs, tmps.getD q undef, tmps.getD q' undef]) w := by
  have hp' : tmps[p]?.getD undef = .pointer (some ⟨g, 0, none⟩) := by simpa using hp
  simp [results, h, hp', asAddr, run_loadVar_row w g t ty cs fr d hg hu hd hi]
/-- the cells of sources one behind the other -/
def svs (l : List Src) : List Value := l.flatMap fun s => (srcV s).toList
theorem svs_snoc (l : List Src) (s : Src) : svs (l ++ [s]) = svs l ++ (srcV s).toList := by unfold svs; rw [List.flatMap_append]; simp
theorem svs_len : ∀ l : List Src, (svs l).length = l.length * 6
  | [] => rfl
  | s :: l => by
    have ih := svs_len l
    unfold svs at ih ⊢
    rw [List.flatMap_cons, List.length_append, ih, List.length_cons, show (srcV s).toList.length = 6 from rfl]; omega
theorem svs_at : ∀ {l : List Src} {i : Nat} {s : Src} {j : Nat}, l[i]? = some s → j < 6 → (svs l)[i * 6 + j]? = (srcV s).toList[j]?
  | [], i, s, j, h, _ => by simp at h
  | t :: l, 0, s, j, h, hj => by
    rw [List.getElem?_cons_zero, Option.some.injEq] at h
    subst h
    unfold svs
    rw [List.flatMap_cons, Nat.zero_mul, Nat.zero_add, List.getElem?_append_left (by show j < 6; exact hj)]
  | t :: l, i + 1, s, j, h, hj => by
    have ih := svs_at (l := l) (i := i) (s := s) (j := j) (by simpa using h) hj
    unfold svs at ih ⊢
    rw [List.flatMap_cons, List.getElem?_append_right (by show 6 ≤ _; omega), show (srcV t).toList.length = 6 from rfl, show (i + 1) * 6 + j - 6 = i * 6 + j by omega, ih]
/-- sources that are handed on -/
def SlS (w : World) (v : Value) (l : List Src) : Prop := ∃ A cap, v = .slice A l.length cap ∧ (l ≠ [] → ∃ b, A = some ⟨b, 0, none⟩ ∧ b < w.heap.size ∧ ∀ k u, (svs l)[k]? = some u → w.cell? ⟨b, k, none⟩ = some u)
theorem SlS.below {w w' : World} {x : Value} {l : List Src} (h : SlS w x l) (hb : Below w.heap.size w w') : SlS w' x l := by
  obtain ⟨A, cap, e, hA⟩ := h
  refine ⟨A, cap, e, fun h => ?_⟩
  obtain ⟨b, e2, hl, hs⟩ := hA h
  exact ⟨b, e2, Nat.lt_of_lt_of_le hl hb.size, fun k u hk => (hb.cell (p := ⟨b, k, none⟩) hl).trans (hs k u hk)⟩
theorem own_sl {w : World} {B e size n : Nat} {v : Value} {xs : List Value} (h : w.ownsRow B e size v n xs) : ∃ A cap, v = .slice A n cap := by
  rcases h.2 with ⟨rfl, h0⟩ | ⟨g, cap, cur, rfl, _⟩
  · exact ⟨none, 0, by rw [h0]⟩
  · exact ⟨_, cap, rfl⟩
theorem SlS.own {w : World} {B : Nat} {v : Value} {l : List Src} (h : w.ownsRow B 30 6 v l.length (svs l)) : SlS w v l := by
  by_cases h0 : l = []
  · obtain ⟨A, cap, e⟩ := own_sl h
    exact ⟨A, cap, e, fun h1 => absurd h0 h1⟩
  · obtain ⟨g, cap, hv, _⟩ := h.form (List.length_pos_iff.2 h0)
    subst hv
    refine ⟨_, cap, rfl, fun _ => ⟨g, rfl, (h.lt g rfl).2, fun k u hk => ?_⟩⟩
    have := h.cells (g := g) rfl k u hk
    rwa [Addr.add_lit, Nat.zero_add] at this
theorem SlS.nil (w : World) : SlS w (.slice none 0 0) [] := ⟨none, 0, rfl, fun h => absurd rfl h⟩
theorem fillS (l : List Src) (z : Array Value) (hz : l.length * 6 = z.size) : Instr.fill (fun i => some (i * 6, 6)) z (((l.map fun s => Value.agg (srcV s)).zipIdx 0).map fun x => (x.2, x.1)) = some (svs l).toArray := by
  have h := Great.fill_whole (s := 6) (by decide) (l.map fun s => Value.agg (srcV s)) z (fun v hv => by obtain ⟨s, _, rfl⟩ := List.mem_map.1 hv; rfl) (by rw [List.length_map]; exact hz)
  rw [h]
  congr 2
  rw [List.flatMap_map]
  rfl
end Go.Proofs.YtpgkopnnfhlhbaaDoor
