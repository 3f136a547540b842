/-
  Steps for the walk of RankSelf: a literal of a local address, a variable's allocation, a row of one. Each states its own conditions.
-/
import Derived.Test.YteahcgjabdjmkaaDoorRankKeysLaw
import Derived.Test.YteahcgjabdjmkaaDoorRankSelfMath
import Derived.Test.YteahcgjabdjmkaaDoorRankEq
import Derived.Great.BuildSlice
import Derived.Great.FillDense
import Derived.ChangeKeysEq
import Derived.Deep.RegionHeld
namespace Go.Proofs.YteahcgjabdjmkaaDoor
open Go.RowKit

section
variable {P : Program} {ops : Array Oper} {o : Oper} {a : Act} {Q : Exit → Act → World → Prop}
theorem wp_alloc_zz {w : World} {K : Act → World → Prop} (ty : TypeId) (ho : o.op = .alloc ty) (z : Array Value) (hz : (P.info? ty).map (·.zero) = some (some (.agg z)))
    (h : K (a.put o.dst (.pointer (some ⟨w.heap.size, 0, none⟩))) (w.alloc (.cells z ty))) : o.wp P a w K Q := by
  have hzr : (zeroValue ty).run P w = .ok (.agg z) w := by
    cases hq : P.info? ty with
    | none => simp [hq] at hz
    | some i =>
      have : i.zero = some (.agg z) := by simpa [hq] using hz
      simp [zeroValue, typeInfo, hq, this]
  unfold Oper.wp execOp
  simp only [ho, Instr.alloc, newVar, newRow, Sem.run_bind, hzr, Result.andThen_ok, run_newObj_alloc, Sem.run_pure, Value.cells]
  exact h
theorem yieldsIf_build {S : World → Prop} (hw : Region.wanted o (yielded ops a.tmps) = true) (t : TypeId) (parts : Array (Nat × Operand)) (ho : o.op = .build t parts) (vals : List (Nat × Value)) (cs : Array Value)
    (hv : (parts.toList.map fun (i, x) => (i, a.eval x)) = vals) (hf : P.built t vals = some cs) : YieldsIf P ops S o (.agg cs) a :=
  .inl ⟨hw, fun w _ => by
    rw [← hv, ← Array.toList_map] at hf
    unfold execOp
    simp only [ho, Sem.run_bind, run_build w t _ cs hf, Result.andThen_ok, Sem.run_pure]⟩
theorem yieldsIf_eql {S : World → Prop} (hw : Region.wanted o (yielded ops a.tmps) = true) (t : TypeId) (x y : Operand) (s : TypeId) (ho : o.op = .binOp .eql t x y s) (xs ys : Array Value) (b : Bool) (hx : a.eval x = .agg xs) (hy : a.eval y = .agg ys)
    (hm : P.eqGuardType P.depth t = false) (hr : ∀ w, S w → (Op.equalIn 10000 t (.agg xs) (.agg ys)).run P w = .ok b w) : YieldsIf P ops S o (.bool b) a :=
  .inl ⟨hw, fun w hS => by
    have h1 := run_eqGuard_agg (P := P) w .eql t x y xs ys hm
    have h2 := run_eql_struct (P := P) w t xs ys
    rw [hr w hS] at h2
    unfold execOp
    simp only [ho, hx, hy, Sem.run_bind, h1, h2, Result.andThen_ok, Sem.run_pure]⟩
theorem wp_append_opt {w : World} {K : Act → World → Prop} (s x : Operand) (t : TypeId)
    (ho : o.op = .call { callee := .builtin .append, args := #[s, x], argTypes := #[t, t] })
    (base : Nat) (e : TypeId) (i : TypeInfo) (z : Value) (size bytes : Nat) (ht : P.underlying t = some (.slice e)) (hi : P.info? e = some i) (hz : i.zero = some z)
    (hsize : i.size = size) (hby : i.bytes = bytes) (hzs : z.cells.size = size) (hsz : 0 < size)
    (v : Value) (n : Nat) (xs : List Value) (hs : a.eval s = v) (hown : w.ownsRow base e size v n xs)
    (A : Option Addr) (m c : Nat) (news : List Value) (hx : a.eval x = .slice A m c) (h0 : A = none → m = 0) (hl : news.length = m * size) (hnews : ∀ ad, A = some ad → ∀ j u, news[j]? = some u → w.cell? (ad.add j) = some u) (h1 : ∀ u ∈ news, u.oneCell' = true)
    (h63 : n + m ≤ maxLen) (hbytes : (n + m) * bytes ≤ 140737488355328) (hbase : base ≤ w.heap.size)
    (h : ∀ v' w', w'.ownsRow base e size v' (n + m) (xs ++ news) → w.grownBy w' v.ownBlock → K (a.put o.dst v') w') : o.wp P a w K Q := by
  cases A with
  | some ad => exact wp_append_own w s x t ho base e i z size bytes ht hi hz hsize hby hzs hsz v n xs hs hown ad m c news hx hl (hnews ad rfl) h1 h63 hbytes hbase (fun v' w' h2 h3 _ => h v' w' h2 h3)
  | none =>
    obtain rfl := h0 rfl
    have hn : news = [] := List.length_eq_zero_iff.1 (by rw [hl]; simp)
    subst hn
    have hr : (Builtin.append_ #[t, t] o.type #[v, .slice none 0 c]).run P w = .ok v w := by
      rcases hown.2 with ⟨rfl, rfl⟩ | ⟨g, cap, cur, rfl, _, _, hnc, _⟩
      · simp [Builtin.append_, run_underlying ht, sizeOf, typeInfo, hi, Builtin.lenOf, Builtin.firstCells]
      · simp [Builtin.append_, run_underlying ht, sizeOf, typeInfo, hi, Builtin.lenOf, Builtin.firstCells, hnc, storeCells]
    unfold Oper.wp execOp
    simp only [ho, resolve, invoke, builtin, Sem.run_bind, Sem.run_pure, Result.andThen_ok, List.map_toArray, List.map_cons, List.map_nil, hs, hx, hr]
    exact h v w (by simpa using hown) ⟨rfl, rfl, rfl, Nat.le_refl _, fun _ _ _ => rfl⟩
end
theorem news_any {w : World} {A : Option Addr} {ls : List LV} (hls : ∀ x ∈ ls, x.addr.length = 16) (hA : LocsAt w A ls) : (A = none → ls.length = 0) ∧ ∀ ad, A = some ad → ∀ j u, (flatL ls)[j]? = some u → w.cell? (ad.add j) = some u := by
  by_cases h0 : ls.length = 0
  · obtain rfl := List.length_eq_zero_iff.1 h0
    exact ⟨fun _ => rfl, fun ad _ j u h => by simp [flatL] at h⟩
  · obtain ⟨b, o, rfl, _, hc⟩ := hA (by rw [List.length_map]; omega)
    exact ⟨fun e => (by cases e), fun ad e => by cases e; exact locs_news hls hc⟩
theorem range_ints : ∀ (xs ys : List Int), xs.length = ys.length → ((List.range xs.length).all fun i => xs.getD i 0 == ys.getD i 0) = (xs == ys)
  | [], [], _ => rfl
  | x :: xs, y :: ys, h => by
    have ih := range_ints xs ys (by simpa using h)
    rw [List.length_cons, List.range_succ_eq_map, List.all_cons, List.all_map]
    simp only [List.getD_cons_zero, Function.comp_def, List.getD_cons_succ, ih]
    simp [List.cons_beq_cons]
  | [], _ :: _, h => by simp at h
  | _ :: _, [], h => by simp at h
theorem eq_key (w : World) (a b : List Int) (ha : a.length = 8) (hb : b.length = 8) : (Op.equalIn 10000 38 (.agg (key8 a)) (.agg (key8 b))).run Tryd.prog w = .ok (a == b) w := by
  have hi0 : (Tryd.prog.info? 3).isSome = true := by kernel_rfl
  obtain ⟨ti, hi⟩ := Option.isSome_iff_exists.1 hi0
  have hc : Tryd.prog.cellsOf 3 = 1 := by kernel_rfl
  rw [show 10000 = 9999 + 1 from rfl, run_equalIn_array w 9999 _ _ Tryd.underlying38 hi, ← range_ints a b (ha.trans hb.symm), ha, hc]
  have hl : ∀ i ∈ List.range 8, i < 8 := fun i h => List.mem_range.1 h
  generalize List.range 8 = l at hl ⊢
  induction l with
  | nil => rfl
  | cons i l ih =>
    have hi8 := hl i List.mem_cons_self
    have px : ∀ (z : List Int), z.length = 8 → (part 3 (key8 z) (i * 1)).run Tryd.prog w = .ok (.int .i64 (z.getD i 0)) w := fun z hz => by
      simp [part, isAgg, run_underlying Tryd.underlying3, key8, List.getD, List.getElem?_eq_getElem (show i < z.length by omega)]
    have pe := run_equalIn_int w 9998 3 .i64 _ (a.getD i 0) (b.getD i 0) Tryd.underlying3
    rw [show 9998 + 1 = 9999 from rfl] at pe
    simp only [Op.eqItems, Sem.run_bind, px a ha, px b hb, Result.andThen_ok, pe, List.all_cons]
    cases hq : (a.getD i 0 == b.getD i 0)
    · simp
    · simp only [Bool.not_true, Bool.false_eq_true, if_false, Bool.true_and]
      exact ih fun j hj => hl j (List.mem_cons_of_mem _ hj)
theorem eqGuardKey : Tryd.prog.eqGuardType Tryd.prog.depth 38 = false := by kernel_rfl
theorem builtLocZero : Tryd.prog.built 42 [] = some lvZero.cells.toArray := by kernel_rfl
theorem key_eqB (a b : List UInt8) : (keyA [] a == keyA [] b) = (((PP a : Int) == (PP b : Int)) && (-(scopeR a : Int) == -(scopeR b : Int))) := by
  have h := keyA_nil_eq a b
  rw [Bool.eq_iff_iff, beq_iff_eq, Bool.and_eq_true, beq_iff_eq, beq_iff_eq, h]
  constructor
  · rintro ⟨h1, h2⟩; exact ⟨by omega, by omega⟩
  · rintro ⟨h1, h2⟩; exact ⟨by omega, by omega⟩
theorem builtLocAll (c0 c1 c2 c3 c4 c5 c6 c7 c8 c9 c10 c11 c12 c13 c14 c15 : Value) : Tryd.prog.built 42 [(0, .agg #[c0, c1, c2, c3, c4, c5, c6, c7, c8, c9, c10, c11, c12, c13, c14, c15]), (1, .bool true)] = some #[c0, c1, c2, c3, c4, c5, c6, c7, c8, c9, c10, c11, c12, c13, c14, c15, .bool true, .bool false] := by
  kernel_rfl
theorem builtLoc {ta : List Value} (h : ta.length = 16) : Tryd.prog.built 42 [(0, .agg ta.toArray), (1, .bool true)] = some (ta ++ [Value.bool true, Value.bool false]).toArray := by
  match ta, h with
  | [c0, c1, c2, c3, c4, c5, c6, c7, c8, c9, c10, c11, c12, c13, c14, c15], _ => exact builtLocAll c0 c1 c2 c3 c4 c5 c6 c7 c8 c9 c10 c11 c12 c13 c14 c15
theorem fill_18 {cs : List Value} {z : Value} (h : cs.length = 18) : Instr.fill (fun i => some (i * 18, 18)) ((Array.range (1 * 18)).map (z.cells[· % z.cells.size]!)) [(0, .agg cs.toArray)] = some cs.toArray := by
  have := Great.fill_whole (s := 18) (by decide) [Value.agg cs.toArray] ((Array.range (1 * 18)).map (z.cells[· % z.cells.size]!)) (by simp [Value.cells, h]) (by simp)
  simpa [Value.cells] using this
theorem own_slL {w : World} {B e size n : Nat} {v : Value} {xs : List Value} (h : w.ownsRow B e size v n xs) : ∃ A cap, v = .slice A n cap := by
  rcases h.2 with ⟨rfl, h0⟩ | ⟨g, cap, cur, rfl, _⟩
  · exact ⟨none, 0, by rw [h0]⟩
  · exact ⟨_, cap, rfl⟩
end Go.Proofs.YteahcgjabdjmkaaDoor
