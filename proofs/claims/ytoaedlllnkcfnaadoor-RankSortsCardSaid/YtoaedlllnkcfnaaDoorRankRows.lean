/-
  Rows of records of the call's own: two of them side by side, each appended to; keys held against one another. Each states its own conditions.
-/
import Derived.Test.YtoaedlllnkcfnaaDoorRankFit
import Derived.Test.YtoaedlllnkcfnaaDoorRankEq
import Derived.Great.BuildSlice
import Derived.Great.FillDense
import Derived.ChangeKeysEq
import Derived.Deep.RegionHeld
import Derived.Laws.Append
import Derived.Laws.AppendOwn
namespace Go.Proofs.YtoaedlllnkcfnaaDoor
open Go.RowKit

/-- where a row lies behind an append: where it lay, or in a new block -/
theorem append_where {P : Program} (w : World) (base : Nat) (t ty e : TypeId) (i : TypeInfo) (z : Value) (ht : P.underlying t = some (.slice e)) (hi : P.info? e = some i) (hz : i.zero = some z)
    (v : Value) (n : Nat) (xs : List Value) (hown : w.ownsRow base e i.size v n xs) (a : Addr) (m c : Nat) (hm : 0 < m) (news : List Value) (hl : news.length = m * i.size) (hnews : ∀ j u, news[j]? = some u → w.cell? (a.add j) = some u) (h1 : ∀ u ∈ news, u.oneCell' = true)
    (h63 : n + m ≤ maxLen) (hbytes : (n + m) * i.bytes ≤ 140737488355328) (v' : Value) (w' : World) (hr : (Builtin.append_ #[t, t] ty #[v, .slice (some a) m c]).run P w = .ok v' w') :
    ∀ g, v'.ownBlock = some g → v.ownBlock = some g ∨ w.heap.size ≤ g := by
  have h64 : ((n + m : Nat) : Int) ≤ 9223372036854775807 := by simp only [maxLen] at h63; omega
  rcases hown.2 with ⟨rfl, rfl⟩ | ⟨g, cap, cur, rfl, hbg, hg, hnc, hcm, hcs, htake⟩
  · have e1 := run_append_nil (P := P) w t ty e i z ht hi hz a m c news hl hnews hm (by omega) (by rw [Nat.zero_add] at hbytes; omega)
    rw [hr] at e1
    injection e1 with e1 _
    subst e1
    intro q hq
    injection hq with hq
    exact .inr (Nat.le_of_eq hq)
  · by_cases hroom : n + m ≤ cap
    · have e1 := run_append_room (P := P) w t ty e i ht hi g n cap cur hg a m c news hl hnews h1 hroom (by rw [hl, hcs, ← Nat.add_mul]; exact Nat.mul_le_mul_right _ hroom)
      rw [hr] at e1
      injection e1 with e1 _
      subst e1
      intro q hq
      exact .inl hq
    · have e1 := run_append_grow (P := P) w t ty e i z ht hi hz ⟨g, 0, none⟩ n cap xs hown.1 (hown.cells (g := g) rfl) a m c news hl hnews (by omega) h64 (growslice_fits (by omega) hbytes)
      rw [hr] at e1
      injection e1 with e1 _
      subst e1
      intro q hq
      injection hq with hq
      exact .inr (Nat.le_of_eq hq)
theorem info_recK : ∃ i, Tryd.prog.info? 29 = some i ∧ i.zero = some (.agg rvZero.cells.toArray) ∧ i.size = 21 ∧ i.bytes = 80 := by
  have h : (Tryd.prog.info? 29).map (fun i => (i.zero, i.size, i.bytes)) = some (some (.agg rvZero.cells.toArray), 21, 80) := by kernel_rfl
  cases hq : Tryd.prog.info? 29 with
  | none => rw [hq] at h; cases h
  | some i =>
    rw [hq] at h
    simp only [Option.map_some, Option.some.injEq, Prod.mk.injEq] at h
    exact ⟨i, rfl, h.1, h.2.1, h.2.2⟩
/-- append of one record to a row of the call's own -/
theorem wpList_append_rec {w : World} {ops : Array Oper} {rest : List Oper} {o : Oper} {a : Act} {Q : Exit → Act → World → Prop} (hgd : o.guard = none) (s x : Operand)
    (ho : o.op = .call { callee := .builtin .append, args := #[s, x], argTypes := #[25, 25] })
    (base : Nat) (v : Value) (n : Nat) (xs : List Value) (hs : a.eval s = v) (hown : w.ownsRow base 29 21 v n xs) (ad : Addr) (news : List Value) (hx : a.eval x = .slice (some ad) 1 1) (hl : news.length = 21)
    (hnews : ∀ j u, news[j]? = some u → w.cell? (ad.add j) = some u) (h1 : ∀ u ∈ news, u.oneCell' = true) (hn : n ≤ 100000) (hbase : base ≤ w.heap.size)
    (h : ∀ v' w', w'.ownsRow base 29 21 v' (n + 1) (xs ++ news) → w.grownBy w' v.ownBlock → (∀ g, v'.ownBlock = some g → v.ownBlock = some g ∨ w.heap.size ≤ g) → wpList Tryd.prog ops Q rest (a.put o.dst v') w') : wpList Tryd.prog ops Q (o :: rest) a w :=
  wpList_plain hgd fun _ hK => by
    obtain ⟨i, hi, hz, hsz, hby⟩ := info_recK
    obtain ⟨v', w', hr, h2, h3, _⟩ := run_append_own (P := Tryd.prog) w base 25 o.type 29 i _ 21 80 Tryd.underlying25 hi hz hsz hby rfl (by decide) v n xs hown ad 1 1 news (by rw [hl]) hnews h1 (by simp only [maxLen]; omega) (by omega) hbase
    have h4 := append_where (P := Tryd.prog) w base 25 o.type 29 i _ Tryd.underlying25 hi hz v n xs (by rw [hsz]; exact hown) ad 1 1 (by decide) news (by rw [hl, hsz]) hnews h1 (by simp only [maxLen]; omega) (by rw [hby]; omega) v' w' hr
    unfold Oper.wp execOp
    simp only [ho, resolve, invoke, builtin, Sem.run_bind, Sem.run_pure, Result.andThen_ok, List.map_toArray, List.map_cons, List.map_nil, hs, hx, hr]
    exact hK _ _ (h v' w' h2 h3 h4)
theorem fill21k {cs : List Value} {z : Value} (h : cs.length = 21) : Instr.fill (fun i => some (i * 21, 21)) ((Array.range (1 * 21)).map (z.cells[· % z.cells.size]!)) [(0, .agg cs.toArray)] = some cs.toArray := by
  have := Great.fill_whole (s := 21) (by decide) [Value.agg cs.toArray] ((Array.range (1 * 21)).map (z.cells[· % z.cells.size]!)) (by simp [Value.cells, h]) (by simp)
  simpa [Value.cells] using this
/-- records, one behind the other -/
def rkc (rs : List RV) : List Value := (rs.map RV.cells).flatten
theorem rkc_snoc (rs : List RV) (r : RV) : rkc (rs ++ [r]) = rkc rs ++ r.cells := by unfold rkc; simp
theorem own_recsK {W : World} {base c : Nat} {A : Option Addr} {rs : List RV} (h : W.ownsRow base 29 21 (.slice A rs.length c) rs.length (rkc rs)) (had : ∀ r ∈ rs, r.addr.length = 16) : RecsAt W A rs := fun h0 => by
  rw [List.length_map] at h0
  rcases h.2 with ⟨_, h1⟩ | ⟨g, cap, cur, hv, hb, hg, _⟩
  · omega
  · injection hv with h1 h2 h3
    subst h1
    refine ⟨g, 0, rfl, (Array.getElem?_eq_some_iff.1 hg).1, fun k r hr j v hj => ?_⟩
    have h21 : ∀ x ∈ rs.map RV.cells, x.length = 21 := fun x hx => by
      obtain ⟨r, hr, rfl⟩ := List.mem_map.1 hx
      exact RV.size (had r hr)
    have hj2 : j < 21 := by
      rw [← h21 r (List.mem_of_getElem? hr)]
      exact (List.getElem?_eq_some_iff.1 hj).1
    have hf := flat_at h21 hr hj2
    have hc := h.cells (g := g) rfl (k * 21 + j) v (by unfold rkc; rw [hf]; exact hj)
    rw [Addr.add_lit] at hc
    rw [show 0 + k * 21 + j = 0 + (k * 21 + j) by omega]
    exact hc
/-- two rows of the call's own, apart -/
structure TwoR (base : Nat) (w U : World) (n1 : Nat) (xs1 : List Value) (v1 : Value) (n2 : Nat) (xs2 : List Value) (v2 : Value) : Prop where
  o1 : U.ownsRow base 29 21 v1 n1 xs1
  o2 : U.ownsRow base 29 21 v2 n2 xs2
  ap : ∀ g, v1.ownBlock = some g → v2.ownBlock ≠ some g
  below : Below w.heap.size w U
  hw : w.heap.size ≤ base
  hb : base ≤ U.heap.size
section
variable {base n1 n2 : Nat} {w U U' : World} {xs1 xs2 : List Value} {v1 v2 v' : Value}
theorem TwoR.to (h : TwoR base w U n1 xs1 v1 n2 xs2 v2) (hb : Below U.heap.size U U') : TwoR base w U' n1 xs1 v1 n2 xs2 v2 := by
  have hg : U.grownBy U' none := ⟨hb.os, hb.tape, hb.output, hb.size, fun k hk _ => hb.block k hk⟩
  exact ⟨h.o1.kept hg (Classical.em _), h.o2.kept hg (Classical.em _), h.ap, h.below.trans (hb.mono h.below.size), h.hw, Nat.le_trans h.hb hb.size⟩
theorem TwoR.swap (h : TwoR base w U n1 xs1 v1 n2 xs2 v2) : TwoR base w U n2 xs2 v2 n1 xs1 v1 := ⟨h.o2, h.o1, fun g h1 h2 => h.ap g h2 h1, h.below, h.hw, h.hb⟩
theorem TwoR.app (h : TwoR base w U n1 xs1 v1 n2 xs2 v2) {ys : List Value} (ho : U'.ownsRow base 29 21 v' (n1 + 1) ys) (hg : U.grownBy U' v1.ownBlock) (hn : ∀ g, v'.ownBlock = some g → v1.ownBlock = some g ∨ U.heap.size ≤ g) : TwoR base w U' (n1 + 1) ys v' n2 xs2 v2 := by
  refine ⟨ho, h.o2.kept hg ?_, fun g hg' h2 => ?_, h.below.grown hg h.below.size (fun j hj => by have := (h.o1.lt j hj).1; have := h.hw; omega), h.hw, Nat.le_trans h.hb hg.size⟩
  · cases h2 : v2.ownBlock with
    | none => exact .inl rfl
    | some g => exact .inr (fun e => h.ap g e.symm h2)
  · rcases hn g hg' with h3 | h3
    · exact h.ap g h3 h2
    · have := (h.o2.lt g h2).2
      omega
end
theorem cmpK_zero : ∀ x y : List Int, x.length = y.length → cmpK x y = 0 → x = y
  | [], [], _, _ => rfl
  | a :: x, b :: y, h, h0 => by
    rw [cmpK] at h0
    rcases ci_cases a b with ⟨_, e⟩ | ⟨h1, e⟩ | ⟨_, e⟩
    · rw [e] at h0; simp at h0
    · rw [e] at h0
      simp only [if_true] at h0
      rw [h1, cmpK_zero x y (by simpa using h) h0]
    · rw [e] at h0; simp at h0
/-- what has the same elements and is in the same order is the same -/
theorem sorted_same : ∀ (l1 l2 : List (List Int)), l1.Perm l2 → (∀ u ∈ l1, u.length = 8) → l1.Pairwise (fun u v => cmpK v u ≤ 0) → l2.Pairwise (fun u v => cmpK v u ≤ 0) → l1 = l2
  | [], l2, hp, _, _, _ => (List.nil_perm.1 hp).symm
  | a :: t, [], hp, _, _, _ => by have := hp.length_eq; simp at this
  | a :: t, b :: s, hp, h8, p1, p2 => by
    have hab : a = b := by
      by_cases e : a = b
      · exact e
      · have ha : a ∈ s := by
          have := hp.mem_iff.1 (List.mem_cons_self (a := a) (l := t))
          rcases List.mem_cons.1 this with h | h
          · exact absurd h e
          · exact h
        have hb : b ∈ t := by
          have := hp.mem_iff.2 (List.mem_cons_self (a := b) (l := s))
          rcases List.mem_cons.1 this with h | h
          · exact absurd h.symm e
          · exact h
        have l1 := h8 a List.mem_cons_self
        have l2 := h8 b (List.mem_cons_of_mem _ hb)
        have h1 := (List.pairwise_cons.1 p1).1 b hb
        have h2 := (List.pairwise_cons.1 p2).1 a ha
        have h3 := cmpK_anti a b (by omega)
        exact cmpK_zero a b (by omega) (by omega)
    subst hab
    rw [sorted_same t s (List.perm_cons a |>.1 hp) (fun u hu => h8 u (List.mem_cons_of_mem _ hu)) (List.pairwise_cons.1 p1).2 (List.pairwise_cons.1 p2).2]
/-- keys in the order of their places -/
theorem sortP_pair {ks : List (List Int)} {ps : List Nat} (h : SortP ks ps) : (ps.map fun i => ks.getD i []).Pairwise (fun u v => cmpK v u ≤ 0) := by
  rw [List.pairwise_map, List.pairwise_iff_getElem]
  intro i j hi hj hij
  rcases h.ord i j _ _ hij (List.getElem?_eq_getElem hi) (List.getElem?_eq_getElem hj) with h1 | h1 <;> omega
theorem range_getD (ks : List (List Int)) : (List.range ks.length).map (fun i => ks.getD i []) = ks := by
  apply List.ext_getElem?
  intro i
  rw [List.getElem?_map]
  rcases Nat.lt_or_ge i ks.length with h | h
  · rw [List.getElem?_range h, Option.map_some, List.getD_eq_getElem?_getD, List.getElem?_eq_getElem h]; rfl
  · rw [List.getElem?_eq_none (by rw [List.length_range]; exact h), List.getElem?_eq_none h]; rfl
theorem sortP_perm {ks : List (List Int)} {ps : List Nat} (h : SortP ks ps) : (ps.map fun i => ks.getD i []).Perm ks := by
  have := h.perm.map (fun i => ks.getD i [])
  rwa [range_getD] at this
theorem sort_same {k1 k2 : List (List Int)} (hp : k1.Perm k2) (h8 : ∀ u ∈ k1, u.length = 8) {ps qs : List Nat} (h1 : SortP k1 ps) (h2 : SortP k2 qs) : (ps.map fun i => k1.getD i []) = (qs.map fun i => k2.getD i []) :=
  sorted_same _ _ ((sortP_perm h1).trans (hp.trans (sortP_perm h2).symm)) (fun u hu => h8 u ((sortP_perm h1).mem_iff.1 hu)) (sortP_pair h1) (sortP_pair h2)
theorem range_intsK : ∀ (xs ys : List Int), xs.length = ys.length → ((List.range xs.length).all fun i => xs.getD i 0 == ys.getD i 0) = (xs == ys)
  | [], [], _ => rfl
  | x :: xs, y :: ys, h => by
    have ih := range_intsK xs ys (by simpa using h)
    rw [List.length_cons, List.range_succ_eq_map, List.all_cons, List.all_map]
    simp only [List.getD_cons_zero, Function.comp_def, List.getD_cons_succ, ih]
    simp [List.cons_beq_cons]
  | [], _ :: _, h => by simp at h
  | _ :: _, [], h => by simp at h
theorem eq_keyK (w : World) (a b : List Int) (ha : a.length = 8) (hb : b.length = 8) : (Op.equalIn 10000 38 (.agg (key8 a)) (.agg (key8 b))).run Tryd.prog w = .ok (a == b) w := by
  have hi0 : (Tryd.prog.info? 3).isSome = true := by kernel_rfl
  obtain ⟨ti, hi⟩ := Option.isSome_iff_exists.1 hi0
  have hc : Tryd.prog.cellsOf 3 = 1 := by kernel_rfl
  rw [show 10000 = 9999 + 1 from rfl, run_equalIn_array w 9999 _ _ Tryd.underlying38 hi, ← range_intsK a b (ha.trans hb.symm), ha, hc]
  have hl : ∀ i ∈ List.range 8, i < 8 := fun i h => List.mem_range.1 h
  generalize List.range 8 = l at hl ⊢
  induction l with
  | nil => rfl
  | cons i l ih =>
    have hi8 := hl i List.mem_cons_self
    have px : ∀ (z : List Int), z.length = 8 → (part 3 (key8 z) (i * 1)).run Tryd.prog w = .ok (.int .i64 (z.getD i 0)) w := fun z hz => by
      simp [part, isAgg, run_underlying Tryd.underlying3, key8, List.getD, List.getElem?_eq_getElem (show i < z.length by omega)]
    have pe := run_equalIn_int w 9998 3 .i64 _ (a.getD i 0) (b.getD i 0) Tryd.underlying3
    rw [show 9998 + 1 = 9999 from rfl] at pe
    simp only [Op.eqItems, Sem.run_bind, px a ha, px b hb, Result.andThen_ok, pe, List.all_cons]
    cases hq : (a.getD i 0 == b.getD i 0)
    · simp
    · simp only [Bool.not_true, Bool.false_eq_true, if_false, Bool.true_and]
      exact ih fun j hj => hl j (List.mem_cons_of_mem _ hj)
theorem eqGuardKeyK : Tryd.prog.eqGuardType Tryd.prog.depth 38 = false := by kernel_rfl
section
variable {P : Program} {ops : Array Oper} {o : Oper} {a : Act}
theorem yieldsIf_neqK {S : World → Prop} (hw : Region.wanted o (yielded ops a.tmps) = true) (t : TypeId) (x y : Operand) (s : TypeId) (ho : o.op = .binOp .neq t x y s) (xs ys : Array Value) (b : Bool) (hx : a.eval x = .agg xs) (hy : a.eval y = .agg ys)
    (hm : P.eqGuardType P.depth t = false) (hr : ∀ w, S w → (Op.equalIn 10000 t (.agg xs) (.agg ys)).run P w = .ok b w) : YieldsIf P ops S o (.bool (!b)) a :=
  .inl ⟨hw, fun w hS => by
    have h1 := run_eqGuard_agg (P := P) w .neq t x y xs ys hm
    have h2 := run_neq_struct (P := P) w t xs ys
    rw [hr w hS] at h2
    unfold execOp
    simp only [ho, hx, hy, Sem.run_bind, h1, h2, Result.andThen_ok, Sem.run_pure]⟩
theorem wpList_build_k {rest : List Oper} {Q : Exit → Act → World → Prop} {w : World} (hgd : o.guard = none) (t : TypeId) (parts : Array (Nat × Operand)) (ho : o.op = .build t parts) (vals : List (Nat × Value)) (cs : Array Value) (hf : P.built t vals = some cs)
    (hv : (parts.toList.map fun (i, x) => (i, a.eval x)) = vals) (h : wpList P ops Q rest (a.put o.dst (.agg cs)) w) : wpList P ops Q (o :: rest) a w := by
  rw [← hv] at hf
  exact wpList_build_z hgd t parts ho cs hf h
end
end Go.Proofs.YtoaedlllnkcfnaaDoor
