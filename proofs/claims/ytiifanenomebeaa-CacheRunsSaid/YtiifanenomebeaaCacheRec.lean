/-
  Records' cells one behind the other, with how long each counts; what Put does not do; rows of records that are written. Conditions: each states its own.
-/
import Derived.Test.YtiifanenomebeaaCachePut
namespace Go.Proofs.Ytiifanenomebeaa
open Go.RowKit Go.Lib

/-- a record: name, type, how long it counts, and the other eighteen cells -/
structure Rc where
  a : ByteArray
  b : Int
  t : Nat
  r : List Value
def Rc.cells (x : Rc) : List Value := .string x.a :: .int .i64 x.b :: .int .i64 x.t :: x.r
structure Rc.Ok (x : Rc) : Prop where
  len : x.r.length = 18
  small : x.t ≤ big
  one : ∀ u ∈ x.r, u.oneCell' = true
theorem Rc.clen {x : Rc} (h : x.Ok) : x.cells.length = 21 := by unfold Rc.cells; simp [h.len]
theorem Rc.cone {x : Rc} (h : x.Ok) : ∀ u ∈ x.cells, u.oneCell' = true := by
  intro u hu
  simp only [Rc.cells, List.mem_cons] at hu
  rcases hu with rfl | rfl | rfl | hu
  · rfl
  · rfl
  · rfl
  · exact h.one u hu
def recsC (l : List Rc) : List Value := l.flatMap Rc.cells
theorem recsC_cons (x : Rc) (l : List Rc) : recsC (x :: l) = x.cells ++ recsC l := rfl
theorem recsC_append (a b : List Rc) : recsC (a ++ b) = recsC a ++ recsC b := by simp [recsC]
theorem recsC_len : ∀ (l : List Rc), (∀ x ∈ l, x.Ok) → (recsC l).length = l.length * 21
  | [], _ => rfl
  | x :: l, h => by rw [recsC_cons, List.length_append, recsC_len l (fun y hy => h y (List.mem_cons_of_mem _ hy)), Rc.clen (h x List.mem_cons_self), List.length_cons]; omega
theorem recsC_one {l : List Rc} (h : ∀ x ∈ l, x.Ok) : ∀ u ∈ recsC l, u.oneCell' = true := by
  intro u hu
  obtain ⟨x, hx, hu⟩ := List.mem_flatMap.1 hu
  exact Rc.cone (h x hx) u hu
theorem recsC_at : ∀ (l : List Rc) (k j : Nat) (x : Rc) (v : Value), (∀ x ∈ l, x.Ok) → l[k]? = some x → x.cells[j]? = some v → (recsC l)[k * 21 + j]? = some v
  | [], k, j, x, v, _, h, _ => by simp at h
  | y :: l, 0, j, x, v, ho, h, hj => by
    simp only [List.getElem?_cons_zero, Option.some.injEq] at h
    subst h
    rw [recsC_cons, List.getElem?_append_left (by have := (List.getElem?_eq_some_iff.1 hj).1; omega), Nat.zero_mul, Nat.zero_add]
    exact hj
  | y :: l, k + 1, j, x, v, ho, h, hj => by
    have hc := Rc.clen (ho y List.mem_cons_self)
    rw [recsC_cons, List.getElem?_append_right (by omega), hc, show (k + 1) * 21 + j - 21 = k * 21 + j by omega]
    exact recsC_at l k j x v (fun z hz => ho z (List.mem_cons_of_mem _ hz)) (by simpa using h) hj
theorem recsC_set : ∀ (l : List Rc) (k j : Nat) (x x' : Rc) (u : Value), (∀ x ∈ l, x.Ok) → l[k]? = some x → j < 21 → x.cells.set j u = x'.cells → (recsC l).set (k * 21 + j) u = recsC (l.set k x')
  | [], k, j, x, x', u, _, h, _, _ => by simp at h
  | y :: l, 0, j, x, x', u, ho, h, hj, he => by
    simp only [List.getElem?_cons_zero, Option.some.injEq] at h
    subst h
    rw [recsC_cons, Nat.zero_mul, Nat.zero_add, List.set_append_left _ _ (by rw [Rc.clen (ho y List.mem_cons_self)]; exact hj), he]
    rfl
  | y :: l, k + 1, j, x, x', u, ho, h, hj, he => by
    have hc := Rc.clen (ho y List.mem_cons_self)
    rw [recsC_cons, List.set_append_right _ _ (by omega), hc, show (k + 1) * 21 + j - 21 = k * 21 + j by omega, recsC_set l k j x x' u (fun z hz => ho z (List.mem_cons_of_mem _ hz)) (by simpa using h) hj he]
    rfl
def age (d : Nat) (x : Rc) : Rc := { x with t := x.t - d }
def aged (d : Nat) (l : List Rc) : List Rc := l.map (age d)
theorem age_ok {d : Nat} {x : Rc} (h : x.Ok) : (age d x).Ok := ⟨h.len, Nat.le_trans (Nat.sub_le _ _) h.small, h.one⟩
/-- one cell of a row of the call's own is written -/
theorem own_set {w : World} {base e size n g cap : Nat} {xs : List Value} (h : w.ownsRow base e size (.slice (some ⟨g, 0, none⟩) n cap) n xs) (k : Nat) (u : Value) :
    (w.setCell ⟨g, k, none⟩ u).ownsRow base e size (.slice (some ⟨g, 0, none⟩) n cap) n (xs.set k u) := by
  rcases h.2 with ⟨h0, _⟩ | ⟨g', cap', cur, hv, hb, hg, hn, hc, hs, ht⟩
  · cases h0
  · injection hv with hA _ hcc
    injection hA with hA
    injection hA with hA
    subst hA hcc
    refine ⟨by rw [List.length_set]; exact h.1, .inr ⟨g, cap, _, rfl, hb, heap_setCell_same w g k cur e u hg, hn, hc, by simpa using hs, ?_⟩⟩
    rw [Array.toList_setIfInBounds, List.take_set, ht]
theorem own_at {w : World} {base e size n g cap : Nat} {xs : List Value} (h : w.ownsRow base e size (.slice (some ⟨g, 0, none⟩) n cap) n xs) : (∀ k u, xs[k]? = some u → w.cell? ⟨g, k, none⟩ = some u ∧ w.frozen? ⟨g, k, none⟩ = false) ∧ base ≤ g ∧ ∃ cur, w.heap[g]? = some (.cells cur e (0, 0)) := by
  rcases h.2 with ⟨h0, _⟩ | ⟨g', cap', cur, hv, hb, hg, hn, hc, hs, ht⟩
  · cases h0
  · injection hv with hA _ hcc
    injection hA with hA
    injection hA with hA
    subst hA
    refine ⟨fun k u hu => ⟨?_, frozen_of_row w g k _ _ hg⟩, hb, _, hg⟩
    have := h.cells (g := g) rfl k u hu
    rwa [Addr.add_lit, Nat.zero_add] at this
set_option maxRecDepth 100000 in
theorem put_nil (w : World) (now : Int) (qn : ByteArray) (qt out : Int) (l : Value) (ttl : Int) :
    Calls Try.prog 14 #[.pointer none, .int .i64 now, .agg #[.string qn, .int .i64 qt], .int .i64 out, l, .int .i64 ttl] w fun e w' => e = .returned (.tuple #[]) ∧ Below w.heap.size w w' := by
  have HB : Hid (Below w.heap.size w (w.alloc (.cells #[.string qn, .int .i64 qt] 32))) := Lib.hid ((Below.refl _ w).alloc (Nat.le_refl _) _)
  go_enter Try.func14, Try.ntmps14
  go_wp2_with fail
  exact bodyPost_ret (v := .tuple #[]) (by simp [results, Try.results14, go_sem]) rfl ⟨rfl, HB.out⟩
set_option maxRecDepth 100000 in
theorem put_skip {base C size : Nat} {w : World} {v : Value} {es : List En} (h : CAt base w C size v es) (now : Int) (qn : ByteArray) (qt out : Int) (l : Value) (ttl : Int) (hs : size = 0 ∨ ttl < 1) :
    Calls Try.prog 14 #[.pointer (some ⟨C, 0, none⟩), .int .i64 now, .agg #[.string qn, .int .i64 qt], .int .i64 out, l, .int .i64 ttl] w fun e w' => e = .returned (.tuple #[]) ∧ Below w.heap.size w w' := by
  have hb : Below w.heap.size w (w.alloc (.cells #[.string qn, .int .i64 qt] 32)) := (Below.refl _ w).alloc (Nat.le_refl _) _
  have hA := h.below hb
  have c0 := cell_of_row _ C 0 _ _ _ hA.obj
  simp only [List.getElem?_toArray, List.getElem?_cons_zero] at c0
  have HB := Lib.hid hb
  clear hb hA h
  by_cases h0 : size = 0
  · subst h0
    go_enter Try.func14, Try.ntmps14
    go_wp2_with fail
    exact bodyPost_ret (v := .tuple #[]) (by simp [results, Try.results14, go_sem]) rfl ⟨rfl, HB.out⟩
  · have ht : ttl < 1 := by rcases hs with h | h; · exact absurd h h0
                            · exact h
    have hs0 : ((size : Int) == 0) = false := beq_eq_false_iff_ne.2 (by omega)
    clear hs
    go_enter Try.func14, Try.ntmps14
    go_wp2_with fail
    exact bodyPost_ret (v := .tuple #[]) (by simp [results, Try.results14, go_sem]) rfl ⟨rfl, HB.out⟩
end Go.Proofs.Ytiifanenomebeaa
