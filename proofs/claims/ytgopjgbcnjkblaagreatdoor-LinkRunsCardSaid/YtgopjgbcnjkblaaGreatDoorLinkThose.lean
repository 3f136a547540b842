/-
  The walks of those and Neighbours: the numbers of the links that live and are so. Conditions: the table is of the call's own; the name has at most 300 bytes; the library's variable MaxLen holds some number.
-/
import Derived.Test.YtgopjgbcnjkblaaGreatDoorLinkLocals
import Derived.Test.YtgopjgbcnjkblaaGreatDoorLinkRe
namespace Go.Proofs.YtgopjgbcnjkblaaGreatDoor
open Go.RowKit Go.Shelf
attribute [local go_sem] Oper.semAt_some

/-- the numbers of those that are so -/
def numsOf {ss : List Sl} (p : Sl → Bool) (ys : List (El ss)) : List Int := (ys.filter (fun x => p x.1.2)).map (fun x => (x.1.1 : Int))
theorem numsOf_hit {ss : List Sl} {p : Sl → Bool} (ys : List (El ss)) {x : El ss} (h : p x.1.2 = true) : numsOf p (ys ++ [x]) = numsOf p ys ++ [(x.1.1 : Int)] := by simp [numsOf, List.filter_append, h]
theorem numsOf_miss {ss : List Sl} {p : Sl → Bool} (ys : List (El ss)) {x : El ss} (h : p x.1.2 = false) : numsOf p (ys ++ [x]) = numsOf p ys := by simp [numsOf, List.filter_append, h]
theorem numsOf_le {ss : List Sl} (p : Sl → Bool) (ys : List (El ss)) : (numsOf p ys).length ≤ ys.length := by unfold numsOf; rw [List.length_map]; exact List.length_filter_le _ _
def ints (l : List Int) : List Value := l.map (.int .i64)
def ThPost (p : Sl → Bool) (ss : List Sl) (w : World) (e : Ending) (w' : World) : Prop := ∃ v, e = .returned v ∧ w'.ownsRow w.heap.size 3 1 v (numsOf p (comeTo ss 4)).length (ints (numsOf p (comeTo ss 4))) ∧ Below w.heap.size w w'
theorem info_int : ∃ (i : TypeInfo) (z : Value), Tryz.prog.info? 3 = some i ∧ i.zero = some z ∧ z.cells.size = 1 ∧ i.size = 1 ∧ i.bytes = 8 := by
  have h : (Tryz.prog.info? 3).map (fun i => (i.zero.map (·.cells.size), i.size, i.bytes)) = some (some 1, 1, 8) := by kernel_rfl
  cases hq : Tryz.prog.info? 3 with
  | none => rw [hq] at h; cases h
  | some i0 =>
    rw [hq] at h
    simp only [Option.map_some, Option.some.injEq, Prod.mk.injEq] at h
    cases hz : i0.zero with
    | none => rw [hz] at h; cases h.1
    | some z =>
      rw [hz] at h
      have h1 := h.1
      injection h1 with h1
      exact ⟨i0, z, rfl, hz, h1, h.2.1, h.2.2⟩
theorem holds2 (n₀ B B2 : Nat) (t e t2 : TypeId) (size : Nat) (u : Value) {β : Type} (k : β → Nat) (f : β → List Value) : Own (fun s W => ∃ v, Boxed W B t v ∧ W.ownsRow n₀ e size v (k s) (f s) ∧ Boxed W B2 t2 u) := by
  rintro s X Y row ⟨v, hv, hr, hG⟩ hg hrow
  obtain ⟨v', h1, h2, _⟩ := holdsRow_own n₀ B t e size k f (fun _ w => w = v) s X Y row ⟨v, hv, hr, rfl⟩ hg hrow
  exact ⟨v', h1, h2, boxed_own B2 t2 (fun (_ : Unit) => u) () X Y row hG hg hrow⟩
theorem keeps_below {W W' : World} (h : Below W.heap.size W W') : KeepsOthers W W' := ⟨h.size, fun k _ hk _ => (h.block k (heap_ltk hk)).trans hk⟩
theorem boxed_keep2 {W w1 : World} {B B' n₀ : Nat} {t e : TypeId} {size : Nat} {v u : Value} {k : Nat} {xs : List Value} {tmp : Obj} (hF : Boxed W B t u) (hte : t ≠ e) (hrow : W.ownsRow n₀ e size v k xs) (hgrow : (W.alloc tmp).grownBy w1 v.ownBlock) (hne : B ≠ B') (x : Value) : Boxed (w1.setCell ⟨B', 0, none⟩ x) B t u :=
  ((hF.alloc tmp).kept hgrow ((hF.alloc tmp).not_row hte (hrow.alloc tmp))).other hne x
theorem boxed_below {W W' : World} {B : Nat} {t : TypeId} {v : Value} (hv : Boxed W B t v) (h : Below W.heap.size W W') : Boxed W' B t v := (h.block B hv.lt).trans hv
end Go.Proofs.YtgopjgbcnjkblaaGreatDoor
