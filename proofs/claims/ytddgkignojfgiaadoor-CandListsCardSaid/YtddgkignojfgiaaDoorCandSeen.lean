/-
  A map[string]bool of the call's own that holds which names were seen: made, looked up, put into. Conditions: each states its own.
-/
import Derived.Test.YtddgkignojfgiaaDoorCandNamesLaw
import Derived.Maps.Own
import Derived.Maps.Views
import Derived.Maps.Keyed
import Derived.WideMake
namespace Go.Proofs.YtddgkignojfgiaaDoor
open Go.RowKit Go.Maps

theorem lawB : Maps.Keyed Tryd.prog 9 := string_keyed Tryd.underlying9
theorem keyB_mk {s : ByteArray} (h : s.size ≤ maxLen) : keyOf Tryd.prog 9 (.string s) = some (.string s.data.toList) := by
  simp [keyOf, Tryd.underlying9, mapKey, h]
/-- the map at M holds just these names, each with true -/
def SeenAt (w : World) (M n : Nat) (l : List ByteArray) : Prop :=
  ∃ D : DataW Unit, w.ownsMap Tryd.prog 9 (plainElem Tryd.prog 4) M n D ∧ IsMap D ∧ ∀ x : ByteArray, D.atKey (.string x.data.toList) (.lit (.bool false)) = .lit (.bool (memB l x))
theorem seen_made (w : World) : SeenAt (w.alloc (.map #[] 0)) w.heap.size 0 [] :=
  ⟨_, World.ownsMap_made w Tryd.prog 9 (plainElem (H := Unit) Tryd.prog 4), ⟨_, rfl⟩, fun _ => rfl⟩
theorem SeenAt.kept {w w' : World} {M n : Nat} {l : List ByteArray} {row : Option Nat} (h : SeenAt w M n l) (hg : w.grownBy w' row) (hne : some M ≠ row) : SeenAt w' M n l := by
  obtain ⟨D, h1, h2⟩ := h
  exact ⟨D, h1.kept hg hne, h2⟩
theorem SeenAt.lt {w : World} {M n : Nat} {l : List ByteArray} (h : SeenAt w M n l) : M < w.heap.size := by
  obtain ⟨D, h1, _⟩ := h
  exact h1.lt
theorem SeenAt.look {w : World} {M n : Nat} {l : List ByteArray} (h : SeenAt w M n l) {x : ByteArray} (hx : x.size ≤ 1000000) : (Instr.lookup 33 (.map (some M)) (.string x) false).run Tryd.prog w = .ok (.bool (memB l x)) w := by
  obtain ⟨D, h1, h2, h3⟩ := h
  have hz : (zeroValue 4).run Tryd.prog w = .ok (.bool false) w := by
    first
      | rfl
      | simp [zeroValue, Tryd.underlying4]
  obtain ⟨v, ps, hrun, hv⟩ := h1.lookup lawB Tryd.underlying33 hz (plainElem_bool Tryd.underlying4 false) (keyB_mk (s := x) (by unfold maxLen; omega))
  rw [h3 x] at hv
  have : v = .bool (memB l x) := by
    unfold plainElem at hv
    rw [Tryd.underlying4] at hv
    cases v <;> simp at hv
    obtain ⟨rfl, _⟩ := hv
    rfl
  rw [hrun, this]
theorem memB_snoc (l : List ByteArray) (s x : ByteArray) : memB (l ++ [s]) x = (memB l x || decide (s.data.toList = x.data.toList)) := by
  unfold memB
  rw [List.any_append]; simp
theorem wpList_seen {ops : Array Oper} {rest : List Oper} {o : Oper} {a : Act} {Q : Exit → Act → World → Prop} {w : World} (hgd : o.guard = none) (m x : Operand) (hop : o.op = Op.mapUpdate 33 m x (.const (.bool true))) (M n : Nat) (l : List ByteArray) (s : ByteArray)
    (hm : a.eval m = .map (some M)) (hx : a.eval x = .string s) (hs : s.size ≤ 1000000) (hn : n ≤ 1000000) (h : SeenAt w M n l)
    (hK : ∀ w', SeenAt w' M (n + 1) (l ++ [s]) → w.grownBy w' (some M) → wpList Tryd.prog ops Q rest (a.put o.dst undef) w') : wpList Tryd.prog ops Q (o :: rest) a w := by
  obtain ⟨D, h1, h2, h3⟩ := h
  refine wpList_mapUpdate_own w hgd m x (.const (.bool true)) 33 hop 9 4 lawB Tryd.underlying33 (plainElem Tryd.prog 4) M n D hm h1 (by unfold maxLen; omega) (.string s) (.bool true) (.string s.data.toList) hx rfl (keyB_mk (by unfold maxLen; omega)) (.lit (.bool true)) [] (plainElem_bool Tryd.underlying4 true) ?_
  intro w' r1 r2
  refine hK w' ⟨_, r1, h2.put _ _, fun y => ?_⟩ r2
  rw [memB_snoc]
  by_cases e : s.data.toList = y.data.toList
  · rw [decide_eq_true e, Bool.or_true, ← e, atKey_put_same h2 (by trivial)]
  · rw [atKey_put_other (fun e2 => e (by injection e2 with e2; exact e2.symm)), h3 y, decide_eq_false e, Bool.or_false]
end Go.Proofs.YtddgkignojfgiaaDoor
