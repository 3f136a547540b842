/-
  The walks of resolve.errnoOf and resolve.Error. Condition: the kind is one of an outcome's.
-/
import Derived.Test.YtepcogbfoemcmaaDoorResFit
namespace Go.Proofs.YtepcogbfoemcmaaDoor
open Go.RowKit

/-- the number of a kind's error -/
def EK (k n : Int) : Prop := (k = 2 ∧ n = 9) ∨ (k = 3 ∧ n = 12) ∨ (k = 4 ∧ n = 11) ∨ (k = 5 ∧ n = 10)
theorem errnoOf_e (k n : Int) (h : EK k n) (w : World) : Calls Tryd.prog 13 #[.int .i64 k] w fun e w' => e = .returned (.int .i64 n) ∧ w = w' := by
  rcases h with ⟨rfl, rfl⟩ | ⟨rfl, rfl⟩ | ⟨rfl, rfl⟩ | ⟨rfl, rfl⟩
  all_goals
    go_enter Tryd.func13, Tryd.ntmps13
    go_wp2
    go_ret
    exact ⟨rfl, rfl⟩
set_option maxRecDepth 100000 in
theorem error_nil (s : ByteArray) (w : World) : Calls Tryd.prog 6 #[.string s, .agg #[.int .i64 0, .int .i64 0, .int .i64 1, .slice none 0 0]] w fun e w' => e = .returned .nilIface ∧ Below w.heap.size w w' := by
  go_enter Tryd.func6, Tryd.ntmps6
  go_wp2
  go_ret
  exact ⟨rfl, (Below.refl _ w).alloc (Nat.le_refl _) _⟩
/-- a Why that came: its block -/
def WyPost (s : ByteArray) (n : Int) (w : World) (e : Ending) (w' : World) : Prop :=
  ∃ p, e = .returned (.iface 33 (.pointer (some ⟨p, 0, none⟩))) ∧ w.heap.size ≤ p ∧ w'.heap[p]? = some (.cells #[.string s, .iface 30 (.int .i64 n)] 38 (0, 0)) ∧ Below w.heap.size w w'
set_option maxRecDepth 100000 in
theorem error_e (s : ByteArray) (k n : Int) (h : EK k n) (w : World) : Calls Tryd.prog 6 #[.string s, .agg #[.int .i64 0, .int .i64 0, .int .i64 k, .slice none 0 0]] w (WyPost s n w) := by
  have hE := fun W => errnoOf_e k n h W
  have hk1 : ((k : Int) == 1) = false := by rcases h with ⟨rfl, rfl⟩ | ⟨rfl, rfl⟩ | ⟨rfl, rfl⟩ | ⟨rfl, rfl⟩ <;> decide
  have hk1' : ¬ (k = 1) := by simpa using hk1
  have HE := Lib.hid hE
  clear hE h
  go_enter Tryd.func6, Tryd.ntmps6
  go_wp2_with fail
  refine (HE.out _).mono ?_
  rintro e w' ⟨rfl, rfl⟩
  go_wp2_with fail
  go_ret
  refine ⟨w.heap.size + 1, by simp, by omega, ?_, ((Below.refl _ w).alloc (Nat.le_refl _) _).alloc (by simp) _⟩
  have := heap_alloc_last (w.alloc (.cells #[.int .i64 0, .int .i64 0, .int .i64 k, .slice none 0 0] 29)) (.cells #[.string s, .iface 30 (.int .i64 n)] 38)
  rwa [World.size_alloc] at this
end Go.Proofs.YtepcogbfoemcmaaDoor
