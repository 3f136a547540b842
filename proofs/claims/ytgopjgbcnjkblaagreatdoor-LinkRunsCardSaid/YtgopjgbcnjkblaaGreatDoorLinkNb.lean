/-
  The walk of Neighbours. Conditions: the table is of the call's own.
-/
import Derived.Test.YtgopjgbcnjkblaaGreatDoorLinkThose
namespace Go.Proofs.YtgopjgbcnjkblaaGreatDoor
open Go.RowKit Go.Shelf

theorem dots_l (s : ByteArray) (w : World) :
    Calls Tryz.prog 23 #[.string s] w fun e w' => e = .returned (.int .i64 (s.data.toList.count 46 : Nat)) ∧ w = w' := by
  have C := Tryz.strings_Count_one s 46 w
  have hc : Lib.countByte s.data.toList 46 = s.data.toList.count 46 := rfl
  rw [hc] at C
  have hle : s.data.toList.count 46 ≤ s.size := by rw [Lib.size_eq]; exact List.count_le_length
  revert C hle
  generalize s.data.toList.count 46 = c
  intro C hle
  go_enter Tryz.func23, Tryz.ntmps23
  go_wp2_with (go_at_call 40; refine C.mono ?_; rintro e w' ⟨rfl, rfl⟩)
  go_ret
  exact ⟨rfl, rfl⟩
def NumPost (L : List Int) (w : World) (e : Ending) (w' : World) : Prop := ∃ v, e = .returned v ∧ w'.ownsRow w.heap.size 3 1 v L.length (ints L) ∧ Below w.heap.size w w'
end Go.Proofs.YtgopjgbcnjkblaaGreatDoor
