/-
  The walk of label.Count: what it answers for every text. Conditions: the length that it states, and the library's variable MaxLen holds some number.
-/
import Derived.Test.YtgopjgbcnjkblaaGreatDoorJoin
namespace Go.Proofs.YtgopjgbcnjkblaaGreatDoor
open Go.RowKit

/-- how many labels a domain has -/
def cntB (s : ByteArray) : Nat := if s.toList == [46] then 0 else (pieces s).length
set_option maxHeartbeats 400000 in
theorem count_e (s : ByteArray) (w : World) (he : Env w) (hs : s.size < 4294967281) :
    Calls Tryz.prog 22 #[.string s] w fun e w' => e = .returned (.int .i64 (cntB s)) ∧ Below w.heap.size w w' ∧ Env w' := by
  cases hd : (s.toList == [46])
  · have HD := Lib.hid (show cntB s = (pieces s).length by unfold cntB; rw [hd]; rfl)
    go_enter Tryz.func22, Tryz.ntmps22
    go_wp2_with fail
    refine (split_e s w he hs).mono ?_; rintro e w1 ⟨b, rfl, hb1, he1, hs1, hg1⟩
    go_wp2
    go_ret
    exact ⟨by rw [HD.out]; rfl, hb1, he1⟩
  · have HD := Lib.hid (show cntB s = 0 by unfold cntB; rw [hd]; rfl)
    go_enter Tryz.func22, Tryz.ntmps22
    go_wp2
    go_ret
    exact ⟨by rw [HD.out]; rfl, Below.refl _ _, he⟩

end Go.Proofs.YtgopjgbcnjkblaaGreatDoor
