/-
  Same of two messages without records that say the same. No condition.
-/
import Derived.Test.YtogojnlfglbefaaDoorMsgMg1
namespace Go.Proofs.YtogojnlfglbefaaDoor
open Go.RowKit

set_option maxRecDepth 100000 in
set_option maxHeartbeats 4000000 in
theorem same_nil (D ty : Nat) (S : ByteArray) (A1 A2 : Option Addr) (c1 c2 : Nat) (w : World) : Calls Tryd.prog 17 #[.agg #[.int .i64 (D : Nat), .bool true, .bool false, .bool false, .int .i64 0, .string S, .int .i64 (ty : Nat), .slice A1 0 c1, .slice A2 0 c2], .agg (cpC D S ty)] w fun e w' => e = .returned (.bool true) ∧ Below w.heap.size w w' := by
  unfold cpC
  go_enter Tryd.func17, Tryd.ntmps17
  go_wp2_with fail
  go_loopw [68, 5] (fun i _ wr => i = .int .i64 0 ∧ wr = (w.alloc (.cells #[.int .i64 (D : Nat), .bool true, .bool false, .bool false, .int .i64 0, .string S, .int .i64 (ty : Nat), .slice A1 0 c1, .slice A2 0 c2] 29)).alloc (.cells (cpC D S ty) 29)) (fun _ _ _ => 0)
  case atStart => exact ⟨rfl, rfl⟩
  case round =>
    obtain ⟨rfl, rfl⟩ := hrel
    unfold cpC
    go_wp2_with fail
    go_loopw [86, 6] (fun i _ wr => i = .int .i64 0 ∧ wr = (w.alloc (.cells #[.int .i64 (D : Nat), .bool true, .bool false, .bool false, .int .i64 0, .string S, .int .i64 (ty : Nat), .slice A1 0 c1, .slice A2 0 c2] 29)).alloc (.cells (cpC D S ty) 29)) (fun _ _ _ => 0)
    case atStart => exact ⟨rfl, rfl⟩
    case round =>
      obtain ⟨rfl, rfl⟩ := hrel
      unfold cpC
      go_wp2_with fail
      go_ret
      exact ⟨rfl, ((Below.refl _ w).alloc (Nat.le_refl _) _).alloc (by simp) _⟩
end Go.Proofs.YtogojnlfglbefaaDoor
