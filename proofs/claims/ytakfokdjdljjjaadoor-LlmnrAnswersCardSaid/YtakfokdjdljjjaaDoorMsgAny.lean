/-
  What msg.Decode answers for any bytes; that a message without anything is the same as itself. Condition: the library's variable MaxLen holds some number; the bytes lie in memory.
-/
import Derived.Test.YtakfokdjdljjjaaDoorMsgBad
import Derived.Test.YtakfokdjdljjjaaDoorMsgRecAll
import Derived.Test.YtakfokdjdljjjaaDoorMsgGood
namespace Go.Proofs.YtakfokdjdljjjaaDoor
open Go.RowKit

/-- what Decode answers, whatever the bytes -/
def AnyPost (w : World) (b : List UInt8) (e : Ending) (w' : World) : Prop :=
  Below w.heap.size w w' ∧ (e = .returned (.tuple #[.agg zMsg, .int .i64 4]) ∨ ∃ m : MV, m.id = (hd b 0 : Nat) ∧ m.an.length = hd b 3 ∧ m.Fits ∧ m.Lies w' ∧ mvOk m = true ∧ e = .returned (.tuple #[.agg m.cells, .int .i64 0]))
theorem decode_any (A : Option Addr) (c : Nat) (b : List UInt8) (w : World) (he : Env w) (hin : InB w w.heap.size A b) (hc : b.length ≤ c) (hl : b.length ≤ 140737488351232) (hn : A = none → c = 0) :
    Calls Tryd.prog 10 #[.slice A b.length c] w (AnyPost w b) := by
  have HR := fun (W : World) (base g' : Nat) (o' : Option Nat) (hE : Env W) (hB : 0 < base) (h : RSt base W g' A c b o') => recordP base g' c A b o' W hE hB h
  by_cases hbad : 12 ≤ b.length → bits BinOp.and .i64 (hd b 1 : Nat) 30720 ≠ 0 ∨ hd b 2 ≠ 1 ∨ 32 < max (hd b 3) (hd b 4)
  · exact (decode_head A c b w he hin hc hl hn hbad).mono fun e w' h => ⟨h.2, .inl h.1⟩
  · have h12 : 12 ≤ b.length := Classical.byContradiction fun h => hbad fun h' => absurd h' h
    have h3 : ¬ (bits BinOp.and .i64 (hd b 1 : Nat) 30720 ≠ 0 ∨ hd b 2 ≠ 1 ∨ 32 < max (hd b 3) (hd b 4)) := fun h => hbad fun _ => h
    rw [not_or, not_or] at h3
    obtain ⟨h4, h5, h6⟩ := h3
    have hop := Classical.not_not.1 h4
    have hq1 := Classical.not_not.1 h5
    cases hq : qF b 12 with
    | none => exact (decode_bad A c b w he hin hc hl hn h12 hop hq1 (by omega) HR (by rw [hq]; rfl)).mono fun e w' h => ⟨h.2, .inl h.1⟩
    | some q =>
      cases hr : recsF b q.2 (hd b 3 + hd b 4) with
      | none => exact (decode_bad A c b w he hin hc hl hn h12 hop hq1 (by omega) HR (by rw [hq]; exact hr)).mono fun e w' h => ⟨h.2, .inl h.1⟩
      | some l =>
        refine (decode_good A c b w he hin hc hl hn h12 hop hq1 (by omega) HR hq hr).mono ?_
        rintro e w' ⟨hb, m, h1, _, _, h2, _, hf, _, _, _, _, ⟨hk, rfl, hs⟩ | ⟨_, rfl⟩⟩
        · refine ⟨hb, .inr ⟨m, h1, ?_, hf, hs, hk, rfl⟩⟩
          rw [h2, List.length_map, List.length_take, (recsF_fits hl hr).2]
          omega
        · exact ⟨hb, .inl rfl⟩
set_option maxRecDepth 100000 in
set_option maxHeartbeats 4000000 in
theorem same_zero (w : World) : Calls Tryd.prog 12 #[.agg zMsg, .agg zMsg] w fun e w' => e = .returned (.bool true) ∧ Below w.heap.size w w' := by
  unfold zMsg
  go_enter Tryd.func12, Tryd.ntmps12
  go_wp2_with fail
  go_loopw [68, 5] (fun i _ wr => i = .int .i64 0 ∧ wr = (w.alloc (.cells zMsg 31)).alloc (.cells zMsg 31)) (fun _ _ _ => 0)
  case atStart => exact ⟨rfl, rfl⟩
  case round =>
    obtain ⟨rfl, rfl⟩ := hrel
    unfold zMsg
    go_wp2_with fail
    go_loopw [86, 6] (fun i _ wr => i = .int .i64 0 ∧ wr = (w.alloc (.cells zMsg 31)).alloc (.cells zMsg 31)) (fun _ _ _ => 0)
    case atStart => exact ⟨rfl, rfl⟩
    case round =>
      obtain ⟨rfl, rfl⟩ := hrel
      unfold zMsg
      go_wp2_with fail
      go_ret
      exact ⟨rfl, ((Below.refl _ w).alloc (Nat.le_refl _) _).alloc (by simp) _⟩
end Go.Proofs.YtakfokdjdljjjaaDoor
