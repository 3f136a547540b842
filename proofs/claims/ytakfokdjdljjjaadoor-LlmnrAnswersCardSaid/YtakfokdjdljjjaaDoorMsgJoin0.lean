/-
  The walk of label.Join at a list of texts of the call's own, none of them among the cases. Conditions: each states its own.
-/
import Derived.Test.YtakfokdjdljjjaaDoorMsgTake
import Derived.Test.YtakfokdjdljjjaaDoorMsgName
import Derived.Laws.AppendOwnNone
namespace Go.Proofs.YtakfokdjdljjjaaDoor
open Go.RowKit

def svs (xs : List (List UInt8)) : List Value := xs.map fun x => .string (bs x)
set_option maxHeartbeats 1000000 in
theorem sjoin_nil (w : World) : Calls Tryd.prog 43 #[.slice none 0 0, .string ⟨#[46]⟩] w fun e w' => e = .returned (.string ⟨#[]⟩) ∧ Below w.heap.size w w' := by
  go_enter Tryd.func43, Tryd.ntmps43
  go_wp2_with fail
  go_ret
  exact ⟨rfl, by first | exact Below.refl _ _ | exact (Below.refl _ w).alloc (Nat.le_refl _) _⟩
set_option maxHeartbeats 1000000 in
theorem join_nil (w : World) : Calls Tryd.prog 37 #[.slice none 0 0] w fun e w' => e = .returned (.string ⟨#[]⟩) ∧ Below w.heap.size w w' := by
  go_enter Tryd.func37, Tryd.ntmps37
  go_wp2_with fail
  refine (sjoin_nil w).mono ?_; rintro e w' ⟨rfl, hb⟩
  go_wp2_with fail
  go_ret
  exact ⟨rfl, hb⟩
theorem join_own {base : Nat} {v : Value} (xs : List (List UInt8)) (w : World) (he : Env w) (h : w.ownsRow base 9 1 v xs.length (svs xs)) (hv : xs = [] → v = .slice none 0 0) (hx : xs.length ≤ 1000) (hl : (jn xs).length ≤ 100000) :
    Calls Tryd.prog 37 #[v] w fun e w' => e = .returned (.string (bs (jn xs))) ∧ Below w.heap.size w w' := by
  rcases h.2 with ⟨rfl, h0⟩ | ⟨g, cap, cur, rfl, hg, hh, hle, hm, hcs, htk⟩
  · obtain rfl := List.length_eq_zero_iff.1 h0
    exact join_nil w
  · rcases Nat.eq_zero_or_pos xs.length with h0 | h0
    · obtain rfl := List.length_eq_zero_iff.1 h0
      rw [hv rfl]; exact join_nil w
    · have hd : (xs.map bs).map (fun x => x.data.toList) = xs := by rw [List.map_map]; exact List.map_id' _
      have J := join_w (some ⟨g, 0, none⟩) cap xs.length (xs.map bs) w he (by simp) h0 (fun _ => ⟨g, 0, rfl, (Array.getElem?_eq_some_iff.1 hh).1, fun j hj => by
        rw [List.length_map] at hj
        have := h.cellAt (g := g) j (by omega)
        rw [Nat.zero_add, this]
        simp [svs, List.getD, List.getElem?_eq_getElem hj]⟩) hle hx (by rw [hd]; omega)
      rw [hd] at J
      exact J.mono fun e w' h => ⟨h.1, h.2.1⟩
end Go.Proofs.YtakfokdjdljjjaaDoor
