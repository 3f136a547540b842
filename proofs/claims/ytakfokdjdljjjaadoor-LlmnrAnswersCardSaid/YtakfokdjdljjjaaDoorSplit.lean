/-
  The walk of label.Split, and of label.Lower in any world: what they answer for every text; what was in memory before is as it was. Conditions: a text has fewer than 4294967281 bytes, and the library's variable MaxLen holds some number.
-/
import Derived.Test.YtakfokdjdljjjaaDoorLower
namespace Go.Proofs.YtakfokdjdljjjaaDoor
open Go.RowKit

/-- the library's variable MaxLen holds some number -/
def Env (w : World) : Prop := 0 < w.heap.size ∧ ∃ m : Int, w.cell? ⟨0, 0, none⟩ = some (.int .i64 m)
theorem Env.below {w w' : World} (h : Env w) (hb : Below w.heap.size w w') : Env w' :=
  ⟨Nat.lt_of_lt_of_le h.1 hb.size, h.2.imp fun _ hm => (hb.cell (p := ⟨0, 0, none⟩) h.1).trans hm⟩
/-- block b holds these texts -/
def Strs (w : World) (b : Nat) (xs : List ByteArray) : Prop := b < w.heap.size ∧ ∀ j, j < xs.length → w.cell? ⟨b, 0 + j, none⟩ = some (.string (xs.getD j ByteArray.empty))
theorem Strs.below {w w' : World} {b : Nat} {xs : List ByteArray} (h : Strs w b xs) (hb : Below w.heap.size w w') : Strs w' b xs :=
  ⟨Nat.lt_of_lt_of_le h.1 hb.size, fun j hj => (hb.cell (p := ⟨b, 0 + j, none⟩) h.1).trans (h.2 j hj)⟩

theorem lower_e (s : ByteArray) (w : World) (he : Env w) (hs : s.size < 4294967281) :
    Calls Tryd.prog 32 #[.string s] w fun e w' => e = .returned (.string (lowB s)) ∧ Below w.heap.size w w' ∧ Env w' :=
  (lower_any s w (by unfold maxLen; omega)).mono fun _ _ ⟨h1, h2⟩ => ⟨h1, h2, he.below h2⟩

theorem pieces_pos (s : ByteArray) : 0 < (pieces s).length := by rw [pieces_count]; omega

set_option maxHeartbeats 400000 in
theorem split_e (s : ByteArray) (w : World) (he : Env w) (hs : s.size < 4294967281) :
    Calls Tryd.prog 33 #[.string s] w fun e w' => ∃ b, e = .returned (.slice (some ⟨b, 0, none⟩) (pieces s).length (pieces s).length) ∧ Below w.heap.size w w' ∧ Env w' ∧ Strs w' b (pieces s) ∧ w.heap.size ≤ b := by
  obtain ⟨m, hm⟩ := he.2
  have hsp : Calls Tryd.prog 39 #[.string s, .string ⟨#[46]⟩] w fun e w' => e = .returned (.slice (some ⟨w.heap.size, 0, none⟩) (pieces s).length (pieces s).length) ∧ w' = w.alloc (.cells ((pieces s).map Value.string).toArray 9) := by
    rw [pieces_count]; exact Tryd.strings_Split s ⟨#[46]⟩ m w hs hm (by decide)
  have hpost : ∀ W, W = w.alloc (.cells ((pieces s).map Value.string).toArray 9) → Below w.heap.size w W ∧ Env W ∧ Strs W w.heap.size (pieces s) := fun W hW => by
    subst hW
    have hb : Below w.heap.size w (w.alloc (.cells ((pieces s).map Value.string).toArray 9)) := (Below.refl _ w).alloc (Nat.le_refl _) _
    refine ⟨hb, he.below hb, by rw [World.size_alloc]; omega, fun j hj => ?_⟩
    rw [Nat.zero_add]
    have := World.cell?_alloc_mark w ((pieces s).map Value.string).toArray 9 (0, 0) j
    refine this.trans ?_
    simp [List.getElem?_eq_getElem hj, List.getD]
  have HP := Lib.hid hpost
  clear hpost
  go_enter Tryd.func33, Tryd.ntmps33
  go_wp2_with (go_at_call 39; refine hsp.mono ?_; rintro e w' ⟨rfl, hw⟩; have HP' := Lib.hid (HP.out _ hw); clear hw)
  go_ret
  exact ⟨_, rfl, HP'.out.1, HP'.out.2.1, HP'.out.2.2, Nat.le_refl _⟩

theorem pieces_le (s : ByteArray) : (pieces s).length ≤ s.size + 2 := by
  rw [pieces_count, Lib.size_eq]; have h : Lib.countB s ⟨#[46]⟩ ≤ s.data.toList.length + 1 := Lib.count_le _ _; omega
end Go.Proofs.YtakfokdjdljjjaaDoor
