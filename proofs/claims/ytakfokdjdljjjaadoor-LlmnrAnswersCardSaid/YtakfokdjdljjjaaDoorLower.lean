/-
  The walk of label.Lower: for every text it answers the text with its capitals turned small, and what was in memory before is as it was. Condition: the text is no longer than the model lets a text be.
-/
import Derived.Test.YtakfokdjdljjjaaDoorRight
import Derived.Laws.IdiomStrings
import Derived.Lib.SlBytesRow
namespace Go.Proofs.YtakfokdjdljjjaaDoor
open Go.RowKit

theorem lowc_hit (b : UInt8) (h1 : 65 ≤ (b.toNat : Int)) (h2 : (b.toNat : Int) ≤ 90) : ((lowc b).toNat : Int) = (b.toNat : Int) - 65 + 97 := by
  have h : ∀ k : Fin 256, 65 ≤ k.val → k.val ≤ 90 → (lowc (UInt8.ofNat k.val)).toNat = k.val + 32 := by decide +kernel
  have := h ⟨b.toNat, b.toNat_lt⟩ (by simp only; omega) (by simp only; omega)
  simp only [UInt8.ofNat_toNat] at this
  omega
theorem lowc_miss (b : UInt8) (h : (b.toNat : Int) < 65 ∨ 90 < (b.toNat : Int)) : lowc b = b := by
  have h' : ∀ k : Fin 256, k.val < 65 ∨ 90 < k.val → lowc (UInt8.ofNat k.val) = UInt8.ofNat k.val := by decide +kernel
  have := h' ⟨b.toNat, b.toNat_lt⟩ (by simp only; omega)
  simpa using this

/-- how memory stands in the loop's round k: the new row's first k bytes are turned -/
structure LowAt (w wr : World) (s : ByteArray) (k : Nat) : Prop where
  below : Below w.heap.size w wr
  more : w.heap.size < wr.heap.size
  cells : ∀ j (_ : j < s.size), wr.cell? ⟨w.heap.size, j, none⟩ = some (.int .u8 (if j < k then (lowc s[j]).toNat else s[j].toNat))
  free : ∀ j (_ : j < s.size), wr.frozen? ⟨w.heap.size, j, none⟩ = false

theorem lowAt_start (w : World) (s : ByteArray) (cap : Nat) (t : TypeId) : LowAt w (w.alloc (.cells (bytesRow s cap) t ((bytesRow s cap).size, (bytesRow s cap).size + 1))).drew s 0 := by
  refine ⟨((Below.refl _ w).alloc (Nat.le_refl _) _).drew, ?_, fun j hj => ?_, fun j hj => ?_⟩
  · show w.heap.size < (w.alloc _).heap.size
    rw [World.size_alloc]; omega
  · show (w.alloc _).cell? _ = _
    rw [World.cell?_alloc_mark, bytesRow_at s _ j hj, if_neg (Nat.not_lt_zero j)]; rfl
  · show (w.alloc _).frozen? _ = _
    rw [World.frozen?_alloc_mark]
    have : s.size ≤ (bytesRow s cap).size := by rw [bytesRow, Array.size_append, Array.size_map]; exact Nat.le_add_right _ _
    rw [decide_eq_false (by omega)]; rfl
theorem lowAt_keep {w wr : World} {s : ByteArray} {k : Nat} (h : LowAt w wr s k) (hk : k < s.size) (hc : (s[k].toNat : Int) < 65 ∨ 90 < (s[k].toNat : Int)) : LowAt w wr s (k + 1) :=
  ⟨h.below, h.more, fun j hj => by
    rw [h.cells j hj]
    by_cases e : j = k
    · subst e; rw [if_neg (Nat.lt_irrefl j), if_pos (Nat.lt_succ_self j), lowc_miss _ hc]
    · by_cases l : j < k
      · rw [if_pos l, if_pos (by omega)]
      · rw [if_neg l, if_neg (by omega)], h.free⟩
theorem lowAt_set {w wr : World} {s : ByteArray} {k : Nat} (h : LowAt w wr s k) (hk : k < s.size) (h1 : 65 ≤ (s[k].toNat : Int)) (h2 : (s[k].toNat : Int) ≤ 90) : LowAt w (wr.setCell ⟨w.heap.size, k, none⟩ (.int .u8 ((s[k].toNat : Int) - 65 + 97))) s (k + 1) :=
  ⟨h.below.setCell (Nat.le_refl _) _, by rw [World.size_setCell]; exact h.more, fun j hj => by
    by_cases e : j = k
    · subst e
      rw [World.cell?_setCell_same (h := h.cells j hj), if_pos (Nat.lt_succ_self j), lowc_hit _ h1 h2]
    · rw [World.cell?_setCell_other (h := by intro e'; injection e' with _ e' _; omega), h.cells j hj]
      by_cases l : j < k
      · rw [if_pos l, if_pos (by omega)]
      · rw [if_neg l, if_neg (by omega)], fun j hj => by rw [World.frozen?_setCell]; exact h.free j hj⟩
theorem lowAt_end {w wr : World} {s : ByteArray} (h : LowAt w wr s s.size) (cap : Nat) : (convert 32 9 (.slice (some ⟨w.heap.size, 0, none⟩) s.size cap)).run Tryd.prog wr = .ok (.string (lowB s)) wr := by
  have hl : (low s.data.toList).length = s.size := by rw [low_length, ← Lib.size_eq]
  have := run_convert_bytes_back (P := Tryd.prog) wr 32 9 5 ⟨w.heap.size, 0, none⟩ cap (low s.data.toList) Tryd.underlying32 Tryd.underlying5 Tryd.underlying9 (fun j hj => by
    have hj' : j < s.size := by omega
    rw [Addr.add_lit, Nat.zero_add, h.cells j hj', if_pos hj']
    congr 2
    have e : (low s.data.toList)[j] = lowc s[j] := by
      have e1 : (low s.data.toList)[j]? = some (lowc s[j]) := by unfold low; rw [List.getElem?_map, Lib.data_getElem? s j hj']; rfl
      rw [List.getElem?_eq_getElem hj] at e1
      exact Option.some.inj e1
    rw [e])
  rw [hl] at this
  exact this

set_option maxHeartbeats 400000 in
theorem lower_any (s : ByteArray) (w : World) (hs : s.size ≤ maxLen) :
    Calls Tryd.prog 32 #[.string s] w fun e w' => e = .returned (.string (lowB s)) ∧ Below w.heap.size w w' := by
  unfold maxLen at hs
  have hcv2 := fun w s => run_bytes_of_string (P := Tryd.prog) w 9 32 5 s Tryd.underlying9 Tryd.underlying32 Tryd.underlying5
  go_enter Tryd.func32, Tryd.ntmps32
  go_wp2
  generalize grownCap w s.size 0 5 = cap
  clear hcv2
  go_loopw [10, 4, 5] (fun i _ _ wr => ∃ k : Nat, k ≤ s.size ∧ i = .int .i64 k ∧ LowAt w wr s k) (fun i _ _ _ => s.size - (intOf i).toNat)
  case atStart => exact ⟨0, Nat.zero_le _, rfl, lowAt_start w s cap _⟩
  case round =>
    obtain ⟨k, hk, rfl, hat⟩ := hrel
    by_cases hlt : k < s.size
    · have c0 : wr.cell? ⟨w.heap.size, k, none⟩ = some (.int .u8 s[k].toNat) := by rw [hat.cells k hlt, if_neg (Nat.lt_irrefl k)]
      have f0 := hat.free k hlt
      have H := Lib.hid hat
      clear hat
      go_wp2
      all_goals
        go_roundw
        case rel => exact ⟨k + 1, by omega, by go_num, by first | exact lowAt_set H.out hlt (by assumption) (by assumption) | exact lowAt_keep H.out hlt (by omega)⟩
        case measure => simp [intOf]; omega
    · obtain rfl : k = s.size := by omega
      have hcv := lowAt_end hat cap
      have H := Lib.hid hat.below
      clear hat
      go_wp2
      go_ret
      exact ⟨rfl, H.out⟩
end Go.Proofs.YtakfokdjdljjjaaDoor
