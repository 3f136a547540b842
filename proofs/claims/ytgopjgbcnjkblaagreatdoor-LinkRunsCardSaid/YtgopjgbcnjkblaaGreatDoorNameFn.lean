/-
  The walks of name's small functions: wide, Good, stands, Dots: what they answer for every text and every rune. Conditions: each states its own.
-/
import Derived.Test.YtgopjgbcnjkblaaGreatDoorJoin
import Derived.Test.YtgopjgbcnjkblaaGreatDoorNameRunes
import Derived.Lib.OthersKept
namespace Go.Proofs.YtgopjgbcnjkblaaGreatDoor
open Go.RowKit

def wideB (s : ByteArray) : Bool := s.data.toList.any fun c => decide (128 ≤ c.toNat)
theorem wideB_false {s : ByteArray} (h : wideB s = false) : asc s.data.toList := fun c hc => by
  have := List.any_eq_false.1 h c hc
  simp at this; exact this
theorem wideB_true {s : ByteArray} (h : wideB s = true) : ¬ asc s.data.toList := fun ha => by
  obtain ⟨c, hc, h1⟩ := List.any_eq_true.1 h
  have := ha c hc
  simp at h1; omega
theorem wide_hit {s : ByteArray} {k : Nat} (h : k < s.size) (h1 : 128 ≤ (s[k]'h).toNat) : wideB s = true :=
  List.any_eq_true.2 ⟨s[k], List.mem_of_getElem? (Lib.data_getElem? s k h), by simpa using h1⟩
theorem wide_none {s : ByteArray} {k : Nat} (hk : ¬ k < s.size) (h : ∀ j (hj : j < s.size), j < k → (s[j]'hj).toNat < 128) : wideB s = false := by
  refine List.any_eq_false.2 fun c hc => ?_
  obtain ⟨j, hj, e⟩ := List.getElem_of_mem hc
  have hj' : j < s.size := by rw [Lib.size_eq]; exact hj
  have h1 := h j hj' (by omega)
  have h2 := Lib.data_getElem? s j hj'
  rw [List.getElem?_eq_getElem hj] at h2
  have h3 := (Option.some.inj h2).symm.trans e
  rw [← h3]
  simp; omega
set_option maxRecDepth 100000 in
set_option maxHeartbeats 400000 in
theorem wide_any (s : ByteArray) (w : World) :
    Calls Tryz.prog 61 #[.string s] w fun e w' => e = .returned (.bool (wideB s)) ∧ Below w.heap.size w w' := by
  go_enter Tryz.func61, Tryz.ntmps61
  go_wp2
  go_loopw [4] (fun _ wr => ∃ pos : Nat, pos ≤ s.size ∧ wr = w.iter s pos ∧ Hid (∀ j (hj : j < s.size), j < pos → (s[j]'hj).toNat < 128)) (fun _ wr => s.size - wr.iterPos w.heap.size)
  case atStart => exact ⟨0, Nat.zero_le _, rfl, Lib.hid (fun j hj h => absurd h (Nat.not_lt_zero _))⟩
  case round =>
    obtain ⟨pos, hle, rfl, HA⟩ := hrel
    by_cases hp : pos < s.size
    · by_cases ha : (s[pos]'hp).toNat < 128
      · have hnx := fun ty => run_next_ascii (P := Tryz.prog) w s pos ty hp ha
        have hd : decide ((128 : Int) ≤ ((s[pos]'hp).toNat : Int)) = false := decide_eq_false (by omega)
        have HN : Hid (∀ j (hj : j < s.size), j < pos + 1 → (s[j]'hj).toNat < 128) := Lib.hid (fun j hj h => by
          by_cases e : j = pos
          · subst e; exact ha
          · exact HA.out j hj (by omega))
        go_wp2
        go_roundw
        case rel => exact ⟨pos + 1, by omega, rfl, HN⟩
        case measure => simp; omega
      · have hnx := fun ty => run_next_any (P := Tryz.prog) w s pos ty hp
        have hh := (decode_high s pos hp (by omega)).1
        have hd : decide ((128 : Int) ≤ ((Utf8.decode s pos).1 : Int)) = true := decide_eq_true (by omega)
        have R := Lib.hid (wide_hit hp (Nat.le_of_not_lt ha))
        go_wp2
        go_ret
        exact ⟨ret_bool R.out.symm, (Below.refl _ w).alloc (Nat.le_refl _) _⟩
    · have hnx := fun ty => run_next_end (P := Tryz.prog) w s pos ty hp
      have R := Lib.hid (wide_none hp HA.out)
      go_wp2
      go_ret
      exact ⟨ret_bool R.out.symm, (Below.refl _ w).alloc (Nat.le_refl _) _⟩

def gI (n : Int) : Bool := decide ((223 ≤ n ∧ n ≤ 255 ∧ n ≠ 247) ∨ (256 ≤ n ∧ n ≤ 311 ∧ n % 2 = 1) ∨ (945 ≤ n ∧ n ≤ 969) ∨ (1072 ≤ n ∧ n ≤ 1119))
theorem gI_iff (r : Nat) : gI r = true ↔ goodN r := by
  unfold gI goodN
  rw [decide_eq_true_iff]
  omega
set_option maxHeartbeats 400000 in
theorem good_any (n : Int) (w : World) : Calls Tryz.prog 84 #[.int .i32 n] w fun e w' => e = .returned (.bool (gI n)) ∧ w = w' := by
  by_cases h1 : 223 ≤ n
  all_goals by_cases h2 : n ≤ 255
  all_goals by_cases h3 : 256 ≤ n
  all_goals by_cases h4 : n ≤ 311
  all_goals by_cases h5 : 945 ≤ n
  all_goals by_cases h6 : n ≤ 969
  all_goals by_cases h7 : 1072 ≤ n
  all_goals by_cases h8 : n ≤ 1119
  all_goals first | (exfalso; omega) | skip
  all_goals
    go_enter Tryz.func84, Tryz.ntmps84
    go_wp2
    all_goals
      go_ret
      exact ⟨ret_bool (by rw [Bool.eq_iff_iff]; simp [gI]; try omega), rfl⟩

theorem stI_iff (r : Nat) : stI r = true ↔ stN r := by
  unfold stI stN
  rw [decide_eq_true_iff]
  omega
theorem rightB_iff (s : ByteArray) : rightB s = true ↔ RightL s.data.toList := by
  unfold rightB
  simp only [Bool.and_eq_true, decide_eq_true_eq, List.all_eq_true, bne_iff_ne]
  have hs := Lib.size_eq s
  constructor
  · rintro ⟨⟨⟨⟨h1, h2⟩, h3⟩, h4⟩, h5⟩
    refine ⟨by omega, by omega, fun c hc => (stI_iff _).1 (h3 c hc), ?_, ?_⟩
    · rw [List.head?_eq_getElem?]; exact h4
    · rw [List.getLast?_eq_getElem?, ← hs]; exact h5
  · intro h
    refine ⟨⟨⟨⟨by have := h.pos; omega, by have := h.len; omega⟩, fun c hc => (stI_iff _).2 (h.all c hc)⟩, ?_⟩, ?_⟩
    · have := h.head; rw [List.head?_eq_getElem?] at this; exact this
    · have := h.last; rw [List.getLast?_eq_getElem?, ← hs] at this; exact this
theorem encode_low {r : Nat} (h : r < 128) : (Utf8.encode (r : Int)).data.toList = [UInt8.ofNat r] := by
  rw [u8_eq (.inl (by omega)), u8_low h]
theorem encode_high {r : Nat} (h : 128 ≤ r) : ∃ c ∈ (Utf8.encode (r : Int)).data.toList, 128 ≤ c.toNat := by
  by_cases hr : okR r
  · have hl := u8_length r
    obtain ⟨c, hc⟩ := List.exists_mem_of_length_pos (show 0 < (u8 r).length by omega)
    exact ⟨c, by rw [u8_eq hr]; exact hc, u8_all_high h (okR_le hr) c hc⟩
  · have hv : Utf8.valid (r : Int) = false := by
      unfold okR at hr
      unfold Utf8.valid
      simp; omega
    refine ⟨239, ?_, by decide⟩
    unfold Utf8.encode
    simp only [hv, Bool.false_eq_true, if_false]
    decide
theorem right_rune {r : Nat} : rightB (Utf8.encode (r : Int)) = true ↔ stN r ∧ r ≠ 45 := by
  rw [rightB_iff]
  rcases Nat.lt_or_ge r 128 with h | h
  · rw [encode_low h]
    have e45 : UInt8.ofNat r = 45 ↔ r = 45 := by
      constructor
      · intro e
        have := congrArg UInt8.toNat e
        rw [nat8 (by omega)] at this
        exact this
      · rintro rfl; rfl
    constructor
    · intro hr
      have h1 := hr.all _ List.mem_cons_self
      rw [nat8 (by omega)] at h1
      refine ⟨h1, fun e => hr.head ?_⟩
      rw [e45.2 e]; rfl
    · rintro ⟨h1, h2⟩
      refine ⟨by simp, by simp, fun c hc => ?_, fun e => ?_, fun e => ?_⟩
      · rw [List.mem_singleton.1 hc, nat8 (by omega)]; exact h1
      · exact h2 (e45.1 (by simpa using e))
      · exact h2 (e45.1 (by simpa using e))
  · constructor
    · intro hr
      obtain ⟨c, hc, h1⟩ := encode_high h
      have := stN_lt (hr.all c hc)
      omega
    · rintro ⟨h1, _⟩
      have := stN_lt h1; omega
set_option maxHeartbeats 400000 in
theorem stands_yes (r : Nat) (w : World) (h : stR r) : Calls Tryz.prog 71 #[.int .i32 r] w fun e w' => e = .returned (.bool true) ∧ w = w' := by
  have hsz := encode_size_le (r : Int)
  by_cases hg : goodN r
  · have G := good_any r w
    rw [(gI_iff r).2 hg] at G
    clear h hg
    go_enter Tryz.func71, Tryz.ntmps71
    go_wp2_with (go_at_call 84; refine G.mono ?_; rintro e w' ⟨rfl, rfl⟩)
    go_ret
    exact ⟨rfl, rfl⟩
  · have G := good_any r w
    rw [show gI r = false by rw [Bool.eq_false_iff]; exact fun e => hg ((gI_iff r).1 e)] at G
    have hst : stN r := by rcases h with h | h; exact absurd h hg; exact h
    clear h hg
    by_cases h45 : r = 45
    · subst h45
      clear hst
      go_enter Tryz.func71, Tryz.ntmps71
      go_wp2_with (go_at_call 84; refine G.mono ?_; rintro e w' ⟨rfl, rfl⟩)
      go_ret
      exact ⟨rfl, rfl⟩
    · have R := right_any (Utf8.encode (r : Int)) w (by unfold maxLen; omega)
      rw [right_rune.2 ⟨hst, h45⟩] at R
      have h45' : ((r : Int) == 45) = false := by simp; omega
      clear hst h45
      go_enter Tryz.func71, Tryz.ntmps71
      go_wp2_with (first
        | (go_at_call 84; refine G.mono ?_; rintro e w' ⟨rfl, rfl⟩)
        | (go_at_call 63; refine R.mono ?_; rintro e w' ⟨rfl, rfl⟩))
      go_ret
      exact ⟨rfl, rfl⟩
set_option maxHeartbeats 400000 in
theorem stands_no (r : Nat) (w : World) (h : ¬ stR r) : Calls Tryz.prog 71 #[.int .i32 r] w fun e w' => e = .returned (.bool false) ∧ w = w' := by
  have hsz := encode_size_le (r : Int)
  have G := good_any r w
  rw [show gI r = false by rw [Bool.eq_false_iff]; exact fun e => h (.inl ((gI_iff r).1 e))] at G
  have R := right_any (Utf8.encode (r : Int)) w (by unfold maxLen; omega)
  rw [show rightB (Utf8.encode (r : Int)) = false by rw [Bool.eq_false_iff]; exact fun e => h (.inr (right_rune.1 e).1)] at R
  have h45' : ((r : Int) == 45) = false := by
    have : r ≠ 45 := fun e => h (.inr (by subst e; unfold stN; omega))
    simp; omega
  clear h
  go_enter Tryz.func71, Tryz.ntmps71
  go_wp2_with (first
    | (go_at_call 84; refine G.mono ?_; rintro e w' ⟨rfl, rfl⟩)
    | (go_at_call 63; refine R.mono ?_; rintro e w' ⟨rfl, rfl⟩))
  go_ret
  exact ⟨rfl, rfl⟩
end Go.Proofs.YtgopjgbcnjkblaaGreatDoor
