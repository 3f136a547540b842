/-
  The walk of LabelLower: whatever text it is called with, it returns true. Conditions: the text lies within the form's own reach, and the library's variable MaxLen holds some number.
-/
import Derived.Test.YtpbjijjeglpakaaDoorLaw
namespace Go.Proofs.YtpbjijjeglpakaaDoor
open Go.RowKit

theorem lowB_lowB (s : ByteArray) : lowB (lowB s) = lowB s := by
  apply bytes_inj; rw [lowB_data, lowB_data, low_low]
theorem lower_again (s : ByteArray) (w : World) (he : Env w) (hs : s.size < 4294967281) :
    Calls Tryd.prog 12 #[.string (lowB s)] w fun e w' => e = .returned (.string (lowB s)) ∧ Below w.heap.size w w' ∧ Env w' := by
  have := lower_e (lowB s) w he (by rw [lowB_size]; exact hs)
  rw [lowB_lowB] at this
  exact this
theorem lowB_at (s : ByteArray) (k : Nat) (h : k < s.size) (h' : k < (lowB s).size) : (lowB s)[k] = lowc s[k] := by
  have e1 : (lowB s).data.toList[k]? = some (lowB s)[k] := Lib.data_getElem? _ k h'
  have e2 : s.data.toList[k]? = some s[k] := Lib.data_getElem? _ k h
  rw [lowB_data, low, List.getElem?_map, e2] at e1
  exact (Option.some.inj e1).symm

set_option maxRecDepth 100000 in
set_option maxHeartbeats 1000000 in
theorem labelLower_walk (s : ByteArray) (w : World) (he : Env w) (hs : s.size ≤ 140737488351232) :
    Calls Tryd.prog 4 #[.string s] w fun e w' => e = .returned (.bool true) ∧ Below w.heap.size w w' := by
  by_cases hl : s.size ≤ 600
  · have hsz := lowB_size s
    have hs' : s.size < 4294967281 := by omega
    go_enter Tryd.func4, Tryd.ntmps4
    go_wp2_with fail
    refine (fit_e w he).mono ?_; rintro e w1 ⟨rfl, hb1, he1⟩
    go_wp2_with fail
    have hb2 := hb1.alloc hb1.size (.cells #[.string s] 9)
    have he2 := he1.below ((Below.refl _ w1).alloc (Nat.le_refl _) (.cells #[.string s] 9))
    refine (light_1 s _ _ hs (by first | go_simp | simp)).mono ?_; rintro e w2 ⟨rfl, hw2⟩
    rw [decide_eq_true hl]
    rw [hw2] at hb2 he2
    clear hw2
    go_wp2_with fail
    refine (lower_e s _ he2 hs').mono ?_; rintro e w3 ⟨rfl, hb3, he3⟩
    go_wp2_with fail
    refine (lower_again s _ he3 hs').mono ?_; rintro e w4 ⟨rfl, hb4, he4⟩
    have hb : Below w.heap.size w w4 := (hb2.trans (hb3.mono hb2.size)).trans (hb4.mono (Nat.le_trans hb2.size hb3.size))
    go_wp2
    go_loop [4, 5, 27] (fun _ _ i => ∃ k : Nat, k ≤ s.size ∧ i = .int .i64 k) (fun _ _ i => s.size - (intOf i).toNat)
    case atStart => exact ⟨0, Nat.zero_le _, rfl⟩
    case round =>
      obtain ⟨k, hk, rfl⟩ := hrel
      by_cases hlt : k < s.size
      · have hlt' : k < (lowB s).size := by rw [lowB_size]; exact hlt
        have ht := lowB_at s k hlt hlt'
        by_cases h1 : 65 ≤ (s[k].toNat : Int)
        · by_cases h2 : (s[k].toNat : Int) ≤ 90
          · have hc : ((lowB s)[k].toNat : Int) = (s[k].toNat : Int) + 32 := by rw [ht, lowc_hit _ h1 h2]; omega
            clear ht
            go_wp2
            go_round
            case rel => exact ⟨k + 1, by omega, by go_num⟩
            case measure => simp [intOf]; omega
          · have hc : ((lowB s)[k].toNat : Int) = (s[k].toNat : Int) := by rw [ht, lowc_miss _ (by omega)]
            clear ht
            go_wp2
            go_round
            case rel => exact ⟨k + 1, by omega, by go_num⟩
            case measure => simp [intOf]; omega
        · have hc : ((lowB s)[k].toNat : Int) = (s[k].toNat : Int) := by rw [ht, lowc_miss _ (by omega)]
          clear ht
          go_wp2
          go_round
          case rel => exact ⟨k + 1, by omega, by go_num⟩
          case measure => simp [intOf]; omega
      · obtain rfl : k = s.size := by omega
        go_wp2
        go_ret
        exact ⟨rfl, hb⟩
  · go_enter Tryd.func4, Tryd.ntmps4
    go_wp2_with fail
    refine (fit_e w he).mono ?_; rintro e w1 ⟨rfl, hb1, he1⟩
    go_wp2_with fail
    refine (light_1 s _ _ hs (by first | go_simp | simp)).mono ?_; rintro e w2 ⟨rfl, rfl⟩
    rw [decide_eq_false hl]
    go_wp2
    go_ret
    exact ⟨rfl, hb1.alloc hb1.size _⟩
end Go.Proofs.YtpbjijjeglpakaaDoor
