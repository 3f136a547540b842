/-
  The walks of puny's small functions: threshold, adapt, digit, wrong, beyond. Conditions: each states its own.
-/
import Derived.Test.YtgopjgbcnjkblaaGreatDoorShelf
import Derived.Test.YtgopjgbcnjkblaaGreatDoorPunyMath
import Derived.WalkKit
import Derived.ProofKit
import Derived.Outline
import Derived.WalkLawsBesides
import Derived.WalkSpells
import Derived.Lib.Hide
namespace Go.Proofs.YtgopjgbcnjkblaaGreatDoor
open Go.RowKit

theorem ret_i64 {a b : Int} (h : a = b) : Ending.returned (.int .i64 a) = .returned (.int .i64 b) := by rw [h]
theorem ret_b {a b : Bool} (h : a = b) : Ending.returned (.bool a) = .returned (.bool b) := by rw [h]

set_option maxHeartbeats 400000 in
theorem thr_any (k b : Nat) (w : World) (hk : k ≤ 1000000000000) (hb : b ≤ 1000000000000) :
    Calls Tryz.prog 99 #[.int .i64 k, .int .i64 b] w fun e w' => e = .returned (.int .i64 (thr k b)) ∧ w = w' := by
  go_enter Tryz.func99, Tryz.ntmps99
  go_wp2
  all_goals
    go_ret
    exact ⟨ret_i64 (by unfold thr; omega), rfl⟩

theorem ad0_cast (delta count : Nat) (d : Int) (first : Bool) (h : d = ((if first then delta / 700 else delta / 2 : Nat) : Int)) : d + d / (count : Int) = ((ad0 delta count first : Nat) : Int) := by
  subst h; unfold ad0; simp
theorem ad0_le (delta count : Nat) (first : Bool) : ad0 delta count first ≤ delta := by
  unfold ad0
  have h3 : ∀ x : Nat, x / count ≤ x := fun x => Nat.div_le_self _ _
  split
  · have := h3 (delta / 700); omega
  · have := h3 (delta / 2); omega
/-- how adapt's loop stands -/
def AdAt (delta count : Nat) (first : Bool) (x y : Value) : Prop := ∃ d k : Nat, x = .int .i64 d ∧ y = .int .i64 k ∧ adl d k = adp delta count first ∧ k + 36 * d ≤ 36000000000000
theorem AdAt.start {delta count : Nat} {first : Bool} {d : Int} (hd : delta ≤ 1000000000000) (h : d = ((if first then delta / 700 else delta / 2 : Nat) : Int)) : AdAt delta count first (.int .i64 (d + d / (count : Int))) (.int .i64 0) :=
  ⟨ad0 delta count first, 0, by rw [ad0_cast _ _ _ _ h], rfl, rfl, by have := ad0_le delta count first; omega⟩
set_option maxHeartbeats 1000000 in
theorem adp_true (delta count : Nat) (w : World) (hd : delta ≤ 1000000000000) (hc : 1 ≤ count) (hc2 : count ≤ 1000000) :
    Calls Tryz.prog 90 #[.int .i64 delta, .int .i64 count, .bool true] w fun e w' => e = .returned (.int .i64 (adp delta count true)) ∧ w = w' := by
  have b1 : 0 ≤ ((delta : Int) / 700) / (count : Int) := Int.ediv_nonneg (by omega) (by omega)
  have b2 : ((delta : Int) / 700) / (count : Int) ≤ (delta : Int) / 700 := Int.ediv_le_self _ (by omega)
  go_enter Tryz.func90, Tryz.ntmps90
  go_wp2
  go_loop [0, 7] (fun x y => AdAt delta count true x y) (fun x _ => (intOf x).toNat)
  case atStart => exact AdAt.start hd (by rw [if_pos rfl]; omega)
  case round =>
    obtain ⟨d, k, rfl, rfl, hk, hb⟩ := hrel
    have H := Lib.hid hk; clear hk
    clear b1 b2
    by_cases h : 455 < d
    · go_wp2
      go_round
      case rel => exact ⟨d / 35, k + 36, by simp, by go_num, by rw [← adl_go k h]; exact H.out, by omega⟩
      case measure => simp [intOf]; omega
    · have c1 : 0 ≤ 36 * (d : Int) / ((d : Int) + 38) := Int.ediv_nonneg (by omega) (by omega)
      have c2 : 36 * (d : Int) / ((d : Int) + 38) ≤ 36 * (d : Int) := Int.ediv_le_self _ (by omega)
      go_wp2
      go_ret
      exact ⟨ret_i64 (by rw [← H.out, adl_end k h]; simp), rfl⟩

set_option maxHeartbeats 1000000 in
theorem adp_false (delta count : Nat) (w : World) (hd : delta ≤ 1000000000000) (hc : 1 ≤ count) (hc2 : count ≤ 1000000) :
    Calls Tryz.prog 90 #[.int .i64 delta, .int .i64 count, .bool false] w fun e w' => e = .returned (.int .i64 (adp delta count false)) ∧ w = w' := by
  have b1 : 0 ≤ ((delta : Int) / 2) / (count : Int) := Int.ediv_nonneg (by omega) (by omega)
  have b2 : ((delta : Int) / 2) / (count : Int) ≤ (delta : Int) / 2 := Int.ediv_le_self _ (by omega)
  go_enter Tryz.func90, Tryz.ntmps90
  go_wp2
  go_loop [0, 7] (fun x y => AdAt delta count false x y) (fun x _ => (intOf x).toNat)
  case atStart => exact AdAt.start hd (by rw [if_neg (by decide)]; omega)
  case round =>
    obtain ⟨d, k, rfl, rfl, hk, hb⟩ := hrel
    have H := Lib.hid hk; clear hk
    clear b1 b2
    by_cases h : 455 < d
    · go_wp2
      go_round
      case rel => exact ⟨d / 35, k + 36, by simp, by go_num, by rw [← adl_go k h]; exact H.out, by omega⟩
      case measure => simp [intOf]; omega
    · have c1 : 0 ≤ 36 * (d : Int) / ((d : Int) + 38) := Int.ediv_nonneg (by omega) (by omega)
      have c2 : 36 * (d : Int) / ((d : Int) + 38) ≤ 36 * (d : Int) := Int.ediv_le_self _ (by omega)
      go_wp2
      go_ret
      exact ⟨ret_i64 (by rw [← H.out, adl_end k h]; simp), rfl⟩

theorem adp_any (delta count : Nat) (first : Bool) (w : World) (hd : delta ≤ 1000000000000) (hc : 1 ≤ count) (hc2 : count ≤ 1000000) :
    Calls Tryz.prog 90 #[.int .i64 delta, .int .i64 count, .bool first] w fun e w' => e = .returned (.int .i64 (adp delta count first)) ∧ w = w' := by
  cases first
  · exact adp_false delta count w hd hc hc2
  · exact adp_true delta count w hd hc hc2

def dgI (n : Nat) : Int := if dgN n = 36 then -1 else (dgN n : Int)
set_option maxHeartbeats 400000 in
theorem digit_any (c : UInt8) (w : World) :
    Calls Tryz.prog 108 #[.int .u8 c.toNat] w fun e w' => e = .returned (.int .i64 (dgI c.toNat)) ∧ w = w' := by
  have hc : c.toNat < 256 := c.toNat_lt
  revert hc
  generalize c.toNat = n
  intro hc
  by_cases h1 : 97 ≤ n
  all_goals by_cases h2 : n ≤ 122
  all_goals by_cases h3 : 65 ≤ n
  all_goals by_cases h4 : n ≤ 90
  all_goals by_cases h5 : 48 ≤ n
  all_goals by_cases h6 : n ≤ 57
  all_goals first | (exfalso; omega) | skip
  all_goals
    go_enter Tryz.func108, Tryz.ntmps108
    go_wp2
    go_ret
    refine ⟨ret_i64 ?_, rfl⟩
    unfold dgI dgN
    repeat' split
    all_goals omega

theorem okR_iff (r : Nat) : Lib.validRune r = true ↔ okR r := by
  unfold okR Lib.validRune; simp; omega
set_option maxHeartbeats 400000 in
theorem wrong_any (r : Int) (w : World) :
    Calls Tryz.prog 86 #[.int .i32 r] w fun e w' => e = .returned (.bool (!Lib.validRune r)) ∧ w = w' := by
  go_enter Tryz.func86, Tryz.ntmps86
  go_wp2_with fail
  refine (Tryz.utf8_ValidRune _ _).mono ?_; rintro e w' ⟨rfl, rfl⟩
  go_wp2
  go_ret
  exact ⟨ret_b rfl, rfl⟩
set_option maxHeartbeats 400000 in
theorem beyond_any (r : Int) (w : World) :
    Calls Tryz.prog 107 #[.int .i32 r] w fun e w' => e = .returned (.bool (decide (128 ≤ r))) ∧ w = w' := by
  go_enter Tryz.func107, Tryz.ntmps107
  go_wp2
  go_ret
  exact ⟨ret_b rfl, rfl⟩
end Go.Proofs.YtgopjgbcnjkblaaGreatDoor
