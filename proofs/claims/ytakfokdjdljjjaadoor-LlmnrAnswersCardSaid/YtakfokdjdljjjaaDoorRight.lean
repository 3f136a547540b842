/-
  The walks of label.stands and label.Right: what they answer for every byte and every text. Condition: the text is no longer than the model lets a text be.
-/
import Derived.Test.YtakfokdjdljjjaaDoorShelf
import Derived.Test.YtakfokdjdljjjaaDoorMath
import Derived.WalkKit
import Derived.ProofKit
import Derived.Outline
import Derived.Lib.IndexBytes
import Derived.WalkLawsBesides
import Derived.WalkSpells
import Derived.Lib.Hide
namespace Go.Proofs.YtakfokdjdljjjaaDoor
open Go.RowKit

def stI (n : Int) : Bool := decide ((65 ≤ n ∧ n ≤ 90) ∨ (97 ≤ n ∧ n ≤ 122) ∨ (48 ≤ n ∧ n ≤ 57) ∨ n = 45 ∨ n = 95)
theorem ret_bool {a b : Bool} (h : a = b) : Ending.returned (.bool a) = .returned (.bool b) := by rw [h]

set_option maxHeartbeats 400000 in
theorem stands_any (n : Int) (w : World) : Calls Tryd.prog 40 #[.int .u8 n] w fun e w' => e = .returned (.bool (stI n)) ∧ w = w' := by
  by_cases h1 : 65 ≤ n
  all_goals by_cases h2 : n ≤ 90
  all_goals by_cases h3 : 97 ≤ n
  all_goals by_cases h4 : n ≤ 122
  all_goals by_cases h5 : 48 ≤ n
  all_goals by_cases h6 : n ≤ 57
  all_goals first | (exfalso; omega) | skip
  all_goals
    go_enter Tryd.func40, Tryd.ntmps40
    go_wp2
    all_goals
      go_ret
      exact ⟨ret_bool (by rw [Bool.eq_iff_iff]; simp [stI]; try omega), rfl⟩

/-- may it be a label? -/
def rightB (s : ByteArray) : Bool := decide (1 ≤ s.size) && decide (s.size ≤ 63) && s.data.toList.all (fun c => stI c.toNat) && (s.data.toList[0]? != some 45) && (s.data.toList[s.size - 1]? != some 45)

theorem take_snoc (s : ByteArray) (k : Nat) (h : k < s.size) : s.data.toList.take (k + 1) = s.data.toList.take k ++ [s[k]] := by
  rw [List.take_succ_eq_append_getElem (by simpa using h)]; rfl
theorem all_next (s : ByteArray) (k : Nat) (h : k < s.size) (ha : (s.data.toList.take k).all (fun c => stI c.toNat) = true) (hb : stI s[k].toNat = true) : (s.data.toList.take (k + 1)).all (fun c => stI c.toNat) = true := by
  rw [take_snoc s k h, List.all_append, ha]; simp [hb]
theorem right_short {s : ByteArray} (h : ¬ 1 ≤ s.size) : rightB s = false := by unfold rightB; rw [decide_eq_false h]; simp
theorem right_long {s : ByteArray} (h : ¬ s.size ≤ 63) : rightB s = false := by unfold rightB; rw [decide_eq_false h]; simp
theorem right_bad {s : ByteArray} (k : Nat) (h : k < s.size) (hb : stI s[k].toNat = false) : rightB s = false := by
  have : s.data.toList.all (fun c => stI c.toNat) = false := by
    rw [List.all_eq_false]
    exact ⟨s[k], List.mem_of_getElem? (Lib.data_getElem? s k h), by simp [hb]⟩
  unfold rightB; rw [this]; simp
theorem byte_ne (b : UInt8) : ((b.toNat : Int) != 45) = (b != 45) := by
  rw [Bool.eq_iff_iff, bne_iff_ne, bne_iff_ne]
  constructor
  · intro h e; subst e; exact h rfl
  · intro h e; apply h; apply UInt8.toNat_inj.1; show b.toNat = 45; omega
theorem right_end {s : ByteArray} (h1 : 1 ≤ s.size) (h2 : s.size ≤ 63) (ha : (s.data.toList.take s.size).all (fun c => stI c.toNat) = true) : rightB s = (((s[0].toNat : Int) != 45) && ((s[s.size - 1].toNat : Int) != 45)) := by
  have e : s.data.toList.take s.size = s.data.toList := List.take_of_length_le (by rw [← Lib.size_eq]; exact Nat.le_refl _)
  rw [e] at ha
  unfold rightB
  rw [decide_eq_true h1, decide_eq_true h2, ha, Lib.data_getElem? s 0 (by omega), Lib.data_getElem? s (s.size - 1) (by omega), byte_ne, byte_ne]
  simp [bne]

set_option maxHeartbeats 400000 in
theorem right_any (s : ByteArray) (w : World) (hs : s.size ≤ maxLen) :
    Calls Tryd.prog 34 #[.string s] w fun e w' => e = .returned (.bool (rightB s)) ∧ w = w' := by
  unfold maxLen at hs
  by_cases h1 : 1 ≤ s.size
  · by_cases h2 : s.size ≤ 63
    · have e1 : decide ((s.size : Int) < 1) = false := decide_eq_false (by omega)
      have e2 : decide ((63 : Int) < (s.size : Int)) = false := decide_eq_false (by omega)
      have e3 : 0 < s.size := h1
      have e4 : s.size - 1 < s.size := by omega
      go_enter Tryd.func34, Tryd.ntmps34
      go_wp2
      go_loop [14, 3] (fun i j => ∃ k : Nat, k ≤ s.size ∧ i = .int .i64 k ∧ (s.data.toList.take k).all (fun c => stI c.toNat) = true) (fun i _ => s.size - (intOf i).toNat)
      case atStart => exact ⟨0, Nat.zero_le _, rfl, rfl⟩
      case round =>
        obtain ⟨k, hk, rfl, hall⟩ := hrel
        have HA := Lib.hid hall; clear hall
        by_cases hlt : k < s.size
        · by_cases hst : stI s[k].toNat = true
          · go_wp2_with (go_at_call 40; refine (stands_any _ _).mono ?_; rintro e w' ⟨rfl, rfl⟩)
            go_round
            case rel => exact ⟨k + 1, by omega, by go_num, all_next s k hlt HA.out hst⟩
            case measure => simp [intOf]; omega
          · go_wp2_with (go_at_call 40; refine (stands_any _ _).mono ?_; rintro e w' ⟨rfl, rfl⟩)
            go_ret
            exact ⟨ret_bool (right_bad k hlt (by simpa using hst)).symm, rfl⟩
        · obtain rfl : k = s.size := by omega
          have R := Lib.hid (right_end h1 h2 HA.out)
          go_wp2
          all_goals
            go_ret
            exact ⟨ret_bool (by rw [R.out] <;> simp [*]), rfl⟩
    · have R := Lib.hid (right_long h2)
      have e2 : decide ((63 : Int) < (s.size : Int)) = true := decide_eq_true (by omega)
      have e1 : decide ((s.size : Int) < 1) = false := decide_eq_false (by omega)
      go_enter Tryd.func34, Tryd.ntmps34
      go_wp2
      go_ret
      exact ⟨ret_bool R.out.symm, rfl⟩
  · have R := Lib.hid (right_short h1)
    have e1 : decide ((s.size : Int) < 1) = true := decide_eq_true (by omega)
    go_enter Tryd.func34, Tryd.ntmps34
    go_wp2
    go_ret
    exact ⟨ret_bool R.out.symm, rfl⟩
end Go.Proofs.YtakfokdjdljjjaaDoor
