/-
  The walks of slices.ContainsFunc at puny's two tests of a rune. Conditions: the list is short.
-/
import Derived.Test.YtgopjgbcnjkblaaGreatDoorPunyRow
namespace Go.Proofs.YtgopjgbcnjkblaaGreatDoor
open Go.RowKit

theorem is_wrong (r : Nat) (v : Bool) (w : World) (h : (!Lib.validRune r) = v) : Calls Tryz.prog 86 #[.int .i32 r] w fun e w' => e = .returned (.bool v) ∧ w = w' := h ▸ wrong_any r w
theorem is_beyond (r : Nat) (v : Bool) (w : World) (h : decide (128 ≤ r) = v) : Calls Tryz.prog 107 #[.int .i32 r] w fun e w' => e = .returned (.bool v) ∧ w = w' := by
  have := beyond_any (r : Int) w
  rw [show decide ((128 : Int) ≤ (r : Int)) = decide (128 ≤ r) by rw [Bool.eq_iff_iff]; simp; omega, h] at this
  exact this

def anyW (l : List Nat) : Bool := l.any fun r => (!Lib.validRune r)
/-- what the search for the first one answers -/
def IdxW (l : List Nat) (e : Ending) : Prop := ∃ i : Int, e = .returned (.int .i64 i) ∧ -1 ≤ i ∧ i ≤ 1000000 ∧ decide (0 ≤ i) = anyW l
theorem anyW_take {l : List Nat} {j : Nat} (h : j < l.length) : anyW (l.take (j + 1)) = (anyW (l.take j) || (fun r : Nat => (!Lib.validRune r)) (l.getD j 0)) := by
  unfold anyW
  rw [take_nextD h, List.any_append]; simp
theorem anyW_hit {l : List Nat} {j : Nat} (h : j < l.length) (hp : (fun r : Nat => (!Lib.validRune r)) (l.getD j 0) = true) : anyW l = true := by
  unfold anyW
  exact List.any_eq_true.2 ⟨_, getD_mem_nat h, hp⟩
set_option maxHeartbeats 400000 in
theorem indexW (A : Option Addr) (n c : Nat) (l : List Nat) (w : World) (hn : l.length = n) (hn63 : n ≤ 1000000) (hr : Runes w A l) :
    Calls Tryz.prog 97 #[.slice A n c, .func (.func 86) #[] #[]] w fun e w' => IdxW l e ∧ w = w' := by
  have HN := Lib.hid hn; clear hn
  go_enter Tryz.func97, Tryz.ntmps97
  go_wp2
  go_loop [5, 8] (fun _ y => ∃ k : Nat, k ≤ n ∧ y = .int .i64 k ∧ anyW (l.take k) = false) (fun _ y => n - (intOf y).toNat)
  case atStart => exact ⟨0, Nat.zero_le _, rfl, rfl⟩
  case round =>
    obtain ⟨k, hk, rfl, hno⟩ := hrel
    have HO := Lib.hid hno; clear hno
    by_cases hlt : k < n
    · have hkl : k < l.length := by rw [HN.out]; exact hlt
      obtain ⟨b, o, rfl, hbl, hcell⟩ := hr (by omega)
      have c0 := hcell k hkl
      have T := Lib.hid (anyW_take hkl)
      clear hcell hr
      by_cases hp : (fun r : Nat => (!Lib.validRune r)) (l.getD k 0) = true
      · have HI := Lib.hid (anyW_hit hkl hp)
        have hq : (fun r : Nat => (!Lib.validRune r)) (l.getD k 0) = true := hp
        clear hp
        revert c0 T hq
        generalize l.getD k 0 = r
        intro c0 T hq
        have HQ := Lib.hid hq; clear hq
        go_wp2_with (go_at_call 86; refine (is_wrong r _ _ HQ.out).mono ?_; rintro e w' ⟨rfl, rfl⟩)
        go_ret
        exact ⟨⟨k, rfl, by omega, by omega, by rw [HI.out]; exact decide_eq_true (by omega)⟩, rfl⟩
      · have hq : (fun r : Nat => (!Lib.validRune r)) (l.getD k 0) = false := by simpa using hp
        clear hp
        revert c0 T hq
        generalize l.getD k 0 = r
        intro c0 T hq
        have HQ := Lib.hid hq; clear hq
        go_wp2_with (go_at_call 86; refine (is_wrong r _ _ HQ.out).mono ?_; rintro e w' ⟨rfl, rfl⟩)
        go_round
        case rel => exact ⟨k + 1, by omega, by go_num, by rw [T.out, HO.out, HQ.out]; rfl⟩
        case measure => simp [intOf]; omega
    · obtain rfl : k = n := by omega
      have E0 : anyW l = false := by rw [← HO.out, List.take_of_length_le (by rw [HN.out]; exact Nat.le_refl _)]
      have E := Lib.hid E0; clear E0
      go_wp2
      go_ret
      exact ⟨⟨-1, rfl, by omega, by omega, by rw [E.out]; rfl⟩, rfl⟩
set_option maxHeartbeats 400000 in
theorem containsW (A : Option Addr) (n c : Nat) (l : List Nat) (w : World) (hn : l.length = n) (hn63 : n ≤ 1000000) (hr : Runes w A l) :
    Calls Tryz.prog 85 #[.slice A n c, .func (.func 86) #[] #[]] w fun e w' => e = .returned (.bool (anyW l)) ∧ w = w' := by
  go_enter Tryz.func85, Tryz.ntmps85
  go_wp2_with fail
  refine (indexW A n c l w hn hn63 hr).mono ?_; rintro e w' ⟨⟨i, rfl, h1, h2, h3⟩, rfl⟩
  have H := Lib.hid h3; clear h3
  go_wp2
  go_ret
  exact ⟨ret_b H.out, rfl⟩

def anyB (l : List Nat) : Bool := l.any fun r => decide (128 ≤ r)
/-- what the search for the first one answers -/
def IdxB (l : List Nat) (e : Ending) : Prop := ∃ i : Int, e = .returned (.int .i64 i) ∧ -1 ≤ i ∧ i ≤ 1000000 ∧ decide (0 ≤ i) = anyB l
theorem anyB_take {l : List Nat} {j : Nat} (h : j < l.length) : anyB (l.take (j + 1)) = (anyB (l.take j) || (fun r : Nat => decide (128 ≤ r)) (l.getD j 0)) := by
  unfold anyB
  rw [take_nextD h, List.any_append]; simp
theorem anyB_hit {l : List Nat} {j : Nat} (h : j < l.length) (hp : (fun r : Nat => decide (128 ≤ r)) (l.getD j 0) = true) : anyB l = true := by
  unfold anyB
  exact List.any_eq_true.2 ⟨_, getD_mem_nat h, hp⟩
set_option maxHeartbeats 400000 in
theorem indexB (A : Option Addr) (n c : Nat) (l : List Nat) (w : World) (hn : l.length = n) (hn63 : n ≤ 1000000) (hr : Runes w A l) :
    Calls Tryz.prog 97 #[.slice A n c, .func (.func 107) #[] #[]] w fun e w' => IdxB l e ∧ w = w' := by
  have HN := Lib.hid hn; clear hn
  go_enter Tryz.func97, Tryz.ntmps97
  go_wp2
  go_loop [5, 8] (fun _ y => ∃ k : Nat, k ≤ n ∧ y = .int .i64 k ∧ anyB (l.take k) = false) (fun _ y => n - (intOf y).toNat)
  case atStart => exact ⟨0, Nat.zero_le _, rfl, rfl⟩
  case round =>
    obtain ⟨k, hk, rfl, hno⟩ := hrel
    have HO := Lib.hid hno; clear hno
    by_cases hlt : k < n
    · have hkl : k < l.length := by rw [HN.out]; exact hlt
      obtain ⟨b, o, rfl, hbl, hcell⟩ := hr (by omega)
      have c0 := hcell k hkl
      have T := Lib.hid (anyB_take hkl)
      clear hcell hr
      by_cases hp : (fun r : Nat => decide (128 ≤ r)) (l.getD k 0) = true
      · have HI := Lib.hid (anyB_hit hkl hp)
        have hq : (fun r : Nat => decide (128 ≤ r)) (l.getD k 0) = true := hp
        clear hp
        revert c0 T hq
        generalize l.getD k 0 = r
        intro c0 T hq
        have HQ := Lib.hid hq; clear hq
        go_wp2_with (go_at_call 107; refine (is_beyond r _ _ HQ.out).mono ?_; rintro e w' ⟨rfl, rfl⟩)
        go_ret
        exact ⟨⟨k, rfl, by omega, by omega, by rw [HI.out]; exact decide_eq_true (by omega)⟩, rfl⟩
      · have hq : (fun r : Nat => decide (128 ≤ r)) (l.getD k 0) = false := by simpa using hp
        clear hp
        revert c0 T hq
        generalize l.getD k 0 = r
        intro c0 T hq
        have HQ := Lib.hid hq; clear hq
        go_wp2_with (go_at_call 107; refine (is_beyond r _ _ HQ.out).mono ?_; rintro e w' ⟨rfl, rfl⟩)
        go_round
        case rel => exact ⟨k + 1, by omega, by go_num, by rw [T.out, HO.out, HQ.out]; rfl⟩
        case measure => simp [intOf]; omega
    · obtain rfl : k = n := by omega
      have E0 : anyB l = false := by rw [← HO.out, List.take_of_length_le (by rw [HN.out]; exact Nat.le_refl _)]
      have E := Lib.hid E0; clear E0
      go_wp2
      go_ret
      exact ⟨⟨-1, rfl, by omega, by omega, by rw [E.out]; rfl⟩, rfl⟩
set_option maxHeartbeats 400000 in
theorem containsB (A : Option Addr) (n c : Nat) (l : List Nat) (w : World) (hn : l.length = n) (hn63 : n ≤ 1000000) (hr : Runes w A l) :
    Calls Tryz.prog 85 #[.slice A n c, .func (.func 107) #[] #[]] w fun e w' => e = .returned (.bool (anyB l)) ∧ w = w' := by
  go_enter Tryz.func85, Tryz.ntmps85
  go_wp2_with fail
  refine (indexB A n c l w hn hn63 hr).mono ?_; rintro e w' ⟨⟨i, rfl, h1, h2, h3⟩, rfl⟩
  have H := Lib.hid h3; clear h3
  go_wp2
  go_ret
  exact ⟨ret_b H.out, rfl⟩

theorem anyW_ok {l : List Nat} (h : ∀ r ∈ l, okR r) : anyW l = false := by
  unfold anyW
  rw [List.any_eq_false]
  intro r hr
  rw [(okR_iff r).2 (h r hr)]; simp
theorem anyW_bad {l : List Nat} (h : ¬ ∀ r ∈ l, okR r) : anyW l = true := by
  unfold anyW
  rw [List.any_eq_true]
  rcases Classical.em (∃ r ∈ l, ¬ okR r) with ⟨r, hr, hn⟩ | h'
  · refine ⟨r, hr, ?_⟩
    have : Lib.validRune r = false := by
      rw [Bool.eq_false_iff]; intro e; exact hn ((okR_iff r).1 e)
    rw [this]; rfl
  · exact absurd (fun r hr => Classical.not_not.1 fun hn => h' ⟨r, hr, hn⟩) h
theorem anyB_iff {l : List Nat} : anyB l = false ↔ ∀ r ∈ l, r < 128 := by
  unfold anyB
  rw [List.any_eq_false]
  constructor
  · intro h r hr; have := h r hr; simp at this; omega
  · intro h r hr; have := h r hr; simp; omega
end Go.Proofs.YtgopjgbcnjkblaaGreatDoor
