/-
  The walks of the small calls of package order: the names of sources and outcomes, the kind and the outcome of a word, a source without actions. Conditions: none but what each states.
-/
import Derived.Test.YtpgkopnnfhlhbaaDoorOrdMath
import Derived.Test.YtpgkopnnfhlhbaaDoorProg
import Derived.WalkKit
import Derived.Below
import Derived.WalkMore
import Derived.Lib.Hide
import Derived.Lib.Strings
import Derived.Deep.LoopGhost
namespace Go.Proofs.YtpgkopnnfhlhbaaDoor
open Go.RowKit

def tb (l : List UInt8) : ByteArray := ⟨l.toArray⟩
theorem tb_data (l : List UInt8) : (tb l).data.toList = l := rfl
theorem bytes_inj {a b : ByteArray} (h : a.data.toList = b.data.toList) : a = b := by
  apply ByteArray.ext
  exact Array.toList_inj.1 h
theorem tb_of {s : ByteArray} {l : List UInt8} (h : s.data.toList = l) : s = tb l := bytes_inj (by rw [h, tb_data])
theorem bytes_no {y s : ByteArray} (h : ¬ y.data.toList = s.data.toList) : (y.toList == s.toList) = false := by
  rw [beq_eq_false_iff_ne, Lib.toList_data, Lib.toList_data]
  exact h
theorem bytes_yes {y s : ByteArray} (h : y.data.toList = s.data.toList) : (y.toList == s.toList) = true := by
  rw [beq_iff_eq, Lib.toList_data, Lib.toList_data]
  exact h
theorem sourceName_e (k : Nat) (w : World) : Calls Tryd.prog 18 #[.int .i64 k] w fun e w' => e = .returned (.string (tb (nameK k))) ∧ w' = w := by
  by_cases h1 : k = 1
  · subst h1
    go_enter Tryd.func18, Tryd.ntmps18
    go_wp2
    go_ret
    exact ⟨rfl, rfl⟩
  by_cases h2 : k = 2
  · subst h2
    go_enter Tryd.func18, Tryd.ntmps18
    go_wp2
    go_ret
    exact ⟨rfl, rfl⟩
  by_cases h3 : k = 3
  · subst h3
    go_enter Tryd.func18, Tryd.ntmps18
    go_wp2
    go_ret
    exact ⟨rfl, rfl⟩
  have i1 : ¬ (k : Int) = 1 := by omega
  have i2 : ¬ (k : Int) = 2 := by omega
  have i3 : ¬ (k : Int) = 3 := by omega
  have hn : nameK k = [] := by
    unfold nameK
    split
    · exact absurd rfl h1
    · exact absurd rfl h2
    · exact absurd rfl h3
    · rfl
  rw [hn]
  go_enter Tryd.func18, Tryd.ntmps18
  go_wp2
  go_ret
  exact ⟨rfl, rfl⟩
theorem outcomeName_e (k : Nat) (w : World) : Calls Tryd.prog 29 #[.int .i64 k] w fun e w' => e = .returned (.string (tb (nameO k))) ∧ w' = w := by
  by_cases h1 : k = 1
  · subst h1
    go_enter Tryd.func29, Tryd.ntmps29
    go_wp2
    go_ret
    exact ⟨rfl, rfl⟩
  by_cases h2 : k = 2
  · subst h2
    go_enter Tryd.func29, Tryd.ntmps29
    go_wp2
    go_ret
    exact ⟨rfl, rfl⟩
  by_cases h3 : k = 3
  · subst h3
    go_enter Tryd.func29, Tryd.ntmps29
    go_wp2
    go_ret
    exact ⟨rfl, rfl⟩
  by_cases h4 : k = 4
  · subst h4
    go_enter Tryd.func29, Tryd.ntmps29
    go_wp2
    go_ret
    exact ⟨rfl, rfl⟩
  have i1 : ¬ (k : Int) = 1 := by omega
  have i2 : ¬ (k : Int) = 2 := by omega
  have i3 : ¬ (k : Int) = 3 := by omega
  have i4 : ¬ (k : Int) = 4 := by omega
  have hn : nameO k = [] := by
    unfold nameO
    split
    · exact absurd rfl h1
    · exact absurd rfl h2
    · exact absurd rfl h3
    · exact absurd rfl h4
    · rfl
  rw [hn]
  go_enter Tryd.func29, Tryd.ntmps29
  go_wp2
  go_ret
  exact ⟨rfl, rfl⟩
theorem kindW_hit {l : List UInt8} {k : Nat} (h1 : 1 ≤ k) (h3 : k ≤ 3) (h : nameK k = l) : kindW l = k := by
  subst h
  have : k = 1 ∨ k = 2 ∨ k = 3 := by omega
  rcases this with rfl | rfl | rfl <;> decide +kernel
theorem kindW_miss {l : List UInt8} (h : ∀ j, 1 ≤ j → j < 4 → nameK j ≠ l) : kindW l = 0 := by
  unfold kindW
  rw [if_neg (fun e => h 1 (by omega) (by omega) e.symm), if_neg (fun e => h 2 (by omega) (by omega) e.symm), if_neg (fun e => h 3 (by omega) (by omega) e.symm)]
theorem outW_hit {l : List UInt8} {k : Nat} (h1 : 1 ≤ k) (h3 : k ≤ 4) (h : nameO k = l) : outW l = k := by
  subst h
  have : k = 1 ∨ k = 2 ∨ k = 3 ∨ k = 4 := by omega
  rcases this with rfl | rfl | rfl | rfl <;> decide +kernel
theorem outW_miss {l : List UInt8} (h : ∀ j, 1 ≤ j → j < 5 → nameO j ≠ l) : outW l = 0 := by
  unfold outW
  rw [if_neg (fun e => h 1 (by omega) (by omega) e.symm), if_neg (fun e => h 2 (by omega) (by omega) e.symm), if_neg (fun e => h 3 (by omega) (by omega) e.symm), if_neg (fun e => h 4 (by omega) (by omega) e.symm)]
theorem kindOf_e (s : ByteArray) (w : World) : Calls Tryd.prog 26 #[.string s] w fun e w' => e = .returned (.int .i64 (kindW s.data.toList)) ∧ w' = w := by
  go_enter Tryd.func26, Tryd.ntmps26
  go_wp2_with fail
  go_loopg [3] 3 (fun gk i wr => ∃ k : Nat, i = .int .i64 k ∧ k + gk = 4 ∧ 1 ≤ k ∧ wr = w ∧ Hid (∀ j, 1 ≤ j → j < k → nameK j ≠ s.data.toList))
  case atStart => exact ⟨1, rfl, by omega, by omega, rfl, Lib.hid fun j h1 h2 => by omega⟩
  case round =>
    obtain ⟨k, rfl, hk, h1, rfl, HM⟩ := hrel
    by_cases hk4 : k < 4
    · obtain ⟨g2, rfl⟩ : ∃ g2, gk = g2 + 1 := ⟨gk - 1, by omega⟩
      have hkI : (k : Int) ≤ 3 := by omega
      have hc := sourceName_e k wr
      by_cases he : nameK k = s.data.toList
      · have HK := Lib.hid (kindW_hit h1 (by omega) he)
        have hy := bytes_yes (y := tb (nameK k)) (s := s) he
        generalize tb (nameK k) = N at hy hc
        clear he
        go_wp2_with fail
        refine hc.mono ?_; rintro e w' ⟨rfl, rfl⟩
        go_wp2
        go_ret
        exact ⟨by rw [HK.out]; rfl, rfl⟩
      · have HM2 := Lib.hid he
        have hy := bytes_no (y := tb (nameK k)) (s := s) he
        generalize tb (nameK k) = N at hy hc
        clear he
        go_wp2_with fail
        refine hc.mono ?_; rintro e w' ⟨rfl, rfl⟩
        go_wp2
        go_roundg g2
        case measure => omega
        case rel => exact ⟨k + 1, by go_num, by omega, by omega, rfl, Lib.hid fun j j1 j2 => by
          by_cases hj : j = k
          · subst hj; exact HM2.out
          · exact HM.out j j1 (by omega)⟩
    · obtain rfl : k = 4 := by omega
      have HK := Lib.hid (kindW_miss HM.out)
      go_wp2
      go_ret
      exact ⟨by rw [HK.out]; rfl, rfl⟩
theorem outcomeOf_e (s : ByteArray) (w : World) : Calls Tryd.prog 36 #[.string s] w fun e w' => e = .returned (.int .i64 (outW s.data.toList)) ∧ w' = w := by
  go_enter Tryd.func36, Tryd.ntmps36
  go_wp2_with fail
  go_loopg [3] 4 (fun gk i wr => ∃ k : Nat, i = .int .i64 k ∧ k + gk = 5 ∧ 1 ≤ k ∧ wr = w ∧ Hid (∀ j, 1 ≤ j → j < k → nameO j ≠ s.data.toList))
  case atStart => exact ⟨1, rfl, by omega, by omega, rfl, Lib.hid fun j h1 h2 => by omega⟩
  case round =>
    obtain ⟨k, rfl, hk, h1, rfl, HM⟩ := hrel
    by_cases hk4 : k < 5
    · obtain ⟨g2, rfl⟩ : ∃ g2, gk = g2 + 1 := ⟨gk - 1, by omega⟩
      have hkI : (k : Int) ≤ 4 := by omega
      have hc := outcomeName_e k wr
      by_cases he : nameO k = s.data.toList
      · have HK := Lib.hid (outW_hit h1 (by omega) he)
        have hy := bytes_yes (y := tb (nameO k)) (s := s) he
        generalize tb (nameO k) = N at hy hc
        clear he
        go_wp2_with fail
        refine hc.mono ?_; rintro e w' ⟨rfl, rfl⟩
        go_wp2
        go_ret
        exact ⟨by rw [HK.out]; rfl, rfl⟩
      · have HM2 := Lib.hid he
        have hy := bytes_no (y := tb (nameO k)) (s := s) he
        generalize tb (nameO k) = N at hy hc
        clear he
        go_wp2_with fail
        refine hc.mono ?_; rintro e w' ⟨rfl, rfl⟩
        go_wp2
        go_roundg g2
        case measure => omega
        case rel => exact ⟨k + 1, by go_num, by omega, by omega, rfl, Lib.hid fun j j1 j2 => by
          by_cases hj : j = k
          · subst hj; exact HM2.out
          · exact HM.out j j1 (by omega)⟩
    · obtain rfl : k = 5 := by omega
      have HK := Lib.hid (outW_miss HM.out)
      go_wp2
      go_ret
      exact ⟨by rw [HK.out]; rfl, rfl⟩
end Go.Proofs.YtpgkopnnfhlhbaaDoor
