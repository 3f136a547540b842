/-
  The walk of LabelUnder: whatever two texts it is called with, it returns true. Conditions: the texts lie within the form's own reach, and the library's variable MaxLen holds some number.
-/
import Derived.Test.YtpbjijjeglpakaaDoorLaw
namespace Go.Proofs.YtpbjijjeglpakaaDoor
open Go.RowKit

theorem und_dot {s t : ByteArray} (h : (t.toList == [46]) = true) : undB s t = true := by rw [undB_eq, ← Lib.toList_data, h]; rfl
theorem und_same {s t : ByteArray} (h : ((lowB s).toList == (lowB t).toList) = true) : undB s t = true := by
  unfold undB; rw [← lowB_data, ← lowB_data, ← Lib.toList_data (lowB s), ← Lib.toList_data (lowB t), h]; simp
theorem und_end {s t : ByteArray} (h1 : (t.toList == [46]) = false) (h2 : ((lowB s).toList == (lowB t).toList) = false) (h3 : (lowB t).size < (lowB s).size) :
    undB s t = (((lowB s).extract ((lowB s).size - (lowB t).size - 1) (lowB s).size).toList == (({ data := #[46] } : ByteArray) ++ lowB t).toList) := by
  have hp := Lib.hasSuffix_raw (lowB s) (({ data := #[46] } : ByteArray) ++ lowB t)
  have e1 : ((({ data := #[46] } : ByteArray) ++ lowB t)).size = (lowB t).size + 1 := by rw [ByteArray.size_append, Nat.add_comm]; rfl
  have e2 : ((({ data := #[46] } : ByteArray) ++ lowB t)).data.toList = 46 :: low t.data.toList := by rw [ByteArray.data_append, Array.toList_append]; rfl
  rw [e1, e2, decide_eq_true (show (lowB t).size + 1 ≤ (lowB s).size from h3), Bool.true_and, ← Nat.sub_sub] at hp
  unfold undB
  rw [← lowB_data, ← lowB_data, ← Lib.toList_data (lowB s), ← Lib.toList_data (lowB t), ← Lib.toList_data t, h1, h2, hp]
  unfold Lib.hasSuffix
  rw [Lib.toList_data (lowB s), Lib.toList_data (lowB t), lowB_data, lowB_data]; rfl
theorem und_no {s t : ByteArray} (h1 : (t.toList == [46]) = false) (h2 : ((lowB s).toList == (lowB t).toList) = false) (h3 : ¬ (lowB t).size < (lowB s).size) : undB s t = false := by
  have h : (46 :: low t.data.toList).isSuffixOf (low s.data.toList) = false := by
    rw [Bool.eq_false_iff]
    intro e
    have := (List.isSuffixOf_iff_suffix.1 e).length_le
    rw [List.length_cons, ← lowB_data, ← lowB_data, ← Lib.size_eq, ← Lib.size_eq] at this
    omega
  unfold undB
  rw [h, ← lowB_data, ← lowB_data, ← Lib.toList_data (lowB s), ← Lib.toList_data (lowB t), ← Lib.toList_data t, h1, h2]; rfl
theorem und_self (s : ByteArray) : undB s s = true := by unfold undB; simp
theorem und_root (s : ByteArray) : undB s ⟨#[46]⟩ = true := by unfold undB; simp

set_option maxRecDepth 100000 in
set_option maxHeartbeats 1000000 in
theorem labelUnder_walk (s t : ByteArray) (w : World) (he : Env w) (hs : s.size ≤ 140737488351232) (ht : t.size ≤ 140737488351232) :
    Calls Tryd.prog 6 #[.string s, .string t] w fun e w' => e = .returned (.bool true) ∧ Below w.heap.size w w' := by
  by_cases hl : s.size + t.size ≤ 600
  · have hs' : s.size < 4294967281 := by omega
    have ht' : t.size < 4294967281 := by omega
    have hzs : (lowB s).size ≤ 600 := by rw [lowB_size]; omega
    have hzt : (lowB t).size ≤ 600 := by rw [lowB_size]; omega
    have key : ((t.toList == [46]) = true ∧ undB s t = true) ∨ ((t.toList == [46]) = false ∧ ((lowB s).toList == (lowB t).toList) = true ∧ undB s t = true) ∨
        ((t.toList == [46]) = false ∧ ((lowB s).toList == (lowB t).toList) = false ∧ ((lowB t).size < (lowB s).size) ∧ (((lowB s).extract ((lowB s).size - (lowB t).size - 1) (lowB s).size).toList == (({ data := #[46] } : ByteArray) ++ lowB t).toList) = true ∧ undB s t = true) ∨
        ((t.toList == [46]) = false ∧ ((lowB s).toList == (lowB t).toList) = false ∧ ((lowB t).size < (lowB s).size) ∧ (((lowB s).extract ((lowB s).size - (lowB t).size - 1) (lowB s).size).toList == (({ data := #[46] } : ByteArray) ++ lowB t).toList) = false ∧ undB s t = false) ∨
        ((t.toList == [46]) = false ∧ ((lowB s).toList == (lowB t).toList) = false ∧ ¬ ((lowB t).size < (lowB s).size) ∧ undB s t = false) := by
      cases h1 : (t.toList == [46])
      · cases h2 : ((lowB s).toList == (lowB t).toList)
        · by_cases h3 : (lowB t).size < (lowB s).size
          · have := und_end h1 h2 h3
            cases h4 : (((lowB s).extract ((lowB s).size - (lowB t).size - 1) (lowB s).size).toList == (({ data := #[46] } : ByteArray) ++ lowB t).toList)
            · rw [h4] at this; exact .inr (.inr (.inr (.inl ⟨rfl, rfl, h3, rfl, this⟩)))
            · rw [h4] at this; exact .inr (.inr (.inl ⟨rfl, rfl, h3, rfl, this⟩))
          · exact .inr (.inr (.inr (.inr ⟨rfl, rfl, h3, und_no h1 h2 h3⟩)))
        · exact .inr (.inl ⟨rfl, rfl, und_same h2⟩)
      · exact .inl ⟨rfl, und_dot h1⟩
    rcases key with ⟨h1, hu⟩ | ⟨h1, h2, hu⟩ | ⟨h1, h2, h3, h4, hu⟩ | ⟨h1, h2, h3, h4, hu⟩ | ⟨h1, h2, h3, hu⟩
    all_goals
      have HU := Lib.hid hu
      clear hu
      go_enter Tryd.func6, Tryd.ntmps6
      go_wp2_with fail
      refine (fit_e w he).mono ?_; rintro e w1 ⟨rfl, hb1, he1⟩
      go_wp2_with fail
      have hb2 := hb1.alloc hb1.size (.cells #[.string s, .string t] 9)
      have he2 := he1.below ((Below.refl _ w1).alloc (Nat.le_refl _) (.cells #[.string s, .string t] 9))
      refine (light_2 s t _ _ hs ht (by first | go_simp | simp) (by first | go_simp | simp)).mono ?_; rintro e w2 ⟨rfl, hw2⟩
      rw [decide_eq_true hl]
      rw [hw2] at hb2 he2
      clear hw2
      go_wp2_with fail
      refine (lower_e s _ he2 hs').mono ?_; rintro e w3 ⟨rfl, hb3, he3⟩
      go_wp2_with fail
      refine (lower_e t _ he3 ht').mono ?_; rintro e w4 ⟨rfl, hb4, he4⟩
      have hb : Below w.heap.size w w4 := (hb2.trans (hb3.mono hb2.size)).trans (hb4.mono (Nat.le_trans hb2.size hb3.size))
      clear hb1 hb2 hb3 hb4 he1 he2 he3
      go_wp2_with fail
      refine Calls.mono (by first | exact under_t s t _ he4 hs' ht' HU.out | exact under_f s t _ he4 hs' ht' HU.out) ?_; rintro e w5 ⟨rfl, hb5, he5⟩
      go_wp2_with fail
      refine (under_t s s _ he5 hs' hs' (und_self s)).mono ?_; rintro e w6 ⟨rfl, hb6, he6⟩
      go_wp2_with fail
      refine (under_t s _ _ he6 hs' (by decide) (und_root s)).mono ?_; rintro e w7 ⟨rfl, hb7, he7⟩
      go_wp2
      go_ret
      exact ⟨rfl, ((hb.trans (hb5.mono hb.size)).trans (hb6.mono (Nat.le_trans hb.size hb5.size))).trans (hb7.mono (Nat.le_trans (Nat.le_trans hb.size hb5.size) hb6.size))⟩
  · go_enter Tryd.func6, Tryd.ntmps6
    go_wp2_with fail
    refine (fit_e w he).mono ?_; rintro e w1 ⟨rfl, hb1, he1⟩
    go_wp2_with fail
    refine (light_2 s t _ _ hs ht (by first | go_simp | simp) (by first | go_simp | simp)).mono ?_; rintro e w2 ⟨rfl, rfl⟩
    rw [decide_eq_false hl]
    go_wp2
    go_ret
    exact ⟨rfl, hb1.alloc hb1.size _⟩
end Go.Proofs.YtpbjijjeglpakaaDoor
