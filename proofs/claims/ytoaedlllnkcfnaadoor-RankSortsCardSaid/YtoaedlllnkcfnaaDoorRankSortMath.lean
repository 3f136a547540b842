/-
  Plain facts on keys' order, and on insertion that keeps like ones as they came. No program.
-/
import Derived.Test.YtoaedlllnkcfnaaDoorRankOrd
namespace Go.Proofs.YtoaedlllnkcfnaaDoor
open Go.Sort

theorem ci_cases (x y : Int) : (x < y ∧ Lib.compareInt x y = -1) ∨ (x = y ∧ Lib.compareInt x y = 0) ∨ (y < x ∧ Lib.compareInt x y = 1) := by
  unfold Lib.compareInt
  by_cases h : x < y
  · left; simp [h]
  · by_cases h2 : y < x
    · right; right; simp [h, h2]
    · right; left
      exact ⟨by omega, by simp [h, h2]⟩
theorem cmpK_anti : ∀ x y : List Int, x.length = y.length → cmpK y x = -cmpK x y
  | [], [], _ => rfl
  | a :: x, b :: y, h => by
    have ih := cmpK_anti x y (by simpa using h)
    rw [cmpK, cmpK]
    rcases ci_cases a b with ⟨h1, h2⟩ | ⟨h1, h2⟩ | ⟨h1, h2⟩ <;> rcases ci_cases b a with ⟨h3, h4⟩ | ⟨h3, h4⟩ | ⟨h3, h4⟩
    all_goals first | omega | (rw [h2, h4]; simp [ih])
theorem cmpK_trans : ∀ x y z : List Int, x.length = y.length → y.length = z.length → (cmpK x y < 0 → cmpK y z ≤ 0 → cmpK x z < 0) ∧ (cmpK x y ≤ 0 → cmpK y z < 0 → cmpK x z < 0) ∧ (cmpK x y ≤ 0 → cmpK y z ≤ 0 → cmpK x z ≤ 0)
  | [], [], [], _, _ => by simp [cmpK]
  | a :: x, b :: y, c :: z, h1, h2 => by
    have ih := cmpK_trans x y z (by simpa using h1) (by simpa using h2)
    simp only [cmpK]
    rcases ci_cases a b with ⟨p1, p2⟩ | ⟨p1, p2⟩ | ⟨p1, p2⟩ <;> rcases ci_cases b c with ⟨q1, q2⟩ | ⟨q1, q2⟩ | ⟨q1, q2⟩ <;> rcases ci_cases a c with ⟨r1, r2⟩ | ⟨r1, r2⟩ | ⟨r1, r2⟩
    all_goals first | omega | (rw [p2, q2, r2]; simp; try exact ih)
/-- keys' order of places, like ones by their places -/
def cfK {m : Nat} (ks : List (List Int)) (x y : Fin (m + 1)) : Int := cmpK (ks.getD y.val []) (ks.getD x.val [])
def lbK {m : Nat} (ks : List (List Int)) (x y : Fin (m + 1)) : Bool := decide (cfK ks x y < 0) || (decide (cfK ks x y = 0) && decide (x.val < y.val))
theorem lbK_iff {m : Nat} {ks : List (List Int)} {x y : Fin (m + 1)} : lbK ks x y = true ↔ cfK ks x y < 0 ∨ (cfK ks x y = 0 ∧ x.val < y.val) := by
  unfold lbK; simp
theorem key_len {m : Nat} {ks : List (List Int)} (hk : ks.length = m + 1) (h8 : ∀ k ∈ ks, k.length = 8) (x : Fin (m + 1)) : (ks.getD x.val []).length = 8 := by
  have := x.isLt
  rw [List.getD_eq_getElem?_getD, List.getElem?_eq_getElem (by omega)]
  exact h8 _ (List.getElem_mem _)
theorem cfK_facts {m : Nat} {ks : List (List Int)} (hk : ks.length = m + 1) (h8 : ∀ k ∈ ks, k.length = 8) (x y z : Fin (m + 1)) :
    cfK ks y x = -cfK ks x y ∧ (cfK ks x y < 0 → cfK ks y z ≤ 0 → cfK ks x z < 0) ∧ (cfK ks x y ≤ 0 → cfK ks y z < 0 → cfK ks x z < 0) ∧ (cfK ks x y ≤ 0 → cfK ks y z ≤ 0 → cfK ks x z ≤ 0) ∧
    (0 < cfK ks x y → 0 ≤ cfK ks y z → 0 < cfK ks x z) ∧ (0 ≤ cfK ks x y → 0 < cfK ks y z → 0 < cfK ks x z) ∧ (0 ≤ cfK ks x y → 0 ≤ cfK ks y z → 0 ≤ cfK ks x z) := by
  have lx := key_len hk h8 x
  have ly := key_len hk h8 y
  have lz := key_len hk h8 z
  unfold cfK
  have a1 := cmpK_anti _ _ (ly.trans lx.symm)
  have a2 := cmpK_anti _ _ (lz.trans ly.symm)
  have a3 := cmpK_anti _ _ (lz.trans lx.symm)
  obtain ⟨t1, t2, t3⟩ := cmpK_trans _ _ _ (lz.trans ly.symm) (ly.trans lx.symm)
  obtain ⟨u1, u2, u3⟩ := cmpK_trans _ _ _ (lx.trans ly.symm) (ly.trans lz.symm)
  generalize cmpK (ks.getD y.val []) (ks.getD x.val []) = A at *
  generalize cmpK (ks.getD z.val []) (ks.getD y.val []) = B at *
  generalize cmpK (ks.getD z.val []) (ks.getD x.val []) = C at *
  generalize cmpK (ks.getD x.val []) (ks.getD y.val []) = A' at *
  generalize cmpK (ks.getD y.val []) (ks.getD z.val []) = B' at *
  generalize cmpK (ks.getD x.val []) (ks.getD z.val []) = C' at *
  refine ⟨a1, ?_, ?_, ?_, ?_, ?_, ?_⟩ <;> intros <;> omega
theorem swoK {m : Nat} {ks : List (List Int)} (hk : ks.length = m + 1) (h8 : ∀ k ∈ ks, k.length = 8) : SWO (lbK (m := m) ks) where
  irrefl x := by
    have h := (cfK_facts hk h8 x x x).1
    rw [Bool.eq_false_iff]
    intro e
    rcases lbK_iff.1 e with h1 | h1 <;> omega
  trans x y z h1 h2 := by
    obtain ⟨_, t1, t2, t3, t4, t5, t6⟩ := cfK_facts hk h8 x y z
    have h1 := lbK_iff.1 h1
    have h2 := lbK_iff.1 h2
    refine lbK_iff.2 ?_
    omega
  ntrans x y z h1 h2 := by
    obtain ⟨_, t1, t2, t3, t4, t5, t6⟩ := cfK_facts hk h8 x y z
    rw [Bool.eq_false_iff] at h1 h2 ⊢
    intro e
    have e := lbK_iff.1 e
    have h1 : ¬ (cfK ks x y < 0 ∨ (cfK ks x y = 0 ∧ x.val < y.val)) := fun h => h1 (lbK_iff.2 h)
    have h2 : ¬ (cfK ks y z < 0 ∨ (cfK ks y z = 0 ∧ y.val < z.val)) := fun h => h2 (lbK_iff.2 h)
    omega
theorem lbK_total {m : Nat} {ks : List (List Int)} (hk : ks.length = m + 1) (h8 : ∀ k ∈ ks, k.length = 8) {x y : Fin (m + 1)} (h1 : lbK ks x y = false) (hne : x ≠ y) : lbK ks y x = true := by
  obtain ⟨a, _⟩ := cfK_facts hk h8 x y x
  rw [Bool.eq_false_iff] at h1
  have h1 : ¬ (cfK ks x y < 0 ∨ (cfK ks x y = 0 ∧ x.val < y.val)) := fun h => h1 (lbK_iff.2 h)
  have hv : x.val ≠ y.val := fun e => hne (Fin.ext e)
  refine lbK_iff.2 ?_
  omega
theorem lt_lb {m : Nat} {ks : List (List Int)} {x y : Fin (m + 1)} (h : y.val < x.val) : ltOf (cfK ks) x y = lbK ks x y := by
  unfold ltOf lbK
  have : decide (x.val < y.val) = false := decide_eq_false (by omega)
  rw [this]; simp
section
variable {α : Type} [Inhabited α]
theorem insInner_where (lt : α → α → Bool) (a : Nat) : ∀ (j : Nat) (d : Array α), a ≤ j → j < d.size → (insInner lt a j d).size = d.size ∧ (∀ k, k < a ∨ j < k → (insInner lt a j d)[k]! = d[k]!) ∧ ∀ k, a ≤ k → k ≤ j → ∃ k', a ≤ k' ∧ k' ≤ j ∧ (insInner lt a j d)[k]! = d[k']!
  | 0, d, h, _ => by
    unfold insInner
    exact ⟨rfl, fun _ _ => rfl, fun k h1 h2 => ⟨k, h1, h2, rfl⟩⟩
  | j + 1, d, h, hj => by
    unfold insInner
    split
    · rename_i hc
      have haj : a ≤ j := by
        simp only [Bool.and_eq_true, decide_eq_true_eq] at hc
        omega
      obtain ⟨i1, i2, i3⟩ := insInner_where lt a j (swp d (j + 1) j) haj (by rw [size_swp]; omega)
      refine ⟨i1.trans (size_swp _ _ _), fun k hk => ?_, fun k h1 h2 => ?_⟩
      · rw [i2 k (by omega), swp_other _ _ _ _ (by omega) (by omega)]
      · rcases Nat.lt_or_ge j k with hlt | hge
        · obtain rfl : k = j + 1 := by omega
          rw [i2 (j + 1) (by omega)]
          exact ⟨j, haj, by omega, swp_left _ _ _ hj (by omega)⟩
        · obtain ⟨k', h3, h4, h5⟩ := i3 k h1 hge
          rw [h5]
          rcases Nat.lt_or_ge k' j with hlt | hge'
          · exact ⟨k', h3, by omega, swp_other _ _ _ _ (by omega) (by omega)⟩
          · obtain rfl : k' = j := by omega
            exact ⟨k' + 1, by omega, Nat.le_refl _, swp_right _ _ _ (by omega)⟩
    · exact ⟨rfl, fun _ _ => rfl, fun k h1 h2 => ⟨k, h1, h2, rfl⟩⟩
theorem insInner_congr (lt lt' : α → α → Bool) (a : Nat) : ∀ (j : Nat) (d : Array α), j < d.size → (∀ k, a ≤ k → k < j → lt d[j]! d[k]! = lt' d[j]! d[k]!) → insInner lt a j d = insInner lt' a j d
  | 0, d, _, _ => by unfold insInner; rfl
  | j + 1, d, hj, h => by
    unfold insInner
    by_cases haj : j + 1 > a
    · rw [h j (by omega) (by omega)]
      split
      · refine insInner_congr lt lt' a j _ (by rw [size_swp]; omega) (fun k h1 h2 => ?_)
        rw [swp_right _ _ _ (by omega), swp_other _ _ _ _ (by omega) (by omega)]
        exact h k h1 (by omega)
      · rfl
    · have : decide (j + 1 > a) = false := decide_eq_false haj
      rw [this]; simp
end
theorem insOuter_congr {m : Nat} (ks : List (List Int)) (a b : Nat) : ∀ (g i : Nat) (d : Array (Fin (m + 1))), b - i ≤ g → a ≤ i → b ≤ d.size → (∀ k, a ≤ k → k < i → ∀ j, i ≤ j → j < b → d[k]!.val < d[j]!.val) → (∀ k j, i ≤ k → k < j → j < b → d[k]!.val < d[j]!.val) →
    insOuter (ltOf (cfK ks)) a b i d = insOuter (lbK ks) a b i d := by
  intro g
  induction g with
  | zero =>
    intro i d hg _ _ _ _
    rw [insOuter, if_neg (by omega)]
    rw [insOuter, if_neg (by omega)]
  | succ g ih =>
    intro i d hg hai hb h1 h2
    by_cases hib : i < b
    · rw [insOuter, if_pos hib]
      conv => rhs; rw [insOuter, if_pos hib]
      have hc : insInner (ltOf (cfK ks)) a i d = insInner (lbK ks) a i d := insInner_congr _ _ a i d (by omega) (fun k hk1 hk2 => lt_lb (h1 k hk1 hk2 i (Nat.le_refl _) hib))
      rw [hc]
      obtain ⟨s, o, p⟩ := insInner_where (lbK ks) a i d hai (by omega)
      refine ih (i + 1) _ (by omega) (by omega) (by omega) (fun k hk1 hk2 j hj1 hj2 => ?_) (fun k j hk1 hk2 hj => ?_)
      · obtain ⟨k', hk3, hk4, e⟩ := p k hk1 (by omega)
        rw [e, o j (by omega)]
        rcases Nat.lt_or_ge k' i with hlt | hge
        · exact h1 k' hk3 hlt j (by omega) hj2
        · obtain rfl : k' = i := by omega
          exact h2 k' j (Nat.le_refl _) (by omega) hj2
      · rw [o k (by omega), o j (by omega)]
        exact h2 k j (by omega) hk2 hj
    · rw [insOuter, if_neg hib]
      rw [insOuter, if_neg hib]
/-- insertion over a stretch whose places go up -/
theorem ins_stable {m : Nat} {ks : List (List Int)} (hk : ks.length = m + 1) (h8 : ∀ k ∈ ks, k.length = 8) (d : Array (Fin (m + 1))) (a b : Nat) (hab : a ≤ b) (hb : b ≤ d.size) (h : ∀ k j, a ≤ k → k < j → j < b → d[k]!.val < d[j]!.val) :
    PermIn a b d (insertionSort (ltOf (cfK ks)) d a b) ∧ SortedIn (lbK ks) a b (insertionSort (ltOf (cfK ks)) d a b) := by
  have e : insertionSort (ltOf (cfK ks)) d a b = insertionSort (lbK ks) d a b := by
    unfold insertionSort
    exact insOuter_congr ks a b (b - (a + 1)) (a + 1) d (Nat.le_refl _) (by omega) hb (fun k h1 h2 j h3 h4 => h k j h1 (by omega) h4) (fun k j h1 h2 h3 => h k j (by omega) h2 h3)
  rw [e]
  exact insertionSort_holds (swoK hk h8) d a b hab hb
end Go.Proofs.YtoaedlllnkcfnaaDoor
