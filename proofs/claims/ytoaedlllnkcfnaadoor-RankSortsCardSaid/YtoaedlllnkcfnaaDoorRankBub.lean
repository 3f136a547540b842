/-
  Plain facts on one element that is brought to its place by exchanges with its neighbour. No program.
-/
import Derived.Test.YtoaedlllnkcfnaaDoorRankSymMath
namespace Go.Proofs.YtoaedlllnkcfnaaDoor
open Go.Sort

section
variable {α : Type} [Inhabited α]
/-- up: g exchanges from k on -/
def bub : Nat → Nat → Array α → Array α
  | 0, _, d => d
  | g + 1, k, d => bub g (k + 1) (swp d k (k + 1))
/-- down: g exchanges from k on -/
def dbub : Nat → Nat → Array α → Array α
  | 0, _, d => d
  | g + 1, k, d => dbub g (k - 1) (swp d k (k - 1))
theorem bub_perm (lo hi : Nat) : ∀ (g k : Nat) (d : Array α), lo ≤ k → k + g < hi → hi ≤ d.size → PermIn lo hi d (bub g k d)
  | 0, _, d, _, _, _ => permIn_refl d lo hi
  | g + 1, k, d, h1, h2, h3 => by
    rw [bub]
    exact permIn_trans _ _ _ lo hi (swp_permIn d lo hi k (k + 1) h1 (by omega) (by omega) (by omega) h3) (bub_perm lo hi g (k + 1) _ (by omega) (by omega) (by rw [size_swp]; exact h3))
theorem dbub_perm (lo hi : Nat) : ∀ (g k : Nat) (d : Array α), lo + g ≤ k → k < hi → hi ≤ d.size → PermIn lo hi d (dbub g k d)
  | 0, _, d, _, _, _ => permIn_refl d lo hi
  | g + 1, k, d, h1, h2, h3 => by
    rw [dbub]
    exact permIn_trans _ _ _ lo hi (swp_permIn d lo hi k (k - 1) (by omega) h2 (by omega) (by omega) h3) (dbub_perm lo hi g (k - 1) _ (by omega) (by omega) (by rw [size_swp]; exact h3))
theorem bub_get : ∀ (g k : Nat) (d : Array α), k + g < d.size → ∀ x, (bub g k d)[x]! = if k ≤ x ∧ x < k + g then d[x + 1]! else if x = k + g then d[k]! else d[x]!
  | 0, k, d, _, x => by
    rw [bub, if_neg (by omega)]
    split
    · rename_i h; rw [h]; rfl
    · rfl
  | g + 1, k, d, h, x => by
    have ih := bub_get g (k + 1) (swp d k (k + 1)) (by rw [size_swp]; omega) x
    have hg := fun q => swp_get d (i := k) (j := k + 1) (by omega) (by omega) q
    rw [bub, ih, hg, hg, hg]
    repeat' split
    all_goals first | omega | rfl | (congr 1 <;> omega)
theorem dbub_get : ∀ (g k : Nat) (d : Array α), g ≤ k → k < d.size → ∀ x, (dbub g k d)[x]! = if x = k - g then d[k]! else if k - g < x ∧ x ≤ k then d[x - 1]! else d[x]!
  | 0, k, d, _, _, x => by
    rw [dbub]
    split
    · rename_i h; rw [h]; rfl
    · rw [if_neg (by omega)]
  | g + 1, k, d, h, h2, x => by
    have ih := dbub_get g (k - 1) (swp d k (k - 1)) (by omega) (by rw [size_swp]; omega) x
    have hg := fun q => swp_get d (i := k) (j := k - 1) (by omega) (by omega) q
    rw [dbub, ih, hg, hg, hg]
    repeat' split
    all_goals first | omega | rfl | (congr 1 <;> omega)
/-- the first element, brought behind those that are less -/
theorem bub_sorted {lb : α → α → Bool} (hS : SWO lb) {a t b : Nat} {d : Array α} (hR : SortedIn lb (a + 1) b d) (ht : a + 1 ≤ t) (htb : t ≤ b) (hb : b ≤ d.size) (hlo : a + 1 < t → lb d[t - 1]! d[a]! = true) (hhi : t < b → lb d[t]! d[a]! = false) :
    SortedIn lb a b (bub (t - 1 - a) a d) := by
  have hg := fun x => bub_get (t - 1 - a) a d (by omega) x
  have l1 : ∀ k, a + 1 ≤ k → k < t → lb d[a]! d[k]! = false := fun k h1 h2 => by
    cases hq : lb d[a]! d[k]! with
    | false => rfl
    | true =>
      have h3 := hS.trans _ _ _ (hlo (by omega)) hq
      rcases Nat.lt_or_ge k (t - 1) with h | h
      · rw [hR k (t - 1) h1 h (by omega)] at h3; cases h3
      · obtain rfl : k = t - 1 := by omega
        rw [hS.irrefl] at h3; cases h3
  have l2 : ∀ j, t ≤ j → j < b → lb d[j]! d[a]! = false := fun j h1 h2 => by
    rcases Nat.lt_or_ge t j with h | h
    · exact hS.ntrans _ _ _ (hR t j (by omega) h h2) (hhi (by omega))
    · obtain rfl : j = t := by omega
      exact hhi h2
  intro i j h1 h2 h3
  rw [hg, hg]
  by_cases c1 : a ≤ i ∧ i < a + (t - 1 - a)
  · rw [if_pos c1]
    by_cases c2 : a ≤ j ∧ j < a + (t - 1 - a)
    · rw [if_pos c2]; exact hR _ _ (by omega) (by omega) (by omega)
    · rw [if_neg c2]
      by_cases c3 : j = a + (t - 1 - a)
      · rw [if_pos c3]; exact l1 _ (by omega) (by omega)
      · rw [if_neg c3]; exact hR _ _ (by omega) (by omega) h3
  · rw [if_neg c1]
    rw [if_neg (by omega : ¬ (a ≤ j ∧ j < a + (t - 1 - a)))]
    by_cases c3 : i = a + (t - 1 - a)
    · rw [if_pos c3, if_neg (by omega)]; exact l2 j (by omega) h3
    · rw [if_neg c3, if_neg (by omega)]; exact hR _ _ (by omega) h2 h3
/-- the last element, brought in front of those that are greater -/
theorem dbub_sorted {lb : α → α → Bool} (hS : SWO lb) {a t m : Nat} {d : Array α} (hL : SortedIn lb a m d) (ht : a ≤ t) (htm : t ≤ m) (hb : m < d.size) (hlo : a < t → lb d[m]! d[t - 1]! = false) (hhi : t < m → lb d[m]! d[t]! = true) :
    SortedIn lb a (m + 1) (dbub (m - t) m d) := by
  have hg := fun x => dbub_get (m - t) m d (by omega) hb x
  have l1 : ∀ k, a ≤ k → k < t → lb d[m]! d[k]! = false := fun k h1 h2 => by
    rcases Nat.lt_or_ge k (t - 1) with h | h
    · exact hS.ntrans _ _ _ (hlo (by omega)) (hL k (t - 1) h1 h (by omega))
    · obtain rfl : k = t - 1 := by omega
      exact hlo (by omega)
  have l2 : ∀ j, t ≤ j → j < m → lb d[j]! d[m]! = false := fun j h1 h2 => by
    cases hq : lb d[j]! d[m]! with
    | false => rfl
    | true =>
      have h3 := hS.trans _ _ _ hq (hhi (by omega))
      rcases Nat.lt_or_ge t j with h | h
      · rw [hL t j (by omega) h h2] at h3; cases h3
      · obtain rfl : j = t := by omega
        rw [hS.irrefl] at h3; cases h3
  have e : m - (m - t) = t := by omega
  rw [e] at hg
  intro i j h1 h2 h3
  rw [hg, hg]
  by_cases c1 : i = t
  · rw [if_pos c1, if_neg (by omega), if_pos (by omega)]; exact l2 _ (by omega) (by omega)
  · rw [if_neg c1]
    by_cases c2 : j = t
    · rw [if_pos c2, if_neg (by omega)]; exact l1 i h1 (by omega)
    · rw [if_neg c2]
      by_cases c3 : t < i ∧ i ≤ m
      · rw [if_pos c3, if_pos (by omega)]; exact hL _ _ (by omega) (by omega) (by omega)
      · rw [if_neg c3]
        by_cases c4 : t < j ∧ j ≤ m
        · rw [if_pos c4]
          exact hL i (j - 1) h1 (by omega) (by omega)
        · rw [if_neg c4]; exact hL i j h1 h2 (by omega)
end
end Go.Proofs.YtoaedlllnkcfnaaDoor
