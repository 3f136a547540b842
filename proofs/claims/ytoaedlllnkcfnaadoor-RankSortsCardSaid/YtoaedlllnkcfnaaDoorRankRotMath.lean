/-
  Plain facts on exchanges of stretches and on the turn that they make. No program.
-/
import Derived.Test.YtoaedlllnkcfnaaDoorRankRot
import Derived.Sort.LotA
namespace Go.Proofs.YtoaedlllnkcfnaaDoor
open Go.Sort

section
variable {α : Type} [Inhabited α]
theorem swpFrom_perm (a b lo hi : Nat) : ∀ (g i : Nat) (d : Array α), lo ≤ a + i → a + i + g ≤ hi → lo ≤ b + i → b + i + g ≤ hi → hi ≤ d.size → PermIn lo hi d (swpFrom a b g i d)
  | 0, _, d, _, _, _, _, _ => permIn_refl d lo hi
  | g + 1, i, d, h1, h2, h3, h4, h5 => by
    rw [swpFrom]
    exact permIn_trans _ _ _ lo hi (swp_permIn d lo hi (a + i) (b + i) h1 (by omega) h3 (by omega) h5) (swpFrom_perm a b lo hi g (i + 1) _ (by omega) (by omega) (by omega) (by omega) (by rw [size_swp]; exact h5))
theorem swpFrom_get (a b : Nat) : ∀ (g i : Nat) (d : Array α), a + (i + g) ≤ b → b + i + g ≤ d.size → ∀ k, (swpFrom a b g i d)[k]! = if a + i ≤ k ∧ k < a + i + g then d[k - a + b]! else if b + i ≤ k ∧ k < b + i + g then d[k - b + a]! else d[k]!
  | 0, i, d, _, _, k => by
    rw [swpFrom, if_neg (by omega), if_neg (by omega)]
  | g + 1, i, d, h1, h2, k => by
    have ih := swpFrom_get a b g (i + 1) (swp d (a + i) (b + i)) (by omega) (by rw [size_swp]; omega) k
    have hg := fun q => swp_get d (i := a + i) (j := b + i) (by omega) (by omega) q
    rw [swpFrom, ih, hg, hg, hg]
    by_cases c1 : a + i ≤ k ∧ k < a + i + (g + 1)
    · rw [if_pos c1]
      by_cases e : k = a + i
      · subst e
        rw [if_neg (by omega), if_neg (by omega)]
        repeat' split
        all_goals first | omega | (congr 1 <;> omega)
      · rw [if_pos (by omega)]
        repeat' split
        all_goals first | omega | rfl
    · rw [if_neg c1]
      by_cases c2 : b + i ≤ k ∧ k < b + i + (g + 1)
      · rw [if_pos c2]
        by_cases e : k = b + i
        · subst e
          rw [if_neg (by omega), if_neg (by omega)]
          repeat' split
          all_goals first | omega | (congr 1 <;> omega)
        · rw [if_neg (by omega), if_pos (by omega)]
          repeat' split
          all_goals first | omega | rfl
      · rw [if_neg c2, if_neg (by omega), if_neg (by omega)]
        repeat' split
        all_goals first | omega | rfl
theorem rotF_perm (m lo hi : Nat) : ∀ (g i j : Nat) (d : Array α), lo + i ≤ m → m + j ≤ hi → hi ≤ d.size → PermIn lo hi d (rotF m g i j d)
  | 0, _, _, d, _, _, _ => permIn_refl d lo hi
  | g + 1, i, j, d, h1, h2, h3 => by
    rw [rotF]
    split
    · exact swpFrom_perm _ _ lo hi _ _ _ (by omega) (by omega) (by omega) (by omega) h3
    · split
      · exact permIn_trans _ _ _ lo hi (swpFrom_perm _ _ lo hi _ _ _ (by omega) (by omega) (by omega) (by omega) h3) (rotF_perm m lo hi g _ _ _ (by omega) (by omega) (by rw [swpFrom_size]; exact h3))
      · exact permIn_trans _ _ _ lo hi (swpFrom_perm _ _ lo hi _ _ _ (by omega) (by omega) (by omega) (by omega) h3) (rotF_perm m lo hi g _ _ _ (by omega) (by omega) (by rw [swpFrom_size]; exact h3))
/-- the turn: what stood from m on comes first -/
theorem rotF_get (m : Nat) : ∀ (g i j : Nat) (d : Array α), 0 < i → 0 < j → i + j ≤ g → i ≤ m → m + j ≤ d.size → ∀ k, (rotF m g i j d)[k]! = if m - i ≤ k ∧ k < m - i + j then d[k + i]! else if m - i + j ≤ k ∧ k < m + j then d[k - j]! else d[k]!
  | 0, i, j, d, h1, h2, h3, _, _, k => by omega
  | g + 1, i, j, d, h1, h2, h3, h4, h5, k => by
    rw [rotF]
    by_cases e : i = j
    · subst e
      rw [if_pos rfl, swpFrom_get _ _ _ _ _ (by omega) (by omega)]
      repeat' split
      all_goals first | omega | (congr 1 <;> omega)
    · rw [if_neg e]
      by_cases hlt : j < i
      · have hg := fun q => swpFrom_get (m - i) m j 0 d (by omega) (by omega) q
        rw [if_pos hlt, rotF_get m g (i - j) j _ (by omega) h2 (by omega) (by omega) (by rw [swpFrom_size]; exact h5), hg, hg, hg]
        repeat' split
        all_goals first | omega | (congr 1 <;> omega)
      · have hg := fun q => swpFrom_get (m - i) (m + j - i) i 0 d (by omega) (by omega) q
        rw [if_neg hlt, rotF_get m g i (j - i) _ h1 (by omega) (by omega) (by omega) (by rw [swpFrom_size]; omega), hg, hg, hg]
        repeat' split
        all_goals first | omega | (congr 1 <;> omega)
end
end Go.Proofs.YtoaedlllnkcfnaaDoor
