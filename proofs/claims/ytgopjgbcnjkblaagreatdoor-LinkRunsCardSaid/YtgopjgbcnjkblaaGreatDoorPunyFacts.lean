/-
  Plain facts on Punycode that examples and bounds need: the document's example, how many digits a number has at most, one rune behind one that stands as it is. No condition.
-/
import Derived.Test.YtgopjgbcnjkblaaGreatDoorPunyMath
namespace Go.Proofs.YtgopjgbcnjkblaaGreatDoor

/-- b, u with two points, c, h, e, r -/
theorem bucher : PunyW [98, 99, 104, 101, 114, 45, 107, 118, 97] [98, 252, 99, 104, 101, 114] := by
  refine ⟨[98, 99, 104, 101, 114], [10, 21, 0], by decide, by decide, by decide, ?_⟩
  refine .step _ _ _ _ 745 _ [] _ (by decide) (by show okR 252; unfold okR; omega) ?_
  exact .stop _ _ _ _
/-- so many ones, ten times -/
def rep : Nat → Nat
  | 0 => 0
  | m + 1 => 10 * rep m + 10
theorem dgs_len : ∀ (m k b n : Nat), n ≤ rep m → (dgs k b n).length ≤ m + 1
  | 0, k, b, n, h => by
    have ht := thr_bd k b
    unfold rep at h
    rw [wr_end (by omega)]; simp
  | m + 1, k, b, n, h => by
    have ht := thr_bd k b
    unfold rep at h
    by_cases h1 : n < thr k b
    · rw [wr_end h1]; simp
    · rw [wr_go h1, List.length_cons]
      have h2 : (n - thr k b) / (36 - thr k b) ≤ rep m := by
        have h3 : (n - thr k b) / (36 - thr k b) ≤ (n - thr k b) / 10 := Nat.div_le_div_left (by omega) (by omega)
        omega
      have := dgs_len m (k + 36) b _ h2
      omega
/-- one rune beyond, behind one below 128 -/
theorem one_behind {c : UInt8} {r : Nat} (hc : c.toNat < 128) (h1 : 128 ≤ r) (h2 : okR r) : PunyW ([c, 45] ++ (dgs 36 72 ((r - 128) * 2 + 1)).map sg) [c.toNat, r] := by
  refine ⟨[c], dgs 36 72 ((r - 128) * 2 + 1), by unfold shp; simp, wr_lt _ _ _ _ (Nat.le_refl _), by simpa using hc, ?_⟩
  refine .step _ _ _ _ ((r - 128) * 2 + 1) _ [] _ ?_ ?_ ?_
  · have := rd_wr _ ((r - 128) * 2 + 1) 36 72 [] (Nat.le_refl _)
    rwa [List.append_nil] at this
  · show okR (128 + (0 + ((r - 128) * 2 + 1)) / 2)
    rw [show 128 + (0 + ((r - 128) * 2 + 1)) / 2 = r by omega]; exact h2
  · have e1 : 128 + (0 + ((r - 128) * 2 + 1)) / 2 = r := by omega
    have e2 : (0 + ((r - 128) * 2 + 1)) % 2 = 1 := by omega
    show Dec 1 (ins ((0 + ((r - 128) * 2 + 1)) % 2) (128 + (0 + ((r - 128) * 2 + 1)) / 2) [c.toNat]) _ _ _ [] [c.toNat, r]
    rw [e1, e2]
    exact .stop _ _ _ _
/-- runes below 128 alone: they, and a - -/
theorem plain_puny {bs : List UInt8} (h : ∀ c ∈ bs, c.toNat < 128) : PunyW (shp bs []) (bs.map (·.toNat)) := ⟨bs, [], rfl, by simp, h, .stop _ _ _ _⟩
end Go.Proofs.YtgopjgbcnjkblaaGreatDoor
