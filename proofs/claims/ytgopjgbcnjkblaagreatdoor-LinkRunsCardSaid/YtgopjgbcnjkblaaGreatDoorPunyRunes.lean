/-
  Plain facts on the runes of a text, no program: which they are, and how many. No condition.
-/
import Derived.Test.YtgopjgbcnjkblaaGreatDoorPunyMath
import Derived.Laws.RangeString
import Derived.Laws.RangeAny
namespace Go.Proofs.YtgopjgbcnjkblaaGreatDoor

def runesN (s : ByteArray) : Nat → Nat → List Nat
  | 0, _ => []
  | b + 1, i => if i < s.size then (Utf8.decode s i).1 :: runesN s b (i + (Utf8.decode s i).2) else []
theorem runesN_ascii (s : ByteArray) (h : ∀ (j : Nat) (hj : j < s.size), (s[j]'hj).toNat < 128) : ∀ (b i : Nat), s.size ≤ i + b → runesN s b i = (s.data.toList.drop i).map (·.toNat)
  | 0, i, hb => by rw [List.drop_of_length_le (by rw [← Lib.size_eq]; omega)]; rfl
  | b + 1, i, hb => by
    unfold runesN
    split
    · rename_i hi
      rw [decode_ascii s i hi (h i hi), runesN_ascii s h b (i + 1) (by omega)]
      conv => rhs; rw [List.drop_eq_getElem_cons (i := i) (by rw [← Lib.size_eq]; exact hi)]
      rfl
    · rename_i hi
      rw [List.drop_of_length_le (by rw [← Lib.size_eq]; omega)]; rfl
theorem runesN_high (s : ByteArray) (k : Nat) (hk : k < s.size) (h : 128 ≤ (s[k]'hk).toNat) : ∀ (b i : Nat), i ≤ k → s.size ≤ i + b → ∃ r ∈ runesN s b i, 128 ≤ r
  | 0, i, hi, hb => by omega
  | b + 1, i, hi, hb => by
    unfold runesN
    rw [if_pos (by omega)]
    rcases Nat.lt_or_ge (s[i]'(by omega)).toNat 128 with h1 | h1
    · have hne : i ≠ k := fun e => by subst e; omega
      rw [decode_ascii s i (by omega) h1]
      obtain ⟨r, hr, hge⟩ := runesN_high s k hk h b (i + 1) (by omega) (by omega)
      exact ⟨r, List.mem_cons_of_mem _ hr, hge⟩
    · exact ⟨_, List.mem_cons_self, (decode_high s i (by omega) h1).1⟩

theorem runesN_length (s : ByteArray) : ∀ (b i : Nat), (runesN s b i).length ≤ b
  | 0, _ => by simp [runesN]
  | b + 1, i => by
    unfold runesN
    split
    · have := runesN_length s b (i + (Utf8.decode s i).2); simp; omega
    · simp
end Go.Proofs.YtgopjgbcnjkblaaGreatDoor
