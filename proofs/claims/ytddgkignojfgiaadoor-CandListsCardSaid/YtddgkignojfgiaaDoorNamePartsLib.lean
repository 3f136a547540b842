/-
  Plain facts on the ends of texts, in the spelling that the laws' walks ask for. No condition.
-/
import Derived.Test.YtddgkignojfgiaaDoorNameTo
namespace Go.Proofs.YtddgkignojfgiaaDoor
open Go.RowKit

theorem last_byte {s : ByteArray} (h : 0 < s.size) : s.data.toList.getLast? = some (s[s.size - 1]'(by omega)) := by
  rw [List.getLast?_eq_getElem?, ← Lib.size_eq]
  exact Lib.data_getElem? s _ (by omega)
theorem byte46 (b : UInt8) : ((b.toNat : Int) == 46) = decide (b = 46) := by
  rw [Bool.eq_iff_iff, beq_iff_eq, decide_eq_true_iff]
  constructor
  · intro h; apply UInt8.toNat_inj.1; show b.toNat = 46; omega
  · rintro rfl; rfl
theorem last_point {s : ByteArray} (h : 0 < s.size) : (((s[s.size - 1]'(by omega)).toNat : Int) == 46) = true ↔ s.data.toList.getLast? = some 46 := by
  rw [last_byte h, byte46, decide_eq_true_iff, Option.some.injEq]
theorem nonempty {s : ByteArray} (h : 0 < s.size) : (s.toList == []) = false ∧ ¬ s.toList = [] := by
  have : ¬ s.toList = [] := fun e => by
    rw [Lib.toList_data] at e
    rw [Lib.size_eq, e] at h
    simp at h
  exact ⟨by simpa using this, this⟩
theorem empty_size {s : ByteArray} (h : ¬ 0 < s.size) : s = ⟨#[]⟩ := bytes_inj (List.length_eq_zero_iff.1 (by rw [← Lib.size_eq]; omega))
theorem join3 (a b : ByteArray) : (a ++ { data := #[46] } ++ b).data.toList = a.data.toList ++ 46 :: b.data.toList := by
  rw [ByteArray.data_append, ByteArray.data_append, Array.toList_append, Array.toList_append, List.append_assoc]; rfl
theorem join3_size (a b : ByteArray) : (a ++ { data := #[46] } ++ b).size = a.size + 1 + b.size := by
  rw [ByteArray.size_append, ByteArray.size_append]; rfl
/-- does a text end with a point? -/
def ends (s : ByteArray) : Prop := s.data.toList.getLast? = some 46
theorem ends_pos {s : ByteArray} (h : ends s) : 0 < s.size := by
  rw [Lib.size_eq]
  rcases Nat.eq_zero_or_pos s.data.toList.length with h0 | h0
  · unfold ends at h
    rw [List.length_eq_zero_iff.1 h0] at h
    simp at h
  · exact h0
/-- a text that doesn't end with a point: it is empty, or its last byte is another one -/
theorem not_ends {s : ByteArray} (h : ¬ ends s) : ((s.toList == []) = true ∧ s.toList = []) ∨ ∃ h0 : 0 < s.size, (((s[s.size - 1]'(by omega)).toNat : Int) == 46) = false ∧ (s.toList == []) = false ∧ ¬ s.toList = [] := by
  by_cases h0 : 0 < s.size
  · refine .inr ⟨h0, ?_, nonempty h0⟩
    rw [Bool.eq_false_iff]
    exact fun e => h ((last_point h0).1 e)
  · obtain rfl := empty_size h0
    exact .inl ⟨by rw [Lib.toList_data]; rfl, by rw [Lib.toList_data]⟩
end Go.Proofs.YtddgkignojfgiaaDoor
