/-
  The walk of label.Join: what it answers for every list of texts that lies in memory. Conditions: the lengths that each states, and the library's variable MaxLen holds some number.
-/
import Derived.Test.YtakfokdjdljjjaaDoorSplit
import Derived.Lib.Join
namespace Go.Proofs.YtakfokdjdljjjaaDoor
open Go.RowKit

theorem join_jn (xs : List (List UInt8)) : Lib.join xs [46] = jn xs := by
  induction xs with
  | nil => rfl
  | cons x t ih =>
    cases t with
    | nil => rw [Lib.join_one]; rfl
    | cons y t =>
      rw [jn_cons x (by simp), ← ih]
      unfold Lib.join
      simp [List.intercalate]

set_option maxHeartbeats 400000 in
theorem join_e (b c : Nat) (xs : List ByteArray) (w : World) (he : Env w) (h : Strs w b xs) (hc : xs.length ≤ c) (h0 : xs.length ≤ 140737488355328) (hl : (jn (xs.map (·.data.toList))).length ≤ 140737488355328) :
    Calls Tryd.prog 37 #[.slice (some ⟨b, 0, none⟩) xs.length c] w fun e w' => e = .returned (.string ⟨(jn (xs.map (·.data.toList))).toArray⟩) ∧ Below w.heap.size w w' ∧ Env w' := by
  have hj := Tryd.strings_Join b 0 c xs ⟨#[46]⟩ w (fun j x hx => by
    have hj : j < xs.length := by
      rcases Nat.lt_or_ge j xs.length with h' | h'
      · exact h'
      · rw [List.getElem?_eq_none h'] at hx; cases hx
    rw [h.2 j hj]
    simp [List.getD, hx]) h.1 h0 hc (by rw [show (ByteArray.mk #[46]).data.toList = [46] from rfl, join_jn]; exact hl)
  rw [show (ByteArray.mk #[46]).data.toList = [46] from rfl, join_jn] at hj
  go_enter Tryd.func37, Tryd.ntmps37
  go_wp2_with fail
  refine hj.mono ?_; rintro e w' ⟨rfl, hb⟩
  have he' := he.below hb
  go_wp2
  go_ret
  exact ⟨rfl, hb, he'⟩

theorem jn_part : ∀ (xs : List (List UInt8)) (x : List UInt8), x ∈ xs → x.length ≤ (jn xs).length
  | [], x, h => by cases h
  | [y], x, h => by
    rw [List.mem_singleton] at h; subst h; exact Nat.le_refl _
  | y :: z :: t, x, h => by
    rw [jn_cons y (by simp), List.length_append, List.length_cons]
    rcases List.mem_cons.1 h with rfl | h
    · omega
    · have := jn_part (z :: t) x h; omega
theorem piece_size (s : ByteArray) (k : Nat) (h : k < (pieces s).length) : ((pieces s).getD k ByteArray.empty).size ≤ s.size := by
  have hmem : (pieces s).getD k ByteArray.empty ∈ pieces s := by
    rw [List.getD, List.getElem?_eq_getElem h]; exact List.getElem_mem h
  have h1 : ((pieces s).getD k ByteArray.empty).data.toList ∈ sp s.data.toList := by
    rw [← pieces_data]; exact List.mem_map_of_mem hmem
  have := jn_part _ _ h1
  rw [jn_sp, ← Lib.size_eq, ← Lib.size_eq] at this
  exact this
end Go.Proofs.YtakfokdjdljjjaaDoor
