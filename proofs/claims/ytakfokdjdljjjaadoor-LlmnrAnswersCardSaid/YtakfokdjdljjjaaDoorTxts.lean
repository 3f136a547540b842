/-
  A list of texts that lies in memory, and label.Join of it. Conditions: each states its own.
-/
import Derived.Test.YtakfokdjdljjjaaDoorJoin
namespace Go.Proofs.YtakfokdjdljjjaaDoor
open Go.RowKit

/-- how long texts are together -/
def tot : List ByteArray → Nat
  | [] => 0
  | x :: t => x.size + tot t
theorem tot_append (a b : List ByteArray) : tot (a ++ b) = tot a + tot b := by
  induction a with
  | nil => simp [tot]
  | cons x a ih => simp only [List.cons_append, tot, ih]; omega
theorem tot_next (xs : List ByteArray) (k : Nat) (h : k < xs.length) : tot (xs.take (k + 1)) = tot (xs.take k) + (xs.getD k ByteArray.empty).size := by
  rw [List.take_succ_eq_append_getElem h, tot_append]
  simp [tot, List.getD, List.getElem?_eq_getElem h]
theorem tot_le (xs : List ByteArray) (k : Nat) : tot (xs.take k) ≤ tot xs := by
  conv => rhs; rw [← List.take_append_drop k xs, tot_append]
  omega
/-- the slice at A holds these texts -/
def Txts (w : World) (A : Option Addr) (xs : List ByteArray) : Prop := 0 < xs.length → ∃ b o, A = some ⟨b, o, none⟩ ∧ b < w.heap.size ∧ ∀ j, j < xs.length → w.cell? ⟨b, o + j, none⟩ = some (.string (xs.getD j ByteArray.empty))
theorem Txts.below {w w' : World} {A : Option Addr} {xs : List ByteArray} (h : Txts w A xs) (hb : Below w.heap.size w w') : Txts w' A xs := fun h0 => by
  obtain ⟨b, o, rfl, hlt, hc⟩ := h h0
  exact ⟨b, o, rfl, Nat.lt_of_lt_of_le hlt hb.size, fun j hj => (hb.cell (p := ⟨b, o + j, none⟩) hlt).trans (hc j hj)⟩
set_option maxHeartbeats 400000 in
theorem join_t (A : Option Addr) (c m : Nat) (xs : List ByteArray) (w : World) (he : Env w) (hm : xs.length = m) (h0 : 0 < m) (h : Txts w A xs) (hc : m ≤ c) (hs : m ≤ 40) (hl : (jn (xs.map (·.data.toList))).length ≤ 140737488355328) :
    Calls Tryd.prog 37 #[.slice A m c] w fun e w' => e = .returned (.string ⟨(jn (xs.map (·.data.toList))).toArray⟩) ∧ Below w.heap.size w w' ∧ Env w' := by
  subst hm
  obtain ⟨b, o, rfl, hlt, hcell⟩ := h h0
  have hj := Tryd.strings_Join b o c xs ⟨#[46]⟩ w (fun j x hx => by
    have hj : j < xs.length := (List.getElem?_eq_some_iff.1 hx).1
    rw [hcell j hj]
    simp [List.getD, hx]) hlt (by omega) hc (by rw [show (ByteArray.mk #[46]).data.toList = [46] from rfl, join_jn]; exact hl)
  rw [show (ByteArray.mk #[46]).data.toList = [46] from rfl, join_jn] at hj
  go_enter Tryd.func37, Tryd.ntmps37
  go_wp2_with fail
  refine hj.mono ?_; rintro e w' ⟨rfl, hb⟩
  have he' := he.below hb
  go_wp2
  go_ret
  exact ⟨rfl, hb, he'⟩
end Go.Proofs.YtakfokdjdljjjaaDoor
