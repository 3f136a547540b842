/-
  The walks of the laws' own helpers: fit (the examples hold) and light (are these texts short together?). Condition of light: what the texts hold together is a number that Go's int can bear.
-/
import Derived.Test.YtpbjijjeglpakaaDoorUnder
import Derived.Handy
import Derived.Laws.IdiomStrings
namespace Go.Proofs.YtpbjijjeglpakaaDoor
open Go.RowKit

theorem under_t (s d : ByteArray) (w : World) (he : Env w) (hs : s.size < 4294967281) (hd : d.size < 4294967281) (h : undB s d = true) :
    Calls Tryd.prog 16 #[.string s, .string d] w fun e w' => e = .returned (.bool true) ∧ Below w.heap.size w w' ∧ Env w' := h ▸ under_e s d w he hs hd
theorem under_f (s d : ByteArray) (w : World) (he : Env w) (hs : s.size < 4294967281) (hd : d.size < 4294967281) (h : undB s d = false) :
    Calls Tryd.prog 16 #[.string s, .string d] w fun e w' => e = .returned (.bool false) ∧ Below w.heap.size w w' ∧ Env w' := h ▸ under_e s d w he hs hd

set_option maxHeartbeats 400000 in
theorem fit_e (w : World) (he : Env w) :
    Calls Tryd.prog 9 #[] w fun e w' => e = .returned (.bool true) ∧ Below w.heap.size w w' ∧ Env w' := by
  go_enter Tryd.func9, Tryd.ntmps9
  go_wp2_with fail
  refine (under_t _ _ _ he (by decide) (by decide) (by decide +kernel)).mono ?_; rintro e w1 ⟨rfl, hb1, he1⟩
  go_wp2_with fail
  refine (under_f _ _ _ he1 (by decide) (by decide) (by decide +kernel)).mono ?_; rintro e w2 ⟨rfl, hb2, he2⟩
  go_wp2
  go_ret
  exact ⟨rfl, hb1.trans (hb2.mono hb1.size), he2⟩

/-- how long texts are together -/
def tot : List ByteArray → Nat
  | [] => 0
  | x :: t => x.size + tot t
theorem tot_append (a b : List ByteArray) : tot (a ++ b) = tot a + tot b := by
  induction a with
  | nil => simp [tot]
  | cons x a ih => simp only [List.cons_append, tot, ih]; omega
theorem tot_next (xs : List ByteArray) (k : Nat) (h : k < xs.length) : tot (xs.take (k + 1)) = tot (xs.take k) + (xs.getD k ByteArray.empty).size := by
  rw [List.take_succ_eq_append_getElem h, tot_append]
  simp [tot, List.getD, List.getElem?_eq_getElem h]
theorem tot_le (xs : List ByteArray) (k : Nat) : tot (xs.take k) ≤ tot xs := by
  conv => rhs; rw [← List.take_append_drop k xs, tot_append]
  omega

set_option maxHeartbeats 400000 in
theorem light_any (a : Option Addr) (c : Nat) (xs : List ByteArray) (w : World) (hm : tot xs ≤ 9223372036854775807) (hl : xs.length ≤ 9223372036854775807)
    (hx : 0 < xs.length → ∃ b o, a = some ⟨b, o, none⟩ ∧ ∀ j, j < xs.length → w.cell? ⟨b, o + j, none⟩ = some (.string (xs.getD j ByteArray.empty))) :
    Calls Tryd.prog 10 #[.slice a xs.length c] w fun e w' => e = .returned (.bool (decide (tot xs ≤ 600))) ∧ w = w' := by
  have HX := Lib.hid hx
  clear hx
  go_enter Tryd.func10, Tryd.ntmps10
  go_wp2
  go_loop [3, 5, 8] (fun n _ i => ∃ k : Nat, k ≤ xs.length ∧ i = .int .i64 k ∧ n = .int .i64 (tot (xs.take k))) (fun _ _ i => xs.length - (intOf i).toNat)
  case atStart => exact ⟨0, Nat.zero_le _, rfl, rfl⟩
  case round =>
    obtain ⟨k, hk, rfl, rfl⟩ := hrel
    by_cases hlt : k < xs.length
    · obtain ⟨b, o, rfl, hc⟩ := HX.out (by omega)
      have c0 := hc k hlt
      have HN := Lib.hid (tot_next xs k hlt)
      have h1 := tot_le xs (k + 1)
      have h2 := tot_next xs k hlt
      have h3 : ((tot (xs.take k) : Nat) : Int) + ((xs.getD k ByteArray.empty).size : Int) ≤ 9223372036854775807 := by omega
      clear h1 h2 hc HX
      generalize hxx : xs.getD k ByteArray.empty = x at *
      go_wp2
      go_round
      case rel => exact ⟨k + 1, by omega, by go_num, by rw [HN.out]; go_num⟩
      case measure => simp [intOf]; omega
    · obtain rfl : k = xs.length := by omega
      go_wp2
      go_ret
      exact ⟨ret_bool (by rw [Bool.eq_iff_iff, decide_eq_true_iff, decide_eq_true_iff]; omega), rfl⟩

/-- the row of a string's bytes -/
def BytesAt (w : World) (b : Nat) (l : List UInt8) : Prop := b < w.heap.size ∧ ∀ j, j < l.length → w.cell? ⟨b, j, none⟩ = some (.int .u8 ((l.getD j 0).toNat : Int))
theorem BytesAt.of_new (w : World) (s : ByteArray) (cap : Nat) (t : TypeId) : BytesAt (w.alloc (.cells (bytesRow s cap) t ((bytesRow s cap).size, (bytesRow s cap).size + 1))).drew w.heap.size s.data.toList := by
  refine ⟨?_, fun j hj => ?_⟩
  · show w.heap.size < (w.alloc _).heap.size
    rw [World.size_alloc]; omega
  · show (w.alloc _).cell? _ = _
    have hj' : j < s.data.size := by simpa using hj
    rw [World.cell?_alloc_mark, bytesRow_at s _ j hj']
    rw [List.getD, List.getElem?_eq_getElem hj]; rfl
theorem BytesAt.at_new (w : World) (s : ByteArray) (cap : Nat) (t : TypeId) (n : Nat) (hn : w.heap.size = n) : BytesAt (w.alloc (.cells (bytesRow s cap) t ((bytesRow s cap).size, (bytesRow s cap).size + 1))).drew n s.data.toList := hn ▸ BytesAt.of_new w s cap t
theorem BytesAt.below {w w' : World} {b : Nat} {l : List UInt8} (h : BytesAt w b l) (hb : Below w.heap.size w w') : BytesAt w' b l :=
  ⟨Nat.lt_of_lt_of_le h.1 hb.size, fun j hj => (hb.cell (p := ⟨b, j, none⟩) h.1).trans (h.2 j hj)⟩

theorem light_1 (s : ByteArray) (b : Nat) (w : World) (hs : s.size ≤ 140737488351232) (h0 : w.cell? ⟨b, 0, none⟩ = some (.string s)) :
    Calls Tryd.prog 10 #[.slice (some ⟨b, 0, none⟩) 1 1] w fun e w' => e = .returned (.bool (decide (s.size ≤ 600))) ∧ w = w' := by
  have := light_any (some ⟨b, 0, none⟩) 1 [s] w (by simp only [tot]; omega) (by simp) (fun _ => ⟨b, 0, rfl, fun j hj => by
    obtain rfl : j = 0 := by simpa using hj
    exact h0⟩)
  rw [show decide (tot [s] ≤ 600) = decide (s.size ≤ 600) by rw [Bool.eq_iff_iff, decide_eq_true_iff, decide_eq_true_iff]; simp only [tot]; omega] at this
  exact this
theorem light_2 (s t : ByteArray) (b : Nat) (w : World) (hs : s.size ≤ 140737488351232) (ht : t.size ≤ 140737488351232) (h0 : w.cell? ⟨b, 0, none⟩ = some (.string s)) (h1 : w.cell? ⟨b, 1, none⟩ = some (.string t)) :
    Calls Tryd.prog 10 #[.slice (some ⟨b, 0, none⟩) 2 2] w fun e w' => e = .returned (.bool (decide (s.size + t.size ≤ 600))) ∧ w = w' := by
  have := light_any (some ⟨b, 0, none⟩) 2 [s, t] w (by simp only [tot]; omega) (by simp) (fun _ => ⟨b, 0, rfl, fun j hj => by
    have : j = 0 ∨ j = 1 := by simp at hj; omega
    rcases this with rfl | rfl
    · exact h0
    · exact h1⟩)
  rw [show decide (tot [s, t] ≤ 600) = decide (s.size + t.size ≤ 600) by rw [Bool.eq_iff_iff, decide_eq_true_iff, decide_eq_true_iff]; simp only [tot]; omega] at this
  exact this
theorem light_3 (s t u : ByteArray) (b : Nat) (w : World) (hs : s.size ≤ 140737488351232) (ht : t.size ≤ 140737488351232) (hu : u.size ≤ 140737488351232) (h0 : w.cell? ⟨b, 0, none⟩ = some (.string s)) (h1 : w.cell? ⟨b, 1, none⟩ = some (.string t)) (h2 : w.cell? ⟨b, 2, none⟩ = some (.string u)) :
    Calls Tryd.prog 10 #[.slice (some ⟨b, 0, none⟩) 3 3] w fun e w' => e = .returned (.bool (decide (s.size + (t.size + u.size) ≤ 600))) ∧ w = w' := by
  have := light_any (some ⟨b, 0, none⟩) 3 [s, t, u] w (by simp only [tot]; omega) (by simp) (fun _ => ⟨b, 0, rfl, fun j hj => by
    have : j = 0 ∨ j = 1 ∨ j = 2 := by simp at hj; omega
    rcases this with rfl | rfl | rfl
    · exact h0
    · exact h1
    · exact h2⟩)
  rw [show decide (tot [s, t, u] ≤ 600) = decide (s.size + (t.size + u.size) ≤ 600) by rw [Bool.eq_iff_iff, decide_eq_true_iff, decide_eq_true_iff]; simp only [tot]; omega] at this
  exact this
end Go.Proofs.YtpbjijjeglpakaaDoor
