/-
  The walk of label.Under: what it answers for every two texts; what was in memory before is as it was. Conditions: a text has fewer than 4294967281 bytes, and the library's variable MaxLen holds some number.
-/
import Derived.Test.YtgopjgbcnjkblaaGreatDoorSplit
namespace Go.Proofs.YtgopjgbcnjkblaaGreatDoor
open Go.RowKit

theorem equal_e (b1 b2 o c d : Nat) (xs ys : List ByteArray) (w : World) (he : Env w) (h1 : Strs w b1 xs) (h2 : Strs w b2 ys) (ho : o ≤ xs.length) (hx : xs.length ≤ 9223372036854775807) (hy : ys.length ≤ 9223372036854775807) :
    Calls Tryz.prog 49 #[.slice (some ⟨b1, o, none⟩) (xs.length - o) c, .slice (some ⟨b2, 0, none⟩) ys.length d] w fun e w' => e = .returned (.bool (decide (xs.drop o = ys))) ∧ Below w.heap.size w w' ∧ Env w' := by
  refine (Tryz.slices_Equal_string b1 o (xs.length - o) c b2 0 ys.length d (xs.drop o) ys w (by simp) (Nat.le_refl _) (by omega) hy (fun j hj => ?_) (fun j hj => h2.2 j hj)).mono ?_
  · simp only [List.length_drop] at hj
    have := h1.2 (o + j) (by omega)
    rw [Nat.zero_add] at this
    rw [this]
    simp [List.getD]
  · rintro e w' ⟨rfl, q, rfl⟩
    have hb : Below w.heap.size w (w.drewN q) := below_drewN (Below.refl _ _) q
    refine ⟨?_, hb, he.below hb⟩
    rw [List.take_of_length_le (by simp), List.take_of_length_le (Nat.le_refl _)]

set_option maxHeartbeats 400000 in
theorem under_e (s d : ByteArray) (w : World) (he : Env w) (hs : s.size < 4294967281) (hd : d.size < 4294967281) :
    Calls Tryz.prog 33 #[.string s, .string d] w fun e w' => e = .returned (.bool (undB s d)) ∧ Below w.heap.size w w' ∧ Env w' := by
  have hls : (lowB s).size < 4294967281 := by rw [lowB_size]; exact hs
  have hld : (lowB d).size < 4294967281 := by rw [lowB_size]; exact hd
  by_cases hdot : (d.toList == [46]) = true
  · have R := Lib.hid (show undB s d = true by rw [undB_eq, ← Lib.toList_data, hdot]; rfl)
    go_enter Tryz.func33, Tryz.ntmps33
    go_wp2
    go_ret
    exact ⟨ret_bool R.out.symm, Below.refl _ _, he⟩
  · have hdot' : (d.toList == [46]) = false := by simpa using hdot
    have R := Lib.hid (show undB s d = tailB (lowB s) (lowB d) by rw [undB_eq, ← Lib.toList_data, hdot']; rfl)
    clear hdot
    have p1 := pieces_pos (lowB s)
    have p2 := pieces_pos (lowB d)
    have p3 : (pieces (lowB s)).length ≤ 9223372036854775807 := by have := pieces_le (lowB s); omega
    have p4 : (pieces (lowB d)).length ≤ 9223372036854775807 := by have := pieces_le (lowB d); omega
    have p5 : (pieces (lowB s)).length - (pieces (lowB d)).length ≤ (pieces (lowB s)).length := Nat.sub_le _ _
    by_cases hle : (pieces (lowB d)).length ≤ (pieces (lowB s)).length
    · go_enter Tryz.func33, Tryz.ntmps33
      go_wp2_with fail
      refine (lower_e _ _ he hs).mono ?_; rintro e w1 ⟨rfl, hb1, he1⟩
      go_wp2_with fail
      refine (split_e _ _ he1 hls).mono ?_; rintro e w2 ⟨b, rfl, hb2, he2, hs2, hg2⟩
      go_wp2_with fail
      refine (lower_e _ _ he2 hd).mono ?_; rintro e w3 ⟨rfl, hb3, he3⟩
      go_wp2_with fail
      refine (split_e _ _ he3 hld).mono ?_; rintro e w4 ⟨b', rfl, hb4, he4, hs4, hg4⟩
      go_wp2_with fail
      refine (equal_e _ _ _ _ _ _ _ _ he4 ((hs2.below hb3).below hb4) hs4 p5 p3 p4).mono ?_; rintro e w5 ⟨rfl, hb5, he5⟩
      go_wp2
      go_ret
      refine ⟨ret_bool ?_, ?_, he5⟩
      · rw [R.out]; unfold tailB; rw [decide_eq_true hle]; rfl
      · exact ((((hb1.trans (hb2.mono hb1.size)).trans (hb3.mono (Nat.le_trans hb1.size hb2.size))).trans (hb4.mono (Nat.le_trans (Nat.le_trans hb1.size hb2.size) hb3.size)))).trans (hb5.mono (Nat.le_trans (Nat.le_trans (Nat.le_trans hb1.size hb2.size) hb3.size) hb4.size))
    · have hle' : decide (((pieces (lowB d)).length : Int) ≤ ((pieces (lowB s)).length : Int)) = false := decide_eq_false (by omega)
      go_enter Tryz.func33, Tryz.ntmps33
      go_wp2_with fail
      refine (lower_e _ _ he hs).mono ?_; rintro e w1 ⟨rfl, hb1, he1⟩
      go_wp2_with fail
      refine (split_e _ _ he1 hls).mono ?_; rintro e w2 ⟨b, rfl, hb2, he2, hs2, hg2⟩
      go_wp2_with fail
      refine (lower_e _ _ he2 hd).mono ?_; rintro e w3 ⟨rfl, hb3, he3⟩
      go_wp2_with fail
      refine (split_e _ _ he3 hld).mono ?_; rintro e w4 ⟨b', rfl, hb4, he4, hs4, hg4⟩
      go_wp2
      go_ret
      refine ⟨ret_bool ?_, ?_, he4⟩
      · rw [R.out]; unfold tailB; rw [decide_eq_false hle]; rfl
      · exact ((((hb1.trans (hb2.mono hb1.size)).trans (hb3.mono (Nat.le_trans hb1.size hb2.size))).trans (hb4.mono (Nat.le_trans (Nat.le_trans hb1.size hb2.size) hb3.size))))
end Go.Proofs.YtgopjgbcnjkblaaGreatDoor
