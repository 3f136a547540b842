/-
  The walk of MsgRight's own function 'goes': it answers whether a name may be. Conditions: the text is not too long; the library's variable MaxLen holds some number.
-/
import Derived.Test.YteeonnjbjmanpaaDoorMsgGoes
namespace Go.Proofs.YteeonnjbjmanpaaDoor
open Go.RowKit

theorem gos_all (s : ByteArray) : gosB s = ((decide (s.size ≤ 253) && ((lowB s).toList == s.toList)) && (pieces s).all rightB) := by
  unfold gosB nmOk
  have e1 : decide (s.data.toList.length ≤ 253) = decide (s.size ≤ 253) := by rw [Lib.size_eq]
  have e2 : decide (low s.data.toList = s.data.toList) = ((lowB s).toList == s.toList) := by
    by_cases h : low s.data.toList = s.data.toList
    · rw [decide_eq_true h, low_neq s h]
    · rw [decide_eq_false h, low_neq' s h]
  have e3 : (sp s.data.toList).all Rt = (pieces s).all rightB := by
    rw [← pieces_data, List.all_map]; rfl
  rw [e1, e2, e3]
theorem all_step (xs : List ByteArray) {k : Nat} (hk : k < xs.length) : (xs.take (k + 1)).all rightB = ((xs.take k).all rightB && rightB (xs.getD k ByteArray.empty)) := by
  rw [List.take_succ_eq_append_getElem hk, List.all_append, List.getD, List.getElem?_eq_getElem hk]; simp
set_option maxRecDepth 100000 in
set_option maxHeartbeats 1000000 in
theorem goes5_e (s : ByteArray) (w : World) (he : Env w) (hs : s.size ≤ 100000) :
    Calls Tryd.prog 5 #[.string s] w fun e w' => e = .returned (.bool (gosB s)) ∧ Below w.heap.size w w' ∧ Env w' := by
  have hpl := pieces_le s
  have HPS : Hid (∀ k, k < (pieces s).length → ((pieces s).getD k ByteArray.empty).size ≤ 100000) := Lib.hid (fun k h => Nat.le_trans (piece_size s k h) hs)
  by_cases h1 : s.size ≤ 253
  · obtain ⟨cc, hcc⟩ : ∃ cc, cc = ((lowB s).toList == s.toList) := ⟨_, rfl⟩
    have HR : Hid (∀ b, b = (cc && (pieces s).all rightB) → Ending.returned (.bool b) = .returned (.bool (gosB s))) := Lib.hid (fun b hb => by rw [hb, gos_all, decide_eq_true h1, hcc, Bool.true_and])
    have HCC := Lib.hid hcc
    clear hcc
    go_enter Tryd.func5, Tryd.ntmps5
    go_wp2_with fail
    refine (lower_e s w he (by omega)).mono ?_; rintro e w1 ⟨rfl, hb1, he1⟩
    have HB1 := Lib.hid hb1
    clear hb1
    have hceq : ((lowB s).toList == s.toList) = cc := HCC.out.symm
    go_wp2_with fail
    clear hceq
    refine (split_e s w1 he1 (by omega)).mono ?_; rintro e w2 ⟨b, rfl, hb2, he2, hs2, hge⟩
    have HB2 := Lib.hid (HB1.out.trans (hb2.mono HB1.out.size))
    have HE2 := Lib.hid he2
    have HC := Lib.hid hs2
    clear hb2 he1 he2 hs2 hge HB1
    revert HPS HR hpl HC
    generalize pieces s = xs
    intro hpl HPS HR HC
    go_wp2_with fail
    go_loop [3, 18] (fun z i => ∃ k : Nat, k ≤ xs.length ∧ i = .int .i64 k ∧ z = .bool (cc && (xs.take k).all rightB)) (fun _ i => xs.length - (intOf i).toNat)
    case atStart => exact ⟨0, Nat.zero_le _, rfl, by simp⟩
    case round =>
      obtain ⟨k, hk, rfl, rfl⟩ := hrel
      by_cases hlt : k < xs.length
      · have c0 := HC.out.2 k hlt
        rw [Nat.zero_add] at c0
        have hsz := HPS.out k hlt
        have HN := Lib.hid (all_step xs hlt)
        have C := right_any (xs.getD k ByteArray.empty) w2 (by unfold maxLen; omega)
        have HM : Hid (∀ b, b = ((cc && (xs.take k).all rightB) && rightB (xs.getD k ByteArray.empty)) → b = (cc && (xs.take (k + 1)).all rightB)) := Lib.hid (fun b hb => by rw [hb, HN.out, Bool.and_assoc])
        clear HN
        revert c0 hsz C HM
        generalize xs.getD k ByteArray.empty = x
        generalize (cc && (xs.take k).all rightB) = pp
        intro c0 hsz C HM
        cases pp
        · have HF := Lib.hid (HM.out false (by simp))
          go_wp2_with fail
          go_round
          case rel => exact ⟨k + 1, by omega, by go_num, by rw [← HF.out]⟩
          case measure => simp [intOf]; omega
        · have HF := Lib.hid (HM.out (rightB x) (by simp))
          go_wp2_with (go_at_call 8; refine C.mono ?_; rintro e w' ⟨rfl, rfl⟩)
          go_round
          case rel => exact ⟨k + 1, by omega, by go_num, by rw [← HF.out]⟩
          case measure => simp [intOf]; omega
      · obtain rfl : k = xs.length := by omega
        rw [List.take_length]
        go_wp2_with fail
        go_ret
        exact ⟨HR.out _ rfl, HB2.out, HE2.out⟩
  · obtain ⟨cc, hcc⟩ : ∃ cc : Bool, cc = false := ⟨_, rfl⟩
    have HR : Hid (∀ b, b = (cc && (pieces s).all rightB) → Ending.returned (.bool b) = .returned (.bool (gosB s))) := Lib.hid (fun b hb => by rw [hb, hcc, gos_long (by omega)]; rfl)
    have h1' : 253 < s.size := by omega
    have w1 := w
    have HB1 := Lib.hid (Below.refl w.heap.size w)
    have HCC := Lib.hid hcc
    clear h1 hcc w1
    go_enter Tryd.func5, Tryd.ntmps5
    go_wp2_with fail
    refine (split_e s w he (by omega)).mono ?_; rintro e w2 ⟨b, rfl, hb2, he2, hs2, hge⟩
    have HB2 := Lib.hid (HB1.out.trans (hb2.mono HB1.out.size))
    have HE2 := Lib.hid he2
    have HC := Lib.hid hs2
    clear hb2 he he2 hs2 hge HB1
    revert HPS HR hpl HC
    generalize pieces s = xs
    intro hpl HPS HR HC
    go_wp2_with fail
    go_loop [3, 18] (fun z i => ∃ k : Nat, k ≤ xs.length ∧ i = .int .i64 k ∧ z = .bool (cc && (xs.take k).all rightB)) (fun _ i => xs.length - (intOf i).toNat)
    case atStart => exact ⟨0, Nat.zero_le _, rfl, by rw [HCC.out]; rfl⟩
    case round =>
      obtain ⟨k, hk, rfl, rfl⟩ := hrel
      by_cases hlt : k < xs.length
      · have c0 := HC.out.2 k hlt
        rw [Nat.zero_add] at c0
        have hsz := HPS.out k hlt
        have HN := Lib.hid (all_step xs hlt)
        have C := right_any (xs.getD k ByteArray.empty) w2 (by unfold maxLen; omega)
        have HM : Hid (∀ b, b = ((cc && (xs.take k).all rightB) && rightB (xs.getD k ByteArray.empty)) → b = (cc && (xs.take (k + 1)).all rightB)) := Lib.hid (fun b hb => by rw [hb, HN.out, Bool.and_assoc])
        clear HN
        revert c0 hsz C HM
        generalize xs.getD k ByteArray.empty = x
        generalize (cc && (xs.take k).all rightB) = pp
        intro c0 hsz C HM
        cases pp
        · have HF := Lib.hid (HM.out false (by simp))
          go_wp2_with fail
          go_round
          case rel => exact ⟨k + 1, by omega, by go_num, by rw [← HF.out]⟩
          case measure => simp [intOf]; omega
        · have HF := Lib.hid (HM.out (rightB x) (by simp))
          go_wp2_with (go_at_call 8; refine C.mono ?_; rintro e w' ⟨rfl, rfl⟩)
          go_round
          case rel => exact ⟨k + 1, by omega, by go_num, by rw [← HF.out]⟩
          case measure => simp [intOf]; omega
      · obtain rfl : k = xs.length := by omega
        rw [List.take_length]
        go_wp2_with fail
        go_ret
        exact ⟨HR.out _ rfl, HB2.out, HE2.out⟩
end Go.Proofs.YteeonnjbjmanpaaDoor
