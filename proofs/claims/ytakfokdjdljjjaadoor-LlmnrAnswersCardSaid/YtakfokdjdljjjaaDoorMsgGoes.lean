/-
  The walks of msg.between, goesOut and v4: what they answer. Conditions: each states its own.
-/
import Derived.Test.YtakfokdjdljjjaaDoorMsgMath
import Derived.Test.YtakfokdjdljjjaaDoorTxts
import Derived.BigQuiet
import Derived.Laws.CopyOwn
namespace Go.Proofs.YtakfokdjdljjjaaDoor
open Go.RowKit

def btw (a b c : Int) : Bool := decide (a ≤ b ∧ b ≤ c)
set_option maxHeartbeats 400000 in
theorem between_any (a b c : Int) (w : World) : Calls Tryd.prog 24 #[.int .i64 a, .int .i64 b, .int .i64 c] w fun e w' => e = .returned (.bool (btw a b c)) ∧ w = w' := by
  by_cases h1 : a ≤ b
  all_goals by_cases h2 : b ≤ c
  all_goals
    go_enter Tryd.func24, Tryd.ntmps24
    go_wp2
    go_ret
    exact ⟨ret_bool (by unfold btw; rw [Bool.eq_iff_iff]; simp [h1, h2]), rfl⟩

def gosB (s : ByteArray) : Bool := nmOk s.data.toList
theorem gos_long {s : ByteArray} (h : 253 < s.size) : gosB s = false := by
  unfold gosB nmOk
  rw [decide_eq_false (by rw [← Lib.size_eq]; omega)]; rfl
theorem gos_caps {s : ByteArray} (h : ¬ low s.data.toList = s.data.toList) : gosB s = false := by
  unfold gosB nmOk
  rw [decide_eq_false h]; simp
theorem rt_of (s : ByteArray) : Rt s.data.toList = rightB s := rfl
theorem gos_bad {s : ByteArray} {k : Nat} (hk : k < (pieces s).length) (h : rightB ((pieces s).getD k ByteArray.empty) = false) : gosB s = false := by
  unfold gosB nmOk
  have : (sp s.data.toList).all Rt = false := by
    rw [← pieces_data, List.all_eq_false]
    refine ⟨_, List.mem_map_of_mem (List.getElem_mem hk), ?_⟩
    rw [rt_of]
    have e : (pieces s)[k] = (pieces s).getD k ByteArray.empty := by simp [List.getD, List.getElem?_eq_getElem hk]
    rw [e, h]; simp
  rw [this]; simp
theorem gos_yes {s : ByteArray} (h1 : s.size ≤ 253) (h2 : low s.data.toList = s.data.toList) (h : ∀ j, j < (pieces s).length → rightB ((pieces s).getD j ByteArray.empty) = true) : gosB s = true := by
  unfold gosB nmOk
  rw [decide_eq_true (by rw [← Lib.size_eq]; exact h1), decide_eq_true h2, ← pieces_data, List.all_map]
  simp only [Bool.true_and, List.all_eq_true]
  intro x hx
  obtain ⟨k, hk, rfl⟩ := List.getElem_of_mem hx
  have := h k hk
  have e : (pieces s)[k] = (pieces s).getD k ByteArray.empty := by simp [List.getD, List.getElem?_eq_getElem hk]
  rw [← e] at this
  exact this
theorem bytes_inj' {a b : ByteArray} (h : a.data.toList = b.data.toList) : a = b := by
  obtain ⟨⟨x⟩⟩ := a
  obtain ⟨⟨y⟩⟩ := b
  simp only at h
  rw [h]
theorem low_neq (s : ByteArray) (h : low s.data.toList = s.data.toList) : ((lowB s).toList == s.toList) = true := by
  have : lowB s = s := bytes_inj' (by rw [lowB_data]; exact h)
  rw [this]; simp
theorem low_neq' (s : ByteArray) (h : ¬ low s.data.toList = s.data.toList) : ((lowB s).toList == s.toList) = false := by
  rw [beq_eq_false_iff_ne, Lib.toList_data, Lib.toList_data, lowB_data]; exact h
set_option maxHeartbeats 1000000 in
theorem goesOut_any (s : ByteArray) (w : World) (he : Env w) (hs : s.size ≤ maxLen) :
    Calls Tryd.prog 25 #[.string s] w fun e w' => e = .returned (.bool (gosB s)) ∧ Below w.heap.size w w' ∧ Env w' := by
  unfold maxLen at hs
  by_cases h1 : s.size ≤ 253
  · have d1 : decide ((253 : Int) < (s.size : Int)) = false := decide_eq_false (by omega)
    have C1 := lower_e s w he (by omega)
    by_cases h2 : low s.data.toList = s.data.toList
    · have d2 := low_neq s h2
      have hpl := pieces_le s
      have hps := fun k h => Nat.le_trans (piece_size s k h) h1
      have HPS := Lib.hid hps
      have HY := Lib.hid (gos_yes h1 h2)
      have HN := Lib.hid (fun k => gos_bad (s := s) (k := k))
      clear h2 hps
      go_enter Tryd.func25, Tryd.ntmps25
      go_wp2_with fail
      refine C1.mono ?_; rintro e w1 ⟨rfl, hb1, he1⟩
      clear C1
      go_wp2_with fail
      refine (split_e s w1 he1 (by omega)).mono ?_; rintro e w2 ⟨b, rfl, hb2, he2, hs2, hge⟩
      have hb := Lib.hid (hb1.trans (hb2.mono hb1.size))
      clear hb1 hb2 he1
      revert HPS HY HN hs2 hpl
      generalize pieces s = xs
      intro hpl HPS HY HN hs2
      have HC := Lib.hid hs2
      have HE := Lib.hid he2
      clear hs2 he2
      go_wp2_with fail
      go_loop [17] (fun i => ∃ k : Nat, k ≤ xs.length ∧ i = .int .i64 k ∧ Hid (∀ j, j < k → rightB (xs.getD j ByteArray.empty) = true)) (fun i => xs.length - (intOf i).toNat)
      case atStart => exact ⟨0, Nat.zero_le _, rfl, Lib.hid (fun j h => absurd h (Nat.not_lt_zero j))⟩
      case round =>
        obtain ⟨k, hk, rfl, HA⟩ := hrel
        by_cases hlt : k < xs.length
        · have c0 := HC.out.2 k hlt
          rw [Nat.zero_add] at c0
          have hsz := HPS.out k hlt
          cases hr : rightB (xs.getD k ByteArray.empty) with
          | true =>
            have HN' : Hid (∀ j, j < k + 1 → rightB (xs.getD j ByteArray.empty) = true) := Lib.hid (fun j hj => by
              by_cases e : j = k
              · rw [e]; exact hr
              · exact HA.out j (by omega))
            have C := right_any (xs.getD k ByteArray.empty) w2 (by unfold maxLen; omega)
            rw [hr] at C
            clear hr
            generalize xs.getD k ByteArray.empty = x at c0 C hsz
            go_wp2_with (go_at_call 34; refine C.mono ?_; rintro e w' ⟨rfl, rfl⟩)
            go_round
            case rel => exact ⟨k + 1, by omega, by go_num, HN'⟩
            case measure => simp [intOf]; omega
          | false =>
            have HF := Lib.hid (HN.out k hlt hr)
            have C := right_any (xs.getD k ByteArray.empty) w2 (by unfold maxLen; omega)
            rw [hr] at C
            clear hr
            generalize xs.getD k ByteArray.empty = x at c0 C hsz
            go_wp2_with (go_at_call 34; refine C.mono ?_; rintro e w' ⟨rfl, rfl⟩)
            go_ret
            exact ⟨ret_bool HF.out.symm, hb.out, HE.out⟩
        · obtain rfl : k = xs.length := by omega
          have HF := Lib.hid (HY.out HA.out)
          go_wp2
          go_ret
          exact ⟨ret_bool HF.out.symm, hb.out, HE.out⟩
    · have d2 := low_neq' s h2
      have HF := Lib.hid (gos_caps h2)
      clear h2
      go_enter Tryd.func25, Tryd.ntmps25
      go_wp2_with fail
      refine C1.mono ?_; rintro e w1 ⟨rfl, hb1, he1⟩
      go_wp2
      go_ret
      exact ⟨ret_bool HF.out.symm, hb1, he1⟩
  · have d1 : decide ((253 : Int) < (s.size : Int)) = true := decide_eq_true (by omega)
    have HF := Lib.hid (gos_long (s := s) (by omega))
    go_enter Tryd.func25, Tryd.ntmps25
    go_wp2
    go_ret
    exact ⟨ret_bool HF.out.symm, Below.refl _ _, he⟩
end Go.Proofs.YtakfokdjdljjjaaDoor
