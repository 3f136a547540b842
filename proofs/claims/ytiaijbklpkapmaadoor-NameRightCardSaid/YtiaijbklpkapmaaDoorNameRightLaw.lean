/-
  The walk of NameRight: whatever text it is called with, it returns true. Conditions: the text lies within the form's own reach, and the library's variable MaxLen holds some number.
-/
import Derived.Test.YtiaijbklpkapmaaDoorNameLaw
namespace Go.Proofs.YtiaijbklpkapmaaDoor
open Go.RowKit

theorem dots_any (s : ByteArray) (w : World) :
    Calls Tryd.prog 17 #[.string s] w fun e w' => e = .returned (.int .i64 (s.data.toList.count 46 : Nat)) ∧ w = w' := by
  have C := Tryd.strings_Count_one s 46 w
  have hc : Lib.countByte s.data.toList 46 = s.data.toList.count 46 := rfl
  rw [hc] at C
  have hle : s.data.toList.count 46 ≤ s.size := by rw [Lib.size_eq]; exact List.count_le_length
  revert C hle
  generalize s.data.toList.count 46 = c
  intro C hle
  go_enter Tryd.func17, Tryd.ntmps17
  go_wp2_with (go_at_call 27; refine C.mono ?_; rintro e w' ⟨rfl, rfl⟩)
  go_ret
  exact ⟨rfl, rfl⟩
theorem right_yes (s : ByteArray) (w : World) (hs : s.size ≤ maxLen) (h : RightL s.data.toList) :
    Calls Tryd.prog 15 #[.string s] w fun e w' => e = .returned (.bool true) ∧ w = w' := by
  have := right_any s w hs
  rw [(rightB_iff s).2 h] at this
  exact this
set_option maxRecDepth 100000 in
set_option maxHeartbeats 1000000 in
theorem nameRight_walk (s : ByteArray) (w : World) (he : Env w) (hs : s.size ≤ 140737488351232) :
    Calls Tryd.prog 4 #[.string s] w fun e w' => e = .returned (.bool true) ∧ Below w.heap.size w w' := by
  by_cases hl : s.size ≤ 1500
  · go_enter Tryd.func4, Tryd.ntmps4
    go_wp2_with fail
    refine (fit_e w he).mono ?_; rintro e w1 ⟨rfl, hb1, he1⟩
    go_wp2_with fail
    refine (ta_e s w1 he1 (by omega)).mono ?_; rintro e w2 ⟨n, t, rfl, hb2, he2, hta⟩
    have hb := hb1.trans (hb2.mono hb1.size)
    clear hb1 hb2
    by_cases hn : n = 0
    · subst hn
      obtain ⟨r1, r2, r3⟩ := hta.out.right
      have ht : t.size ≤ 253 := by rw [Lib.size_eq]; exact r2
      have hlow : lowB t = t := bytes_inj (by rw [lowB_data]; exact r3)
      have hne : t.data.toList ≠ [46] := fun e => by
        rw [e] at r1
        have := (r1 [] (by decide)).pos
        simp at this
      have hcn := cntB_eq hne
      rw [sp_points] at hcn
      have hcle : t.data.toList.count 46 ≤ t.size := by rw [Lib.size_eq]; exact List.count_le_length
      have HCN := Lib.hid hcn
      have R1 := Lib.hid r1
      have HLOW := Lib.hid hlow
      clear r1 r2 r3 hlow hne hcn hta
      go_wp2_with fail
      refine (split_f t w2 he2 (by omega)).mono ?_; rintro e w3 ⟨rfl, hb3, hrow⟩
      have he3 := he2.below hb3
      have hb' := Lib.hid (hb.trans (hb3.mono hb.size))
      have hpd := Lib.hid (pieces_data t)
      have hpl := pieces_le t
      have hps := Lib.hid (piece_size t)
      have HROW := Lib.hid hrow
      clear hb hb3 he2 hrow
      go_wp2_with fail
      go_loop [22] (fun i => ∃ k : Nat, k ≤ (pieces t).length ∧ i = .int .i64 k) (fun i => (pieces t).length - (intOf i).toNat)
      case atStart => exact ⟨0, Nat.zero_le _, rfl⟩
      case round =>
        obtain ⟨k, hk, rfl⟩ := hrel
        by_cases hlt : k < (pieces t).length
        · have c0 := HROW.out.cells k hlt
          have hx := hps.out k hlt
          have hr : RightL ((pieces t).getD k ByteArray.empty).data.toList := R1.out _ (by
            rw [← hpd.out]
            exact List.mem_map.2 ⟨_, by rw [List.getD, List.getElem?_eq_getElem hlt]; exact List.getElem_mem hlt, rfl⟩)
          have C := right_yes ((pieces t).getD k ByteArray.empty) w3 (by unfold maxLen; omega) hr
          clear hr hx
          generalize (pieces t).getD k ByteArray.empty = x at c0 C
          go_wp2_with fail
          refine C.mono ?_; rintro e w' ⟨rfl, rfl⟩
          clear C
          go_wp2_with fail
          go_round
          case rel => exact ⟨k + 1, by omega, by go_num⟩
          case measure => simp [intOf]; omega
        · obtain rfl : k = (pieces t).length := by omega
          have C1 := lower_e t w3 he3 (by omega)
          rw [HLOW.out] at C1
          go_wp2_with fail
          refine C1.mono ?_; rintro e w4 ⟨rfl, hb4, he4⟩
          clear C1
          have hb'' := Lib.hid (hb'.out.trans (hb4.mono hb'.out.size))
          clear hb4
          have C2 := dots_any t w4
          go_wp2_with fail
          refine C2.mono ?_; rintro e w' ⟨rfl, rfl⟩
          clear C2
          have C3 := count_e t w4 he4 (by omega)
          rw [HCN.out] at C3
          generalize t.data.toList.count 46 = c at C3 hcle
          go_wp2_with fail
          refine C3.mono ?_; rintro e w5 ⟨rfl, hb5, he5⟩
          clear C3
          have hb3 := Lib.hid (hb''.out.trans (hb5.mono hb''.out.size))
          clear hb5
          go_wp2_with fail
          go_ret
          exact ⟨ret_bool (by simp), hb3.out⟩
    · have hn' : ((n : Int) != 0) = true := by simp; omega
      go_wp2_with fail
      go_ret
      exact ⟨rfl, hb⟩
  · go_enter Tryd.func4, Tryd.ntmps4
    go_wp2_with fail
    refine (fit_e w he).mono ?_; rintro e w1 ⟨rfl, hb1, he1⟩
    go_wp2_with fail
    go_ret
    exact ⟨rfl, hb1⟩
end Go.Proofs.YtiaijbklpkapmaaDoor
