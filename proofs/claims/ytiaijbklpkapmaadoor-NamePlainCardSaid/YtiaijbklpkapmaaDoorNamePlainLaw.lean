/-
  The walk of NamePlain: whatever list of labels, and whatever bool, it is called with, it returns true. Conditions: the list lies in memory as a list that came in does, and the library's variable MaxLen holds some number.
-/
import Derived.Test.YtiaijbklpkapmaaDoorNamePlainLib
namespace Go.Proofs.YtiaijbklpkapmaaDoor
open Go.RowKit

theorem join_point (s : ByteArray) : (s ++ { data := #[46] }).data.toList = s.data.toList ++ [46] := by
  rw [ByteArray.data_append, Array.toList_append]
/-- how the loop over the labels stands -/
structure PlAt (ls : List ByteArray) (k : Nat) (b : Bool) (T : Nat) : Prop where
  all : ∀ x ∈ ls.take k, PlainL x
  ok : b = true ↔ ∀ x ∈ ls.take k, RightL x.data.toList
  size : T = tk (ls.take k)
theorem PlAt.start (ls : List ByteArray) : PlAt ls 0 true 0 := ⟨by simp, by simp, by simp [tk]⟩
theorem PlAt.next {ls : List ByteArray} {k T : Nat} {b b' : Bool} (h : PlAt ls k b T) (hk : k < ls.length) (hp : PlainL (ls.getD k ByteArray.empty)) (hb : b' = true ↔ b = true ∧ RightL (ls.getD k ByteArray.empty).data.toList) :
    PlAt ls (k + 1) b' (T + ((ls.getD k ByteArray.empty).size + 1)) := by
  have e : ls.take (k + 1) = ls.take k ++ [ls.getD k ByteArray.empty] := take_snocD hk
  refine ⟨fun x hx => ?_, ?_, by rw [tk_next ls k hk, ← h.size]⟩
  · rw [e] at hx
    rcases List.mem_append.1 hx with hx | hx
    · exact h.all x hx
    · rw [List.mem_singleton.1 hx]; exact hp
  · rw [hb, h.ok, e]
    constructor
    · rintro ⟨h1, h2⟩ x hx
      rcases List.mem_append.1 hx with hx | hx
      · exact h1 x hx
      · rw [List.mem_singleton.1 hx]; exact h2
    · intro h1
      exact ⟨fun x hx => h1 x (List.mem_append_left _ hx), h1 _ (List.mem_append_right _ (List.mem_singleton.2 rfl))⟩
theorem low_mark {x : ByteArray} : ((lowB (x.extract 0 4)).toList == [120, 110, 45, 45]) = true ↔ XN <+: low x.data.toList := by
  rw [Lib.toList_data, lowB_data, Lib.extract_data, beq_iff_eq]
  have e : low ((x.data.toList.drop 0).take (4 - 0)) = (low x.data.toList).take 4 := by unfold low; simp
  constructor
  · intro h
    refine ⟨(low x.data.toList).drop 4, ?_⟩
    have h1 : (low x.data.toList).take 4 = XN := by
      rw [← e]
      unfold XN
      simpa using h
    rw [← h1, List.take_append_drop]
  · rintro ⟨P, hP⟩
    have : (low x.data.toList).take 4 = [120, 110, 45, 45] := by rw [← hP]; rfl
    rw [← e] at this
    simpa using this
theorem short_mark {x : ByteArray} (h : ¬ 4 ≤ x.size) : ¬ XN <+: low x.data.toList := by
  rintro ⟨P, hP⟩
  have := congrArg List.length hP
  rw [low_length, List.length_append, ← Lib.size_eq] at this
  have : (XN).length = 4 := rfl
  omega
/-- the loop over a label's bytes has gone so far -/
def BtAt (x : ByteArray) (j : Nat) : Prop := ∀ t (ht : t < x.size), t < j → (x[t]'ht).toNat < 128 ∧ x[t]'ht ≠ 46
theorem BtAt.done {x : ByteArray} {j : Nat} (h : BtAt x j) (hj : ¬ j < x.size) : asc x.data.toList ∧ (46 : UInt8) ∉ x.data.toList := by
  have key : ∀ c ∈ x.data.toList, c.toNat < 128 ∧ c ≠ 46 := fun c hc => by
    obtain ⟨t, ht, e⟩ := List.getElem_of_mem hc
    have ht' : t < x.size := by rw [Lib.size_eq]; exact ht
    have h1 := h t ht' (by omega)
    have h2 := Lib.data_getElem? x t ht'
    rw [List.getElem?_eq_getElem ht] at h2
    rw [(Option.some.inj h2).symm.trans e] at h1
    exact h1
  exact ⟨fun c hc => (key c hc).1, fun hc => (key 46 hc).2 rfl⟩
theorem BtAt.next {x : ByteArray} {j : Nat} (h : BtAt x j) (hj : j < x.size) (h1 : ¬ 128 ≤ ((x[j]'hj).toNat : Int)) (h2 : (((x[j]'hj).toNat : Int) == 46) = false) : BtAt x (j + 1) := fun t ht hlt => by
  by_cases e : t = j
  · subst e
    refine ⟨by omega, fun e => ?_⟩
    rw [e] at h2
    exact absurd h2 (by decide)
  · exact h t ht (by omega)

set_option maxRecDepth 100000 in
set_option maxHeartbeats 4000000 in
theorem namePlain_walk (A : Option Addr) (n cap : Nat) (ls : List ByteArray) (pt : Bool) (w : World) (he : Env w) (hn : ls.length = n) (hn63 : n ≤ 140737488351232) (hA : Txts w A ls) (hcap : n ≤ cap) :
    Calls Tryd.prog 5 #[.slice A n cap, .bool pt] w fun e w' => e = .returned (.bool true) ∧ Below w.heap.size w w' := by
  have HN := Lib.hid hn
  clear hn
  by_cases h0 : n = 0
  · subst h0
    clear hA
    go_enter Tryd.func5, Tryd.ntmps5
    go_wp2_with fail
    refine (fit_e w he).mono ?_; rintro e w1 ⟨rfl, hb1, he1⟩
    go_wp2_with fail
    go_ret
    exact ⟨rfl, hb1⟩
  · have h1 : 0 < n := by omega
    have h0' : ((n : Int) == 0) = false := by simp; omega
    clear h0
    by_cases h10 : n ≤ 10
    · obtain ⟨b0, o0, rfl, hbl, hcell⟩ := hA (by rw [HN.out]; exact h1)
      have HT := Lib.hid hA
      have HC := Lib.hid hcell
      have hkl := hcell (n - 1) (by rw [HN.out]; omega)
      clear hA hcell
      obtain ⟨z, hz⟩ : ∃ z, ls.getD (n - 1) ByteArray.empty = z := ⟨_, rfl⟩
      rw [hz] at hkl
      have HZ := Lib.hid hz
      clear hz
      cases hz0 : z.toList.isEmpty with
      | true =>
        go_enter Tryd.func5, Tryd.ntmps5
        go_wp2_with fail
        refine (fit_e w he).mono ?_; rintro e w1 ⟨rfl, hb1, he1⟩
        have hk1 := (hb1.cell (p := ⟨b0, o0 + (n - 1), none⟩) hbl).trans hkl
        go_wp2_with fail
        go_ret
        exact ⟨rfl, hb1⟩
      | false =>
        have HL : Hid (ls.getLast? ≠ some ⟨#[]⟩) := Lib.hid fun e => by
          rw [List.getLast?_eq_getElem?, HN.out] at e
          have h2 := HZ.out
          rw [List.getD, e] at h2
          rw [← h2] at hz0
          rw [Lib.toList_data] at hz0
          simp at hz0
        go_enter Tryd.func5, Tryd.ntmps5
        go_wp2_with fail
        refine (fit_e w he).mono ?_; rintro e w1 ⟨rfl, hb1, he1⟩
        have hk1 := (hb1.cell (p := ⟨b0, o0 + (n - 1), none⟩) hbl).trans hkl
        have HW1 := Lib.hid hb1
        have HE := Lib.hid he
        clear hkl he
        go_wp2_with fail
        clear hk1 hz0 hb1
        go_loopw [34, 5, 6] (fun i okv szv wr => ∃ (k T : Nat) (b : Bool), k ≤ n ∧ i = .int .i64 k ∧ okv = .bool b ∧ szv = .int .i64 ((T : Int) - 1) ∧ T ≤ 101 * k ∧ Hid (Below w.heap.size w wr) ∧ Hid (PlAt ls k b T)) (fun i _ _ _ => n - (intOf i).toNat)
        case atStart => exact ⟨0, 0, true, Nat.zero_le _, rfl, rfl, rfl, by omega, HW1, Lib.hid (PlAt.start ls)⟩
        case round =>
          obtain ⟨k, T, b, hk, rfl, rfl, rfl, hT, HW0, HP⟩ := hrel
          by_cases hlt : k < n
          · have hkl : k < ls.length := by rw [HN.out]; exact hlt
            have c0 := (HW0.out.cell (p := ⟨b0, o0 + k, none⟩) hbl).trans (HC.out k hkl)
            have hbr := Nat.lt_of_lt_of_le hbl HW0.out.size
            obtain ⟨x, hx⟩ : ∃ x, ls.getD k ByteArray.empty = x := ⟨_, rfl⟩
            rw [hx] at c0
            have HX := Lib.hid hx
            clear hx HW1
            by_cases hx100 : x.size ≤ 100
            · by_cases hx4 : 4 ≤ x.size
              · have hlo := lower_e (x.extract 0 4) wr (HE.out.below HW0.out) (by rw [Lib.size_eq, Lib.extract_data]; simp; omega)
                cases hmk : ((lowB (x.extract 0 4)).toList == [120, 110, 45, 45]) with
                | true =>
                  go_wp2_with fail
                  refine hlo.mono ?_; rintro e w2 ⟨rfl, hb2, he2⟩
                  have HB := Lib.hid (HW0.out.trans (hb2.mono HW0.out.size))
                  clear hlo hb2
                  go_wp2_with fail
                  go_ret
                  exact ⟨rfl, HB.out⟩
                | false =>
                  have HMK : Hid (¬ XN <+: low x.data.toList) := Lib.hid fun h => by rw [low_mark.2 h] at hmk; cases hmk
                  go_wp2_with fail
                  refine hlo.mono ?_; rintro e wr2 ⟨rfl, hb2, he2⟩
                  have HW := Lib.hid (HW0.out.trans (hb2.mono HW0.out.size))
                  clear hlo hb2 he2 HW0 c0 hbr
                  go_wp2_with fail
                  go_loop [54] (fun i => ∃ j : Nat, j ≤ x.size ∧ i = .int .i64 j ∧ Hid (BtAt x j)) (fun i => x.size - (intOf i).toNat)
                  case atStart => exact ⟨0, Nat.zero_le _, rfl, Lib.hid (fun t ht h => absurd h (Nat.not_lt_zero _))⟩
                  case round =>
                    obtain ⟨j, hj, rfl, HJ⟩ := hrel
                    by_cases hjx : j < x.size
                    · by_cases hb1 : 128 ≤ ((x[j]'hjx).toNat : Int)
                      · go_wp2_with fail
                        go_ret
                        exact ⟨rfl, HW.out⟩
                      · cases hb2 : (((x[j]'hjx).toNat : Int) == 46) with
                        | true =>
                          go_wp2_with fail
                          go_ret
                          exact ⟨rfl, HW.out⟩
                        | false =>
                          have HJ2 := Lib.hid (HJ.out.next hjx hb1 hb2)
                          go_wp2_with fail
                          go_round
                          case rel => exact ⟨j + 1, by omega, by go_num, HJ2⟩
                          case measure => simp [intOf]; omega
                    · obtain ⟨hasc, hno⟩ := HJ.out.done hjx
                      obtain rfl : j = x.size := by omega
                      have HPL : Hid (PlainL (ls.getD k ByteArray.empty)) := by
                        rw [HX.out]
                        exact Lib.hid ⟨hx100, hasc, hno, HMK.out⟩
                      clear hasc hno HJ
                      cases b with
                      | false =>
                        have HN2 := Lib.hid (HP.out.next (b' := false) hkl HPL.out (by simp))
                        go_wp2_with fail
                        go_roundw
                        case rel =>
                          refine ⟨k + 1, T + (x.size + 1), false, by omega, by go_num, rfl, ?_, by omega, HW, ?_⟩
                          · go_num
                          · have := HN2.out
                            rw [HX.out] at this
                            exact Lib.hid this
                        case measure => simp [intOf]; omega
                      | true =>
                        have R := right_any x wr2 (by unfold maxLen; omega)
                        have HN2 := Lib.hid (HP.out.next (b' := rightB x) hkl HPL.out (by rw [HX.out, rightB_iff]; simp))
                        revert R HN2
                        generalize rightB x = b2
                        intro R HN2
                        go_wp2_with fail
                        refine R.mono ?_; rintro e w' ⟨rfl, rfl⟩
                        clear R
                        go_wp2_with fail
                        go_roundw
                        case rel =>
                          refine ⟨k + 1, T + (x.size + 1), b2, by omega, by go_num, by first | rfl | simp, ?_, by omega, HW, ?_⟩
                          · go_num
                          · have := HN2.out
                            rw [HX.out] at this
                            exact Lib.hid this
                        case measure => simp [intOf]; omega
              · have HMK : Hid (¬ XN <+: low x.data.toList) := Lib.hid (short_mark hx4)
                have HW := HW0
                obtain ⟨wr2, hwr⟩ : ∃ wr2, wr2 = wr := ⟨_, rfl⟩
                subst hwr
                go_wp2_with fail
                go_loop [54] (fun i => ∃ j : Nat, j ≤ x.size ∧ i = .int .i64 j ∧ Hid (BtAt x j)) (fun i => x.size - (intOf i).toNat)
                case atStart => exact ⟨0, Nat.zero_le _, rfl, Lib.hid (fun t ht h => absurd h (Nat.not_lt_zero _))⟩
                case round =>
                  obtain ⟨j, hj, rfl, HJ⟩ := hrel
                  by_cases hjx : j < x.size
                  · by_cases hb1 : 128 ≤ ((x[j]'hjx).toNat : Int)
                    · go_wp2_with fail
                      go_ret
                      exact ⟨rfl, HW.out⟩
                    · cases hb2 : (((x[j]'hjx).toNat : Int) == 46) with
                      | true =>
                        go_wp2_with fail
                        go_ret
                        exact ⟨rfl, HW.out⟩
                      | false =>
                        have HJ2 := Lib.hid (HJ.out.next hjx hb1 hb2)
                        go_wp2_with fail
                        go_round
                        case rel => exact ⟨j + 1, by omega, by go_num, HJ2⟩
                        case measure => simp [intOf]; omega
                  · obtain ⟨hasc, hno⟩ := HJ.out.done hjx
                    obtain rfl : j = x.size := by omega
                    have HPL : Hid (PlainL (ls.getD k ByteArray.empty)) := by
                      rw [HX.out]
                      exact Lib.hid ⟨hx100, hasc, hno, HMK.out⟩
                    clear hasc hno HJ
                    cases b with
                    | false =>
                      have HN2 := Lib.hid (HP.out.next (b' := false) hkl HPL.out (by simp))
                      go_wp2_with fail
                      go_roundw
                      case rel =>
                        refine ⟨k + 1, T + (x.size + 1), false, by omega, by go_num, rfl, ?_, by omega, HW, ?_⟩
                        · go_num
                        · have := HN2.out
                          rw [HX.out] at this
                          exact Lib.hid this
                      case measure => simp [intOf]; omega
                    | true =>
                      have R := right_any x wr2 (by unfold maxLen; omega)
                      have HN2 := Lib.hid (HP.out.next (b' := rightB x) hkl HPL.out (by rw [HX.out, rightB_iff]; simp))
                      revert R HN2
                      generalize rightB x = b2
                      intro R HN2
                      go_wp2_with fail
                      refine R.mono ?_; rintro e w' ⟨rfl, rfl⟩
                      clear R
                      go_wp2_with fail
                      go_roundw
                      case rel =>
                        refine ⟨k + 1, T + (x.size + 1), b2, by omega, by go_num, by first | rfl | simp, ?_, by omega, HW, ?_⟩
                        · go_num
                        · have := HN2.out
                          rw [HX.out] at this
                          exact Lib.hid this
                      case measure => simp [intOf]; omega
            · have hx100' : decide ((100 : Int) < (x.size : Int)) = true := decide_eq_true (by omega)
              go_wp2_with fail
              go_ret
              exact ⟨rfl, HW0.out⟩
          · obtain rfl : k = n := by omega
            have hall : ∀ x ∈ ls, PlainL x := by
              have := HP.out.all
              rwa [← HN.out, List.take_length] at this
            have hok : b = true ↔ ∀ x ∈ ls, RightL x.data.toList := by
              have := HP.out.ok
              rwa [← HN.out, List.take_length] at this
            have hne : ls ≠ [] := fun e => by
              have := HN.out
              rw [e] at this
              simp at this; omega
            have hTJ : T = (jn (ls.map (·.data.toList))).length + 1 := by
              have := HP.out.size
              rw [← HN.out, List.take_length] at this
              rw [this]; exact tk_jn ls hne
            obtain ⟨q1, q2, q3, q4⟩ := plain_ta hall hne (by rw [HN.out]; exact h10) HL.out pt
            have J1 := join_t (some ⟨b0, o0, none⟩) cap k ls wr (HE.out.below HW0.out) HN.out h1 (HT.out.below HW0.out) hcap (by omega) (by omega)
            obtain ⟨y, hy⟩ : ∃ y : ByteArray, y = ⟨(jn (ls.map (·.data.toList))).toArray⟩ := ⟨_, rfl⟩
            have hyd : y.data.toList = jn (ls.map (·.data.toList)) := by rw [hy]
            have HY := Lib.hid hy
            have hyz : y.size + 1 = T := by rw [Lib.size_eq, hyd, hTJ]
            have hT2 : T ≤ 1010 := by omega
            rw [← hy] at J1
            rw [← hyd] at q2 q3 q4
            have HOK := Lib.hid hok
            clear hall hok hne hTJ q1 HP HL HW1 hyd hy
            go_wp2_with fail
            refine J1.mono ?_; rintro e w2 ⟨rfl, hb2, he2⟩
            have HW2 := Lib.hid (HW0.out.trans (hb2.mono HW0.out.size))
            clear J1 hb2 HW0
            obtain ⟨S, hS⟩ : ∃ S : ByteArray, S = if pt = true then y ++ { data := #[46] } else y := ⟨_, rfl⟩
            have hSd : S.data.toList = if pt = true then y.data.toList ++ [46] else y.data.toList := by
              rw [hS]
              cases pt with
              | true => exact join_point y
              | false => rfl
            rw [← hSd] at q2 q3 q4
            have hSz : S.size ≤ 1010 := by
              rw [hS]
              cases pt with
              | true =>
                show (y ++ { data := #[46] } : ByteArray).size ≤ _
                rw [ByteArray.size_append]; show y.size + 1 ≤ _; omega
              | false => show y.size ≤ _; omega
            have key : ∃ (t : ByteArray) (m : Nat), TA S.data.toList m t.data.toList ∧ ((b = false ∧ m = 1) ∨ (b = true ∧ 254 < T ∧ m = 2) ∨ (b = true ∧ T ≤ 254 ∧ m = 0 ∧ t = lowB y)) := by
              cases b with
              | false => exact ⟨⟨#[]⟩, 1, q2 (fun h => by have := HOK.out.2 h; cases this), .inl ⟨rfl, rfl⟩⟩
              | true =>
                have hr := HOK.out.1 rfl
                by_cases hbig : T ≤ 254
                · exact ⟨lowB y, 0, by rw [lowB_data]; exact q4 hr (by rw [← Lib.size_eq]; omega), .inr (.inr ⟨rfl, hbig, rfl, rfl⟩)⟩
                · exact ⟨⟨#[]⟩, 2, q3 hr (by rw [← Lib.size_eq]; omega), .inr (.inl ⟨rfl, by omega, rfl⟩)⟩
            obtain ⟨t, m, hta, hcs⟩ := key
            have C := ta_at S t m w2 he2 (by omega) hta
            clear q2 q3 q4 hta hSd HOK
            have hpts : (pt = true ∧ S = y ++ { data := #[46] }) ∨ (pt = false ∧ y = S) := by
              rw [hS]
              cases pt with
              | true => exact .inl ⟨rfl, rfl⟩
              | false => exact .inr ⟨rfl, rfl⟩
            clear hS hSz
            rcases hpts with ⟨rfl, rfl⟩ | ⟨rfl, rfl⟩
            all_goals
              go_wp2_with fail
              refine C.mono ?_; rintro e w3 ⟨rfl, hb3, he3⟩
              have HW3 := Lib.hid (HW2.out.trans (hb3.mono HW2.out.size))
              clear C hb3
              rcases hcs with ⟨rfl, rfl⟩ | ⟨rfl, hbig, rfl⟩ | ⟨rfl, hbig, rfl, rfl⟩
              · go_wp2_with fail
                go_ret
                exact ⟨rfl, HW3.out⟩
              · have hbig' : decide ((253 : Int) < (T : Int) - 1) = true := decide_eq_true (by omega)
                go_wp2_with fail
                go_ret
                exact ⟨rfl, HW3.out⟩
              · have hbig' : decide ((253 : Int) < (T : Int) - 1) = false := decide_eq_false (by omega)
                have J2 := join_t (some ⟨b0, o0, none⟩) cap k ls w3 he3 HN.out h1 (HT.out.below HW3.out) hcap (by omega) (by
                  have := HY.out
                  have h2 : y.data.toList = jn (ls.map (·.data.toList)) := by rw [this]
                  rw [← h2, ← Lib.size_eq]; omega)
                rw [← HY.out] at J2
                go_wp2_with fail
                refine J2.mono ?_; rintro e w4 ⟨rfl, hb4, he4⟩
                have HW4 := Lib.hid (HW3.out.trans (hb4.mono HW3.out.size))
                clear J2 hb4
                have L2 := lower_e y w4 he4 (by omega)
                go_wp2_with fail
                refine L2.mono ?_; rintro e w5 ⟨rfl, hb5, he5⟩
                have HW5 := Lib.hid (HW4.out.trans (hb5.mono HW4.out.size))
                clear L2 hb5
                go_wp2_with fail
                go_ret
                exact ⟨ret_bool (by simp), HW5.out⟩
    · have h10' : decide ((10 : Int) < (n : Int)) = true := decide_eq_true (by omega)
      clear hA
      go_enter Tryd.func5, Tryd.ntmps5
      go_wp2_with fail
      refine (fit_e w he).mono ?_; rintro e w1 ⟨rfl, hb1, he1⟩
      go_wp2_with fail
      go_ret
      exact ⟨rfl, hb1⟩
end Go.Proofs.YtiaijbklpkapmaaDoor
