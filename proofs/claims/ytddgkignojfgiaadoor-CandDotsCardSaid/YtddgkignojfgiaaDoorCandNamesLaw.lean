/-
  The walk of CandNames. Conditions: the texts have lengths that may be, and the library's variable MaxLen holds some number.
-/
import Derived.Test.YtddgkignojfgiaaDoorCandNoneLaw
namespace Go.Proofs.YtddgkignojfgiaaDoor
open Go.RowKit

theorem bytes_dif {y s : ByteArray} (h : ¬ y = s) : (y.toList == s.toList) = false := by
  rw [Bool.eq_false_iff, Ne, beq_iff_eq, Lib.toList_data, Lib.toList_data]
  exact fun e => h (bytes_inj e)
theorem getD_in {ls : List ByteArray} {k : Nat} (hk : k < ls.length) : ls.getD k ByteArray.empty ∈ ls := by
  rw [List.getD, List.getElem?_eq_getElem hk]; exact List.getElem_mem hk
theorem take_in {ls : List ByteArray} {k : Nat} {P : ByteArray → Prop} (hk : k < ls.length) (h : ∀ d ∈ ls.take k, P d) (h1 : P (ls.getD k ByteArray.empty)) : ∀ d ∈ ls.take (k + 1), P d := by
  intro d hd
  rw [List.take_succ_eq_append_getElem hk] at hd
  rcases List.mem_append.1 hd with hd | hd
  · exact h d hd
  · rw [List.mem_singleton.1 hd]
    rw [List.getD, List.getElem?_eq_getElem hk] at h1
    exact h1
theorem ext_self (t d : ByteArray) : (t ++ d).extract 0 t.size = t := by
  apply bytes_inj
  rw [ByteArray.data_extract, ByteArray.data_append, Array.toList_extract, List.extract_eq_take_drop, Array.toList_append, List.drop_zero, Nat.sub_zero, Lib.size_eq, List.take_left]
theorem ext_all (t : ByteArray) : t.extract 0 t.size = t := by
  apply bytes_inj
  rw [ByteArray.data_extract, Array.toList_extract, List.extract_eq_take_drop, List.drop_zero, Nat.sub_zero, Lib.size_eq, List.take_length]
theorem ret_c {a b : Bool} (h : a = b) : Ending.returned (.bool a) = .returned (.bool b) := by rw [h]
/-- each name that is tried begins with the one that goes out -/
theorem cand_first {dots : Int} {ds : List ByteArray} {t x : ByteArray} (hx : x ∈ candL dots ds t) : t.size ≤ x.size ∧ x.extract 0 t.size = t := by
  obtain ⟨_, rfl | ⟨d, _, rfl⟩⟩ := candL_mem hx
  · exact ⟨Nat.le_refl _, ext_all _⟩
  · refine ⟨by rw [dotB_size]; omega, ?_⟩
    unfold dotB
    rw [ByteArray.append_assoc]
    exact ext_self _ _
/-- what the list of a name that goes out is -/
theorem resL_good {dots : Int} {ds : List ByteArray} {s t : ByteArray} (hta : TA s.data.toList 0 t.data.toList) (hd : ∀ d ∈ ds, TA d.data.toList 0 d.data.toList) :
    (∀ x ∈ resL 0 dots ds s t, TA x.data.toList 0 x.data.toList ∧ t.size ≤ x.size ∧ x.extract 0 t.size = t ∧ x.size ≤ 253) ∧ 0 < (resL 0 dots ds s t).length ∧ (resL 0 dots ds s t).length ≤ ds.length + 1 := by
  have ht : t.size ≤ 253 := by rw [Lib.size_eq]; exact hta.right.2.1
  unfold resL
  rw [if_neg (by simp)]
  split
  · refine ⟨fun x hx => ?_, by simp, by simp⟩
    rw [List.mem_singleton.1 hx]
    exact ⟨hta.back.1, Nat.le_refl _, ext_all _, ht⟩
  · exact ⟨fun x hx => ⟨candL_out hta hd hx, (cand_first hx).1, (cand_first hx).2, (candL_mem hx).1⟩, candL_pos ht, candL_len _ _ _⟩
set_option maxRecDepth 100000 in
set_option maxHeartbeats 4000000 in
theorem candNames_walk (A : Option Addr) (n c : Nat) (ls : List ByteArray) (s : ByteArray) (W : World) (he : Env W) (hn : ls.length = n) (hT : Txts W A ls) (hnc : n ≤ c) (htot : n ≤ 20 → tot ls ≤ 9223372036854775807) (hs : s.size ≤ 140737488351232) :
    Calls Tryd.prog 4 #[.slice A n c, .string s] W fun e w' => e = .returned (.bool true) ∧ Below W.heap.size W w' := by
  subst hn
  have hF := fit12_e W he
  have HTX := Lib.hid hT
  clear he hT
  by_cases hn10 : ls.length ≤ 12
  · by_cases hs6 : s.size ≤ 600
    · have hts := htot (by omega)
      clear htot
      go_enter Tryd.func4, Tryd.ntmps4
      go_wp2_with fail
      refine hF.mono ?_; rintro e w1 ⟨rfl, hb1, hE1⟩
      have HB1 := Lib.hid hb1
      have HE1 := Lib.hid hE1
      clear hb1 hE1 hF
      go_wp2_with fail
      go_loopw [29] (fun i wr => ∃ k : Nat, k ≤ ls.length ∧ i = .int .i64 k ∧ Hid (Below W.heap.size W wr ∧ Env wr ∧ ∀ d ∈ ls.take k, TA d.data.toList 0 d.data.toList)) (fun i _ => ls.length - (intOf i).toNat)
      case atStart => exact ⟨0, Nat.zero_le _, rfl, Lib.hid ⟨HB1.out, HE1.out, fun d hd => by simp at hd⟩⟩
      case round =>
        obtain ⟨k, hk, rfl, hinv⟩ := hrel
        by_cases hlt : k < ls.length
        · obtain ⟨g, o, rfl, hgl, hcell⟩ := (HTX.out.below hinv.out.1) (by omega)
          have c0 := hcell k hlt
          have hdz : (ls.getD k ByteArray.empty).size ≤ 9223372036854775807 := Nat.le_trans (tot_mem (getD_in hlt)) hts
          have HN : Hid (TA (ls.getD k ByteArray.empty).data.toList 0 (ls.getD k ByteArray.empty).data.toList → ∀ d ∈ ls.take (k + 1), TA d.data.toList 0 d.data.toList) := Lib.hid (take_in hlt hinv.out.2.2)
          clear hcell
          revert c0 hdz HN
          generalize ls.getD k ByteArray.empty = d
          intro c0 hdz HN
          go_wp2_with fail
          refine (ta_c d wr hinv.out.2.1 (by omega)).mono ?_; rintro e w2 ⟨m, t, rfl, hb2, hE2, hta⟩
          have HB2 := Lib.hid (hinv.out.1.trans (hb2.mono hinv.out.1.size))
          have HE2 := Lib.hid hE2
          clear hb2 hE2 c0
          by_cases hm : m = 0
          · subst hm
            by_cases htd : t = d
            · subst htd
              have HN2 := Lib.hid (HN.out hta.out)
              clear hta
              go_wp2_with fail
              go_roundw
              case rel => exact ⟨k + 1, by omega, by go_num, Lib.hid ⟨HB2.out, HE2.out, HN2.out⟩⟩
              case measure => simp [intOf]; omega
            · have hne := bytes_dif htd
              clear hta htd
              go_wp2_with fail
              go_ret
              exact ⟨rfl, HB2.out⟩
          · have hm' : ¬ ((m : Int) = 0) := by omega
            clear hta hm
            go_wp2_with fail
            go_ret
            exact ⟨rfl, HB2.out⟩
        · obtain rfl : k = ls.length := by omega
          rw [List.take_length] at hinv
          have C := list_e (.slice none 0 0) A c ls 1 0 0 s wr hinv.out.2.1 (HTX.out.below hinv.out.1) (by omega) (fun d hd => by rw [Lib.size_eq]; have := (hinv.out.2.2 d hd).right.2.1; omega) (by omega)
          go_wp2_with fail
          refine C.mono ?_; rintro e w2 ⟨m, t, v, rfl, hta, hr, hb, hE⟩
          have HB2 := Lib.hid (hinv.out.1.trans (hb.mono hinv.out.1.size))
          have HE2 := Lib.hid hE
          have HALL := Lib.hid hinv.out.2.2
          clear C hb hE hinv
          by_cases hm : m = 0
          · subst hm
            obtain ⟨p1, p2, p3⟩ := resL_good (dots := 1) hta.out HALL.out
            obtain ⟨L, hL⟩ : ∃ L, L = resL 0 1 ls s t := ⟨_, rfl⟩
            rw [← hL] at p1 p2 p3 hr
            obtain ⟨g2, c2, rfl, hc2, hg2, _, hcell2⟩ := ownT_full hr p2
            have HC2 := Lib.hid hcell2
            have P1 := Lib.hid p1
            have hr2 := ta_c s w2 HE2.out (by omega)
            have htz : t.size ≤ 253 := by rw [Lib.size_eq]; exact hta.out.right.2.1
            clear hr hcell2 p1 hL
            go_wp2_with fail
            refine hr2.mono ?_; rintro e w3 ⟨m2, t2, rfl, hb3, hE3, hta2⟩
            obtain ⟨e1, e2⟩ := hta2.out.det hta.out
            subst e1
            obtain rfl := bytes_inj e2
            have HB3 := Lib.hid (HB2.out.trans (hb3.mono HB2.out.size))
            have HE3 := Lib.hid hE3
            have HC3 : Hid (∀ j, j < L.length → w3.cell? ⟨g2, j, none⟩ = some (.string (L.getD j ByteArray.empty))) := Lib.hid (fun j hj => (hb3.cell (p := ⟨g2, j, none⟩) hg2).trans (HC2.out j hj))
            have hg3 : g2 < w3.heap.size := Nat.lt_of_lt_of_le hg2 hb3.size
            clear hr2 hb3 hE3 e2 hta2 HC2 hg2
            go_wp2_with fail
            go_loopw [62] (fun i wq => ∃ k : Nat, k ≤ L.length ∧ i = .int .i64 k ∧ Hid (Below w3.heap.size w3 wq ∧ Env wq)) (fun i _ => L.length - (intOf i).toNat)
            case atStart => exact ⟨0, Nat.zero_le _, rfl, Lib.hid ⟨Below.refl _ _, HE3.out⟩⟩
            case round =>
              obtain ⟨j, hj, rfl, hinv⟩ := hrel
              have hb := hinv.out.1
              by_cases hlt : j < L.length
              · have c0 := (hb.cell (p := ⟨g2, j, none⟩) hg3).trans (HC3.out j hlt)
                obtain ⟨q1, q2, q3, q4⟩ := P1.out _ (getD_in hlt)
                have HB := Lib.hid hb
                revert c0 q1 q2 q3 q4
                generalize L.getD j ByteArray.empty = x
                intro c0 q1 q2 q3 q4
                have C := ta_c x wr hinv.out.2 (by omega)
                have HQ1 := Lib.hid q1
                clear q1 hb
                go_wp2_with fail
                refine C.mono ?_; rintro e w4 ⟨m4, t4, rfl, hb4, hE4, hta4⟩
                obtain ⟨e1, e2⟩ := hta4.out.det HQ1.out
                subst e1
                obtain rfl := bytes_inj e2
                have HB4 := Lib.hid (HB.out.trans (hb4.mono HB.out.size))
                have HE4 := Lib.hid hE4
                clear C hb4 hE4 hta4 e2 c0
                go_wp2_with fail
                go_roundw
                case rel => exact ⟨j + 1, by omega, by go_num, Lib.hid ⟨HB4.out, HE4.out⟩⟩
                case measure => simp [intOf]; omega
              · obtain rfl : j = L.length := by omega
                have HBF := Lib.hid (HB3.out.trans (hb.mono HB3.out.size))
                clear hb
                go_wp2_with fail
                go_ret
                exact ⟨ret_c (by simp; omega), HBF.out⟩
          · have hm' : ¬ ((m : Int) = 0) := by omega
            clear hta hm hr
            go_wp2_with fail
            go_ret
            exact ⟨rfl, HB2.out⟩
    · have hs6' : 600 < s.size := by omega
      clear htot hs6
      go_enter Tryd.func4, Tryd.ntmps4
      go_wp2_with fail
      refine hF.mono ?_; rintro e w1 ⟨rfl, hb1, hE1⟩
      go_wp2_with fail
      go_ret
      exact ⟨rfl, hb1⟩
  · have hn10' : 12 < ls.length := by omega
    clear htot hn10
    go_enter Tryd.func4, Tryd.ntmps4
    go_wp2_with fail
    refine hF.mono ?_; rintro e w1 ⟨rfl, hb1, hE1⟩
    go_wp2_with fail
    go_ret
    exact ⟨rfl, hb1⟩
end Go.Proofs.YtddgkignojfgiaaDoor
