/-
  The walk of CandNone. Conditions: the texts have lengths that may be, and the library's variable MaxLen holds some number.
-/
import Derived.Test.YtddgkignojfgiaaDoorCandFit
namespace Go.Proofs.YtddgkignojfgiaaDoor
open Go.RowKit

theorem candL_none {dots : Int} {t : ByteArray} (h : t.size ≤ 253) : candL dots [] t = [t] := by
  have h1 : addL [] t = [t] := addL_in (fun h' => h'.elim (fun h' => by omega) (fun h' => by cases h'))
  rw [candL_snoc]
  cases fstB dots t
  · exact h1
  · show addL (addL [] t) t = [t]
    rw [h1]; exact addL_out (.inr (List.mem_singleton.2 rfl))
theorem resL_none {dots : Int} {s t : ByteArray} (h : t.size ≤ 253) : resL 0 dots [] s t = [t] := by
  unfold resL
  rw [if_neg (by simp), candL_none h]
  split <;> rfl
theorem resL_err {n : Nat} {dots : Int} {ds : List ByteArray} {s t : ByteArray} (h : n ≠ 0) : resL n dots ds s t = [] := if_pos h
theorem tot_mem {ls : List ByteArray} {d : ByteArray} (h : d ∈ ls) : d.size ≤ tot ls := by
  induction ls with
  | nil => cases h
  | cons x l ih =>
    rcases List.mem_cons.1 h with rfl | h
    · simp only [tot]; omega
    · have := ih h; simp only [tot]; omega
set_option maxRecDepth 100000 in
set_option maxHeartbeats 1000000 in
theorem candNone_walk (s : ByteArray) (A : Option Addr) (n c : Nat) (ls : List ByteArray) (W : World) (he : Env W) (hs : s.size ≤ 140737488351232) (hn : ls.length = n) (hT : Txts W A ls) (hnc : n ≤ c) (htot : n ≤ 20 → tot ls ≤ 9223372036854775807) :
    Calls Tryd.prog 7 #[.string s, .slice A n c] W fun e w' => e = .returned (.bool true) ∧ Below W.heap.size W w' := by
  subst hn
  have hF := fit12_e W he
  have HTX := Lib.hid hT
  clear he hT
  by_cases hs6 : s.size ≤ 600
  · by_cases hn10 : ls.length ≤ 10
    · have hts := htot (by omega)
      clear htot
      go_enter Tryd.func7, Tryd.ntmps7
      go_wp2_with fail
      refine hF.mono ?_; rintro e w1 ⟨rfl, hb1, hE1⟩
      have HB1 := Lib.hid hb1
      have HE1 := Lib.hid hE1
      have HT1 := Lib.hid (HTX.out.below hb1)
      clear hb1 hE1 HTX hF
      go_wp2_with fail
      go_loop [23] (fun i => ∃ k : Nat, k ≤ ls.length ∧ i = .int .i64 k) (fun i => ls.length - (intOf i).toNat)
      case atStart => exact ⟨0, Nat.zero_le _, rfl⟩
      case round =>
        obtain ⟨k, hk, rfl⟩ := hrel
        by_cases hlt : k < ls.length
        · obtain ⟨g, o, rfl, hgl, hcell⟩ := HT1.out (by omega)
          have c0 := hcell k hlt
          have hdz : (ls.getD k ByteArray.empty).size ≤ 9223372036854775807 := Nat.le_trans (tot_mem (by rw [List.getD, List.getElem?_eq_getElem hlt]; exact List.getElem_mem hlt)) hts
          clear hcell
          revert c0 hdz
          generalize ls.getD k ByteArray.empty = d
          intro c0 hdz
          by_cases hd3 : d.size ≤ 300
          · go_wp2_with fail
            go_round
            case rel => exact ⟨k + 1, by omega, by go_num⟩
            case measure => simp [intOf]; omega
          · have hd3' : 300 < d.size := by omega
            clear hd3
            go_wp2_with fail
            go_ret
            exact ⟨rfl, HB1.out⟩
        · obtain rfl : k = ls.length := by omega
          go_wp2_with fail
          refine (ta_c s w1 HE1.out (by omega)).mono ?_; rintro e w2 ⟨m, t, rfl, hb2, hE2, hta⟩
          have HB2 := Lib.hid (HB1.out.trans (hb2.mono HB1.out.size))
          have HE2 := Lib.hid hE2
          clear hb2 hE2
          have C := list_at (.slice none 0 0) none 0 [] 1 0 0 s t m hta.out w2 HE2.out (fun h => absurd h (by simp)) (by simp) (by simp) (by omega)
          rw [List.length_nil] at C
          by_cases hm : m = 0
          · subst hm
            rw [resL_none (by rw [Lib.size_eq]; exact hta.out.right.2.1)] at C
            clear hta
            go_wp2_with fail
            refine C.mono ?_; rintro e w3 ⟨v, rfl, hr, hb, hE⟩
            obtain ⟨vA, vc, rfl⟩ := ownT_fm hr
            have HB3 := Lib.hid (HB2.out.trans (hb.mono HB2.out.size))
            clear C hr hb hE
            go_wp2_with fail
            go_ret
            exact ⟨rfl, HB3.out⟩
          · rw [resL_err hm] at C
            have hm' : ¬ ((m : Int) = 0) := by omega
            clear hta hm
            go_wp2_with fail
            refine C.mono ?_; rintro e w3 ⟨v, rfl, hr, hb, hE⟩
            obtain ⟨vA, vc, rfl⟩ := ownT_fm hr
            have HB3 := Lib.hid (HB2.out.trans (hb.mono HB2.out.size))
            clear C hr hb hE
            go_wp2_with fail
            go_ret
            exact ⟨rfl, HB3.out⟩
    · have hn10' : 10 < ls.length := by omega
      clear htot hn10
      go_enter Tryd.func7, Tryd.ntmps7
      go_wp2_with fail
      refine hF.mono ?_; rintro e w1 ⟨rfl, hb1, hE1⟩
      go_wp2_with fail
      go_ret
      exact ⟨rfl, hb1⟩
  · have hs6' : 600 < s.size := by omega
    clear htot hs6
    go_enter Tryd.func7, Tryd.ntmps7
    go_wp2_with fail
    refine hF.mono ?_; rintro e w1 ⟨rfl, hb1, hE1⟩
    go_wp2_with fail
    go_ret
    exact ⟨rfl, hb1⟩
end Go.Proofs.YtddgkignojfgiaaDoor
