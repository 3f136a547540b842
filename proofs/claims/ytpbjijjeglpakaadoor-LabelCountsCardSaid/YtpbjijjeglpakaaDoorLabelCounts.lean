/-
  The walk of LabelCounts: whatever two lists of texts it is called with, it returns true. Conditions: the lists' texts lie within the form's own reach, and the library's variable MaxLen holds some number.
-/
import Derived.Test.YtpbjijjeglpakaaDoorCountsLib
namespace Go.Proofs.YtpbjijjeglpakaaDoor
open Go.RowKit

/- the ways on which the law passes the lists over -/
set_option maxRecDepth 100000 in
set_option maxHeartbeats 1000000 in
theorem labelCounts_over (A B : Option Addr) (c d n m : Nat) (ls ks : List ByteArray) (w : World) (he : Env w) (hn : ls.length = n) (hm : ks.length = m) (hn63 : n ≤ 9223372036854775807) (hm63 : m ≤ 9223372036854775807) (hA : Txts w A ls) (hB : Txts w B ks) (ht1 : n ≤ 20 → tot ls ≤ 9223372036854775807) (ht2 : m ≤ 20 → tot ks ≤ 9223372036854775807)
    (hov : ¬ (n ≤ 20 ∧ m ≤ 20 ∧ tot ls ≤ 600 ∧ tot ks ≤ 600 ∧ 0 < m)) :
    Calls Tryd.prog 8 #[.slice A n c, .slice B m d] w fun e w' => e = .returned (.bool true) ∧ Below w.heap.size w w' := by
  by_cases h1 : n ≤ 20
  · by_cases h2 : m ≤ 20
    · have f1 : decide ((20 : Int) < (n : Int)) = false := decide_eq_false (by omega)
      have f2 : decide ((20 : Int) < (m : Int)) = false := decide_eq_false (by omega)
      have L1 : ∀ w1, Below w.heap.size w w1 → Calls Tryd.prog 10 #[.slice A n c] w1 fun e w' => e = .returned (.bool (decide (tot ls ≤ 600))) ∧ w1 = w' := fun w1 hb => by
        have := (hA.below hb).light c (ht1 h1) (by omega)
        rw [hn] at this; exact this
      have L2 : ∀ w1, Below w.heap.size w w1 → Calls Tryd.prog 10 #[.slice B m d] w1 fun e w' => e = .returned (.bool (decide (tot ks ≤ 600))) ∧ w1 = w' := fun w1 hb => by
        have := (hB.below hb).light d (ht2 h2) (by omega)
        rw [hm] at this; exact this
      clear hA hB ht1 ht2 hn hm
      by_cases h3 : tot ls ≤ 600
      · by_cases h4 : tot ks ≤ 600
        · obtain rfl : m = 0 := by
            rcases Nat.eq_zero_or_pos m with h | h
            · exact h
            · exact absurd ⟨h1, h2, h3, h4, h⟩ hov
          clear hov
          go_enter Tryd.func8, Tryd.ntmps8
          go_wp2_with fail
          refine (fit_e w he).mono ?_; rintro e w1 ⟨rfl, hb1, he1⟩
          go_wp2_with fail
          refine (L1 _ hb1).mono ?_; rintro e w2 ⟨rfl, rfl⟩
          rw [decide_eq_true h3]
          go_wp2_with fail
          refine (L2 _ hb1).mono ?_; rintro e w2 ⟨rfl, rfl⟩
          rw [decide_eq_true h4]
          go_wp2
          go_ret
          exact ⟨rfl, hb1⟩
        · clear hov
          go_enter Tryd.func8, Tryd.ntmps8
          go_wp2_with fail
          refine (fit_e w he).mono ?_; rintro e w1 ⟨rfl, hb1, he1⟩
          go_wp2_with fail
          refine (L1 _ hb1).mono ?_; rintro e w2 ⟨rfl, rfl⟩
          rw [decide_eq_true h3]
          go_wp2_with fail
          refine (L2 _ hb1).mono ?_; rintro e w2 ⟨rfl, rfl⟩
          rw [decide_eq_false h4]
          go_wp2
          go_ret
          exact ⟨rfl, hb1⟩
      · clear hov
        go_enter Tryd.func8, Tryd.ntmps8
        go_wp2_with fail
        refine (fit_e w he).mono ?_; rintro e w1 ⟨rfl, hb1, he1⟩
        go_wp2_with fail
        refine (L1 _ hb1).mono ?_; rintro e w2 ⟨rfl, rfl⟩
        rw [decide_eq_false h3]
        go_wp2
        go_ret
        exact ⟨rfl, hb1⟩
    · have f1 : decide ((20 : Int) < (n : Int)) = false := decide_eq_false (by omega)
      have f2 : decide ((20 : Int) < (m : Int)) = true := decide_eq_true (by omega)
      clear hov ht1 ht2 hA hB hn hm
      go_enter Tryd.func8, Tryd.ntmps8
      go_wp2_with fail
      refine (fit_e w he).mono ?_; rintro e w1 ⟨rfl, hb1, he1⟩
      go_wp2
      go_ret
      exact ⟨rfl, hb1⟩
  · have f1 : decide ((20 : Int) < (n : Int)) = true := decide_eq_true (by omega)
    clear hov ht1 ht2 hA hB hn hm
    go_enter Tryd.func8, Tryd.ntmps8
    go_wp2_with fail
    refine (fit_e w he).mono ?_; rintro e w1 ⟨rfl, hb1, he1⟩
    go_wp2
    go_ret
    exact ⟨rfl, hb1⟩

set_option maxRecDepth 100000 in
set_option maxHeartbeats 2000000 in
theorem labelCounts_main (A B : Option Addr) (c d n m : Nat) (ls ks : List ByteArray) (w : World) (he : Env w) (hn : ls.length = n) (hm : ks.length = m) (hA : Txts w A ls) (hB : Txts w B ks) (hcA : A = none → c = 0) (hcB : B = none → d = 0) (hmd : m ≤ d)
    (h1 : n ≤ 20) (h2 : m ≤ 20) (h3 : tot ls ≤ 600) (h4 : tot ks ≤ 600) (h5 : 0 < m) :
    Calls Tryd.prog 8 #[.slice A n c, .slice B m d] w fun e w' => e = .returned (.bool true) ∧ Below w.heap.size w w' := by
  have f1 : decide ((20 : Int) < (n : Int)) = false := decide_eq_false (by omega)
  have f2 : decide ((20 : Int) < (m : Int)) = false := decide_eq_false (by omega)
  have f3 : ((m : Int) == 0) = false := beq_eq_false_iff_ne.2 (by omega)
  have L1 : ∀ w1, Below w.heap.size w w1 → Calls Tryd.prog 10 #[.slice A n c] w1 fun e w' => e = .returned (.bool true) ∧ w1 = w' := fun w1 hb => by
    have := (hA.below hb).light c (by omega) (by omega)
    rw [hn, decide_eq_true h3] at this; exact this
  have L2 : ∀ w1, Below w.heap.size w w1 → Calls Tryd.prog 10 #[.slice B m d] w1 fun e w' => e = .returned (.bool true) ∧ w1 = w' := fun w1 hb => by
    have := (hB.below hb).light d (by omega) (by omega)
    rw [hm, decide_eq_true h4] at this; exact this
  have HN := Lib.hid hn
  have HM := Lib.hid hm
  clear hn hm
  go_enter Tryd.func8, Tryd.ntmps8
  go_wp2_with fail
  refine (fit_e w he).mono ?_; rintro e w1 ⟨rfl, hb1, he1⟩
  go_wp2_with fail
  refine (L1 _ hb1).mono ?_; rintro e w2 ⟨rfl, rfl⟩
  go_wp2_with fail
  refine (L2 _ hb1).mono ?_; rintro e w2 ⟨rfl, rfl⟩
  go_wp2_with (first | (at_builtin; refine wpList_append_txts rfl (.const (.slice none 0 0)) (.tmp 34) rfl w.heap.size (.slice none 0 0) [] ls 0 rfl (World.ownsRow_nil _ _ _ _) A n c rfl hcA HN.out (hA.below hb1) (by omega) hb1.size ?_; intro v1 w2 hown1 hgr1; rw [Nat.zero_add, List.nil_append] at hown1; have hb2 : Below w.heap.size w w2 := hb1.grown hgr1 hb1.size (fun k hk => by cases hk)) | (at_builtin; refine wpList_append_txts rfl (.tmp 35) (.tmp 36) rfl w.heap.size v1 ls ks n rfl hown1 B m d rfl hcB HM.out (hB.below hb2) (by omega) hb2.size ?_; intro v2 w3 hown2 hgr2; have hb3 : Below w.heap.size w w3 := hb2.grown hgr2 hb2.size (fun k hk => (hown1.lt k hk).1); obtain ⟨g, cap, hv2, hcap, hlen, htx⟩ := txts_of_row hown2 (by omega); have HL := Lib.hid hlen; rw [hv2]; clear hgr1 hgr2 hown1 hown2 hb1 hb2 he1 hlen hv2 hcap))
  have hq : n + m ≤ 40 := by omega
  go_loopw [6, 39] (fun _ i wr => ∃ j : Nat, j ≤ n + m ∧ i = .int .i64 j ∧ Below w.heap.size w wr ∧ Txts wr (some ⟨g, 0, none⟩) (ls ++ ks) ∧ Seen (ls ++ ks) j) (fun _ i _ => n + m - (intOf i).toNat)
  case atStart => exact ⟨0, Nat.zero_le _, rfl, hb3, htx, fun i hi => absurd hi (Nat.not_lt_zero i)⟩
  case round =>
    clear hb3 htx
    obtain ⟨j, hj, rfl, hbr, hxr, hseen⟩ := hrel
    have HX := Lib.hid hxr
    have HS := Lib.hid hseen
    clear hxr hseen
    by_cases hlt : j < n + m
    · have hjl : j < (ls ++ ks).length := by have := HL.out; omega
      have HG : Hid (∃ b o, some (⟨g, 0, none⟩ : Addr) = some ⟨b, o, none⟩ ∧ b < wr.heap.size ∧ ∀ i, i < (ls ++ ks).length → wr.cell? ⟨b, o + i, none⟩ = some (.string ((ls ++ ks).getD i ByteArray.empty))) := HX.out (by omega)
      have c0 : wr.cell? ⟨g, j, none⟩ = some (.string ((ls ++ ks).getD j ByteArray.empty)) := by
        obtain ⟨b, o, e, _, hc⟩ := HG.out
        injection e with e
        injection e with e1 e2 _
        have := hc j hjl
        rw [← e1, ← e2, Nat.zero_add] at this
        exact this
      have hxs : ((ls ++ ks).getD j ByteArray.empty).size < 4294967281 := by
        have := tot_mem _ _ (getD_mem hjl)
        rw [tot_append] at this
        omega
      have HNx : Hid ((((ls ++ ks).getD j ByteArray.empty).toList.isEmpty) = false → (pieces ((ls ++ ks).getD j ByteArray.empty)).length = 1 → Seen (ls ++ ks) (j + 1)) := fun h1 h2 => HS.out.next h1 h2
      clear HG hjl
      generalize (ls ++ ks).getD j ByteArray.empty = x at c0 hxs HNx
      have her := he.below hbr
      cases h0 : x.toList.isEmpty
      · by_cases hp : (pieces x).length = 1
        · have hp1 : (((pieces x).length : Int) != 1) = false := by rw [hp]; rfl
          have HP := Lib.hid hp
          have H0 := Lib.hid h0
          clear hp
          go_wp2_with fail
          refine (split_e x _ her hxs).mono ?_; rintro e w5 ⟨b, rfl, hb5, _, _, _⟩
          have HX5 := Lib.hid (HX.out.below hb5)
          have hb6 := hbr.trans (hb5.mono hbr.size)
          go_wp2
          go_roundw
          case rel => exact ⟨j + 1, by omega, by go_num, hb6, HX5.out, HNx.out H0.out HP.out⟩
          case measure => simp [intOf]; omega
        · have hp1 : (((pieces x).length : Int) != 1) = true := by rw [bne_iff_ne]; intro e; apply hp; omega
          clear hp
          go_wp2_with fail
          refine (split_e x _ her hxs).mono ?_; rintro e w5 ⟨b, rfl, hb5, _, _, _⟩
          have hb6 := hbr.trans (hb5.mono hbr.size)
          go_wp2
          go_ret
          exact ⟨rfl, hb6⟩
      · go_wp2
        go_ret
        exact ⟨rfl, hbr⟩
    · obtain rfl : j = n + m := by omega
      have HPl : Hid (Plain (ls ++ ks)) := by
        have h := HS.out
        rw [HL.out] at h
        exact h.all
      have hk0 : ks ≠ [] := fun e => by have := HM.out; rw [e] at this; simp at this; omega
      have HPk : Hid (Plain ks) := fun x hx => HPl.out x (List.mem_append_right _ hx)
      have her := he.below hbr
      clear HS HX
      go_wp2_with fail
      refine (join_j B d m ks _ her HM.out h5 (hB.below hbr) hmd (by omega) (by omega)).mono ?_; rintro e w5 ⟨rfl, hb5, _⟩
      have hb6 := hbr.trans (hb5.mono hbr.size)
      clear hb5 hbr her
      go_wp2_with (first | (at_builtin; refine wpList_append_txts rfl (.const (.slice none 0 0)) (.tmp 54) rfl w.heap.size (.slice none 0 0) [] ls 0 rfl (World.ownsRow_nil _ _ _ _) A n c rfl hcA HN.out (hA.below hb6) (by omega) hb6.size ?_; intro v3 w6 hown3 hgr3; rw [Nat.zero_add, List.nil_append] at hown3; have hb7 : Below w.heap.size w w6 := hb6.grown hgr3 hb6.size (fun k hk => by cases hk)) | (at_builtin; refine wpList_append_txts rfl (.tmp 55) (.tmp 56) rfl w.heap.size v3 ls ks n rfl hown3 B m d rfl hcB HM.out (hB.below hb7) (by omega) hb7.size ?_; intro v4 w7 hown4 hgr4; have hb8 : Below w.heap.size w w7 := hb7.grown hgr4 hb7.size (fun k hk => (hown3.lt k hk).1); obtain ⟨g2, cap2, hv4, hcap2, hlen2, htx2⟩ := txts_of_row hown4 (by omega); clear hlen2; rw [hv4]; clear hgr3 hgr4 hown3 hown4 hb6 hb7 hv4) | fail)
      refine (join_j _ cap2 (n + m) (ls ++ ks) _ (he.below hb8) HL.out.symm (by omega) htx2 hcap2 hq (by rw [tot_append]; omega)).mono ?_; rintro e w8 ⟨rfl, hb9, _⟩
      have hb10 := hb8.trans (hb9.mono hb8.size)
      clear hb8 hb9 htx2
      have hdk : (jB ks).size < 4294967281 := by have := jB_size ks; have := HM.out; omega
      have hdn : (jB (ls ++ ks)).size < 4294967281 := by have h := jB_size (ls ++ ks); rw [tot_append] at h; have := HL.out; omega
      have Q1 : Hid ((cntB (jB ks) : Int) = (m : Int)) := by show _ = _; rw [cnt_jB hk0 HPk.out, HM.out]
      have Q2 : Hid ((cntB (jB (ls ++ ks)) : Int) = (n : Int) + (m : Int)) := by
        show _ = _
        rw [cnt_jB (by simp [hk0]) HPl.out, ← HL.out]; omega
      have U1 := Lib.hid (und_jB (ls := ls) hk0)
      have U2 : Hid (¬ n = 0 → undB (jB ks) (jB (ls ++ ks)) = false) := fun h => not_und_jB (fun e => h (by rw [← HN.out, e]; rfl)) hk0 HPl.out
      clear hk0
      by_cases hn0 : n = 0
      · have f5 : ((n : Int) == 0) = true := by rw [hn0]; rfl
        clear U2 hn0
        go_wp2_with fail
        refine (count_p _ _ _ (he.below hb10) hdk Q1.out).mono ?_; rintro e w9 ⟨rfl, hb, he9⟩
        replace hb10 := hb10.trans (hb.mono hb10.size)
        clear hb
        go_wp2_with fail
        refine (count_p _ _ _ he9 hdn Q2.out).mono ?_; rintro e w10 ⟨rfl, hb, he10⟩
        replace hb10 := hb10.trans (hb.mono hb10.size)
        clear hb
        go_wp2_with fail
        refine (under_t _ _ _ he10 hdn hdk U1.out).mono ?_; rintro e w11 ⟨rfl, hb, he11⟩
        replace hb10 := hb10.trans (hb.mono hb10.size)
        clear hb
        go_wp2
        go_ret
        exact ⟨rfl, hb10⟩
      · have f5 : ((n : Int) == 0) = false := by rw [beq_eq_false_iff_ne]; omega
        have U3 := Lib.hid (U2.out hn0)
        clear U2 hn0
        go_wp2_with fail
        refine (count_p _ _ _ (he.below hb10) hdk Q1.out).mono ?_; rintro e w9 ⟨rfl, hb, he9⟩
        replace hb10 := hb10.trans (hb.mono hb10.size)
        clear hb
        go_wp2_with fail
        refine (count_p _ _ _ he9 hdn Q2.out).mono ?_; rintro e w10 ⟨rfl, hb, he10⟩
        replace hb10 := hb10.trans (hb.mono hb10.size)
        clear hb
        go_wp2_with fail
        refine (under_t _ _ _ he10 hdn hdk U1.out).mono ?_; rintro e w11 ⟨rfl, hb, he11⟩
        replace hb10 := hb10.trans (hb.mono hb10.size)
        clear hb
        go_wp2_with fail
        refine (under_f _ _ _ he11 hdk hdn U3.out).mono ?_; rintro e w12 ⟨rfl, hb, he12⟩
        replace hb10 := hb10.trans (hb.mono hb10.size)
        clear hb
        go_wp2
        go_ret
        exact ⟨rfl, hb10⟩

theorem labelCounts_walk (A B : Option Addr) (c d n m : Nat) (ls ks : List ByteArray) (w : World) (he : Env w) (hn : ls.length = n) (hm : ks.length = m) (hn63 : n ≤ 9223372036854775807) (hm63 : m ≤ 9223372036854775807) (hA : Txts w A ls) (hB : Txts w B ks) (ht1 : n ≤ 20 → tot ls ≤ 9223372036854775807) (ht2 : m ≤ 20 → tot ks ≤ 9223372036854775807) (hcA : A = none → c = 0) (hcB : B = none → d = 0) (hmd : m ≤ d) :
    Calls Tryd.prog 8 #[.slice A n c, .slice B m d] w fun e w' => e = .returned (.bool true) ∧ Below w.heap.size w w' := by
  by_cases h : n ≤ 20 ∧ m ≤ 20 ∧ tot ls ≤ 600 ∧ tot ks ≤ 600 ∧ 0 < m
  · exact labelCounts_main A B c d n m ls ks w he hn hm hA hB hcA hcB hmd h.1 h.2.1 h.2.2.1 h.2.2.2.1 h.2.2.2.2
  · exact labelCounts_over A B c d n m ls ks w he hn hm hn63 hm63 hA hB ht1 ht2 h
end Go.Proofs.YtpbjijjeglpakaaDoor
