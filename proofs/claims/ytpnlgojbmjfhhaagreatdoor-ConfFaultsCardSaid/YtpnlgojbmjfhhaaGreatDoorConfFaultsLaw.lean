/-
  The walk of ConfFaults: a fault has the first line that is wrong, and one of the errors; what stands ahead of that line is right. Conditions: the text is one that may come in; the library's variables hold what their initialisers lay.
-/
import Derived.Test.YtpnlgojbmjfhhaaGreatDoorConfCommentsLaw
namespace Go.Proofs.YtpnlgojbmjfhhaaGreatDoor
open Go.RowKit

theorem nl_snoc (c : UInt8) : ∀ x : List UInt8, (nl (x ++ [c])).length = (nl x).length + (if c = 10 then 1 else 0)
  | [] => by
    show (if c = 10 then [] :: nl [] else _).length = _
    by_cases h : c = 10
    · rw [if_pos h, if_pos h]; rfl
    · rw [if_neg h, if_neg h]; rfl
  | d :: x => by
    have ih := nl_snoc c x
    rw [List.cons_append]
    by_cases h : d = 10
    · rw [nl, if_pos h, nl, if_pos h, List.length_cons, List.length_cons, ih]; omega
    · obtain ⟨y, t, hy⟩ := List.exists_cons_of_ne_nil (nl_ne (x ++ [c]))
      obtain ⟨y2, t2, hy2⟩ := List.exists_cons_of_ne_nil (nl_ne x)
      rw [nl_other h hy, nl_other h hy2]
      rw [hy, hy2, List.length_cons, List.length_cons] at ih
      rw [List.length_cons, List.length_cons]
      exact ih
theorem nl_count : ∀ x : List UInt8, (nl x).length ≤ x.length + 1
  | [] => by decide
  | d :: x => by
    have ih := nl_count x
    by_cases h : d = 10
    · rw [nl, if_pos h, List.length_cons, List.length_cons]; omega
    · obtain ⟨y2, t2, hy2⟩ := List.exists_cons_of_ne_nil (nl_ne x)
      rw [nl_other h hy2, List.length_cons, List.length_cons]
      rw [hy2, List.length_cons] at ih
      omega
theorem fault_ahead {S H R : List UInt8} {f k : Nat} {d : ConfM} (h : PcR 1 ConfM.dflt ((nl S).map wordsL) f k d) (hk : k ≠ 0) (hS : S = H ++ R) (hl : (nl H).length = f) (hH : H = [] ∨ ∃ a, H = a ++ [10]) :
    ∃ d', PcR 1 ConfM.dflt ((nl H).map wordsL) 0 0 d' := by
  rcases hH with rfl | ⟨a, rfl⟩
  · exact ⟨_, .line (LnR.blank _) .done⟩
  · subst hS
    rw [List.append_assoc, List.singleton_append, nl_append, List.map_append] at h
    have hl2 : (nl (a ++ [10])).length = (nl a).length + 1 := by rw [nl_snoc, if_pos rfl]
    obtain ⟨d', hd⟩ := h.ahead hk (by rw [List.length_map]; omega)
    refine ⟨d', ?_⟩
    rw [nl_append a [], List.map_append]
    exact hd
/-- how the loop over the text stands -/
structure FlAt (S : List UInt8) (f i ln : Nat) (hd : ByteArray) : Prop where
  head : hd.data.toList = S.take i
  line : ln = (nl (S.take i)).length
  le : ln ≤ f
  last : ln = f → S.take i = [] ∨ ∃ a, S.take i = a ++ [10]
theorem FlAt.next {S : List UInt8} {f i ln : Nat} {hd : ByteArray} {c : UInt8} (h : FlAt S f i ln hd) (hne : ln ≠ f) (hc : S[i]? = some c) (hd' : ByteArray) (hh : hd'.data.toList = hd.data.toList ++ [c]) : FlAt S f (i + 1) (ln + if c = 10 then 1 else 0) hd' := by
  have ht : S.take (i + 1) = S.take i ++ [c] := by rw [List.take_add_one, hc]; rfl
  refine ⟨by rw [hh, h.head, ht], by rw [ht, nl_snoc, ← h.line], ?_, fun e => ?_⟩
  · have := h.le; split <;> omega
  · rw [ht]
    by_cases h10 : c = 10
    · subst h10; exact .inr ⟨_, rfl⟩
    · rw [if_neg h10] at e; omega
set_option maxRecDepth 100000 in
set_option maxHeartbeats 64000000 in
theorem confFaults_walk (s : ByteArray) (hs : s.size ≤ 140737488351232) (w : World) (he : AEnv w) (ht : ETy w) : Calls Tryz.prog 4 #[.string s] w fun e w' => e = .returned (.bool true) ∧ Below w.heap.size w w' := by
  have hfit := fit7_e w he ht
  have HE := Lib.hid he
  have HT := Lib.hid ht
  have HZ := Lib.hid zeroConf
  have HZS : Hid (∀ W val c, CV W val c → ∃ r : Array Value, val = .agg r ∧ zConf.size = r.size ∧ (Tryz.prog.info? 26).map (·.size) = some r.size ∧ r.all (·.oneCell') = true) := Lib.hid (fun W val c h => by
    obtain ⟨r, h1, h2, h3, h4, _⟩ := CV.arr h
    exact ⟨r, h1, h2, h3, h4⟩)
  generalize zConf = Z at HZ HZS
  clear he ht
  by_cases hs2 : s.size ≤ 2000
  · have hsI : ¬ (2000 : Int) < (s.size : Int) := by omega
    have HP := Lib.hid (fun W (hW : AEnv W) => cparse_e s W hW (by omega))
    obtain ⟨S, hS⟩ : ∃ S, S = s.data.toList := ⟨_, rfl⟩
    have HSS := Lib.hid hS
    rw [← hS] at HP
    have HSl : Hid (S.length = s.size) := Lib.hid (by rw [hS, ← Lib.size_eq])
    clear hS
    go_enter Tryz.func4, Tryz.ntmps4
    go_wp2_with (go_at_call 9; refine hfit.mono ?_; rintro e w1 ⟨rfl, hb1⟩; have HB1 := Lib.hid hb1; clear hb1)
    refine (HP.out _ (HE.out.below HB1.out)).mono ?_
    rintro e w2 ⟨hb2, f, k, d, val, hpc, hcv, hr⟩
    obtain ⟨r, rfl, hzr, hsr, h1r⟩ := HZS.out _ _ _ hcv
    have HSR := Lib.hid hsr
    have HZR := Lib.hid hzr
    have H1R := Lib.hid h1r
    have HPC := Lib.hid hpc
    have HB2 := Lib.hid (HB1.out.trans (hb2.mono HB1.out.size))
    clear hcv hzr hsr h1r hpc hb2
    rcases hr with ⟨rfl, rfl⟩ | ⟨hk0, p, rfl, hf⟩
    · have HB3 := Lib.hid (HB2.out.alloc HB2.out.size (.cells r 26))
      go_wp2_with (first
        | (refine wpList_alloc_z rfl 26 rfl Z HZ.out ?_; go_simp)
        | (refine wpList_store_new rfl 26 (.tmp 3) (.tmp 20) rfl w2.heap.size rfl Z r 26 rfl rfl HSR.out HZR.out H1R.out ?_; go_simp))
      go_ret
      exact ⟨rfl, HB3.out⟩
    · obtain ⟨hf1, hf2, hk5⟩ : 1 ≤ f ∧ f < 1 + (nl S).length ∧ (k = 1 ∨ k = 2 ∨ k = 3 ∨ k = 5 ∨ k = 6) := by
        rcases HPC.out.num with ⟨h, _⟩ | ⟨h1, h2, h3, _⟩
        · exact absurd h hk0
        · rw [List.length_map] at h2; exact ⟨h1, h2, h3⟩
      have hfb : f ≤ 2001 := by have := nl_count S; rw [HSl.out] at this; omega
      have HF2 := Lib.hid hf2
      have hb3 : Below w2.heap.size w2 (((w2.alloc (.cells r 26)).alloc (.cells #[.pointer none] 35)).alloc (.cells #[.int .i64 0] 36)) := (((Below.refl _ w2).alloc (Nat.le_refl _) _).alloc (by simp only [World.size_alloc]; omega) _).alloc (by simp only [World.size_alloc]; omega) _
      have hKf : (((w2.alloc (.cells r 26)).alloc (.cells #[.pointer none] 35)).alloc (.cells #[.int .i64 0] 36)).heap[w2.heap.size + 1]? = some (.cells #[.pointer none] 35 (0, 0)) := by
        rw [Below.heap_alloc _ _ _ (by simp only [World.size_alloc]; omega)]
        have := heap_alloc_last (w2.alloc (.cells r 26)) (.cells #[.pointer none] 35)
        rwa [World.size_alloc] at this
      have hKe : (((w2.alloc (.cells r 26)).alloc (.cells #[.pointer none] 35)).alloc (.cells #[.int .i64 0] 36)).heap[w2.heap.size + 1 + 1]? = some (.cells #[.int .i64 0] 36 (0, 0)) := by
        have := heap_alloc_last ((w2.alloc (.cells r 26)).alloc (.cells #[.pointer none] 35)) (.cells #[.int .i64 0] 36)
        rwa [World.size_alloc, World.size_alloc] at this
      have hf3 := hf.below hb3
      generalize hW3 : (((w2.alloc (.cells r 26)).alloc (.cells #[.pointer none] 35)).alloc (.cells #[.int .i64 0] 36)) = W3 at hb3 hKf hKe hf3
      have HB3 := Lib.hid (HB2.out.trans (hb3.mono HB2.out.size))
      have HN : Hid (p ≠ w2.heap.size + 1 ∧ p ≠ w2.heap.size + 1 + 1 ∧ w2.heap.size + 1 + 1 ≠ w2.heap.size + 1 ∧ w2.heap.size + 1 ≠ w2.heap.size + 1 + 1 ∧ w.heap.size ≤ w2.heap.size + 1 ∧ w.heap.size ≤ w2.heap.size + 1 + 1) := Lib.hid (by have := HB2.out.size; have := hf.1; omega)
      have HAf := Lib.hid (asF_e ⟨p, 0, none⟩ (w2.heap.size + 1) _ W3 (HT.out.below HB3.out) (cell_of_row W3 _ 0 _ _ _ hKf) (frozen_of_row W3 _ 0 _ _ hKf))
      have HF3 := Lib.hid hf3
      have HKe := Lib.hid hKe
      have hk7 : ((k : Int) == 7) = false := by rw [beq_eq_false_iff_ne]; omega
      clear hb3 hKf hKe hf3 hf
      go_wp2_with (first
        | (refine wpList_alloc_z rfl 26 rfl Z HZ.out ?_; go_simp)
        | (refine wpList_store_new rfl 26 (.tmp 3) (.tmp 20) rfl w2.heap.size rfl Z r 26 rfl rfl HSR.out HZR.out H1R.out ?_; go_simp))
      refine HAf.out.mono ?_
      rintro e W4 ⟨rfl, hg4, cf4⟩
      have hp0 := grown_cell hg4 HF3.out.2.1 HN.out.1
      have hp1 := grown_cell hg4 HF3.out.2.2 HN.out.1
      have hke4 := blk_grown7 hg4 HKe.out HN.out.2.2.1
      have HB4 := Lib.hid (HB3.out.trans (Below.of_grown hg4 HN.out.2.2.2.2.1 HB3.out.size))
      have HAe := Lib.hid (asE1_e p (k : Int) (w2.heap.size + 1 + 1) _ W4 (HT.out.below HB4.out) (cell_of_row W4 _ 0 _ _ _ hke4) (frozen_of_row W4 _ 0 _ _ hke4) hp1)
      have HP0 := Lib.hid hp0
      have HP1 := Lib.hid hp1
      have HCF := Lib.hid cf4
      clear hg4 hp0 hp1 hke4 cf4
      go_wp2_with fail
      refine HAe.out.mono ?_
      rintro e W5 ⟨rfl, hg5, ce5⟩
      have hp0 := grown_cell hg5 HP0.out HN.out.2.1
      have hp1 := grown_cell hg5 HP1.out HN.out.2.1
      have cf5 := grown_cell hg5 HCF.out HN.out.2.2.2.1
      have HB5 := Lib.hid (HB4.out.trans (Below.of_grown hg5 HN.out.2.2.2.2.2 HB4.out.size))
      have HI1 := Lib.hid (is_yes1 p (k : Int) (k : Int) W5 hp1 (beq_self_eq_true _))
      have HI2 := Lib.hid (is_no1 p (k : Int) 7 W5 hp1 hk7)
      have HUn := Lib.hid (unwrap_e p _ W5 hp1)
      have HCf := Lib.hid cf5
      have HCe := Lib.hid ce5
      have HQ0 := Lib.hid hp0
      have HQ1 := Lib.hid hp1
      have hfI : ¬ (f : Int) < 1 := by omega
      clear hg5 hk7
      rcases hk5 with rfl | rfl | rfl | rfl | rfl
      · have HJ1 : Hid (Calls Tryz.prog 15 #[.iface 35 (.pointer (some ⟨p, 0, none⟩)), .iface 36 (.int .i64 1)] W5 fun e w' => e = .returned (.bool true) ∧ w' = W5) := HI1
        have HJ2 : Hid (Calls Tryz.prog 15 #[.iface 35 (.pointer (some ⟨p, 0, none⟩)), .iface 36 (.int .i64 7)] W5 fun e w' => e = .returned (.bool false) ∧ w' = W5) := HI2
        go_wp2_with (first
          | (go_at_call 15; with_reducible refine HJ1.out.mono ?_; rintro e w6 ⟨rfl, hw6⟩; obtain rfl := hw6.symm)
          | (go_at_call 15; with_reducible refine HJ2.out.mono ?_; rintro e w6 ⟨rfl, hw6⟩; obtain rfl := hw6.symm)
          | (go_at_call 16; refine HUn.out.mono ?_; rintro e w6 ⟨rfl, hw6⟩; obtain rfl := hw6.symm))
        go_loopg [78, 7, 8, 9] s.size (fun gk vi vl vh _ wr => ∃ (i l : Nat) (hd : ByteArray), vi = .int .i64 i ∧ vl = .int .i64 l ∧ vh = .string hd ∧ i + gk = s.size ∧ Hid (FlAt S f i l hd) ∧ wr = W5)
        case atStart => exact ⟨0, 1, ⟨#[]⟩, rfl, rfl, rfl, by omega, Lib.hid ⟨rfl, rfl, hf1, fun _ => .inl rfl⟩, rfl⟩
        case round =>
          obtain ⟨i, l, hd, rfl, rfl, rfl, hi, HFl, rfl⟩ := hrel
          have hfl := HFl.out
          have hds : hd.size ≤ 2000 := by rw [Lib.size_eq, hfl.head, List.length_take, HSl.out]; omega
          by_cases hcase : i < s.size ∧ l ≠ f
          · obtain ⟨hin, hlf⟩ := hcase
            obtain ⟨g, rfl⟩ : ∃ g', gk = g' + 1 := ⟨gk - 1, by omega⟩
            have hiI : (i : Int) < (s.size : Int) := by omega
            have hlI : ¬ (l : Int) = (f : Int) := by omega
            have hll := hfl.le
            have hcx : S[i]? = some s[i] := by rw [HSS.out]; exact Lib.data_getElem? s i hin
            have hex := ext1 s i hin
            have hx1 : (s.extract i (i + 1)).size = 1 := by rw [Lib.size_eq, hex]; rfl
            have hA1 := fun W => run_string_add_sum (P := Tryz.prog) (w := W) hd (s.extract i (i + 1)) (by rw [hx1]; omega)
            have hnx := hfl.next hlf hcx (hd ++ s.extract i (i + 1)) (by rw [Joins.data_append, hex])
            clear hcx hex hx1 hfl hds hlf
            by_cases hc : (s[i].toNat : Int) = 10
            · have hc' : s[i] = 10 := by apply UInt8.toNat_inj.1; show s[i].toNat = 10; omega
              rw [if_pos hc'] at hnx
              have HNx := Lib.hid hnx
              clear hc' hnx
              go_wp2_with fail
              go_roundg g
              case measure => omega
              case rel => exact ⟨i + 1, l + 1, _, by go_num, by go_num, rfl, by omega, HNx, rfl⟩
            · have hc' : ¬ s[i] = 10 := fun e => hc (by rw [e]; rfl)
              rw [if_neg hc', Nat.add_zero] at hnx
              have HNx := Lib.hid hnx
              clear hc' hnx
              go_wp2_with fail
              go_roundg g
              case measure => omega
              case rel => exact ⟨i + 1, l, _, by go_num, rfl, rfl, by omega, HNx, rfl⟩
          · have hle : l = f := by
              rcases Nat.lt_or_ge i s.size with h | h
              · exact Classical.byContradiction fun hne => hcase ⟨h, hne⟩
              · have h1 := hfl.line
                rw [List.take_of_length_le (by rw [HSl.out]; exact h)] at h1
                have := hfl.le
                have := HF2.out
                omega
            subst hle
            obtain ⟨d', hpd⟩ := fault_ahead HPC.out hk0 (List.take_append_drop i S).symm hfl.line.symm (hfl.last rfl)
            rw [← hfl.head] at hpd
            have HPar := Lib.hid (cparse_at hd 0 0 d' hpd _ (HE.out.below HB5.out) (by omega))
            have hcs : (i : Int) < (s.size : Int) ∨ ¬ (i : Int) < (s.size : Int) := by omega
            clear hfl hds hpd hcase HFl
            have HW5 := Lib.hid hf1
            rcases hcs with hiI | hiI
            all_goals
              go_wp2_with fail
              refine HPar.out.mono ?_
              rintro e w6 ⟨hb6, val6, hcv6, ⟨_, rfl⟩ | ⟨h0, _⟩⟩
              case inr => exact absurd rfl h0
              obtain ⟨r6, rfl, hzr6, hsr6, h1r6⟩ := HZS.out _ _ _ hcv6
              have HSR6 := Lib.hid hsr6
              have HZR6 := Lib.hid hzr6
              have H1R6 := Lib.hid h1r6
              have hb9 := hb6.alloc hb6.size (.cells r6 26)
              have q1 := (hb9.cell (cell_lt HCf.out)).trans HCf.out
              have q2 := (hb9.cell (cell_lt HCe.out)).trans HCe.out
              have q3 := (hb9.cell (cell_lt HQ0.out)).trans HQ0.out
              have q4 := (hb9.cell (cell_lt HQ1.out)).trans HQ1.out
              have HB9 := Lib.hid (HB5.out.trans (hb9.mono HB5.out.size))
              clear hcv6 hzr6 hsr6 h1r6 hb6 hb9
              go_wp2_with (first
                | (refine wpList_alloc_z rfl 26 rfl Z HZ.out ?_; go_simp)
                | (refine wpList_store_new rfl 26 (.tmp 10) (.tmp 104) rfl w6.heap.size rfl Z r6 26 rfl rfl HSR6.out HZR6.out H1R6.out ?_; go_simp))
              generalize w6.alloc (.cells r6 26) = W9 at q1 q2 q3 q4 HB9 ⊢
              have HE9 := Lib.hid (HE.out.below HB9.out)
              have Q1 : Hid (∀ W, Below W9.heap.size W9 W → W.cell? ⟨w2.heap.size + 1, 0, none⟩ = some (.pointer (some ⟨p, 0, none⟩))) := Lib.hid (fun W hW => (hW.cell (cell_lt q1)).trans q1)
              have Q2 : Hid (∀ W, Below W9.heap.size W9 W → W.cell? ⟨w2.heap.size + 1 + 1, 0, none⟩ = some (.int .i64 (1 : Nat))) := Lib.hid (fun W hW => (hW.cell (cell_lt q2)).trans q2)
              have Q3 : Hid (∀ W, Below W9.heap.size W9 W → W.cell? ⟨p, 0, none⟩ = some (.int .i64 l)) := Lib.hid (fun W hW => (hW.cell (cell_lt q3)).trans q3)
              have QF : Hid (FaultAt W9 p l 1) := Lib.hid ⟨cell_lt q3, q3, q4⟩
              clear q1 q2 q3 q4
              have HFE : Hid (∀ W, Below W9.heap.size W9 W → Calls Tryz.prog 17 #[.pointer (some ⟨p, 0, none⟩)] W fun e w' => e = .returned (.string (tb (faultT l (errT 1)))) ∧ Below W.heap.size W w') := Lib.hid (fun W hW => fault1_e p l 1 W (HE9.out.below hW) (by omega) (by decide) (QF.out.below hW))
              have HDg : Hid (∀ W, Calls Tryz.prog 18 #[.int .i64 l] W fun e w' => e = .returned (.string (tb (Go.Lib.decDigits l))) ∧ Below W.heap.size W w') := Lib.hid (fun W => digits_e l W (by omega))
              have HEr : Hid (∀ W, AEnv W → Calls Tryz.prog 19 #[.int .i64 1] W fun e w' => e = .returned (.string (tb (errT 1))) ∧ Below W.heap.size W w') := Lib.hid (fun W hW => errno_e 1 (by decide) W hW)
              have s1 : (tb (Go.Lib.decDigits l)).size ≤ 2002 := by rw [Lib.size_eq, tb_data]; have := dec_len l; omega
              have s2 : (tb (errT 1)).size ≤ 100 := by rw [Lib.size_eq, tb_data]; have := dec_len 1; unfold errT; rw [List.length_append]; simp only [List.length_cons, List.length_nil]; omega
              have hX : tb (faultT l (errT 1)) = ⟨#[108, 105, 110, 101, 32]⟩ ++ tb (Go.Lib.decDigits l) ++ ⟨#[58, 32]⟩ ++ tb (errT 1) := bytes_inj (by simp [faultT, tb_data])
              rw [hX] at HFE
              generalize tb (Go.Lib.decDigits l) = DD at HFE HDg s1
              generalize tb (errT 1) = TT at HFE HEr s2
              have z1 : (ByteArray.mk #[108, 105, 110, 101, 32]).size = 5 := rfl
              have z2 : (ByteArray.mk #[58, 32]).size = 2 := rfl
              have a1 := fun W => run_string_add_sum (P := Tryz.prog) (w := W) ⟨#[108, 105, 110, 101, 32]⟩ DD (by omega)
              have y1 : (⟨#[108, 105, 110, 101, 32]⟩ ++ DD : ByteArray).size ≤ 2010 := by rw [ByteArray.size_append]; omega
              generalize (⟨#[108, 105, 110, 101, 32]⟩ ++ DD : ByteArray) = X1 at HFE a1 y1
              have a2 := fun W => run_string_add_sum (P := Tryz.prog) (w := W) X1 ⟨#[58, 32]⟩ (by omega)
              have y2 : (X1 ++ ⟨#[58, 32]⟩ : ByteArray).size ≤ 2020 := by rw [ByteArray.size_append]; omega
              generalize (X1 ++ ⟨#[58, 32]⟩ : ByteArray) = X2 at HFE a2 y2
              have a3 := fun W => run_string_add_sum (P := Tryz.prog) (w := W) X2 TT (by omega)
              generalize (X2 ++ TT : ByteArray) = X3 at HFE a3
              clear z1 z2 y1 y2 hX s1 s2
              refine wp_region_held_drew (S := (fun W : World => Below W9.heap.size W9 W)) (by kernel_rfl) (Below.refl _ W9).drew (fun hHeld => ?_)
              refine wpAnyH_take (i := 0) (oi := ({ dst := some 106, op := Go.Op.move (Go.Operand.tmp 7), type := 3, pos := "law.go:103", after := #[], guard := none } : Oper)) (v := .int .i64 l) rfl (by kernel_rfl) (by kernel_rfl) (by kernel_rfl) (fun _ _ _ h => h) (Or.inl ⟨by rfl, fun w' _ => ?_⟩) hHeld ?_
              · go_simp
              try simp only [Act.put, List.setIfInBounds_toArray, List.set_cons_zero, List.set_cons_succ]
              refine wpAnyH_take (i := 1) (oi := ({ dst := some 107, op := Go.Op.load 35 (Go.Operand.tmp 5), type := 35, pos := "law.go:103", after := #[], guard := none } : Oper)) (v := .pointer (some ⟨p, 0, none⟩)) rfl (by kernel_rfl) (by kernel_rfl) (by kernel_rfl) (fun _ _ _ h => h) (Or.inl ⟨by rfl, fun w' hS' => ?_⟩) hHeld ?_
              · have hcell := Q1.out _ hS'
                go_simp
              try simp only [Act.put, List.setIfInBounds_toArray, List.set_cons_zero, List.set_cons_succ]
              refine wpAnyH_take (i := 2) (oi := ({ dst := some 108, op := Go.Op.nilCheck (Go.Operand.tmp 107), type := 0, pos := "law.go:103", after := #[{ on := 1, ground := Go.Ground.data }], guard := none } : Oper)) (v := .pointer (some ⟨p, 0, none⟩)) rfl (by kernel_rfl) (by kernel_rfl) (by kernel_rfl) (fun _ _ _ h => h) (Or.inl ⟨by rfl, fun w' _ => ?_⟩) hHeld ?_
              · go_simp
              try simp only [Act.put, List.setIfInBounds_toArray, List.set_cons_zero, List.set_cons_succ]
              refine wpAnyH_take (i := 3) (oi := ({ dst := some 109, op := Go.Op.fieldAddr 43 (Go.Operand.tmp 108) 0, type := 0, pos := "law.go:103", after := #[{ on := 2, ground := Go.Ground.data }], guard := none } : Oper)) (v := .pointer (some ⟨p, 0, none⟩)) rfl (by kernel_rfl) (by kernel_rfl) (by kernel_rfl) (fun _ _ _ h => h) (Or.inl ⟨by rfl, fun w' _ => ?_⟩) hHeld ?_
              · go_simp
              try simp only [Act.put, List.setIfInBounds_toArray, List.set_cons_zero, List.set_cons_succ]
              refine wpAnyH_take (i := 4) (oi := ({ dst := some 110, op := Go.Op.load 3 (Go.Operand.tmp 109), type := 3, pos := "law.go:103", after := #[{ on := 3, ground := Go.Ground.data }], guard := none } : Oper)) (v := .int .i64 l) rfl (by kernel_rfl) (by kernel_rfl) (by kernel_rfl) (fun _ _ _ h => h) (Or.inl ⟨by rfl, fun w' hS' => ?_⟩) hHeld ?_
              · have hcell := Q3.out _ hS'
                go_simp
              try simp only [Act.put, List.setIfInBounds_toArray, List.set_cons_zero, List.set_cons_succ]
              refine wpAnyH_take (i := 5) (oi := ({ dst := some 111, op := Go.Op.binOp Go.BinOp.eql 3 (Go.Operand.tmp 106) (Go.Operand.tmp 110) 3, type := 4, pos := "law.go:103", after := #[{ on := 0, ground := Go.Ground.data }, { on := 4, ground := Go.Ground.data }], guard := none } : Oper)) (v := .bool true) rfl (by kernel_rfl) (by kernel_rfl) (by kernel_rfl) (fun _ _ _ h => h) (Or.inl ⟨by rfl, fun w' _ => ?_⟩) hHeld ?_
              · go_simp
              try simp only [Act.put, List.setIfInBounds_toArray, List.set_cons_zero, List.set_cons_succ]
              refine wpAnyH_take (i := 6) (oi := ({ dst := some 112, op := Go.Op.move (Go.Operand.tmp 111), type := 4, pos := "law.go:103", after := #[{ on := 5, ground := Go.Ground.data }], guard := none } : Oper)) (v := .bool true) rfl (by kernel_rfl) (by kernel_rfl) (by kernel_rfl) (fun _ _ _ h => h) (Or.inl ⟨by rfl, fun w' _ => ?_⟩) hHeld ?_
              · go_simp
              try simp only [Act.put, List.setIfInBounds_toArray, List.set_cons_zero, List.set_cons_succ]
              refine wpAnyH_take (i := 7) (oi := ({ dst := some 113, op := Go.Op.move (Go.Operand.tmp 11), type := 28, pos := "law.go:103", after := #[{ on := 6, ground := Go.Ground.guard }], guard := some (6, true) } : Oper)) (v := .nilIface) rfl (by kernel_rfl) (by kernel_rfl) (by kernel_rfl) (fun _ _ _ h => h) (Or.inl ⟨by rfl, fun w' _ => ?_⟩) hHeld ?_
              · go_simp
              try simp only [Act.put, List.setIfInBounds_toArray, List.set_cons_zero, List.set_cons_succ]
              refine wpAnyH_take (i := 8) (oi := ({ dst := some 114, op := Go.Op.binOp Go.BinOp.eql 28 (Go.Operand.tmp 113) (Go.Operand.const Go.Value.nilIface) 28, type := 4, pos := "law.go:103", after := #[{ on := 7, ground := Go.Ground.data }, { on := 6, ground := Go.Ground.guard }], guard := some (6, true) } : Oper)) (v := .bool true) rfl (by kernel_rfl) (by kernel_rfl) (by kernel_rfl) (fun _ _ _ h => h) (Or.inl ⟨by rfl, fun w' _ => ?_⟩) hHeld ?_
              · go_simp
              try simp only [Act.put, List.setIfInBounds_toArray, List.set_cons_zero, List.set_cons_succ]
              refine wpAnyH_take (i := 9) (oi := ({ dst := some 115, op := Go.Op.pick (Go.Operand.tmp 112) (Go.Operand.tmp 114) (Go.Operand.const (Go.Value.bool false)), type := 4, pos := "law.go:103", after := #[{ on := 6, ground := Go.Ground.data }, { on := 8, ground := Go.Ground.data }], guard := none } : Oper)) (v := .bool true) rfl (by kernel_rfl) (by kernel_rfl) (by kernel_rfl) (fun _ _ _ h => h) (Or.inl ⟨by rfl, fun w' _ => ?_⟩) hHeld ?_
              · go_simp
              try simp only [Act.put, List.setIfInBounds_toArray, List.set_cons_zero, List.set_cons_succ]
              refine wpAnyH_take (i := 10) (oi := ({ dst := some 116, op := Go.Op.move (Go.Operand.tmp 115), type := 4, pos := "law.go:103", after := #[{ on := 9, ground := Go.Ground.data }, { on := 6, ground := Go.Ground.chain }], guard := none } : Oper)) (v := .bool true) rfl (by kernel_rfl) (by kernel_rfl) (by kernel_rfl) (fun _ _ _ h => h) (Or.inl ⟨by rfl, fun w' _ => ?_⟩) hHeld ?_
              · go_simp
              try simp only [Act.put, List.setIfInBounds_toArray, List.set_cons_zero, List.set_cons_succ]
              refine wpAnyH_take (i := 11) (oi := ({ dst := some 117, op := Go.Op.load 35 (Go.Operand.tmp 5), type := 35, pos := "law.go:103", after := #[{ on := 10, ground := Go.Ground.guard }], guard := some (10, true) } : Oper)) (v := .pointer (some ⟨p, 0, none⟩)) rfl (by kernel_rfl) (by kernel_rfl) (by kernel_rfl) (fun _ _ _ h => h) (Or.inl ⟨by rfl, fun w' hS' => ?_⟩) hHeld ?_
              · have hcell := Q1.out _ hS'
                go_simp
              try simp only [Act.put, List.setIfInBounds_toArray, List.set_cons_zero, List.set_cons_succ]
              refine wpAnyH_take (i := 13) (oi := ({ dst := some 119, op := Go.Op.load 35 (Go.Operand.tmp 5), type := 35, pos := "law.go:103", after := #[{ on := 10, ground := Go.Ground.guard }], guard := some (10, true) } : Oper)) (v := .pointer (some ⟨p, 0, none⟩)) rfl (by kernel_rfl) (by kernel_rfl) (by kernel_rfl) (fun _ _ _ h => h) (Or.inl ⟨by rfl, fun w' hS' => ?_⟩) hHeld ?_
              · have hcell := Q1.out _ hS'
                go_simp
              try simp only [Act.put, List.setIfInBounds_toArray, List.set_cons_zero, List.set_cons_succ]
              refine wpAnyH_take (i := 14) (oi := ({ dst := some 120, op := Go.Op.nilCheck (Go.Operand.tmp 119), type := 0, pos := "law.go:103", after := #[{ on := 13, ground := Go.Ground.data }, { on := 10, ground := Go.Ground.guard }], guard := some (10, true) } : Oper)) (v := .pointer (some ⟨p, 0, none⟩)) rfl (by kernel_rfl) (by kernel_rfl) (by kernel_rfl) (fun _ _ _ h => h) (Or.inl ⟨by rfl, fun w' _ => ?_⟩) hHeld ?_
              · go_simp
              try simp only [Act.put, List.setIfInBounds_toArray, List.set_cons_zero, List.set_cons_succ]
              refine wpAnyH_take (i := 15) (oi := ({ dst := some 121, op := Go.Op.fieldAddr 43 (Go.Operand.tmp 120) 0, type := 0, pos := "law.go:103", after := #[{ on := 14, ground := Go.Ground.data }, { on := 10, ground := Go.Ground.guard }], guard := some (10, true) } : Oper)) (v := .pointer (some ⟨p, 0, none⟩)) rfl (by kernel_rfl) (by kernel_rfl) (by kernel_rfl) (fun _ _ _ h => h) (Or.inl ⟨by rfl, fun w' _ => ?_⟩) hHeld ?_
              · go_simp
              try simp only [Act.put, List.setIfInBounds_toArray, List.set_cons_zero, List.set_cons_succ]
              refine wpAnyH_take (i := 16) (oi := ({ dst := some 122, op := Go.Op.load 3 (Go.Operand.tmp 121), type := 3, pos := "law.go:103", after := #[{ on := 15, ground := Go.Ground.data }, { on := 10, ground := Go.Ground.guard }], guard := some (10, true) } : Oper)) (v := .int .i64 l) rfl (by kernel_rfl) (by kernel_rfl) (by kernel_rfl) (fun _ _ _ h => h) (Or.inl ⟨by rfl, fun w' hS' => ?_⟩) hHeld ?_
              · have hcell := Q3.out _ hS'
                go_simp
              try simp only [Act.put, List.setIfInBounds_toArray, List.set_cons_zero, List.set_cons_succ]
              refine wpAnyH_take (i := 20) (oi := ({ dst := some 126, op := Go.Op.load 36 (Go.Operand.tmp 6), type := 36, pos := "law.go:103", after := #[{ on := 10, ground := Go.Ground.guard }], guard := some (10, true) } : Oper)) (v := .int .i64 1) rfl (by kernel_rfl) (by kernel_rfl) (by kernel_rfl) (fun _ _ _ h => h) (Or.inl ⟨by rfl, fun w' hS' => ?_⟩) hHeld ?_
              · have hcell := Q2.out _ hS'
                go_simp
              try simp only [Act.put, List.setIfInBounds_toArray, List.set_cons_zero, List.set_cons_succ]
              refine wpAnyH_ready (rs := [12]) (by kernel_rfl) (by simp) ?_
              refine AllReadyH.cons (o := ({ dst := some 118, op := Go.Op.call { callee := Go.Callee.value (Go.Operand.func 17), args := #[Go.Operand.tmp 117], argTypes := #[35] }, type := 9, pos := "law.go:103", after := #[{ on := 11, ground := Go.Ground.data }, { on := 10, ground := Go.Ground.chain }, { on := 10, ground := Go.Ground.guard }], guard := some (10, true) } : Oper)) rfl (fun K hK => ?_) AllReadyH.nil
              go_simp
              go_at_call 17
              refine (HFE.out _ hHeld).mono ?_
              rintro e' u1 ⟨rfl, hbb⟩
              refine hK.out _ _ (hHeld.trans (hbb.mono hHeld.size)) (fun hHeld1 => ?_)
              clear hK K hbb
              try simp only [Act.put, List.setIfInBounds_toArray, List.set_cons_zero, List.set_cons_succ]
              refine wpAnyH_ready (rs := [17]) (by kernel_rfl) (by simp) ?_
              refine AllReadyH.cons (o := ({ dst := some 123, op := Go.Op.call { callee := Go.Callee.value (Go.Operand.func 18), args := #[Go.Operand.tmp 122], argTypes := #[3] }, type := 9, pos := "law.go:103", after := #[{ on := 16, ground := Go.Ground.data }, { on := 12, ground := Go.Ground.chain }, { on := 10, ground := Go.Ground.guard }], guard := some (10, true) } : Oper)) rfl (fun K hK => ?_) AllReadyH.nil
              go_simp
              go_at_call 18
              refine (HDg.out _).mono ?_
              rintro e' u2 ⟨rfl, hbb⟩
              refine hK.out _ _ (hHeld1.trans (hbb.mono hHeld1.size)) (fun hHeld2 => ?_)
              clear hK K hbb
              try simp only [Act.put, List.setIfInBounds_toArray, List.set_cons_zero, List.set_cons_succ]
              refine wpAnyH_take (i := 18) (oi := ({ dst := some 124, op := Go.Op.binOp Go.BinOp.add 9 (Go.Operand.const (Go.Value.string { data := #[108, 105, 110, 101, 32] })) (Go.Operand.tmp 123) 9, type := 9, pos := "law.go:103", after := #[{ on := 17, ground := Go.Ground.data }, { on := 10, ground := Go.Ground.guard }], guard := some (10, true) } : Oper)) (v := .string X1) rfl (by kernel_rfl) (by kernel_rfl) (by kernel_rfl) (fun _ _ _ h => h) (Or.inl ⟨by rfl, fun w' _ => ?_⟩) hHeld2 ?_
              · go_simp
              try simp only [Act.put, List.setIfInBounds_toArray, List.set_cons_zero, List.set_cons_succ]
              refine wpAnyH_take (i := 19) (oi := ({ dst := some 125, op := Go.Op.binOp Go.BinOp.add 9 (Go.Operand.tmp 124) (Go.Operand.const (Go.Value.string { data := #[58, 32] })) 9, type := 9, pos := "law.go:103", after := #[{ on := 18, ground := Go.Ground.data }, { on := 10, ground := Go.Ground.guard }], guard := some (10, true) } : Oper)) (v := .string X2) rfl (by kernel_rfl) (by kernel_rfl) (by kernel_rfl) (fun _ _ _ h => h) (Or.inl ⟨by rfl, fun w' _ => ?_⟩) hHeld2 ?_
              · go_simp
              try simp only [Act.put, List.setIfInBounds_toArray, List.set_cons_zero, List.set_cons_succ]
              refine wpAnyH_ready (rs := [21]) (by kernel_rfl) (by simp) ?_
              refine AllReadyH.cons (o := ({ dst := some 127, op := Go.Op.call { callee := Go.Callee.value (Go.Operand.func 19), args := #[Go.Operand.tmp 126], argTypes := #[36] }, type := 9, pos := "law.go:103", after := #[{ on := 20, ground := Go.Ground.data }, { on := 17, ground := Go.Ground.chain }, { on := 10, ground := Go.Ground.guard }], guard := some (10, true) } : Oper)) rfl (fun K hK => ?_) AllReadyH.nil
              go_simp
              go_at_call 19
              refine (HEr.out _ (HE9.out.below hHeld2)).mono ?_
              rintro e' u3 ⟨rfl, hbb⟩
              refine hK.out _ _ (hHeld2.trans (hbb.mono hHeld2.size)) (fun hHeld3 => ?_)
              clear hK K hbb
              try simp only [Act.put, List.setIfInBounds_toArray, List.set_cons_zero, List.set_cons_succ]
              refine wpAnyH_take (i := 22) (oi := ({ dst := some 128, op := Go.Op.binOp Go.BinOp.add 9 (Go.Operand.tmp 125) (Go.Operand.tmp 127) 9, type := 9, pos := "law.go:103", after := #[{ on := 19, ground := Go.Ground.data }, { on := 21, ground := Go.Ground.data }, { on := 10, ground := Go.Ground.guard }], guard := some (10, true) } : Oper)) (v := .string X3) rfl (by kernel_rfl) (by kernel_rfl) (by kernel_rfl) (fun _ _ _ h => h) (Or.inl ⟨by rfl, fun w' _ => ?_⟩) hHeld3 ?_
              · go_simp
              try simp only [Act.put, List.setIfInBounds_toArray, List.set_cons_zero, List.set_cons_succ]
              refine wpAnyH_take (i := 23) (oi := ({ dst := some 129, op := Go.Op.binOp Go.BinOp.eql 9 (Go.Operand.tmp 118) (Go.Operand.tmp 128) 9, type := 4, pos := "law.go:103", after := #[{ on := 12, ground := Go.Ground.data }, { on := 22, ground := Go.Ground.data }, { on := 10, ground := Go.Ground.guard }], guard := some (10, true) } : Oper)) (v := .bool true) rfl (by kernel_rfl) (by kernel_rfl) (by kernel_rfl) (fun _ _ _ h => h) (Or.inl ⟨by rfl, fun w' _ => ?_⟩) hHeld3 ?_
              · go_simp
              try simp only [Act.put, List.setIfInBounds_toArray, List.set_cons_zero, List.set_cons_succ]
              refine wpAnyH_take (i := 24) (oi := ({ dst := some 130, op := Go.Op.pick (Go.Operand.tmp 116) (Go.Operand.tmp 129) (Go.Operand.const (Go.Value.bool false)), type := 4, pos := "law.go:103", after := #[{ on := 10, ground := Go.Ground.data }, { on := 23, ground := Go.Ground.data }], guard := none } : Oper)) (v := .bool true) rfl (by kernel_rfl) (by kernel_rfl) (by kernel_rfl) (fun _ _ _ h => h) (Or.inl ⟨by rfl, fun w' _ => ?_⟩) hHeld3 ?_
              · go_simp
              try simp only [Act.put, List.setIfInBounds_toArray, List.set_cons_zero, List.set_cons_succ]
              refine wpAnyH_take (i := 25) (oi := ({ dst := some 2, op := Go.Op.assign (Go.Operand.tmp 130), type := 4, pos := "law.go:103", after := #[{ on := 24, ground := Go.Ground.data }, { on := 21, ground := Go.Ground.chain }, { on := 0, ground := Go.Ground.phase }, { on := 1, ground := Go.Ground.phase }, { on := 2, ground := Go.Ground.phase }, { on := 3, ground := Go.Ground.phase }, { on := 4, ground := Go.Ground.phase }, { on := 5, ground := Go.Ground.phase }, { on := 6, ground := Go.Ground.phase }, { on := 7, ground := Go.Ground.phase }, { on := 8, ground := Go.Ground.phase }, { on := 9, ground := Go.Ground.phase }, { on := 10, ground := Go.Ground.phase }, { on := 11, ground := Go.Ground.phase }, { on := 12, ground := Go.Ground.phase }, { on := 13, ground := Go.Ground.phase }, { on := 14, ground := Go.Ground.phase }, { on := 15, ground := Go.Ground.phase }, { on := 16, ground := Go.Ground.phase }, { on := 17, ground := Go.Ground.phase }, { on := 18, ground := Go.Ground.phase }, { on := 19, ground := Go.Ground.phase }, { on := 20, ground := Go.Ground.phase }, { on := 21, ground := Go.Ground.phase }, { on := 22, ground := Go.Ground.phase }, { on := 23, ground := Go.Ground.phase }, { on := 24, ground := Go.Ground.phase }], guard := none } : Oper)) (v := .bool true) rfl (by kernel_rfl) (by kernel_rfl) (by kernel_rfl) (fun _ _ _ h => h) (Or.inl ⟨by rfl, fun w' _ => ?_⟩) hHeld3 ?_
              · go_simp
              try simp only [Act.put, List.setIfInBounds_toArray, List.set_cons_zero, List.set_cons_succ]
              refine wpAnyH_done (by kernel_rfl) ?_ _
              have HBn := Lib.hid (HB9.out.trans (hHeld3.mono HB9.out.size))
              clear hHeld hHeld1 hHeld2 hHeld3
              go_wp2_with fail
              go_ret
              exact ⟨rfl, HBn.out⟩
      · have HJ1 : Hid (Calls Tryz.prog 15 #[.iface 35 (.pointer (some ⟨p, 0, none⟩)), .iface 36 (.int .i64 2)] W5 fun e w' => e = .returned (.bool true) ∧ w' = W5) := HI1
        have HJ2 : Hid (Calls Tryz.prog 15 #[.iface 35 (.pointer (some ⟨p, 0, none⟩)), .iface 36 (.int .i64 7)] W5 fun e w' => e = .returned (.bool false) ∧ w' = W5) := HI2
        go_wp2_with (first
          | (go_at_call 15; with_reducible refine HJ1.out.mono ?_; rintro e w6 ⟨rfl, hw6⟩; obtain rfl := hw6.symm)
          | (go_at_call 15; with_reducible refine HJ2.out.mono ?_; rintro e w6 ⟨rfl, hw6⟩; obtain rfl := hw6.symm)
          | (go_at_call 16; refine HUn.out.mono ?_; rintro e w6 ⟨rfl, hw6⟩; obtain rfl := hw6.symm))
        go_loopg [78, 7, 8, 9] s.size (fun gk vi vl vh _ wr => ∃ (i l : Nat) (hd : ByteArray), vi = .int .i64 i ∧ vl = .int .i64 l ∧ vh = .string hd ∧ i + gk = s.size ∧ Hid (FlAt S f i l hd) ∧ wr = W5)
        case atStart => exact ⟨0, 1, ⟨#[]⟩, rfl, rfl, rfl, by omega, Lib.hid ⟨rfl, rfl, hf1, fun _ => .inl rfl⟩, rfl⟩
        case round =>
          obtain ⟨i, l, hd, rfl, rfl, rfl, hi, HFl, rfl⟩ := hrel
          have hfl := HFl.out
          have hds : hd.size ≤ 2000 := by rw [Lib.size_eq, hfl.head, List.length_take, HSl.out]; omega
          by_cases hcase : i < s.size ∧ l ≠ f
          · obtain ⟨hin, hlf⟩ := hcase
            obtain ⟨g, rfl⟩ : ∃ g', gk = g' + 1 := ⟨gk - 1, by omega⟩
            have hiI : (i : Int) < (s.size : Int) := by omega
            have hlI : ¬ (l : Int) = (f : Int) := by omega
            have hll := hfl.le
            have hcx : S[i]? = some s[i] := by rw [HSS.out]; exact Lib.data_getElem? s i hin
            have hex := ext1 s i hin
            have hx1 : (s.extract i (i + 1)).size = 1 := by rw [Lib.size_eq, hex]; rfl
            have hA1 := fun W => run_string_add_sum (P := Tryz.prog) (w := W) hd (s.extract i (i + 1)) (by rw [hx1]; omega)
            have hnx := hfl.next hlf hcx (hd ++ s.extract i (i + 1)) (by rw [Joins.data_append, hex])
            clear hcx hex hx1 hfl hds hlf
            by_cases hc : (s[i].toNat : Int) = 10
            · have hc' : s[i] = 10 := by apply UInt8.toNat_inj.1; show s[i].toNat = 10; omega
              rw [if_pos hc'] at hnx
              have HNx := Lib.hid hnx
              clear hc' hnx
              go_wp2_with fail
              go_roundg g
              case measure => omega
              case rel => exact ⟨i + 1, l + 1, _, by go_num, by go_num, rfl, by omega, HNx, rfl⟩
            · have hc' : ¬ s[i] = 10 := fun e => hc (by rw [e]; rfl)
              rw [if_neg hc', Nat.add_zero] at hnx
              have HNx := Lib.hid hnx
              clear hc' hnx
              go_wp2_with fail
              go_roundg g
              case measure => omega
              case rel => exact ⟨i + 1, l, _, by go_num, rfl, rfl, by omega, HNx, rfl⟩
          · have hle : l = f := by
              rcases Nat.lt_or_ge i s.size with h | h
              · exact Classical.byContradiction fun hne => hcase ⟨h, hne⟩
              · have h1 := hfl.line
                rw [List.take_of_length_le (by rw [HSl.out]; exact h)] at h1
                have := hfl.le
                have := HF2.out
                omega
            subst hle
            obtain ⟨d', hpd⟩ := fault_ahead HPC.out hk0 (List.take_append_drop i S).symm hfl.line.symm (hfl.last rfl)
            rw [← hfl.head] at hpd
            have HPar := Lib.hid (cparse_at hd 0 0 d' hpd _ (HE.out.below HB5.out) (by omega))
            have hcs : (i : Int) < (s.size : Int) ∨ ¬ (i : Int) < (s.size : Int) := by omega
            clear hfl hds hpd hcase HFl
            have HW5 := Lib.hid hf1
            rcases hcs with hiI | hiI
            all_goals
              go_wp2_with fail
              refine HPar.out.mono ?_
              rintro e w6 ⟨hb6, val6, hcv6, ⟨_, rfl⟩ | ⟨h0, _⟩⟩
              case inr => exact absurd rfl h0
              obtain ⟨r6, rfl, hzr6, hsr6, h1r6⟩ := HZS.out _ _ _ hcv6
              have HSR6 := Lib.hid hsr6
              have HZR6 := Lib.hid hzr6
              have H1R6 := Lib.hid h1r6
              have hb9 := hb6.alloc hb6.size (.cells r6 26)
              have q1 := (hb9.cell (cell_lt HCf.out)).trans HCf.out
              have q2 := (hb9.cell (cell_lt HCe.out)).trans HCe.out
              have q3 := (hb9.cell (cell_lt HQ0.out)).trans HQ0.out
              have q4 := (hb9.cell (cell_lt HQ1.out)).trans HQ1.out
              have HB9 := Lib.hid (HB5.out.trans (hb9.mono HB5.out.size))
              clear hcv6 hzr6 hsr6 h1r6 hb6 hb9
              go_wp2_with (first
                | (refine wpList_alloc_z rfl 26 rfl Z HZ.out ?_; go_simp)
                | (refine wpList_store_new rfl 26 (.tmp 10) (.tmp 104) rfl w6.heap.size rfl Z r6 26 rfl rfl HSR6.out HZR6.out H1R6.out ?_; go_simp))
              generalize w6.alloc (.cells r6 26) = W9 at q1 q2 q3 q4 HB9 ⊢
              have HE9 := Lib.hid (HE.out.below HB9.out)
              have Q1 : Hid (∀ W, Below W9.heap.size W9 W → W.cell? ⟨w2.heap.size + 1, 0, none⟩ = some (.pointer (some ⟨p, 0, none⟩))) := Lib.hid (fun W hW => (hW.cell (cell_lt q1)).trans q1)
              have Q2 : Hid (∀ W, Below W9.heap.size W9 W → W.cell? ⟨w2.heap.size + 1 + 1, 0, none⟩ = some (.int .i64 (2 : Nat))) := Lib.hid (fun W hW => (hW.cell (cell_lt q2)).trans q2)
              have Q3 : Hid (∀ W, Below W9.heap.size W9 W → W.cell? ⟨p, 0, none⟩ = some (.int .i64 l)) := Lib.hid (fun W hW => (hW.cell (cell_lt q3)).trans q3)
              have QF : Hid (FaultAt W9 p l 2) := Lib.hid ⟨cell_lt q3, q3, q4⟩
              clear q1 q2 q3 q4
              have HFE : Hid (∀ W, Below W9.heap.size W9 W → Calls Tryz.prog 17 #[.pointer (some ⟨p, 0, none⟩)] W fun e w' => e = .returned (.string (tb (faultT l (errT 2)))) ∧ Below W.heap.size W w') := Lib.hid (fun W hW => fault1_e p l 2 W (HE9.out.below hW) (by omega) (by decide) (QF.out.below hW))
              have HDg : Hid (∀ W, Calls Tryz.prog 18 #[.int .i64 l] W fun e w' => e = .returned (.string (tb (Go.Lib.decDigits l))) ∧ Below W.heap.size W w') := Lib.hid (fun W => digits_e l W (by omega))
              have HEr : Hid (∀ W, AEnv W → Calls Tryz.prog 19 #[.int .i64 2] W fun e w' => e = .returned (.string (tb (errT 2))) ∧ Below W.heap.size W w') := Lib.hid (fun W hW => errno_e 2 (by decide) W hW)
              have s1 : (tb (Go.Lib.decDigits l)).size ≤ 2002 := by rw [Lib.size_eq, tb_data]; have := dec_len l; omega
              have s2 : (tb (errT 2)).size ≤ 100 := by rw [Lib.size_eq, tb_data]; have := dec_len 2; unfold errT; rw [List.length_append]; simp only [List.length_cons, List.length_nil]; omega
              have hX : tb (faultT l (errT 2)) = ⟨#[108, 105, 110, 101, 32]⟩ ++ tb (Go.Lib.decDigits l) ++ ⟨#[58, 32]⟩ ++ tb (errT 2) := bytes_inj (by simp [faultT, tb_data])
              rw [hX] at HFE
              generalize tb (Go.Lib.decDigits l) = DD at HFE HDg s1
              generalize tb (errT 2) = TT at HFE HEr s2
              have z1 : (ByteArray.mk #[108, 105, 110, 101, 32]).size = 5 := rfl
              have z2 : (ByteArray.mk #[58, 32]).size = 2 := rfl
              have a1 := fun W => run_string_add_sum (P := Tryz.prog) (w := W) ⟨#[108, 105, 110, 101, 32]⟩ DD (by omega)
              have y1 : (⟨#[108, 105, 110, 101, 32]⟩ ++ DD : ByteArray).size ≤ 2010 := by rw [ByteArray.size_append]; omega
              generalize (⟨#[108, 105, 110, 101, 32]⟩ ++ DD : ByteArray) = X1 at HFE a1 y1
              have a2 := fun W => run_string_add_sum (P := Tryz.prog) (w := W) X1 ⟨#[58, 32]⟩ (by omega)
              have y2 : (X1 ++ ⟨#[58, 32]⟩ : ByteArray).size ≤ 2020 := by rw [ByteArray.size_append]; omega
              generalize (X1 ++ ⟨#[58, 32]⟩ : ByteArray) = X2 at HFE a2 y2
              have a3 := fun W => run_string_add_sum (P := Tryz.prog) (w := W) X2 TT (by omega)
              generalize (X2 ++ TT : ByteArray) = X3 at HFE a3
              clear z1 z2 y1 y2 hX s1 s2
              refine wp_region_held_drew (S := (fun W : World => Below W9.heap.size W9 W)) (by kernel_rfl) (Below.refl _ W9).drew (fun hHeld => ?_)
              refine wpAnyH_take (i := 0) (oi := ({ dst := some 106, op := Go.Op.move (Go.Operand.tmp 7), type := 3, pos := "law.go:103", after := #[], guard := none } : Oper)) (v := .int .i64 l) rfl (by kernel_rfl) (by kernel_rfl) (by kernel_rfl) (fun _ _ _ h => h) (Or.inl ⟨by rfl, fun w' _ => ?_⟩) hHeld ?_
              · go_simp
              try simp only [Act.put, List.setIfInBounds_toArray, List.set_cons_zero, List.set_cons_succ]
              refine wpAnyH_take (i := 1) (oi := ({ dst := some 107, op := Go.Op.load 35 (Go.Operand.tmp 5), type := 35, pos := "law.go:103", after := #[], guard := none } : Oper)) (v := .pointer (some ⟨p, 0, none⟩)) rfl (by kernel_rfl) (by kernel_rfl) (by kernel_rfl) (fun _ _ _ h => h) (Or.inl ⟨by rfl, fun w' hS' => ?_⟩) hHeld ?_
              · have hcell := Q1.out _ hS'
                go_simp
              try simp only [Act.put, List.setIfInBounds_toArray, List.set_cons_zero, List.set_cons_succ]
              refine wpAnyH_take (i := 2) (oi := ({ dst := some 108, op := Go.Op.nilCheck (Go.Operand.tmp 107), type := 0, pos := "law.go:103", after := #[{ on := 1, ground := Go.Ground.data }], guard := none } : Oper)) (v := .pointer (some ⟨p, 0, none⟩)) rfl (by kernel_rfl) (by kernel_rfl) (by kernel_rfl) (fun _ _ _ h => h) (Or.inl ⟨by rfl, fun w' _ => ?_⟩) hHeld ?_
              · go_simp
              try simp only [Act.put, List.setIfInBounds_toArray, List.set_cons_zero, List.set_cons_succ]
              refine wpAnyH_take (i := 3) (oi := ({ dst := some 109, op := Go.Op.fieldAddr 43 (Go.Operand.tmp 108) 0, type := 0, pos := "law.go:103", after := #[{ on := 2, ground := Go.Ground.data }], guard := none } : Oper)) (v := .pointer (some ⟨p, 0, none⟩)) rfl (by kernel_rfl) (by kernel_rfl) (by kernel_rfl) (fun _ _ _ h => h) (Or.inl ⟨by rfl, fun w' _ => ?_⟩) hHeld ?_
              · go_simp
              try simp only [Act.put, List.setIfInBounds_toArray, List.set_cons_zero, List.set_cons_succ]
              refine wpAnyH_take (i := 4) (oi := ({ dst := some 110, op := Go.Op.load 3 (Go.Operand.tmp 109), type := 3, pos := "law.go:103", after := #[{ on := 3, ground := Go.Ground.data }], guard := none } : Oper)) (v := .int .i64 l) rfl (by kernel_rfl) (by kernel_rfl) (by kernel_rfl) (fun _ _ _ h => h) (Or.inl ⟨by rfl, fun w' hS' => ?_⟩) hHeld ?_
              · have hcell := Q3.out _ hS'
                go_simp
              try simp only [Act.put, List.setIfInBounds_toArray, List.set_cons_zero, List.set_cons_succ]
              refine wpAnyH_take (i := 5) (oi := ({ dst := some 111, op := Go.Op.binOp Go.BinOp.eql 3 (Go.Operand.tmp 106) (Go.Operand.tmp 110) 3, type := 4, pos := "law.go:103", after := #[{ on := 0, ground := Go.Ground.data }, { on := 4, ground := Go.Ground.data }], guard := none } : Oper)) (v := .bool true) rfl (by kernel_rfl) (by kernel_rfl) (by kernel_rfl) (fun _ _ _ h => h) (Or.inl ⟨by rfl, fun w' _ => ?_⟩) hHeld ?_
              · go_simp
              try simp only [Act.put, List.setIfInBounds_toArray, List.set_cons_zero, List.set_cons_succ]
              refine wpAnyH_take (i := 6) (oi := ({ dst := some 112, op := Go.Op.move (Go.Operand.tmp 111), type := 4, pos := "law.go:103", after := #[{ on := 5, ground := Go.Ground.data }], guard := none } : Oper)) (v := .bool true) rfl (by kernel_rfl) (by kernel_rfl) (by kernel_rfl) (fun _ _ _ h => h) (Or.inl ⟨by rfl, fun w' _ => ?_⟩) hHeld ?_
              · go_simp
              try simp only [Act.put, List.setIfInBounds_toArray, List.set_cons_zero, List.set_cons_succ]
              refine wpAnyH_take (i := 7) (oi := ({ dst := some 113, op := Go.Op.move (Go.Operand.tmp 11), type := 28, pos := "law.go:103", after := #[{ on := 6, ground := Go.Ground.guard }], guard := some (6, true) } : Oper)) (v := .nilIface) rfl (by kernel_rfl) (by kernel_rfl) (by kernel_rfl) (fun _ _ _ h => h) (Or.inl ⟨by rfl, fun w' _ => ?_⟩) hHeld ?_
              · go_simp
              try simp only [Act.put, List.setIfInBounds_toArray, List.set_cons_zero, List.set_cons_succ]
              refine wpAnyH_take (i := 8) (oi := ({ dst := some 114, op := Go.Op.binOp Go.BinOp.eql 28 (Go.Operand.tmp 113) (Go.Operand.const Go.Value.nilIface) 28, type := 4, pos := "law.go:103", after := #[{ on := 7, ground := Go.Ground.data }, { on := 6, ground := Go.Ground.guard }], guard := some (6, true) } : Oper)) (v := .bool true) rfl (by kernel_rfl) (by kernel_rfl) (by kernel_rfl) (fun _ _ _ h => h) (Or.inl ⟨by rfl, fun w' _ => ?_⟩) hHeld ?_
              · go_simp
              try simp only [Act.put, List.setIfInBounds_toArray, List.set_cons_zero, List.set_cons_succ]
              refine wpAnyH_take (i := 9) (oi := ({ dst := some 115, op := Go.Op.pick (Go.Operand.tmp 112) (Go.Operand.tmp 114) (Go.Operand.const (Go.Value.bool false)), type := 4, pos := "law.go:103", after := #[{ on := 6, ground := Go.Ground.data }, { on := 8, ground := Go.Ground.data }], guard := none } : Oper)) (v := .bool true) rfl (by kernel_rfl) (by kernel_rfl) (by kernel_rfl) (fun _ _ _ h => h) (Or.inl ⟨by rfl, fun w' _ => ?_⟩) hHeld ?_
              · go_simp
              try simp only [Act.put, List.setIfInBounds_toArray, List.set_cons_zero, List.set_cons_succ]
              refine wpAnyH_take (i := 10) (oi := ({ dst := some 116, op := Go.Op.move (Go.Operand.tmp 115), type := 4, pos := "law.go:103", after := #[{ on := 9, ground := Go.Ground.data }, { on := 6, ground := Go.Ground.chain }], guard := none } : Oper)) (v := .bool true) rfl (by kernel_rfl) (by kernel_rfl) (by kernel_rfl) (fun _ _ _ h => h) (Or.inl ⟨by rfl, fun w' _ => ?_⟩) hHeld ?_
              · go_simp
              try simp only [Act.put, List.setIfInBounds_toArray, List.set_cons_zero, List.set_cons_succ]
              refine wpAnyH_take (i := 11) (oi := ({ dst := some 117, op := Go.Op.load 35 (Go.Operand.tmp 5), type := 35, pos := "law.go:103", after := #[{ on := 10, ground := Go.Ground.guard }], guard := some (10, true) } : Oper)) (v := .pointer (some ⟨p, 0, none⟩)) rfl (by kernel_rfl) (by kernel_rfl) (by kernel_rfl) (fun _ _ _ h => h) (Or.inl ⟨by rfl, fun w' hS' => ?_⟩) hHeld ?_
              · have hcell := Q1.out _ hS'
                go_simp
              try simp only [Act.put, List.setIfInBounds_toArray, List.set_cons_zero, List.set_cons_succ]
              refine wpAnyH_take (i := 13) (oi := ({ dst := some 119, op := Go.Op.load 35 (Go.Operand.tmp 5), type := 35, pos := "law.go:103", after := #[{ on := 10, ground := Go.Ground.guard }], guard := some (10, true) } : Oper)) (v := .pointer (some ⟨p, 0, none⟩)) rfl (by kernel_rfl) (by kernel_rfl) (by kernel_rfl) (fun _ _ _ h => h) (Or.inl ⟨by rfl, fun w' hS' => ?_⟩) hHeld ?_
              · have hcell := Q1.out _ hS'
                go_simp
              try simp only [Act.put, List.setIfInBounds_toArray, List.set_cons_zero, List.set_cons_succ]
              refine wpAnyH_take (i := 14) (oi := ({ dst := some 120, op := Go.Op.nilCheck (Go.Operand.tmp 119), type := 0, pos := "law.go:103", after := #[{ on := 13, ground := Go.Ground.data }, { on := 10, ground := Go.Ground.guard }], guard := some (10, true) } : Oper)) (v := .pointer (some ⟨p, 0, none⟩)) rfl (by kernel_rfl) (by kernel_rfl) (by kernel_rfl) (fun _ _ _ h => h) (Or.inl ⟨by rfl, fun w' _ => ?_⟩) hHeld ?_
              · go_simp
              try simp only [Act.put, List.setIfInBounds_toArray, List.set_cons_zero, List.set_cons_succ]
              refine wpAnyH_take (i := 15) (oi := ({ dst := some 121, op := Go.Op.fieldAddr 43 (Go.Operand.tmp 120) 0, type := 0, pos := "law.go:103", after := #[{ on := 14, ground := Go.Ground.data }, { on := 10, ground := Go.Ground.guard }], guard := some (10, true) } : Oper)) (v := .pointer (some ⟨p, 0, none⟩)) rfl (by kernel_rfl) (by kernel_rfl) (by kernel_rfl) (fun _ _ _ h => h) (Or.inl ⟨by rfl, fun w' _ => ?_⟩) hHeld ?_
              · go_simp
              try simp only [Act.put, List.setIfInBounds_toArray, List.set_cons_zero, List.set_cons_succ]
              refine wpAnyH_take (i := 16) (oi := ({ dst := some 122, op := Go.Op.load 3 (Go.Operand.tmp 121), type := 3, pos := "law.go:103", after := #[{ on := 15, ground := Go.Ground.data }, { on := 10, ground := Go.Ground.guard }], guard := some (10, true) } : Oper)) (v := .int .i64 l) rfl (by kernel_rfl) (by kernel_rfl) (by kernel_rfl) (fun _ _ _ h => h) (Or.inl ⟨by rfl, fun w' hS' => ?_⟩) hHeld ?_
              · have hcell := Q3.out _ hS'
                go_simp
              try simp only [Act.put, List.setIfInBounds_toArray, List.set_cons_zero, List.set_cons_succ]
              refine wpAnyH_take (i := 20) (oi := ({ dst := some 126, op := Go.Op.load 36 (Go.Operand.tmp 6), type := 36, pos := "law.go:103", after := #[{ on := 10, ground := Go.Ground.guard }], guard := some (10, true) } : Oper)) (v := .int .i64 2) rfl (by kernel_rfl) (by kernel_rfl) (by kernel_rfl) (fun _ _ _ h => h) (Or.inl ⟨by rfl, fun w' hS' => ?_⟩) hHeld ?_
              · have hcell := Q2.out _ hS'
                go_simp
              try simp only [Act.put, List.setIfInBounds_toArray, List.set_cons_zero, List.set_cons_succ]
              refine wpAnyH_ready (rs := [12]) (by kernel_rfl) (by simp) ?_
              refine AllReadyH.cons (o := ({ dst := some 118, op := Go.Op.call { callee := Go.Callee.value (Go.Operand.func 17), args := #[Go.Operand.tmp 117], argTypes := #[35] }, type := 9, pos := "law.go:103", after := #[{ on := 11, ground := Go.Ground.data }, { on := 10, ground := Go.Ground.chain }, { on := 10, ground := Go.Ground.guard }], guard := some (10, true) } : Oper)) rfl (fun K hK => ?_) AllReadyH.nil
              go_simp
              go_at_call 17
              refine (HFE.out _ hHeld).mono ?_
              rintro e' u1 ⟨rfl, hbb⟩
              refine hK.out _ _ (hHeld.trans (hbb.mono hHeld.size)) (fun hHeld1 => ?_)
              clear hK K hbb
              try simp only [Act.put, List.setIfInBounds_toArray, List.set_cons_zero, List.set_cons_succ]
              refine wpAnyH_ready (rs := [17]) (by kernel_rfl) (by simp) ?_
              refine AllReadyH.cons (o := ({ dst := some 123, op := Go.Op.call { callee := Go.Callee.value (Go.Operand.func 18), args := #[Go.Operand.tmp 122], argTypes := #[3] }, type := 9, pos := "law.go:103", after := #[{ on := 16, ground := Go.Ground.data }, { on := 12, ground := Go.Ground.chain }, { on := 10, ground := Go.Ground.guard }], guard := some (10, true) } : Oper)) rfl (fun K hK => ?_) AllReadyH.nil
              go_simp
              go_at_call 18
              refine (HDg.out _).mono ?_
              rintro e' u2 ⟨rfl, hbb⟩
              refine hK.out _ _ (hHeld1.trans (hbb.mono hHeld1.size)) (fun hHeld2 => ?_)
              clear hK K hbb
              try simp only [Act.put, List.setIfInBounds_toArray, List.set_cons_zero, List.set_cons_succ]
              refine wpAnyH_take (i := 18) (oi := ({ dst := some 124, op := Go.Op.binOp Go.BinOp.add 9 (Go.Operand.const (Go.Value.string { data := #[108, 105, 110, 101, 32] })) (Go.Operand.tmp 123) 9, type := 9, pos := "law.go:103", after := #[{ on := 17, ground := Go.Ground.data }, { on := 10, ground := Go.Ground.guard }], guard := some (10, true) } : Oper)) (v := .string X1) rfl (by kernel_rfl) (by kernel_rfl) (by kernel_rfl) (fun _ _ _ h => h) (Or.inl ⟨by rfl, fun w' _ => ?_⟩) hHeld2 ?_
              · go_simp
              try simp only [Act.put, List.setIfInBounds_toArray, List.set_cons_zero, List.set_cons_succ]
              refine wpAnyH_take (i := 19) (oi := ({ dst := some 125, op := Go.Op.binOp Go.BinOp.add 9 (Go.Operand.tmp 124) (Go.Operand.const (Go.Value.string { data := #[58, 32] })) 9, type := 9, pos := "law.go:103", after := #[{ on := 18, ground := Go.Ground.data }, { on := 10, ground := Go.Ground.guard }], guard := some (10, true) } : Oper)) (v := .string X2) rfl (by kernel_rfl) (by kernel_rfl) (by kernel_rfl) (fun _ _ _ h => h) (Or.inl ⟨by rfl, fun w' _ => ?_⟩) hHeld2 ?_
              · go_simp
              try simp only [Act.put, List.setIfInBounds_toArray, List.set_cons_zero, List.set_cons_succ]
              refine wpAnyH_ready (rs := [21]) (by kernel_rfl) (by simp) ?_
              refine AllReadyH.cons (o := ({ dst := some 127, op := Go.Op.call { callee := Go.Callee.value (Go.Operand.func 19), args := #[Go.Operand.tmp 126], argTypes := #[36] }, type := 9, pos := "law.go:103", after := #[{ on := 20, ground := Go.Ground.data }, { on := 17, ground := Go.Ground.chain }, { on := 10, ground := Go.Ground.guard }], guard := some (10, true) } : Oper)) rfl (fun K hK => ?_) AllReadyH.nil
              go_simp
              go_at_call 19
              refine (HEr.out _ (HE9.out.below hHeld2)).mono ?_
              rintro e' u3 ⟨rfl, hbb⟩
              refine hK.out _ _ (hHeld2.trans (hbb.mono hHeld2.size)) (fun hHeld3 => ?_)
              clear hK K hbb
              try simp only [Act.put, List.setIfInBounds_toArray, List.set_cons_zero, List.set_cons_succ]
              refine wpAnyH_take (i := 22) (oi := ({ dst := some 128, op := Go.Op.binOp Go.BinOp.add 9 (Go.Operand.tmp 125) (Go.Operand.tmp 127) 9, type := 9, pos := "law.go:103", after := #[{ on := 19, ground := Go.Ground.data }, { on := 21, ground := Go.Ground.data }, { on := 10, ground := Go.Ground.guard }], guard := some (10, true) } : Oper)) (v := .string X3) rfl (by kernel_rfl) (by kernel_rfl) (by kernel_rfl) (fun _ _ _ h => h) (Or.inl ⟨by rfl, fun w' _ => ?_⟩) hHeld3 ?_
              · go_simp
              try simp only [Act.put, List.setIfInBounds_toArray, List.set_cons_zero, List.set_cons_succ]
              refine wpAnyH_take (i := 23) (oi := ({ dst := some 129, op := Go.Op.binOp Go.BinOp.eql 9 (Go.Operand.tmp 118) (Go.Operand.tmp 128) 9, type := 4, pos := "law.go:103", after := #[{ on := 12, ground := Go.Ground.data }, { on := 22, ground := Go.Ground.data }, { on := 10, ground := Go.Ground.guard }], guard := some (10, true) } : Oper)) (v := .bool true) rfl (by kernel_rfl) (by kernel_rfl) (by kernel_rfl) (fun _ _ _ h => h) (Or.inl ⟨by rfl, fun w' _ => ?_⟩) hHeld3 ?_
              · go_simp
              try simp only [Act.put, List.setIfInBounds_toArray, List.set_cons_zero, List.set_cons_succ]
              refine wpAnyH_take (i := 24) (oi := ({ dst := some 130, op := Go.Op.pick (Go.Operand.tmp 116) (Go.Operand.tmp 129) (Go.Operand.const (Go.Value.bool false)), type := 4, pos := "law.go:103", after := #[{ on := 10, ground := Go.Ground.data }, { on := 23, ground := Go.Ground.data }], guard := none } : Oper)) (v := .bool true) rfl (by kernel_rfl) (by kernel_rfl) (by kernel_rfl) (fun _ _ _ h => h) (Or.inl ⟨by rfl, fun w' _ => ?_⟩) hHeld3 ?_
              · go_simp
              try simp only [Act.put, List.setIfInBounds_toArray, List.set_cons_zero, List.set_cons_succ]
              refine wpAnyH_take (i := 25) (oi := ({ dst := some 2, op := Go.Op.assign (Go.Operand.tmp 130), type := 4, pos := "law.go:103", after := #[{ on := 24, ground := Go.Ground.data }, { on := 21, ground := Go.Ground.chain }, { on := 0, ground := Go.Ground.phase }, { on := 1, ground := Go.Ground.phase }, { on := 2, ground := Go.Ground.phase }, { on := 3, ground := Go.Ground.phase }, { on := 4, ground := Go.Ground.phase }, { on := 5, ground := Go.Ground.phase }, { on := 6, ground := Go.Ground.phase }, { on := 7, ground := Go.Ground.phase }, { on := 8, ground := Go.Ground.phase }, { on := 9, ground := Go.Ground.phase }, { on := 10, ground := Go.Ground.phase }, { on := 11, ground := Go.Ground.phase }, { on := 12, ground := Go.Ground.phase }, { on := 13, ground := Go.Ground.phase }, { on := 14, ground := Go.Ground.phase }, { on := 15, ground := Go.Ground.phase }, { on := 16, ground := Go.Ground.phase }, { on := 17, ground := Go.Ground.phase }, { on := 18, ground := Go.Ground.phase }, { on := 19, ground := Go.Ground.phase }, { on := 20, ground := Go.Ground.phase }, { on := 21, ground := Go.Ground.phase }, { on := 22, ground := Go.Ground.phase }, { on := 23, ground := Go.Ground.phase }, { on := 24, ground := Go.Ground.phase }], guard := none } : Oper)) (v := .bool true) rfl (by kernel_rfl) (by kernel_rfl) (by kernel_rfl) (fun _ _ _ h => h) (Or.inl ⟨by rfl, fun w' _ => ?_⟩) hHeld3 ?_
              · go_simp
              try simp only [Act.put, List.setIfInBounds_toArray, List.set_cons_zero, List.set_cons_succ]
              refine wpAnyH_done (by kernel_rfl) ?_ _
              have HBn := Lib.hid (HB9.out.trans (hHeld3.mono HB9.out.size))
              clear hHeld hHeld1 hHeld2 hHeld3
              go_wp2_with fail
              go_ret
              exact ⟨rfl, HBn.out⟩
      · have HJ1 : Hid (Calls Tryz.prog 15 #[.iface 35 (.pointer (some ⟨p, 0, none⟩)), .iface 36 (.int .i64 3)] W5 fun e w' => e = .returned (.bool true) ∧ w' = W5) := HI1
        have HJ2 : Hid (Calls Tryz.prog 15 #[.iface 35 (.pointer (some ⟨p, 0, none⟩)), .iface 36 (.int .i64 7)] W5 fun e w' => e = .returned (.bool false) ∧ w' = W5) := HI2
        go_wp2_with (first
          | (go_at_call 15; with_reducible refine HJ1.out.mono ?_; rintro e w6 ⟨rfl, hw6⟩; obtain rfl := hw6.symm)
          | (go_at_call 15; with_reducible refine HJ2.out.mono ?_; rintro e w6 ⟨rfl, hw6⟩; obtain rfl := hw6.symm)
          | (go_at_call 16; refine HUn.out.mono ?_; rintro e w6 ⟨rfl, hw6⟩; obtain rfl := hw6.symm))
        go_loopg [78, 7, 8, 9] s.size (fun gk vi vl vh _ wr => ∃ (i l : Nat) (hd : ByteArray), vi = .int .i64 i ∧ vl = .int .i64 l ∧ vh = .string hd ∧ i + gk = s.size ∧ Hid (FlAt S f i l hd) ∧ wr = W5)
        case atStart => exact ⟨0, 1, ⟨#[]⟩, rfl, rfl, rfl, by omega, Lib.hid ⟨rfl, rfl, hf1, fun _ => .inl rfl⟩, rfl⟩
        case round =>
          obtain ⟨i, l, hd, rfl, rfl, rfl, hi, HFl, rfl⟩ := hrel
          have hfl := HFl.out
          have hds : hd.size ≤ 2000 := by rw [Lib.size_eq, hfl.head, List.length_take, HSl.out]; omega
          by_cases hcase : i < s.size ∧ l ≠ f
          · obtain ⟨hin, hlf⟩ := hcase
            obtain ⟨g, rfl⟩ : ∃ g', gk = g' + 1 := ⟨gk - 1, by omega⟩
            have hiI : (i : Int) < (s.size : Int) := by omega
            have hlI : ¬ (l : Int) = (f : Int) := by omega
            have hll := hfl.le
            have hcx : S[i]? = some s[i] := by rw [HSS.out]; exact Lib.data_getElem? s i hin
            have hex := ext1 s i hin
            have hx1 : (s.extract i (i + 1)).size = 1 := by rw [Lib.size_eq, hex]; rfl
            have hA1 := fun W => run_string_add_sum (P := Tryz.prog) (w := W) hd (s.extract i (i + 1)) (by rw [hx1]; omega)
            have hnx := hfl.next hlf hcx (hd ++ s.extract i (i + 1)) (by rw [Joins.data_append, hex])
            clear hcx hex hx1 hfl hds hlf
            by_cases hc : (s[i].toNat : Int) = 10
            · have hc' : s[i] = 10 := by apply UInt8.toNat_inj.1; show s[i].toNat = 10; omega
              rw [if_pos hc'] at hnx
              have HNx := Lib.hid hnx
              clear hc' hnx
              go_wp2_with fail
              go_roundg g
              case measure => omega
              case rel => exact ⟨i + 1, l + 1, _, by go_num, by go_num, rfl, by omega, HNx, rfl⟩
            · have hc' : ¬ s[i] = 10 := fun e => hc (by rw [e]; rfl)
              rw [if_neg hc', Nat.add_zero] at hnx
              have HNx := Lib.hid hnx
              clear hc' hnx
              go_wp2_with fail
              go_roundg g
              case measure => omega
              case rel => exact ⟨i + 1, l, _, by go_num, rfl, rfl, by omega, HNx, rfl⟩
          · have hle : l = f := by
              rcases Nat.lt_or_ge i s.size with h | h
              · exact Classical.byContradiction fun hne => hcase ⟨h, hne⟩
              · have h1 := hfl.line
                rw [List.take_of_length_le (by rw [HSl.out]; exact h)] at h1
                have := hfl.le
                have := HF2.out
                omega
            subst hle
            obtain ⟨d', hpd⟩ := fault_ahead HPC.out hk0 (List.take_append_drop i S).symm hfl.line.symm (hfl.last rfl)
            rw [← hfl.head] at hpd
            have HPar := Lib.hid (cparse_at hd 0 0 d' hpd _ (HE.out.below HB5.out) (by omega))
            have hcs : (i : Int) < (s.size : Int) ∨ ¬ (i : Int) < (s.size : Int) := by omega
            clear hfl hds hpd hcase HFl
            have HW5 := Lib.hid hf1
            rcases hcs with hiI | hiI
            all_goals
              go_wp2_with fail
              refine HPar.out.mono ?_
              rintro e w6 ⟨hb6, val6, hcv6, ⟨_, rfl⟩ | ⟨h0, _⟩⟩
              case inr => exact absurd rfl h0
              obtain ⟨r6, rfl, hzr6, hsr6, h1r6⟩ := HZS.out _ _ _ hcv6
              have HSR6 := Lib.hid hsr6
              have HZR6 := Lib.hid hzr6
              have H1R6 := Lib.hid h1r6
              have hb9 := hb6.alloc hb6.size (.cells r6 26)
              have q1 := (hb9.cell (cell_lt HCf.out)).trans HCf.out
              have q2 := (hb9.cell (cell_lt HCe.out)).trans HCe.out
              have q3 := (hb9.cell (cell_lt HQ0.out)).trans HQ0.out
              have q4 := (hb9.cell (cell_lt HQ1.out)).trans HQ1.out
              have HB9 := Lib.hid (HB5.out.trans (hb9.mono HB5.out.size))
              clear hcv6 hzr6 hsr6 h1r6 hb6 hb9
              go_wp2_with (first
                | (refine wpList_alloc_z rfl 26 rfl Z HZ.out ?_; go_simp)
                | (refine wpList_store_new rfl 26 (.tmp 10) (.tmp 104) rfl w6.heap.size rfl Z r6 26 rfl rfl HSR6.out HZR6.out H1R6.out ?_; go_simp))
              generalize w6.alloc (.cells r6 26) = W9 at q1 q2 q3 q4 HB9 ⊢
              have HE9 := Lib.hid (HE.out.below HB9.out)
              have Q1 : Hid (∀ W, Below W9.heap.size W9 W → W.cell? ⟨w2.heap.size + 1, 0, none⟩ = some (.pointer (some ⟨p, 0, none⟩))) := Lib.hid (fun W hW => (hW.cell (cell_lt q1)).trans q1)
              have Q2 : Hid (∀ W, Below W9.heap.size W9 W → W.cell? ⟨w2.heap.size + 1 + 1, 0, none⟩ = some (.int .i64 (3 : Nat))) := Lib.hid (fun W hW => (hW.cell (cell_lt q2)).trans q2)
              have Q3 : Hid (∀ W, Below W9.heap.size W9 W → W.cell? ⟨p, 0, none⟩ = some (.int .i64 l)) := Lib.hid (fun W hW => (hW.cell (cell_lt q3)).trans q3)
              have QF : Hid (FaultAt W9 p l 3) := Lib.hid ⟨cell_lt q3, q3, q4⟩
              clear q1 q2 q3 q4
              have HFE : Hid (∀ W, Below W9.heap.size W9 W → Calls Tryz.prog 17 #[.pointer (some ⟨p, 0, none⟩)] W fun e w' => e = .returned (.string (tb (faultT l (errT 3)))) ∧ Below W.heap.size W w') := Lib.hid (fun W hW => fault1_e p l 3 W (HE9.out.below hW) (by omega) (by decide) (QF.out.below hW))
              have HDg : Hid (∀ W, Calls Tryz.prog 18 #[.int .i64 l] W fun e w' => e = .returned (.string (tb (Go.Lib.decDigits l))) ∧ Below W.heap.size W w') := Lib.hid (fun W => digits_e l W (by omega))
              have HEr : Hid (∀ W, AEnv W → Calls Tryz.prog 19 #[.int .i64 3] W fun e w' => e = .returned (.string (tb (errT 3))) ∧ Below W.heap.size W w') := Lib.hid (fun W hW => errno_e 3 (by decide) W hW)
              have s1 : (tb (Go.Lib.decDigits l)).size ≤ 2002 := by rw [Lib.size_eq, tb_data]; have := dec_len l; omega
              have s2 : (tb (errT 3)).size ≤ 100 := by rw [Lib.size_eq, tb_data]; have := dec_len 3; unfold errT; rw [List.length_append]; simp only [List.length_cons, List.length_nil]; omega
              have hX : tb (faultT l (errT 3)) = ⟨#[108, 105, 110, 101, 32]⟩ ++ tb (Go.Lib.decDigits l) ++ ⟨#[58, 32]⟩ ++ tb (errT 3) := bytes_inj (by simp [faultT, tb_data])
              rw [hX] at HFE
              generalize tb (Go.Lib.decDigits l) = DD at HFE HDg s1
              generalize tb (errT 3) = TT at HFE HEr s2
              have z1 : (ByteArray.mk #[108, 105, 110, 101, 32]).size = 5 := rfl
              have z2 : (ByteArray.mk #[58, 32]).size = 2 := rfl
              have a1 := fun W => run_string_add_sum (P := Tryz.prog) (w := W) ⟨#[108, 105, 110, 101, 32]⟩ DD (by omega)
              have y1 : (⟨#[108, 105, 110, 101, 32]⟩ ++ DD : ByteArray).size ≤ 2010 := by rw [ByteArray.size_append]; omega
              generalize (⟨#[108, 105, 110, 101, 32]⟩ ++ DD : ByteArray) = X1 at HFE a1 y1
              have a2 := fun W => run_string_add_sum (P := Tryz.prog) (w := W) X1 ⟨#[58, 32]⟩ (by omega)
              have y2 : (X1 ++ ⟨#[58, 32]⟩ : ByteArray).size ≤ 2020 := by rw [ByteArray.size_append]; omega
              generalize (X1 ++ ⟨#[58, 32]⟩ : ByteArray) = X2 at HFE a2 y2
              have a3 := fun W => run_string_add_sum (P := Tryz.prog) (w := W) X2 TT (by omega)
              generalize (X2 ++ TT : ByteArray) = X3 at HFE a3
              clear z1 z2 y1 y2 hX s1 s2
              refine wp_region_held_drew (S := (fun W : World => Below W9.heap.size W9 W)) (by kernel_rfl) (Below.refl _ W9).drew (fun hHeld => ?_)
              refine wpAnyH_take (i := 0) (oi := ({ dst := some 106, op := Go.Op.move (Go.Operand.tmp 7), type := 3, pos := "law.go:103", after := #[], guard := none } : Oper)) (v := .int .i64 l) rfl (by kernel_rfl) (by kernel_rfl) (by kernel_rfl) (fun _ _ _ h => h) (Or.inl ⟨by rfl, fun w' _ => ?_⟩) hHeld ?_
              · go_simp
              try simp only [Act.put, List.setIfInBounds_toArray, List.set_cons_zero, List.set_cons_succ]
              refine wpAnyH_take (i := 1) (oi := ({ dst := some 107, op := Go.Op.load 35 (Go.Operand.tmp 5), type := 35, pos := "law.go:103", after := #[], guard := none } : Oper)) (v := .pointer (some ⟨p, 0, none⟩)) rfl (by kernel_rfl) (by kernel_rfl) (by kernel_rfl) (fun _ _ _ h => h) (Or.inl ⟨by rfl, fun w' hS' => ?_⟩) hHeld ?_
              · have hcell := Q1.out _ hS'
                go_simp
              try simp only [Act.put, List.setIfInBounds_toArray, List.set_cons_zero, List.set_cons_succ]
              refine wpAnyH_take (i := 2) (oi := ({ dst := some 108, op := Go.Op.nilCheck (Go.Operand.tmp 107), type := 0, pos := "law.go:103", after := #[{ on := 1, ground := Go.Ground.data }], guard := none } : Oper)) (v := .pointer (some ⟨p, 0, none⟩)) rfl (by kernel_rfl) (by kernel_rfl) (by kernel_rfl) (fun _ _ _ h => h) (Or.inl ⟨by rfl, fun w' _ => ?_⟩) hHeld ?_
              · go_simp
              try simp only [Act.put, List.setIfInBounds_toArray, List.set_cons_zero, List.set_cons_succ]
              refine wpAnyH_take (i := 3) (oi := ({ dst := some 109, op := Go.Op.fieldAddr 43 (Go.Operand.tmp 108) 0, type := 0, pos := "law.go:103", after := #[{ on := 2, ground := Go.Ground.data }], guard := none } : Oper)) (v := .pointer (some ⟨p, 0, none⟩)) rfl (by kernel_rfl) (by kernel_rfl) (by kernel_rfl) (fun _ _ _ h => h) (Or.inl ⟨by rfl, fun w' _ => ?_⟩) hHeld ?_
              · go_simp
              try simp only [Act.put, List.setIfInBounds_toArray, List.set_cons_zero, List.set_cons_succ]
              refine wpAnyH_take (i := 4) (oi := ({ dst := some 110, op := Go.Op.load 3 (Go.Operand.tmp 109), type := 3, pos := "law.go:103", after := #[{ on := 3, ground := Go.Ground.data }], guard := none } : Oper)) (v := .int .i64 l) rfl (by kernel_rfl) (by kernel_rfl) (by kernel_rfl) (fun _ _ _ h => h) (Or.inl ⟨by rfl, fun w' hS' => ?_⟩) hHeld ?_
              · have hcell := Q3.out _ hS'
                go_simp
              try simp only [Act.put, List.setIfInBounds_toArray, List.set_cons_zero, List.set_cons_succ]
              refine wpAnyH_take (i := 5) (oi := ({ dst := some 111, op := Go.Op.binOp Go.BinOp.eql 3 (Go.Operand.tmp 106) (Go.Operand.tmp 110) 3, type := 4, pos := "law.go:103", after := #[{ on := 0, ground := Go.Ground.data }, { on := 4, ground := Go.Ground.data }], guard := none } : Oper)) (v := .bool true) rfl (by kernel_rfl) (by kernel_rfl) (by kernel_rfl) (fun _ _ _ h => h) (Or.inl ⟨by rfl, fun w' _ => ?_⟩) hHeld ?_
              · go_simp
              try simp only [Act.put, List.setIfInBounds_toArray, List.set_cons_zero, List.set_cons_succ]
              refine wpAnyH_take (i := 6) (oi := ({ dst := some 112, op := Go.Op.move (Go.Operand.tmp 111), type := 4, pos := "law.go:103", after := #[{ on := 5, ground := Go.Ground.data }], guard := none } : Oper)) (v := .bool true) rfl (by kernel_rfl) (by kernel_rfl) (by kernel_rfl) (fun _ _ _ h => h) (Or.inl ⟨by rfl, fun w' _ => ?_⟩) hHeld ?_
              · go_simp
              try simp only [Act.put, List.setIfInBounds_toArray, List.set_cons_zero, List.set_cons_succ]
              refine wpAnyH_take (i := 7) (oi := ({ dst := some 113, op := Go.Op.move (Go.Operand.tmp 11), type := 28, pos := "law.go:103", after := #[{ on := 6, ground := Go.Ground.guard }], guard := some (6, true) } : Oper)) (v := .nilIface) rfl (by kernel_rfl) (by kernel_rfl) (by kernel_rfl) (fun _ _ _ h => h) (Or.inl ⟨by rfl, fun w' _ => ?_⟩) hHeld ?_
              · go_simp
              try simp only [Act.put, List.setIfInBounds_toArray, List.set_cons_zero, List.set_cons_succ]
              refine wpAnyH_take (i := 8) (oi := ({ dst := some 114, op := Go.Op.binOp Go.BinOp.eql 28 (Go.Operand.tmp 113) (Go.Operand.const Go.Value.nilIface) 28, type := 4, pos := "law.go:103", after := #[{ on := 7, ground := Go.Ground.data }, { on := 6, ground := Go.Ground.guard }], guard := some (6, true) } : Oper)) (v := .bool true) rfl (by kernel_rfl) (by kernel_rfl) (by kernel_rfl) (fun _ _ _ h => h) (Or.inl ⟨by rfl, fun w' _ => ?_⟩) hHeld ?_
              · go_simp
              try simp only [Act.put, List.setIfInBounds_toArray, List.set_cons_zero, List.set_cons_succ]
              refine wpAnyH_take (i := 9) (oi := ({ dst := some 115, op := Go.Op.pick (Go.Operand.tmp 112) (Go.Operand.tmp 114) (Go.Operand.const (Go.Value.bool false)), type := 4, pos := "law.go:103", after := #[{ on := 6, ground := Go.Ground.data }, { on := 8, ground := Go.Ground.data }], guard := none } : Oper)) (v := .bool true) rfl (by kernel_rfl) (by kernel_rfl) (by kernel_rfl) (fun _ _ _ h => h) (Or.inl ⟨by rfl, fun w' _ => ?_⟩) hHeld ?_
              · go_simp
              try simp only [Act.put, List.setIfInBounds_toArray, List.set_cons_zero, List.set_cons_succ]
              refine wpAnyH_take (i := 10) (oi := ({ dst := some 116, op := Go.Op.move (Go.Operand.tmp 115), type := 4, pos := "law.go:103", after := #[{ on := 9, ground := Go.Ground.data }, { on := 6, ground := Go.Ground.chain }], guard := none } : Oper)) (v := .bool true) rfl (by kernel_rfl) (by kernel_rfl) (by kernel_rfl) (fun _ _ _ h => h) (Or.inl ⟨by rfl, fun w' _ => ?_⟩) hHeld ?_
              · go_simp
              try simp only [Act.put, List.setIfInBounds_toArray, List.set_cons_zero, List.set_cons_succ]
              refine wpAnyH_take (i := 11) (oi := ({ dst := some 117, op := Go.Op.load 35 (Go.Operand.tmp 5), type := 35, pos := "law.go:103", after := #[{ on := 10, ground := Go.Ground.guard }], guard := some (10, true) } : Oper)) (v := .pointer (some ⟨p, 0, none⟩)) rfl (by kernel_rfl) (by kernel_rfl) (by kernel_rfl) (fun _ _ _ h => h) (Or.inl ⟨by rfl, fun w' hS' => ?_⟩) hHeld ?_
              · have hcell := Q1.out _ hS'
                go_simp
              try simp only [Act.put, List.setIfInBounds_toArray, List.set_cons_zero, List.set_cons_succ]
              refine wpAnyH_take (i := 13) (oi := ({ dst := some 119, op := Go.Op.load 35 (Go.Operand.tmp 5), type := 35, pos := "law.go:103", after := #[{ on := 10, ground := Go.Ground.guard }], guard := some (10, true) } : Oper)) (v := .pointer (some ⟨p, 0, none⟩)) rfl (by kernel_rfl) (by kernel_rfl) (by kernel_rfl) (fun _ _ _ h => h) (Or.inl ⟨by rfl, fun w' hS' => ?_⟩) hHeld ?_
              · have hcell := Q1.out _ hS'
                go_simp
              try simp only [Act.put, List.setIfInBounds_toArray, List.set_cons_zero, List.set_cons_succ]
              refine wpAnyH_take (i := 14) (oi := ({ dst := some 120, op := Go.Op.nilCheck (Go.Operand.tmp 119), type := 0, pos := "law.go:103", after := #[{ on := 13, ground := Go.Ground.data }, { on := 10, ground := Go.Ground.guard }], guard := some (10, true) } : Oper)) (v := .pointer (some ⟨p, 0, none⟩)) rfl (by kernel_rfl) (by kernel_rfl) (by kernel_rfl) (fun _ _ _ h => h) (Or.inl ⟨by rfl, fun w' _ => ?_⟩) hHeld ?_
              · go_simp
              try simp only [Act.put, List.setIfInBounds_toArray, List.set_cons_zero, List.set_cons_succ]
              refine wpAnyH_take (i := 15) (oi := ({ dst := some 121, op := Go.Op.fieldAddr 43 (Go.Operand.tmp 120) 0, type := 0, pos := "law.go:103", after := #[{ on := 14, ground := Go.Ground.data }, { on := 10, ground := Go.Ground.guard }], guard := some (10, true) } : Oper)) (v := .pointer (some ⟨p, 0, none⟩)) rfl (by kernel_rfl) (by kernel_rfl) (by kernel_rfl) (fun _ _ _ h => h) (Or.inl ⟨by rfl, fun w' _ => ?_⟩) hHeld ?_
              · go_simp
              try simp only [Act.put, List.setIfInBounds_toArray, List.set_cons_zero, List.set_cons_succ]
              refine wpAnyH_take (i := 16) (oi := ({ dst := some 122, op := Go.Op.load 3 (Go.Operand.tmp 121), type := 3, pos := "law.go:103", after := #[{ on := 15, ground := Go.Ground.data }, { on := 10, ground := Go.Ground.guard }], guard := some (10, true) } : Oper)) (v := .int .i64 l) rfl (by kernel_rfl) (by kernel_rfl) (by kernel_rfl) (fun _ _ _ h => h) (Or.inl ⟨by rfl, fun w' hS' => ?_⟩) hHeld ?_
              · have hcell := Q3.out _ hS'
                go_simp
              try simp only [Act.put, List.setIfInBounds_toArray, List.set_cons_zero, List.set_cons_succ]
              refine wpAnyH_take (i := 20) (oi := ({ dst := some 126, op := Go.Op.load 36 (Go.Operand.tmp 6), type := 36, pos := "law.go:103", after := #[{ on := 10, ground := Go.Ground.guard }], guard := some (10, true) } : Oper)) (v := .int .i64 3) rfl (by kernel_rfl) (by kernel_rfl) (by kernel_rfl) (fun _ _ _ h => h) (Or.inl ⟨by rfl, fun w' hS' => ?_⟩) hHeld ?_
              · have hcell := Q2.out _ hS'
                go_simp
              try simp only [Act.put, List.setIfInBounds_toArray, List.set_cons_zero, List.set_cons_succ]
              refine wpAnyH_ready (rs := [12]) (by kernel_rfl) (by simp) ?_
              refine AllReadyH.cons (o := ({ dst := some 118, op := Go.Op.call { callee := Go.Callee.value (Go.Operand.func 17), args := #[Go.Operand.tmp 117], argTypes := #[35] }, type := 9, pos := "law.go:103", after := #[{ on := 11, ground := Go.Ground.data }, { on := 10, ground := Go.Ground.chain }, { on := 10, ground := Go.Ground.guard }], guard := some (10, true) } : Oper)) rfl (fun K hK => ?_) AllReadyH.nil
              go_simp
              go_at_call 17
              refine (HFE.out _ hHeld).mono ?_
              rintro e' u1 ⟨rfl, hbb⟩
              refine hK.out _ _ (hHeld.trans (hbb.mono hHeld.size)) (fun hHeld1 => ?_)
              clear hK K hbb
              try simp only [Act.put, List.setIfInBounds_toArray, List.set_cons_zero, List.set_cons_succ]
              refine wpAnyH_ready (rs := [17]) (by kernel_rfl) (by simp) ?_
              refine AllReadyH.cons (o := ({ dst := some 123, op := Go.Op.call { callee := Go.Callee.value (Go.Operand.func 18), args := #[Go.Operand.tmp 122], argTypes := #[3] }, type := 9, pos := "law.go:103", after := #[{ on := 16, ground := Go.Ground.data }, { on := 12, ground := Go.Ground.chain }, { on := 10, ground := Go.Ground.guard }], guard := some (10, true) } : Oper)) rfl (fun K hK => ?_) AllReadyH.nil
              go_simp
              go_at_call 18
              refine (HDg.out _).mono ?_
              rintro e' u2 ⟨rfl, hbb⟩
              refine hK.out _ _ (hHeld1.trans (hbb.mono hHeld1.size)) (fun hHeld2 => ?_)
              clear hK K hbb
              try simp only [Act.put, List.setIfInBounds_toArray, List.set_cons_zero, List.set_cons_succ]
              refine wpAnyH_take (i := 18) (oi := ({ dst := some 124, op := Go.Op.binOp Go.BinOp.add 9 (Go.Operand.const (Go.Value.string { data := #[108, 105, 110, 101, 32] })) (Go.Operand.tmp 123) 9, type := 9, pos := "law.go:103", after := #[{ on := 17, ground := Go.Ground.data }, { on := 10, ground := Go.Ground.guard }], guard := some (10, true) } : Oper)) (v := .string X1) rfl (by kernel_rfl) (by kernel_rfl) (by kernel_rfl) (fun _ _ _ h => h) (Or.inl ⟨by rfl, fun w' _ => ?_⟩) hHeld2 ?_
              · go_simp
              try simp only [Act.put, List.setIfInBounds_toArray, List.set_cons_zero, List.set_cons_succ]
              refine wpAnyH_take (i := 19) (oi := ({ dst := some 125, op := Go.Op.binOp Go.BinOp.add 9 (Go.Operand.tmp 124) (Go.Operand.const (Go.Value.string { data := #[58, 32] })) 9, type := 9, pos := "law.go:103", after := #[{ on := 18, ground := Go.Ground.data }, { on := 10, ground := Go.Ground.guard }], guard := some (10, true) } : Oper)) (v := .string X2) rfl (by kernel_rfl) (by kernel_rfl) (by kernel_rfl) (fun _ _ _ h => h) (Or.inl ⟨by rfl, fun w' _ => ?_⟩) hHeld2 ?_
              · go_simp
              try simp only [Act.put, List.setIfInBounds_toArray, List.set_cons_zero, List.set_cons_succ]
              refine wpAnyH_ready (rs := [21]) (by kernel_rfl) (by simp) ?_
              refine AllReadyH.cons (o := ({ dst := some 127, op := Go.Op.call { callee := Go.Callee.value (Go.Operand.func 19), args := #[Go.Operand.tmp 126], argTypes := #[36] }, type := 9, pos := "law.go:103", after := #[{ on := 20, ground := Go.Ground.data }, { on := 17, ground := Go.Ground.chain }, { on := 10, ground := Go.Ground.guard }], guard := some (10, true) } : Oper)) rfl (fun K hK => ?_) AllReadyH.nil
              go_simp
              go_at_call 19
              refine (HEr.out _ (HE9.out.below hHeld2)).mono ?_
              rintro e' u3 ⟨rfl, hbb⟩
              refine hK.out _ _ (hHeld2.trans (hbb.mono hHeld2.size)) (fun hHeld3 => ?_)
              clear hK K hbb
              try simp only [Act.put, List.setIfInBounds_toArray, List.set_cons_zero, List.set_cons_succ]
              refine wpAnyH_take (i := 22) (oi := ({ dst := some 128, op := Go.Op.binOp Go.BinOp.add 9 (Go.Operand.tmp 125) (Go.Operand.tmp 127) 9, type := 9, pos := "law.go:103", after := #[{ on := 19, ground := Go.Ground.data }, { on := 21, ground := Go.Ground.data }, { on := 10, ground := Go.Ground.guard }], guard := some (10, true) } : Oper)) (v := .string X3) rfl (by kernel_rfl) (by kernel_rfl) (by kernel_rfl) (fun _ _ _ h => h) (Or.inl ⟨by rfl, fun w' _ => ?_⟩) hHeld3 ?_
              · go_simp
              try simp only [Act.put, List.setIfInBounds_toArray, List.set_cons_zero, List.set_cons_succ]
              refine wpAnyH_take (i := 23) (oi := ({ dst := some 129, op := Go.Op.binOp Go.BinOp.eql 9 (Go.Operand.tmp 118) (Go.Operand.tmp 128) 9, type := 4, pos := "law.go:103", after := #[{ on := 12, ground := Go.Ground.data }, { on := 22, ground := Go.Ground.data }, { on := 10, ground := Go.Ground.guard }], guard := some (10, true) } : Oper)) (v := .bool true) rfl (by kernel_rfl) (by kernel_rfl) (by kernel_rfl) (fun _ _ _ h => h) (Or.inl ⟨by rfl, fun w' _ => ?_⟩) hHeld3 ?_
              · go_simp
              try simp only [Act.put, List.setIfInBounds_toArray, List.set_cons_zero, List.set_cons_succ]
              refine wpAnyH_take (i := 24) (oi := ({ dst := some 130, op := Go.Op.pick (Go.Operand.tmp 116) (Go.Operand.tmp 129) (Go.Operand.const (Go.Value.bool false)), type := 4, pos := "law.go:103", after := #[{ on := 10, ground := Go.Ground.data }, { on := 23, ground := Go.Ground.data }], guard := none } : Oper)) (v := .bool true) rfl (by kernel_rfl) (by kernel_rfl) (by kernel_rfl) (fun _ _ _ h => h) (Or.inl ⟨by rfl, fun w' _ => ?_⟩) hHeld3 ?_
              · go_simp
              try simp only [Act.put, List.setIfInBounds_toArray, List.set_cons_zero, List.set_cons_succ]
              refine wpAnyH_take (i := 25) (oi := ({ dst := some 2, op := Go.Op.assign (Go.Operand.tmp 130), type := 4, pos := "law.go:103", after := #[{ on := 24, ground := Go.Ground.data }, { on := 21, ground := Go.Ground.chain }, { on := 0, ground := Go.Ground.phase }, { on := 1, ground := Go.Ground.phase }, { on := 2, ground := Go.Ground.phase }, { on := 3, ground := Go.Ground.phase }, { on := 4, ground := Go.Ground.phase }, { on := 5, ground := Go.Ground.phase }, { on := 6, ground := Go.Ground.phase }, { on := 7, ground := Go.Ground.phase }, { on := 8, ground := Go.Ground.phase }, { on := 9, ground := Go.Ground.phase }, { on := 10, ground := Go.Ground.phase }, { on := 11, ground := Go.Ground.phase }, { on := 12, ground := Go.Ground.phase }, { on := 13, ground := Go.Ground.phase }, { on := 14, ground := Go.Ground.phase }, { on := 15, ground := Go.Ground.phase }, { on := 16, ground := Go.Ground.phase }, { on := 17, ground := Go.Ground.phase }, { on := 18, ground := Go.Ground.phase }, { on := 19, ground := Go.Ground.phase }, { on := 20, ground := Go.Ground.phase }, { on := 21, ground := Go.Ground.phase }, { on := 22, ground := Go.Ground.phase }, { on := 23, ground := Go.Ground.phase }, { on := 24, ground := Go.Ground.phase }], guard := none } : Oper)) (v := .bool true) rfl (by kernel_rfl) (by kernel_rfl) (by kernel_rfl) (fun _ _ _ h => h) (Or.inl ⟨by rfl, fun w' _ => ?_⟩) hHeld3 ?_
              · go_simp
              try simp only [Act.put, List.setIfInBounds_toArray, List.set_cons_zero, List.set_cons_succ]
              refine wpAnyH_done (by kernel_rfl) ?_ _
              have HBn := Lib.hid (HB9.out.trans (hHeld3.mono HB9.out.size))
              clear hHeld hHeld1 hHeld2 hHeld3
              go_wp2_with fail
              go_ret
              exact ⟨rfl, HBn.out⟩
      · have HJ1 : Hid (Calls Tryz.prog 15 #[.iface 35 (.pointer (some ⟨p, 0, none⟩)), .iface 36 (.int .i64 5)] W5 fun e w' => e = .returned (.bool true) ∧ w' = W5) := HI1
        have HJ2 : Hid (Calls Tryz.prog 15 #[.iface 35 (.pointer (some ⟨p, 0, none⟩)), .iface 36 (.int .i64 7)] W5 fun e w' => e = .returned (.bool false) ∧ w' = W5) := HI2
        go_wp2_with (first
          | (go_at_call 15; with_reducible refine HJ1.out.mono ?_; rintro e w6 ⟨rfl, hw6⟩; obtain rfl := hw6.symm)
          | (go_at_call 15; with_reducible refine HJ2.out.mono ?_; rintro e w6 ⟨rfl, hw6⟩; obtain rfl := hw6.symm)
          | (go_at_call 16; refine HUn.out.mono ?_; rintro e w6 ⟨rfl, hw6⟩; obtain rfl := hw6.symm))
        go_loopg [78, 7, 8, 9] s.size (fun gk vi vl vh _ wr => ∃ (i l : Nat) (hd : ByteArray), vi = .int .i64 i ∧ vl = .int .i64 l ∧ vh = .string hd ∧ i + gk = s.size ∧ Hid (FlAt S f i l hd) ∧ wr = W5)
        case atStart => exact ⟨0, 1, ⟨#[]⟩, rfl, rfl, rfl, by omega, Lib.hid ⟨rfl, rfl, hf1, fun _ => .inl rfl⟩, rfl⟩
        case round =>
          obtain ⟨i, l, hd, rfl, rfl, rfl, hi, HFl, rfl⟩ := hrel
          have hfl := HFl.out
          have hds : hd.size ≤ 2000 := by rw [Lib.size_eq, hfl.head, List.length_take, HSl.out]; omega
          by_cases hcase : i < s.size ∧ l ≠ f
          · obtain ⟨hin, hlf⟩ := hcase
            obtain ⟨g, rfl⟩ : ∃ g', gk = g' + 1 := ⟨gk - 1, by omega⟩
            have hiI : (i : Int) < (s.size : Int) := by omega
            have hlI : ¬ (l : Int) = (f : Int) := by omega
            have hll := hfl.le
            have hcx : S[i]? = some s[i] := by rw [HSS.out]; exact Lib.data_getElem? s i hin
            have hex := ext1 s i hin
            have hx1 : (s.extract i (i + 1)).size = 1 := by rw [Lib.size_eq, hex]; rfl
            have hA1 := fun W => run_string_add_sum (P := Tryz.prog) (w := W) hd (s.extract i (i + 1)) (by rw [hx1]; omega)
            have hnx := hfl.next hlf hcx (hd ++ s.extract i (i + 1)) (by rw [Joins.data_append, hex])
            clear hcx hex hx1 hfl hds hlf
            by_cases hc : (s[i].toNat : Int) = 10
            · have hc' : s[i] = 10 := by apply UInt8.toNat_inj.1; show s[i].toNat = 10; omega
              rw [if_pos hc'] at hnx
              have HNx := Lib.hid hnx
              clear hc' hnx
              go_wp2_with fail
              go_roundg g
              case measure => omega
              case rel => exact ⟨i + 1, l + 1, _, by go_num, by go_num, rfl, by omega, HNx, rfl⟩
            · have hc' : ¬ s[i] = 10 := fun e => hc (by rw [e]; rfl)
              rw [if_neg hc', Nat.add_zero] at hnx
              have HNx := Lib.hid hnx
              clear hc' hnx
              go_wp2_with fail
              go_roundg g
              case measure => omega
              case rel => exact ⟨i + 1, l, _, by go_num, rfl, rfl, by omega, HNx, rfl⟩
          · have hle : l = f := by
              rcases Nat.lt_or_ge i s.size with h | h
              · exact Classical.byContradiction fun hne => hcase ⟨h, hne⟩
              · have h1 := hfl.line
                rw [List.take_of_length_le (by rw [HSl.out]; exact h)] at h1
                have := hfl.le
                have := HF2.out
                omega
            subst hle
            obtain ⟨d', hpd⟩ := fault_ahead HPC.out hk0 (List.take_append_drop i S).symm hfl.line.symm (hfl.last rfl)
            rw [← hfl.head] at hpd
            have HPar := Lib.hid (cparse_at hd 0 0 d' hpd _ (HE.out.below HB5.out) (by omega))
            have hcs : (i : Int) < (s.size : Int) ∨ ¬ (i : Int) < (s.size : Int) := by omega
            clear hfl hds hpd hcase HFl
            have HW5 := Lib.hid hf1
            rcases hcs with hiI | hiI
            all_goals
              go_wp2_with fail
              refine HPar.out.mono ?_
              rintro e w6 ⟨hb6, val6, hcv6, ⟨_, rfl⟩ | ⟨h0, _⟩⟩
              case inr => exact absurd rfl h0
              obtain ⟨r6, rfl, hzr6, hsr6, h1r6⟩ := HZS.out _ _ _ hcv6
              have HSR6 := Lib.hid hsr6
              have HZR6 := Lib.hid hzr6
              have H1R6 := Lib.hid h1r6
              have hb9 := hb6.alloc hb6.size (.cells r6 26)
              have q1 := (hb9.cell (cell_lt HCf.out)).trans HCf.out
              have q2 := (hb9.cell (cell_lt HCe.out)).trans HCe.out
              have q3 := (hb9.cell (cell_lt HQ0.out)).trans HQ0.out
              have q4 := (hb9.cell (cell_lt HQ1.out)).trans HQ1.out
              have HB9 := Lib.hid (HB5.out.trans (hb9.mono HB5.out.size))
              clear hcv6 hzr6 hsr6 h1r6 hb6 hb9
              go_wp2_with (first
                | (refine wpList_alloc_z rfl 26 rfl Z HZ.out ?_; go_simp)
                | (refine wpList_store_new rfl 26 (.tmp 10) (.tmp 104) rfl w6.heap.size rfl Z r6 26 rfl rfl HSR6.out HZR6.out H1R6.out ?_; go_simp))
              generalize w6.alloc (.cells r6 26) = W9 at q1 q2 q3 q4 HB9 ⊢
              have HE9 := Lib.hid (HE.out.below HB9.out)
              have Q1 : Hid (∀ W, Below W9.heap.size W9 W → W.cell? ⟨w2.heap.size + 1, 0, none⟩ = some (.pointer (some ⟨p, 0, none⟩))) := Lib.hid (fun W hW => (hW.cell (cell_lt q1)).trans q1)
              have Q2 : Hid (∀ W, Below W9.heap.size W9 W → W.cell? ⟨w2.heap.size + 1 + 1, 0, none⟩ = some (.int .i64 (5 : Nat))) := Lib.hid (fun W hW => (hW.cell (cell_lt q2)).trans q2)
              have Q3 : Hid (∀ W, Below W9.heap.size W9 W → W.cell? ⟨p, 0, none⟩ = some (.int .i64 l)) := Lib.hid (fun W hW => (hW.cell (cell_lt q3)).trans q3)
              have QF : Hid (FaultAt W9 p l 5) := Lib.hid ⟨cell_lt q3, q3, q4⟩
              clear q1 q2 q3 q4
              have HFE : Hid (∀ W, Below W9.heap.size W9 W → Calls Tryz.prog 17 #[.pointer (some ⟨p, 0, none⟩)] W fun e w' => e = .returned (.string (tb (faultT l (errT 5)))) ∧ Below W.heap.size W w') := Lib.hid (fun W hW => fault1_e p l 5 W (HE9.out.below hW) (by omega) (by decide) (QF.out.below hW))
              have HDg : Hid (∀ W, Calls Tryz.prog 18 #[.int .i64 l] W fun e w' => e = .returned (.string (tb (Go.Lib.decDigits l))) ∧ Below W.heap.size W w') := Lib.hid (fun W => digits_e l W (by omega))
              have HEr : Hid (∀ W, AEnv W → Calls Tryz.prog 19 #[.int .i64 5] W fun e w' => e = .returned (.string (tb (errT 5))) ∧ Below W.heap.size W w') := Lib.hid (fun W hW => errno_e 5 (by decide) W hW)
              have s1 : (tb (Go.Lib.decDigits l)).size ≤ 2002 := by rw [Lib.size_eq, tb_data]; have := dec_len l; omega
              have s2 : (tb (errT 5)).size ≤ 100 := by rw [Lib.size_eq, tb_data]; have := dec_len 5; unfold errT; rw [List.length_append]; simp only [List.length_cons, List.length_nil]; omega
              have hX : tb (faultT l (errT 5)) = ⟨#[108, 105, 110, 101, 32]⟩ ++ tb (Go.Lib.decDigits l) ++ ⟨#[58, 32]⟩ ++ tb (errT 5) := bytes_inj (by simp [faultT, tb_data])
              rw [hX] at HFE
              generalize tb (Go.Lib.decDigits l) = DD at HFE HDg s1
              generalize tb (errT 5) = TT at HFE HEr s2
              have z1 : (ByteArray.mk #[108, 105, 110, 101, 32]).size = 5 := rfl
              have z2 : (ByteArray.mk #[58, 32]).size = 2 := rfl
              have a1 := fun W => run_string_add_sum (P := Tryz.prog) (w := W) ⟨#[108, 105, 110, 101, 32]⟩ DD (by omega)
              have y1 : (⟨#[108, 105, 110, 101, 32]⟩ ++ DD : ByteArray).size ≤ 2010 := by rw [ByteArray.size_append]; omega
              generalize (⟨#[108, 105, 110, 101, 32]⟩ ++ DD : ByteArray) = X1 at HFE a1 y1
              have a2 := fun W => run_string_add_sum (P := Tryz.prog) (w := W) X1 ⟨#[58, 32]⟩ (by omega)
              have y2 : (X1 ++ ⟨#[58, 32]⟩ : ByteArray).size ≤ 2020 := by rw [ByteArray.size_append]; omega
              generalize (X1 ++ ⟨#[58, 32]⟩ : ByteArray) = X2 at HFE a2 y2
              have a3 := fun W => run_string_add_sum (P := Tryz.prog) (w := W) X2 TT (by omega)
              generalize (X2 ++ TT : ByteArray) = X3 at HFE a3
              clear z1 z2 y1 y2 hX s1 s2
              refine wp_region_held_drew (S := (fun W : World => Below W9.heap.size W9 W)) (by kernel_rfl) (Below.refl _ W9).drew (fun hHeld => ?_)
              refine wpAnyH_take (i := 0) (oi := ({ dst := some 106, op := Go.Op.move (Go.Operand.tmp 7), type := 3, pos := "law.go:103", after := #[], guard := none } : Oper)) (v := .int .i64 l) rfl (by kernel_rfl) (by kernel_rfl) (by kernel_rfl) (fun _ _ _ h => h) (Or.inl ⟨by rfl, fun w' _ => ?_⟩) hHeld ?_
              · go_simp
              try simp only [Act.put, List.setIfInBounds_toArray, List.set_cons_zero, List.set_cons_succ]
              refine wpAnyH_take (i := 1) (oi := ({ dst := some 107, op := Go.Op.load 35 (Go.Operand.tmp 5), type := 35, pos := "law.go:103", after := #[], guard := none } : Oper)) (v := .pointer (some ⟨p, 0, none⟩)) rfl (by kernel_rfl) (by kernel_rfl) (by kernel_rfl) (fun _ _ _ h => h) (Or.inl ⟨by rfl, fun w' hS' => ?_⟩) hHeld ?_
              · have hcell := Q1.out _ hS'
                go_simp
              try simp only [Act.put, List.setIfInBounds_toArray, List.set_cons_zero, List.set_cons_succ]
              refine wpAnyH_take (i := 2) (oi := ({ dst := some 108, op := Go.Op.nilCheck (Go.Operand.tmp 107), type := 0, pos := "law.go:103", after := #[{ on := 1, ground := Go.Ground.data }], guard := none } : Oper)) (v := .pointer (some ⟨p, 0, none⟩)) rfl (by kernel_rfl) (by kernel_rfl) (by kernel_rfl) (fun _ _ _ h => h) (Or.inl ⟨by rfl, fun w' _ => ?_⟩) hHeld ?_
              · go_simp
              try simp only [Act.put, List.setIfInBounds_toArray, List.set_cons_zero, List.set_cons_succ]
              refine wpAnyH_take (i := 3) (oi := ({ dst := some 109, op := Go.Op.fieldAddr 43 (Go.Operand.tmp 108) 0, type := 0, pos := "law.go:103", after := #[{ on := 2, ground := Go.Ground.data }], guard := none } : Oper)) (v := .pointer (some ⟨p, 0, none⟩)) rfl (by kernel_rfl) (by kernel_rfl) (by kernel_rfl) (fun _ _ _ h => h) (Or.inl ⟨by rfl, fun w' _ => ?_⟩) hHeld ?_
              · go_simp
              try simp only [Act.put, List.setIfInBounds_toArray, List.set_cons_zero, List.set_cons_succ]
              refine wpAnyH_take (i := 4) (oi := ({ dst := some 110, op := Go.Op.load 3 (Go.Operand.tmp 109), type := 3, pos := "law.go:103", after := #[{ on := 3, ground := Go.Ground.data }], guard := none } : Oper)) (v := .int .i64 l) rfl (by kernel_rfl) (by kernel_rfl) (by kernel_rfl) (fun _ _ _ h => h) (Or.inl ⟨by rfl, fun w' hS' => ?_⟩) hHeld ?_
              · have hcell := Q3.out _ hS'
                go_simp
              try simp only [Act.put, List.setIfInBounds_toArray, List.set_cons_zero, List.set_cons_succ]
              refine wpAnyH_take (i := 5) (oi := ({ dst := some 111, op := Go.Op.binOp Go.BinOp.eql 3 (Go.Operand.tmp 106) (Go.Operand.tmp 110) 3, type := 4, pos := "law.go:103", after := #[{ on := 0, ground := Go.Ground.data }, { on := 4, ground := Go.Ground.data }], guard := none } : Oper)) (v := .bool true) rfl (by kernel_rfl) (by kernel_rfl) (by kernel_rfl) (fun _ _ _ h => h) (Or.inl ⟨by rfl, fun w' _ => ?_⟩) hHeld ?_
              · go_simp
              try simp only [Act.put, List.setIfInBounds_toArray, List.set_cons_zero, List.set_cons_succ]
              refine wpAnyH_take (i := 6) (oi := ({ dst := some 112, op := Go.Op.move (Go.Operand.tmp 111), type := 4, pos := "law.go:103", after := #[{ on := 5, ground := Go.Ground.data }], guard := none } : Oper)) (v := .bool true) rfl (by kernel_rfl) (by kernel_rfl) (by kernel_rfl) (fun _ _ _ h => h) (Or.inl ⟨by rfl, fun w' _ => ?_⟩) hHeld ?_
              · go_simp
              try simp only [Act.put, List.setIfInBounds_toArray, List.set_cons_zero, List.set_cons_succ]
              refine wpAnyH_take (i := 7) (oi := ({ dst := some 113, op := Go.Op.move (Go.Operand.tmp 11), type := 28, pos := "law.go:103", after := #[{ on := 6, ground := Go.Ground.guard }], guard := some (6, true) } : Oper)) (v := .nilIface) rfl (by kernel_rfl) (by kernel_rfl) (by kernel_rfl) (fun _ _ _ h => h) (Or.inl ⟨by rfl, fun w' _ => ?_⟩) hHeld ?_
              · go_simp
              try simp only [Act.put, List.setIfInBounds_toArray, List.set_cons_zero, List.set_cons_succ]
              refine wpAnyH_take (i := 8) (oi := ({ dst := some 114, op := Go.Op.binOp Go.BinOp.eql 28 (Go.Operand.tmp 113) (Go.Operand.const Go.Value.nilIface) 28, type := 4, pos := "law.go:103", after := #[{ on := 7, ground := Go.Ground.data }, { on := 6, ground := Go.Ground.guard }], guard := some (6, true) } : Oper)) (v := .bool true) rfl (by kernel_rfl) (by kernel_rfl) (by kernel_rfl) (fun _ _ _ h => h) (Or.inl ⟨by rfl, fun w' _ => ?_⟩) hHeld ?_
              · go_simp
              try simp only [Act.put, List.setIfInBounds_toArray, List.set_cons_zero, List.set_cons_succ]
              refine wpAnyH_take (i := 9) (oi := ({ dst := some 115, op := Go.Op.pick (Go.Operand.tmp 112) (Go.Operand.tmp 114) (Go.Operand.const (Go.Value.bool false)), type := 4, pos := "law.go:103", after := #[{ on := 6, ground := Go.Ground.data }, { on := 8, ground := Go.Ground.data }], guard := none } : Oper)) (v := .bool true) rfl (by kernel_rfl) (by kernel_rfl) (by kernel_rfl) (fun _ _ _ h => h) (Or.inl ⟨by rfl, fun w' _ => ?_⟩) hHeld ?_
              · go_simp
              try simp only [Act.put, List.setIfInBounds_toArray, List.set_cons_zero, List.set_cons_succ]
              refine wpAnyH_take (i := 10) (oi := ({ dst := some 116, op := Go.Op.move (Go.Operand.tmp 115), type := 4, pos := "law.go:103", after := #[{ on := 9, ground := Go.Ground.data }, { on := 6, ground := Go.Ground.chain }], guard := none } : Oper)) (v := .bool true) rfl (by kernel_rfl) (by kernel_rfl) (by kernel_rfl) (fun _ _ _ h => h) (Or.inl ⟨by rfl, fun w' _ => ?_⟩) hHeld ?_
              · go_simp
              try simp only [Act.put, List.setIfInBounds_toArray, List.set_cons_zero, List.set_cons_succ]
              refine wpAnyH_take (i := 11) (oi := ({ dst := some 117, op := Go.Op.load 35 (Go.Operand.tmp 5), type := 35, pos := "law.go:103", after := #[{ on := 10, ground := Go.Ground.guard }], guard := some (10, true) } : Oper)) (v := .pointer (some ⟨p, 0, none⟩)) rfl (by kernel_rfl) (by kernel_rfl) (by kernel_rfl) (fun _ _ _ h => h) (Or.inl ⟨by rfl, fun w' hS' => ?_⟩) hHeld ?_
              · have hcell := Q1.out _ hS'
                go_simp
              try simp only [Act.put, List.setIfInBounds_toArray, List.set_cons_zero, List.set_cons_succ]
              refine wpAnyH_take (i := 13) (oi := ({ dst := some 119, op := Go.Op.load 35 (Go.Operand.tmp 5), type := 35, pos := "law.go:103", after := #[{ on := 10, ground := Go.Ground.guard }], guard := some (10, true) } : Oper)) (v := .pointer (some ⟨p, 0, none⟩)) rfl (by kernel_rfl) (by kernel_rfl) (by kernel_rfl) (fun _ _ _ h => h) (Or.inl ⟨by rfl, fun w' hS' => ?_⟩) hHeld ?_
              · have hcell := Q1.out _ hS'
                go_simp
              try simp only [Act.put, List.setIfInBounds_toArray, List.set_cons_zero, List.set_cons_succ]
              refine wpAnyH_take (i := 14) (oi := ({ dst := some 120, op := Go.Op.nilCheck (Go.Operand.tmp 119), type := 0, pos := "law.go:103", after := #[{ on := 13, ground := Go.Ground.data }, { on := 10, ground := Go.Ground.guard }], guard := some (10, true) } : Oper)) (v := .pointer (some ⟨p, 0, none⟩)) rfl (by kernel_rfl) (by kernel_rfl) (by kernel_rfl) (fun _ _ _ h => h) (Or.inl ⟨by rfl, fun w' _ => ?_⟩) hHeld ?_
              · go_simp
              try simp only [Act.put, List.setIfInBounds_toArray, List.set_cons_zero, List.set_cons_succ]
              refine wpAnyH_take (i := 15) (oi := ({ dst := some 121, op := Go.Op.fieldAddr 43 (Go.Operand.tmp 120) 0, type := 0, pos := "law.go:103", after := #[{ on := 14, ground := Go.Ground.data }, { on := 10, ground := Go.Ground.guard }], guard := some (10, true) } : Oper)) (v := .pointer (some ⟨p, 0, none⟩)) rfl (by kernel_rfl) (by kernel_rfl) (by kernel_rfl) (fun _ _ _ h => h) (Or.inl ⟨by rfl, fun w' _ => ?_⟩) hHeld ?_
              · go_simp
              try simp only [Act.put, List.setIfInBounds_toArray, List.set_cons_zero, List.set_cons_succ]
              refine wpAnyH_take (i := 16) (oi := ({ dst := some 122, op := Go.Op.load 3 (Go.Operand.tmp 121), type := 3, pos := "law.go:103", after := #[{ on := 15, ground := Go.Ground.data }, { on := 10, ground := Go.Ground.guard }], guard := some (10, true) } : Oper)) (v := .int .i64 l) rfl (by kernel_rfl) (by kernel_rfl) (by kernel_rfl) (fun _ _ _ h => h) (Or.inl ⟨by rfl, fun w' hS' => ?_⟩) hHeld ?_
              · have hcell := Q3.out _ hS'
                go_simp
              try simp only [Act.put, List.setIfInBounds_toArray, List.set_cons_zero, List.set_cons_succ]
              refine wpAnyH_take (i := 20) (oi := ({ dst := some 126, op := Go.Op.load 36 (Go.Operand.tmp 6), type := 36, pos := "law.go:103", after := #[{ on := 10, ground := Go.Ground.guard }], guard := some (10, true) } : Oper)) (v := .int .i64 5) rfl (by kernel_rfl) (by kernel_rfl) (by kernel_rfl) (fun _ _ _ h => h) (Or.inl ⟨by rfl, fun w' hS' => ?_⟩) hHeld ?_
              · have hcell := Q2.out _ hS'
                go_simp
              try simp only [Act.put, List.setIfInBounds_toArray, List.set_cons_zero, List.set_cons_succ]
              refine wpAnyH_ready (rs := [12]) (by kernel_rfl) (by simp) ?_
              refine AllReadyH.cons (o := ({ dst := some 118, op := Go.Op.call { callee := Go.Callee.value (Go.Operand.func 17), args := #[Go.Operand.tmp 117], argTypes := #[35] }, type := 9, pos := "law.go:103", after := #[{ on := 11, ground := Go.Ground.data }, { on := 10, ground := Go.Ground.chain }, { on := 10, ground := Go.Ground.guard }], guard := some (10, true) } : Oper)) rfl (fun K hK => ?_) AllReadyH.nil
              go_simp
              go_at_call 17
              refine (HFE.out _ hHeld).mono ?_
              rintro e' u1 ⟨rfl, hbb⟩
              refine hK.out _ _ (hHeld.trans (hbb.mono hHeld.size)) (fun hHeld1 => ?_)
              clear hK K hbb
              try simp only [Act.put, List.setIfInBounds_toArray, List.set_cons_zero, List.set_cons_succ]
              refine wpAnyH_ready (rs := [17]) (by kernel_rfl) (by simp) ?_
              refine AllReadyH.cons (o := ({ dst := some 123, op := Go.Op.call { callee := Go.Callee.value (Go.Operand.func 18), args := #[Go.Operand.tmp 122], argTypes := #[3] }, type := 9, pos := "law.go:103", after := #[{ on := 16, ground := Go.Ground.data }, { on := 12, ground := Go.Ground.chain }, { on := 10, ground := Go.Ground.guard }], guard := some (10, true) } : Oper)) rfl (fun K hK => ?_) AllReadyH.nil
              go_simp
              go_at_call 18
              refine (HDg.out _).mono ?_
              rintro e' u2 ⟨rfl, hbb⟩
              refine hK.out _ _ (hHeld1.trans (hbb.mono hHeld1.size)) (fun hHeld2 => ?_)
              clear hK K hbb
              try simp only [Act.put, List.setIfInBounds_toArray, List.set_cons_zero, List.set_cons_succ]
              refine wpAnyH_take (i := 18) (oi := ({ dst := some 124, op := Go.Op.binOp Go.BinOp.add 9 (Go.Operand.const (Go.Value.string { data := #[108, 105, 110, 101, 32] })) (Go.Operand.tmp 123) 9, type := 9, pos := "law.go:103", after := #[{ on := 17, ground := Go.Ground.data }, { on := 10, ground := Go.Ground.guard }], guard := some (10, true) } : Oper)) (v := .string X1) rfl (by kernel_rfl) (by kernel_rfl) (by kernel_rfl) (fun _ _ _ h => h) (Or.inl ⟨by rfl, fun w' _ => ?_⟩) hHeld2 ?_
              · go_simp
              try simp only [Act.put, List.setIfInBounds_toArray, List.set_cons_zero, List.set_cons_succ]
              refine wpAnyH_take (i := 19) (oi := ({ dst := some 125, op := Go.Op.binOp Go.BinOp.add 9 (Go.Operand.tmp 124) (Go.Operand.const (Go.Value.string { data := #[58, 32] })) 9, type := 9, pos := "law.go:103", after := #[{ on := 18, ground := Go.Ground.data }, { on := 10, ground := Go.Ground.guard }], guard := some (10, true) } : Oper)) (v := .string X2) rfl (by kernel_rfl) (by kernel_rfl) (by kernel_rfl) (fun _ _ _ h => h) (Or.inl ⟨by rfl, fun w' _ => ?_⟩) hHeld2 ?_
              · go_simp
              try simp only [Act.put, List.setIfInBounds_toArray, List.set_cons_zero, List.set_cons_succ]
              refine wpAnyH_ready (rs := [21]) (by kernel_rfl) (by simp) ?_
              refine AllReadyH.cons (o := ({ dst := some 127, op := Go.Op.call { callee := Go.Callee.value (Go.Operand.func 19), args := #[Go.Operand.tmp 126], argTypes := #[36] }, type := 9, pos := "law.go:103", after := #[{ on := 20, ground := Go.Ground.data }, { on := 17, ground := Go.Ground.chain }, { on := 10, ground := Go.Ground.guard }], guard := some (10, true) } : Oper)) rfl (fun K hK => ?_) AllReadyH.nil
              go_simp
              go_at_call 19
              refine (HEr.out _ (HE9.out.below hHeld2)).mono ?_
              rintro e' u3 ⟨rfl, hbb⟩
              refine hK.out _ _ (hHeld2.trans (hbb.mono hHeld2.size)) (fun hHeld3 => ?_)
              clear hK K hbb
              try simp only [Act.put, List.setIfInBounds_toArray, List.set_cons_zero, List.set_cons_succ]
              refine wpAnyH_take (i := 22) (oi := ({ dst := some 128, op := Go.Op.binOp Go.BinOp.add 9 (Go.Operand.tmp 125) (Go.Operand.tmp 127) 9, type := 9, pos := "law.go:103", after := #[{ on := 19, ground := Go.Ground.data }, { on := 21, ground := Go.Ground.data }, { on := 10, ground := Go.Ground.guard }], guard := some (10, true) } : Oper)) (v := .string X3) rfl (by kernel_rfl) (by kernel_rfl) (by kernel_rfl) (fun _ _ _ h => h) (Or.inl ⟨by rfl, fun w' _ => ?_⟩) hHeld3 ?_
              · go_simp
              try simp only [Act.put, List.setIfInBounds_toArray, List.set_cons_zero, List.set_cons_succ]
              refine wpAnyH_take (i := 23) (oi := ({ dst := some 129, op := Go.Op.binOp Go.BinOp.eql 9 (Go.Operand.tmp 118) (Go.Operand.tmp 128) 9, type := 4, pos := "law.go:103", after := #[{ on := 12, ground := Go.Ground.data }, { on := 22, ground := Go.Ground.data }, { on := 10, ground := Go.Ground.guard }], guard := some (10, true) } : Oper)) (v := .bool true) rfl (by kernel_rfl) (by kernel_rfl) (by kernel_rfl) (fun _ _ _ h => h) (Or.inl ⟨by rfl, fun w' _ => ?_⟩) hHeld3 ?_
              · go_simp
              try simp only [Act.put, List.setIfInBounds_toArray, List.set_cons_zero, List.set_cons_succ]
              refine wpAnyH_take (i := 24) (oi := ({ dst := some 130, op := Go.Op.pick (Go.Operand.tmp 116) (Go.Operand.tmp 129) (Go.Operand.const (Go.Value.bool false)), type := 4, pos := "law.go:103", after := #[{ on := 10, ground := Go.Ground.data }, { on := 23, ground := Go.Ground.data }], guard := none } : Oper)) (v := .bool true) rfl (by kernel_rfl) (by kernel_rfl) (by kernel_rfl) (fun _ _ _ h => h) (Or.inl ⟨by rfl, fun w' _ => ?_⟩) hHeld3 ?_
              · go_simp
              try simp only [Act.put, List.setIfInBounds_toArray, List.set_cons_zero, List.set_cons_succ]
              refine wpAnyH_take (i := 25) (oi := ({ dst := some 2, op := Go.Op.assign (Go.Operand.tmp 130), type := 4, pos := "law.go:103", after := #[{ on := 24, ground := Go.Ground.data }, { on := 21, ground := Go.Ground.chain }, { on := 0, ground := Go.Ground.phase }, { on := 1, ground := Go.Ground.phase }, { on := 2, ground := Go.Ground.phase }, { on := 3, ground := Go.Ground.phase }, { on := 4, ground := Go.Ground.phase }, { on := 5, ground := Go.Ground.phase }, { on := 6, ground := Go.Ground.phase }, { on := 7, ground := Go.Ground.phase }, { on := 8, ground := Go.Ground.phase }, { on := 9, ground := Go.Ground.phase }, { on := 10, ground := Go.Ground.phase }, { on := 11, ground := Go.Ground.phase }, { on := 12, ground := Go.Ground.phase }, { on := 13, ground := Go.Ground.phase }, { on := 14, ground := Go.Ground.phase }, { on := 15, ground := Go.Ground.phase }, { on := 16, ground := Go.Ground.phase }, { on := 17, ground := Go.Ground.phase }, { on := 18, ground := Go.Ground.phase }, { on := 19, ground := Go.Ground.phase }, { on := 20, ground := Go.Ground.phase }, { on := 21, ground := Go.Ground.phase }, { on := 22, ground := Go.Ground.phase }, { on := 23, ground := Go.Ground.phase }, { on := 24, ground := Go.Ground.phase }], guard := none } : Oper)) (v := .bool true) rfl (by kernel_rfl) (by kernel_rfl) (by kernel_rfl) (fun _ _ _ h => h) (Or.inl ⟨by rfl, fun w' _ => ?_⟩) hHeld3 ?_
              · go_simp
              try simp only [Act.put, List.setIfInBounds_toArray, List.set_cons_zero, List.set_cons_succ]
              refine wpAnyH_done (by kernel_rfl) ?_ _
              have HBn := Lib.hid (HB9.out.trans (hHeld3.mono HB9.out.size))
              clear hHeld hHeld1 hHeld2 hHeld3
              go_wp2_with fail
              go_ret
              exact ⟨rfl, HBn.out⟩
      · have HJ1 : Hid (Calls Tryz.prog 15 #[.iface 35 (.pointer (some ⟨p, 0, none⟩)), .iface 36 (.int .i64 6)] W5 fun e w' => e = .returned (.bool true) ∧ w' = W5) := HI1
        have HJ2 : Hid (Calls Tryz.prog 15 #[.iface 35 (.pointer (some ⟨p, 0, none⟩)), .iface 36 (.int .i64 7)] W5 fun e w' => e = .returned (.bool false) ∧ w' = W5) := HI2
        go_wp2_with (first
          | (go_at_call 15; with_reducible refine HJ1.out.mono ?_; rintro e w6 ⟨rfl, hw6⟩; obtain rfl := hw6.symm)
          | (go_at_call 15; with_reducible refine HJ2.out.mono ?_; rintro e w6 ⟨rfl, hw6⟩; obtain rfl := hw6.symm)
          | (go_at_call 16; refine HUn.out.mono ?_; rintro e w6 ⟨rfl, hw6⟩; obtain rfl := hw6.symm))
        go_loopg [78, 7, 8, 9] s.size (fun gk vi vl vh _ wr => ∃ (i l : Nat) (hd : ByteArray), vi = .int .i64 i ∧ vl = .int .i64 l ∧ vh = .string hd ∧ i + gk = s.size ∧ Hid (FlAt S f i l hd) ∧ wr = W5)
        case atStart => exact ⟨0, 1, ⟨#[]⟩, rfl, rfl, rfl, by omega, Lib.hid ⟨rfl, rfl, hf1, fun _ => .inl rfl⟩, rfl⟩
        case round =>
          obtain ⟨i, l, hd, rfl, rfl, rfl, hi, HFl, rfl⟩ := hrel
          have hfl := HFl.out
          have hds : hd.size ≤ 2000 := by rw [Lib.size_eq, hfl.head, List.length_take, HSl.out]; omega
          by_cases hcase : i < s.size ∧ l ≠ f
          · obtain ⟨hin, hlf⟩ := hcase
            obtain ⟨g, rfl⟩ : ∃ g', gk = g' + 1 := ⟨gk - 1, by omega⟩
            have hiI : (i : Int) < (s.size : Int) := by omega
            have hlI : ¬ (l : Int) = (f : Int) := by omega
            have hll := hfl.le
            have hcx : S[i]? = some s[i] := by rw [HSS.out]; exact Lib.data_getElem? s i hin
            have hex := ext1 s i hin
            have hx1 : (s.extract i (i + 1)).size = 1 := by rw [Lib.size_eq, hex]; rfl
            have hA1 := fun W => run_string_add_sum (P := Tryz.prog) (w := W) hd (s.extract i (i + 1)) (by rw [hx1]; omega)
            have hnx := hfl.next hlf hcx (hd ++ s.extract i (i + 1)) (by rw [Joins.data_append, hex])
            clear hcx hex hx1 hfl hds hlf
            by_cases hc : (s[i].toNat : Int) = 10
            · have hc' : s[i] = 10 := by apply UInt8.toNat_inj.1; show s[i].toNat = 10; omega
              rw [if_pos hc'] at hnx
              have HNx := Lib.hid hnx
              clear hc' hnx
              go_wp2_with fail
              go_roundg g
              case measure => omega
              case rel => exact ⟨i + 1, l + 1, _, by go_num, by go_num, rfl, by omega, HNx, rfl⟩
            · have hc' : ¬ s[i] = 10 := fun e => hc (by rw [e]; rfl)
              rw [if_neg hc', Nat.add_zero] at hnx
              have HNx := Lib.hid hnx
              clear hc' hnx
              go_wp2_with fail
              go_roundg g
              case measure => omega
              case rel => exact ⟨i + 1, l, _, by go_num, rfl, rfl, by omega, HNx, rfl⟩
          · have hle : l = f := by
              rcases Nat.lt_or_ge i s.size with h | h
              · exact Classical.byContradiction fun hne => hcase ⟨h, hne⟩
              · have h1 := hfl.line
                rw [List.take_of_length_le (by rw [HSl.out]; exact h)] at h1
                have := hfl.le
                have := HF2.out
                omega
            subst hle
            obtain ⟨d', hpd⟩ := fault_ahead HPC.out hk0 (List.take_append_drop i S).symm hfl.line.symm (hfl.last rfl)
            rw [← hfl.head] at hpd
            have HPar := Lib.hid (cparse_at hd 0 0 d' hpd _ (HE.out.below HB5.out) (by omega))
            have hcs : (i : Int) < (s.size : Int) ∨ ¬ (i : Int) < (s.size : Int) := by omega
            clear hfl hds hpd hcase HFl
            have HW5 := Lib.hid hf1
            rcases hcs with hiI | hiI
            all_goals
              go_wp2_with fail
              refine HPar.out.mono ?_
              rintro e w6 ⟨hb6, val6, hcv6, ⟨_, rfl⟩ | ⟨h0, _⟩⟩
              case inr => exact absurd rfl h0
              obtain ⟨r6, rfl, hzr6, hsr6, h1r6⟩ := HZS.out _ _ _ hcv6
              have HSR6 := Lib.hid hsr6
              have HZR6 := Lib.hid hzr6
              have H1R6 := Lib.hid h1r6
              have hb9 := hb6.alloc hb6.size (.cells r6 26)
              have q1 := (hb9.cell (cell_lt HCf.out)).trans HCf.out
              have q2 := (hb9.cell (cell_lt HCe.out)).trans HCe.out
              have q3 := (hb9.cell (cell_lt HQ0.out)).trans HQ0.out
              have q4 := (hb9.cell (cell_lt HQ1.out)).trans HQ1.out
              have HB9 := Lib.hid (HB5.out.trans (hb9.mono HB5.out.size))
              clear hcv6 hzr6 hsr6 h1r6 hb6 hb9
              go_wp2_with (first
                | (refine wpList_alloc_z rfl 26 rfl Z HZ.out ?_; go_simp)
                | (refine wpList_store_new rfl 26 (.tmp 10) (.tmp 104) rfl w6.heap.size rfl Z r6 26 rfl rfl HSR6.out HZR6.out H1R6.out ?_; go_simp))
              generalize w6.alloc (.cells r6 26) = W9 at q1 q2 q3 q4 HB9 ⊢
              have HE9 := Lib.hid (HE.out.below HB9.out)
              have Q1 : Hid (∀ W, Below W9.heap.size W9 W → W.cell? ⟨w2.heap.size + 1, 0, none⟩ = some (.pointer (some ⟨p, 0, none⟩))) := Lib.hid (fun W hW => (hW.cell (cell_lt q1)).trans q1)
              have Q2 : Hid (∀ W, Below W9.heap.size W9 W → W.cell? ⟨w2.heap.size + 1 + 1, 0, none⟩ = some (.int .i64 (6 : Nat))) := Lib.hid (fun W hW => (hW.cell (cell_lt q2)).trans q2)
              have Q3 : Hid (∀ W, Below W9.heap.size W9 W → W.cell? ⟨p, 0, none⟩ = some (.int .i64 l)) := Lib.hid (fun W hW => (hW.cell (cell_lt q3)).trans q3)
              have QF : Hid (FaultAt W9 p l 6) := Lib.hid ⟨cell_lt q3, q3, q4⟩
              clear q1 q2 q3 q4
              have HFE : Hid (∀ W, Below W9.heap.size W9 W → Calls Tryz.prog 17 #[.pointer (some ⟨p, 0, none⟩)] W fun e w' => e = .returned (.string (tb (faultT l (errT 6)))) ∧ Below W.heap.size W w') := Lib.hid (fun W hW => fault1_e p l 6 W (HE9.out.below hW) (by omega) (by decide) (QF.out.below hW))
              have HDg : Hid (∀ W, Calls Tryz.prog 18 #[.int .i64 l] W fun e w' => e = .returned (.string (tb (Go.Lib.decDigits l))) ∧ Below W.heap.size W w') := Lib.hid (fun W => digits_e l W (by omega))
              have HEr : Hid (∀ W, AEnv W → Calls Tryz.prog 19 #[.int .i64 6] W fun e w' => e = .returned (.string (tb (errT 6))) ∧ Below W.heap.size W w') := Lib.hid (fun W hW => errno_e 6 (by decide) W hW)
              have s1 : (tb (Go.Lib.decDigits l)).size ≤ 2002 := by rw [Lib.size_eq, tb_data]; have := dec_len l; omega
              have s2 : (tb (errT 6)).size ≤ 100 := by rw [Lib.size_eq, tb_data]; have := dec_len 6; unfold errT; rw [List.length_append]; simp only [List.length_cons, List.length_nil]; omega
              have hX : tb (faultT l (errT 6)) = ⟨#[108, 105, 110, 101, 32]⟩ ++ tb (Go.Lib.decDigits l) ++ ⟨#[58, 32]⟩ ++ tb (errT 6) := bytes_inj (by simp [faultT, tb_data])
              rw [hX] at HFE
              generalize tb (Go.Lib.decDigits l) = DD at HFE HDg s1
              generalize tb (errT 6) = TT at HFE HEr s2
              have z1 : (ByteArray.mk #[108, 105, 110, 101, 32]).size = 5 := rfl
              have z2 : (ByteArray.mk #[58, 32]).size = 2 := rfl
              have a1 := fun W => run_string_add_sum (P := Tryz.prog) (w := W) ⟨#[108, 105, 110, 101, 32]⟩ DD (by omega)
              have y1 : (⟨#[108, 105, 110, 101, 32]⟩ ++ DD : ByteArray).size ≤ 2010 := by rw [ByteArray.size_append]; omega
              generalize (⟨#[108, 105, 110, 101, 32]⟩ ++ DD : ByteArray) = X1 at HFE a1 y1
              have a2 := fun W => run_string_add_sum (P := Tryz.prog) (w := W) X1 ⟨#[58, 32]⟩ (by omega)
              have y2 : (X1 ++ ⟨#[58, 32]⟩ : ByteArray).size ≤ 2020 := by rw [ByteArray.size_append]; omega
              generalize (X1 ++ ⟨#[58, 32]⟩ : ByteArray) = X2 at HFE a2 y2
              have a3 := fun W => run_string_add_sum (P := Tryz.prog) (w := W) X2 TT (by omega)
              generalize (X2 ++ TT : ByteArray) = X3 at HFE a3
              clear z1 z2 y1 y2 hX s1 s2
              refine wp_region_held_drew (S := (fun W : World => Below W9.heap.size W9 W)) (by kernel_rfl) (Below.refl _ W9).drew (fun hHeld => ?_)
              refine wpAnyH_take (i := 0) (oi := ({ dst := some 106, op := Go.Op.move (Go.Operand.tmp 7), type := 3, pos := "law.go:103", after := #[], guard := none } : Oper)) (v := .int .i64 l) rfl (by kernel_rfl) (by kernel_rfl) (by kernel_rfl) (fun _ _ _ h => h) (Or.inl ⟨by rfl, fun w' _ => ?_⟩) hHeld ?_
              · go_simp
              try simp only [Act.put, List.setIfInBounds_toArray, List.set_cons_zero, List.set_cons_succ]
              refine wpAnyH_take (i := 1) (oi := ({ dst := some 107, op := Go.Op.load 35 (Go.Operand.tmp 5), type := 35, pos := "law.go:103", after := #[], guard := none } : Oper)) (v := .pointer (some ⟨p, 0, none⟩)) rfl (by kernel_rfl) (by kernel_rfl) (by kernel_rfl) (fun _ _ _ h => h) (Or.inl ⟨by rfl, fun w' hS' => ?_⟩) hHeld ?_
              · have hcell := Q1.out _ hS'
                go_simp
              try simp only [Act.put, List.setIfInBounds_toArray, List.set_cons_zero, List.set_cons_succ]
              refine wpAnyH_take (i := 2) (oi := ({ dst := some 108, op := Go.Op.nilCheck (Go.Operand.tmp 107), type := 0, pos := "law.go:103", after := #[{ on := 1, ground := Go.Ground.data }], guard := none } : Oper)) (v := .pointer (some ⟨p, 0, none⟩)) rfl (by kernel_rfl) (by kernel_rfl) (by kernel_rfl) (fun _ _ _ h => h) (Or.inl ⟨by rfl, fun w' _ => ?_⟩) hHeld ?_
              · go_simp
              try simp only [Act.put, List.setIfInBounds_toArray, List.set_cons_zero, List.set_cons_succ]
              refine wpAnyH_take (i := 3) (oi := ({ dst := some 109, op := Go.Op.fieldAddr 43 (Go.Operand.tmp 108) 0, type := 0, pos := "law.go:103", after := #[{ on := 2, ground := Go.Ground.data }], guard := none } : Oper)) (v := .pointer (some ⟨p, 0, none⟩)) rfl (by kernel_rfl) (by kernel_rfl) (by kernel_rfl) (fun _ _ _ h => h) (Or.inl ⟨by rfl, fun w' _ => ?_⟩) hHeld ?_
              · go_simp
              try simp only [Act.put, List.setIfInBounds_toArray, List.set_cons_zero, List.set_cons_succ]
              refine wpAnyH_take (i := 4) (oi := ({ dst := some 110, op := Go.Op.load 3 (Go.Operand.tmp 109), type := 3, pos := "law.go:103", after := #[{ on := 3, ground := Go.Ground.data }], guard := none } : Oper)) (v := .int .i64 l) rfl (by kernel_rfl) (by kernel_rfl) (by kernel_rfl) (fun _ _ _ h => h) (Or.inl ⟨by rfl, fun w' hS' => ?_⟩) hHeld ?_
              · have hcell := Q3.out _ hS'
                go_simp
              try simp only [Act.put, List.setIfInBounds_toArray, List.set_cons_zero, List.set_cons_succ]
              refine wpAnyH_take (i := 5) (oi := ({ dst := some 111, op := Go.Op.binOp Go.BinOp.eql 3 (Go.Operand.tmp 106) (Go.Operand.tmp 110) 3, type := 4, pos := "law.go:103", after := #[{ on := 0, ground := Go.Ground.data }, { on := 4, ground := Go.Ground.data }], guard := none } : Oper)) (v := .bool true) rfl (by kernel_rfl) (by kernel_rfl) (by kernel_rfl) (fun _ _ _ h => h) (Or.inl ⟨by rfl, fun w' _ => ?_⟩) hHeld ?_
              · go_simp
              try simp only [Act.put, List.setIfInBounds_toArray, List.set_cons_zero, List.set_cons_succ]
              refine wpAnyH_take (i := 6) (oi := ({ dst := some 112, op := Go.Op.move (Go.Operand.tmp 111), type := 4, pos := "law.go:103", after := #[{ on := 5, ground := Go.Ground.data }], guard := none } : Oper)) (v := .bool true) rfl (by kernel_rfl) (by kernel_rfl) (by kernel_rfl) (fun _ _ _ h => h) (Or.inl ⟨by rfl, fun w' _ => ?_⟩) hHeld ?_
              · go_simp
              try simp only [Act.put, List.setIfInBounds_toArray, List.set_cons_zero, List.set_cons_succ]
              refine wpAnyH_take (i := 7) (oi := ({ dst := some 113, op := Go.Op.move (Go.Operand.tmp 11), type := 28, pos := "law.go:103", after := #[{ on := 6, ground := Go.Ground.guard }], guard := some (6, true) } : Oper)) (v := .nilIface) rfl (by kernel_rfl) (by kernel_rfl) (by kernel_rfl) (fun _ _ _ h => h) (Or.inl ⟨by rfl, fun w' _ => ?_⟩) hHeld ?_
              · go_simp
              try simp only [Act.put, List.setIfInBounds_toArray, List.set_cons_zero, List.set_cons_succ]
              refine wpAnyH_take (i := 8) (oi := ({ dst := some 114, op := Go.Op.binOp Go.BinOp.eql 28 (Go.Operand.tmp 113) (Go.Operand.const Go.Value.nilIface) 28, type := 4, pos := "law.go:103", after := #[{ on := 7, ground := Go.Ground.data }, { on := 6, ground := Go.Ground.guard }], guard := some (6, true) } : Oper)) (v := .bool true) rfl (by kernel_rfl) (by kernel_rfl) (by kernel_rfl) (fun _ _ _ h => h) (Or.inl ⟨by rfl, fun w' _ => ?_⟩) hHeld ?_
              · go_simp
              try simp only [Act.put, List.setIfInBounds_toArray, List.set_cons_zero, List.set_cons_succ]
              refine wpAnyH_take (i := 9) (oi := ({ dst := some 115, op := Go.Op.pick (Go.Operand.tmp 112) (Go.Operand.tmp 114) (Go.Operand.const (Go.Value.bool false)), type := 4, pos := "law.go:103", after := #[{ on := 6, ground := Go.Ground.data }, { on := 8, ground := Go.Ground.data }], guard := none } : Oper)) (v := .bool true) rfl (by kernel_rfl) (by kernel_rfl) (by kernel_rfl) (fun _ _ _ h => h) (Or.inl ⟨by rfl, fun w' _ => ?_⟩) hHeld ?_
              · go_simp
              try simp only [Act.put, List.setIfInBounds_toArray, List.set_cons_zero, List.set_cons_succ]
              refine wpAnyH_take (i := 10) (oi := ({ dst := some 116, op := Go.Op.move (Go.Operand.tmp 115), type := 4, pos := "law.go:103", after := #[{ on := 9, ground := Go.Ground.data }, { on := 6, ground := Go.Ground.chain }], guard := none } : Oper)) (v := .bool true) rfl (by kernel_rfl) (by kernel_rfl) (by kernel_rfl) (fun _ _ _ h => h) (Or.inl ⟨by rfl, fun w' _ => ?_⟩) hHeld ?_
              · go_simp
              try simp only [Act.put, List.setIfInBounds_toArray, List.set_cons_zero, List.set_cons_succ]
              refine wpAnyH_take (i := 11) (oi := ({ dst := some 117, op := Go.Op.load 35 (Go.Operand.tmp 5), type := 35, pos := "law.go:103", after := #[{ on := 10, ground := Go.Ground.guard }], guard := some (10, true) } : Oper)) (v := .pointer (some ⟨p, 0, none⟩)) rfl (by kernel_rfl) (by kernel_rfl) (by kernel_rfl) (fun _ _ _ h => h) (Or.inl ⟨by rfl, fun w' hS' => ?_⟩) hHeld ?_
              · have hcell := Q1.out _ hS'
                go_simp
              try simp only [Act.put, List.setIfInBounds_toArray, List.set_cons_zero, List.set_cons_succ]
              refine wpAnyH_take (i := 13) (oi := ({ dst := some 119, op := Go.Op.load 35 (Go.Operand.tmp 5), type := 35, pos := "law.go:103", after := #[{ on := 10, ground := Go.Ground.guard }], guard := some (10, true) } : Oper)) (v := .pointer (some ⟨p, 0, none⟩)) rfl (by kernel_rfl) (by kernel_rfl) (by kernel_rfl) (fun _ _ _ h => h) (Or.inl ⟨by rfl, fun w' hS' => ?_⟩) hHeld ?_
              · have hcell := Q1.out _ hS'
                go_simp
              try simp only [Act.put, List.setIfInBounds_toArray, List.set_cons_zero, List.set_cons_succ]
              refine wpAnyH_take (i := 14) (oi := ({ dst := some 120, op := Go.Op.nilCheck (Go.Operand.tmp 119), type := 0, pos := "law.go:103", after := #[{ on := 13, ground := Go.Ground.data }, { on := 10, ground := Go.Ground.guard }], guard := some (10, true) } : Oper)) (v := .pointer (some ⟨p, 0, none⟩)) rfl (by kernel_rfl) (by kernel_rfl) (by kernel_rfl) (fun _ _ _ h => h) (Or.inl ⟨by rfl, fun w' _ => ?_⟩) hHeld ?_
              · go_simp
              try simp only [Act.put, List.setIfInBounds_toArray, List.set_cons_zero, List.set_cons_succ]
              refine wpAnyH_take (i := 15) (oi := ({ dst := some 121, op := Go.Op.fieldAddr 43 (Go.Operand.tmp 120) 0, type := 0, pos := "law.go:103", after := #[{ on := 14, ground := Go.Ground.data }, { on := 10, ground := Go.Ground.guard }], guard := some (10, true) } : Oper)) (v := .pointer (some ⟨p, 0, none⟩)) rfl (by kernel_rfl) (by kernel_rfl) (by kernel_rfl) (fun _ _ _ h => h) (Or.inl ⟨by rfl, fun w' _ => ?_⟩) hHeld ?_
              · go_simp
              try simp only [Act.put, List.setIfInBounds_toArray, List.set_cons_zero, List.set_cons_succ]
              refine wpAnyH_take (i := 16) (oi := ({ dst := some 122, op := Go.Op.load 3 (Go.Operand.tmp 121), type := 3, pos := "law.go:103", after := #[{ on := 15, ground := Go.Ground.data }, { on := 10, ground := Go.Ground.guard }], guard := some (10, true) } : Oper)) (v := .int .i64 l) rfl (by kernel_rfl) (by kernel_rfl) (by kernel_rfl) (fun _ _ _ h => h) (Or.inl ⟨by rfl, fun w' hS' => ?_⟩) hHeld ?_
              · have hcell := Q3.out _ hS'
                go_simp
              try simp only [Act.put, List.setIfInBounds_toArray, List.set_cons_zero, List.set_cons_succ]
              refine wpAnyH_take (i := 20) (oi := ({ dst := some 126, op := Go.Op.load 36 (Go.Operand.tmp 6), type := 36, pos := "law.go:103", after := #[{ on := 10, ground := Go.Ground.guard }], guard := some (10, true) } : Oper)) (v := .int .i64 6) rfl (by kernel_rfl) (by kernel_rfl) (by kernel_rfl) (fun _ _ _ h => h) (Or.inl ⟨by rfl, fun w' hS' => ?_⟩) hHeld ?_
              · have hcell := Q2.out _ hS'
                go_simp
              try simp only [Act.put, List.setIfInBounds_toArray, List.set_cons_zero, List.set_cons_succ]
              refine wpAnyH_ready (rs := [12]) (by kernel_rfl) (by simp) ?_
              refine AllReadyH.cons (o := ({ dst := some 118, op := Go.Op.call { callee := Go.Callee.value (Go.Operand.func 17), args := #[Go.Operand.tmp 117], argTypes := #[35] }, type := 9, pos := "law.go:103", after := #[{ on := 11, ground := Go.Ground.data }, { on := 10, ground := Go.Ground.chain }, { on := 10, ground := Go.Ground.guard }], guard := some (10, true) } : Oper)) rfl (fun K hK => ?_) AllReadyH.nil
              go_simp
              go_at_call 17
              refine (HFE.out _ hHeld).mono ?_
              rintro e' u1 ⟨rfl, hbb⟩
              refine hK.out _ _ (hHeld.trans (hbb.mono hHeld.size)) (fun hHeld1 => ?_)
              clear hK K hbb
              try simp only [Act.put, List.setIfInBounds_toArray, List.set_cons_zero, List.set_cons_succ]
              refine wpAnyH_ready (rs := [17]) (by kernel_rfl) (by simp) ?_
              refine AllReadyH.cons (o := ({ dst := some 123, op := Go.Op.call { callee := Go.Callee.value (Go.Operand.func 18), args := #[Go.Operand.tmp 122], argTypes := #[3] }, type := 9, pos := "law.go:103", after := #[{ on := 16, ground := Go.Ground.data }, { on := 12, ground := Go.Ground.chain }, { on := 10, ground := Go.Ground.guard }], guard := some (10, true) } : Oper)) rfl (fun K hK => ?_) AllReadyH.nil
              go_simp
              go_at_call 18
              refine (HDg.out _).mono ?_
              rintro e' u2 ⟨rfl, hbb⟩
              refine hK.out _ _ (hHeld1.trans (hbb.mono hHeld1.size)) (fun hHeld2 => ?_)
              clear hK K hbb
              try simp only [Act.put, List.setIfInBounds_toArray, List.set_cons_zero, List.set_cons_succ]
              refine wpAnyH_take (i := 18) (oi := ({ dst := some 124, op := Go.Op.binOp Go.BinOp.add 9 (Go.Operand.const (Go.Value.string { data := #[108, 105, 110, 101, 32] })) (Go.Operand.tmp 123) 9, type := 9, pos := "law.go:103", after := #[{ on := 17, ground := Go.Ground.data }, { on := 10, ground := Go.Ground.guard }], guard := some (10, true) } : Oper)) (v := .string X1) rfl (by kernel_rfl) (by kernel_rfl) (by kernel_rfl) (fun _ _ _ h => h) (Or.inl ⟨by rfl, fun w' _ => ?_⟩) hHeld2 ?_
              · go_simp
              try simp only [Act.put, List.setIfInBounds_toArray, List.set_cons_zero, List.set_cons_succ]
              refine wpAnyH_take (i := 19) (oi := ({ dst := some 125, op := Go.Op.binOp Go.BinOp.add 9 (Go.Operand.tmp 124) (Go.Operand.const (Go.Value.string { data := #[58, 32] })) 9, type := 9, pos := "law.go:103", after := #[{ on := 18, ground := Go.Ground.data }, { on := 10, ground := Go.Ground.guard }], guard := some (10, true) } : Oper)) (v := .string X2) rfl (by kernel_rfl) (by kernel_rfl) (by kernel_rfl) (fun _ _ _ h => h) (Or.inl ⟨by rfl, fun w' _ => ?_⟩) hHeld2 ?_
              · go_simp
              try simp only [Act.put, List.setIfInBounds_toArray, List.set_cons_zero, List.set_cons_succ]
              refine wpAnyH_ready (rs := [21]) (by kernel_rfl) (by simp) ?_
              refine AllReadyH.cons (o := ({ dst := some 127, op := Go.Op.call { callee := Go.Callee.value (Go.Operand.func 19), args := #[Go.Operand.tmp 126], argTypes := #[36] }, type := 9, pos := "law.go:103", after := #[{ on := 20, ground := Go.Ground.data }, { on := 17, ground := Go.Ground.chain }, { on := 10, ground := Go.Ground.guard }], guard := some (10, true) } : Oper)) rfl (fun K hK => ?_) AllReadyH.nil
              go_simp
              go_at_call 19
              refine (HEr.out _ (HE9.out.below hHeld2)).mono ?_
              rintro e' u3 ⟨rfl, hbb⟩
              refine hK.out _ _ (hHeld2.trans (hbb.mono hHeld2.size)) (fun hHeld3 => ?_)
              clear hK K hbb
              try simp only [Act.put, List.setIfInBounds_toArray, List.set_cons_zero, List.set_cons_succ]
              refine wpAnyH_take (i := 22) (oi := ({ dst := some 128, op := Go.Op.binOp Go.BinOp.add 9 (Go.Operand.tmp 125) (Go.Operand.tmp 127) 9, type := 9, pos := "law.go:103", after := #[{ on := 19, ground := Go.Ground.data }, { on := 21, ground := Go.Ground.data }, { on := 10, ground := Go.Ground.guard }], guard := some (10, true) } : Oper)) (v := .string X3) rfl (by kernel_rfl) (by kernel_rfl) (by kernel_rfl) (fun _ _ _ h => h) (Or.inl ⟨by rfl, fun w' _ => ?_⟩) hHeld3 ?_
              · go_simp
              try simp only [Act.put, List.setIfInBounds_toArray, List.set_cons_zero, List.set_cons_succ]
              refine wpAnyH_take (i := 23) (oi := ({ dst := some 129, op := Go.Op.binOp Go.BinOp.eql 9 (Go.Operand.tmp 118) (Go.Operand.tmp 128) 9, type := 4, pos := "law.go:103", after := #[{ on := 12, ground := Go.Ground.data }, { on := 22, ground := Go.Ground.data }, { on := 10, ground := Go.Ground.guard }], guard := some (10, true) } : Oper)) (v := .bool true) rfl (by kernel_rfl) (by kernel_rfl) (by kernel_rfl) (fun _ _ _ h => h) (Or.inl ⟨by rfl, fun w' _ => ?_⟩) hHeld3 ?_
              · go_simp
              try simp only [Act.put, List.setIfInBounds_toArray, List.set_cons_zero, List.set_cons_succ]
              refine wpAnyH_take (i := 24) (oi := ({ dst := some 130, op := Go.Op.pick (Go.Operand.tmp 116) (Go.Operand.tmp 129) (Go.Operand.const (Go.Value.bool false)), type := 4, pos := "law.go:103", after := #[{ on := 10, ground := Go.Ground.data }, { on := 23, ground := Go.Ground.data }], guard := none } : Oper)) (v := .bool true) rfl (by kernel_rfl) (by kernel_rfl) (by kernel_rfl) (fun _ _ _ h => h) (Or.inl ⟨by rfl, fun w' _ => ?_⟩) hHeld3 ?_
              · go_simp
              try simp only [Act.put, List.setIfInBounds_toArray, List.set_cons_zero, List.set_cons_succ]
              refine wpAnyH_take (i := 25) (oi := ({ dst := some 2, op := Go.Op.assign (Go.Operand.tmp 130), type := 4, pos := "law.go:103", after := #[{ on := 24, ground := Go.Ground.data }, { on := 21, ground := Go.Ground.chain }, { on := 0, ground := Go.Ground.phase }, { on := 1, ground := Go.Ground.phase }, { on := 2, ground := Go.Ground.phase }, { on := 3, ground := Go.Ground.phase }, { on := 4, ground := Go.Ground.phase }, { on := 5, ground := Go.Ground.phase }, { on := 6, ground := Go.Ground.phase }, { on := 7, ground := Go.Ground.phase }, { on := 8, ground := Go.Ground.phase }, { on := 9, ground := Go.Ground.phase }, { on := 10, ground := Go.Ground.phase }, { on := 11, ground := Go.Ground.phase }, { on := 12, ground := Go.Ground.phase }, { on := 13, ground := Go.Ground.phase }, { on := 14, ground := Go.Ground.phase }, { on := 15, ground := Go.Ground.phase }, { on := 16, ground := Go.Ground.phase }, { on := 17, ground := Go.Ground.phase }, { on := 18, ground := Go.Ground.phase }, { on := 19, ground := Go.Ground.phase }, { on := 20, ground := Go.Ground.phase }, { on := 21, ground := Go.Ground.phase }, { on := 22, ground := Go.Ground.phase }, { on := 23, ground := Go.Ground.phase }, { on := 24, ground := Go.Ground.phase }], guard := none } : Oper)) (v := .bool true) rfl (by kernel_rfl) (by kernel_rfl) (by kernel_rfl) (fun _ _ _ h => h) (Or.inl ⟨by rfl, fun w' _ => ?_⟩) hHeld3 ?_
              · go_simp
              try simp only [Act.put, List.setIfInBounds_toArray, List.set_cons_zero, List.set_cons_succ]
              refine wpAnyH_done (by kernel_rfl) ?_ _
              have HBn := Lib.hid (HB9.out.trans (hHeld3.mono HB9.out.size))
              clear hHeld hHeld1 hHeld2 hHeld3
              go_wp2_with fail
              go_ret
              exact ⟨rfl, HBn.out⟩
  · have hsI : (2000 : Int) < (s.size : Int) := by omega
    go_enter Tryz.func4, Tryz.ntmps4
    go_wp2_with (go_at_call 9; refine hfit.mono ?_; rintro e w1 ⟨rfl, hb1⟩; have HB1 := Lib.hid hb1; clear hb1)
    go_ret
    exact ⟨rfl, HB1.out⟩
end Go.Proofs.YtpnlgojbmjfhhaaGreatDoor
