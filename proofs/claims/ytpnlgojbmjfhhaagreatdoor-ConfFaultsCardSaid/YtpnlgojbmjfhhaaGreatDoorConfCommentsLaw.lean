/-
  The walk of ConfComments: lines without words, and what stands behind a sign of a comment, play no part. Conditions: the text is one that may come in; the library's variables hold what their initialisers lay.
-/
import Derived.Test.YtpnlgojbmjfhhaaGreatDoorConfOptionsLaw
namespace Go.Proofs.YtpnlgojbmjfhhaaGreatDoor
open Go.RowKit

theorem repC_snoc {S : List UInt8} {k : Nat} {c : UInt8} (h : S[k]? = some c) : repC (S.take (k + 1)) = repC (S.take k) ++ (if c = 10 then [32, 35, 32, 120, 32, 121, 10, 9, 32, 10] else [c]) := by
  rw [List.take_add_one, h, repC_append]
  simp [repC]
theorem blk_grown7 {w w' : World} {b k : Nat} {o : Obj} (hg : w.grownBy w' (some b)) (hk : w.heap[k]? = some o) (hne : k ≠ b) : w'.heap[k]? = some o :=
  (hg.block k (Array.getElem?_eq_some_iff.1 hk).1 (fun e => hne (by injection e))).trans hk
theorem ext1 (s : ByteArray) (k : Nat) (h : k < s.size) : (s.extract k (k + 1)).data.toList = [s[k]] := by
  have e : s.data.toList.drop k = s[k] :: s.data.toList.drop (k + 1) := by
    rw [List.drop_eq_getElem_cons (by rw [← Lib.size_eq]; exact h)]; rfl
  simp only [ByteArray.data_extract, Array.toList_extract, List.extract_eq_take_drop, Nat.add_sub_cancel_left]
  rw [e]; rfl
set_option maxRecDepth 100000 in
set_option maxHeartbeats 16000000 in
theorem confComments_walk (s : ByteArray) (hs : s.size ≤ 140737488351232) (w : World) (he : AEnv w) (ht : ETy w) : Calls Tryz.prog 7 #[.string s] w fun e w' => e = .returned (.bool true) ∧ Below w.heap.size w w' := by
  have hfit := fit7_e w he ht
  have HE := Lib.hid he
  have HT := Lib.hid ht
  have HZ := Lib.hid zeroConf
  have HZS : Hid (∀ W val c, CV W val c → ∃ r : Array Value, val = .agg r ∧ zConf.size = r.size ∧ (Tryz.prog.info? 26).map (·.size) = some r.size ∧ r.all (·.oneCell') = true) := Lib.hid (fun W val c h => by
    obtain ⟨r, h1, h2, h3, h4, _⟩ := CV.arr h
    exact ⟨r, h1, h2, h3, h4⟩)
  generalize zConf = Z at HZ HZS
  have huC := Tryz.underlying26
  clear he ht
  by_cases hs2 : s.size ≤ 1000
  · have hsI : ¬ (1000 : Int) < (s.size : Int) := by omega
    have HP := Lib.hid (fun W (hW : AEnv W) => cparse_e s W hW (by omega))
    obtain ⟨S, hS⟩ : ∃ S, S = s.data.toList := ⟨_, rfl⟩
    have HSS := Lib.hid hS
    rw [← hS] at HP
    have HSl : Hid (S.length = s.size) := Lib.hid (by rw [hS, ← Lib.size_eq])
    clear hS
    go_enter Tryz.func7, Tryz.ntmps7
    go_wp2_with (go_at_call 9; refine hfit.mono ?_; rintro e w1 ⟨rfl, hb1⟩; have HB1 := Lib.hid hb1; clear hb1)
    go_loopg [18, 3, 4] s.size (fun gk i t _ wr => ∃ (k : Nat) (tt : ByteArray), i = .int .i64 k ∧ t = .string tt ∧ k + gk = s.size ∧ Hid (tt.data.toList = repC (S.take k)) ∧ wr = w1)
    case atStart => exact ⟨0, ⟨#[]⟩, rfl, rfl, by omega, Lib.hid (by rw [List.take_zero]; rfl), rfl⟩
    case round =>
      obtain ⟨k, tt, rfl, rfl, hk, HTT, rfl⟩ := hrel
      by_cases hkn : k < s.size
      · obtain ⟨g, rfl⟩ : ∃ g', gk = g' + 1 := ⟨gk - 1, by omega⟩
        have hkI : (k : Int) < (s.size : Int) := by omega
        have hcx : S[k]? = some s[k] := by rw [HSS.out]; exact Lib.data_getElem? s k hkn
        have hsn := repC_snoc hcx
        have hex := ext1 s k hkn
        have hts : tt.size ≤ 10000 := by
          rw [Lib.size_eq, HTT.out]
          have := repC_len (S.take k)
          rw [List.length_take, HSl.out] at this
          omega
        have hx1 : (s.extract k (k + 1)).size = 1 := by rw [Lib.size_eq, hex]; rfl
        have hA1 := fun W => run_string_add_sum (P := Tryz.prog) (w := W) tt ⟨#[32, 35, 32, 120, 32, 121, 10, 9, 32, 10]⟩ (by rw [show (ByteArray.mk #[32, 35, 32, 120, 32, 121, 10, 9, 32, 10]).size = 10 from rfl]; omega)
        have hA2 := fun W => run_string_add_sum (P := Tryz.prog) (w := W) tt (s.extract k (k + 1)) (by rw [hx1]; omega)
        have HSN := Lib.hid hsn
        have HEX := Lib.hid hex
        clear hcx hsn hex hx1 hts
        by_cases hc : (s[k].toNat : Int) = 10
        · have hc' : s[k] = 10 := by apply UInt8.toNat_inj.1; show s[k].toNat = 10; omega
          have HN : Hid ((tt ++ ⟨#[32, 35, 32, 120, 32, 121, 10, 9, 32, 10]⟩).data.toList = repC (S.take (k + 1))) := Lib.hid (by rw [HSN.out, if_pos hc', Joins.data_append, HTT.out])
          clear hc' hA2
          go_wp2_with fail
          go_roundg g
          case measure => omega
          case rel => exact ⟨k + 1, _, by go_num, rfl, by omega, HN, rfl⟩
        · have hc' : ¬ s[k] = 10 := fun e => hc (by rw [e]; rfl)
          have HN : Hid ((tt ++ s.extract k (k + 1)).data.toList = repC (S.take (k + 1))) := Lib.hid (by rw [HSN.out, if_neg hc', Joins.data_append, HTT.out, HEX.out])
          clear hc' hA1
          go_wp2_with fail
          go_roundg g
          case measure => omega
          case rel => exact ⟨k + 1, _, by go_num, rfl, by omega, HN, rfl⟩
      · have hkI : ¬ (k : Int) < (s.size : Int) := by omega
        have htt := HTT.out
        rw [List.take_of_length_le (by rw [HSl.out]; omega)] at htt
        have hts : tt.size ≤ 10000 := by
          rw [Lib.size_eq, htt]
          have := repC_len S
          rw [HSl.out] at this
          omega
        have HP2 := Lib.hid (fun W (hW : AEnv W) => cparse_e tt W hW (by omega))
        rw [htt] at HP2
        have HIn : Hid ((nl (repC S)).map wordsL = inter ((nl S).map wordsL)) := Lib.hid (nl_repC S.length S (Nat.le_refl _))
        clear htt hts
        go_wp2_with fail
        refine (HP.out _ (HE.out.below HB1.out)).mono ?_
        rintro e w2 ⟨hb2, f, k1, d, val, hpc, hcv, hr⟩
        obtain ⟨r, rfl, hzr, hsr, h1r⟩ := HZS.out _ _ _ hcv
        have HSR := Lib.hid hsr
        have HZR := Lib.hid hzr
        have H1R := Lib.hid h1r
        have hba : Below w2.heap.size w2 (w2.alloc (.cells r 26)) := (Below.refl _ w2).alloc (Nat.le_refl _) _
        have HB3 := Lib.hid ((HB1.out.trans (hb2.mono HB1.out.size)).trans (hba.mono (Nat.le_trans HB1.out.size hb2.size)))
        have HK3 : Hid ((w2.alloc (.cells r 26)).heap[w2.heap.size]? = some (.cells r 26 (0, 0))) := Lib.hid (heap_alloc_last w2 _)
        have HC3 := Lib.hid (hcv.below hba)
        have HPC := Lib.hid hpc
        have HR3 : Hid ((∃ ev, e = .returned (.tuple #[.agg r, ev]) ∧ ((k1 = 0 ∧ ev = .nilIface) ∨ (k1 ≠ 0 ∧ ∃ p, ev = .iface 35 (.pointer (some ⟨p, 0, none⟩)) ∧ FaultAt (w2.alloc (.cells r 26)) p f k1)))) := Lib.hid (by
          rcases hr with ⟨h0, rfl⟩ | ⟨h0, p, rfl, hf⟩
          · exact ⟨_, rfl, .inl ⟨h0, rfl⟩⟩
          · exact ⟨_, rfl, .inr ⟨h0, p, rfl, hf.below hba⟩⟩)
        clear hb2 hcv hzr hsr h1r hba hpc hr
        obtain ⟨ev, rfl, hev⟩ := HR3.out
        have HEV := Lib.hid hev
        clear HR3 hev
        go_wp2_with (first
          | (refine wpList_alloc_z rfl 26 rfl Z HZ.out ?_; go_simp)
          | (refine wpList_store_new rfl 26 (.tmp 5) (.tmp 38) rfl w2.heap.size rfl Z r 26 rfl rfl HSR.out HZR.out H1R.out ?_; go_simp))
        refine (HP2.out _ (HE.out.below HB3.out)).mono ?_
        rintro e w5 ⟨hb5, f5, k5, d5, val5, hpc5, hcv5, hr5⟩
        rw [HIn.out] at hpc5
        obtain ⟨rfl, rfl⟩ := pc_inter HPC.out hpc5
        obtain ⟨r5, rfl, hzr5, hsr5, h1r5⟩ := HZS.out _ _ _ hcv5
        have HSR5 := Lib.hid hsr5
        have HZR5 := Lib.hid hzr5
        have H1R5 := Lib.hid h1r5
        have hb56 : Below w5.heap.size w5 (((w5.alloc (.cells r5 26)).alloc (.cells #[.int .i64 0] 36)).alloc (.cells #[.int .i64 0] 36)) := (((Below.refl _ w5).alloc (Nat.le_refl _) _).alloc (by simp only [World.size_alloc]; omega) _).alloc (by simp only [World.size_alloc]; omega) _
        have hb36 := hb5.trans (hb56.mono hb5.size)
        have hK65 : (((w5.alloc (.cells r5 26)).alloc (.cells #[.int .i64 0] 36)).alloc (.cells #[.int .i64 0] 36)).heap[w5.heap.size]? = some (.cells r5 26 (0, 0)) := by
          rw [Below.heap_alloc _ _ _ (by simp only [World.size_alloc]; omega), Below.heap_alloc _ _ _ (by simp only [World.size_alloc]; omega)]; exact heap_alloc_last w5 _
        have hKx : (((w5.alloc (.cells r5 26)).alloc (.cells #[.int .i64 0] 36)).alloc (.cells #[.int .i64 0] 36)).heap[w5.heap.size + 1]? = some (.cells #[.int .i64 0] 36 (0, 0)) := by
          rw [Below.heap_alloc _ _ _ (by simp only [World.size_alloc]; omega)]
          have := heap_alloc_last (w5.alloc (.cells r5 26)) (.cells #[.int .i64 0] 36)
          rwa [World.size_alloc] at this
        have hKy : (((w5.alloc (.cells r5 26)).alloc (.cells #[.int .i64 0] 36)).alloc (.cells #[.int .i64 0] 36)).heap[w5.heap.size + 1 + 1]? = some (.cells #[.int .i64 0] 36 (0, 0)) := by
          have := heap_alloc_last ((w5.alloc (.cells r5 26)).alloc (.cells #[.int .i64 0] 36)) (.cells #[.int .i64 0] 36)
          rwa [World.size_alloc, World.size_alloc] at this
        have HC65 := Lib.hid (hcv5.below hb56)
        have HWw : Hid (w.heap.size ≤ w5.heap.size) := Lib.hid (Nat.le_trans HB3.out.size hb5.size)
        have HR5 : Hid ((∃ ev, e = .returned (.tuple #[.agg r5, ev]) ∧ ((k1 = 0 ∧ ev = .nilIface) ∨ (k1 ≠ 0 ∧ ∃ p, ev = .iface 35 (.pointer (some ⟨p, 0, none⟩)) ∧ p < w5.heap.size ∧ FaultAt (((w5.alloc (.cells r5 26)).alloc (.cells #[.int .i64 0] 36)).alloc (.cells #[.int .i64 0] 36)) p f5 k1)))) := Lib.hid (by
          rcases hr5 with ⟨h0, rfl⟩ | ⟨h0, p, rfl, hf⟩
          · exact ⟨_, rfl, .inl ⟨h0, rfl⟩⟩
          · exact ⟨_, rfl, .inr ⟨h0, p, rfl, hf.1, hf.below hb56⟩⟩)
        have HW5l : Hid ((w2.alloc (.cells r 26)).heap.size ≤ w5.heap.size) := Lib.hid hb5.size
        generalize hW6 : (((w5.alloc (.cells r5 26)).alloc (.cells #[.int .i64 0] 36)).alloc (.cells #[.int .i64 0] 36)) = W6 at hb36 hb56 hK65 hKx hKy HC65 HR5
        have HB6 := Lib.hid (HB3.out.trans (hb36.mono HB3.out.size))
        have HK6 := Lib.hid ((hb36.block _ (Array.getElem?_eq_some_iff.1 HK3.out).1).trans HK3.out)
        have HC6 := Lib.hid (HC3.out.below hb36)
        have HK65 := Lib.hid hK65
        have HKx := Lib.hid hKx
        have HKy := Lib.hid hKy
        have HT6 := Lib.hid (HT.out.below HB6.out)
        obtain ⟨ev5, rfl, hev5⟩ := HR5.out
        rcases HEV.out with ⟨hk0, rfl⟩ | ⟨hk0, p, rfl, hf⟩
        · rcases hev5 with ⟨_, rfl⟩ | ⟨h1, _⟩
          case inr => exact absurd hk0 h1
          subst hk0
          have hR := HPC.out.right RightC.dflt
          have HSa := Lib.hid (same_e d (.agg r) (.agg r5) W6 HC6.out HC65.out (by have := hR.srv; omega) (by have := hR.sea; omega) ⟨by have := hR.dots; omega, by have := hR.t2; omega, by have := hR.a2; omega⟩)
          clear hb5 hcv5 hzr5 hsr5 h1r5 hb56 hb36 hK65 hKx hKy hr5 hpc5 hR HEV HR5
          go_wp2_with (first
            | (refine wpList_alloc_z rfl 26 rfl Z HZ.out ?_; go_simp)
            | (refine wpList_store_new rfl 26 (.tmp 7) (.tmp 43) rfl w5.heap.size rfl Z r5 26 rfl rfl HSR5.out HZR5.out H1R5.out ?_; go_simp)
            | (refine wpList_row_gh 26 (.tmp 5) rfl rfl w2.heap.size rfl 26 r (0, 0) _ HK6.out huC rfl HSR.out ?_; go_simp)
            | (refine wpList_row_gh 26 (.tmp 7) rfl rfl w5.heap.size rfl 26 r5 (0, 0) _ HK65.out huC rfl HSR5.out ?_; go_simp)
            | (go_at_call 11; refine HSa.out.mono ?_; rintro e w8 ⟨rfl, hb8⟩; have HB8 := Lib.hid (HB6.out.trans (hb8.mono HB6.out.size)); clear hb8))
          go_ret
          exact ⟨rfl, HB8.out⟩
        · rcases hev5 with ⟨h0, _⟩ | ⟨_, p5, rfl, hp5, hf5⟩
          case inl => exact absurd h0 hk0
          have hpl : p < w5.heap.size := Nat.lt_of_lt_of_le hf.1 HW5l.out
          have hf6 := hf.below hb36
          have HN : Hid (p ≠ w5.heap.size + 1 ∧ p5 ≠ w5.heap.size + 1 ∧ w5.heap.size + 1 + 1 ≠ w5.heap.size + 1 ∧ w5.heap.size + 1 ≠ w5.heap.size + 1 + 1 ∧ w.heap.size ≤ w5.heap.size + 1 ∧ w.heap.size ≤ w5.heap.size + 1 + 1) := Lib.hid (by have := HWw.out; omega)
          have HAx := Lib.hid (asE1_e p (k1 : Int) (w5.heap.size + 1) _ W6 HT6.out (cell_of_row W6 _ 0 _ _ _ hKx) (frozen_of_row W6 _ 0 _ _ hKx) hf6.2.2)
          have HF5 := Lib.hid hf5.2.2
          clear hb5 hcv5 hzr5 hsr5 h1r5 hb56 hb36 hK65 hKx hKy hr5 hpc5 HEV HR5 hf hf6 hf5 hp5 hpl hk0
          go_wp2_with (first
            | (refine wpList_alloc_z rfl 26 rfl Z HZ.out ?_; go_simp)
            | (refine wpList_store_new rfl 26 (.tmp 7) (.tmp 43) rfl w5.heap.size rfl Z r5 26 rfl rfl HSR5.out HZR5.out H1R5.out ?_; go_simp))
          refine HAx.out.mono ?_
          rintro e W7 ⟨rfl, hg7, cx7⟩
          have hp7 := grown_cell hg7 HF5.out HN.out.2.1
          have hy7 := blk_grown7 hg7 HKy.out HN.out.2.2.1
          have HB7 := Lib.hid (HB6.out.trans (Below.of_grown hg7 HN.out.2.2.2.2.1 HB6.out.size))
          have HAy := Lib.hid (asE1_e p5 (k1 : Int) (w5.heap.size + 1 + 1) _ W7 (HT.out.below HB7.out) (cell_of_row W7 _ 0 _ _ _ hy7) (frozen_of_row W7 _ 0 _ _ hy7) hp7)
          have HCx := Lib.hid cx7
          clear hg7 hp7 hy7 cx7
          go_wp2_with fail
          refine HAy.out.mono ?_
          rintro e W8 ⟨rfl, hg8, cy8⟩
          have cx8 := grown_cell hg8 HCx.out HN.out.2.2.2.1
          have HB8 := Lib.hid (HB7.out.trans (Below.of_grown hg8 HN.out.2.2.2.2.2 HB7.out.size))
          clear hg8
          go_wp2_with fail
          go_ret
          exact ⟨rfl, HB8.out⟩
  · have hsI : (1000 : Int) < (s.size : Int) := by omega
    go_enter Tryz.func7, Tryz.ntmps7
    go_wp2_with (go_at_call 9; refine hfit.mono ?_; rintro e w1 ⟨rfl, hb1⟩; have HB1 := Lib.hid hb1; clear hb1)
    go_ret
    exact ⟨rfl, HB1.out⟩
end Go.Proofs.YtpnlgojbmjfhhaaGreatDoor
