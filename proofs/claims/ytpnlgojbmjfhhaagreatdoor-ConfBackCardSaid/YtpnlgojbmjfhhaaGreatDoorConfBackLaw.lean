/-
  The walk of ConfBack: what a text tells comes back from the text that tells it. Conditions: the text is one that may come in; the library's variables hold what their initialisers lay.
-/
import Derived.Test.YtpnlgojbmjfhhaaGreatDoorConfPrn
import Derived.Test.YtpnlgojbmjfhhaaGreatDoorConfOptionsLaw
namespace Go.Proofs.YtpnlgojbmjfhhaaGreatDoor
open Go.RowKit

theorem printC_len {c : ConfM} (hR : RightC c) : (printC c).length ≤ 5000 := by
  rw [printC_eq]
  have h1 := srvsT_len hR.len
  have h2 := hR.srv
  have h3 := nmT_len hR.out
  have h4 := hR.sea
  have h5 : (optsT c).length ≤ 200 := by
    have d1 := dec_len c.dots
    have d2 := dec_len c.timeout
    have d3 := dec_len c.attempts
    have e1 := hR.dots
    have e2 := hR.t2
    have e3 := hR.a2
    have e : (optsT c).length = 34 + (Go.Lib.decDigits c.dots).length + (Go.Lib.decDigits c.timeout).length + (Go.Lib.decDigits c.attempts).length := by
      simp only [optsT, lineW, optsOf, nmT, optW, wOp, wNd, wTi, wAt, List.flatMap_cons, List.flatMap_nil, List.length_append, List.length_cons, List.length_nil]
      omega
    omega
  have h6 : (if c.search = [] then [] else lineW wSe c.search ++ [10]).length ≤ 1600 := by
    split
    · simp
    · simp only [lineW, wSe, List.length_append, List.length_cons, List.length_nil]; omega
  simp only [List.length_append]
  omega
set_option maxRecDepth 100000 in
set_option maxHeartbeats 16000000 in
theorem confBack_walk (s : ByteArray) (hs : s.size ≤ 140737488351232) (w : World) (he : AEnv w) (ht : ETy w) : Calls Tryz.prog 3 #[.string s] w fun e w' => e = .returned (.bool true) ∧ Below w.heap.size w w' := by
  have hfit := fit7_e w he ht
  have HE := Lib.hid he
  have HZ := Lib.hid zeroConf
  have HZS : Hid (∀ W val c, CV W val c → ∃ r : Array Value, val = .agg r ∧ zConf.size = r.size ∧ (Tryz.prog.info? 26).map (·.size) = some r.size ∧ r.all (·.oneCell') = true) := Lib.hid (fun W val c h => by
    obtain ⟨r, h1, h2, h3, h4, _⟩ := CV.arr h
    exact ⟨r, h1, h2, h3, h4⟩)
  have HBu := Lib.hid builtZero
  have HSame0 : Hid (∀ W (r : Array Value), CV W (.agg r) ConfM.zero → Calls Tryz.prog 11 #[.agg r, .agg zConf] W fun e w' => e = .returned (.bool true) ∧ Below W.heap.size W w') := Lib.hid (fun W r h => same_e ConfM.zero _ _ W h (CV.zero W) (by decide) (by decide) (by decide))
  generalize zConf = Z at HZ HZS HBu HSame0
  have huC := Tryz.underlying26
  clear he ht
  by_cases hs2 : s.size ≤ 2000
  · have hsI : ¬ (2000 : Int) < (s.size : Int) := by omega
    have HP := Lib.hid (fun W (hW : AEnv W) => cparse_e s W hW (by omega))
    go_enter Tryz.func3, Tryz.ntmps3
    go_wp2_with (go_at_call 9; refine hfit.mono ?_; rintro e w1 ⟨rfl, hb1⟩; have HB1 := Lib.hid hb1; clear hb1)
    refine (HP.out _ (HE.out.below HB1.out)).mono ?_
    rintro e w2 ⟨hb2, f, k, d, val, hpc, hcv, hr⟩
    obtain ⟨r, rfl, hzr, hsr, h1r⟩ := HZS.out _ _ _ hcv
    have HSR := Lib.hid hsr
    have HZR := Lib.hid hzr
    have H1R := Lib.hid h1r
    have hba : Below w2.heap.size w2 (w2.alloc (.cells r 26)) := (Below.refl _ w2).alloc (Nat.le_refl _) _
    have HB3 := Lib.hid ((HB1.out.trans (hb2.mono HB1.out.size)).trans (hba.mono (Nat.le_trans HB1.out.size hb2.size)))
    have HK3 : Hid ((w2.alloc (.cells r 26)).heap[w2.heap.size]? = some (.cells r 26 (0, 0))) := Lib.hid (heap_alloc_last w2 _)
    have HC3 := Lib.hid (hcv.below hba)
    have HPC := Lib.hid hpc
    clear hb2 hcv hzr hsr h1r hba hpc
    rcases hr with ⟨rfl, rfl⟩ | ⟨hk0, p, rfl, _⟩
    · have hR : RightC d := PcR.right RightC.dflt HPC.out
      have hRt := HPC.out
      have HR := Lib.hid hR
      have HPrn := Lib.hid (fun W (hW : AEnv W) (hc : CV W (.agg r) d) => cprint_e d _ W hW hc hR)
      have HPar := Lib.hid (fun W (hW : AEnv W) => cparse_at (tb (printC d)) 0 0 d (by rw [tb_data]; exact pc_print hR) W hW (by rw [Lib.size_eq, tb_data]; have := printC_len hR; omega))
      have HRi := Lib.hid (fun W (hW : AEnv W) (hc : CV W (.agg r) d) => right7_e d _ W hW hc hR)
      have HSa := Lib.hid (fun W (r2 : Array Value) (hc : CV W (.agg r) d) (hc2 : CV W (.agg r2) d) => same_e d _ _ W hc hc2 (by have := hR.srv; omega) (by have := hR.sea; omega) ⟨by have := hR.dots; omega, by have := hR.t2; omega, by have := hR.a2; omega⟩)
      generalize tb (printC d) = PT at HPrn HPar
      clear hR hRt
      go_wp2_with (first
        | (refine wpList_alloc_z rfl 26 rfl Z HZ.out ?_; go_simp)
        | (refine wpList_store_new rfl 26 (.tmp 3) (.tmp 14) rfl w2.heap.size rfl Z r 26 rfl rfl HSR.out HZR.out H1R.out ?_; go_simp)
        | (refine wpList_load_row rfl 26 (.tmp 3) rfl w2.heap.size rfl 26 r (0, 0) _ HK3.out huC rfl HSR.out ?_; go_simp))
      refine (HPrn.out _ (HE.out.below HB3.out) HC3.out).mono ?_
      rintro e w4 ⟨rfl, hb4⟩
      have HB4 := Lib.hid (HB3.out.trans (hb4.mono HB3.out.size))
      have HK4 := Lib.hid ((hb4.block _ (Array.getElem?_eq_some_iff.1 HK3.out).1).trans HK3.out)
      have HC4 := Lib.hid (HC3.out.below hb4)
      clear hb4
      go_wp2_with fail
      refine (HPar.out _ (HE.out.below HB4.out)).mono ?_
      rintro e w5 ⟨hb5, val5, hcv5, ⟨_, rfl⟩ | ⟨h0, _⟩⟩
      case inr => exact absurd rfl h0
      obtain ⟨r5, rfl, hzr5, hsr5, h1r5⟩ := HZS.out _ _ _ hcv5
      have HSR5 := Lib.hid hsr5
      have HZR5 := Lib.hid hzr5
      have H1R5 := Lib.hid h1r5
      have hba5 : Below w5.heap.size w5 (w5.alloc (.cells r5 26)) := (Below.refl _ w5).alloc (Nat.le_refl _) _
      have hb46 := hb5.trans (hba5.mono hb5.size)
      have HB6 := Lib.hid (HB4.out.trans (hb46.mono HB4.out.size))
      have HK6 := Lib.hid ((hb46.block _ (Array.getElem?_eq_some_iff.1 HK4.out).1).trans HK4.out)
      have HC6 := Lib.hid (HC4.out.below hb46)
      have HK65 : Hid ((w5.alloc (.cells r5 26)).heap[w5.heap.size]? = some (.cells r5 26 (0, 0))) := Lib.hid (heap_alloc_last w5 _)
      have HC65 := Lib.hid (hcv5.below hba5)
      clear hb5 hcv5 hzr5 hsr5 h1r5 hba5 hb46
      go_wp2_with (first
        | (refine wpList_alloc_z rfl 26 rfl Z HZ.out ?_; go_simp)
        | (refine wpList_store_new rfl 26 (.tmp 5) (.tmp 25) rfl w5.heap.size rfl Z r5 26 rfl rfl HSR5.out HZR5.out H1R5.out ?_; go_simp)
        | (refine wpList_row_gh 26 (.tmp 3) rfl rfl w2.heap.size rfl 26 r (0, 0) _ HK6.out huC rfl HSR.out ?_; go_simp)
        | (go_at_call 13; refine (HRi.out _ (HE.out.below HB6.out) HC6.out).mono ?_; rintro e w7 ⟨rfl, hb7⟩; have HB7 := Lib.hid (HB6.out.trans (hb7.mono HB6.out.size)); have HK7 := Lib.hid ((hb7.block _ (Array.getElem?_eq_some_iff.1 HK6.out).1).trans HK6.out); have HK75 := Lib.hid ((hb7.block _ (Array.getElem?_eq_some_iff.1 HK65.out).1).trans HK65.out); have HC7 := Lib.hid (HC6.out.below hb7); have HC75 := Lib.hid (HC65.out.below hb7); clear hb7)
        | (refine wpList_row_gh 26 (.tmp 3) rfl rfl w2.heap.size rfl 26 r (0, 0) _ HK7.out huC rfl HSR.out ?_; go_simp)
        | (refine wpList_row_gh 26 (.tmp 5) rfl rfl w5.heap.size rfl 26 r5 (0, 0) _ HK75.out huC rfl HSR5.out ?_; go_simp)
        | (go_at_call 11; refine (HSa.out _ r5 HC7.out HC75.out).mono ?_; rintro e w8 ⟨rfl, hb8⟩; have HB8 := Lib.hid (HB7.out.trans (hb8.mono HB7.out.size)); clear hb8))
      go_ret
      exact ⟨rfl, HB8.out⟩
    · have hz : d = ConfM.zero := by
        rcases HPC.out.num with ⟨h, _⟩ | ⟨_, _, _, h⟩
        · exact absurd h hk0
        · exact h
      have hc := HC3.out
      rw [hz] at hc
      have HS0 := Lib.hid (HSame0.out _ r hc)
      clear hz hc
      go_wp2_with (first
        | (refine wpList_alloc_z rfl 26 rfl Z HZ.out ?_; go_simp)
        | (refine wpList_store_new rfl 26 (.tmp 3) (.tmp 14) rfl w2.heap.size rfl Z r 26 rfl rfl HSR.out HZR.out H1R.out ?_; go_simp)
        | (refine wpList_load_row rfl 26 (.tmp 3) rfl w2.heap.size rfl 26 r (0, 0) _ HK3.out huC rfl HSR.out ?_; go_simp)
        | (refine wpList_build_z rfl 26 #[] rfl Z HBu.out ?_; go_simp)
        | (go_at_call 11; refine HS0.out.mono ?_; rintro e w8 ⟨rfl, hb8⟩; have HB8 := Lib.hid (HB3.out.trans (hb8.mono HB3.out.size)); clear hb8))
      go_ret
      exact ⟨rfl, HB8.out⟩
  · have hsI : (2000 : Int) < (s.size : Int) := by omega
    go_enter Tryz.func3, Tryz.ntmps3
    go_wp2_with (go_at_call 9; refine hfit.mono ?_; rintro e w1 ⟨rfl, hb1⟩; have HB1 := Lib.hid hb1; clear hb1)
    go_ret
    exact ⟨rfl, HB1.out⟩
end Go.Proofs.YtpnlgojbmjfhhaaGreatDoor
