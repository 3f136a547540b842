/-
  The walk of the statement OrderBack: sources come back from their line. Conditions: the library's variable MaxLen holds some number; the text's size is within the reach.
-/
import Derived.Test.YtpgkopnnfhlhbaaDoorOrdFit
namespace Go.Proofs.YtpgkopnnfhlhbaaDoor
open Go.RowKit

set_option maxRecDepth 100000 in
set_option maxHeartbeats 4000000 in
theorem orderBack_walk (s : ByteArray) (w : World) (he : Env w) (hs : s.size ≤ 140737488351232) : Calls Tryd.prog 3 #[.string s] w fun e w' => e = .returned (.bool true) ∧ Below w.heap.size w w' := by
  have hfit := fit8_e w he
  have HE := Lib.hid he
  clear he
  by_cases hs2 : s.size ≤ 1000
  rotate_left
  · have hsI : (1000 : Int) < (s.size : Int) := by omega
    go_enter Tryd.func3, Tryd.ntmps3
    go_wp2_with (go_at_call 9; refine hfit.mono ?_; rintro e w1 ⟨rfl, hb1⟩; have HB1 := Lib.hid hb1; clear hb1)
    go_ret
    exact ⟨rfl, HB1.out⟩
  have hsI : ¬ (1000 : Int) < (s.size : Int) := by omega
  have HP := Lib.hid (fun W (hW : Env W) => parse_e s W hW (by omega))
  go_enter Tryd.func3, Tryd.ntmps3
  go_wp2_with (go_at_call 9; refine hfit.mono ?_; rintro e w1 ⟨rfl, hb1⟩; have HB1 := Lib.hid hb1; clear hb1)
  refine (HP.out _ (HE.out.below HB1.out)).mono ?_
  rintro e w2 ⟨hb2, v, rfl, hsl⟩
  have HB2 := Lib.hid (HB1.out.trans (hb2.mono HB1.out.size))
  obtain ⟨⟨k, l⟩, hkl⟩ : ∃ p, p = parseO s.data.toList := ⟨_, rfl⟩
  have hkl := hkl.symm
  rw [hkl] at hsl ⊢
  obtain ⟨A, c, rfl, hA⟩ := id hsl
  clear hA
  by_cases hk : k = 0
  rotate_left
  · obtain ⟨rfl, h26⟩ := parseO_err hkl hk
    clear hsl hkl hb2 hfit
    have hkI : ¬ (k : Int) = 0 := by omega
    rcases h26 with rfl | rfl
    · go_wp2
      go_ret
      exact ⟨rfl, HB2.out⟩
    · go_wp2
      go_ret
      exact ⟨rfl, HB2.out⟩
  · subst hk
    obtain ⟨h1, h4, hks⟩ := parseO_ok hkl
    have hpr : ∀ W, SlS W (.slice A l.length c) l → Calls Tryd.prog 11 #[.slice A l.length c] W fun e w' => e = .returned (.string (tb (printO l))) ∧ Below W.heap.size W w' := fun W hW => print_e l.length c A l W hW rfl (by omega) (by omega) hks
    have HPr := Lib.hid hpr
    clear hpr
    have HPa := Lib.hid (fun W (hW : Env W) => parse_e (tb (printO l)) W hW (by
      have := print_len hks
      rw [size_eq, tb_data]; omega))
    have hpp := parse_print hks h1 h4
    have HSL := Lib.hid hsl
    have HKS := Lib.hid hks
    have HPP : Hid ((parseO (tb (printO l)).data.toList) = (0, l)) := Lib.hid (by rw [tb_data]; exact hpp)
    generalize tb (printO l) = T at HPr HPa HPP
    have hsa : ∀ W (B : Option Addr) (c' : Nat), SlS W (.slice A l.length c) l → SlS W (.slice B l.length c') l → Calls Tryd.prog 12 #[.slice A l.length c, .slice B l.length c'] W fun e w' => e = .returned (.bool true) ∧ Below W.heap.size W w' := fun W B c' h1 h2 => by
      have := same8_e l.length c l.length c' A B l l W h1 h2 rfl rfl (by omega) (by omega)
      rwa [show decide (l = l) = true from decide_eq_true rfl] at this
    have HSA := Lib.hid hsa
    clear hsa
    obtain ⟨n, hn⟩ : ∃ n, n = l.length := ⟨_, rfl⟩
    rw [← hn] at HPr HSA h1 h4 HSL ⊢
    have HN := Lib.hid hn
    clear hsl hkl hb2 hfit hks hpp hn
    go_wp2_with fail
    refine (HPr.out _ HSL.out).mono ?_
    rintro e w3 ⟨rfl, hb3⟩
    have HB3 := Lib.hid (HB2.out.trans (hb3.mono HB2.out.size))
    have HS3 := Lib.hid (HSL.out.below hb3)
    clear hb3
    go_wp2_with fail
    refine (HPa.out _ (HE.out.below HB3.out)).mono ?_
    rintro e w4 ⟨hb4, v4, rfl, hsl4⟩
    rw [HPP.out] at hsl4 ⊢
    have HB4 := Lib.hid (HB3.out.trans (hb4.mono HB3.out.size))
    have HS4 := Lib.hid (HS3.out.below hb4)
    obtain ⟨B, c4, rfl, hB⟩ := id hsl4
    rw [← HN.out] at hsl4 ⊢
    have HT4 := Lib.hid hsl4
    clear hb4 hsl4 hB
    have HZS := Lib.hid zeroSrc
    have HZD : Hid (zS.size = 6) := Lib.hid rfl
    obtain ⟨Z, hZ⟩ : ∃ Z, Z = zS := ⟨_, rfl⟩
    rw [← hZ] at HZS HZD
    clear hZ
    go_wp2_with fail
    go_loopg [40] n (fun gk i wr => ∃ k : Nat, i = .int .i64 k ∧ k + gk = n ∧ Hid (Below w4.heap.size w4 wr))
    case atStart => exact ⟨0, rfl, by omega, Lib.hid (Below.refl _ _)⟩
    case round =>
      obtain ⟨k, rfl, hkg, HBk⟩ := hrel
      by_cases hkn : k < n
      · obtain ⟨g2, rfl⟩ : ∃ g2, gk = g2 + 1 := ⟨gk - 1, by omega⟩
        have hkI : (k : Int) < (n : Int) := by omega
        obtain ⟨x, hx⟩ : ∃ x, l[k]? = some x := ⟨_, List.getElem?_eq_getElem (by rw [← HN.out]; exact hkn)⟩
        have hxk := HKS.out x (List.mem_of_getElem? hx)
        obtain ⟨b, cb, e1, hb1, hc1⟩ := (HS4.out.below HBk.out).form (by intro e; rw [e] at hx; cases hx)
        injection e1 with e1 e2 e3
        subst e1
        clear e2 e3
        have hld : ∀ j v, (srcV x).toList[j]? = some v → wr.cell? ((⟨b, k * 6, none⟩ : Addr).add j) = some v := fun j v hj => by
          have h6 : j < 6 := by
            rcases Nat.lt_or_ge j 6 with h | h
            · exact h
            · rw [List.getElem?_eq_none (by exact h)] at hj; cases hj
          rw [Addr.add_lit]
          exact hc1 _ _ (by rw [svs_at hx h6]; exact hj)
        have HLD := Lib.hid hld
        have HSk : Hid ((Tryd.prog.info? 30).map (·.size) = some (srcV x).size) := Lib.hid sizeSrc
        have HZk : Hid (Z.size = (srcV x).size) := Lib.hid HZD.out
        have H1k := Lib.hid (srcV_one x)
        have hg1 := heap_alloc_last wr (.cells (srcV x) 30)
        have c0 : (wr.alloc (.cells (srcV x) 30)).cell? ⟨wr.heap.size, 0, none⟩ = some (.int .i64 x.1) := by rw [cell_of_row _ wr.heap.size 0 _ _ (0, 0) hg1]; rfl
        have c1 : (wr.alloc (.cells (srcV x) 30)).cell? ⟨wr.heap.size, 1, none⟩ = some (.bool false) := by rw [cell_of_row _ wr.heap.size 1 _ _ (0, 0) hg1]; rfl
        have HB5 : Hid (Below w4.heap.size w4 (wr.alloc (.cells (srcV x) 30))) := Lib.hid (HBk.out.alloc HBk.out.size _)
        obtain ⟨D, hD⟩ : ∃ D, D = srcV x := ⟨_, rfl⟩
        rw [← hD] at HLD HSk HZk H1k c0 c1 HB5
        generalize x.1 = xk at hxk c0
        have x1 : ¬ (xk : Int) < 1 := by omega
        have x3 : ¬ (3 : Int) < (xk : Int) := by omega
        clear hld hg1 hD hb1 hc1 hx
        go_wp2_with (first
          | (refine wpList_load_agg rfl 30 (.tmp 42) rfl ⟨b, k * 6, none⟩ rfl D _ HLD.out Tryd.underlying30 rfl HSk.out ?_; go_simp)
          | (refine wpList_alloc_z rfl 30 rfl Z HZS.out ?_; go_simp)
          | (refine wpList_store_new rfl 30 (.tmp 8) (.tmp 43) rfl wr.heap.size rfl Z D 30 rfl rfl HSk.out HZk.out H1k.out ?_; go_simp))
        go_roundg g2
        case measure => omega
        case rel => exact ⟨k + 1, by go_num, by omega, HB5⟩
      · obtain rfl : k = n := by omega
        have hkI : ¬ (k : Int) < (k : Int) := by omega
        have HCS := Lib.hid (HSA.out _ B c4 (HS4.out.below HBk.out) (HT4.out.below HBk.out))
        have HB6 := Lib.hid (HB4.out.trans (HBk.out.mono HB4.out.size))
        have h1I : (1 : Int) ≤ (k : Int) := by omega
        have h4I : (k : Int) ≤ 4 := by omega
        go_wp2_with (first
          | (go_at_call 12; refine HCS.out.mono ?_; rintro e w7 ⟨rfl, hb7⟩; have HB7 := Lib.hid (HB6.out.trans (hb7.mono HB6.out.size)); clear hb7))
        go_ret
        exact ⟨rfl, HB7.out⟩
end Go.Proofs.YtpgkopnnfhlhbaaDoor
