/-
  The walk of LinkGens. Conditions: the link came in, and the library's variable MaxLen holds some number.
-/
import Derived.Test.YtnjcbkolniemnaaGreatDoorLinkGensLib
import Derived.Test.YtnjcbkolniemnaaGreatDoorLinkOpen
namespace Go.Proofs.YtnjcbkolniemnaaGreatDoor
open Go.RowKit

set_option maxRecDepth 100000 in
set_option maxHeartbeats 1000000 in
theorem linkGens_walk (s : Sl) (n : Int) (W : World) (he : Env W) (hs : InS W s) : Calls Tryz.prog 4 #[.agg s.lk.toArray, .int .i64 n] W fun e w' => e = .returned (.bool true) ∧ Below W.heap.size W w' := by
  obtain ⟨hin, _⟩ := hs
  obtain ⟨m, hm4, hat⟩ := and3 n
  have HIN := Lib.hid hin
  have hb0 := ((Below.refl _ W).alloc (Nat.le_refl _) (.cells s.lk.toArray 31))
  have hO0 := heap_alloc_last W (.cells s.lk.toArray 31)
  have hE0 := he.below hb0
  have HEW := Lib.hid he
  have hme := he.1
  obtain ⟨live, gen, dA, dc, ds, df, ll, sA, sc, ns, ss, lA, lc, nl, ls, ca⟩ := s
  simp only [Sl.lk] at hb0 hO0 hE0 ⊢
  have HB0 := Lib.hid hb0
  have HO0 := Lib.hid hO0
  have HE0 := Lib.hid hE0
  clear hin hb0 hO0 hE0 he
  go_enter Tryz.func4, Tryz.ntmps4
  go_wp2_with fail
  generalize W.alloc _ = w0 at HB0 HO0 HE0 ⊢
  refine (fit11_e w0 HE0.out).mono ?_
  rintro e w1 ⟨rfl, hb, hE1⟩
  have HB1 := Lib.hid (HB0.out.trans (hb.mono HB0.out.size))
  have HO1 := Lib.hid ((hb.block W.heap.size (heap_ltk HO0.out)).trans HO0.out)
  have HE1 := Lib.hid hE1
  clear hb hE1 HB0 HO0 HE0
  obtain ⟨q0, q1, q2, q3, q4, q5, q6, _⟩ := box7 (s := ⟨live, gen, dA, dc, ds, df, ll, sA, sc, ns, ss, lA, lc, nl, ls, ca⟩) HO1.out
  dsimp only at q0 q1 q2 q3 q4 q5 q6
  go_wp2_with fail
  refine (short_e (HIN.out.below HB1.out)).mono ?_
  rintro e w2 ⟨b, rfl, hb⟩
  clear q0 q1 q2 q3 q4 q5 q6
  have HB2 := Lib.hid (HB1.out.trans (hb.mono HB1.out.size))
  have HO2 := Lib.hid ((hb.block W.heap.size (heap_ltk HO1.out)).trans HO1.out)
  have HE2 := Lib.hid (HE1.out.below hb)
  clear hb HB1 HO1 HE1
  cases b with
  | false =>
    go_wp2
    go_ret
    exact ⟨rfl, HB2.out⟩
  | true =>
  obtain ⟨q0, q1, q2, q3, q4, q5, q6, _⟩ := box7 (s := ⟨live, gen, dA, dc, ds, df, ll, sA, sc, ns, ss, lA, lc, nl, ls, ca⟩) HO2.out
  dsimp only at q0 q1 q2 q3 q4 q5 q6
  go_wp2_with fail
  refine (lright_e (HIN.out.below HB2.out) HE2.out).mono ?_
  rintro e w3 ⟨rfl, hb, hE3⟩
  clear q0 q1 q2 q3 q4 q5 q6
  have HB3 := Lib.hid (HB2.out.trans (hb.mono HB2.out.size))
  have HO3 := Lib.hid ((hb.block W.heap.size (heap_ltk HO2.out)).trans HO2.out)
  have HE3 := Lib.hid hE3
  clear hb hE3 HB2 HO2 HE2
  cases hr : rightL ⟨live, gen, dA, dc, ds, df, ll, sA, sc, ns, ss, lA, lc, nl, ls, ca⟩ with
  | false =>
    go_wp2
    go_ret
    exact ⟨rfl, HB3.out⟩
  | true =>
  have HR := Lib.hid hr
  have hd4 : ds.length ≤ 4 := by
    unfold rightL at hr
    simp only [Bool.and_eq_true, decide_eq_true_eq] at hr
    exact hr.1.1.1
  clear hr
  obtain ⟨q0, q1, q2, q3, q4, q5, q6, _⟩ := box7 (s := ⟨live, gen, dA, dc, ds, df, ll, sA, sc, ns, ss, lA, lc, nl, ls, ca⟩) HO3.out
  dsimp only at q0 q1 q2 q3 q4 q5 q6
  have HD3 := Lib.hid (HIN.out.below HB3.out).dom
  simp only [Sl.dv] at HD3
  go_wp2
  go_loopw [31] (fun i wr => ∃ k : Nat, k ≤ ds.length ∧ i = .int .i64 k ∧ Below w3.heap.size w3 wr ∧ ∀ j, j < k → ds.getD j ByteArray.empty ≠ zzz) (fun i _ => ds.length - (intOf i).toNat)
  case atStart => exact ⟨0, Nat.zero_le _, rfl, Below.refl _ _, fun j hj => by omega⟩
  case round =>
    obtain ⟨k, hk, rfl, hb, hz⟩ := hrel
    by_cases hlt : k < ds.length
    · obtain ⟨g, o, rfl, hc⟩ := (HD3.out.below hb).txt hlt
      have HB := Lib.hid hb
      clear hb
      have HZ := Lib.hid hz
      clear hz
      by_cases hzz : ds.getD k ByteArray.empty = zzz
      · rw [hzz] at hc
        unfold zzz at hc
        clear hzz
        go_wp2
        go_ret
        exact ⟨rfl, HB3.out.trans (HB.out.mono HB3.out.size)⟩
      · have HZ2 := Lib.hid (fun j (hj : j < k + 1) => show ds.getD j ByteArray.empty ≠ zzz by
          by_cases e : j = k
          · subst e; exact hzz
          · exact HZ.out j (by omega))
        have hne := zzz_list hzz
        clear hzz
        revert hc hne
        generalize ds.getD k ByteArray.empty = x
        intro hc hne
        go_wp2
        go_roundw
        case rel => exact ⟨k + 1, by omega, by simp, HB.out, HZ2.out⟩
        case measure => simp [intOf]; omega
    · obtain rfl : k = ds.length := by omega
      have HZ := Lib.hid hz
      have HBr := Lib.hid (HB3.out.trans (hb.mono HB3.out.size))
      have HOr := Lib.hid ((hb.block W.heap.size (heap_ltk HO3.out)).trans HO3.out)
      have HEr := Lib.hid (HE3.out.below hb)
      clear hz hb HB3 HO3 HE3 q0 q1 q2 q3 q4 q5 q6 HD3
      go_wp2_with fail
      refine (newT_e _).mono ?_
      rintro e w4 ⟨T, rfl, hT4, hb⟩
      have HT4 := Lib.hid hT4
      have HB4 := Lib.hid (HBr.out.trans (hb.mono HBr.out.size))
      have HO4 := Lib.hid ((hb.block W.heap.size (heap_ltk HOr.out)).trans HOr.out)
      have HE4 := Lib.hid (HEr.out.below hb)
      have hz3 := HBr.out.size
      have hTb := hT4.ge
      have hbx := heap_ltk HOr.out
      clear hT4 hb HBr HOr HEr
      obtain ⟨q0, q1, q2, q3, q4, q5, q6, qf⟩ := box7 (s := ⟨live, gen, dA, dc, ds, df, ll, sA, sc, ns, ss, lA, lc, nl, ls, ca⟩) HO4.out
      dsimp only at q0 q1 q2 q3 q4 q5 q6
      have HD4 := Lib.hid (HIN.out.below HB4.out).dom
      simp only [Sl.dv] at HD4
      go_wp2_with (first
        | (at_builtin; refine wpList_app0 rfl _ _ rfl rfl rfl HD4.out (by omega) ?_; intro A1 c1 w5 ho5 hb5; have HW5 := Lib.hid ho5; have HB5 := Lib.hid (HB4.out.trans (hb5.mono HB4.out.size)); have HT5 := Lib.hid (HT4.out.below hb5); have HE5 := Lib.hid (HE4.out.below hb5); have HO5 := Lib.hid ((hb5.block W.heap.size (heap_ltk HO4.out)).trans HO4.out); have HZ5 := Lib.hid hb5.size; obtain ⟨p0, p1, p2, p3, p4, p5, p6, pf⟩ := box7 (s := ⟨live, gen, dA, dc, ds, df, ll, sA, sc, ns, ss, lA, lc, nl, ls, ca⟩) HO5.out; have pf2 := free2 (s := ⟨live, gen, dA, dc, ds, df, ll, sA, sc, ns, ss, lA, lc, nl, ls, ca⟩) HO5.out; dsimp only at p0 p1 p2 p3 p4 p5 p6; clear ho5 hb5 q0 q1 q2 q3 q4 q5 q6 qf; go_simp))
      clear p0 p1 p2 p3 p4 p5 p6 pf pf2
      have hTl := HT4.out.lt
      have hO6 := heap_setCell_same w5 W.heap.size 2 _ _ (.slice A1 ds.length c1) HO5.out
      simp only [List.setIfInBounds_toArray, List.set_cons_succ, List.set_cons_zero] at hO6
      have hg6 := grown_set w5 W.heap.size 2 (.slice A1 ds.length c1)
      have HO6 := Lib.hid hO6
      have HT6 := Lib.hid (HT5.out.other HO5.out hg6)
      have HE6 := Lib.hid (HE5.out.kept hg6 (by omega))
      have HB6 := Lib.hid (HB5.out.setCell (p := ⟨W.heap.size, 2, none⟩) (Nat.le_refl _) (.slice A1 ds.length c1))
      have HW6 := Lib.hid (own_other HW5.out HO5.out (by decide) hg6)
      clear hO6 hg6 HO5 HT5 HE5 HB5 HW5 HO4 HT4 HE4 HB4 HD4 HZ5
      generalize w5.setCell ⟨W.heap.size, 2, none⟩ (.slice A1 ds.length c1) = w6 at HO6 HT6 HE6 HB6 HW6 ⊢
      have hi6 := HIN.out.below HB6.out
      have hf6 := HIN.out.far (T := T) (by omega)
      have hset := set_good (k := m) (s := ⟨live, gen, A1, c1, ds, df, ll, sA, sc, ns, ss, lA, lc, nl, ls, ca⟩) HT6.out hm4 ⟨RowIn.of_own HW6.out (fun u hu => by obtain ⟨d, _, rfl⟩ := List.mem_map.1 hu; rfl), hi6.srv, hi6.loc, hi6.sz, hi6.nd, hi6.nsl, hi6.nll⟩ ⟨(fun _ e => by have := (HW6.out.lt _ e).1; omega), hf6.srv, hf6.loc⟩ HE6.out (by omega) (right_as HR.out (.inl rfl) rfl rfl) (by omega)
      refine Calls.mono hset ?_
      rintro e w7 ⟨s7, C7, rfl, hT7, hg7, hE7, l7, n7, d7, f7, ll7, ns7, ss7, nl7, ls7, ca7, hC7, hCo7, hown7⟩
      have hk7 : ([zSl, zSl, zSl, zSl] : List Sl).set m s7 = ([zSl, zSl, zSl, zSl] : List Sl).set m s7 := rfl
      have hk7 : (([zSl, zSl, zSl, zSl] : List Sl).set m s7)[m]? = some s7 := List.getElem?_set_self hm4
      have HSEP := Lib.hid (fun g (hg : s7.dv.ownBlock = some g) => (hown7.dom.lt g hg).1)
      have HT7 := Lib.hid hT7
      have HE7 := Lib.hid hE7
      have HB7 := Lib.hid (HB6.out.grown hg7 HB6.out.size (fun k e => by injection e with e; omega))
      have HO7 := Lib.hid ((hg7.block W.heap.size (heap_ltk HO6.out) (fun e => by injection e with e; omega)).trans HO6.out)
      have HW7 := Lib.hid (own_other HW6.out HT6.out.obj (by decide) hg7)
      have HL7 := Lib.hid l7
      have HN7 := Lib.hid n7
      have HD7 := Lib.hid d7
      have HCA7 := Lib.hid ca7
      have HCO7 := Lib.hid hCo7
      have HK7 := Lib.hid hk7
      have hbx6 := heap_ltk HO6.out
      have hwlt6 := Lib.hid (fun g hg => (HW6.out.lt g hg).2)
      clear hset hT7 hg7 hE7 l7 n7 d7 f7 ll7 ns7 ss7 nl7 ls7 ca7 hCo7 hown7 hk7 hi6 hf6 HO6 HT6 HE6 HB6 HW6
      go_wp2_with fail
      refine (cache_yes HT7.out HK7.out HL7.out).mono ?_
      rintro e w8 ⟨rfl, rfl⟩
      rw [HCA7.out]
      go_wp2_with fail
      refine (put0_e HCO7.out ⟨#[97]⟩ 1 1).mono ?_
      rintro e w8 ⟨A8, c8, rfl, hC8, hg8⟩
      have HT8 := Lib.hid (HT7.out.otherC HCO7.out hg8)
      have HE8 := Lib.hid (HE7.out.kept hg8 (by omega))
      have HO8 := Lib.hid ((hg8.block W.heap.size (heap_ltk HO7.out) (fun e => by injection e with e; omega)).trans HO7.out)
      have HW8 := Lib.hid (own_other HW7.out HCO7.out (by decide) hg8)
      have HB8 := Lib.hid (HB7.out.grown hg8 HB7.out.size (fun k e => by injection e with e; omega))
      have HC8 := Lib.hid hC8
      obtain ⟨row, hrow, hrg⟩ : ∃ row : Option Nat, (ds.length = 0 ∨ ∃ g, row = some g ∧ A1 = some ⟨g, 0, none⟩) ∧ ∀ g, row = some g → (w4.heap.size ≤ g ∧ g < w6.heap.size) ∧ ∃ cs : Array Value, w8.heap[g]? = some (.cells cs 9 (0, 0)) ∧ ds.length ≤ cs.size := by
        rcases row_at HW8.out with h0 | ⟨g, cs, e, hb, hg, hsz⟩
        · exact ⟨none, .inl h0, fun g e => by cases e⟩
        · exact ⟨some g, .inr ⟨g, rfl, e⟩, fun g' e' => by injection e' with e'; subst e'; exact ⟨⟨hb, hwlt6.out g (by rw [e]; rfl)⟩, cs, hg, hsz⟩⟩
      have HROW := Lib.hid hrow
      have HRG := Lib.hid hrg
      clear hrow hrg hC8 hg8 HT7 HE7 HO7 HW7 HB7 HW8 hwlt6
      obtain ⟨q0, q1, q2, q3, q4, q5, q6, qf⟩ := box7 (s := ⟨live, gen, A1, c1, ds, df, ll, sA, sc, ns, ss, lA, lc, nl, ls, ca⟩) HO8.out
      dsimp only at q0 q1 q2 q3 q4 q5 q6
      go_wp2
      clear q0 q1 q2 q3 q4 q5 q6 qf
      go_loopw [56] (fun i wr => ∃ k : Nat, k ≤ ds.length ∧ i = .int .i64 k ∧ w8.grownBy wr row ∧ ∀ g, row = some g → ∃ cs : Array Value, wr.heap[g]? = some (.cells cs 9 (0, 0)) ∧ ds.length ≤ cs.size) (fun i _ => ds.length - (intOf i).toNat)
      case atStart => exact ⟨0, Nat.zero_le _, rfl, World.grownBy.refl _ _, fun g hg => (HRG.out g hg).2⟩
      case round =>
        obtain ⟨k, hk, rfl, hg, hrs⟩ := hrel
        have hOr := (hg.block W.heap.size (heap_ltk HO8.out) (fun e => by have := (HRG.out W.heap.size e.symm).1.1; omega)).trans HO8.out
        obtain ⟨q0, q1, q2, q3, q4, q5, q6, qf⟩ := box7 (s := ⟨live, gen, A1, c1, ds, df, ll, sA, sc, ns, ss, lA, lc, nl, ls, ca⟩) hOr
        dsimp only at q0 q1 q2 q3 q4 q5 q6
        have HOr := Lib.hid hOr
        have HG := Lib.hid hg
        have HRS := Lib.hid hrs
        clear hOr hg hrs
        by_cases hlt : k < ds.length
        · rcases HROW.out with h0 | ⟨g, er, ea⟩
          · omega
          subst er ea
          obtain ⟨cs, hcs, hsz⟩ := HRS.out g rfl
          obtain ⟨u, hu⟩ : ∃ u, cs[k]? = some u := ⟨_, Array.getElem?_eq_getElem (by omega)⟩
          have hc := cell_of_row _ g k _ _ _ hcs
          rw [hu] at hc
          have hfr := frozen_of_row _ g k _ _ hcs
          have HCS := Lib.hid hcs
          have HNX := Lib.hid (grown_trans HG.out (grown_set _ g k (.string ⟨#[122, 122, 122, 46, 122, 122, 122]⟩)))
          have HNC := Lib.hid (heap_setCell_same _ g k _ _ (.string ⟨#[122, 122, 122, 46, 122, 122, 122]⟩) hcs)
          clear hcs hu
          go_wp2
          go_roundw
          case rel => exact ⟨k + 1, by omega, by simp, HNX.out, fun g' e' => by injection e' with e'; subst e'; exact ⟨_, HNC.out, by simpa using hsz⟩⟩
          case measure => simp [intOf]; omega
        · obtain rfl : k = ds.length := by omega
          have HT9 := Lib.hid (HT8.out.row HG.out (fun g e => ⟨by obtain ⟨_, cs, h1, _⟩ := HRG.out g e; exact ⟨cs, h1⟩, fun s hs => by
            rcases List.mem_or_eq_of_mem_set hs with h1 | h1
            · have : s = zSl := by simpa using h1
              subst this
              exact fun h => by cases h
            · subst h1
              exact fun h => by have := HSEP.out g h; have := (HRG.out g e).1.2; omega⟩))
          have HC9 := Lib.hid ((HG.out.block C7 (heap_ltk HC8.out) (fun e => by have := (HRG.out C7 e.symm).1.2; omega)).trans HC8.out)
          have HB9 := Lib.hid (HB8.out.grown HG.out HB8.out.size (fun g e => by have := (HRG.out g e).1.1; omega))
          have HE9 := Lib.hid (HEW.out.below HB9.out)
          have HO9 := HOr
          clear HOr HG HRS HRG HROW HT8 HE8 HO8 HB8 HC8 HSEP q0 q1 q2 q3 q4 q5 q6 qf
          have hgt := get_yes HT9.out HK7.out HL7.out
          go_wp2_with fail
          refine Calls.mono hgt ?_
          rintro e w10 ⟨dB, dc', sB, sc', lB, lc', rfl, hown, hb⟩
          have d7' : s7.ds = ds := HD7.out
          have HX2 : Hid (∀ (w : World) (X : Nat), w.heap[X]? = some (.cells (s7.at dB dc' sB sc' lB lc').lk.toArray 31 (0, 0)) → w.cell? ⟨X, 1, none⟩ = some (.int .i64 1) ∧ w.cell? ⟨X, 2, none⟩ = some (.slice dB ds.length dc')) := Lib.hid (fun w X h => by
            have b := box7 (s := s7.at dB dc' sB sc' lB lc') h
            refine ⟨?_, ?_⟩
            · have h1 := b.2.1
              simp only [Sl.at] at h1
              rw [HN7.out] at h1
              exact h1
            · have h1 := b.2.2.1
              simp only [Sl.at] at h1
              rw [d7'] at h1
              exact h1)
          have HOW : Hid (w10.ownsRow wr.heap.size 9 1 (.slice dB ds.length dc') ds.length (ds.map .string)) := Lib.hid (by
            have h := hown.dom
            simp only [Sl.dv, Sl.at] at h
            rw [d7'] at h
            exact h)
          have HB10 := Lib.hid (HB9.out.trans (hb.mono HB9.out.size))
          have HT10 := Lib.hid (HT9.out.below hb)
          have HO10 := Lib.hid ((hb.block W.heap.size (heap_ltk HO9.out)).trans HO9.out)
          have HC10 := Lib.hid ((hb.block C7 (heap_ltk HC9.out)).trans HC9.out)
          clear hgt hown hb d7' HT9 HB9 HO9 HC9 HE9
          have hzl : zSl.lk.toArray.size = 7 := rfl
          have hal : (s7.at dB dc' sB sc' lB lc').lk.toArray.size = 7 := rfl
          have HS := Lib.hid (sizeLk (s7.at dB dc' sB sc' lB lc'))
          have H1 := Lib.hid (oneLk (s7.at dB dc' sB sc' lB lc'))
          have HZL := Lib.hid zeroLink
          revert HX2 hal HS H1
          generalize (s7.at dB dc' sB sc' lB lc').lk.toArray = S3
          intro HX2 hal HS H1
          go_wp2_with (first
            | (refine wpList_alloc_z rfl 31 rfl zSl.lk.toArray HZL.out ?_; go_simp)
            | (refine wpList_store_blk rfl 31 _ _ rfl w10.heap.size _ _ _ (heap_alloc_last w10 _) rfl rfl HS.out (hzl.trans hal.symm) H1.out ?_; intro w11 hg11 hw11 hs11; clear hs11; obtain ⟨r1, r2⟩ := HX2.out w11 w10.heap.size hg11.out; go_simp))
          have hba := (Below.refl _ w10).alloc (Nat.le_refl _) (.cells zSl.lk.toArray 31)
          have hXo := heap_alloc_last w10 (.cells zSl.lk.toArray 31)
          have HD11 := Lib.hid (RowIn.of_own (own_other (own_below HOW.out hba) hXo (by decide) hw11.out) (fun u hu => by obtain ⟨d, _, rfl⟩ := List.mem_map.1 hu; rfl))
          have HT11 := Lib.hid ((HT10.out.below hba).other hXo hw11.out)
          have HO11 := Lib.hid ((hw11.out.block W.heap.size (by have := heap_ltk HO10.out; simp; omega) (fun e => by have := heap_ltk HO10.out; injection e with e; omega)).trans ((hba.block W.heap.size (heap_ltk HO10.out)).trans HO10.out))
          have HC11 := Lib.hid ((hw11.out.block C7 (by have := heap_ltk HC10.out; simp; omega) (fun e => by have := heap_ltk HC10.out; injection e with e; omega)).trans ((hba.block C7 (heap_ltk HC10.out)).trans HC10.out))
          have HB11 := Lib.hid ((HB10.out.trans (hba.mono HB10.out.size)).grown hw11.out (by have := HB10.out.size; simp; omega) (fun k e => by have := HB10.out.size; injection e with e; omega))
          have HG11 := Lib.hid hg11.out
          have hbx10 := heap_ltk HO10.out
          clear hba hXo hw11 hg11 HOW HT10 HO10 HC10 HB10 r1
          go_loopw [73] (fun i wq => ∃ k : Nat, k ≤ ds.length ∧ i = .int .i64 k ∧ Below w11.heap.size w11 wq) (fun i _ => ds.length - (intOf i).toNat)
          case atStart => exact ⟨0, Nat.zero_le _, rfl, Below.refl _ _⟩
          case round =>
            obtain ⟨k, hk', rfl, hb⟩ := hrel
            by_cases hlt' : k < ds.length
            · obtain ⟨g, o, rfl, hc⟩ := (HD11.out.below hb).txt hlt'
              have hne := zzz_list (HZ.out k hlt')
              have HB := Lib.hid hb
              clear hb
              revert hc hne
              generalize ds.getD k ByteArray.empty = x
              intro hc hne
              go_wp2
              go_roundw
              case rel => exact ⟨k + 1, by omega, by simp, HB.out⟩
              case measure => simp [intOf]; omega
            · obtain rfl : k = ds.length := by omega
              have HT12 := Lib.hid (HT11.out.below hb)
              have HO12 := Lib.hid ((hb.block W.heap.size (heap_ltk HO11.out)).trans HO11.out)
              have HC12 := Lib.hid ((hb.block C7 (heap_ltk HC11.out)).trans HC11.out)
              have HG12 := Lib.hid ((hb.block w10.heap.size (heap_ltk HG11.out)).trans HG11.out)
              have HB12 := Lib.hid (HB11.out.trans (hb.mono HB11.out.size))
              have HE12 := Lib.hid (HEW.out.below HB12.out)
              clear hb r2 HT11 HO11 HC11 HG11 HB11 HD11
              have hca := cache_yes HT12.out HK7.out HL7.out
              rw [HCA7.out] at hca
              go_wp2_with fail
              refine Calls.mono hca ?_
              rintro e w13 ⟨rfl, rfl⟩
              clear hca
              obtain ⟨p0, p1, p2, p3, p4, p5, p6, pf⟩ := box7 (s := ⟨live, gen, A1, c1, ds, df, ll, sA, sc, ns, ss, lA, lc, nl, ls, ca⟩) HO12.out
              have pf2 := free2 (s := ⟨live, gen, A1, c1, ds, df, ll, sA, sc, ns, ss, lA, lc, nl, ls, ca⟩) HO12.out
              dsimp only at p0 p1 p2 p3 p4 p5 p6
              go_wp2_with fail
              refine (len1_e HC12.out).mono ?_
              rintro e w13 ⟨rfl, rfl⟩
              go_wp2_with fail
              clear p0 p1 p2 p3 p4 p5 p6 pf pf2
              have hO13 := heap_setCell_same wr W.heap.size 2 _ _ (.slice none 0 0) HO12.out
              simp only [List.setIfInBounds_toArray, List.set_cons_succ, List.set_cons_zero] at hO13
              have hg13 := grown_set wr W.heap.size 2 (.slice none 0 0)
              have HO13 := Lib.hid hO13
              have HT13 := Lib.hid (HT12.out.other HO12.out hg13)
              have HE13 := Lib.hid (HE12.out.kept hg13 (by omega))
              have HB13 := Lib.hid (HB12.out.setCell (p := ⟨W.heap.size, 2, none⟩) (Nat.le_refl _) (.slice none 0 0))
              have HG13 := Lib.hid ((hg13.block w10.heap.size (heap_ltk HG12.out) (fun e => by injection e with e; omega)).trans HG12.out)
              clear hO13 hg13 HO12 HT12 HE12 HB12 HG12 HC12
              generalize wr.setCell ⟨W.heap.size, 2, none⟩ (.slice none 0 0) = w13 at HO13 HT13 HE13 HB13 HG13 ⊢
              have hi13 := HIN.out.below HB13.out
              have hf13 := HIN.out.far (T := T) (by omega)
              have hset := set_good (k := m) (s := ⟨live, gen, none, 0, [], df, ll, sA, sc, ns, ss, lA, lc, nl, ls, ca⟩) HT13.out hm4 ⟨RowIn.nil _ _, hi13.srv, hi13.loc, (fun d hd => by cases hd), Nat.zero_le _, hi13.nsl, hi13.nll⟩ ⟨(fun h => absurd rfl h), hf13.srv, hf13.loc⟩ HE13.out (by omega) (right_as HR.out (.inr rfl) rfl rfl) (by omega)
              refine Calls.mono hset ?_
              rintro e w14 ⟨s14, C14, rfl, hT14, hg14, hE14, l14, n14, d14, f14, ll14, ns14, ss14, nl14, ls14, ca14, hC14, hCo14, hown14⟩
              have hk14 : ((([zSl, zSl, zSl, zSl] : List Sl).set m s7).set m s14)[m]? = some s14 := List.getElem?_set_self (by simpa using hm4)
              have hXT : w10.heap.size ≠ T := fun e => HT13.out.ne HG13.out (by decide) (by rw [e])
              have HT14 := Lib.hid hT14
              have HB14 := Lib.hid (HB13.out.grown hg14 HB13.out.size (fun k e => by injection e with e; omega))
              have HG14 := Lib.hid ((hg14.block w10.heap.size (heap_ltk HG13.out) (fun e => by injection e with e; omega)).trans HG13.out)
              have HL14 := Lib.hid l14
              have HN14 := Lib.hid n14
              have HCA14 := Lib.hid ca14
              have HC14 := Lib.hid hCo14
              have HK14 := Lib.hid hk14
              clear hset hT14 hg14 hE14 l14 n14 d14 f14 ll14 ns14 ss14 nl14 ls14 ca14 hCo14 hown14 hk14 hi13 hf13 HO13 HT13 HE13 HB13 HG13 hXT
              have hgt := get_yes HT14.out HK14.out HL14.out
              go_wp2_with fail
              refine Calls.mono hgt ?_
              rintro e w15 ⟨dD, dD', sD, sD', lD, lD', rfl, hown, hb⟩
              have HY2 : Hid (∀ (w : World) (X : Nat), w.heap[X]? = some (.cells (s14.at dD dD' sD sD' lD lD').lk.toArray 31 (0, 0)) → w.cell? ⟨X, 1, none⟩ = some (.int .i64 2)) := Lib.hid (fun w X h => by
                have b := box7 (s := s14.at dD dD' sD sD' lD lD') h
                have h1 := b.2.1
                simp only [Sl.at] at h1
                rw [HN14.out] at h1
                exact h1)
              have HB15 := Lib.hid (HB14.out.trans (hb.mono HB14.out.size))
              have HT15 := Lib.hid (HT14.out.below hb)
              have HG15 := Lib.hid ((hb.block w10.heap.size (heap_ltk HG14.out)).trans HG14.out)
              have HC15 := Lib.hid ((hb.block C14 (heap_ltk HC14.out)).trans HC14.out)
              clear hgt hown hb HT14 HB14 HG14 HC14
              have hal' : (s14.at dD dD' sD sD' lD lD').lk.toArray.size = 7 := rfl
              have HS' := Lib.hid (sizeLk (s14.at dD dD' sD sD' lD lD'))
              have H1' := Lib.hid (oneLk (s14.at dD dD' sD sD' lD lD'))
              revert HY2 hal' HS' H1'
              generalize (s14.at dD dD' sD sD' lD lD').lk.toArray = S4
              intro HY2 hal' HS' H1'
              have hba := (Below.refl _ w15).alloc (Nat.le_refl _) (.cells zSl.lk.toArray 31)
              have HYO := Lib.hid (heap_alloc_last w15 (.cells zSl.lk.toArray 31))
              have HGA := Lib.hid ((hba.block w10.heap.size (heap_ltk HG15.out)).trans HG15.out)
              have HCA := Lib.hid ((hba.block C14 (heap_ltk HC15.out)).trans HC15.out)
              have HTA := Lib.hid (HT15.out.below hba)
              have HBA := Lib.hid (HB15.out.trans (hba.mono HB15.out.size))
              have hx15 := heap_ltk HG15.out
              have hc15 := heap_ltk HC15.out
              have hz15 := HB15.out.size
              clear hba HB15 HT15 HG15 HC15
              go_wp2_with (first
                | (refine wpList_alloc_z rfl 31 rfl zSl.lk.toArray HZL.out ?_; go_simp)
                | (refine wpList_store_blk rfl 31 _ _ rfl w15.heap.size _ _ _ HYO.out rfl rfl HS'.out (hzl.trans hal'.symm) H1'.out ?_; intro w16 hg16 hw16 hs16; clear hs16; have r2 := HY2.out w16 w15.heap.size hg16.out; have r1 := (HX2.out w16 w10.heap.size ((hw16.out.block w10.heap.size (heap_ltk HGA.out) (fun e => by injection e with e; omega)).trans HGA.out)).1; go_simp))
              have HT16 := Lib.hid (HTA.out.other HYO.out hw16.out)
              have HC16 := Lib.hid ((hw16.out.block C14 (heap_ltk HCA.out) (fun e => by injection e with e; omega)).trans HCA.out)
              have HB16 := Lib.hid (HBA.out.grown hw16.out (by simp; omega) (fun k e => by injection e with e; omega))
              clear hw16 hg16 HTA HCA HBA HYO HGA HX2 HY2
              have hca := cache_yes HT16.out HK14.out HL14.out
              rw [HCA14.out] at hca
              refine Calls.mono hca ?_
              rintro e w17 ⟨rfl, rfl⟩
              clear hca
              have hcl := clen_e C14 w16 (by rw [cell_of_row _ C14 1 _ _ _ HC16.out]; rfl)
              go_wp2_with fail
              refine hcl.mono ?_
              rintro e w17 ⟨rfl, rfl⟩
              clear hcl r1 r2
              have hrem := remove_yes HT16.out HK14.out HL14.out
              go_wp2_with fail
              refine Calls.mono hrem ?_
              rintro e w17 ⟨rfl, hT17, hg17⟩
              have hk17 : (((([zSl, zSl, zSl, zSl] : List Sl).set m s7).set m s14).set m zSl)[m]? = some zSl := List.getElem?_set_self (by simpa using hm4)
              have hrem2 := remove_no T m w17 (lives_in T m false w17 hm4 (hT17.slot hk17 (j := 0) (v := .bool zSl.live) rfl))
              have HB17 := Lib.hid (HB16.out.grown hg17 HB16.out.size (fun k e => by injection e with e; omega))
              clear hrem hT17 hg17 hk17 HT16 HC16 HB16
              go_wp2_with fail
              refine hrem2.mono ?_
              rintro e w18 ⟨rfl, rfl⟩
              clear hrem2
              go_wp2_with fail
              go_ret
              exact ⟨rfl, HB17.out⟩
end Go.Proofs.YtnjcbkolniemnaaGreatDoor
