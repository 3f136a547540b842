/-
  The walk of the statement OrderPlain: words alone are sources that return by success; too many are told. Condition: the library's variable MaxLen holds some number; the numbers stand in the list's cells.
-/
import Derived.Test.YtpgkopnnfhlhbaaDoorOrdInts
namespace Go.Proofs.YtpgkopnnfhlhbaaDoor
open Go.RowKit

theorem builtS0 (k : Int) : Tryd.prog.built 30 [(0, .int .i64 k)] = some #[.int .i64 k, .bool false, .bool false, .bool false, .bool false, .bool false] := by kernel_rfl
theorem new8 (w : World) : WsIn (w.alloc (.cells #[.string ⟨#[102, 105, 108, 101, 115]⟩, .string ⟨#[100, 110, 115]⟩, .string ⟨#[108, 108, 109, 110, 114]⟩] 9)) w.heap.size := WsIn.new w
/-- the sources so far, and the words -/
structure PlAt (w : World) (g : Nat) (wr : World) (v : Value) (l : List Src) : Prop where
  below : Below w.heap.size w wr
  ws : WsIn wr g
  row : wr.ownsRow w.heap.size 30 6 v l.length (svs l)
  base : g < w.heap.size
set_option maxRecDepth 100000 in
set_option maxHeartbeats 8000000 in
theorem orderPlain_walk (A : Option Addr) (n c : Nat) (ls : List Int) (w : World) (he : Env w) (hn : ls.length = n) (hls : IntsIn w A ls) : Calls Tryd.prog 5 #[.slice A n c] w fun e w' => e = .returned (.bool true) ∧ Below w.heap.size w w' := by
  have hfit := fit8_e w he
  have HE := Lib.hid he
  have HLS := Lib.hid hls
  have HN := Lib.hid hn
  clear he hls
  by_cases h10 : n ≤ 10
  rotate_left
  · have hI : (10 : Int) < (n : Int) := by omega
    clear hn
    go_enter Tryd.func5, Tryd.ntmps5
    go_wp2_with (go_at_call 9; refine hfit.mono ?_; rintro e w1 ⟨rfl, hb1⟩; have HB1 := Lib.hid hb1; clear hb1)
    go_ret
    exact ⟨rfl, HB1.out⟩
  have hI : ¬ (10 : Int) < (n : Int) := by omega
  obtain ⟨ks, hks⟩ : ∃ ks, ks = ls.map kdI := ⟨_, rfl⟩
  have hkl : ks.length = n := by rw [hks, List.length_map, hn]
  have hki : ∀ k ∈ ks, k = 1 ∨ k = 2 ∨ k = 3 := fun k hk => by
    rw [hks] at hk
    obtain ⟨x, _, rfl⟩ := List.mem_map.1 hk
    exact kdI_in x
  have HKS := Lib.hid hks
  have HKL := Lib.hid hkl
  have HKI := Lib.hid hki
  have hps := plT_size (ks := ks)
  have HP1 := Lib.hid (fun W (hW : Env W) => parse_e (tb (plT ks)) W hW (by rw [size_eq, tb_data]; omega))
  have HQ1 : Hid (parseO (tb (plT ks)).data.toList = if ks = [] then (0, dflt) else if 4 < ks.length then (2, []) else (0, ks.map fun k => (k, r0))) := Lib.hid (by rw [tb_data]; exact plT_parse hki)
  have HTs : Hid ((tb (plT ks)).size ≤ 100) := Lib.hid (by rw [size_eq, tb_data]; omega)
  have HP2 := Lib.hid (fun W (hW : Env W) => parse_e (tb (plT ks ++ 32 :: nisW)) W hW (by rw [size_eq, tb_data, List.length_append, List.length_cons]; have : nisW.length = 3 := rfl; omega))
  have HQ2 : Hid (parseO (tb (plT ks ++ 32 :: nisW)).data.toList = if 4 < ks.length then (2, []) else (6, [])) := Lib.hid (by rw [tb_data]; exact plT_nis hki)
  obtain ⟨i0, hi, hz0, hz1, hz2⟩ := info_src
  have HI := Lib.hid hi
  have HZ0 := Lib.hid hz0
  have HZ1 := Lib.hid hz1
  have HZ2 := Lib.hid hz2
  have HZS := Lib.hid zeroSrc
  have HWN := Lib.hid new8
  clear hks hkl hki hps hi hz0 hz1 hz2 hn
  go_enter Tryd.func5, Tryd.ntmps5
  go_wp2_with (go_at_call 9; refine hfit.mono ?_; rintro e w1 ⟨rfl, hb1⟩; have HB1 := Lib.hid hb1; have HW1 := Lib.hid (HWN.out w1); clear hb1)
  have HB2 : Hid (Below w.heap.size w (w1.alloc (.cells #[.string ⟨#[102, 105, 108, 101, 115]⟩, .string ⟨#[100, 110, 115]⟩, .string ⟨#[108, 108, 109, 110, 114]⟩] 9))) := Lib.hid (HB1.out.alloc HB1.out.size _)
  have HLT : Hid (w1.heap.size < (w1.alloc (.cells #[.string ⟨#[102, 105, 108, 101, 115]⟩, .string ⟨#[100, 110, 115]⟩, .string ⟨#[108, 108, 109, 110, 114]⟩] 9)).heap.size) := Lib.hid (by rw [World.size_alloc]; omega)
  revert HB2 HLT HW1
  generalize (w1.alloc (.cells #[.string ⟨#[102, 105, 108, 101, 115]⟩, .string ⟨#[100, 110, 115]⟩, .string ⟨#[108, 108, 109, 110, 114]⟩] 9)) = w2
  generalize w1.heap.size = g
  intro HW1 HB2 HLT
  have HLS2 := Lib.hid (HLS.out.below HB2.out)
  go_loopg [23, 4, 5] n (fun gk vi vs v wr => ∃ k : Nat, vi = .int .i64 k ∧ k + gk = n ∧ vs = .string (tb (plT (ks.take k))) ∧ Hid (PlAt w2 g wr v ((ks.take k).map fun k => (k, r0))))
  case atStart => exact ⟨0, rfl, by omega, rfl, Lib.hid ⟨Below.refl _ _, HW1.out, World.ownsRow_nil _ _ _ _, HLT.out⟩⟩
  case round =>
    obtain ⟨k, rfl, hkg, rfl, HP⟩ := hrel
    by_cases hkn : k < n
    · obtain ⟨g2, rfl⟩ : ∃ g2, gk = g2 + 1 := ⟨gk - 1, by omega⟩
      have hkI : (k : Int) < (n : Int) := by omega
      obtain ⟨b, o, rfl, hbl, hcl⟩ := (HLS2.out.below HP.out.below) (List.length_pos_iff.1 (by rw [HN.out]; omega))
      have hcx := hcl k (by rw [HN.out]; exact hkn)
      have hkk : ks[k]? = some (kdI (ls.getD k 0)) := by
        rw [HKS.out, List.getElem?_map, List.getD_eq_getElem?_getD, List.getElem?_eq_getElem (by rw [HN.out]; exact hkn)]; rfl
      generalize ls.getD k 0 = x at hcx hkk
      obtain ⟨i, hi3, hil⟩ := mod3 x
      have hkd : kdI x = i + 1 := by unfold kdI; rw [hi3, Int.toNat_natCast]
      rw [hkd] at hkk
      have h1 := Int.tmod_lt_of_pos x (show (0 : Int) < 3 by decide)
      have h2 := Int.lt_tmod_of_pos x (show (0 : Int) < 3 by decide)
      have hiI : (i : Int) < 3 := by omega
      have hcw := HP.out.ws.2 i hil
      have htk : ks.take (k + 1) = ks.take k ++ [i + 1] := by rw [List.take_add_one, hkk]; rfl
      obtain ⟨S, hS⟩ : ∃ S, S = tb (plT (ks.take k)) := ⟨_, rfl⟩
      have hzS : S.size ≤ 100 := by
        rw [hS, size_eq, tb_data]
        have := plT_size (ks := ks.take k)
        rw [List.length_take, HKL.out] at this
        omega
      rw [← hS]
      obtain ⟨N, hN⟩ : ∃ N, N = tb (nameK (i + 1)) := ⟨_, rfl⟩
      have hzN : N.size ≤ 5 := by rw [hN, size_eq, tb_data]; unfold nameK; split <;> decide
      rw [← hN] at hcw
      obtain ⟨T1, hT1⟩ : ∃ T1, (⟨#[32]⟩ : ByteArray) ++ N = T1 := ⟨_, rfl⟩
      have hs32 : (⟨#[32]⟩ : ByteArray).size ≤ 1 := by decide
      have hzT1 : T1.size ≤ 6 := by rw [← hT1, ByteArray.size_append]; omega
      obtain ⟨T, hT⟩ : ∃ T, S ++ T1 = T := ⟨_, rfl⟩
      have HT : Hid (T = tb (plT (ks.take (k + 1)))) := Lib.hid (bytes_inj (by
        rw [← hT, Joins.data_append, ← hT1, Joins.data_append, hS, hN, tb_data, tb_data, tb_data, htk, plT_snoc]; rfl))
      have HBu : Hid (Tryd.prog.built 30 [(0, .int .i64 ((i : Int) + 1))] = some #[.int .i64 ((i : Int) + 1), .bool false, .bool false, .bool false, .bool false, .bool false]) := Lib.hid (builtS0 _)
      obtain ⟨D0, hD0⟩ : ∃ D0, D0 = (#[.int .i64 ((i : Int) + 1), .bool false, .bool false, .bool false, .bool false, .bool false] : Array Value) := ⟨_, rfl⟩
      rw [← hD0] at HBu
      have HS0 : Hid ((Tryd.prog.info? 30).map (·.size) = some D0.size) := Lib.hid (by rw [hD0]; exact sizeSrc)
      have HZ00 : Hid (zS.size = D0.size) := Lib.hid (by rw [hD0]; rfl)
      have H10 : Hid (D0.all (·.oneCell') = true) := Lib.hid (by rw [hD0]; simp; exact ⟨rfl, rfl⟩)
      have hg0 := heap_alloc_last wr (.cells D0 30)
      have c2 : (wr.alloc (.cells D0 30)).cell? ⟨wr.heap.size, 2, none⟩ = some (.bool false) := by rw [cell_of_row _ wr.heap.size 2 _ _ (0, 0) hg0, hD0]; rfl
      have f2 := frozen_of_row (wr.alloc (.cells D0 30)) wr.heap.size 2 _ _ hg0
      have hDD : D0.setIfInBounds 2 (.bool true) = srcV (i + 1, r0) := by rw [hD0]; rfl
      have HG3 := Lib.hid (heap_alloc_last wr (.cells (srcV (i + 1, r0)) 30))
      have hbA : Below wr.heap.size wr (wr.alloc (.cells (srcV (i + 1, r0)) 30)) := (Below.refl _ wr).alloc (Nat.le_refl _) _
      have hzA : (wr.alloc (.cells (srcV (i + 1, r0)) 30)).heap.size = wr.heap.size + 1 := World.size_alloc _ _
      have hfill : Instr.fill (fun i => some (i * 6, 6)) ((Array.range (1 * 6)).map ((Value.agg zS).cells[· % (Value.agg zS).cells.size]!)) [(0, .agg (srcV (i + 1, r0)))] = some (srcV (i + 1, r0)) := by
        have := fill_at [(i + 1, r0)] 1 rfl
        rwa [svs_one] at this
      have HSZ : Hid ((Tryd.prog.info? 30).map (·.size) = some (srcV (i + 1, r0)).size) := Lib.hid sizeSrc
      have HLn : Hid ((srcV (i + 1, r0)).toList.length = 6) := Lib.hid rfl
      have HOL : Hid (∀ u ∈ (srcV (i + 1, r0)).toList, u.oneCell' = true) := Lib.hid fun u hu => by
        have h := srcV_one (i + 1, r0)
        rw [Array.all_eq_true'] at h
        exact h u (by simpa using hu)
      obtain ⟨D, hD⟩ : ∃ D, D = srcV (i + 1, r0) := ⟨_, rfl⟩
      rw [← hD] at hfill HSZ HLn HOL HG3 hDD hbA hzA
      have HDe := Lib.hid hD
      have HF := Lib.hid hfill
      have hbB := hbA.alloc (show wr.heap.size ≤ _ by rw [hzA]; omega) (.cells D 30)
      have HR7 := Lib.hid (own_step HP.out.row hbB)
      have HCL : Hid (∀ (j : Nat) (u : Value), D.toList[j]? = some u → ((wr.alloc (.cells D 30)).alloc (.cells D 30)).cell? ((⟨wr.heap.size + 1, 0, none⟩ : Addr).add j) = some u) := Lib.hid fun j u hj => by
        rw [Addr.add_lit, Nat.zero_add, ← hzA, World.cell?_alloc_mark, ← Array.getElem?_toList]; exact hj
      have HB7 := Lib.hid (HP.out.below.trans (hbB.mono HP.out.below.size))
      have HW7 := Lib.hid (HP.out.ws.below hbB)
      have HTK := Lib.hid htk
      obtain ⟨m, hm⟩ : ∃ m, m = ((ks.take k).map fun k => (k, r0)).length := ⟨_, rfl⟩
      rw [← hm] at HR7
      have hml : m ≤ 10 := by rw [hm, List.length_map, List.length_take, HKL.out]; omega
      have HM := Lib.hid hm
      clear hfill hD hbA hbB hg0 hD0 hkk hkd htk hS hN hm hbl hcl
      go_wp2_with (first
        | (refine wpList_build_z rfl 30 #[(0, .tmp 39)] rfl D0 HBu.out ?_; go_simp)
        | (refine wpList_alloc_z rfl 30 rfl zS HZS.out ?_; go_simp)
        | (refine wpList_store_new rfl 30 (.tmp 9) (.tmp 40) rfl wr.heap.size rfl zS D0 30 rfl rfl HS0.out HZ00.out H10.out ?_; go_simp)
        | (refine wpList_load_row rfl 30 (.tmp 9) rfl wr.heap.size rfl 30 D (0, 0) _ HG3.out Tryd.underlying30 rfl HSZ.out ?_; go_simp)
        | (refine wpList_buildSlice rfl 23 30 1 #[(0, .tmp 44)] rfl D i0 _ Tryd.underlying23 HI.out HZ0.out (by rw [HZ1.out]; decide) (by rw [HZ1.out]; decide) (by rw [HZ1.out]; refine (congrArg _ (?_ : _ = [(0, Value.agg D)])).trans HF.out; rw [Array.toList_map]; rfl) ?_; go_simp)
        | (at_builtin; refine wpList_append_own (w := (wr.alloc (.cells D 30)).alloc (.cells D 30)) rfl (.tmp 43) (.tmp 45) 23 rfl w2.heap.size 30 i0 _ 6 16 Tryd.underlying23 HI.out HZ0.out HZ1.out HZ2.out rfl (by decide) u5 m (svs ((ks.take k).map fun k => (k, r0))) rfl HR7.out ⟨wr.heap.size + 1, 0, none⟩ 1 1 D.toList rfl HLn.out HCL.out HOL.out (by unfold maxLen; omega) (by omega) HB7.out.size ?_; intro v1 w6 ho1 hg1 hnil; clear hnil; go_simp))
      have HP2' : Hid (PlAt w2 g w6 v1 ((ks.take (k + 1)).map fun k => (k, r0))) := Lib.hid ⟨HB7.out.grown hg1 HB7.out.size (fun k e => (HR7.out.lt k e).1),
        ⟨Nat.lt_of_lt_of_le HW7.out.1 hg1.size, fun j hj => (World.cell?_of_block (a := ⟨g, j, none⟩) (hg1.block g HW7.out.1 (fun e => by
          have := (HR7.out.lt g e.symm).1
          have := HLT.out
          omega))).trans (HW7.out.2 j hj)⟩, (by
          have e : (ks.take (k + 1)).map (fun k => ((k, r0) : Src)) = (ks.take k).map (fun k => ((k, r0) : Src)) ++ [(i + 1, r0)] := by rw [HTK.out, List.map_append]; rfl
          rw [e, List.length_append, svs_snoc, ← HDe.out, List.length_singleton, ← HM.out]; exact ho1), HLT.out⟩
      go_roundg g2
      case measure => omega
      case rel => exact ⟨k + 1, by go_num, by omega, by rw [HT.out], HP2'⟩
    · obtain rfl : k = n := by omega
      have hkI : ¬ (k : Int) < (k : Int) := by omega
      have htk : ks.take k = ks := List.take_of_length_le (by rw [HKL.out]; exact Nat.le_refl _)
      have hP := HP.out
      rw [htk] at hP ⊢
      have HPf := Lib.hid hP
      have HB3 := Lib.hid (HB2.out.trans (hP.below.mono HB2.out.size))
      obtain ⟨S, hS⟩ : ∃ S, S = tb (plT ks) := ⟨_, rfl⟩
      rw [← hS] at HP1 HQ1 HTs ⊢
      have hzS : S.size ≤ 100 := HTs.out
      have HSe := Lib.hid hS
      clear hP htk HP hS hkg
      go_wp2_with fail
      refine (HP1.out _ (HE.out.below HB3.out)).mono ?_
      rintro e w3 ⟨hb3, v3, rfl, hsl3⟩
      rw [HQ1.out] at hsl3 ⊢
      have HB4 := Lib.hid (HB3.out.trans (hb3.mono HB3.out.size))
      have HR4 := Lib.hid (own_step HPf.out.row hb3)
      clear hb3
      by_cases h4 : 4 < k
      · have hne : ks ≠ [] := fun e => by have := HKL.out; rw [e] at this; simp at this; omega
        rw [if_neg hne, if_pos (by rw [HKL.out]; exact h4)] at hsl3 ⊢
        obtain ⟨A3, c3, rfl, _⟩ := hsl3
        have h4I : (4 : Int) < (k : Int) := by omega
        go_wp2
        go_ret
        exact ⟨rfl, HB4.out⟩
      · have h4I : ¬ (4 : Int) < (k : Int) := by omega
        obtain ⟨T, hT⟩ : ∃ T, S ++ (⟨#[32, 110, 105, 115]⟩ : ByteArray) = T := ⟨_, rfl⟩
        have hs4 : (⟨#[32, 110, 105, 115]⟩ : ByteArray).size ≤ 4 := by decide
        have hTe : T = tb (plT ks ++ 32 :: nisW) := bytes_inj (by rw [← hT, Joins.data_append, HSe.out, tb_data, tb_data]; rfl)
        rw [← hTe] at HP2 HQ2
        have HQ6 : Hid (parseO T.data.toList = (6, [])) := Lib.hid (by rw [HQ2.out, if_neg (by rw [HKL.out]; exact h4)])
        have HD : Hid (∀ W, Calls Tryd.prog 13 #[] W fun e w' => ∃ b2 c2, e = .returned (.slice (some ⟨b2, 0, none⟩) 3 c2) ∧ SlS w' (.slice (some ⟨b2, 0, none⟩) 3 c2) dflt ∧ w'.cell? ⟨b2, 0, none⟩ = some (.int .i64 1) ∧ w'.cell? ⟨b2, 12, none⟩ = some (.int .i64 3) ∧ Below W.heap.size W w') := Lib.hid fun W => (default_e W).mono (by
          rintro e w' ⟨v, rfl, hv, hb⟩
          obtain ⟨b2, c2, rfl, _, hc⟩ := hv.form (by decide)
          exact ⟨b2, c2, rfl, hv, hc 0 _ rfl, hc 12 _ rfl, hb⟩)
        clear hTe HQ2
        by_cases h0 : k = 0
        · have hne : ks = [] := List.length_eq_zero_iff.1 (by rw [HKL.out]; exact h0)
          rw [if_pos hne] at hsl3 ⊢
          subst h0
          obtain ⟨b3, c3, rfl, _, _⟩ := hsl3.form (by decide)
          have e3 : (((0 : Nat), dflt).snd).length = 3 := rfl
          have e0 : (((0 : Nat), dflt).fst) = 0 := rfl
          rw [e3] at hsl3 ⊢
          rw [e0]
          have HSL := Lib.hid hsl3
          have HSA : Hid (∀ W b2 c2, SlS W (.slice (some ⟨b3, 0, none⟩) 3 c3) dflt → SlS W (.slice (some ⟨b2, 0, none⟩) 3 c2) dflt → Calls Tryd.prog 12 #[.slice (some ⟨b3, 0, none⟩) 3 c3, .slice (some ⟨b2, 0, none⟩) 3 c2] W fun e w' => e = .returned (.bool true) ∧ Below W.heap.size W w') := Lib.hid fun W b2 c2 h1 h2 => by
            have := same8_e 3 c3 3 c2 (some ⟨b3, 0, none⟩) (some ⟨b2, 0, none⟩) dflt dflt W h1 h2 rfl rfl (by omega) (by omega)
            rwa [show decide (dflt = dflt) = true from decide_eq_true rfl] at this
          clear hsl3 e3 e0
          go_wp2_with fail
          refine (HD.out _).mono ?_
          rintro e w4 ⟨b4, c4, rfl, hv4, _, _, hb4⟩
          have HV4 := Lib.hid hv4
          have HS4 := Lib.hid (HSL.out.below hb4)
          have HB5 := Lib.hid (HB4.out.trans (hb4.mono HB4.out.size))
          clear hv4 hb4
          go_wp2_with fail
          refine (HP2.out _ (HE.out.below HB5.out)).mono ?_
          rintro e w5 ⟨hb5, v5, rfl, hsl5⟩
          rw [HQ6.out] at hsl5 ⊢
          obtain ⟨A5, c5, rfl, _⟩ := hsl5
          have HV5 := Lib.hid (HV4.out.below hb5)
          have HS5 := Lib.hid (HS4.out.below hb5)
          have HB6 := Lib.hid (HB5.out.trans (hb5.mono HB5.out.size))
          clear hb5
          go_wp2_with fail
          refine (HD.out _).mono ?_
          rintro e w6 ⟨b6, c6, rfl, _, d0, d12, hb6⟩
          have hcs := HSA.out w6 b4 c4 (HS5.out.below hb6) (HV5.out.below hb6)
          have HB7 := Lib.hid (HB6.out.trans (hb6.mono HB6.out.size))
          have HSn : Hid (∀ w' : World, Below w6.heap.size w6 w' → w'.cell? ⟨b6, 0, none⟩ = some (.int .i64 1) ∧ w'.cell? ⟨b6, 12, none⟩ = some (.int .i64 3)) := Lib.hid fun w' hb => by
            have hlt : b6 < w6.heap.size := by
              rcases Nat.lt_or_ge b6 w6.heap.size with h | h
              · exact h
              · unfold World.cell? at d0; rw [Array.getElem?_eq_none h] at d0; simp at d0
            exact ⟨(hb.cell (p := ⟨b6, 0, none⟩) hlt).trans d0, (hb.cell (p := ⟨b6, 12, none⟩) hlt).trans d12⟩
          clear hb6 d0 d12
          go_wp2_with (first
            | (go_at_call 12; refine hcs.mono ?_; rintro e w8 ⟨rfl, hb8⟩; have d0 := (HSn.out w8 hb8).1; have d12 := (HSn.out w8 hb8).2; have HB8 := Lib.hid (HB7.out.trans (hb8.mono HB7.out.size)); clear hb8))
          go_ret
          exact ⟨rfl, HB8.out⟩
        · have hne : ks ≠ [] := fun e => by have := HKL.out; rw [e] at this; simp at this; omega
          rw [if_neg hne, if_neg (by rw [HKL.out]; exact h4)] at hsl3 ⊢
          have h0I : ¬ (k : Int) = 0 := by omega
          have h0B : ((k : Int) == 0) = false := by simp; omega
          obtain ⟨L, hL⟩ : ∃ L, L = ks.map (fun k => ((k, r0) : Src)) := ⟨_, rfl⟩
          have hLl : L.length = k := by rw [hL, List.length_map, HKL.out]
          have hr4 := HR4.out
          rw [← hL] at hsl3 hr4 ⊢
          rw [hLl] at hr4
          obtain ⟨b3, c3, rfl, _, _⟩ := hsl3.form (fun e => by have e2 : L = [] := e; rw [e2] at hLl; simp at hLl; omega)
          obtain ⟨A5, c5, rfl⟩ := own_sl hr4
          have e3 : (((0 : Nat), L).snd).length = k := hLl
          have e0 : (((0 : Nat), L).fst) = 0 := rfl
          rw [e3] at hsl3 ⊢
          rw [e0]
          have HSL := Lib.hid hsl3
          have HRL : Hid (SlS w3 (.slice A5 k c5) L) := Lib.hid (SlS.own (by rw [hLl]; exact hr4))
          have HSA : Hid (∀ W, SlS W (.slice (some ⟨b3, 0, none⟩) k c3) L → SlS W (.slice A5 k c5) L → Calls Tryd.prog 12 #[.slice (some ⟨b3, 0, none⟩) k c3, .slice A5 k c5] W fun e w' => e = .returned (.bool true) ∧ Below W.heap.size W w') := Lib.hid fun W h1 h2 => by
            have := same8_e k c3 k c5 (some ⟨b3, 0, none⟩) A5 L L W h1 h2 hLl hLl (by omega) (by omega)
            rwa [show decide (L = L) = true from decide_eq_true rfl] at this
          clear hsl3 hr4 e3 e0 hL hLl hne
          go_wp2_with fail
          refine (HP2.out _ (HE.out.below HB4.out)).mono ?_
          rintro e w5 ⟨hb5, v5, rfl, hsl5⟩
          rw [HQ6.out] at hsl5 ⊢
          obtain ⟨A7, c7, rfl, _⟩ := hsl5
          have HV5 := Lib.hid (HRL.out.below hb5)
          have HS5 := Lib.hid (HSL.out.below hb5)
          have HB6 := Lib.hid (HB4.out.trans (hb5.mono HB4.out.size))
          clear hb5
          go_wp2_with fail
          refine (HD.out _).mono ?_
          rintro e w6 ⟨b6, c6, rfl, _, d0, d12, hb6⟩
          have hcs := HSA.out w6 (HS5.out.below hb6) (HV5.out.below hb6)
          have HB7 := Lib.hid (HB6.out.trans (hb6.mono HB6.out.size))
          have HSn : Hid (∀ w' : World, Below w6.heap.size w6 w' → w'.cell? ⟨b6, 0, none⟩ = some (.int .i64 1) ∧ w'.cell? ⟨b6, 12, none⟩ = some (.int .i64 3)) := Lib.hid fun w' hb => by
            have hlt : b6 < w6.heap.size := by
              rcases Nat.lt_or_ge b6 w6.heap.size with h | h
              · exact h
              · unfold World.cell? at d0; rw [Array.getElem?_eq_none h] at d0; simp at d0
            exact ⟨(hb.cell (p := ⟨b6, 0, none⟩) hlt).trans d0, (hb.cell (p := ⟨b6, 12, none⟩) hlt).trans d12⟩
          clear hb6 d0 d12
          go_wp2_with (first
            | (go_at_call 12; refine hcs.mono ?_; rintro e w8 ⟨rfl, hb8⟩; have d0 := (HSn.out w8 hb8).1; have d12 := (HSn.out w8 hb8).2; have HB8 := Lib.hid (HB7.out.trans (hb8.mono HB7.out.size)); clear hb8))
          go_ret
          exact ⟨rfl, HB8.out⟩
end Go.Proofs.YtpgkopnnfhlhbaaDoor
