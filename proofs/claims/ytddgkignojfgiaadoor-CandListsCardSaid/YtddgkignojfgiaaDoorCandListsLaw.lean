/-
  The walk of CandLists. Conditions: the texts have lengths that may be, and the library's variable MaxLen holds some number.
-/
import Derived.Test.YtddgkignojfgiaaDoorCandSeen
namespace Go.Proofs.YtddgkignojfgiaaDoor
open Go.RowKit

theorem last_yes {s : ByteArray} (h : 0 < s.size) (he : s.data.toList.getLast? = some 46) : (((s[s.size - 1]'(by omega)).toNat : Int) == 46) = true := (last_point h).2 he
theorem last_no {s : ByteArray} (h : 0 < s.size) (he : ¬ s.data.toList.getLast? = some 46) : (((s[s.size - 1]'(by omega)).toNat : Int) == 46) = false := by
  rw [Bool.eq_false_iff]; exact fun e => he ((last_point h).1 e)
theorem allL_size {dots : Int} {ds : List ByteArray} {t x : ByteArray} (ht : t.size ≤ 253) (hd : ∀ d ∈ ds, d.size ≤ 253) (hx : x ∈ allL dots ds t) : x.size ≤ 1000000 := by
  unfold allL fstL at hx
  rcases List.mem_append.1 hx with hx | hx
  · rcases List.mem_append.1 hx with hx | hx
    · split at hx
      · rw [List.mem_singleton.1 hx]; omega
      · cases hx
    · obtain ⟨d, hm, rfl⟩ := List.mem_map.1 hx
      have := hd d hm
      rw [dotB_size]; omega
  · rw [List.mem_singleton.1 hx]; omega
theorem fold_step {AL : List ByteArray} {k : Nat} (hk : k < AL.length) : (AL.take (k + 1)).foldl addL [] = addL ((AL.take k).foldl addL []) (AL.getD k ByteArray.empty) := by
  rw [List.take_succ_eq_append_getElem hk, List.foldl_append, List.getD, List.getElem?_eq_getElem hk]; rfl
set_option maxRecDepth 100000 in
set_option maxHeartbeats 8000000 in
theorem candLists_walk (dots : Int) (A : Option Addr) (n c : Nat) (ls : List ByteArray) (s : ByteArray) (W : World) (he : Env W) (hn : ls.length = n) (hT : Txts W A ls) (hnc : n ≤ c) (htot : n ≤ 20 → tot ls ≤ 9223372036854775807) (hs : s.size ≤ 140737488351232) :
    Calls Tryd.prog 3 #[.int .i64 dots, .slice A n c, .string s] W fun e w' => e = .returned (.bool true) ∧ Below W.heap.size W w' := by
  subst hn
  have hF := fit12_e W he
  have HTX := Lib.hid hT
  clear he hT
  by_cases hn10 : ls.length ≤ 12
  · by_cases hs6 : s.size ≤ 600
    · have hts := htot (by omega)
      clear htot
      go_enter Tryd.func3, Tryd.ntmps3
      go_wp2_with fail
      refine hF.mono ?_; rintro e w1 ⟨rfl, hb1, hE1⟩
      have HB1 := Lib.hid hb1
      have HE1 := Lib.hid hE1
      clear hb1 hE1 hF
      go_wp2_with fail
      go_loopw [36] (fun i wr => ∃ k : Nat, k ≤ ls.length ∧ i = .int .i64 k ∧ Hid (Below W.heap.size W wr ∧ Env wr ∧ ∀ d ∈ ls.take k, TA d.data.toList 0 d.data.toList)) (fun i _ => ls.length - (intOf i).toNat)
      case atStart => exact ⟨0, Nat.zero_le _, rfl, Lib.hid ⟨HB1.out, HE1.out, fun d hd => by simp at hd⟩⟩
      case round =>
        obtain ⟨k, hk, rfl, hinv⟩ := hrel
        by_cases hlt : k < ls.length
        · obtain ⟨g, o, rfl, hgl, hcell⟩ := (HTX.out.below hinv.out.1) (by omega)
          have c0 := hcell k hlt
          have hdz : (ls.getD k ByteArray.empty).size ≤ 9223372036854775807 := Nat.le_trans (tot_mem (getD_in hlt)) hts
          have HN : Hid (TA (ls.getD k ByteArray.empty).data.toList 0 (ls.getD k ByteArray.empty).data.toList → ∀ d ∈ ls.take (k + 1), TA d.data.toList 0 d.data.toList) := Lib.hid (take_in hlt hinv.out.2.2)
          clear hcell
          revert c0 hdz HN
          generalize ls.getD k ByteArray.empty = d
          intro c0 hdz HN
          go_wp2_with fail
          refine (ta_c d wr hinv.out.2.1 (by omega)).mono ?_; rintro e w2 ⟨m, t, rfl, hb2, hE2, hta⟩
          have HB2 := Lib.hid (hinv.out.1.trans (hb2.mono hinv.out.1.size))
          have HE2 := Lib.hid hE2
          clear hb2 hE2 c0
          by_cases hm : m = 0
          · subst hm
            by_cases htd : t = d
            · subst htd
              have HN2 := Lib.hid (HN.out hta.out)
              clear hta
              go_wp2_with fail
              go_roundw
              case rel => exact ⟨k + 1, by omega, by go_num, Lib.hid ⟨HB2.out, HE2.out, HN2.out⟩⟩
              case measure => simp [intOf]; omega
            · have hne := bytes_dif htd
              clear hta htd
              go_wp2_with fail
              go_ret
              exact ⟨rfl, HB2.out⟩
          · have hm' : ¬ ((m : Int) = 0) := by omega
            clear hta hm
            go_wp2_with fail
            go_ret
            exact ⟨rfl, HB2.out⟩
        · obtain rfl : k = ls.length := by omega
          rw [List.take_length] at hinv
          clear hts hlt hk
          have HZ : Hid (∀ d ∈ ls, d.size ≤ 253) := Lib.hid (fun d hd => by rw [Lib.size_eq]; exact (hinv.out.2.2 d hd).right.2.1)
          have HBr := Lib.hid hinv.out.1
          have HEr := Lib.hid hinv.out.2.1
          clear hinv
          go_wp2_with fail
          have hb0 := ((Below.refl _ wr).alloc (Nat.le_refl _) (.cells #[.slice none 0 0, .slice A ls.length c, .int .i64 dots, .int .i64 0, .int .i64 0] 29))
          have C := list_e (.slice none 0 0) A c ls dots 0 0 s _ (HEr.out.below hb0) ((HTX.out.below HBr.out).below hb0) (by omega) (fun d hd => by have := HZ.out d hd; omega) (by omega)
          have HB0 := Lib.hid (HBr.out.trans (hb0.mono HBr.out.size))
          clear hb0
          refine C.mono ?_; rintro e w2 ⟨m, t, v, rfl, hta, hr, hb, hE⟩
          have HB2 := Lib.hid (HB0.out.trans (hb.mono HB0.out.size))
          have HE2 := Lib.hid hE
          have HR2 := Lib.hid hr
          clear C hb hE hr HB0 HBr HEr
          have hr2 := ta_c s w2 HE2.out (by omega)
          go_wp2_with fail
          refine hr2.mono ?_; rintro e w3 ⟨m2, t2, rfl, hb3, hE3, hta2⟩
          obtain ⟨e1, e2⟩ := hta2.out.det hta.out
          subst e1
          obtain rfl := bytes_inj e2
          have HB3 := Lib.hid (HB2.out.trans (hb3.mono HB2.out.size))
          have HT3 := Lib.hid (HTX.out.below HB3.out)
          have HR3 := Lib.hid (ownT_below HR2.out hb3)
          clear hr2 hb3 hE3 e2 hta2 HB2 HE2 HR2
          by_cases hm : m2 = 0
          · subst hm
            have hspos : 0 < s.size := by
              rw [Lib.size_eq]; exact List.length_pos_iff.2 hta.out.nonempty
            have ht253 : t2.size ≤ 253 := by rw [Lib.size_eq]; exact hta.out.right.2.1
            by_cases hend : s.data.toList.getLast? = some 46
            · have hq := last_yes hspos hend
              have HL : Hid (resL 0 dots ls s t2 = [t2]) := Lib.hid (by unfold resL; rw [if_neg (by simp), if_pos hend])
              have hr := HR3.out
              rw [HL.out] at hr
              obtain ⟨g2, c2, rfl, hc2, hg2, _, hcell2⟩ := ownT_full hr (by simp)
              have m0 := hcell2 0 (by simp)
              rw [List.getD_cons_zero] at m0
              rw [show [t2].length = 1 from rfl] at hc2 ⊢
              clear hend hr hcell2 hta HR3
              go_wp2_with fail
              go_ret
              exact ⟨rfl, HB3.out⟩
            · have hq := last_no hspos hend
              have HL : Hid (resL 0 dots ls s t2 = candL dots ls t2) := Lib.hid (by unfold resL; rw [if_neg (by simp), if_neg hend])
              have hr := HR3.out
              rw [HL.out] at hr
              have HR4 := Lib.hid hr
              clear hend hr HR3 HL
              revert ht253 hta HR4
              generalize t2 = t
              intro hta ht253 HR4
              obtain ⟨g2, c2, rfl, hc2, hg2, _, hcell2⟩ := ownT_full HR4.out (candL_pos ht253)
              have HCG := Lib.hid hcell2
              clear hcell2 HR4
              have hDt := dots_c t w3
              obtain ⟨cn, hcn⟩ : ∃ cn : Nat, cn = t.data.toList.count 46 := ⟨_, rfl⟩
              have HFB := Lib.hid (show fstB dots t = decide (dots ≤ (cn : Int)) by rw [hcn]; rfl)
              rw [← hcn] at hDt
              have hcb : cn ≤ 1000 := by rw [hcn]; exact Nat.le_trans List.count_le_length (by rw [← Lib.size_eq]; omega)
              clear hcn hta
              obtain ⟨LN, hLN⟩ : ∃ LN, LN = (candL dots ls t).length := ⟨_, rfl⟩
              rw [← hLN] at hc2 ⊢
              have HLN := Lib.hid hLN
              have hLN13 : LN ≤ 13 := by rw [hLN]; have := candL_len dots ls t; omega
              have hLN1 : 1 ≤ LN := by rw [hLN]; exact candL_pos ht253
              clear hLN
              by_cases hyes : dots ≤ (cn : Int)
              · have HF0 : Hid ([t] = fstL dots t) := Lib.hid (by unfold fstL; rw [HFB.out, decide_eq_true hyes]; rfl)
                clear HFB
                go_wp2_with (first
                  | (go_at_call 11; refine hDt.mono ?_; rintro e w' ⟨rfl, hw⟩; obtain rfl := hw.symm)
                  | (refine wpList_append_s rfl (.tmp 102) (.tmp 104) rfl w3.heap.size 0 _ [] t rfl (World.ownsRow_nil _ _ _ _) (by omega) (by rw [World.size_alloc]; omega) ⟨w3.heap.size, 0, none⟩ 1 rfl (by rw [Addr.add_lit, Nat.zero_add, World.cell?_alloc_mark]; rfl) ?_
                     intro v4 w4 ho4 hg4
                     have HR4 : Hid (OwnT w3.heap.size v4 [t] w4) := Lib.hid ho4
                     have HB4 : Hid (Below w3.heap.size w3 w4) := Lib.hid (((Below.refl w3.heap.size w3).alloc (Nat.le_refl _) _).grown hg4 (by rw [World.size_alloc]; omega) (fun k e => by cases e))
                     clear ho4 hg4; go_simp))
                have hF01 : [t].length ≤ 1 := by simp
                revert HF0 HR4 hF01
                generalize [t] = F0
                intro HF0 HR4 hF01
                go_wp2_with fail
                go_loopw [16, 108] (fun z0 i wr => ∃ (k : Nat) (z : Value), k ≤ ls.length ∧ i = .int .i64 k ∧ z = z0 ∧ Hid (OwnT w3.heap.size z (F0 ++ (ls.take k).map (dotB t)) wr ∧ Below w3.heap.size w3 wr)) (fun _ i _ => ls.length - (intOf i).toNat)
                case atStart => exact ⟨0, _, Nat.zero_le _, rfl, rfl, Lib.hid ⟨by rw [List.take_zero, List.map_nil, List.append_nil]; exact HR4.out, HB4.out⟩⟩
                case round =>
                  obtain ⟨k, z, hk, rfl, rfl, hinv⟩ := hrel
                  have hszr := hinv.out.2.size
                  have HBR := Lib.hid hinv.out.2
                  have hlen : (F0 ++ (ls.take k).map (dotB t)).length ≤ 20 := by
                    rw [List.length_append, List.length_map, List.length_take]; omega
                  have HRW := Lib.hid hinv.out.1
                  clear hinv
                  by_cases hlt : k < ls.length
                  · obtain ⟨gd, od, rfl, hgl, hcell⟩ := (HT3.out.below HBR.out) (by omega)
                    have c0 := hcell k hlt
                    have hdz : (ls.getD k ByteArray.empty).size ≤ 253 := HZ.out _ (getD_in hlt)
                    have HF : Hid (F0 ++ (ls.take (k + 1)).map (dotB t) = (F0 ++ (ls.take k).map (dotB t)) ++ [dotB t (ls.getD k ByteArray.empty)]) := Lib.hid (by
                      rw [List.take_succ_eq_append_getElem hlt, List.map_append, List.append_assoc, List.getD, List.getElem?_eq_getElem hlt]; rfl)
                    clear hcell
                    revert c0 hdz HF
                    generalize ls.getD k ByteArray.empty = d
                    intro c0 hdz HF
                    obtain ⟨FN, hFN⟩ : ∃ FN, FN = F0 ++ (ls.take (k + 1)).map (dotB t) := ⟨_, rfl⟩
                    rw [← hFN] at HF
                    have HFN := Lib.hid hFN
                    clear hFN
                    revert HF HRW hlen
                    generalize F0 ++ (ls.take k).map (dotB t) = FK
                    intro hlen HRW HF
                    go_wp2_with (first
                      | (refine wpList_append_s rfl (.tmp 112) (.tmp 117) rfl w3.heap.size FK.length _ FK (dotB t d) rfl (ownT_below HRW.out ((Below.refl _ _).alloc (Nat.le_refl _) _)) (by omega) (by rw [World.size_alloc]; omega) ⟨wr.heap.size, 0, none⟩ 1 rfl (by rw [Addr.add_lit, Nat.zero_add, World.cell?_alloc_mark]; rfl) ?_
                         intro v5 w5 ho5 hg5
                         have HN : Hid (OwnT w3.heap.size v5 FN w5 ∧ Below w3.heap.size w3 w5) := Lib.hid ⟨by rw [HF.out, OwnT, List.length_append]; exact ho5, HBR.out.trans (((Below.refl w3.heap.size wr).alloc hszr _).grown hg5 (by rw [World.size_alloc]; omega) (fun k e => (HRW.out.lt k e).1))⟩
                         clear ho5 hg5; go_simp))
                    go_roundw
                    case rel => exact ⟨k + 1, _, by omega, by go_num, rfl, Lib.hid (by rw [← HFN.out]; exact HN.out)⟩
                    case measure => simp [intOf]; omega
                  · obtain rfl : k = ls.length := by omega
                    rw [List.take_length] at HRW hlen
                    have HFA : Hid ((F0 ++ ls.map (dotB t)) ++ [t] = allL dots ls t) := Lib.hid (by rw [HF0.out]; rfl)
                    revert HFA HRW hlen
                    generalize F0 ++ ls.map (dotB t) = FK
                    intro hlen HRW HFA
                    clear hlt
                    obtain ⟨AN, hAN⟩ : ∃ AN, AN = (allL dots ls t).length := ⟨_, rfl⟩
                    have HANE := Lib.hid hAN
                    have hAN1 : AN = FK.length + 1 := by rw [hAN, ← HFA.out, List.length_append]; rfl
                    have HAS : Hid (∀ x ∈ allL dots ls t, x.size ≤ 1000000) := Lib.hid (fun x hx => allL_size ht253 HZ.out hx)
                    clear hAN
                    have hmm := @run_makeMap Tryd.prog
                    go_wp2_with (first
                      | (refine wpList_append_s rfl (.tmp 120) (.tmp 122) rfl w3.heap.size FK.length _ FK t rfl (ownT_below HRW.out ((Below.refl _ _).alloc (Nat.le_refl _) _)) (by omega) (by rw [World.size_alloc]; omega) ⟨wr.heap.size, 0, none⟩ 1 rfl (by rw [Addr.add_lit, Nat.zero_add, World.cell?_alloc_mark]; rfl) ?_
                         intro v5 w5 ho5 hg5
                         obtain ⟨gA, cA, rfl, hcA, hgA, _, hcellA⟩ := ownT_full (b := w3.heap.size) (v := v5) (w := w5) (l := FK ++ [t]) (by rw [OwnT, List.length_append]; exact ho5) (by rw [List.length_append, List.length_singleton]; omega)
                         have hB5 := HBR.out.trans (((Below.refl w3.heap.size wr).alloc hszr (.cells #[.string t] 9)).grown hg5 (by rw [World.size_alloc]; omega) (fun k e => (HRW.out.lt k e).1))
                         rw [HFA.out, ← HANE.out] at hcA hcellA
                         rw [show (FK ++ [t]).length = AN by rw [HFA.out, ← HANE.out]]
                         have HCA := Lib.hid hcellA
                         have HB5 := Lib.hid hB5
                         have hsz5 := hB5.size
                         clear ho5 hg5 hcellA hB5; go_simp))
                    have HB6 := Lib.hid ((Below.refl w5.heap.size w5).alloc (Nat.le_refl _) (.map #[] 0))
                    have HS6 := Lib.hid (seen_made w5)
                    have hsz6 : w5.heap.size + 1 ≤ (w5.alloc (.map #[] 0)).heap.size := by rw [World.size_alloc]; omega
                    clear hmm
                    generalize w5.alloc (.map #[] 0) = w6 at HB6 HS6 hsz6 ⊢
                    go_loopw [17, 127] (fun z0 i wq => ∃ (k : Nat) (z : Value), k ≤ AN ∧ i = .int .i64 k ∧ z = z0 ∧ Hid (OwnT (w5.heap.size + 1) z (((allL dots ls t).take k).foldl addL []) wq ∧ SeenAt wq w5.heap.size (((allL dots ls t).take k).foldl addL []).length (((allL dots ls t).take k).foldl addL []) ∧ Below w5.heap.size w5 wq)) (fun _ i _ => AN - (intOf i).toNat)
                    case atStart => exact ⟨0, _, Nat.zero_le _, rfl, rfl, Lib.hid ⟨World.ownsRow_nil _ _ _ _, HS6.out, HB6.out⟩⟩
                    case round =>
                      obtain ⟨k, z, hk, rfl, rfl, hinv⟩ := hrel
                      have hkl : (((allL dots ls t).take k).foldl addL []).length ≤ 100 := by
                        have := fold_len ((allL dots ls t).take k) []
                        rw [List.length_take, List.length_nil] at this; omega
                      have hlt5 := hinv.out.2.1.lt
                      have HO := Lib.hid hinv.out.1
                      have HSE := Lib.hid hinv.out.2.1
                      have HBQ := Lib.hid hinv.out.2.2
                      clear hinv
                      by_cases hlt : k < AN
                      · have c0 := (HBQ.out.cell (p := ⟨gA, k, none⟩) hgA).trans (HCA.out k hlt)
                        have hxs : ((allL dots ls t).getD k ByteArray.empty).size ≤ 1000000 := HAS.out _ (getD_in (by rw [← HANE.out]; exact hlt))
                        have HF : Hid (((allL dots ls t).take (k + 1)).foldl addL [] = addL (((allL dots ls t).take k).foldl addL []) ((allL dots ls t).getD k ByteArray.empty)) := Lib.hid (fold_step (by rw [← HANE.out]; exact hlt))
                        obtain ⟨LN2, hLN2⟩ : ∃ LN2, LN2 = ((allL dots ls t).take (k + 1)).foldl addL [] := ⟨_, rfl⟩
                        rw [← hLN2] at HF
                        have HLN2 := Lib.hid hLN2
                        clear hLN2
                        revert c0 hxs HF HO HSE hkl
                        generalize (allL dots ls t).getD k ByteArray.empty = x
                        generalize ((allL dots ls t).take k).foldl addL [] = LK
                        intro hkl HO HSE c0 hxs HF
                        have hlook := HSE.out.look hxs
                        obtain ⟨bm, hbm⟩ : ∃ bm, bm = memB LK x := ⟨_, rfl⟩
                        rw [← hbm] at hlook
                        have HBM := Lib.hid hbm
                        clear hbm
                        cases bm
                        · by_cases hbig : x.size ≤ 253
                          · have HL2 : Hid (LN2 = LK ++ [x]) := Lib.hid (by rw [HF.out]; exact addL_in (fun h => h.elim (fun h => by omega) (fun h => by rw [memB_iff.2 h] at HBM; cases HBM.out)))
                            clear HF HBM
                            go_wp2_with (first
                              | (refine wpList_seen rfl (.tmp 140) (.tmp 141) rfl w5.heap.size LK.length LK x rfl rfl hxs (by omega) HSE.out ?_
                                 intro w7 hs7 hg7
                                 have HO7 : Hid (OwnT (w5.heap.size + 1) z LK w7) := Lib.hid (World.ownsRow.kept HO.out hg7 (.inr (fun e => by have := (HO.out.lt _ e).1; omega)))
                                 have HS7 := Lib.hid hs7
                                 have HB7 := Lib.hid (HBQ.out.grown hg7 (by omega) (fun k e => by injection e with e; omega))
                                 have hsz7 := hg7.size
                                 clear hs7 hg7; go_simp)
                              | (refine wpList_append_s rfl (.tmp 142) (.tmp 144) rfl (w5.heap.size + 1) LK.length _ LK x rfl (ownT_below HO7.out ((Below.refl _ _).alloc (Nat.le_refl _) _)) (by omega) (by rw [World.size_alloc]; omega) ⟨w7.heap.size, 0, none⟩ 1 rfl (by rw [Addr.add_lit, Nat.zero_add, World.cell?_alloc_mark]; rfl) ?_
                                 intro v8 w8 ho8 hg8
                                 have hga : (w7.alloc (.cells #[.string x] 9)).heap.size = w7.heap.size + 1 := World.size_alloc _ _
                                 have HN : Hid (OwnT (w5.heap.size + 1) v8 LN2 w8 ∧ SeenAt w8 w5.heap.size LN2.length LN2 ∧ Below w5.heap.size w5 w8) := Lib.hid ⟨by rw [HL2.out, OwnT, List.length_append]; exact ho8,
                                   by rw [HL2.out, List.length_append]; exact (HS7.out.kept (World.grownBy_alloc w7 (.cells #[.string x] 9) none) (by simp)).kept hg8 (fun e => by have := (HO7.out.lt _ e.symm).1; omega),
                                   (HB7.out.alloc (by omega) _).grown hg8 (by omega) (fun k e => by have := (HO7.out.lt k e).1; omega)⟩
                                 clear ho8 hg8; go_simp))
                            go_roundw
                            case rel => exact ⟨k + 1, _, by omega, by go_num, rfl, Lib.hid (by rw [← HLN2.out]; exact HN.out)⟩
                            case measure => simp [intOf]; omega
                          · have HN : Hid (OwnT (w5.heap.size + 1) z LN2 wr ∧ SeenAt wr w5.heap.size LN2.length LN2 ∧ Below w5.heap.size w5 wr) := Lib.hid (by
                              rw [HF.out, addL_out (.inl (by omega))]; exact ⟨HO.out, HSE.out, HBQ.out⟩)
                            have hbig' : 253 < x.size := by omega
                            clear HF HBM hbig
                            go_wp2_with fail
                            go_roundw
                            case rel => exact ⟨k + 1, _, by omega, by go_num, rfl, Lib.hid (by rw [← HLN2.out]; exact HN.out)⟩
                            case measure => simp [intOf]; omega
                        · have HN : Hid (OwnT (w5.heap.size + 1) z LN2 wr ∧ SeenAt wr w5.heap.size LN2.length LN2 ∧ Below w5.heap.size w5 wr) := Lib.hid (by
                            rw [HF.out, addL_out (.inr (memB_iff.1 HBM.out.symm))]; exact ⟨HO.out, HSE.out, HBQ.out⟩)
                          clear HF HBM
                          go_wp2_with fail
                          go_roundw
                          case rel => exact ⟨k + 1, _, by omega, by go_num, rfl, Lib.hid (by rw [← HLN2.out]; exact HN.out)⟩
                          case measure => simp [intOf]; omega
                      · obtain rfl : k = AN := by omega
                        have hrow := HO.out
                        rw [show ((allL dots ls t).take k).foldl addL [] = candL dots ls t by rw [HANE.out, List.take_length]; rfl] at hrow
                        obtain ⟨gW, cW, rfl, hcW, hgW, _, hcellW⟩ := ownT_full hrow (by rw [← HLN.out]; omega)
                        rw [← HLN.out] at hcW hcellW ⊢
                        have HCW := Lib.hid hcellW
                        have HBB := Lib.hid (HB5.out.trans (HBQ.out.mono hsz5))
                        have hg2r : g2 < wr.heap.size := Nat.lt_of_lt_of_le hg2 HBB.out.size
                        clear hcellW hrow HO HSE HBQ hkl hlt
                        go_wp2_with fail
                        go_loopw [154] (fun i wq => ∃ k : Nat, k ≤ LN ∧ i = .int .i64 k ∧ Hid (Below wr.heap.size wr wq)) (fun i _ => LN - (intOf i).toNat)
                        case atStart => exact ⟨0, Nat.zero_le _, rfl, Lib.hid (Below.refl _ _)⟩
                        case round =>
                          obtain ⟨k2, hk2, rfl, hbq⟩ := hrel
                          by_cases hlt2 : k2 < LN
                          · have c0 := (hbq.out.cell (p := ⟨g2, k2, none⟩) hg2r).trans ((HBB.out.cell (p := ⟨g2, k2, none⟩) hg2).trans (HCG.out k2 (by rw [← HLN.out]; exact hlt2)))
                            have c1 := (hbq.out.cell (p := ⟨gW, k2, none⟩) hgW).trans (HCW.out k2 hlt2)
                            revert c0 c1
                            generalize (candL dots ls t).getD k2 ByteArray.empty = x
                            intro c0 c1
                            go_wp2_with fail
                            go_quiet (fail)
                            go_wp2_with fail
                            go_roundw
                            case rel => exact ⟨k2 + 1, by omega, by go_num, Lib.hid (below_drewN hbq.out _)⟩
                            case measure => simp [intOf]; omega
                          · obtain rfl : k2 = LN := by omega
                            have HBF := Lib.hid (HB3.out.trans ((HBB.out.trans (hbq.out.mono HBB.out.size)).mono HB3.out.size))
                            go_wp2_with fail
                            go_ret
                            exact ⟨rfl, HBF.out⟩
              · have HF0 : Hid ([] = fstL dots t) := Lib.hid (by unfold fstL; rw [HFB.out, decide_eq_false hyes]; rfl)
                have hno : (cn : Int) < dots := by omega
                have HR4 : Hid (OwnT w3.heap.size (.slice none 0 0) [] w3) := Lib.hid (World.ownsRow_nil _ _ _ _)
                have HB4 : Hid (Below w3.heap.size w3 w3) := Lib.hid (Below.refl _ _)
                have hF01 : ([] : List ByteArray).length ≤ 1 := by simp
                clear HFB hyes
                revert HF0 HR4 hF01
                generalize ([] : List ByteArray) = F0
                intro HF0 HR4 hF01
                go_wp2_with (go_at_call 11; refine hDt.mono ?_; rintro e w' ⟨rfl, hw⟩; obtain rfl := hw.symm)
                go_wp2_with fail
                go_loopw [16, 108] (fun z0 i wr => ∃ (k : Nat) (z : Value), k ≤ ls.length ∧ i = .int .i64 k ∧ z = z0 ∧ Hid (OwnT w3.heap.size z (F0 ++ (ls.take k).map (dotB t)) wr ∧ Below w3.heap.size w3 wr)) (fun _ i _ => ls.length - (intOf i).toNat)
                case atStart => exact ⟨0, _, Nat.zero_le _, rfl, rfl, Lib.hid ⟨by rw [List.take_zero, List.map_nil, List.append_nil]; exact HR4.out, HB4.out⟩⟩
                case round =>
                  obtain ⟨k, z, hk, rfl, rfl, hinv⟩ := hrel
                  have hszr := hinv.out.2.size
                  have HBR := Lib.hid hinv.out.2
                  have hlen : (F0 ++ (ls.take k).map (dotB t)).length ≤ 20 := by
                    rw [List.length_append, List.length_map, List.length_take]; omega
                  have HRW := Lib.hid hinv.out.1
                  clear hinv
                  by_cases hlt : k < ls.length
                  · obtain ⟨gd, od, rfl, hgl, hcell⟩ := (HT3.out.below HBR.out) (by omega)
                    have c0 := hcell k hlt
                    have hdz : (ls.getD k ByteArray.empty).size ≤ 253 := HZ.out _ (getD_in hlt)
                    have HF : Hid (F0 ++ (ls.take (k + 1)).map (dotB t) = (F0 ++ (ls.take k).map (dotB t)) ++ [dotB t (ls.getD k ByteArray.empty)]) := Lib.hid (by
                      rw [List.take_succ_eq_append_getElem hlt, List.map_append, List.append_assoc, List.getD, List.getElem?_eq_getElem hlt]; rfl)
                    clear hcell
                    revert c0 hdz HF
                    generalize ls.getD k ByteArray.empty = d
                    intro c0 hdz HF
                    obtain ⟨FN, hFN⟩ : ∃ FN, FN = F0 ++ (ls.take (k + 1)).map (dotB t) := ⟨_, rfl⟩
                    rw [← hFN] at HF
                    have HFN := Lib.hid hFN
                    clear hFN
                    revert HF HRW hlen
                    generalize F0 ++ (ls.take k).map (dotB t) = FK
                    intro hlen HRW HF
                    go_wp2_with (first
                      | (refine wpList_append_s rfl (.tmp 112) (.tmp 117) rfl w3.heap.size FK.length _ FK (dotB t d) rfl (ownT_below HRW.out ((Below.refl _ _).alloc (Nat.le_refl _) _)) (by omega) (by rw [World.size_alloc]; omega) ⟨wr.heap.size, 0, none⟩ 1 rfl (by rw [Addr.add_lit, Nat.zero_add, World.cell?_alloc_mark]; rfl) ?_
                         intro v5 w5 ho5 hg5
                         have HN : Hid (OwnT w3.heap.size v5 FN w5 ∧ Below w3.heap.size w3 w5) := Lib.hid ⟨by rw [HF.out, OwnT, List.length_append]; exact ho5, HBR.out.trans (((Below.refl w3.heap.size wr).alloc hszr _).grown hg5 (by rw [World.size_alloc]; omega) (fun k e => (HRW.out.lt k e).1))⟩
                         clear ho5 hg5; go_simp))
                    go_roundw
                    case rel => exact ⟨k + 1, _, by omega, by go_num, rfl, Lib.hid (by rw [← HFN.out]; exact HN.out)⟩
                    case measure => simp [intOf]; omega
                  · obtain rfl : k = ls.length := by omega
                    rw [List.take_length] at HRW hlen
                    have HFA : Hid ((F0 ++ ls.map (dotB t)) ++ [t] = allL dots ls t) := Lib.hid (by rw [HF0.out]; rfl)
                    revert HFA HRW hlen
                    generalize F0 ++ ls.map (dotB t) = FK
                    intro hlen HRW HFA
                    clear hlt
                    obtain ⟨AN, hAN⟩ : ∃ AN, AN = (allL dots ls t).length := ⟨_, rfl⟩
                    have HANE := Lib.hid hAN
                    have hAN1 : AN = FK.length + 1 := by rw [hAN, ← HFA.out, List.length_append]; rfl
                    have HAS : Hid (∀ x ∈ allL dots ls t, x.size ≤ 1000000) := Lib.hid (fun x hx => allL_size ht253 HZ.out hx)
                    clear hAN
                    have hmm := @run_makeMap Tryd.prog
                    go_wp2_with (first
                      | (refine wpList_append_s rfl (.tmp 120) (.tmp 122) rfl w3.heap.size FK.length _ FK t rfl (ownT_below HRW.out ((Below.refl _ _).alloc (Nat.le_refl _) _)) (by omega) (by rw [World.size_alloc]; omega) ⟨wr.heap.size, 0, none⟩ 1 rfl (by rw [Addr.add_lit, Nat.zero_add, World.cell?_alloc_mark]; rfl) ?_
                         intro v5 w5 ho5 hg5
                         obtain ⟨gA, cA, rfl, hcA, hgA, _, hcellA⟩ := ownT_full (b := w3.heap.size) (v := v5) (w := w5) (l := FK ++ [t]) (by rw [OwnT, List.length_append]; exact ho5) (by rw [List.length_append, List.length_singleton]; omega)
                         have hB5 := HBR.out.trans (((Below.refl w3.heap.size wr).alloc hszr (.cells #[.string t] 9)).grown hg5 (by rw [World.size_alloc]; omega) (fun k e => (HRW.out.lt k e).1))
                         rw [HFA.out, ← HANE.out] at hcA hcellA
                         rw [show (FK ++ [t]).length = AN by rw [HFA.out, ← HANE.out]]
                         have HCA := Lib.hid hcellA
                         have HB5 := Lib.hid hB5
                         have hsz5 := hB5.size
                         clear ho5 hg5 hcellA hB5; go_simp))
                    have HB6 := Lib.hid ((Below.refl w5.heap.size w5).alloc (Nat.le_refl _) (.map #[] 0))
                    have HS6 := Lib.hid (seen_made w5)
                    have hsz6 : w5.heap.size + 1 ≤ (w5.alloc (.map #[] 0)).heap.size := by rw [World.size_alloc]; omega
                    clear hmm
                    generalize w5.alloc (.map #[] 0) = w6 at HB6 HS6 hsz6 ⊢
                    go_loopw [17, 127] (fun z0 i wq => ∃ (k : Nat) (z : Value), k ≤ AN ∧ i = .int .i64 k ∧ z = z0 ∧ Hid (OwnT (w5.heap.size + 1) z (((allL dots ls t).take k).foldl addL []) wq ∧ SeenAt wq w5.heap.size (((allL dots ls t).take k).foldl addL []).length (((allL dots ls t).take k).foldl addL []) ∧ Below w5.heap.size w5 wq)) (fun _ i _ => AN - (intOf i).toNat)
                    case atStart => exact ⟨0, _, Nat.zero_le _, rfl, rfl, Lib.hid ⟨World.ownsRow_nil _ _ _ _, HS6.out, HB6.out⟩⟩
                    case round =>
                      obtain ⟨k, z, hk, rfl, rfl, hinv⟩ := hrel
                      have hkl : (((allL dots ls t).take k).foldl addL []).length ≤ 100 := by
                        have := fold_len ((allL dots ls t).take k) []
                        rw [List.length_take, List.length_nil] at this; omega
                      have hlt5 := hinv.out.2.1.lt
                      have HO := Lib.hid hinv.out.1
                      have HSE := Lib.hid hinv.out.2.1
                      have HBQ := Lib.hid hinv.out.2.2
                      clear hinv
                      by_cases hlt : k < AN
                      · have c0 := (HBQ.out.cell (p := ⟨gA, k, none⟩) hgA).trans (HCA.out k hlt)
                        have hxs : ((allL dots ls t).getD k ByteArray.empty).size ≤ 1000000 := HAS.out _ (getD_in (by rw [← HANE.out]; exact hlt))
                        have HF : Hid (((allL dots ls t).take (k + 1)).foldl addL [] = addL (((allL dots ls t).take k).foldl addL []) ((allL dots ls t).getD k ByteArray.empty)) := Lib.hid (fold_step (by rw [← HANE.out]; exact hlt))
                        obtain ⟨LN2, hLN2⟩ : ∃ LN2, LN2 = ((allL dots ls t).take (k + 1)).foldl addL [] := ⟨_, rfl⟩
                        rw [← hLN2] at HF
                        have HLN2 := Lib.hid hLN2
                        clear hLN2
                        revert c0 hxs HF HO HSE hkl
                        generalize (allL dots ls t).getD k ByteArray.empty = x
                        generalize ((allL dots ls t).take k).foldl addL [] = LK
                        intro hkl HO HSE c0 hxs HF
                        have hlook := HSE.out.look hxs
                        obtain ⟨bm, hbm⟩ : ∃ bm, bm = memB LK x := ⟨_, rfl⟩
                        rw [← hbm] at hlook
                        have HBM := Lib.hid hbm
                        clear hbm
                        cases bm
                        · by_cases hbig : x.size ≤ 253
                          · have HL2 : Hid (LN2 = LK ++ [x]) := Lib.hid (by rw [HF.out]; exact addL_in (fun h => h.elim (fun h => by omega) (fun h => by rw [memB_iff.2 h] at HBM; cases HBM.out)))
                            clear HF HBM
                            go_wp2_with (first
                              | (refine wpList_seen rfl (.tmp 140) (.tmp 141) rfl w5.heap.size LK.length LK x rfl rfl hxs (by omega) HSE.out ?_
                                 intro w7 hs7 hg7
                                 have HO7 : Hid (OwnT (w5.heap.size + 1) z LK w7) := Lib.hid (World.ownsRow.kept HO.out hg7 (.inr (fun e => by have := (HO.out.lt _ e).1; omega)))
                                 have HS7 := Lib.hid hs7
                                 have HB7 := Lib.hid (HBQ.out.grown hg7 (by omega) (fun k e => by injection e with e; omega))
                                 have hsz7 := hg7.size
                                 clear hs7 hg7; go_simp)
                              | (refine wpList_append_s rfl (.tmp 142) (.tmp 144) rfl (w5.heap.size + 1) LK.length _ LK x rfl (ownT_below HO7.out ((Below.refl _ _).alloc (Nat.le_refl _) _)) (by omega) (by rw [World.size_alloc]; omega) ⟨w7.heap.size, 0, none⟩ 1 rfl (by rw [Addr.add_lit, Nat.zero_add, World.cell?_alloc_mark]; rfl) ?_
                                 intro v8 w8 ho8 hg8
                                 have hga : (w7.alloc (.cells #[.string x] 9)).heap.size = w7.heap.size + 1 := World.size_alloc _ _
                                 have HN : Hid (OwnT (w5.heap.size + 1) v8 LN2 w8 ∧ SeenAt w8 w5.heap.size LN2.length LN2 ∧ Below w5.heap.size w5 w8) := Lib.hid ⟨by rw [HL2.out, OwnT, List.length_append]; exact ho8,
                                   by rw [HL2.out, List.length_append]; exact (HS7.out.kept (World.grownBy_alloc w7 (.cells #[.string x] 9) none) (by simp)).kept hg8 (fun e => by have := (HO7.out.lt _ e.symm).1; omega),
                                   (HB7.out.alloc (by omega) _).grown hg8 (by omega) (fun k e => by have := (HO7.out.lt k e).1; omega)⟩
                                 clear ho8 hg8; go_simp))
                            go_roundw
                            case rel => exact ⟨k + 1, _, by omega, by go_num, rfl, Lib.hid (by rw [← HLN2.out]; exact HN.out)⟩
                            case measure => simp [intOf]; omega
                          · have HN : Hid (OwnT (w5.heap.size + 1) z LN2 wr ∧ SeenAt wr w5.heap.size LN2.length LN2 ∧ Below w5.heap.size w5 wr) := Lib.hid (by
                              rw [HF.out, addL_out (.inl (by omega))]; exact ⟨HO.out, HSE.out, HBQ.out⟩)
                            have hbig' : 253 < x.size := by omega
                            clear HF HBM hbig
                            go_wp2_with fail
                            go_roundw
                            case rel => exact ⟨k + 1, _, by omega, by go_num, rfl, Lib.hid (by rw [← HLN2.out]; exact HN.out)⟩
                            case measure => simp [intOf]; omega
                        · have HN : Hid (OwnT (w5.heap.size + 1) z LN2 wr ∧ SeenAt wr w5.heap.size LN2.length LN2 ∧ Below w5.heap.size w5 wr) := Lib.hid (by
                            rw [HF.out, addL_out (.inr (memB_iff.1 HBM.out.symm))]; exact ⟨HO.out, HSE.out, HBQ.out⟩)
                          clear HF HBM
                          go_wp2_with fail
                          go_roundw
                          case rel => exact ⟨k + 1, _, by omega, by go_num, rfl, Lib.hid (by rw [← HLN2.out]; exact HN.out)⟩
                          case measure => simp [intOf]; omega
                      · obtain rfl : k = AN := by omega
                        have hrow := HO.out
                        rw [show ((allL dots ls t).take k).foldl addL [] = candL dots ls t by rw [HANE.out, List.take_length]; rfl] at hrow
                        obtain ⟨gW, cW, rfl, hcW, hgW, _, hcellW⟩ := ownT_full hrow (by rw [← HLN.out]; omega)
                        rw [← HLN.out] at hcW hcellW ⊢
                        have HCW := Lib.hid hcellW
                        have HBB := Lib.hid (HB5.out.trans (HBQ.out.mono hsz5))
                        have hg2r : g2 < wr.heap.size := Nat.lt_of_lt_of_le hg2 HBB.out.size
                        clear hcellW hrow HO HSE HBQ hkl hlt
                        go_wp2_with fail
                        go_loopw [154] (fun i wq => ∃ k : Nat, k ≤ LN ∧ i = .int .i64 k ∧ Hid (Below wr.heap.size wr wq)) (fun i _ => LN - (intOf i).toNat)
                        case atStart => exact ⟨0, Nat.zero_le _, rfl, Lib.hid (Below.refl _ _)⟩
                        case round =>
                          obtain ⟨k2, hk2, rfl, hbq⟩ := hrel
                          by_cases hlt2 : k2 < LN
                          · have c0 := (hbq.out.cell (p := ⟨g2, k2, none⟩) hg2r).trans ((HBB.out.cell (p := ⟨g2, k2, none⟩) hg2).trans (HCG.out k2 (by rw [← HLN.out]; exact hlt2)))
                            have c1 := (hbq.out.cell (p := ⟨gW, k2, none⟩) hgW).trans (HCW.out k2 hlt2)
                            revert c0 c1
                            generalize (candL dots ls t).getD k2 ByteArray.empty = x
                            intro c0 c1
                            go_wp2_with fail
                            go_quiet (fail)
                            go_wp2_with fail
                            go_roundw
                            case rel => exact ⟨k2 + 1, by omega, by go_num, Lib.hid (below_drewN hbq.out _)⟩
                            case measure => simp [intOf]; omega
                          · obtain rfl : k2 = LN := by omega
                            have HBF := Lib.hid (HB3.out.trans ((HBB.out.trans (hbq.out.mono HBB.out.size)).mono HB3.out.size))
                            go_wp2_with fail
                            go_ret
                            exact ⟨rfl, HBF.out⟩
          · have hm' : ¬ ((m2 : Int) = 0) := by omega
            have HL : Hid (resL m2 dots ls s t2 = []) := Lib.hid (resL_err hm)
            have hr := HR3.out
            rw [HL.out] at hr
            obtain ⟨A2, c2, rfl⟩ := ownT_fm hr
            rw [show ([] : List ByteArray).length = 0 from rfl]
            clear hta hm hr HR3
            go_wp2_with fail
            go_ret
            exact ⟨rfl, HB3.out⟩
    · have hs6' : 600 < s.size := by omega
      clear htot hs6
      go_enter Tryd.func3, Tryd.ntmps3
      go_wp2_with fail
      refine hF.mono ?_; rintro e w1 ⟨rfl, hb1, hE1⟩
      go_wp2_with fail
      go_ret
      exact ⟨rfl, hb1⟩
  · have hn10' : 12 < ls.length := by omega
    clear htot hn10
    go_enter Tryd.func3, Tryd.ntmps3
    go_wp2_with fail
    refine hF.mono ?_; rintro e w1 ⟨rfl, hb1, hE1⟩
    go_wp2_with fail
    go_ret
    exact ⟨rfl, hb1⟩
end Go.Proofs.YtddgkignojfgiaaDoor
