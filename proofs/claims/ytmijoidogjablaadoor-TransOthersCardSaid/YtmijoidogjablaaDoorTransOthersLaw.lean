/-
  The walk of TransOthers: an answer to one question is none to another one, unless all is the same. Condition: the library's variable MaxLen holds some number.
-/
import Derived.Test.YtmijoidogjablaaDoorTrTm
namespace Go.Proofs.YtmijoidogjablaaDoor
open Go.RowKit

/-- the two questions, as they stand -/
structure ToAt (w W : World) (TS TT : Array Value) (gs : Nat) : Prop where
  s : W.heap[gs]? = some (.cells TS 46 (0, 0))
  t : W.heap[gs + 1]? = some (.cells TT 46 (0, 0))
  below : Below w.heap.size w W
theorem ToAt.to {w W W' : World} {TS TT : Array Value} {gs : Nat} (h : ToAt w W TS TT gs) (hb : Below W.heap.size W W') : ToAt w W' TS TT gs :=
  ⟨(hb.block _ (heap_lt h.s)).trans h.s, (hb.block _ (heap_lt h.t)).trans h.t, h.below.trans (hb.mono h.below.size)⟩
theorem ToAt.cs {w W : World} {TS TT : Array Value} {gs : Nat} (h : ToAt w W TS TT gs) (k : Nat) {v : Value} (hv : TS[k]? = some v) : W.cell? ⟨gs, k, none⟩ = some v := (cell_of_row W _ k _ _ _ h.s).trans hv
theorem ToAt.ct {w W : World} {TS TT : Array Value} {gs : Nat} (h : ToAt w W TS TT gs) (k : Nat) {v : Value} (hv : TT[k]? = some v) : W.cell? ⟨gs + 1, k, none⟩ = some v := (cell_of_row W _ k _ _ _ h.t).trans hv
theorem MatP.bool {w w' : World} {b : Bool} {o : Option MV} {e : Ending} (h : MatP w b o e w') : ∃ C : Array Value, e = .returned (.tuple #[.agg C, .bool b]) ∧ C.size = 9 ∧ C.all (·.oneCell') = true ∧ Below w.heap.size w w' := by
  obtain ⟨C, h1, h2, h3⟩ := h.flat
  exact ⟨C, h1, h3.size.1, h3.size.2, h2⟩
theorem others_eq {lk gn D P ty lk' gn' D' P' ty' : Int} {S S' : ByteArray} {x x' : List UInt8} {group : Bool} :
    (comB lk' gn' x' P' group lk gn x P && ansB S' ty' D' true D S ty) = ((((((D == D') && (P == P')) && ((S.toList == S'.toList) && (ty == ty'))) && (lk == lk')) && (gn == gn')) && (group || (x == x'))) := by
  unfold comB ansB
  generalize (lk == lk') = b1
  generalize (gn == gn') = b2
  generalize (P == P') = b3
  generalize (x == x') = b4
  generalize (D == D') = b5
  generalize (S.toList == S'.toList) = b6
  generalize (ty == ty') = b7
  cases b1 <;> cases b2 <;> cases b3 <;> cases b4 <;> cases b5 <;> cases b6 <;> cases b7 <;> cases group <;> rfl
set_option maxRecDepth 100000 in
set_option maxHeartbeats 16000000 in
theorem transOthers_walk (n m : Int) (group : Bool) (w : World) (he : Env w) : Calls Tryd.prog 10 #[.int .i64 n, .int .i64 m, .bool group] w fun e w' => e = .returned (.bool true) ∧ Below w.heap.size w w' := by
  have HFit := Lib.hid fit13_e
  have HE := Lib.hid he
  obtain ⟨i, t, lk, gn, D, x, hbu⟩ := bu_ex n
  obtain ⟨i', t', lk', gn', D', x', hbu'⟩ := bu_ex m
  have HBd := Lib.hid (fun W => bu_e hbu group W)
  have HBd' := Lib.hid (fun W => bu_e hbu' group W)
  have hTo := bu_ok (n := n) (group := group) (i := i) (t := t) (lk := lk) (gn := gn) (D := D) (x := x)
  have hTo' := bu_ok (n := m) (group := group) (i := i') (t := t') (lk := lk') (gn := gn') (D := D') (x := x')
  have HAg := Lib.hid (qMV_again (D := (D : Int)) (rp := true) (rc := false) (i := i) (t := 1 + (t : Int)) (by have := hbu.hD; omega) hbu.hi (by have := hbu.ht; omega))
  clear hbu hbu' he
  generalize 1 + (t : Int) = ty at hTo HAg
  generalize 1 + (t' : Int) = ty' at hTo'
  generalize ((drP n : Nat) : Int) = P at hTo
  generalize ((drP m : Nat) : Int) = P' at hTo'
  generalize (lk : Int) = LK at hTo
  generalize (gn : Int) = GN at hTo
  generalize (lk' : Int) = LK' at hTo'
  generalize (gn' : Int) = GN' at hTo'
  generalize (D : Int) = DD at hTo HAg
  generalize (D' : Int) = DD' at hTo'
  generalize buC n group i t lk gn D x = TS at HBd hTo
  generalize buC m group i' t' lk' gn' D' x' = TT at HBd' hTo'
  generalize bs (plN i) = S at hTo HAg
  generalize bs (plN i') = S' at hTo'
  have HTo := Lib.hid hTo
  have HTo' := Lib.hid hTo'
  have SS : Hid ((Tryd.prog.info? 46).map (·.size) = some TS.size) := Lib.hid (by rw [hTo.size]; exact sizeT)
  have ST : Hid ((Tryd.prog.info? 46).map (·.size) = some TT.size) := Lib.hid (by rw [hTo'.size]; exact sizeT)
  have OS := Lib.hid hTo.one
  have OT := Lib.hid hTo'.one
  have ZS : Hid ((trC emp 0 0 0 zero16 0 0 false false 0).size = TS.size) := Lib.hid (by rw [hTo.size]; rfl)
  have ZTT : Hid ((trC emp 0 0 0 zero16 0 0 false false 0).size = TT.size) := Lib.hid (by rw [hTo'.size]; rfl)
  have ZT := Lib.hid zeroT
  have ZM := Lib.hid zeroM
  have BM := Lib.hid (builtM0 DD true S ty)
  have HEg := Lib.hid (fun W hW => encode_again (qMV DD true false S ty) HAg.out W hW (qMV_lies _ _ _ _ _ W))
  clear hTo hTo'
  go_enter Tryd.func10, Tryd.ntmps10
  go_wp2_with fail
  refine (HFit.out _ HE.out).mono ?_
  rintro e w1 ⟨rfl, hb1⟩
  have HB1 := Lib.hid hb1
  clear hb1
  go_wp2_with fail
  refine (HBd.out w1).mono ?_
  rintro e wb ⟨rfl, hbb⟩
  have HB2 := Lib.hid (HB1.out.trans (hbb.mono HB1.out.size))
  clear hbb HB1
  go_wp2_with fail
  refine (HBd'.out wb).mono ?_
  rintro e wc ⟨rfl, hbc⟩
  have HB3 := Lib.hid (HB2.out.trans (hbc.mono HB2.out.size))
  clear hbc HB2
  generalize trC emp 0 0 0 zero16 0 0 false false 0 = Z at ZT ZS ZTT
  have HZ1 := Lib.hid (heap_two wc (.cells Z 46) (.cells Z 46))
  have HZ2 : Hid (((wc.alloc (.cells Z 46)).alloc (.cells Z 46)).heap[wc.heap.size + 1]? = some (.cells Z 46 (0, 0))) := Lib.hid (by
    have := heap_alloc_last (wc.alloc (.cells Z 46)) (.cells Z 46)
    rwa [World.size_alloc] at this)
  have HB4 : Hid (Below w.heap.size w ((wc.alloc (.cells Z 46)).alloc (.cells Z 46))) := Lib.hid ((HB3.out.alloc HB3.out.size _).alloc (by have := HB3.out.size; simp; omega) _)
  go_upto_region 4 with (first
    | (refine wpList_alloc_z rfl 46 rfl Z ZT.out ?_; go_simp)
    | (refine wpList_store_blk rfl 46 (.tmp 7) (.tmp 19) rfl wc.heap.size Z TS 46 HZ1.out rfl rfl SS.out ZS.out OS.out ?_; intro wd hgd hwd hzd; go_simp)
    | (refine wpList_store_blk rfl 46 (.tmp 8) (.tmp 22) rfl (wc.heap.size + 1) Z TT 46 ((hwd.out.block _ (by simp) (fun e => by injection e with e; omega)).trans HZ2.out) rfl rfl ST.out ZTT.out OT.out ?_; intro we hge hwe hze; go_simp))
  have HTA : Hid (ToAt w we TS TT wc.heap.size) := Lib.hid ⟨(hwe.out.block _ (heap_lt hgd.out) (fun e => by injection e with e; omega)).trans hgd.out, hge.out, ((HB4.out.grown hwd.out HB4.out.size (fun k e => by injection e with e; have := HB3.out.size; omega)).grown hwe.out (Nat.le_trans HB4.out.size hwd.out.size) (fun k e => by injection e with e; have := HB3.out.size; omega))⟩
  clear HZ1 HZ2 HB4 hgd hwd hzd hge hwe hze HB3
  generalize wc.heap.size = gs at HTA ⊢
  have d20 := HTA.out.cs 20 HTo.out.c20
  have HQS := Lib.hid (q_cells (off := 0) HTA.out.s HTo.out.c0 HTo.out.c1)
  have SQ := Lib.hid sizeQ
  have HMt1 := Lib.hid (fun gb cap u h1 h2 h3 W h4 => match_again TS S ty LK GN (ad15 x) DD P false group HTo.out rfl LK GN P (ad15 x) rfl (qMV DD true false S ty) HAg.out gb cap u h1 h2 h3 W h4)
  have HMt2 := Lib.hid (fun gb cap u h1 h2 h3 W h4 => match_again TT S' ty' LK' GN' (ad15 x') DD' P' false group HTo'.out rfl LK GN P (ad15 x) rfl (qMV DD true false S ty) HAg.out gb cap u h1 h2 h3 W h4)
  obtain ⟨o1, ho1⟩ : ∃ o1, o1 = (comB LK GN (ad15 x) P group LK GN (ad15 x) P && ansB S ty DD (qMV DD true false S ty).rp (qMV DD true false S ty).id (qMV DD true false S ty).qn (qMV DD true false S ty).qt) := ⟨_, rfl⟩
  obtain ⟨o2, ho2⟩ : ∃ o2, o2 = (comB LK' GN' (ad15 x') P' group LK GN (ad15 x) P && ansB S' ty' DD' (qMV DD true false S ty).rp (qMV DD true false S ty).id (qMV DD true false S ty).qn (qMV DD true false S ty).qt) := ⟨_, rfl⟩
  have H1 : Hid (o1 = true) := Lib.hid (by rw [ho1]; unfold comB ansB qMV; simp)
  have H2 : Hid (o2 = ((((((DD == DD') && (P == P')) && ((S.toList == S'.toList) && (ty == ty'))) && (LK == LK')) && (GN == GN')) && (group || (ad15 x == ad15 x')))) := Lib.hid (ho2.trans others_eq)
  rw [← ho1] at HMt1
  rw [← ho2] at HMt2
  clear ho1 ho2
  generalize hL : (enc (qMV DD true false S ty).msg).length = LE at HMt1 HMt2
  have HL := Lib.hid hL
  clear hL
  generalize hom : some (qMV DD true false S ty).nrm = om at HMt1 HMt2
  clear hom
  generalize (qMV DD true false S ty).cells = MC at BM HEg
  go_wp2_with (first
    | (refine wpList_load_agg rfl 26 (.tmp 25) rfl ⟨gs, 0, none⟩ rfl #[.string S, .int .i64 ty] _ HQS.out Tryd.underlying26 rfl SQ.out ?_; go_simp)
    | (refine wpList_build_v rfl 29 #[(0, .tmp 24), (1, .const (.bool true)), (5, .tmp 26)] rfl _ MC BM.out rfl ?_; go_simp))
  refine (HEg.out we (HE.out.below HTA.out.below)).mono ?_
  rintro e w4 ⟨gb, cap, rfl, hen⟩
  have HTB := Lib.hid (HTA.out.to hen.below)
  have HM1 := Lib.hid (HMt1.out gb cap w4 (by rw [← HL.out]; exact hen.le) hen.inB (HE.out.below HTB.out.below))
  have HM2 := Lib.hid (HMt2.out gb cap w4 (by rw [← HL.out]; exact hen.le) hen.inB (HE.out.below HTB.out.below))
  rw [HL.out]
  clear hen HMt1 HMt2 HTA d20 HQS HL HEg BM HAg
  have a2 := HTB.out.cs 2 HTo.out.c2
  have a3 := HTB.out.cs 3 HTo.out.c3
  have a21 := HTB.out.cs 21 HTo.out.c21
  have SA : Hid ((Tryd.prog.info? 32).map (·.size) = some (bvs (ad15 x)).toArray.size) := Lib.hid sizeAddr
  have SA' : Hid ((Tryd.prog.info? 32).map (·.size) = some (bvs (ad15 x')).toArray.size) := Lib.hid sizeAddr
  have HXA : Hid (∀ W, ToAt w W TS TT gs → ∀ j v, (bvs (ad15 x)).toArray.toList[j]? = some v → W.cell? ((⟨gs, 4, none⟩ : Addr).add j) = some v) := Lib.hid (fun W h => cells_sub (sub := (bvs (ad15 x)).toArray) h.s HTo.out.ad)
  have HXB : Hid (∀ W, ToAt w W TS TT gs → ∀ j v, (bvs (ad15 x')).toArray.toList[j]? = some v → W.cell? ((⟨gs + 1, 4, none⟩ : Addr).add j) = some v) := Lib.hid (fun W h => cells_sub (sub := (bvs (ad15 x')).toArray) h.t HTo'.out.ad)
  have HQA : Hid (∀ W, (Op.equalIn 10000 32 (.agg (bvs (ad15 x)).toArray) (.agg (bvs (ad15 x')).toArray)).run Tryd.prog W = .ok (ad15 x == ad15 x') W) := Lib.hid (fun W => eq_addr 9998 W rfl rfl)
  generalize (bvs (ad15 x)).toArray = XA at SA HXA HQA HM1 HM2
  generalize (bvs (ad15 x')).toArray = XB at SA' HXB HQA
  generalize (ad15 x == ad15 x') = qa at HQA H2
  go_wp2_with (first
    | (refine wpList_load_row rfl 46 (.tmp 7) rfl (gs) rfl 46 TS (0, 0) _ HTB.out.s Tryd.underlying46 rfl SS.out ?_; go_simp)
    | (refine wpList_load_agg rfl 32 (.tmp 35) rfl ⟨gs, 4, none⟩ rfl XA _ (HXA.out _ HTB.out) Tryd.underlying32 rfl SA.out ?_; go_simp))
  refine (HM1.out w4 (Below.refl _ w4)).mono ?_
  intro e w5 hmm
  obtain ⟨C1, rfl, hz1, hq1, hb5⟩ := hmm.bool
  have HTC := Lib.hid (HTB.out.to hb5)
  have HB45 := Lib.hid hb5
  have SC1 : Hid ((Tryd.prog.info? 29).map (·.size) = some C1.size) := Lib.hid (by rw [hz1]; exact sizeM9)
  have ZC1 : Hid (zMsg.size = C1.size) := Lib.hid (by rw [hz1]; rfl)
  have OC1 := Lib.hid hq1
  have HTD : Hid (ToAt w (w5.alloc (.cells C1 29)) TS TT gs) := Lib.hid (HTC.out.to ((Below.refl _ w5).alloc (Nat.le_refl _) _))
  have HB4D : Hid (Below w4.heap.size w4 (w5.alloc (.cells C1 29))) := Lib.hid (HB45.out.alloc HB45.out.size _)
  clear hmm hz1 hq1 hb5 a2 a3 a21
  have a2 := HTD.out.cs 2 HTo.out.c2
  have a3 := HTD.out.cs 3 HTo.out.c3
  have a21 := HTD.out.cs 21 HTo.out.c21
  go_wp2_with (first
    | (refine wpList_alloc_z rfl 29 rfl zMsg ZM.out ?_; go_simp)
    | (refine wpList_store_new rfl 29 (.tmp 10) (.tmp 41) rfl w5.heap.size rfl zMsg C1 29 rfl rfl SC1.out ZC1.out OC1.out ?_; go_simp)
    | (refine wpList_load_row rfl 46 (.tmp 8) rfl (gs + 1) rfl 46 TT (0, 0) _ HTD.out.t Tryd.underlying46 rfl ST.out ?_; go_simp)
    | (refine wpList_load_agg rfl 32 (.tmp 49) rfl ⟨gs, 4, none⟩ rfl XA _ (HXA.out _ HTD.out) Tryd.underlying32 rfl SA.out ?_; go_simp))
  refine (HM2.out _ HB4D.out).mono ?_
  intro e w6 hmm
  obtain ⟨C2, rfl, hz2, hq2, hb6⟩ := hmm.bool
  have HTE := Lib.hid (HTD.out.to hb6)
  have SC2 : Hid ((Tryd.prog.info? 29).map (·.size) = some C2.size) := Lib.hid (by rw [hz2]; exact sizeM9)
  have ZC2 : Hid (zMsg.size = C2.size) := Lib.hid (by rw [hz2]; rfl)
  have OC2 := Lib.hid hq2
  have HTF : Hid (ToAt w (w6.alloc (.cells C2 29)) TS TT gs) := Lib.hid (HTE.out.to ((Below.refl _ w6).alloc (Nat.le_refl _) _))
  clear hmm hz2 hq2 hb6 a2 a3 a21 HTB HTC HTD HB45 HB4D HM1 HM2
  go_upto_region 7 with (first
    | (refine wpList_alloc_z rfl 29 rfl zMsg ZM.out ?_; go_simp)
    | (refine wpList_store_new rfl 29 (.tmp 12) (.tmp 55) rfl w6.heap.size rfl zMsg C2 29 rfl rfl SC2.out ZC2.out OC2.out ?_; go_simp))
  generalize w6.alloc (.cells C2 29) = W7 at HTF ⊢
  have a20 := HTF.out.cs 20 HTo.out.c20
  have b20 := HTF.out.ct 20 HTo'.out.c20
  have a21 := HTF.out.cs 21 HTo.out.c21
  have b21 := HTF.out.ct 21 HTo'.out.c21
  have a2 := HTF.out.cs 2 HTo.out.c2
  have b2 := HTF.out.ct 2 HTo'.out.c2
  have a3 := HTF.out.cs 3 HTo.out.c3
  have b3 := HTF.out.ct 3 HTo'.out.c3
  have HQX := Lib.hid (q_cells (off := 0) HTF.out.s HTo.out.c0 HTo.out.c1)
  have HQY := Lib.hid (q_cells (off := 0) HTF.out.t HTo'.out.c0 HTo'.out.c1)
  have HQ := Lib.hid (fun W => eq_q S S' ty ty' W)
  have HEQ := Lib.hid eqg_q4
  have HEA := Lib.hid eqGuardAddr
  generalize ((S.toList == S'.toList) && (ty == ty')) = qq at HQ H2
  go_cut [14] from 57 to 99 (fun t14 wx => W7 = wx ∧ t14 = .bool o2)
  case first =>
    by_cases h1 : DD = DD'
    · have e1 : (DD == DD') = true := by simp [h1]
      have K1 := Lib.hid h1
      clear h1
      by_cases h2 : P = P'
      · have e2 : (P == P') = true := by simp [h2]
        have K2 := Lib.hid h2
        clear h2
        cases qq with
        | false =>
          go_wp2_with (first
            | (refine wpList_load_agg_gh (by kernel_rfl) 26 (.tmp 70) rfl ⟨gs, 0, none⟩ rfl #[.string S, .int .i64 ty] _ HQX.out Tryd.underlying26 rfl SQ.out ?_; go_simp)
            | (refine wpList_load_agg_gh (by kernel_rfl) 26 (.tmp 72) rfl ⟨gs + 1, 0, none⟩ rfl #[.string S', .int .i64 ty'] _ HQY.out Tryd.underlying26 rfl SQ.out ?_; go_simp)
            | (refine wpList_eql_agg_gh (by kernel_rfl) 26 (.tmp 71) (.tmp 73) 26 rfl #[.string S, .int .i64 ty] #[.string S', .int .i64 ty'] false rfl rfl HEQ.out (HQ.out _) ?_; go_simp))
          go_meet
          case rel => exact ⟨rfl, by rw [H2.out]; simp [K1.out, K2.out]⟩
        | true =>
          by_cases h4 : LK = LK'
          · have e4 : (LK == LK') = true := by simp [h4]
            have K4 := Lib.hid h4
            clear h4
            by_cases h5 : GN = GN'
            · have e5 : (GN == GN') = true := by simp [h5]
              have K5 := Lib.hid h5
              clear h5
              cases group with
              | true =>
                go_wp2_with (first
                  | (refine wpList_load_agg_gh (by kernel_rfl) 26 (.tmp 70) rfl ⟨gs, 0, none⟩ rfl #[.string S, .int .i64 ty] _ HQX.out Tryd.underlying26 rfl SQ.out ?_; go_simp)
                  | (refine wpList_load_agg_gh (by kernel_rfl) 26 (.tmp 72) rfl ⟨gs + 1, 0, none⟩ rfl #[.string S', .int .i64 ty'] _ HQY.out Tryd.underlying26 rfl SQ.out ?_; go_simp)
                  | (refine wpList_eql_agg_gh (by kernel_rfl) 26 (.tmp 71) (.tmp 73) 26 rfl #[.string S, .int .i64 ty] #[.string S', .int .i64 ty'] true rfl rfl HEQ.out (HQ.out _) ?_; go_simp))
                go_meet
                case rel => exact ⟨rfl, by rw [H2.out]; simp [K1.out, K2.out, K4.out, K5.out]⟩
              | false =>
                go_wp2_with (first
                  | (refine wpList_load_agg_gh (by kernel_rfl) 26 (.tmp 70) rfl ⟨gs, 0, none⟩ rfl #[.string S, .int .i64 ty] _ HQX.out Tryd.underlying26 rfl SQ.out ?_; go_simp)
                  | (refine wpList_load_agg_gh (by kernel_rfl) 26 (.tmp 72) rfl ⟨gs + 1, 0, none⟩ rfl #[.string S', .int .i64 ty'] _ HQY.out Tryd.underlying26 rfl SQ.out ?_; go_simp)
                  | (refine wpList_eql_agg_gh (by kernel_rfl) 26 (.tmp 71) (.tmp 73) 26 rfl #[.string S, .int .i64 ty] #[.string S', .int .i64 ty'] true rfl rfl HEQ.out (HQ.out _) ?_; go_simp)
                  | (refine wpList_load_agg_gh (by kernel_rfl) 32 (.tmp 93) rfl ⟨gs, 4, none⟩ rfl XA _ (HXA.out _ HTF.out) Tryd.underlying32 rfl SA.out ?_; go_simp)
                  | (refine wpList_load_agg_gh (by kernel_rfl) 32 (.tmp 95) rfl ⟨gs + 1, 4, none⟩ rfl XB _ (HXB.out _ HTF.out) Tryd.underlying32 rfl SA'.out ?_; go_simp)
                  | (refine wpList_eql_agg_gh (by kernel_rfl) 32 (.tmp 94) (.tmp 96) 32 rfl XA XB qa rfl rfl HEA.out (HQA.out _) ?_; go_simp))
                go_meet
                case rel => exact ⟨rfl, by rw [H2.out]; simp [K1.out, K2.out, K4.out, K5.out]⟩
            · have e5 : (GN == GN') = false := by simp [h5]
              have K5 := Lib.hid h5
              clear h5
              go_wp2_with (first
                | (refine wpList_load_agg_gh (by kernel_rfl) 26 (.tmp 70) rfl ⟨gs, 0, none⟩ rfl #[.string S, .int .i64 ty] _ HQX.out Tryd.underlying26 rfl SQ.out ?_; go_simp)
                | (refine wpList_load_agg_gh (by kernel_rfl) 26 (.tmp 72) rfl ⟨gs + 1, 0, none⟩ rfl #[.string S', .int .i64 ty'] _ HQY.out Tryd.underlying26 rfl SQ.out ?_; go_simp)
                | (refine wpList_eql_agg_gh (by kernel_rfl) 26 (.tmp 71) (.tmp 73) 26 rfl #[.string S, .int .i64 ty] #[.string S', .int .i64 ty'] true rfl rfl HEQ.out (HQ.out _) ?_; go_simp))
              go_meet
              case rel => exact ⟨rfl, by rw [H2.out]; simp [K1.out, K2.out, K4.out, K5.out]⟩
          · have e4 : (LK == LK') = false := by simp [h4]
            have K4 := Lib.hid h4
            clear h4
            go_wp2_with (first
              | (refine wpList_load_agg_gh (by kernel_rfl) 26 (.tmp 70) rfl ⟨gs, 0, none⟩ rfl #[.string S, .int .i64 ty] _ HQX.out Tryd.underlying26 rfl SQ.out ?_; go_simp)
              | (refine wpList_load_agg_gh (by kernel_rfl) 26 (.tmp 72) rfl ⟨gs + 1, 0, none⟩ rfl #[.string S', .int .i64 ty'] _ HQY.out Tryd.underlying26 rfl SQ.out ?_; go_simp)
              | (refine wpList_eql_agg_gh (by kernel_rfl) 26 (.tmp 71) (.tmp 73) 26 rfl #[.string S, .int .i64 ty] #[.string S', .int .i64 ty'] true rfl rfl HEQ.out (HQ.out _) ?_; go_simp))
            go_meet
            case rel => exact ⟨rfl, by rw [H2.out]; simp [K1.out, K2.out, K4.out]⟩
      · have e2 : (P == P') = false := by simp [h2]
        have K2 := Lib.hid h2
        clear h2
        go_wp2_with fail
        go_meet
        case rel => exact ⟨rfl, by rw [H2.out]; simp [K1.out, K2.out]⟩
    · have e1 : (DD == DD') = false := by simp [h1]
      have K1 := Lib.hid h1
      clear h1
      go_wp2_with fail
      go_meet
      case rel => exact ⟨rfl, by rw [H2.out]; simp [K1.out]⟩
  case rest =>
  obtain ⟨rfl, rfl⟩ := hcut
  have hh := H1.out
  subst hh
  have HBw := Lib.hid HTF.out.below
  clear a20 b20 a21 b21 a2 b2 a3 b3
  go_wp2_with fail
  go_ret
  exact ⟨rfl, HBw.out⟩
end Go.Proofs.YtmijoidogjablaaDoor
