/-
  The walk of TransSends: what goes out is its question, with its number, to its server. Condition: the library's variable MaxLen holds some number.
-/
import Derived.Test.YtmijoidogjablaaDoorTrSend
namespace Go.Proofs.YtmijoidogjablaaDoor
open Go.RowKit

theorem trC_set (S : ByteArray) (ty lk gn : Int) (x : UInt8) (D P : Int) (st st' gr : Bool) (un : Int) : (trC S ty lk gn (ad15 x) D P st gr un).setIfInBounds 22 (.bool st') = trC S ty lk gn (ad15 x) D P st' gr un := rfl
set_option maxRecDepth 100000 in
set_option maxHeartbeats 16000000 in
theorem transSends_walk (n : Int) (group stream : Bool) (w : World) (he : Env w) : Calls Tryd.prog 6 #[.int .i64 n, .bool group, .bool stream] w fun e w' => e = .returned (.bool true) ∧ Below w.heap.size w w' := by
  have HFit := Lib.hid fit13_e
  have HE := Lib.hid he
  obtain ⟨i, t, lk, gn, D, x, hbu⟩ := bu_ex n
  have HBd := Lib.hid (fun W => bu_e hbu group W)
  have hTo := bu_ok (n := n) (group := group) (i := i) (t := t) (lk := lk) (gn := gn) (D := D) (x := x)
  have hT2 : (buC n group i t lk gn D x).setIfInBounds 22 (.bool stream) = trC (bs (plN i)) (1 + (t : Int)) lk gn (ad15 x) D (drP n : Nat) stream group 0 := trC_set _ _ _ _ _ _ _ _ _ _ _
  have HTo := Lib.hid (trC_ok (bs (plN i)) (1 + (t : Int)) lk gn (ad15 x) D (drP n : Nat) stream group 0 rfl)
  have HAg := Lib.hid (qMV_again (D := (D : Int)) (rp := false) (rc := !group) (i := i) (t := 1 + (t : Int)) (by have := hbu.hD; omega) hbu.hi (by have := hbu.ht; omega))
  have H22 : Hid ((buC n group i t lk gn D x)[22]? = some (.bool false)) := Lib.hid hTo.c22
  have SX : Hid ((Tryd.prog.info? 46).map (·.size) = some (buC n group i t lk gn D x).size) := Lib.hid (by rw [hTo.size]; exact sizeT)
  have OX := Lib.hid hTo.one
  have ZX : Hid ((trC emp 0 0 0 zero16 0 0 false false 0).size = (buC n group i t lk gn D x).size) := Lib.hid (by rw [hTo.size]; rfl)
  have ZT := Lib.hid zeroT
  have ZM := Lib.hid zeroM
  have ZS := Lib.hid zeroSe
  have hDb : (D : Int) ≤ 65535 := by have := hbu.hD; omega
  clear hTo hbu he
  obtain ⟨ty, hty⟩ : ∃ ty : Int, ty = 1 + (t : Int) := ⟨_, rfl⟩
  rw [← hty] at HTo HAg hT2
  clear hty
  have ST2 : Hid ((Tryd.prog.info? 46).map (·.size) = some (trC (bs (plN i)) ty lk gn (ad15 x) D (drP n : Nat) stream group 0).size) := Lib.hid (by rw [HTo.out.size]; exact sizeT)
  generalize buC n group i t lk gn D x = TC at HBd SX OX ZX H22 hT2
  generalize trC (bs (plN i)) ty lk gn (ad15 x) D (drP n : Nat) stream group 0 = T2 at HTo hT2 ST2
  generalize bs (plN i) = S at HTo HAg
  generalize drP n = P at HTo
  have HSd := Lib.hid (fun W hW => send_e T2 S ty lk gn (ad15 x) D P stream group HTo.out rfl HAg.out W hW)
  have HT2 := Lib.hid hT2
  clear hT2
  go_enter Tryd.func6, Tryd.ntmps6
  go_wp2_with fail
  refine (HFit.out _ HE.out).mono ?_
  rintro e w1 ⟨rfl, hb1⟩
  have HB1 := Lib.hid hb1
  clear hb1
  go_wp2_with fail
  refine (HBd.out w1).mono ?_
  rintro e wb ⟨rfl, hbb⟩
  have HB2 := Lib.hid (HB1.out.trans (hbb.mono HB1.out.size))
  clear hbb HB1
  have hG1 := heap_alloc_last wb (.cells TC 46)
  have d22 := (cell_of_row _ wb.heap.size 22 _ _ _ hG1).trans H22.out
  have hT2 := HT2.out
  have hwb := HB2.out.size
  have HG2 : Hid ((wb.alloc (.cells T2 46)).heap[wb.heap.size]? = some (.cells T2 46 (0, 0))) := Lib.hid (heap_alloc_last wb _)
  have HB3 : Hid (Below w.heap.size w (wb.alloc (.cells T2 46))) := Lib.hid (HB2.out.alloc HB2.out.size _)
  clear hG1
  go_wp2_with (first
    | (refine wpList_alloc_z rfl 46 rfl _ ZT.out ?_; go_simp)
    | (refine wpList_store_new rfl 46 (.tmp 7) (.tmp 15) rfl wb.heap.size rfl _ TC 46 rfl rfl SX.out ZX.out OX.out ?_; go_simp)
    | (refine wpList_load_row rfl 46 (.tmp 7) rfl wb.heap.size rfl 46 T2 (0, 0) _ HG2.out Tryd.underlying46 rfl ST2.out ?_; go_simp))
  refine (HSd.out _ (HE.out.below HB3.out)).mono ?_
  rintro e w3 ⟨gb, cap, rfl, hcap, hin, hb3⟩
  have HB4 := Lib.hid (HB3.out.trans (hb3.mono HB3.out.size))
  have HG4 := Lib.hid ((hb3.block _ (by simp)).trans HG2.out)
  have hl4 := heap_lt HG4.out
  have HCap := Lib.hid hcap
  have HIn := Lib.hid hin
  have HSz : Hid ((seC (lk : Int) (ad15 x) P stream (.slice (some ⟨gb, 0, none⟩) (enc (qMV D false (!group) S ty).msg).length cap)).size = 20) := Lib.hid (seC_size rfl)
  have S19 : Hid ((seC (lk : Int) (ad15 x) P stream (.slice (some ⟨gb, 0, none⟩) (enc (qMV D false (!group) S ty).msg).length cap))[19]? = some (.slice (some ⟨gb, 0, none⟩) (enc (qMV D false (!group) S ty).msg).length cap)) := Lib.hid (seC_at (x := ad15 x) rfl 2)
  have S17 : Hid ((seC (lk : Int) (ad15 x) P stream (.slice (some ⟨gb, 0, none⟩) (enc (qMV D false (!group) S ty).msg).length cap))[17]? = some (.int .i64 (P : Nat))) := Lib.hid (seC_at (x := ad15 x) rfl 0)
  have S18 : Hid ((seC (lk : Int) (ad15 x) P stream (.slice (some ⟨gb, 0, none⟩) (enc (qMV D false (!group) S ty).msg).length cap))[18]? = some (.bool stream)) := Lib.hid (seC_at (x := ad15 x) rfl 1)
  have S0 : Hid ((seC (lk : Int) (ad15 x) P stream (.slice (some ⟨gb, 0, none⟩) (enc (qMV D false (!group) S ty).msg).length cap))[0]? = some (.int .i64 (lk : Nat))) := Lib.hid rfl
  have SAd := Lib.hid (seC_ad (lk := (lk : Int)) (x := ad15 x) (P := P) (st := stream) (v := .slice (some ⟨gb, 0, none⟩) (enc (qMV D false (!group) S ty).msg).length cap))
  have SSe : Hid ((Tryd.prog.info? 52).map (·.size) = some (seC (lk : Int) (ad15 x) P stream (.slice (some ⟨gb, 0, none⟩) (enc (qMV D false (!group) S ty).msg).length cap)).size) := Lib.hid (by rw [HSz.out]; exact sizeSe)
  have OSe : Hid ((seC (lk : Int) (ad15 x) P stream (.slice (some ⟨gb, 0, none⟩) (enc (qMV D false (!group) S ty).msg).length cap)).all (·.oneCell') = true) := Lib.hid seC_one
  have ZSe : Hid ((seC 0 zero16 0 false (.slice none 0 0)).size = (seC (lk : Int) (ad15 x) P stream (.slice (some ⟨gb, 0, none⟩) (enc (qMV D false (!group) S ty).msg).length cap)).size) := Lib.hid (by rw [HSz.out]; rfl)
  have HDe := Lib.hid (fun W hb hW => decode_again (qMV D false (!group) S ty) HAg.out gb cap w3 HCap.out HIn.out W hb hW)
  clear hb3 hcap hin HB3 HG2 HB2 d22 hT2 HT2 HSd HBd HSz
  generalize seC (lk : Int) (ad15 x) P stream (.slice (some ⟨gb, 0, none⟩) (enc (qMV D false (!group) S ty).msg).length cap) = SE at S19 S17 S18 S0 SAd SSe OSe ZSe
  generalize (enc (qMV D false (!group) S ty).msg).length = LE at S19 HDe HCap
  have HB5 : Hid (Below w.heap.size w (w3.alloc (.cells SE 52))) := Lib.hid (HB4.out.alloc HB4.out.size _)
  have HS5 := Lib.hid (heap_alloc_last w3 (.cells SE 52))
  have HG5 : Hid ((w3.alloc (.cells SE 52)).heap[wb.heap.size]? = some (.cells T2 46 (0, 0))) := Lib.hid ((Below.heap_alloc _ _ _ hl4).trans HG4.out)
  have d19 := (cell_of_row _ w3.heap.size 19 _ _ _ HS5.out).trans S19.out
  have HB35 : Hid (Below w3.heap.size w3 (w3.alloc (.cells SE 52))) := Lib.hid ((Below.refl _ w3).alloc (Nat.le_refl _) _)
  go_wp2_with (first
    | (refine wpList_alloc_z rfl 52 rfl _ ZS.out ?_; go_simp)
    | (refine wpList_store_new rfl 52 (.tmp 8) (.tmp 19) rfl w3.heap.size rfl _ SE 52 rfl rfl SSe.out ZSe.out OSe.out ?_; go_simp))
  refine (HDe.out _ HB35.out (HE.out.below HB5.out)).mono ?_
  rintro e w4 ⟨hb4, ⟨h0, _⟩ | ⟨m', hm, _, _, _, rfl⟩⟩
  · cases h0
  · obtain ⟨id', rp', tr', rc', code', qn', qt', A', c', an', U', k', au'⟩ := m'
    unfold MV.nrm qMV at hm
    simp only [Option.some.injEq, MV.mk.injEq] at hm
    obtain ⟨h1, h2, h3, h4, h5, h6, h7, _, _, h8, _, _, h9⟩ := hm
    subst h1 h2 h3 h4 h5 h6 h7 h8 h9
    have HB6 : Hid (Below w.heap.size w w4) := Lib.hid (HB5.out.trans (hb4.mono HB5.out.size))
    have HS6 := Lib.hid ((hb4.block _ (heap_lt HS5.out)).trans HS5.out)
    have HG6 := Lib.hid ((hb4.block _ (heap_lt HG5.out)).trans HG5.out)
    obtain ⟨MC, hMC⟩ : ∃ MC, MC = MV.cells ⟨(D : Int), false, false, !group, 0, S, ty, A', c', [], U', k', []⟩ := ⟨_, rfl⟩
    have M0 : Hid (MC[0]? = some (.int .i64 (D : Nat))) := Lib.hid (by rw [hMC]; rfl)
    have M1 : Hid (MC[1]? = some (.bool false)) := Lib.hid (by rw [hMC]; rfl)
    have M3 : Hid (MC[3]? = some (.bool (!group))) := Lib.hid (by rw [hMC]; rfl)
    have M5 : Hid (MC[5]? = some (.string S)) := Lib.hid (by rw [hMC]; rfl)
    have M6 : Hid (MC[6]? = some (.int .i64 ty)) := Lib.hid (by rw [hMC]; rfl)
    have M7 : Hid (MC[7]? = some (.slice A' 0 c')) := Lib.hid (by rw [hMC]; rfl)
    have SM : Hid ((Tryd.prog.info? 29).map (·.size) = some MC.size) := Lib.hid (by rw [hMC]; exact sizeM9)
    have OM : Hid (MC.all (·.oneCell') = true) := Lib.hid (by rw [hMC]; exact MV.one _)
    have ZC : Hid (zMsg.size = MC.size) := Lib.hid (by rw [hMC]; rfl)
    rw [← hMC]
    clear hMC hb4 d19 HB5 HS5 HG5 HB4 HG4 HDe HIn HAg hl4
    have HS7 : Hid ((w4.alloc (.cells MC 29)).heap[w3.heap.size]? = some (.cells SE 52 (0, 0))) := Lib.hid ((Below.heap_alloc _ _ _ (heap_lt HS6.out)).trans HS6.out)
    have HG7 : Hid ((w4.alloc (.cells MC 29)).heap[wb.heap.size]? = some (.cells T2 46 (0, 0))) := Lib.hid ((Below.heap_alloc _ _ _ (heap_lt HG6.out)).trans HG6.out)
    have HM7 := Lib.hid (heap_alloc_last w4 (.cells MC 29))
    have HB7 : Hid (Below w.heap.size w (w4.alloc (.cells MC 29))) := Lib.hid (HB6.out.alloc HB6.out.size _)
    have e0 := (cell_of_row _ w4.heap.size 0 _ _ _ HM7.out).trans M0.out
    have e1 := (cell_of_row _ w4.heap.size 1 _ _ _ HM7.out).trans M1.out
    have e3 := (cell_of_row _ w4.heap.size 3 _ _ _ HM7.out).trans M3.out
    have e7 := (cell_of_row _ w4.heap.size 7 _ _ _ HM7.out).trans M7.out
    have t20 := (cell_of_row _ wb.heap.size 20 _ _ _ HG7.out).trans HTo.out.c20
    have t2 := (cell_of_row _ wb.heap.size 2 _ _ _ HG7.out).trans HTo.out.c2
    have t21 := (cell_of_row _ wb.heap.size 21 _ _ _ HG7.out).trans HTo.out.c21
    have s0 := (cell_of_row _ w3.heap.size 0 _ _ _ HS7.out).trans S0.out
    have s17 := (cell_of_row _ w3.heap.size 17 _ _ _ HS7.out).trans S17.out
    have s18 := (cell_of_row _ w3.heap.size 18 _ _ _ HS7.out).trans S18.out
    have HQM := Lib.hid (q_cells (off := 5) HM7.out M5.out M6.out)
    have HQT := Lib.hid (q_cells (off := 0) HG7.out HTo.out.c0 HTo.out.c1)
    have HAT := Lib.hid (cells_sub (sub := (bvs (ad15 x)).toArray) HG7.out HTo.out.ad)
    have HAS := Lib.hid (cells_sub (off := 1) (sub := (bvs (ad15 x)).toArray) HS7.out SAd.out)
    have HQ := Lib.hid (fun W => (eq_q S S ty ty W).trans (by simp : _ = Result.ok true W))
    have HQA := Lib.hid (fun W => (eq_addr 9998 W (x := ad15 x) (y := ad15 x) rfl rfl).trans (by simp : _ = Result.ok true W))
    have HEQ := Lib.hid eqg_q4
    have HEA := Lib.hid eqGuardAddr
    have SQ := Lib.hid sizeQ
    have SA : Hid ((Tryd.prog.info? 32).map (·.size) = some (bvs (ad15 x)).toArray.size) := Lib.hid sizeAddr
    generalize (bvs (ad15 x)).toArray = XA at HAT HAS HQA SA
    go_wp2_with (first
      | (refine wpList_alloc_z rfl 29 rfl zMsg ZM.out ?_; go_simp)
      | (refine wpList_store_new rfl 29 (.tmp 9) (.tmp 24) rfl w4.heap.size rfl zMsg MC 29 rfl rfl SM.out ZC.out OM.out ?_; go_simp)
      | (refine wpList_load_agg_gh (by kernel_rfl) 26 (.tmp 36) rfl ⟨w4.heap.size, 5, none⟩ rfl #[.string S, .int .i64 ty] _ HQM.out Tryd.underlying26 rfl SQ.out ?_; go_simp)
      | (refine wpList_load_agg_gh (by kernel_rfl) 26 (.tmp 38) rfl ⟨wb.heap.size, 0, none⟩ rfl #[.string S, .int .i64 ty] _ HQT.out Tryd.underlying26 rfl SQ.out ?_; go_simp)
      | (refine wpList_eql_agg_gh (by kernel_rfl) 26 (.tmp 37) (.tmp 39) 26 rfl #[.string S, .int .i64 ty] #[.string S, .int .i64 ty] true rfl rfl HEQ.out (HQ.out _) ?_; go_simp)
      | (refine wpList_load_agg_gh (by kernel_rfl) 32 (.tmp 61) rfl ⟨w3.heap.size, 1, none⟩ rfl XA _ HAS.out Tryd.underlying32 rfl SA.out ?_; go_simp)
      | (refine wpList_load_agg_gh (by kernel_rfl) 32 (.tmp 63) rfl ⟨wb.heap.size, 4, none⟩ rfl XA _ HAT.out Tryd.underlying32 rfl SA.out ?_; go_simp)
      | (refine wpList_eql_agg_gh (by kernel_rfl) 32 (.tmp 62) (.tmp 64) 32 rfl XA XA true rfl rfl HEA.out (HQA.out _) ?_; go_simp))
    go_ret
    exact ⟨rfl, HB7.out⟩
end Go.Proofs.YtmijoidogjablaaDoor
