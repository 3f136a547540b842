/-
  The walk of TransJunk: bytes that are no message answer nothing. Conditions: the library's variable MaxLen holds some number; the bytes lie in memory.
-/
import Derived.Test.YtmijoidogjablaaDoorTrTm
namespace Go.Proofs.YtmijoidogjablaaDoor
open Go.RowKit

section
variable {P : Program} {ops : Array Oper} {rest : List Oper} {o : Oper} {a : Act} {Q : Exit → Act → World → Prop}
theorem wpList_neq_agg_gh {w : World} (hw : Region.wanted o (yielded ops a.tmps) = true) (t : TypeId) (x y : Operand) (s : TypeId) (ho : o.op = .binOp .neq t x y s) (xs ys : Array Value) (b : Bool) (hx : a.eval x = .agg xs) (hy : a.eval y = .agg ys)
    (hm : P.eqGuardType P.depth t = false) (hr : (Op.equalIn 10000 t (.agg xs) (.agg ys)).run P w = .ok b w)
    (h : wpList P ops Q rest (a.put o.dst (.bool (!b))) w) : wpList P ops Q (o :: rest) a w := by
  unfold wpList
  rw [if_pos hw]
  left
  have h1 := run_eqGuard_agg (P := P) w .neq t x y xs ys hm
  have h2 := run_neq_struct (P := P) w t xs ys
  rw [hr] at h2
  unfold Oper.wp execOp
  simp only [ho, hx, hy, Sem.run_bind, h1, h2, Result.andThen_ok]
  exact h
end
/-- the question, and what it is matched with, as they stand -/
structure TjAt (w W : World) (T C : Array Value) (gt gx : Nat) : Prop where
  t : W.heap[gt]? = some (.cells T 46 (0, 0))
  x : W.heap[gx]? = some (.cells C 29 (0, 0))
  below : Below w.heap.size w W
theorem TjAt.to {w W W' : World} {T C : Array Value} {gt gx : Nat} (h : TjAt w W T C gt gx) (hb : Below W.heap.size W W') : TjAt w W' T C gt gx :=
  ⟨(hb.block _ (heap_lt h.t)).trans h.t, (hb.block _ (heap_lt h.x)).trans h.x, h.below.trans (hb.mono h.below.size)⟩
theorem comB_self (lk gn P : Int) (x : List UInt8) (gr : Bool) : comB lk gn x P gr lk gn x P = true := by unfold comB; simp
set_option maxRecDepth 100000 in
set_option maxHeartbeats 16000000 in
theorem transJunk_walk (n : Int) (A : Option Addr) (c : Nat) (ls : List UInt8) (w : World) (he : Env w) (hin : InB w w.heap.size A ls) (hc : ls.length ≤ c) (hn : A = none → c = 0 ∧ ls = []) :
    Calls Tryd.prog 8 #[.int .i64 n, .slice A ls.length c] w fun e w' => e = .returned (.bool true) ∧ Below w.heap.size w w' := by
  have HFit := Lib.hid fit13_e
  have HE := Lib.hid he
  have HIn := Lib.hid hin
  have HCc := Lib.hid hc
  have HNn := Lib.hid hn
  obtain ⟨i, t, lk, gn, D, x, hbu⟩ := bu_ex n
  have HBd := Lib.hid (fun W => bu_e hbu false W)
  have hTo := bu_ok (n := n) (group := false) (i := i) (t := t) (lk := lk) (gn := gn) (D := D) (x := x)
  clear hbu he hin hc hn
  generalize 1 + (t : Int) = ty at hTo
  generalize ((drP n : Nat) : Int) = P at hTo
  generalize (lk : Int) = LK at hTo
  generalize (gn : Int) = GN at hTo
  generalize (D : Int) = DD at hTo
  generalize buC n false i t lk gn D x = T at HBd hTo
  generalize bs (plN i) = S at hTo
  have HTo := Lib.hid hTo
  have ST : Hid ((Tryd.prog.info? 46).map (·.size) = some T.size) := Lib.hid (by rw [hTo.size]; exact sizeT)
  have OT := Lib.hid hTo.one
  have ZTT : Hid ((trC emp 0 0 0 zero16 0 0 false false 0).size = T.size) := Lib.hid (by rw [hTo.size]; rfl)
  have ZT := Lib.hid zeroT
  have ZM := Lib.hid zeroM
  clear hTo
  go_enter Tryd.func8, Tryd.ntmps8
  go_wp2_with fail
  refine (HFit.out _ HE.out).mono ?_
  rintro e w1 ⟨rfl, hb1⟩
  have HB1 := Lib.hid hb1
  clear hb1
  by_cases h20 : (2000 : Int) < (ls.length : Int)
  · go_wp2_with fail
    go_ret
    exact ⟨rfl, HB1.out⟩
  · have hlen : ls.length ≤ 2000 := by omega
    obtain ⟨o, ho⟩ := decode_anyN ls (by omega)
    have HDec : Hid (∀ W, Below w.heap.size w W → Calls Tryd.prog 14 #[.slice A ls.length c] W (DecN o W)) := Lib.hid (fun W hb => ho A c W (HE.out.below hb) (HIn.out.to hb) HCc.out (fun h => (HNn.out h).1))
    have HMat := Lib.hid (fun W (hb : Below w.heap.size w W) => match_e T S ty LK GN (ad15 x) DD P false false HTo.out rfl LK GN P (ad15 x) rfl A ls.length c o W (fun W' hb' => HDec.out W' (hb.trans (hb'.mono hb.size))))
    rw [comB_self] at HMat
    clear ho HIn HCc HNn hlen
    go_wp2_with fail
    refine (HBd.out w1).mono ?_
    rintro e wb ⟨rfl, hbb⟩
    have HB2 := Lib.hid (HB1.out.trans (hbb.mono HB1.out.size))
    clear hbb HB1
    generalize trC emp 0 0 0 zero16 0 0 false false 0 = Z at ZT ZTT
    have HG1 := Lib.hid (heap_alloc_last wb (.cells T 46))
    have HB3 : Hid (Below w.heap.size w (wb.alloc (.cells T 46))) := Lib.hid (HB2.out.alloc HB2.out.size _)
    have hwb := HB2.out.size
    have a2 := (cell_of_row _ _ 2 _ _ _ HG1.out).trans HTo.out.c2
    have a3 := (cell_of_row _ _ 3 _ _ _ HG1.out).trans HTo.out.c3
    have a21 := (cell_of_row _ _ 21 _ _ _ HG1.out).trans HTo.out.c21
    have SA : Hid ((Tryd.prog.info? 32).map (·.size) = some (bvs (ad15 x)).toArray.size) := Lib.hid sizeAddr
    have HXA := Lib.hid (cells_sub (sub := (bvs (ad15 x)).toArray) HG1.out HTo.out.ad)
    generalize (bvs (ad15 x)).toArray = XA at SA HXA HMat
    go_wp2_with (first
      | (refine wpList_alloc_z rfl 46 rfl Z ZT.out ?_; go_simp)
      | (refine wpList_store_new rfl 46 (.tmp 5) (.tmp 16) rfl wb.heap.size rfl Z T 46 rfl rfl ST.out ZTT.out OT.out ?_; go_simp)
      | (refine wpList_load_row rfl 46 (.tmp 5) rfl wb.heap.size rfl 46 T (0, 0) _ HG1.out Tryd.underlying46 rfl ST.out ?_; go_simp)
      | (refine wpList_load_agg rfl 32 (.tmp 23) rfl ⟨wb.heap.size, 4, none⟩ rfl XA _ HXA.out Tryd.underlying32 rfl SA.out ?_; go_simp))
    refine (HMat.out _ HB3.out).mono ?_
    intro e w5 hmm
    obtain ⟨C, rfl, hb5, hmr⟩ := hmm.flat
    have HT5 := Lib.hid ((hb5.block _ (heap_lt HG1.out)).trans HG1.out)
    have HB5 := Lib.hid (HB3.out.trans (hb5.mono HB3.out.size))
    have SC : Hid ((Tryd.prog.info? 29).map (·.size) = some C.size) := Lib.hid (by rw [hmr.size.1]; exact sizeM9)
    have ZC : Hid (zMsg.size = C.size) := Lib.hid (by rw [hmr.size.1]; rfl)
    have OC := Lib.hid hmr.size.2
    have HTJ : Hid (TjAt w (w5.alloc (.cells C 29)) T C wb.heap.size w5.heap.size) := Lib.hid ⟨(Below.heap_alloc _ _ _ (heap_lt HT5.out)).trans HT5.out, heap_alloc_last w5 _, HB5.out.alloc HB5.out.size _⟩
    have HMr := Lib.hid (hmr.to ((Below.refl _ w5).alloc (Nat.le_refl _) (.cells C 29)))
    clear hmm hb5 hmr a2 a3 a21 HXA HG1 HB3 HB2 HT5 HB5 HMat
    go_wp2_with (first
      | (refine wpList_alloc_z rfl 29 rfl zMsg ZM.out ?_; go_simp)
      | (refine wpList_store_new rfl 29 (.tmp 6) (.tmp 29) rfl w5.heap.size rfl zMsg C 29 rfl rfl SC.out ZC.out OC.out ?_; go_simp))
    refine (HDec.out _ HTJ.out.below).mono ?_
    rintro e w6 ⟨hb6, ⟨rfl, rfl⟩ | ⟨m2, rfl, hok2, hf2, hl2, rfl⟩⟩
    · have HB6 := Lib.hid (HTJ.out.below.trans (hb6.mono HTJ.out.below.size))
      have HB7 : Hid (Below w.heap.size w (w6.alloc (.cells zMsg 29))) := Lib.hid (HB6.out.alloc HB6.out.size _)
      have SZ : Hid ((Tryd.prog.info? 29).map (·.size) = some zMsg.size) := Lib.hid sizeM9
      have OZ := Lib.hid oneZ
      have hok : okM true S ty DD none = false := rfl
      rw [hok]
      clear hb6 hok HMr
      go_wp2_with (first
        | (refine wpList_alloc_z rfl 29 rfl zMsg ZM.out ?_; go_simp)
        | (refine wpList_store_new rfl 29 (.tmp 8) (.tmp 34) rfl w6.heap.size rfl zMsg zMsg 29 rfl rfl SZ.out rfl OZ.out ?_; go_simp))
      go_ret
      exact ⟨rfl, HB7.out⟩
    · have HTK := Lib.hid (HTJ.out.to hb6)
      have HMs := Lib.hid (HMr.out.to hb6)
      have hok : okM true S ty DD (some m2.nrm) = ((m2.rp && (m2.id == DD)) && ((m2.qn.toList == S.toList) && (m2.qt == ty))) := Bool.true_and _
      rw [hok] at HMs ⊢
      have HTL : Hid (TjAt w (w6.alloc (.cells m2.cells 29)) T C wb.heap.size w5.heap.size) := Lib.hid (HTK.out.to ((Below.refl _ w6).alloc (Nat.le_refl _) _))
      have HMt := Lib.hid (HMs.out.to ((Below.refl _ w6).alloc (Nat.le_refl _) (.cells m2.cells 29)))
      have HL2 := Lib.hid (hl2.below ((Below.refl _ w6).alloc (Nat.le_refl _) (.cells m2.cells 29)))
      have HG2 := Lib.hid (heap_alloc_last w6 (.cells m2.cells 29))
      have HF2 := Lib.hid hf2
      have S2 : Hid ((Tryd.prog.info? 29).map (·.size) = some m2.cells.size) := Lib.hid sizeM9
      have Z2 : Hid (zMsg.size = m2.cells.size) := Lib.hid rfl
      have O2 := Lib.hid (MV.one m2)
      have e0 : _ = some (Value.int .i64 m2.id) := (cell_of_row _ w6.heap.size 0 _ _ _ HG2.out).trans rfl
      have e1 : _ = some (Value.bool m2.rp) := (cell_of_row _ w6.heap.size 1 _ _ _ HG2.out).trans rfl
      have t20 := (cell_of_row _ wb.heap.size 20 _ _ _ HTL.out.t).trans HTo.out.c20
      have HQM := Lib.hid (q_cells (off := 5) (S := m2.qn) (ty := m2.qt) HG2.out rfl rfl)
      have HQT := Lib.hid (q_cells (off := 0) HTL.out.t HTo.out.c0 HTo.out.c1)
      have HQ := Lib.hid (fun W => eq_q m2.qn S m2.qt ty W)
      have HEQ := Lib.hid eqg_q4
      have SQ := Lib.hid sizeQ
      have HSm : Hid (∀ (m1 : MV) (W : World), m1.nrm = m2.nrm → m1.Fits → m1.Lies W → m2.Lies W → Calls Tryd.prog 17 #[.agg m1.cells, .agg m2.cells] W fun e w' => e = .returned (.bool true) ∧ Below W.heap.size W w') := Lib.hid (fun m1 W h1 h2 h3 h4 => same_e m1 m2 h1 h2 W h3 h4)
      clear hb6 hok2 hf2 hl2 HMr HMs HTJ HTK hok HDec
      generalize ((m2.qn.toList == S.toList) && (m2.qt == ty)) = qq at HMt HQ ⊢
      generalize m2.rp = rp at HMt e1 ⊢
      generalize m2.qn = qn2 at HQM HQ
      generalize m2.qt = qt2 at HQM HQ
      generalize m2.id = id2 at HMt e0 ⊢
      generalize hmc : m2.cells = MC at e0 e1 HTL HMt HL2 HG2 S2 Z2 O2 HQM HQT HSm t20 ⊢
      clear hmc
      cases rp with
      | false =>
        rw [Bool.false_and, Bool.false_and]
        go_wp2_with (first
          | (refine wpList_alloc_z rfl 29 rfl zMsg ZM.out ?_; go_simp)
          | (refine wpList_store_new rfl 29 (.tmp 8) (.tmp 34) rfl w6.heap.size rfl zMsg MC 29 rfl rfl S2.out Z2.out O2.out ?_; go_simp))
        go_ret
        exact ⟨rfl, HTL.out.below⟩
      | true =>
        rw [Bool.true_and] at HMt ⊢
        by_cases hid : id2 = DD
        · have f1 : (id2 == DD) = true := by simp [hid]
          have KID := Lib.hid hid
          rw [f1, Bool.true_and] at HMt ⊢
          cases qq with
          | false =>
            go_wp2_with (first
              | (refine wpList_alloc_z rfl 29 rfl zMsg ZM.out ?_; go_simp)
              | (refine wpList_store_new rfl 29 (.tmp 8) (.tmp 34) rfl w6.heap.size rfl zMsg MC 29 rfl rfl S2.out Z2.out O2.out ?_; go_simp)
              | (refine wpList_load_agg_gh (by kernel_rfl) 26 (.tmp 77) rfl ⟨w6.heap.size, 5, none⟩ rfl #[.string qn2, .int .i64 qt2] _ HQM.out Tryd.underlying26 rfl SQ.out ?_; go_simp)
              | (refine wpList_load_agg_gh (by kernel_rfl) 26 (.tmp 79) rfl ⟨wb.heap.size, 0, none⟩ rfl #[.string S, .int .i64 ty] _ HQT.out Tryd.underlying26 rfl SQ.out ?_; go_simp)
              | (refine wpList_neq_agg_gh (by kernel_rfl) 26 (.tmp 78) (.tmp 80) 26 rfl #[.string qn2, .int .i64 qt2] #[.string S, .int .i64 ty] false rfl rfl HEQ.out (HQ.out _) ?_; go_simp))
            go_ret
            exact ⟨rfl, HTL.out.below⟩
          | true =>
            have hmt := HMt.out
            rcases hmt with ⟨h0, _⟩ | ⟨_, m1, h1, h2, h3, h4⟩
            · cases h0
            · have HSs := HSm.out m1 (w6.alloc (.cells MC 29)) (by injection h1 with h1; exact h1.symm) h2 h3 HL2.out
              rw [← h4] at HSs
              have HS9 := Lib.hid HSs
              clear h1 h2 h3 h4 HSs HMt
              go_wp2_with (first
                | (refine wpList_alloc_z rfl 29 rfl zMsg ZM.out ?_; go_simp)
                | (refine wpList_store_new rfl 29 (.tmp 8) (.tmp 34) rfl w6.heap.size rfl zMsg MC 29 rfl rfl S2.out Z2.out O2.out ?_; go_simp)
                | (refine wpList_load_agg_gh (by kernel_rfl) 26 (.tmp 51) rfl ⟨w6.heap.size, 5, none⟩ rfl #[.string qn2, .int .i64 qt2] _ HQM.out Tryd.underlying26 rfl SQ.out ?_; go_simp)
                | (refine wpList_load_agg_gh (by kernel_rfl) 26 (.tmp 53) rfl ⟨wb.heap.size, 0, none⟩ rfl #[.string S, .int .i64 ty] _ HQT.out Tryd.underlying26 rfl SQ.out ?_; go_simp)
                | (refine wpList_eql_agg_gh (by kernel_rfl) 26 (.tmp 52) (.tmp 54) 26 rfl #[.string qn2, .int .i64 qt2] #[.string S, .int .i64 ty] true rfl rfl HEQ.out (HQ.out _) ?_; go_simp)
                | (refine wpList_row_gh 29 (.tmp 6) (by kernel_rfl) rfl w5.heap.size rfl 29 C (0, 0) _ HTL.out.x Tryd.underlying29 rfl SC.out ?_; go_simp)
                | (refine wpList_row_gh 29 (.tmp 8) (by kernel_rfl) rfl w6.heap.size rfl 29 MC (0, 0) _ HG2.out Tryd.underlying29 rfl S2.out ?_; go_simp)
                | (go_at_call 17; refine HS9.out.mono ?_; rintro e w9 ⟨rfl, hb9⟩; have HB9 := Lib.hid (HTL.out.below.trans (hb9.mono HTL.out.below.size)); clear hb9; go_simp))
              go_ret
              exact ⟨rfl, HB9.out⟩
        · have f1 : (id2 == DD) = false := by simp [hid]
          rw [f1, Bool.false_and]
          go_wp2_with (first
            | (refine wpList_alloc_z rfl 29 rfl zMsg ZM.out ?_; go_simp)
            | (refine wpList_store_new rfl 29 (.tmp 8) (.tmp 34) rfl w6.heap.size rfl zMsg MC 29 rfl rfl S2.out Z2.out O2.out ?_; go_simp))
          go_ret
          exact ⟨rfl, HTL.out.below⟩
end Go.Proofs.YtmijoidogjablaaDoor
