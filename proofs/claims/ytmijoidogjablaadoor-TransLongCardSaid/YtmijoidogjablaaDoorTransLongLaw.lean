/-
  The walk of TransLong: what is behind an answer, and other records in it, play no part in whether it is taken. Conditions: the library's variable MaxLen holds some number; the seeds and the bytes lie in memory.
-/
import Derived.Test.YtmijoidogjablaaDoorMsgMgLw
import Derived.Test.YtmijoidogjablaaDoorTrTm
namespace Go.Proofs.YtmijoidogjablaaDoor
open Go.RowKit

set_option maxRecDepth 100000 in
theorem step_append_optT {w : World} {ops : Array Oper} {o : Oper} {a : Act} {Q : Exit → Act → World → Prop} {K : Act → World → Prop} {E : Prop} (hgd : o.guard = none) (s x : Operand)
    (ho : o.op = .call { callee := .builtin .append, args := #[s, x], argTypes := #[38, 38] })
    (base : Nat) (v : Value) (xs : List UInt8) (n : Nat) (hs : a.eval s = v) (hown : w.ownsRow base 5 1 v n (bvs xs))
    (A : Option Addr) (mc : Nat) (cs : List UInt8) (hx : a.eval x = .slice A cs.length mc) (hA : A = none → mc = 0 ∧ cs = []) (hin : InB w w.heap.size A cs) (hn : n ≤ 100000000000) (hn2 : cs.length ≤ 100000000000) (hbase : base ≤ w.heap.size)
    (h : ∀ v' w', w'.ownsRow base 5 1 v' (n + cs.length) (bvs (xs ++ cs)) → w.grownBy w' v.ownBlock → K (a.put o.dst v') w') : if Region.wanted o (yielded ops a.tmps) = true then Oper.wp Tryd.prog o a w K Q else E := by
  have hw : Region.wanted o (yielded ops a.tmps) = true := by simp [Region.wanted, hgd]
  rw [if_pos hw]
  obtain ⟨i0, hi, hz0, hz1, hz2⟩ := info_parts infoU8
  cases A with
  | none =>
    obtain ⟨rfl, rfl⟩ := hA rfl
    have hrun := run_append_owned_none (P := Tryd.prog) (w := w) base 38 o.type 5 i0 1 Tryd.underlying38 hi v n (bvs xs) hown
    have hx' : a.eval x = .slice none 0 0 := hx
    unfold Oper.wp
    simp [execOp, ho, resolve, invoke, builtin, hs, hx', hrun, Result.andThen]
    exact h v w (by rw [List.append_nil]; exact hown) ⟨rfl, rfl, rfl, Nat.le_refl _, fun _ _ _ => rfl⟩
  | some ad =>
    refine wp_append_own w s x 38 ho base 5 i0 (.int .u8 0) 1 1 Tryd.underlying38 hi hz0 hz1 hz2 rfl (by decide) v n (bvs xs) hs hown ad cs.length mc (bvs cs) hx (by rw [bvs_length]; omega)
      (fun j u hu => ?_) (bvs_one cs) (by unfold maxLen; omega) (by omega) hbase (fun v' w' h2 h3 _ => h v' w' (by rw [bvs_append]; exact h2) h3)
    have hj : j < cs.length := by
      have := (List.getElem?_eq_some_iff.1 hu).1
      rwa [bvs_length] at this
    obtain ⟨bb, o', e, _, hc⟩ := hin (by omega)
    injection e with e
    subst e
    rw [Addr.add_lit, hc j hj, ← bvs_at hj]
    exact hu
theorem EmAt.app {b : Bool} {o : Option MV} {W0 U U' : World} {v : World} {a : Option Nat} {gb : Nat} (h : EmAt b o W0 U (some v) a none) (hg : U.grownBy U' (some gb)) (hgb : W0.heap.size ≤ gb) (hne : ∀ g, a = some g → gb ≠ g) : EmAt b o W0 U' (some U') a none :=
  ⟨h.below.grown hg h.below.size (fun k e => by injection e with e; omega), fun x hx => by injection hx with hx; subst hx; exact Below.refl _ _, fun g hg' => ⟨(hg.block g (heap_lt (h.a g hg').1) (fun e => by injection e with e; exact hne g hg' e.symm)).trans (h.a g hg').1, (h.a g hg').2⟩, fun C hC => by cases hC⟩
theorem bN_self {D : Nat} (h : D ≤ 65535) : bN (D : Int) 65535 = D := by
  have e : (BitVec.ofInt 64 (D : Int) &&& BitVec.ofInt 64 ((65535 : Nat) : Int)).toNat = D := by
    rw [BitVec.toNat_and, BitVec.ofInt_natCast, BitVec.ofInt_natCast, BitVec.toNat_ofNat, BitVec.toNat_ofNat, Nat.mod_eq_of_lt (by omega), Nat.mod_eq_of_lt (by omega)]
    rw [show (65535 : Nat) = 2 ^ 16 - 1 from rfl, Nat.and_two_pow_sub_one_eq_mod]
    exact Nat.mod_eq_of_lt (by omega)
  unfold bN
  show (IntKind.i64.wrap ((BitVec.ofInt 64 (D : Int) &&& BitVec.ofInt 64 ((65535 : Nat) : Int)).toNat : Int)).toNat = D
  rw [e, IntWalk.i64_in _ (by omega)]
  rfl
theorem fl1 : flB 1 1 = true := by decide +kernel
theorem mv_mk {m : MV} (p : MvParts m) : mvOk m = true := by
  unfold mvOk allB btw
  simp only [Bool.and_eq_true, decide_eq_true_eq, List.all_eq_true]
  exact ⟨⟨p.id0, p.id1⟩, ⟨p.c0, p.c1⟩, p.qn, ⟨p.q0, p.q1⟩, ⟨p.la, p.an⟩, p.lu, p.au⟩
/-- a message with another question -/
def withQ (M : MV) (S : ByteArray) (ty : Int) : MV := ⟨M.id, M.rp, M.tr, M.rc, M.code, S, ty, M.A, M.ca, M.an, M.U, M.cu, M.au⟩
theorem withQ_again {M : MV} (h : M.Again) {i : Nat} (hi : i ≤ 7) {ty : Int} (ht : 1 ≤ ty ∧ ty ≤ 65535) : (withQ M (bs (plN i)) ty).Again := by
  obtain ⟨g1, l1, z1⟩ := plB ⟨i, by omega⟩
  simp only at g1 l1 z1
  have p := mv_parts h.ok
  exact ⟨mv_mk ⟨p.id0, p.id1, p.c0, p.c1, g1, ht.1, ht.2, p.la, p.an, p.lu, p.au⟩, ⟨Nat.le_trans z1 (by unfold maxLen; omega), h.fits.an, h.fits.au, h.fits.la, h.fits.lu⟩, l1, h.an, h.au⟩
theorem withQ_cells (M : MV) (S : ByteArray) (ty : Int) : (withQ M S ty).cells = ((M.cells.toList.take 5 ++ [Value.string S, .int .i64 ty] ++ M.cells.toList.drop (5 + 2)).toArray) := rfl
theorem match_more (T : Array Value) (S : ByteArray) (ty lk gn : Int) (x : List UInt8) (D P : Int) (st gr : Bool) (hT : TrOk T S ty lk gn x D P st gr) (hx : x.length = 16)
    (m : MV) (h : m.Again) (more : List UInt8) (hmo : more.length ≤ 200) (gb cap L : Nat) (hL : L = (enc m.msg ++ more).length) (u : World) (hcap : L ≤ cap) (hin : InB u u.heap.size (some ⟨gb, 0, none⟩) (enc m.msg ++ more)) (hu : Env u) (W : World) (hb : Below u.heap.size u W) :
    Calls Tryd.prog 20 #[.agg T, .int .i64 lk, .int .i64 gn, .agg (bvs x).toArray, .int .i64 P, .slice (some ⟨gb, 0, none⟩) L cap] W (MatP W (comB lk gn x P gr lk gn x P && ansB S ty D m.rp m.id m.qn m.qt) (some m.nrm)) :=
  match_e T S ty lk gn x D P st gr hT hx lk gn P x hx _ _ _ (some m.nrm) W (fun W' hb' => by
    have hl := (enc_len h.ok h.fits).1
    refine (decode_enc m h more gb cap L hL W' ((hu.below hb).below hb') hcap (by rw [hL, List.length_append]; omega) (hin.to (hb.trans (hb'.mono hb.size)))).mono ?_
    rintro e w' ⟨hb2, m', hm, hf, hli, rfl⟩
    exact ⟨hb2, .inr ⟨m', by rw [hm], (nrm_ok hm).trans h.ok, hf, hli, rfl⟩⟩)
structure TlAt (w W : World) (TC MC : Array Value) (gt gm : Nat) : Prop where
  t : W.heap[gt]? = some (.cells TC 46 (0, 0))
  m : W.heap[gm]? = some (.cells MC 29 (0, 0))
  below : Below w.heap.size w W
theorem TlAt.to {w W W' : World} {TC MC : Array Value} {gt gm : Nat} (h : TlAt w W TC MC gt gm) (hb : Below W.heap.size W W') : TlAt w W' TC MC gt gm :=
  ⟨(hb.block _ (heap_lt h.t)).trans h.t, (hb.block _ (heap_lt h.m)).trans h.m, h.below.trans (hb.mono h.below.size)⟩
theorem comB_selfL (lk gn P : Int) (x : List UInt8) (gr : Bool) : comB lk gn x P gr lk gn x P = true := by unfold comB; simp
theorem builtZs : Tryd.prog.built 34 [] = some zeroS.cells := by kernel_rfl
theorem zeroS_fits : zeroS.Fits := ⟨rfl, by decide⟩
set_option maxRecDepth 100000 in
set_option maxHeartbeats 16000000 in
theorem transLong_walk (n : Int) (A : Option Addr) (c : Nat) (l : List SV) (B : Option Addr) (d : Nat) (more : List UInt8) (w : World) (he : Env w) (h : SeedsAt w A l) (hf : ∀ s ∈ l, s.Fits) (hin : InB w w.heap.size B more) (_hmc : more.length ≤ d) (hn : B = none → d = 0 ∧ more = []) :
    Calls Tryd.prog 9 #[.int .i64 n, .slice A l.length c, .slice B more.length d] w fun e w' => e = .returned (.bool true) ∧ Below w.heap.size w w' := by
  have HFit := Lib.hid fit13_e
  have HE := Lib.hid he
  have HSe := Lib.hid h
  have HF := Lib.hid hf
  have HIn := Lib.hid hin
  have HNn := Lib.hid hn
  have ZS := Lib.hid zeroSeed
  have ZT := Lib.hid zeroT
  have ZM := Lib.hid zeroM
  have OS : Hid (∀ s : SV, s.cells.all (·.oneCell') = true) := Lib.hid SV.one
  obtain ⟨i, t, lk, gn, D, x, hbu⟩ := bu_ex n
  have HBd := Lib.hid (fun W => bu_e hbu false W)
  have hTo := bu_ok (n := n) (group := false) (i := i) (t := t) (lk := lk) (gn := gn) (D := D) (x := x)
  have hMA := withQ_again (mgM_again (D : Int) 1 (q := zeroS) (l := l) hf) hbu.hi (ty := 1 + (t : Int)) (by have := hbu.ht; omega)
  have HId : Hid ((mgM (D : Int) 1 zeroS l).id = (D : Int)) := Lib.hid (by show ((bN (D : Int) 65535 : Nat) : Int) = D; rw [bN_self hbu.hD])
  have HRp : Hid ((mgM (D : Int) 1 zeroS l).rp = true) := Lib.hid fl1
  have HMs := Lib.hid (fun W hW (hlen : l.length ≤ 100000) => message_e (D : Int) 1 zeroS zeroS_fits A c l hf W hW hlen)
  clear hbu he h hf hin hn
  generalize mgM (D : Int) 1 zeroS l = M at HMs hMA HId HRp
  generalize 1 + (t : Int) = ty at hTo hMA
  generalize ((drP n : Nat) : Int) = P at hTo
  generalize (lk : Int) = LK at hTo
  generalize (gn : Int) = GN at hTo
  generalize (D : Int) = DD at hTo HMs HId
  generalize buC n false i t lk gn D x = TC at HBd hTo
  generalize bs (plN i) = S at hTo hMA
  have HTo := Lib.hid hTo
  have HMA := Lib.hid hMA
  have STr : Hid ((Tryd.prog.info? 46).map (·.size) = some TC.size) := Lib.hid (by rw [hTo.size]; exact sizeT)
  have OT := Lib.hid hTo.one
  have ZTT : Hid ((trC emp 0 0 0 zero16 0 0 false false 0).size = TC.size) := Lib.hid (by rw [hTo.size]; rfl)
  clear hTo hMA
  go_enter Tryd.func9, Tryd.ntmps9
  go_wp2_with fail
  refine (HFit.out _ HE.out).mono ?_
  rintro e w1 ⟨rfl, hb1⟩
  have HB1 := Lib.hid hb1
  clear hb1 HFit
  by_cases h20 : (20 : Int) < (l.length : Int)
  · go_wp2_with fail
    go_ret
    exact ⟨rfl, HB1.out⟩
  · by_cases h200 : (200 : Int) < (more.length : Int)
    · go_wp2_with fail
      go_ret
      exact ⟨rfl, HB1.out⟩
    · go_wp2_with fail
      go_loopw [25] (fun i wr => ∃ k : Nat, k ≤ l.length ∧ i = .int .i64 k ∧ Hid (Below w.heap.size w wr)) (fun i _ => l.length - (intOf i).toNat)
      case atStart => exact ⟨0, by omega, rfl, HB1⟩
      case round =>
        obtain ⟨k, hk, rfl, HB⟩ := hrel
        by_cases hlt : k < l.length
        · have hkI : (k : Int) < (l.length : Int) := by omega
          obtain ⟨b, o, rfl, hbl, hc⟩ := (HSe.out.below HB.out) (by omega)
          obtain ⟨s, hs⟩ : ∃ s, l[k]? = some s := ⟨_, List.getElem?_eq_getElem hlt⟩
          have hfit := HF.out s (List.mem_of_getElem? hs)
          have HC := Lib.hid (hc k s hs)
          have hz20 : s.cells.size = 20 := SV.size hfit.ad
          have Z : Hid ((Tryd.prog.info? 34).map (·.size) = some s.cells.size) := Lib.hid (by rw [hz20]; exact sizeSeed)
          have ZZ : Hid (zeroS.cells.size = s.cells.size) := Lib.hid (by rw [hz20]; exact SV.size rfl)
          have O1 : Hid (s.cells.all (·.oneCell') = true) := Lib.hid (SV.one s)
          have dd : (wr.alloc (.cells s.cells 34)).cell? ⟨wr.heap.size, 19, none⟩ = some (.string s.da) := (cell_of_row _ wr.heap.size 19 _ _ _ (heap_alloc_last wr _)).trans (SV.c19 hfit.ad)
          have HB2 : Hid (Below w.heap.size w (wr.alloc (.cells s.cells 34))) := Lib.hid (HB.out.alloc HB.out.size _)
          clear hc hs hz20 hfit hbl
          revert HC Z ZZ O1 dd HB2
          generalize s.cells = cs
          generalize s.da = Dt
          generalize zeroS.cells = zs at ZS ⊢
          intro HC Z ZZ O1 dd HB2
          by_cases h3 : (300 : Int) < (Dt.size : Int)
          · go_wp2_with (first
              | (refine wpList_load_agg rfl 34 (.tmp 27) rfl ⟨b, o + k * 20, none⟩ rfl cs _ HC.out Tryd.underlying34 rfl Z.out ?_; go_simp)
              | (refine wpList_alloc_z rfl 34 rfl zs ZS.out ?_; go_simp)
              | (refine wpList_store_new rfl 34 (.tmp 8) (.tmp 28) rfl wr.heap.size rfl zs cs 34 rfl rfl Z.out ZZ.out O1.out ?_; go_simp))
            go_ret
            exact ⟨rfl, HB2.out⟩
          · go_wp2_with (first
              | (refine wpList_load_agg rfl 34 (.tmp 27) rfl ⟨b, o + k * 20, none⟩ rfl cs _ HC.out Tryd.underlying34 rfl Z.out ?_; go_simp)
              | (refine wpList_alloc_z rfl 34 rfl zs ZS.out ?_; go_simp)
              | (refine wpList_store_new rfl 34 (.tmp 8) (.tmp 28) rfl wr.heap.size rfl zs cs 34 rfl rfl Z.out ZZ.out O1.out ?_; go_simp))
            go_roundw
            case rel => exact ⟨k + 1, by omega, by go_num, HB2⟩
            case measure => simp [intOf]; omega
        · obtain rfl : k = l.length := by omega
          have HB1 := HB
          clear HB hlt hk
          have hlen : l.length ≤ 100000 := by omega
          have hm2 : (more.length : Int) ≤ 200 := by omega
          have hmN : more.length ≤ 200 := by omega
          have hkI : ¬ (l.length : Int) < (l.length : Int) := by omega
          clear h20 h200
          go_wp2_with fail
          refine (HBd.out wr).mono ?_
          rintro e wb ⟨rfl, hbb⟩
          have HB2 := Lib.hid (HB1.out.trans (hbb.mono HB1.out.size))
          clear hbb HB1
          generalize trC emp 0 0 0 zero16 0 0 false false 0 = Z at ZT ZTT
          have HG1 := Lib.hid (heap_alloc_last wb (.cells TC 46))
          have HB3 : Hid (Below w.heap.size w (wb.alloc (.cells TC 46))) := Lib.hid (HB2.out.alloc HB2.out.size _)
          have hwb := HB2.out.size
          have a20 := (cell_of_row _ _ 20 _ _ _ HG1.out).trans HTo.out.c20
          have HQT := Lib.hid (fun (W : World) (h : W.heap[wb.heap.size]? = some (.cells TC 46 (0, 0))) => q_cells (off := 0) h HTo.out.c0 HTo.out.c1)
          have SQ := Lib.hid sizeQ
          have BZs := Lib.hid builtZs
          have HM4 := Lib.hid (HMs.out _ (HSe.out.below HB3.out) hlen)
          clear HMs hlen
          generalize zeroS.cells = zs at ZS BZs HM4
          go_wp2_with (first
            | (refine wpList_alloc_z rfl 46 rfl Z ZT.out ?_; go_simp)
            | (refine wpList_store_new rfl 46 (.tmp 9) (.tmp 35) rfl wb.heap.size rfl Z TC 46 rfl rfl STr.out ZTT.out OT.out ?_; go_simp)
            | (refine wpList_build_v rfl 34 #[] rfl [] zs BZs.out rfl ?_; go_simp))
          refine HM4.out.mono ?_
          rintro e w4 ⟨hb4, m, hm, hml, rfl⟩
          have HG4 := Lib.hid ((hb4.block _ (heap_lt HG1.out)).trans HG1.out)
          have HB4 := Lib.hid (HB3.out.trans (hb4.mono HB3.out.size))
          have HML := Lib.hid hml
          have hrp : m.rp = true := (congrArg MV.rp hm).trans HRp.out
          have hid : m.id = DD := (congrArg MV.id hm).trans HId.out
          have HAg : Hid (withQ m S ty).Again := Lib.hid (again_of HMA.out (by
            have e1 : (withQ m S ty).nrm = (withQ m.nrm S ty).nrm := rfl
            rw [e1, hm]))
          have HOkv : Hid (ansB S ty DD (withQ m S ty).rp (withQ m S ty).id (withQ m S ty).qn (withQ m S ty).qt = true) := Lib.hid (by
            show ansB S ty DD m.rp m.id S ty = true
            rw [hrp, hid]; unfold ansB; simp)
          have SM4 : Hid ((Tryd.prog.info? 29).map (·.size) = some m.cells.size) := Lib.hid sizeM9
          have ZM4 : Hid (zMsg.size = m.cells.size) := Lib.hid rfl
          have OM4 := Lib.hid (MV.one m)
          have HG5 : Hid ((w4.alloc (.cells m.cells 29)).heap[wb.heap.size]? = some (.cells TC 46 (0, 0))) := Lib.hid ((Below.heap_alloc _ _ _ (heap_lt HG4.out)).trans HG4.out)
          have HQ5 := Lib.hid (HQT.out _ HG5.out)
          have HM5 := Lib.hid (heap_alloc_last w4 (.cells m.cells 29))
          have HB45 : Hid (Below w4.heap.size w4 (w4.alloc (.cells m.cells 29))) := Lib.hid ((Below.refl _ w4).alloc (Nat.le_refl _) _)
          have HWc := Lib.hid (withQ_cells m S ty)
          have OQ : Hid ((#[Value.string S, .int .i64 ty] : Array Value).all (·.oneCell') = true) := Lib.hid (by simp [Value.oneCell'])
          clear hb4 hml hrp hid HM4 a20 HMA HRp HId hm
          go_upto_region 14 with (first
            | (refine wpList_alloc_z rfl 29 rfl zMsg ZM.out ?_; go_simp)
            | (refine wpList_store_new rfl 29 (.tmp 10) (.tmp 40) rfl w4.heap.size rfl zMsg m.cells 29 rfl rfl SM4.out ZM4.out OM4.out ?_; go_simp)
            | (refine wpList_load_agg rfl 26 (.tmp 41) rfl ⟨wb.heap.size, 0, none⟩ rfl #[.string S, .int .i64 ty] _ HQ5.out Tryd.underlying26 rfl SQ.out ?_; go_simp)
            | (refine wpList_store_sub rfl 26 (.tmp 43) (.tmp 42) rfl w4.heap.size 5 m.cells #[.string S, .int .i64 ty] (withQ m S ty).cells 29 HM5.out rfl rfl SQ.out (by show 5 + 2 ≤ 9; omega) OQ.out HWc.out.symm ?_; intro W5 hg5 hw5 hz5; go_simp))
          have HB5 : Hid (Below w4.heap.size w4 W5) := Lib.hid (HB45.out.grown hw5.out HB45.out.size (fun k e => by injection e with e; omega))
          have hltb := heap_lt HG4.out
          have HTL : Hid (TlAt w W5 TC (withQ m S ty).cells wb.heap.size w4.heap.size) := Lib.hid ⟨(HB5.out.block _ hltb).trans HG4.out, hg5.out, HB4.out.trans (HB5.out.mono HB4.out.size)⟩
          have HLi : Hid (∀ W, Below W5.heap.size W5 W → (withQ m S ty).Lies W) := Lib.hid (fun W hb => ⟨(HML.out.an.below HB5.out).below hb, (HML.out.au.below HB5.out).below hb⟩)
          clear hg5 hw5 hz5 HB45 HM5 HQ5 HG5 HG4 HWc OQ SM4 ZM4 OM4 hltb HQT HG1 HB3 HB2
          have hgt : wb.heap.size < W5.heap.size := heap_lt HTL.out.t
          generalize wb.heap.size = gt at HTL hgt hwb ⊢
          generalize w4.heap.size = gm at HTL HB5 ⊢
          generalize withQ m S ty = m2 at HTL HLi HAg HOkv
          obtain ⟨okb, hokb⟩ : ∃ okb, okb = (comB LK GN (ad15 x) P false LK GN (ad15 x) P && ansB S ty DD m2.rp m2.id m2.qn m2.qt) := ⟨_, rfl⟩
          obtain ⟨om, hom⟩ : ∃ om, om = some m2.nrm := ⟨_, rfl⟩
          have HOk : Hid (okb = true) := Lib.hid (by rw [hokb, HOkv.out, comB_selfL]; rfl)
          have HE0 := Lib.hid (HE.out.below HTL.out.below)
          have HMg0 := Lib.hid (fun gb cap L hL u h1 h2 h3 W h4 => match_more TC S ty LK GN (ad15 x) DD P false false HTo.out rfl m2 HAg.out more hmN gb cap L hL u h1 h2 h3 W h4)
          rw [← hokb, ← hom] at HMg0
          have HEg := Lib.hid (fun W hb => encode_again m2 HAg.out W (HE0.out.below hb) (HLi.out W hb))
          have hLb := (enc_len HAg.out.ok HAg.out.fits).1
          have hLp := (enc_len HAg.out.ok HAg.out.fits).2
          have HOe0 : Hid (∀ (W w' : World) (gb cap : Nat), EncIs W w' m2 gb cap → w'.ownsRow W.heap.size 5 1 (.slice (some ⟨gb, 0, none⟩) (enc m2.msg).length cap) (enc m2.msg).length (bvs (enc m2.msg))) := Lib.hid (fun W w' gb cap h => h.own)
          have HCat : Hid ((enc m2.msg ++ more).length = (enc m2.msg).length + more.length) := Lib.hid (List.length_append ..)
          have HSm : Hid (∀ (m' : MV) (W : World), m'.nrm = m2.nrm → m'.Fits → m'.Lies W → m2.Lies W → Calls Tryd.prog 17 #[.agg m'.cells, .agg m2.cells] W fun e w' => e = .returned (.bool true) ∧ Below W.heap.size W w') := Lib.hid (fun m' W h1 h2 h3 h4 => same_e m' m2 h1 h2 W h3 h4)
          have HOm := Lib.hid hom
          clear hokb hom HOkv
          generalize enc m2.msg = bb at HMg0 HOe0 HCat HEg hLb hLp
          have HMg := Lib.hid (fun gb cap u (h1 : bb.length + more.length ≤ cap) h2 h3 W h4 => HMg0.out gb cap (bb.length + more.length) HCat.out.symm u h1 h2 h3 W h4)
          clear HMg0
          generalize bb.length = LE at HMg HOe0 HCat HEg hLb hLp
          have HOe := HOe0
          clear HOe0
          have SMl : Hid ((Tryd.prog.info? 29).map (·.size) = some m2.cells.toList.length) := Lib.hid sizeM9
          have SMr : Hid ((Tryd.prog.info? 29).map (·.size) = some m2.cells.size) := Lib.hid sizeM9
          have STl : Hid ((Tryd.prog.info? 46).map (·.size) = some TC.toList.length) := Lib.hid (by rw [Array.length_toList]; exact STr.out)
          have SAl : Hid ((Tryd.prog.info? 32).map (·.size) = some (bvs (ad15 x)).toArray.toList.length) := Lib.hid sizeAddr
          have HXA : Hid (∀ W, Below W5.heap.size W5 W → W.rangeAt gt 4 (bvs (ad15 x)).toArray.toList) := Lib.hid (fun W h j v hv => (cell_of_row W gt (4 + j) _ _ _ (HTL.out.to h).t).trans (HTo.out.ad j v hv))
          generalize hmc : m2.cells = MC at HTL HEg HSm SMl SMr
          clear hmc
          generalize (bvs (ad15 x)).toArray = XA at SAl HXA HMg
          have HXR : Hid (∀ W, Below W5.heap.size W5 W → W.rangeAt gt 0 TC.toList) := Lib.hid (fun W h => range_row (HTL.out.to h).t)
          have HXM : Hid (∀ W, Below W5.heap.size W5 W → W.rangeAt gm 0 MC.toList) := Lib.hid (fun W h => range_row (HTL.out.to h).m)
          have HC2 := Lib.hid (fun W (h : Below W5.heap.size W5 W) => (cell_of_row W gt 2 _ _ _ (HTL.out.to h).t).trans HTo.out.c2)
          have HC3 := Lib.hid (fun W (h : Below W5.heap.size W5 W) => (cell_of_row W gt 3 _ _ _ (HTL.out.to h).t).trans HTo.out.c3)
          have HC21 := Lib.hid (fun W (h : Below W5.heap.size W5 W) => (cell_of_row W gt 21 _ _ _ (HTL.out.to h).t).trans HTo.out.c21)
          have HInW : Hid (∀ W, Below W5.heap.size W5 W → InB W W.heap.size B more) := Lib.hid (fun W h => HIn.out.to (HTL.out.below.trans (h.mono HTL.out.below.size)))
          have HEn := HEg
          clear HEg
          go_cut [11, 12] from 44 to 60 (fun t11 t12 wx => ∃ g C, t11 = .pointer (some ⟨g, 0, none⟩) ∧ t12 = .bool okb ∧ Hid (EmFin okb om W5 wx g C))
          case first =>
            refine wp_region_held_drew (S := (fun W : World => Below W5.heap.size W5 W)) (by kernel_rfl) (Below.refl _ W5).drew (fun hHeld => ?_)
            have HM0 : Hid (EmAt okb om W5 W5.drew none none none) := Lib.hid ⟨(Below.refl _ W5).drew, (fun g h => by cases h), (fun g h => by cases h), (fun g h => by cases h)⟩
            generalize W5.drew = V0 at HM0 hHeld ⊢
            refine wpAnyH_take (i := 0) (oi := ({ dst := some 45, op := Go.Op.load 46 (Go.Operand.tmp 9), type := 46, pos := "law.go:110", after := #[], guard := none } : Oper)) (v := .agg TC.toList.toArray) rfl (by kernel_rfl) (by kernel_rfl) (by kernel_rfl) (fun _ _ _ h => h) (yieldsIf_load_mid (by rfl) _ _ rfl _ _ rfl _ _ (fun W h => HXR.out W h) Tryd.underlying46 rfl STl.out) hHeld ?_
            try simp only [Act.put, List.setIfInBounds_toArray, List.set_cons_zero, List.set_cons_succ]
            refine wpAnyH_take (i := 1) (oi := ({ dst := some 46, op := Go.Op.fieldAddr 46 (Go.Operand.tmp 9) 1, type := 0, pos := "law.go:110", after := #[], guard := none } : Oper)) (v := .pointer (some ⟨gt, 2, none⟩)) rfl (by kernel_rfl) (by kernel_rfl) (by kernel_rfl) (fun _ _ _ h => h) (Or.inl ⟨by rfl, fun w' hS' => ?_⟩) hHeld ?_
            · go_simp
            try simp only [Act.put, List.setIfInBounds_toArray, List.set_cons_zero, List.set_cons_succ]
            refine wpAnyH_take (i := 2) (oi := ({ dst := some 47, op := Go.Op.load 3 (Go.Operand.tmp 46), type := 3, pos := "law.go:110", after := #[{ on := 1, ground := Go.Ground.data }], guard := none } : Oper)) (v := .int .i64 LK) rfl (by kernel_rfl) (by kernel_rfl) (by kernel_rfl) (fun _ _ _ h => h) (Or.inl ⟨by rfl, fun w' hS' => ?_⟩) hHeld ?_
            · have d := HC2.out w' hS'; go_simp
            try simp only [Act.put, List.setIfInBounds_toArray, List.set_cons_zero, List.set_cons_succ]
            refine wpAnyH_take (i := 3) (oi := ({ dst := some 48, op := Go.Op.fieldAddr 46 (Go.Operand.tmp 9) 2, type := 0, pos := "law.go:110", after := #[], guard := none } : Oper)) (v := .pointer (some ⟨gt, 3, none⟩)) rfl (by kernel_rfl) (by kernel_rfl) (by kernel_rfl) (fun _ _ _ h => h) (Or.inl ⟨by rfl, fun w' hS' => ?_⟩) hHeld ?_
            · go_simp
            try simp only [Act.put, List.setIfInBounds_toArray, List.set_cons_zero, List.set_cons_succ]
            refine wpAnyH_take (i := 4) (oi := ({ dst := some 49, op := Go.Op.load 3 (Go.Operand.tmp 48), type := 3, pos := "law.go:110", after := #[{ on := 3, ground := Go.Ground.data }], guard := none } : Oper)) (v := .int .i64 GN) rfl (by kernel_rfl) (by kernel_rfl) (by kernel_rfl) (fun _ _ _ h => h) (Or.inl ⟨by rfl, fun w' hS' => ?_⟩) hHeld ?_
            · have d := HC3.out w' hS'; go_simp
            try simp only [Act.put, List.setIfInBounds_toArray, List.set_cons_zero, List.set_cons_succ]
            refine wpAnyH_take (i := 5) (oi := ({ dst := some 50, op := Go.Op.fieldAddr 46 (Go.Operand.tmp 9) 3, type := 0, pos := "law.go:110", after := #[], guard := none } : Oper)) (v := .pointer (some ⟨gt, 4, none⟩)) rfl (by kernel_rfl) (by kernel_rfl) (by kernel_rfl) (fun _ _ _ h => h) (Or.inl ⟨by rfl, fun w' hS' => ?_⟩) hHeld ?_
            · go_simp
            try simp only [Act.put, List.setIfInBounds_toArray, List.set_cons_zero, List.set_cons_succ]
            refine wpAnyH_take (i := 6) (oi := ({ dst := some 51, op := Go.Op.load 32 (Go.Operand.tmp 50), type := 32, pos := "law.go:110", after := #[{ on := 5, ground := Go.Ground.data }], guard := none } : Oper)) (v := .agg XA.toList.toArray) rfl (by kernel_rfl) (by kernel_rfl) (by kernel_rfl) (fun _ _ _ h => h) (yieldsIf_load_mid (by rfl) _ _ rfl _ _ rfl _ _ (fun W h => HXA.out W h) Tryd.underlying32 rfl SAl.out) hHeld ?_
            try simp only [Act.put, List.setIfInBounds_toArray, List.set_cons_zero, List.set_cons_succ]
            refine wpAnyH_take (i := 7) (oi := ({ dst := some 52, op := Go.Op.fieldAddr 46 (Go.Operand.tmp 9) 5, type := 0, pos := "law.go:110", after := #[], guard := none } : Oper)) (v := .pointer (some ⟨gt, 21, none⟩)) rfl (by kernel_rfl) (by kernel_rfl) (by kernel_rfl) (fun _ _ _ h => h) (Or.inl ⟨by rfl, fun w' hS' => ?_⟩) hHeld ?_
            · go_simp
            try simp only [Act.put, List.setIfInBounds_toArray, List.set_cons_zero, List.set_cons_succ]
            refine wpAnyH_take (i := 8) (oi := ({ dst := some 53, op := Go.Op.load 3 (Go.Operand.tmp 52), type := 3, pos := "law.go:110", after := #[{ on := 7, ground := Go.Ground.data }], guard := none } : Oper)) (v := .int .i64 P) rfl (by kernel_rfl) (by kernel_rfl) (by kernel_rfl) (fun _ _ _ h => h) (Or.inl ⟨by rfl, fun w' hS' => ?_⟩) hHeld ?_
            · have d := HC21.out w' hS'; go_simp
            try simp only [Act.put, List.setIfInBounds_toArray, List.set_cons_zero, List.set_cons_succ]
            refine wpAnyH_take (i := 9) (oi := ({ dst := some 54, op := Go.Op.load 29 (Go.Operand.tmp 10), type := 29, pos := "law.go:110", after := #[], guard := none } : Oper)) (v := .agg MC.toList.toArray) rfl (by kernel_rfl) (by kernel_rfl) (by kernel_rfl) (fun _ _ _ h => h) (yieldsIf_load_mid (by rfl) _ _ rfl _ _ rfl _ _ (fun W h => HXM.out W h) Tryd.underlying29 rfl SMl.out) hHeld ?_
            try simp only [Act.put, List.setIfInBounds_toArray, List.set_cons_zero, List.set_cons_succ]
            refine wpAnyH_take (i := 11) (oi := ({ dst := some 56, op := Go.Op.move (Go.Operand.tmp 2), type := 38, pos := "law.go:110", after := #[], guard := none } : Oper)) (v := .slice B more.length d) rfl (by kernel_rfl) (by kernel_rfl) (by kernel_rfl) (fun _ _ _ h => h) (Or.inl ⟨by rfl, fun w' hS' => ?_⟩) hHeld ?_
            · go_simp
            try simp only [Act.put, List.setIfInBounds_toArray, List.set_cons_zero, List.set_cons_succ]
            refine wpAnyH_ready (rs := [10, 17]) (by kernel_rfl) (by simp) ?_
            refine (AllReadyH.cons (o := ({ dst := some 55, op := Go.Op.call { callee := Go.Callee.value (Go.Operand.func 15), args := #[Go.Operand.tmp 54], argTypes := #[29] }, type := 38, pos := "law.go:110", after := #[{ on := 9, ground := Go.Ground.data }], guard := none } : Oper)) rfl (fun K hK => ?_) (AllReadyH.cons (o := ({ dst := some 11, op := Go.Op.alloc 29, type := 0, pos := "law.go:110", after := #[], guard := none } : Oper)) rfl (fun K hK => ?_) AllReadyH.nil))
            · go_simp
              go_at_call 15
              refine (HEn.out _ HM0.out.below).mono ?_
              rintro e' u1 ⟨gb, cap, rfl, hen⟩
              have HM2 := Lib.hid ((HM0.out.to hen.below).withE)
              have HOw : Hid (∀ W, Below u1.heap.size u1 W → W.ownsRow V0.heap.size 5 1 (.slice (some ⟨gb, 0, none⟩) LE cap) LE (bvs bb)) := Lib.hid (fun W h => by
                have h0 := HOe.out _ _ _ _ hen
                exact h0.kept (row := none) ⟨h.os, h.tape, h.output, h.size, fun k hk _ => h.block k hk⟩ (Classical.em _))
              have hgb0 : W5.heap.size ≤ gb := Nat.le_trans HM0.out.below.size hen.hb
              have hbs := hen.below.size
              generalize V0.heap.size = bse at HOw hbs
              refine hK.out _ _ HM2.out.below (fun hHeld => ?_)
              clear hK K hen
              try simp only [Act.put, List.setIfInBounds_toArray, List.set_cons_zero, List.set_cons_succ]
              refine wpAnyH_ready (rs := [12, 17]) (by kernel_rfl) (by simp) ?_
              refine (AllReadyH.cons (o := ({ dst := some 57, op := Go.Op.call { callee := Go.Callee.builtin Go.Builtin.append, args := #[Go.Operand.tmp 55, Go.Operand.tmp 56], argTypes := #[38, 38] }, type := 38, pos := "law.go:110", after := #[{ on := 10, ground := Go.Ground.data }, { on := 11, ground := Go.Ground.data }, { on := 10, ground := Go.Ground.chain }], guard := none } : Oper)) rfl (fun K hK => ?_) (AllReadyH.cons (o := ({ dst := some 11, op := Go.Op.alloc 29, type := 0, pos := "law.go:110", after := #[], guard := none } : Oper)) rfl (fun K hK => ?_) AllReadyH.nil))
              · have hown := HOw.out u1 (HM2.out.e _ rfl)
                refine step_append_optT rfl (.tmp 55) (.tmp 56) rfl bse (.slice (some ⟨gb, 0, none⟩) LE cap) bb LE rfl hown B d more rfl HNn.out (HInW.out u1 HM2.out.below) (by omega) (by omega) (Nat.le_trans hbs (HM2.out.e _ rfl).size) (fun v5 u3 hv5 hg5 => ?_)
                replace hg5 : World.grownBy _ u3 (some gb) := hg5
                obtain ⟨gb', cap', rfl, hcap', hgb', hin5⟩ := own_inBM hv5 HCat.out.symm (by omega)
                have HM4 := Lib.hid (HM2.out.app hg5 hgb0 (fun g hg => fun e => own_ne hown (HM2.out.a g hg).1 (by decide) (by rw [e]; rfl)))
                have HMt := Lib.hid (HMg.out gb' cap' u3 hcap' hin5 (HE0.out.below HM4.out.below))
                clear hown hv5 hg5 hin5 hgb'
                refine hK.out _ _ HM4.out.below (fun hHeld => ?_)
                clear hK K
                try simp only [Act.put, List.setIfInBounds_toArray, List.set_cons_zero, List.set_cons_succ]
                refine wpAnyH_ready (rs := [13, 17]) (by kernel_rfl) (by simp) ?_
                refine (AllReadyH.cons (o := ({ dst := some 58, op := Go.Op.call { callee := Go.Callee.value (Go.Operand.func 20), args := #[Go.Operand.tmp 45, Go.Operand.tmp 47, Go.Operand.tmp 49, Go.Operand.tmp 51, Go.Operand.tmp 53, Go.Operand.tmp 57], argTypes := #[46, 3, 3, 32, 3, 38] }, type := 48, pos := "law.go:110", after := #[{ on := 0, ground := Go.Ground.data }, { on := 2, ground := Go.Ground.data }, { on := 4, ground := Go.Ground.data }, { on := 6, ground := Go.Ground.data }, { on := 8, ground := Go.Ground.data }, { on := 12, ground := Go.Ground.data }, { on := 12, ground := Go.Ground.chain }], guard := none } : Oper)) rfl (fun K hK => ?_) (AllReadyH.cons (o := ({ dst := some 11, op := Go.Op.alloc 29, type := 0, pos := "law.go:110", after := #[], guard := none } : Oper)) rfl (fun K hK => ?_) AllReadyH.nil))
                · go_simp
                  go_at_call 20
                  refine (HMt.out _ (HM4.out.e _ rfl)).mono ?_
                  intro e' u5 hmm
                  obtain ⟨C, rfl, hbm, hmr⟩ := hmm.flat
                  have HM6 := Lib.hid ((HM4.out.to hbm).withM hmr)
                  refine hK.out _ _ HM6.out.below (fun hHeld => ?_)
                  clear hK K hbm hmm hmr
                  try simp only [Act.put, List.setIfInBounds_toArray, List.set_cons_zero, List.set_cons_succ]
                  refine wpAnyH_take (i := 14) (oi := ({ dst := some 44, op := Go.Op.move (Go.Operand.tmp 58), type := 48, pos := "law.go:110", after := #[{ on := 13, ground := Go.Ground.data }], guard := none } : Oper)) (v := .tuple #[.agg C, .bool okb]) rfl (by kernel_rfl) (by kernel_rfl) (by kernel_rfl) (fun _ _ _ h => h) (Or.inl ⟨by rfl, fun w' hS' => ?_⟩) hHeld ?_
                  · go_simp
                  try simp only [Act.put, List.setIfInBounds_toArray, List.set_cons_zero, List.set_cons_succ]
                  refine wpAnyH_take (i := 15) (oi := ({ dst := some 59, op := Go.Op.extract (Go.Operand.tmp 44) 0, type := 29, pos := "law.go:110", after := #[{ on := 14, ground := Go.Ground.data }], guard := none } : Oper)) (v := .agg C) rfl (by kernel_rfl) (by kernel_rfl) (by kernel_rfl) (fun _ _ _ h => h) (Or.inl ⟨by rfl, fun w' hS' => ?_⟩) hHeld ?_
                  · go_simp
                  try simp only [Act.put, List.setIfInBounds_toArray, List.set_cons_zero, List.set_cons_succ]
                  refine wpAnyH_take (i := 16) (oi := ({ dst := some 60, op := Go.Op.extract (Go.Operand.tmp 44) 1, type := 4, pos := "law.go:110", after := #[{ on := 14, ground := Go.Ground.data }, { on := 18, ground := Go.Ground.gcOnly Go.Departure.lateStores }], guard := none } : Oper)) (v := .bool okb) rfl (by kernel_rfl) (by kernel_rfl) (by kernel_rfl) (fun _ _ _ h => h) (Or.inl ⟨by rfl, fun w' hS' => ?_⟩) hHeld ?_
                  · go_simp
                  try simp only [Act.put, List.setIfInBounds_toArray, List.set_cons_zero, List.set_cons_succ]
                  refine wpAnyH_ready (rs := [17]) (by kernel_rfl) (by simp) ?_
                  refine (AllReadyH.cons (o := ({ dst := some 11, op := Go.Op.alloc 29, type := 0, pos := "law.go:110", after := #[], guard := none } : Oper)) rfl (fun K hK => ?_) AllReadyH.nil)
                  go_simp
                  refine hK.out _ _ (HM6.out.below.alloc HM6.out.below.size _) (fun hHeld => ?_)
                  clear hK K
                  try simp only [Act.put, List.setIfInBounds_toArray, List.set_cons_zero, List.set_cons_succ]
                  have HM8 := Lib.hid (HM6.out.withA)
                  unfold zMsg at HM8
                  generalize u5.alloc (.cells #[.int .i64 0, .bool false, .bool false, .bool false, .int .i64 0, .string ⟨#[]⟩, .int .i64 0, .slice none 0 0, .slice none 0 0] 29) = u7 at HM8 hHeld ⊢
                  refine wpAnyH_ready (rs := [18]) (by kernel_rfl) (by simp) ?_
                  refine (AllReadyH.cons (o := ({ dst := none, op := Go.Op.store 29 (Go.Operand.tmp 11) (Go.Operand.tmp 59), type := 0, pos := "law.go:110", after := #[{ on := 17, ground := Go.Ground.data }, { on := 15, ground := Go.Ground.data }, { on := 13, ground := Go.Ground.chain }, { on := 0, ground := Go.Ground.phase }, { on := 1, ground := Go.Ground.phase }, { on := 2, ground := Go.Ground.phase }, { on := 3, ground := Go.Ground.phase }, { on := 4, ground := Go.Ground.phase }, { on := 5, ground := Go.Ground.phase }, { on := 6, ground := Go.Ground.phase }, { on := 7, ground := Go.Ground.phase }, { on := 8, ground := Go.Ground.phase }, { on := 9, ground := Go.Ground.phase }, { on := 10, ground := Go.Ground.phase }, { on := 11, ground := Go.Ground.phase }, { on := 12, ground := Go.Ground.phase }, { on := 13, ground := Go.Ground.phase }, { on := 14, ground := Go.Ground.phase }, { on := 15, ground := Go.Ground.phase }, { on := 16, ground := Go.Ground.textOnly Go.Departure.lateStores }, { on := 17, ground := Go.Ground.phase }], guard := none } : Oper)) rfl (fun K hK => ?_) AllReadyH.nil)
                  obtain ⟨hz9, ho9⟩ := (HM8.out.c C rfl).size
                  refine step_store_tr rfl 29 (.tmp 11) (.tmp 59) rfl (u5.heap.size) zMsg C 29 (HM8.out.a _ rfl).1 rfl rfl (by rw [hz9]; exact sizeM9) (by rw [hz9]; rfl) ho9 (fun w4 hg4 hw4 hs4 => ?_)
                  have HFn := Lib.hid (HM8.out.fin hg4.out hw4.out)
                  refine hK.out _ _ HFn.out.below (fun hHeld => ?_)
                  clear hK K
                  refine wpAnyH_take (i := 19) (oi := ({ dst := some 12, op := Go.Op.assign (Go.Operand.tmp 60), type := 4, pos := "law.go:110", after := #[{ on := 16, ground := Go.Ground.data }, { on := 18, ground := Go.Ground.chain }, { on := 0, ground := Go.Ground.phase }, { on := 1, ground := Go.Ground.phase }, { on := 2, ground := Go.Ground.phase }, { on := 3, ground := Go.Ground.phase }, { on := 4, ground := Go.Ground.phase }, { on := 5, ground := Go.Ground.phase }, { on := 6, ground := Go.Ground.phase }, { on := 7, ground := Go.Ground.phase }, { on := 8, ground := Go.Ground.phase }, { on := 9, ground := Go.Ground.phase }, { on := 10, ground := Go.Ground.phase }, { on := 11, ground := Go.Ground.phase }, { on := 12, ground := Go.Ground.phase }, { on := 13, ground := Go.Ground.phase }, { on := 14, ground := Go.Ground.phase }, { on := 15, ground := Go.Ground.phase }, { on := 16, ground := Go.Ground.phase }, { on := 17, ground := Go.Ground.phase }, { on := 18, ground := Go.Ground.phase }], guard := none } : Oper)) (v := .bool okb) rfl (by kernel_rfl) (by kernel_rfl) (by kernel_rfl) (fun _ _ _ h => h) (Or.inl ⟨by rfl, fun w' hS' => ?_⟩) hHeld ?_
                  · go_simp
                  try simp only [Act.put, List.setIfInBounds_toArray, List.set_cons_zero, List.set_cons_succ]
                  refine wpAnyH_done (by kernel_rfl) ?_ _
                  try (go_wp2_with fail)
                  go_meet
                  case rel => exact ⟨_, C, rfl, rfl, HFn⟩
                · go_simp
                  refine hK.out _ _ (HM4.out.below.alloc HM4.out.below.size _) (fun hHeld => ?_)
                  clear hK K
                  try simp only [Act.put, List.setIfInBounds_toArray, List.set_cons_zero, List.set_cons_succ]
                  have HM10 := Lib.hid (HM4.out.withA)
                  unfold zMsg at HM10
                  generalize u3.alloc (.cells #[.int .i64 0, .bool false, .bool false, .bool false, .int .i64 0, .string ⟨#[]⟩, .int .i64 0, .slice none 0 0, .slice none 0 0] 29) = u9 at HM10 hHeld ⊢
                  refine wpAnyH_ready (rs := [13]) (by kernel_rfl) (by simp) ?_
                  refine (AllReadyH.cons (o := ({ dst := some 58, op := Go.Op.call { callee := Go.Callee.value (Go.Operand.func 20), args := #[Go.Operand.tmp 45, Go.Operand.tmp 47, Go.Operand.tmp 49, Go.Operand.tmp 51, Go.Operand.tmp 53, Go.Operand.tmp 57], argTypes := #[46, 3, 3, 32, 3, 38] }, type := 48, pos := "law.go:110", after := #[{ on := 0, ground := Go.Ground.data }, { on := 2, ground := Go.Ground.data }, { on := 4, ground := Go.Ground.data }, { on := 6, ground := Go.Ground.data }, { on := 8, ground := Go.Ground.data }, { on := 12, ground := Go.Ground.data }, { on := 12, ground := Go.Ground.chain }], guard := none } : Oper)) rfl (fun K hK => ?_) AllReadyH.nil)
                  go_simp
                  go_at_call 20
                  refine (HMt.out _ (HM10.out.e _ rfl)).mono ?_
                  intro e' u11 hmm
                  obtain ⟨C, rfl, hbm, hmr⟩ := hmm.flat
                  have HM12 := Lib.hid ((HM10.out.to hbm).withM hmr)
                  refine hK.out _ _ HM12.out.below (fun hHeld => ?_)
                  clear hK K hbm hmm hmr
                  try simp only [Act.put, List.setIfInBounds_toArray, List.set_cons_zero, List.set_cons_succ]
                  refine wpAnyH_take (i := 14) (oi := ({ dst := some 44, op := Go.Op.move (Go.Operand.tmp 58), type := 48, pos := "law.go:110", after := #[{ on := 13, ground := Go.Ground.data }], guard := none } : Oper)) (v := .tuple #[.agg C, .bool okb]) rfl (by kernel_rfl) (by kernel_rfl) (by kernel_rfl) (fun _ _ _ h => h) (Or.inl ⟨by rfl, fun w' hS' => ?_⟩) hHeld ?_
                  · go_simp
                  try simp only [Act.put, List.setIfInBounds_toArray, List.set_cons_zero, List.set_cons_succ]
                  refine wpAnyH_take (i := 15) (oi := ({ dst := some 59, op := Go.Op.extract (Go.Operand.tmp 44) 0, type := 29, pos := "law.go:110", after := #[{ on := 14, ground := Go.Ground.data }], guard := none } : Oper)) (v := .agg C) rfl (by kernel_rfl) (by kernel_rfl) (by kernel_rfl) (fun _ _ _ h => h) (Or.inl ⟨by rfl, fun w' hS' => ?_⟩) hHeld ?_
                  · go_simp
                  try simp only [Act.put, List.setIfInBounds_toArray, List.set_cons_zero, List.set_cons_succ]
                  refine wpAnyH_take (i := 16) (oi := ({ dst := some 60, op := Go.Op.extract (Go.Operand.tmp 44) 1, type := 4, pos := "law.go:110", after := #[{ on := 14, ground := Go.Ground.data }, { on := 18, ground := Go.Ground.gcOnly Go.Departure.lateStores }], guard := none } : Oper)) (v := .bool okb) rfl (by kernel_rfl) (by kernel_rfl) (by kernel_rfl) (fun _ _ _ h => h) (Or.inl ⟨by rfl, fun w' hS' => ?_⟩) hHeld ?_
                  · go_simp
                  try simp only [Act.put, List.setIfInBounds_toArray, List.set_cons_zero, List.set_cons_succ]
                  refine wpAnyH_ready (rs := [18]) (by kernel_rfl) (by simp) ?_
                  refine (AllReadyH.cons (o := ({ dst := none, op := Go.Op.store 29 (Go.Operand.tmp 11) (Go.Operand.tmp 59), type := 0, pos := "law.go:110", after := #[{ on := 17, ground := Go.Ground.data }, { on := 15, ground := Go.Ground.data }, { on := 13, ground := Go.Ground.chain }, { on := 0, ground := Go.Ground.phase }, { on := 1, ground := Go.Ground.phase }, { on := 2, ground := Go.Ground.phase }, { on := 3, ground := Go.Ground.phase }, { on := 4, ground := Go.Ground.phase }, { on := 5, ground := Go.Ground.phase }, { on := 6, ground := Go.Ground.phase }, { on := 7, ground := Go.Ground.phase }, { on := 8, ground := Go.Ground.phase }, { on := 9, ground := Go.Ground.phase }, { on := 10, ground := Go.Ground.phase }, { on := 11, ground := Go.Ground.phase }, { on := 12, ground := Go.Ground.phase }, { on := 13, ground := Go.Ground.phase }, { on := 14, ground := Go.Ground.phase }, { on := 15, ground := Go.Ground.phase }, { on := 16, ground := Go.Ground.textOnly Go.Departure.lateStores }, { on := 17, ground := Go.Ground.phase }], guard := none } : Oper)) rfl (fun K hK => ?_) AllReadyH.nil)
                  obtain ⟨hz9, ho9⟩ := (HM12.out.c C rfl).size
                  refine step_store_tr rfl 29 (.tmp 11) (.tmp 59) rfl (u3.heap.size) zMsg C 29 (HM12.out.a _ rfl).1 rfl rfl (by rw [hz9]; exact sizeM9) (by rw [hz9]; rfl) ho9 (fun w4 hg4 hw4 hs4 => ?_)
                  have HFn := Lib.hid (HM12.out.fin hg4.out hw4.out)
                  refine hK.out _ _ HFn.out.below (fun hHeld => ?_)
                  clear hK K
                  refine wpAnyH_take (i := 19) (oi := ({ dst := some 12, op := Go.Op.assign (Go.Operand.tmp 60), type := 4, pos := "law.go:110", after := #[{ on := 16, ground := Go.Ground.data }, { on := 18, ground := Go.Ground.chain }, { on := 0, ground := Go.Ground.phase }, { on := 1, ground := Go.Ground.phase }, { on := 2, ground := Go.Ground.phase }, { on := 3, ground := Go.Ground.phase }, { on := 4, ground := Go.Ground.phase }, { on := 5, ground := Go.Ground.phase }, { on := 6, ground := Go.Ground.phase }, { on := 7, ground := Go.Ground.phase }, { on := 8, ground := Go.Ground.phase }, { on := 9, ground := Go.Ground.phase }, { on := 10, ground := Go.Ground.phase }, { on := 11, ground := Go.Ground.phase }, { on := 12, ground := Go.Ground.phase }, { on := 13, ground := Go.Ground.phase }, { on := 14, ground := Go.Ground.phase }, { on := 15, ground := Go.Ground.phase }, { on := 16, ground := Go.Ground.phase }, { on := 17, ground := Go.Ground.phase }, { on := 18, ground := Go.Ground.phase }], guard := none } : Oper)) (v := .bool okb) rfl (by kernel_rfl) (by kernel_rfl) (by kernel_rfl) (fun _ _ _ h => h) (Or.inl ⟨by rfl, fun w' hS' => ?_⟩) hHeld ?_
                  · go_simp
                  try simp only [Act.put, List.setIfInBounds_toArray, List.set_cons_zero, List.set_cons_succ]
                  refine wpAnyH_done (by kernel_rfl) ?_ _
                  try (go_wp2_with fail)
                  go_meet
                  case rel => exact ⟨_, C, rfl, rfl, HFn⟩
              · go_simp
                refine hK.out _ _ (HM2.out.below.alloc HM2.out.below.size _) (fun hHeld => ?_)
                clear hK K
                try simp only [Act.put, List.setIfInBounds_toArray, List.set_cons_zero, List.set_cons_succ]
                have HM14 := Lib.hid (HM2.out.withA)
                unfold zMsg at HM14
                generalize u1.alloc (.cells #[.int .i64 0, .bool false, .bool false, .bool false, .int .i64 0, .string ⟨#[]⟩, .int .i64 0, .slice none 0 0, .slice none 0 0] 29) = u13 at HM14 hHeld ⊢
                refine wpAnyH_ready (rs := [12]) (by kernel_rfl) (by simp) ?_
                refine (AllReadyH.cons (o := ({ dst := some 57, op := Go.Op.call { callee := Go.Callee.builtin Go.Builtin.append, args := #[Go.Operand.tmp 55, Go.Operand.tmp 56], argTypes := #[38, 38] }, type := 38, pos := "law.go:110", after := #[{ on := 10, ground := Go.Ground.data }, { on := 11, ground := Go.Ground.data }, { on := 10, ground := Go.Ground.chain }], guard := none } : Oper)) rfl (fun K hK => ?_) AllReadyH.nil)
                have hown := HOw.out u13 (HM14.out.e _ rfl)
                refine step_append_optT rfl (.tmp 55) (.tmp 56) rfl bse (.slice (some ⟨gb, 0, none⟩) LE cap) bb LE rfl hown B d more rfl HNn.out (HInW.out u13 HM14.out.below) (by omega) (by omega) (Nat.le_trans hbs (HM14.out.e _ rfl).size) (fun v5 u15 hv5 hg5 => ?_)
                replace hg5 : World.grownBy _ u15 (some gb) := hg5
                obtain ⟨gb', cap', rfl, hcap', hgb', hin5⟩ := own_inBM hv5 HCat.out.symm (by omega)
                have HM16 := Lib.hid (HM14.out.app hg5 hgb0 (fun g hg => fun e => own_ne hown (HM14.out.a g hg).1 (by decide) (by rw [e]; rfl)))
                have HMt := Lib.hid (HMg.out gb' cap' u15 hcap' hin5 (HE0.out.below HM16.out.below))
                clear hown hv5 hg5 hin5 hgb'
                refine hK.out _ _ HM16.out.below (fun hHeld => ?_)
                clear hK K
                try simp only [Act.put, List.setIfInBounds_toArray, List.set_cons_zero, List.set_cons_succ]
                refine wpAnyH_ready (rs := [13]) (by kernel_rfl) (by simp) ?_
                refine (AllReadyH.cons (o := ({ dst := some 58, op := Go.Op.call { callee := Go.Callee.value (Go.Operand.func 20), args := #[Go.Operand.tmp 45, Go.Operand.tmp 47, Go.Operand.tmp 49, Go.Operand.tmp 51, Go.Operand.tmp 53, Go.Operand.tmp 57], argTypes := #[46, 3, 3, 32, 3, 38] }, type := 48, pos := "law.go:110", after := #[{ on := 0, ground := Go.Ground.data }, { on := 2, ground := Go.Ground.data }, { on := 4, ground := Go.Ground.data }, { on := 6, ground := Go.Ground.data }, { on := 8, ground := Go.Ground.data }, { on := 12, ground := Go.Ground.data }, { on := 12, ground := Go.Ground.chain }], guard := none } : Oper)) rfl (fun K hK => ?_) AllReadyH.nil)
                go_simp
                go_at_call 20
                refine (HMt.out _ (HM16.out.e _ rfl)).mono ?_
                intro e' u17 hmm
                obtain ⟨C, rfl, hbm, hmr⟩ := hmm.flat
                have HM18 := Lib.hid ((HM16.out.to hbm).withM hmr)
                refine hK.out _ _ HM18.out.below (fun hHeld => ?_)
                clear hK K hbm hmm hmr
                try simp only [Act.put, List.setIfInBounds_toArray, List.set_cons_zero, List.set_cons_succ]
                refine wpAnyH_take (i := 14) (oi := ({ dst := some 44, op := Go.Op.move (Go.Operand.tmp 58), type := 48, pos := "law.go:110", after := #[{ on := 13, ground := Go.Ground.data }], guard := none } : Oper)) (v := .tuple #[.agg C, .bool okb]) rfl (by kernel_rfl) (by kernel_rfl) (by kernel_rfl) (fun _ _ _ h => h) (Or.inl ⟨by rfl, fun w' hS' => ?_⟩) hHeld ?_
                · go_simp
                try simp only [Act.put, List.setIfInBounds_toArray, List.set_cons_zero, List.set_cons_succ]
                refine wpAnyH_take (i := 15) (oi := ({ dst := some 59, op := Go.Op.extract (Go.Operand.tmp 44) 0, type := 29, pos := "law.go:110", after := #[{ on := 14, ground := Go.Ground.data }], guard := none } : Oper)) (v := .agg C) rfl (by kernel_rfl) (by kernel_rfl) (by kernel_rfl) (fun _ _ _ h => h) (Or.inl ⟨by rfl, fun w' hS' => ?_⟩) hHeld ?_
                · go_simp
                try simp only [Act.put, List.setIfInBounds_toArray, List.set_cons_zero, List.set_cons_succ]
                refine wpAnyH_take (i := 16) (oi := ({ dst := some 60, op := Go.Op.extract (Go.Operand.tmp 44) 1, type := 4, pos := "law.go:110", after := #[{ on := 14, ground := Go.Ground.data }, { on := 18, ground := Go.Ground.gcOnly Go.Departure.lateStores }], guard := none } : Oper)) (v := .bool okb) rfl (by kernel_rfl) (by kernel_rfl) (by kernel_rfl) (fun _ _ _ h => h) (Or.inl ⟨by rfl, fun w' hS' => ?_⟩) hHeld ?_
                · go_simp
                try simp only [Act.put, List.setIfInBounds_toArray, List.set_cons_zero, List.set_cons_succ]
                refine wpAnyH_ready (rs := [18]) (by kernel_rfl) (by simp) ?_
                refine (AllReadyH.cons (o := ({ dst := none, op := Go.Op.store 29 (Go.Operand.tmp 11) (Go.Operand.tmp 59), type := 0, pos := "law.go:110", after := #[{ on := 17, ground := Go.Ground.data }, { on := 15, ground := Go.Ground.data }, { on := 13, ground := Go.Ground.chain }, { on := 0, ground := Go.Ground.phase }, { on := 1, ground := Go.Ground.phase }, { on := 2, ground := Go.Ground.phase }, { on := 3, ground := Go.Ground.phase }, { on := 4, ground := Go.Ground.phase }, { on := 5, ground := Go.Ground.phase }, { on := 6, ground := Go.Ground.phase }, { on := 7, ground := Go.Ground.phase }, { on := 8, ground := Go.Ground.phase }, { on := 9, ground := Go.Ground.phase }, { on := 10, ground := Go.Ground.phase }, { on := 11, ground := Go.Ground.phase }, { on := 12, ground := Go.Ground.phase }, { on := 13, ground := Go.Ground.phase }, { on := 14, ground := Go.Ground.phase }, { on := 15, ground := Go.Ground.phase }, { on := 16, ground := Go.Ground.textOnly Go.Departure.lateStores }, { on := 17, ground := Go.Ground.phase }], guard := none } : Oper)) rfl (fun K hK => ?_) AllReadyH.nil)
                obtain ⟨hz9, ho9⟩ := (HM18.out.c C rfl).size
                refine step_store_tr rfl 29 (.tmp 11) (.tmp 59) rfl (u1.heap.size) zMsg C 29 (HM18.out.a _ rfl).1 rfl rfl (by rw [hz9]; exact sizeM9) (by rw [hz9]; rfl) ho9 (fun w4 hg4 hw4 hs4 => ?_)
                have HFn := Lib.hid (HM18.out.fin hg4.out hw4.out)
                refine hK.out _ _ HFn.out.below (fun hHeld => ?_)
                clear hK K
                refine wpAnyH_take (i := 19) (oi := ({ dst := some 12, op := Go.Op.assign (Go.Operand.tmp 60), type := 4, pos := "law.go:110", after := #[{ on := 16, ground := Go.Ground.data }, { on := 18, ground := Go.Ground.chain }, { on := 0, ground := Go.Ground.phase }, { on := 1, ground := Go.Ground.phase }, { on := 2, ground := Go.Ground.phase }, { on := 3, ground := Go.Ground.phase }, { on := 4, ground := Go.Ground.phase }, { on := 5, ground := Go.Ground.phase }, { on := 6, ground := Go.Ground.phase }, { on := 7, ground := Go.Ground.phase }, { on := 8, ground := Go.Ground.phase }, { on := 9, ground := Go.Ground.phase }, { on := 10, ground := Go.Ground.phase }, { on := 11, ground := Go.Ground.phase }, { on := 12, ground := Go.Ground.phase }, { on := 13, ground := Go.Ground.phase }, { on := 14, ground := Go.Ground.phase }, { on := 15, ground := Go.Ground.phase }, { on := 16, ground := Go.Ground.phase }, { on := 17, ground := Go.Ground.phase }, { on := 18, ground := Go.Ground.phase }], guard := none } : Oper)) (v := .bool okb) rfl (by kernel_rfl) (by kernel_rfl) (by kernel_rfl) (fun _ _ _ h => h) (Or.inl ⟨by rfl, fun w' hS' => ?_⟩) hHeld ?_
                · go_simp
                try simp only [Act.put, List.setIfInBounds_toArray, List.set_cons_zero, List.set_cons_succ]
                refine wpAnyH_done (by kernel_rfl) ?_ _
                try (go_wp2_with fail)
                go_meet
                case rel => exact ⟨_, C, rfl, rfl, HFn⟩
            · go_simp
              refine hK.out _ _ (HM0.out.below.alloc HM0.out.below.size _) (fun hHeld => ?_)
              clear hK K
              try simp only [Act.put, List.setIfInBounds_toArray, List.set_cons_zero, List.set_cons_succ]
              have HM20 := Lib.hid (HM0.out.withA)
              unfold zMsg at HM20
              generalize V0.alloc (.cells #[.int .i64 0, .bool false, .bool false, .bool false, .int .i64 0, .string ⟨#[]⟩, .int .i64 0, .slice none 0 0, .slice none 0 0] 29) = u19 at HM20 hHeld ⊢
              refine wpAnyH_ready (rs := [10]) (by kernel_rfl) (by simp) ?_
              refine (AllReadyH.cons (o := ({ dst := some 55, op := Go.Op.call { callee := Go.Callee.value (Go.Operand.func 15), args := #[Go.Operand.tmp 54], argTypes := #[29] }, type := 38, pos := "law.go:110", after := #[{ on := 9, ground := Go.Ground.data }], guard := none } : Oper)) rfl (fun K hK => ?_) AllReadyH.nil)
              go_simp
              go_at_call 15
              refine (HEn.out _ HM20.out.below).mono ?_
              rintro e' u21 ⟨gb, cap, rfl, hen⟩
              have HM22 := Lib.hid ((HM20.out.to hen.below).withE)
              have HOw : Hid (∀ W, Below u21.heap.size u21 W → W.ownsRow u19.heap.size 5 1 (.slice (some ⟨gb, 0, none⟩) LE cap) LE (bvs bb)) := Lib.hid (fun W h => by
                have h0 := HOe.out _ _ _ _ hen
                exact h0.kept (row := none) ⟨h.os, h.tape, h.output, h.size, fun k hk _ => h.block k hk⟩ (Classical.em _))
              have hgb0 : W5.heap.size ≤ gb := Nat.le_trans HM20.out.below.size hen.hb
              have hbs := hen.below.size
              generalize u19.heap.size = bse at HOw hbs
              refine hK.out _ _ HM22.out.below (fun hHeld => ?_)
              clear hK K hen
              try simp only [Act.put, List.setIfInBounds_toArray, List.set_cons_zero, List.set_cons_succ]
              refine wpAnyH_ready (rs := [12]) (by kernel_rfl) (by simp) ?_
              refine (AllReadyH.cons (o := ({ dst := some 57, op := Go.Op.call { callee := Go.Callee.builtin Go.Builtin.append, args := #[Go.Operand.tmp 55, Go.Operand.tmp 56], argTypes := #[38, 38] }, type := 38, pos := "law.go:110", after := #[{ on := 10, ground := Go.Ground.data }, { on := 11, ground := Go.Ground.data }, { on := 10, ground := Go.Ground.chain }], guard := none } : Oper)) rfl (fun K hK => ?_) AllReadyH.nil)
              have hown := HOw.out u21 (HM22.out.e _ rfl)
              refine step_append_optT rfl (.tmp 55) (.tmp 56) rfl bse (.slice (some ⟨gb, 0, none⟩) LE cap) bb LE rfl hown B d more rfl HNn.out (HInW.out u21 HM22.out.below) (by omega) (by omega) (Nat.le_trans hbs (HM22.out.e _ rfl).size) (fun v5 u23 hv5 hg5 => ?_)
              replace hg5 : World.grownBy _ u23 (some gb) := hg5
              obtain ⟨gb', cap', rfl, hcap', hgb', hin5⟩ := own_inBM hv5 HCat.out.symm (by omega)
              have HM24 := Lib.hid (HM22.out.app hg5 hgb0 (fun g hg => fun e => own_ne hown (HM22.out.a g hg).1 (by decide) (by rw [e]; rfl)))
              have HMt := Lib.hid (HMg.out gb' cap' u23 hcap' hin5 (HE0.out.below HM24.out.below))
              clear hown hv5 hg5 hin5 hgb'
              refine hK.out _ _ HM24.out.below (fun hHeld => ?_)
              clear hK K
              try simp only [Act.put, List.setIfInBounds_toArray, List.set_cons_zero, List.set_cons_succ]
              refine wpAnyH_ready (rs := [13]) (by kernel_rfl) (by simp) ?_
              refine (AllReadyH.cons (o := ({ dst := some 58, op := Go.Op.call { callee := Go.Callee.value (Go.Operand.func 20), args := #[Go.Operand.tmp 45, Go.Operand.tmp 47, Go.Operand.tmp 49, Go.Operand.tmp 51, Go.Operand.tmp 53, Go.Operand.tmp 57], argTypes := #[46, 3, 3, 32, 3, 38] }, type := 48, pos := "law.go:110", after := #[{ on := 0, ground := Go.Ground.data }, { on := 2, ground := Go.Ground.data }, { on := 4, ground := Go.Ground.data }, { on := 6, ground := Go.Ground.data }, { on := 8, ground := Go.Ground.data }, { on := 12, ground := Go.Ground.data }, { on := 12, ground := Go.Ground.chain }], guard := none } : Oper)) rfl (fun K hK => ?_) AllReadyH.nil)
              go_simp
              go_at_call 20
              refine (HMt.out _ (HM24.out.e _ rfl)).mono ?_
              intro e' u25 hmm
              obtain ⟨C, rfl, hbm, hmr⟩ := hmm.flat
              have HM26 := Lib.hid ((HM24.out.to hbm).withM hmr)
              refine hK.out _ _ HM26.out.below (fun hHeld => ?_)
              clear hK K hbm hmm hmr
              try simp only [Act.put, List.setIfInBounds_toArray, List.set_cons_zero, List.set_cons_succ]
              refine wpAnyH_take (i := 14) (oi := ({ dst := some 44, op := Go.Op.move (Go.Operand.tmp 58), type := 48, pos := "law.go:110", after := #[{ on := 13, ground := Go.Ground.data }], guard := none } : Oper)) (v := .tuple #[.agg C, .bool okb]) rfl (by kernel_rfl) (by kernel_rfl) (by kernel_rfl) (fun _ _ _ h => h) (Or.inl ⟨by rfl, fun w' hS' => ?_⟩) hHeld ?_
              · go_simp
              try simp only [Act.put, List.setIfInBounds_toArray, List.set_cons_zero, List.set_cons_succ]
              refine wpAnyH_take (i := 15) (oi := ({ dst := some 59, op := Go.Op.extract (Go.Operand.tmp 44) 0, type := 29, pos := "law.go:110", after := #[{ on := 14, ground := Go.Ground.data }], guard := none } : Oper)) (v := .agg C) rfl (by kernel_rfl) (by kernel_rfl) (by kernel_rfl) (fun _ _ _ h => h) (Or.inl ⟨by rfl, fun w' hS' => ?_⟩) hHeld ?_
              · go_simp
              try simp only [Act.put, List.setIfInBounds_toArray, List.set_cons_zero, List.set_cons_succ]
              refine wpAnyH_take (i := 16) (oi := ({ dst := some 60, op := Go.Op.extract (Go.Operand.tmp 44) 1, type := 4, pos := "law.go:110", after := #[{ on := 14, ground := Go.Ground.data }, { on := 18, ground := Go.Ground.gcOnly Go.Departure.lateStores }], guard := none } : Oper)) (v := .bool okb) rfl (by kernel_rfl) (by kernel_rfl) (by kernel_rfl) (fun _ _ _ h => h) (Or.inl ⟨by rfl, fun w' hS' => ?_⟩) hHeld ?_
              · go_simp
              try simp only [Act.put, List.setIfInBounds_toArray, List.set_cons_zero, List.set_cons_succ]
              refine wpAnyH_ready (rs := [18]) (by kernel_rfl) (by simp) ?_
              refine (AllReadyH.cons (o := ({ dst := none, op := Go.Op.store 29 (Go.Operand.tmp 11) (Go.Operand.tmp 59), type := 0, pos := "law.go:110", after := #[{ on := 17, ground := Go.Ground.data }, { on := 15, ground := Go.Ground.data }, { on := 13, ground := Go.Ground.chain }, { on := 0, ground := Go.Ground.phase }, { on := 1, ground := Go.Ground.phase }, { on := 2, ground := Go.Ground.phase }, { on := 3, ground := Go.Ground.phase }, { on := 4, ground := Go.Ground.phase }, { on := 5, ground := Go.Ground.phase }, { on := 6, ground := Go.Ground.phase }, { on := 7, ground := Go.Ground.phase }, { on := 8, ground := Go.Ground.phase }, { on := 9, ground := Go.Ground.phase }, { on := 10, ground := Go.Ground.phase }, { on := 11, ground := Go.Ground.phase }, { on := 12, ground := Go.Ground.phase }, { on := 13, ground := Go.Ground.phase }, { on := 14, ground := Go.Ground.phase }, { on := 15, ground := Go.Ground.phase }, { on := 16, ground := Go.Ground.textOnly Go.Departure.lateStores }, { on := 17, ground := Go.Ground.phase }], guard := none } : Oper)) rfl (fun K hK => ?_) AllReadyH.nil)
              obtain ⟨hz9, ho9⟩ := (HM26.out.c C rfl).size
              refine step_store_tr rfl 29 (.tmp 11) (.tmp 59) rfl (V0.heap.size) zMsg C 29 (HM26.out.a _ rfl).1 rfl rfl (by rw [hz9]; exact sizeM9) (by rw [hz9]; rfl) ho9 (fun w4 hg4 hw4 hs4 => ?_)
              have HFn := Lib.hid (HM26.out.fin hg4.out hw4.out)
              refine hK.out _ _ HFn.out.below (fun hHeld => ?_)
              clear hK K
              refine wpAnyH_take (i := 19) (oi := ({ dst := some 12, op := Go.Op.assign (Go.Operand.tmp 60), type := 4, pos := "law.go:110", after := #[{ on := 16, ground := Go.Ground.data }, { on := 18, ground := Go.Ground.chain }, { on := 0, ground := Go.Ground.phase }, { on := 1, ground := Go.Ground.phase }, { on := 2, ground := Go.Ground.phase }, { on := 3, ground := Go.Ground.phase }, { on := 4, ground := Go.Ground.phase }, { on := 5, ground := Go.Ground.phase }, { on := 6, ground := Go.Ground.phase }, { on := 7, ground := Go.Ground.phase }, { on := 8, ground := Go.Ground.phase }, { on := 9, ground := Go.Ground.phase }, { on := 10, ground := Go.Ground.phase }, { on := 11, ground := Go.Ground.phase }, { on := 12, ground := Go.Ground.phase }, { on := 13, ground := Go.Ground.phase }, { on := 14, ground := Go.Ground.phase }, { on := 15, ground := Go.Ground.phase }, { on := 16, ground := Go.Ground.phase }, { on := 17, ground := Go.Ground.phase }, { on := 18, ground := Go.Ground.phase }], guard := none } : Oper)) (v := .bool okb) rfl (by kernel_rfl) (by kernel_rfl) (by kernel_rfl) (fun _ _ _ h => h) (Or.inl ⟨by rfl, fun w' hS' => ?_⟩) hHeld ?_
              · go_simp
              try simp only [Act.put, List.setIfInBounds_toArray, List.set_cons_zero, List.set_cons_succ]
              refine wpAnyH_done (by kernel_rfl) ?_ _
              try (go_wp2_with fail)
              go_meet
              case rel => exact ⟨_, C, rfl, rfl, HFn⟩
          case rest =>
            obtain ⟨g, C, rfl, rfl, HFn⟩ := hcut
            revert HFn
            generalize wc = W7
            intro HFn
            have HTM := Lib.hid (HTL.out.to HFn.out.below)
            have HL7 := Lib.hid (HLi.out W7 HFn.out.below)
            have hok := HOk.out
            subst hok
            have hmr := HFn.out.r
            rcases hmr with ⟨h0, _⟩ | ⟨_, m', hm', hf', hl', hC⟩
            · cases h0
            · have HG := Lib.hid HFn.out.blk
              have SC : Hid ((Tryd.prog.info? 29).map (·.size) = some C.size) := Lib.hid (by rw [HFn.out.r.size.1]; exact sizeM9)
              have HSs := HSm.out m' W7 (by rw [HOm.out] at hm'; injection hm' with hm'; exact hm'.symm) hf' hl' HL7.out
              rw [← hC] at HSs
              have HS9 := Lib.hid HSs
              clear hm' hf' hl' hC HSs
              go_wp2_with (first
                | (refine wpList_row_gh 29 (.tmp 11) (by kernel_rfl) rfl g rfl 29 C (0, 0) _ HG.out Tryd.underlying29 rfl SC.out ?_; go_simp)
                | (refine wpList_row_gh 29 (.tmp 10) (by kernel_rfl) rfl gm rfl 29 MC (0, 0) _ HTM.out.m Tryd.underlying29 rfl SMr.out ?_; go_simp)
                | (go_at_call 17; refine HS9.out.mono ?_; rintro e w9 ⟨rfl, hb9⟩; have HB9 := Lib.hid (HTM.out.below.trans (hb9.mono HTM.out.below.size)); clear hb9; go_simp))
              go_ret
              exact ⟨rfl, HB9.out⟩

end Go.Proofs.YtmijoidogjablaaDoor
