/-
  The walk of ConfOptions: options are brought to what they may be; the last one counts. Condition: the library's variables hold what their initialisers lay.
-/
import Derived.Test.YtpnlgojbmjfhhaaGreatDoorConfPr
namespace Go.Proofs.YtpnlgojbmjfhhaaGreatDoor
open Go.RowKit

theorem and_4095 (n : Int) : ∃ m : Nat, m ≤ 4095 ∧ bits BinOp.and IntKind.i64 n 4095 = (m : Int) := by
  have hle : (BitVec.ofInt 64 n &&& BitVec.ofInt 64 4095).toNat ≤ 4095 := by
    rw [BitVec.toNat_and]
    exact Nat.le_trans Nat.and_le_right (by decide +kernel)
  refine ⟨(BitVec.ofInt 64 n &&& BitVec.ofInt 64 4095).toNat, hle, ?_⟩
  show IntKind.i64.wrap ((BitVec.ofInt 64 n &&& BitVec.ofInt 64 4095).toNat : Int) = _
  exact IntWalk.i64_in _ (by omega)
def op1 : List UInt8 := [111, 112, 116, 105, 111, 110, 115, 32, 110, 100, 111, 116, 115, 58, 57, 10, 111, 112, 116, 105, 111, 110, 115, 32, 116, 105, 109, 101, 111, 117, 116, 58]
def op2 : List UInt8 := [32, 110, 100, 111, 116, 115, 58]
def op3 : List UInt8 := [32, 97, 116, 116, 101, 109, 112, 116, 115, 58]
def opText (a b c : Nat) : List UInt8 := op1 ++ Go.Lib.decDigits b ++ op2 ++ Go.Lib.decDigits a ++ op3 ++ Go.Lib.decDigits c
def opConf (a b c : Nat) : ConfM := ⟨[], [], min a 15, min (max b 1) 30, min (max c 1) 5⟩
theorem op_pc (a b c : Nat) : PcR 1 ConfM.dflt ((nl (opText a b c)).map wordsL) 0 0 (opConf a b c) := by
  have e : opText a b c = lineW wOp [optW wNd 9] ++ 10 :: lineW wOp [optW wTi b, optW wNd a, optW wAt c] := by
    unfold opText lineW nmT optW op1 op2 op3 wOp wNd wTi wAt
    rw [show Go.Lib.decDigits 9 = [57] by rw [Go.Lib.decDigits, dif_pos (by decide)]; rfl]
    simp [List.flatMap_cons]
  have h1 := words_of (w := wOp) (ts := [optW wNd 9]) wOp_ok (fun t ht => by rw [List.mem_singleton.1 ht]; exact optW_ok wNd_ok _)
  have h2 := words_of (w := wOp) (ts := [optW wTi b, optW wNd a, optW wAt c]) wOp_ok (fun t ht => by
    simp only [List.mem_cons, List.not_mem_nil, or_false] at ht
    rcases ht with rfl | rfl | rfl
    · exact optW_ok wTi_ok _
    · exact optW_ok wNd_ok _
    · exact optW_ok wAt_ok _)
  rw [e, nl_append, nl_plain h1.2, nl_plain h2.2, List.map_append, List.map_singleton, List.map_singleton, h1.1, h2.1]
  refine .line (pc_opts (d := { ConfM.dflt with dots := 9 }) ?_) (.line (pc_opts (d := opConf a b c) ?_) .done)
  · rw [setOs, setO_opt (by decide), put_nd]; rfl
  · rw [setOs, setO_opt (by decide), put_ti]
    simp only
    rw [setOs, setO_opt (by decide), put_nd]
    simp only
    rw [setOs, setO_opt (by decide), put_at]
    simp only
    rw [setOs]
    unfold opConf ConfM.dflt
    simp only
    rw [show min (max (min b 30) 1) 30 = min (max b 1) 30 by omega, show min (min a 30) 15 = min a 15 by omega, show min (max (min c 30) 1) 5 = min (max c 1) 5 by omega]
theorem op_none {x : List UInt8} (h : numC (Go.Lib.cut x [58]).2.1 = none) : setOs ConfM.dflt [x] = none := by
  rw [setOs]
  unfold setO
  rw [h]
theorem op_rotate : PcR 1 ConfM.dflt ((nl [111, 112, 116, 105, 111, 110, 115, 32, 114, 111, 116, 97, 116, 101]).map wordsL) 1 6 ConfM.zero := by
  rw [show (nl [111, 112, 116, 105, 111, 110, 115, 32, 114, 111, 116, 97, 116, 101]).map wordsL = [[wOp, [114, 111, 116, 97, 116, 101]]] by decide +kernel]
  exact .fault (ln_opt_no (op_none (by decide +kernel))) (by decide)
theorem op_nought : PcR 1 ConfM.dflt ((nl [111, 112, 116, 105, 111, 110, 115, 32, 110, 100, 111, 116, 115, 58, 48, 49]).map wordsL) 1 6 ConfM.zero := by
  rw [show (nl [111, 112, 116, 105, 111, 110, 115, 32, 110, 100, 111, 116, 115, 58, 48, 49]).map wordsL = [[wOp, [110, 100, 111, 116, 115, 58, 48, 49]]] by decide +kernel]
  exact .fault (ln_opt_no (op_none (by decide +kernel))) (by decide)
/-- a configuration's value, under a name -/
theorem CV.arr {w : World} {val : Value} {c : ConfM} (h : CV w val c) : ∃ r : Array Value, val = .agg r ∧ zConf.size = r.size ∧ (Tryz.prog.info? 26).map (·.size) = some r.size ∧ r.all (·.oneCell') = true ∧
    r[2]? = some (.int .i64 c.dots) ∧ r[3]? = some (.int .i64 c.timeout) ∧ r[4]? = some (.int .i64 c.attempts) := by
  obtain ⟨v, x, e, ⟨A, c1, rfl, _⟩, ⟨A', rfl, _⟩, _⟩ := h
  exact ⟨_, e, rfl, sizeConf, cfV_one _ _ _ _ _ _ _, rfl, rfl, rfl⟩
set_option maxRecDepth 100000 in
set_option maxHeartbeats 16000000 in
theorem confOptions_walk (a0 b0 c0 : Int) (w : World) (he : AEnv w) (ht : ETy w) : Calls Tryz.prog 5 #[.int .i64 a0, .int .i64 b0, .int .i64 c0] w fun e w' => e = .returned (.bool true) ∧ Below w.heap.size w w' := by
  have hfit := fit7_e w he ht
  obtain ⟨a, ha, haB⟩ := and_4095 a0
  obtain ⟨b, hb, hbB⟩ := and_4095 b0
  obtain ⟨c, hc, hcB⟩ := and_4095 c0
  have HE := Lib.hid he
  have HDa : Hid (∀ W, Calls Tryz.prog 18 #[.int .i64 a] W fun e w' => e = .returned (.string (tb (Go.Lib.decDigits a))) ∧ Below W.heap.size W w') := Lib.hid (fun W => digits_e a W (by omega))
  have HDb : Hid (∀ W, Calls Tryz.prog 18 #[.int .i64 b] W fun e w' => e = .returned (.string (tb (Go.Lib.decDigits b))) ∧ Below W.heap.size W w') := Lib.hid (fun W => digits_e b W (by omega))
  have HDc : Hid (∀ W, Calls Tryz.prog 18 #[.int .i64 c] W fun e w' => e = .returned (.string (tb (Go.Lib.decDigits c))) ∧ Below W.heap.size W w') := Lib.hid (fun W => digits_e c W (by omega))
  have hDa : (tb (Go.Lib.decDigits a)).size ≤ 4096 := by rw [Lib.size_eq, tb_data]; have := dec_len a; omega
  have hDb : (tb (Go.Lib.decDigits b)).size ≤ 4096 := by rw [Lib.size_eq, tb_data]; have := dec_len b; omega
  have hDc : (tb (Go.Lib.decDigits c)).size ≤ 4096 := by rw [Lib.size_eq, tb_data]; have := dec_len c; omega
  have hX : (tb op1 ++ tb (Go.Lib.decDigits b) ++ tb op2 ++ tb (Go.Lib.decDigits a) ++ tb op3 ++ tb (Go.Lib.decDigits c)).data.toList = opText a b c := by simp [opText, tb_data]
  have HP : Hid (∀ W, AEnv W → Calls Tryz.prog 10 #[.string (tb op1 ++ tb (Go.Lib.decDigits b) ++ tb op2 ++ tb (Go.Lib.decDigits a) ++ tb op3 ++ tb (Go.Lib.decDigits c))] W (PaAt W 0 0 (opConf a b c))) := Lib.hid (fun W hW => cparse_at _ 0 0 _ (by rw [hX]; exact op_pc a b c) W hW (by
    have e1 : (tb op1).size = 32 := rfl
    have e2 : (tb op2).size = 7 := rfl
    have e3 : (tb op3).size = 10 := rfl
    simp only [ByteArray.size_append]
    omega))
  have HP2 : Hid (∀ W, AEnv W → Calls Tryz.prog 10 #[.string ⟨#[111, 112, 116, 105, 111, 110, 115, 32, 114, 111, 116, 97, 116, 101]⟩] W (PaAt W 1 6 ConfM.zero)) := Lib.hid (fun W hW => cparse_at _ 1 6 _ op_rotate W hW (by decide))
  have HP3 : Hid (∀ W, AEnv W → Calls Tryz.prog 10 #[.string ⟨#[111, 112, 116, 105, 111, 110, 115, 32, 110, 100, 111, 116, 115, 58, 48, 49]⟩] W (PaAt W 1 6 ConfM.zero)) := Lib.hid (fun W hW => cparse_at _ 1 6 _ op_nought W hW (by decide))
  rw [show tb op1 = ⟨#[111, 112, 116, 105, 111, 110, 115, 32, 110, 100, 111, 116, 115, 58, 57, 10, 111, 112, 116, 105, 111, 110, 115, 32, 116, 105, 109, 101, 111, 117, 116, 58]⟩ from rfl, show tb op2 = ⟨#[32, 110, 100, 111, 116, 115, 58]⟩ from rfl, show tb op3 = ⟨#[32, 97, 116, 116, 101, 109, 112, 116, 115, 58]⟩ from rfl] at HP
  clear hX
  generalize tb (Go.Lib.decDigits a) = Da at HP HDa hDa
  generalize tb (Go.Lib.decDigits b) = Db at HP HDb hDb
  generalize tb (Go.Lib.decDigits c) = Dc at HP HDc hDc
  have z1 : (ByteArray.mk #[111, 112, 116, 105, 111, 110, 115, 32, 110, 100, 111, 116, 115, 58, 57, 10, 111, 112, 116, 105, 111, 110, 115, 32, 116, 105, 109, 101, 111, 117, 116, 58]).size = 32 := rfl
  have z2 : (ByteArray.mk #[32, 110, 100, 111, 116, 115, 58]).size = 7 := rfl
  have z3 : (ByteArray.mk #[32, 97, 116, 116, 101, 109, 112, 116, 115, 58]).size = 10 := rfl
  have hA1 := fun W => run_string_add_sum (P := Tryz.prog) (w := W) ⟨#[111, 112, 116, 105, 111, 110, 115, 32, 110, 100, 111, 116, 115, 58, 57, 10, 111, 112, 116, 105, 111, 110, 115, 32, 116, 105, 109, 101, 111, 117, 116, 58]⟩ Db (by rw [z1]; omega)
  generalize hx1 : (ByteArray.mk #[111, 112, 116, 105, 111, 110, 115, 32, 110, 100, 111, 116, 115, 58, 57, 10, 111, 112, 116, 105, 111, 110, 115, 32, 116, 105, 109, 101, 111, 117, 116, 58]) ++ Db = X1 at HP hA1
  have s1 : X1.size ≤ 5000 := by rw [← hx1, ByteArray.size_append, z1]; omega
  have hA2 := fun W => run_string_add_sum (P := Tryz.prog) (w := W) X1 ⟨#[32, 110, 100, 111, 116, 115, 58]⟩ (by rw [z2]; omega)
  generalize hx2 : X1 ++ ⟨#[32, 110, 100, 111, 116, 115, 58]⟩ = X2 at HP hA2
  have s2 : X2.size ≤ 5100 := by rw [← hx2, ByteArray.size_append, z2]; omega
  have hA3 := fun W => run_string_add_sum (P := Tryz.prog) (w := W) X2 Da (by omega)
  generalize hx3 : X2 ++ Da = X3 at HP hA3
  have s3 : X3.size ≤ 10000 := by rw [← hx3, ByteArray.size_append]; omega
  have hA4 := fun W => run_string_add_sum (P := Tryz.prog) (w := W) X3 ⟨#[32, 97, 116, 116, 101, 109, 112, 116, 115, 58]⟩ (by rw [z3]; omega)
  generalize hx4 : X3 ++ ⟨#[32, 97, 116, 116, 101, 109, 112, 116, 115, 58]⟩ = X4 at HP hA4
  have s4 : X4.size ≤ 10100 := by rw [← hx4, ByteArray.size_append, z3]; omega
  have hA5 := fun W => run_string_add_sum (P := Tryz.prog) (w := W) X4 Dc (by omega)
  generalize X4 ++ Dc = X5 at HP hA5
  clear hx1 hx2 hx3 hx4 z1 z2 z3 s1 s2 s3 s4 hDa hDb hDc
  have hmin1 : min (a : Int) 15 = ((min a 15 : Nat) : Int) := by omega
  have hmax2 : max (b : Int) 1 = ((max b 1 : Nat) : Int) := by omega
  have hmin2 : min ((max b 1 : Nat) : Int) 30 = ((min (max b 1) 30 : Nat) : Int) := by omega
  have hmax3 : max (c : Int) 1 = ((max c 1 : Nat) : Int) := by omega
  have hmin3 : min ((max c 1 : Nat) : Int) 5 = ((min (max c 1) 5 : Nat) : Int) := by omega
  have HCV : Hid (∀ W val, CV W val (opConf a b c) → ∃ r : Array Value, val = .agg r ∧ zConf.size = r.size ∧ (Tryz.prog.info? 26).map (·.size) = some r.size ∧ r.all (·.oneCell') = true ∧ r[2]? = some (.int .i64 ((min a 15 : Nat) : Int)) ∧ r[3]? = some (.int .i64 ((min (max b 1) 30 : Nat) : Int)) ∧ r[4]? = some (.int .i64 ((min (max c 1) 5 : Nat) : Int))) := Lib.hid (fun W val h => CV.arr h)
  generalize min (max b 1) 30 = q2 at hmin2 HCV
  generalize max b 1 = q1 at hmin2 hmax2
  generalize min (max c 1) 5 = q4 at hmin3 HCV
  generalize max c 1 = q3 at hmin3 hmax3
  generalize min a 15 = q0 at hmin1 HCV
  have HZ := Lib.hid zeroConf
  have HZS : Hid (∀ W val, CV W val ConfM.zero → ∃ r : Array Value, val = .agg r ∧ zConf.size = r.size ∧ (Tryz.prog.info? 26).map (·.size) = some r.size ∧ r.all (·.oneCell') = true) := Lib.hid (fun W val h => by
    obtain ⟨r, h1, h2, h3, h4, _⟩ := CV.arr h
    exact ⟨r, h1, h2, h3, h4⟩)
  have HBu := Lib.hid builtZero
  have HSame : Hid (∀ W (r : Array Value), CV W (.agg r) ConfM.zero → Calls Tryz.prog 11 #[.agg r, .agg zConf] W fun e w' => e = .returned (.bool true) ∧ Below W.heap.size W w') := Lib.hid (fun W r h => same_e ConfM.zero _ _ W h (CV.zero W) (by decide) (by decide) (by decide))
  generalize zConf = Z at HZ HZS HBu HSame HCV
  clear he ht ha hb hc
  go_enter Tryz.func5, Tryz.ntmps5
  go_wp2_with (go_at_call 9; refine hfit.mono ?_; rintro e w1 ⟨rfl, hb1⟩; have HB1 := Lib.hid hb1; clear hb1)
  refine (HDb.out _).mono ?_
  rintro e w2 ⟨rfl, hb2⟩
  have HB2 := Lib.hid (HB1.out.trans (hb2.mono HB1.out.size))
  clear hb2
  go_wp2_with fail
  refine (HDa.out _).mono ?_
  rintro e w3 ⟨rfl, hb3⟩
  have HB3 := Lib.hid (HB2.out.trans (hb3.mono HB2.out.size))
  clear hb3
  go_wp2_with fail
  refine (HDc.out _).mono ?_
  rintro e w4 ⟨rfl, hb4⟩
  have HB4 := Lib.hid (HB3.out.trans (hb4.mono HB3.out.size))
  clear hb4
  go_wp2_with fail
  refine (HP.out _ (HE.out.below HB4.out)).mono ?_
  rintro e w5 ⟨hb5, val, hcv, ⟨_, rfl⟩ | ⟨h0, _⟩⟩
  case inr => exact absurd rfl h0
  obtain ⟨r, rfl, hzr, hsr, h1r, r2, r3, r4⟩ := HCV.out _ _ hcv
  have HSR := Lib.hid hsr
  have HZR := Lib.hid hzr
  have H1R := Lib.hid h1r
  have HR2 := Lib.hid r2
  have HR3 := Lib.hid r3
  have HR4 := Lib.hid r4
  have HB5 := Lib.hid (HB4.out.trans ((hb5.alloc hb5.size (.cells r 26)).mono HB4.out.size))
  have HK5 : Hid ((w5.alloc (.cells r 26)).heap[w5.heap.size]? = some (.cells r 26 (0, 0))) := Lib.hid (heap_alloc_last w5 _)
  clear hb5 hcv hzr hsr h1r r2 r3 r4
  go_wp2_with (first
    | (refine wpList_alloc_z rfl 26 rfl Z HZ.out ?_; go_simp)
    | (refine wpList_store_new rfl 26 (.tmp 7) (.tmp 34) rfl w5.heap.size rfl Z r 26 rfl rfl HSR.out HZR.out H1R.out ?_; go_simp))
  refine (HP2.out _ (HE.out.below HB5.out)).mono ?_
  rintro e w6 ⟨hb6, val, hcv, ⟨h0, _⟩ | ⟨_, p6, rfl, _⟩⟩
  case inl => exact absurd h0 (by decide)
  obtain ⟨y, rfl, hzy, hsy, h1y⟩ := HZS.out _ _ hcv
  have HSY := Lib.hid hsy
  have HZY := Lib.hid hzy
  have H1Y := Lib.hid h1y
  have hby : Below (w5.alloc (.cells r 26)).heap.size (w5.alloc (.cells r 26)) (w6.alloc (.cells y 26)) := hb6.alloc hb6.size _
  have HB6 := Lib.hid (HB5.out.trans (hby.mono HB5.out.size))
  have HK6 := Lib.hid ((hby.block _ (Array.getElem?_eq_some_iff.1 HK5.out).1).trans HK5.out)
  have HY6 : Hid ((w6.alloc (.cells y 26)).heap[w6.heap.size]? = some (.cells y 26 (0, 0))) := Lib.hid (heap_alloc_last w6 _)
  have HC6 := Lib.hid (hcv.below ((Below.refl _ w6).alloc (Nat.le_refl _) (.cells y 26)))
  clear hb6 hcv hzy hsy h1y hby
  go_wp2_with (first
    | (refine wpList_alloc_z rfl 26 rfl Z HZ.out ?_; go_simp)
    | (refine wpList_store_new rfl 26 (.tmp 9) (.tmp 38) rfl w6.heap.size rfl Z y 26 rfl rfl HSY.out HZY.out H1Y.out ?_; go_simp))
  refine (HP3.out _ (HE.out.below HB6.out)).mono ?_
  rintro e w7 ⟨hb7, val, hcv, ⟨h0, _⟩ | ⟨_, p7, rfl, _⟩⟩
  case inl => exact absurd h0 (by decide)
  obtain ⟨z, rfl, hzz, hsz, h1z⟩ := HZS.out _ _ hcv
  have HSW := Lib.hid hsz
  have HZW := Lib.hid hzz
  have H1W := Lib.hid h1z
  have hbz : Below (w6.alloc (.cells y 26)).heap.size (w6.alloc (.cells y 26)) (w7.alloc (.cells z 26)) := hb7.alloc hb7.size _
  have HB7 := Lib.hid (HB6.out.trans (hbz.mono HB6.out.size))
  have hk7 := (hbz.block _ (Array.getElem?_eq_some_iff.1 HK6.out).1).trans HK6.out
  have HY7 := Lib.hid ((hbz.block _ (Array.getElem?_eq_some_iff.1 HY6.out).1).trans HY6.out)
  have HC7 := Lib.hid (HC6.out.below hbz)
  have k2 := (cell_of_row _ _ 2 _ _ _ hk7).trans HR2.out
  have k3 := (cell_of_row _ _ 3 _ _ _ hk7).trans HR3.out
  have k4 := (cell_of_row _ _ 4 _ _ _ hk7).trans HR4.out
  have huC := Tryz.underlying26
  clear hb7 hcv hzz hsz h1z hbz hk7
  go_wp2_with (first
    | (refine wpList_alloc_z rfl 26 rfl Z HZ.out ?_; go_simp)
    | (refine wpList_store_new rfl 26 (.tmp 11) (.tmp 42) rfl w7.heap.size rfl Z z 26 rfl rfl HSW.out HZW.out H1W.out ?_; go_simp)
    | (refine wpList_row_gh 26 (.tmp 9) rfl rfl w6.heap.size rfl 26 y (0, 0) _ HY7.out huC rfl HSY.out ?_; go_simp)
    | (refine wpList_build_gh rfl 26 #[] rfl Z HBu.out ?_; go_simp)
    | (go_at_call 11; refine (HSame.out _ y HC7.out).mono ?_; rintro e w8 ⟨rfl, hb8⟩; have HB8 := Lib.hid (HB7.out.trans (hb8.mono HB7.out.size)); clear hb8))
  go_ret
  exact ⟨rfl, HB8.out⟩
end Go.Proofs.YtpnlgojbmjfhhaaGreatDoor
