/-
  The walk of MsgRight. Conditions: the record and the message came in; the library's variable MaxLen holds some number.
-/
import Derived.Test.YteeonnjbjmanpaaDoorMsgRightMath
import Derived.Test.YteeonnjbjmanpaaDoorMsgRtFn
import Derived.Test.YteeonnjbjmanpaaDoorMsgFit
import Derived.Great.BuildSlice
namespace Go.Proofs.YteeonnjbjmanpaaDoor
open Go.RowKit

theorem wpList_build_gh {P : Program} {ops : Array Oper} {rest : List Oper} {o : Oper} {a : Act} {Q : Exit → Act → World → Prop} {w : World} (hw : Region.wanted o (yielded ops a.tmps) = true) (t : TypeId) (parts : Array (Nat × Operand)) (ho : o.op = .build t parts) (cs : Array Value) (hf : P.built t (parts.toList.map fun (i, x) => (i, a.eval x)) = some cs)
    (h : wpList P ops Q rest (a.put o.dst (.agg cs)) w) : wpList P ops Q (o :: rest) a w := by
  unfold wpList
  rw [if_pos hw]
  left
  have hf' : P.built t (parts.map fun (i, x) => (i, a.eval x)).toList = some cs := by rw [Array.toList_map]; exact hf
  exact wp_build t parts ho (by rw [hf']; rfl) (by rw [hf']; exact h)
theorem fill_21 {cs : List Value} (h : cs.length = 21) : Instr.fill (fun i => some (i * 21, 21)) ((Array.range (1 * 21)).map ((Value.agg (RV.cells ⟨emp, 0, 0, zero16, emp, emp⟩)).cells[· % (Value.agg (RV.cells ⟨emp, 0, 0, zero16, emp, emp⟩)).cells.size]!)) [(0, .agg cs.toArray)] = some cs.toArray := by
  have := Great.fill_whole (s := 21) (by decide) [Value.agg cs.toArray] ((Array.range (1 * 21)).map ((Value.agg (RV.cells ⟨emp, 0, 0, zero16, emp, emp⟩)).cells[· % (Value.agg (RV.cells ⟨emp, 0, 0, zero16, emp, emp⟩)).cells.size]!)) (by simp [Value.cells, h]) (by simp)
  simpa [Value.cells] using this
theorem fill_21R {R : Array Value} (h : R.size = 21) : Instr.fill (fun i => some (i * 21, 21)) ((Array.range (1 * 21)).map ((Value.agg (RV.cells ⟨emp, 0, 0, zero16, emp, emp⟩)).cells[· % (Value.agg (RV.cells ⟨emp, 0, 0, zero16, emp, emp⟩)).cells.size]!)) [(0, .agg R)] = some R := by
  have := fill_21 (cs := R.toList) (by simpa using h)
  simpa using this
theorem info_recR : ∃ i, Tryd.prog.info? 25 = some i ∧ i.zero = some (.agg (RV.cells ⟨emp, 0, 0, zero16, emp, emp⟩)) ∧ i.size = 21 ∧ i.bytes = 80 := by
  obtain ⟨i0, hi, hz0, hz1, hz2⟩ := info_parts (show (Tryd.prog.info? 25).map (fun i => (i.zero, i.size, i.bytes)) = some (some (.agg (RV.cells ⟨emp, 0, 0, zero16, emp, emp⟩)), 21, 80) by kernel_rfl)
  exact ⟨i0, hi, hz0, hz1, hz2⟩
theorem row_cells {w : World} {g : Nat} {M : Array Value} {t : TypeId} (h : w.heap[g]? = some (.cells M t (0, 0))) : ∀ j v, M.toList[j]? = some v → w.cell? ((⟨g, 0, none⟩ : Addr).add j) = some v := fun j v hj => by
  rw [Addr.add_lit, cell_of_row w g (0 + j) _ _ _ h, Nat.zero_add]
  simpa using hj
theorem heap_in {w : World} {g : Nat} {o : Obj} (h : w.heap[g]? = some o) : g < w.heap.size := (Array.getElem?_eq_some_iff.1 h).1
theorem built16 : Tryd.prog.built 23 [] = some (bvs zero16).toArray := by kernel_rfl
theorem byte255 (c : UInt8) : ((c.toNat : Int) == 255) = (c == 255) := by
  rw [Bool.eq_iff_iff, beq_iff_eq, beq_iff_eq]
  constructor
  · intro h; apply UInt8.toNat_inj.1; show c.toNat = 255; omega
  · rintro rfl; rfl
theorem byte0 (c : UInt8) : ((c.toNat : Int) == 0) = (c == 0) := by
  rw [Bool.eq_iff_iff, beq_iff_eq, beq_iff_eq]
  constructor
  · intro h; apply UInt8.toNat_inj.1; show c.toNat = 0; omega
  · rintro rfl; rfl
theorem all0_step (ad : List UInt8) {k : Nat} (hk : k < ad.length) : (ad.take (k + 1)).all (· == 0) = ((ad.take k).all (· == 0) && (ad.getD k 0 == 0)) := by
  rw [List.take_succ_eq_append_getElem hk, List.all_append, List.getD, List.getElem?_eq_getElem hk]; simp
/-- the message's cells -/
def mCells (id : Int) (rp tr rc : Bool) (code : Int) (qn : ByteArray) (qt : Int) (A : Option Addr) (na ca : Nat) (U : Option Addr) (nu cu : Nat) : Array Value := #[.int .i64 id, .bool rp, .bool tr, .bool rc, .int .i64 code, .string qn, .int .i64 qt, .slice A na ca, .slice U nu cu]
/-- the two boxes -/
structure Bx (w : World) (B : Nat) (R M : Array Value) : Prop where
  rcd : w.heap[B]? = some (.cells R 25 (0, 0))
  msg : w.heap[B + 1]? = some (.cells M 30 (0, 0))
theorem Bx.below {w w' : World} {B : Nat} {R M : Array Value} (h : Bx w B R M) (hb : Below w.heap.size w w') : Bx w' B R M :=
  ⟨(hb.block B (Array.getElem?_eq_some_iff.1 h.rcd).1).trans h.rcd, (hb.block (B + 1) (Array.getElem?_eq_some_iff.1 h.msg).1).trans h.msg⟩
theorem bx_of (W : World) (R M : Array Value) : Bx ((W.alloc (.cells R 25)).alloc (.cells M 30)) W.heap.size R M := by
  refine ⟨?_, ?_⟩
  · exact (((Below.refl _ (W.alloc (.cells R 25))).alloc (Nat.le_refl _) (.cells M 30)).block W.heap.size (by rw [World.size_alloc]; omega)).trans (heap_alloc_last W _)
  · have := heap_alloc_last (W.alloc (.cells R 25)) (.cells M 30)
    rwa [World.size_alloc] at this
/-- what is read of the record -/
structure RcF (R : Array Value) (nm : ByteArray) (ty ttl : Int) (ad : List UInt8) (tx da : ByteArray) : Prop where
  c0 : ∀ {w : World} {B : Nat} {M : Array Value}, Bx w B R M → w.cell? ⟨B, 0, none⟩ = some (.string nm)
  c1 : ∀ {w : World} {B : Nat} {M : Array Value}, Bx w B R M → w.cell? ⟨B, 1, none⟩ = some (.int .i64 ty)
  c2 : ∀ {w : World} {B : Nat} {M : Array Value}, Bx w B R M → w.cell? ⟨B, 2, none⟩ = some (.int .i64 ttl)
  c3 : ∀ {w : World} {B : Nat} {M : Array Value}, Bx w B R M → ∀ j, j < 16 → w.cell? ⟨B, 3 + j, none⟩ = some (.int .u8 (ad.getD j 0).toNat)
  c19 : ∀ {w : World} {B : Nat} {M : Array Value}, Bx w B R M → w.cell? ⟨B, 19, none⟩ = some (.string tx)
  c20 : ∀ {w : World} {B : Nat} {M : Array Value}, Bx w B R M → w.cell? ⟨B, 20, none⟩ = some (.string da)
  sub : ∀ {w : World} {B : Nat} {M : Array Value}, Bx w B R M → ∀ j v, (bvs ad).toArray.toList[j]? = some v → w.cell? ((⟨B, 3, none⟩ : Addr).add j) = some v
theorem rcF_of {nm tx da : ByteArray} {ty ttl : Int} {ad : List UInt8} (h : ad.length = 16) : RcF (RV.cells ⟨nm, ty, ttl, ad, tx, da⟩) nm ty ttl ad tx da :=
  ⟨fun hb => (cell_of_row _ _ 0 _ _ _ hb.rcd).trans (RV.c0 _), fun hb => (cell_of_row _ _ 1 _ _ _ hb.rcd).trans (RV.c1 _), fun hb => (cell_of_row _ _ 2 _ _ _ hb.rcd).trans (RV.c2 _),
   fun hb j hj => (cell_of_row _ _ (3 + j) _ _ _ hb.rcd).trans (RV.c3 h hj), fun hb => (cell_of_row _ _ 19 _ _ _ hb.rcd).trans (RV.c19 h), fun hb => (cell_of_row _ _ 20 _ _ _ hb.rcd).trans (RV.c20 h),
   fun hb j v hj => by rw [Addr.add_lit]; exact (cell_of_row _ _ (3 + j) _ _ _ hb.rcd).trans (RV.sub3 (r := ⟨nm, ty, ttl, ad, tx, da⟩) h j v hj)⟩
theorem mc_of {w : World} {B : Nat} {R : Array Value} {id : Int} {rp tr rc : Bool} {code : Int} {qn : ByteArray} {qt : Int} {A : Option Addr} {na ca : Nat} {U : Option Addr} {nu cu : Nat} (h : Bx w B R (mCells id rp tr rc code qn qt A na ca U nu cu)) :
    w.cell? ⟨B + 1, 0, none⟩ = some (.int .i64 id) ∧ w.cell? ⟨B + 1, 4, none⟩ = some (.int .i64 code) ∧ w.cell? ⟨B + 1, 5, none⟩ = some (.string qn) ∧ w.cell? ⟨B + 1, 6, none⟩ = some (.int .i64 qt) ∧ w.cell? ⟨B + 1, 7, none⟩ = some (.slice A na ca) ∧ w.cell? ⟨B + 1, 8, none⟩ = some (.slice U nu cu) := by
  refine ⟨?_, ?_, ?_, ?_, ?_, ?_⟩
  all_goals rw [cell_of_row w (B + 1) _ _ _ _ h.msg]; rfl
set_option maxRecDepth 100000 in
set_option maxHeartbeats 8000000 in
theorem msgRight_walk (r : RV) (hr : r.Fits) (h0 : r.nm.size ≤ 140737488351232) (h4 : r.tx.size ≤ 140737488351232) (h5 : r.da.size ≤ 140737488351232) (id : Int) (rp tr rc : Bool) (code : Int) (qn : ByteArray) (qt : Int) (A : Option Addr) (na ca : Nat) (U : Option Addr) (nu cu : Nat) (W : World) (he : Env W)
    (hq : qn.size ≤ 140737488351232) (hna : na ≤ 140737488351232) (hnu : nu ≤ 140737488351232) :
    Calls Tryd.prog 3 #[.agg r.cells, .agg (mCells id rp tr rc code qn qt A na ca U nu cu)] W fun e w' => e = .returned (.bool true) ∧ Below W.heap.size W w' := by
  have HRT := Lib.hid (fun (w : World) (hE : Env w) => right_rv r hr w hE)
  have HWR := Lib.hid (want_rv (r := r) hr.ad)
  have HFT := Lib.hid hr
  obtain ⟨bR, hbR⟩ : ∃ b, b = baseR r := ⟨_, rfl⟩
  have HBR := Lib.hid hbR
  obtain ⟨wR, hwR⟩ : ∃ b, b = wantR r := ⟨_, rfl⟩
  have HWN := Lib.hid hwR
  obtain ⟨wM, hwM⟩ : ∃ b, b = wantM id code qn qt := ⟨_, rfl⟩
  have HWM := Lib.hid hwM
  obtain ⟨nm, ty, ttl, ad, tx, da⟩ := r
  have h16 : ad.length = 16 := hr.ad
  have HRF := Lib.hid (rcF_of (nm := nm) (ty := ty) (ttl := ttl) (tx := tx) (da := da) h16)
  have HSZ : Hid ((Tryd.prog.info? 25).map (·.size) = some (RV.cells ⟨nm, ty, ttl, ad, tx, da⟩).size) := Lib.hid (sizeRv (r := ⟨nm, ty, ttl, ad, tx, da⟩) h16)
  have HON := Lib.hid (RV.one ⟨nm, ty, ttl, ad, tx, da⟩)
  have HR21 := Lib.hid (RV.size (r := ⟨nm, ty, ttl, ad, tx, da⟩) h16)
  have HRC : Hid (∃ R, R = RV.cells ⟨nm, ty, ttl, ad, tx, da⟩) := Lib.hid ⟨_, rfl⟩
  have hb0 : Below W.heap.size W ((W.alloc (.cells (RV.cells ⟨nm, ty, ttl, ad, tx, da⟩) 25)).alloc (.cells (mCells id rp tr rc code qn qt A na ca U nu cu) 30)) := ((Below.refl _ W).alloc (Nat.le_refl _) _).alloc (by rw [World.size_alloc]; omega) _
  have HX0 := Lib.hid (bx_of W (RV.cells ⟨nm, ty, ttl, ad, tx, da⟩) (mCells id rp tr rc code qn qt A na ca U nu cu))
  have HB0 := Lib.hid hb0
  have HE0 := Lib.hid (he.below hb0)
  have HMC := Lib.hid (fun (w : World) (h : Bx w W.heap.size (RV.cells ⟨nm, ty, ttl, ad, tx, da⟩) (mCells id rp tr rc code qn qt A na ca U nu cu)) => mc_of h)
  obtain ⟨R, hR⟩ : ∃ R, R = RV.cells ⟨nm, ty, ttl, ad, tx, da⟩ := ⟨_, rfl⟩
  obtain ⟨M, hM⟩ : ∃ M, M = mCells id rp tr rc code qn qt A na ca U nu cu := ⟨_, rfl⟩
  rw [← hR] at HRT HRF HSZ HON HR21 HX0 HB0 HE0 HMC ⊢
  rw [← hM] at HX0 HB0 HE0 HMC ⊢
  have HMV := Lib.hid hM
  have HRV := Lib.hid hR
  clear hR hM hb0 he hbR hwR hwM hr HRC
  go_enter Tryd.func3, Tryd.ntmps3
  go_wp2_with fail
  generalize (W.alloc _).alloc _ = w0 at HX0 HB0 HE0 ⊢
  refine (fit4_e w0 HE0.out).mono ?_; rintro e w1 ⟨rfl, hb1⟩
  have HX1 := Lib.hid (HX0.out.below hb1)
  have HB1 := Lib.hid (HB0.out.trans (hb1.mono HB0.out.size))
  have HE1 := Lib.hid (HE0.out.below hb1)
  clear hb1 HX0 HB0 HE0
  have a0 := HRF.out.c0 HX1.out
  have a19 := HRF.out.c19 HX1.out
  have a20 := HRF.out.c20 HX1.out
  obtain ⟨m0, m4, m5, m6, m7, m8⟩ := HMC.out w1 HX1.out
  try simp only at h0 h4 h5
  by_cases htot : nm.size + tx.size + da.size + qn.size ≤ 1200
  · by_cases hz : na + nu = 0
    · obtain ⟨rfl, rfl⟩ : na = 0 ∧ nu = 0 := by omega
      have t1 : nm.size ≤ 1200 := by omega
      have t2 : tx.size ≤ 1200 := by omega
      have t3 : da.size ≤ 1200 := by omega
      have t4 : qn.size ≤ 1200 := by omega
      have htI : (nm.size : Int) + (tx.size : Int) + (da.size : Int) + (qn.size : Int) ≤ 1200 := by omega
      clear hz htot h0 h4 h5 hq hna hnu
      go_upto_region 6 with fail
      clear a0 a19 a20 m0 m4 m5 m6 m7 m8 htI
      obtain ⟨q10, hq10⟩ : ∃ q, q = (ad.getD 10 0 == 255) := ⟨_, rfl⟩
      obtain ⟨q11, hq11⟩ : ∃ q, q = (ad.getD 11 0 == 255) := ⟨_, rfl⟩
      obtain ⟨b0, hb0⟩ : ∃ b, b = (q10 && q11) := ⟨_, rfl⟩
      have HB00 := Lib.hid hb0
      have HV4 : Hid (∀ b, b = (b0 && (ad.take 10).all (· == 0)) → b = v4L ad) := Lib.hid (fun b hb => by rw [hb, hb0, hq10, hq11]; rfl)
      have e10 := byte255 (ad.getD 10 0)
      have e11 := byte255 (ad.getD 11 0)
      rw [← hq10] at e10
      rw [← hq11] at e11
      clear hb0 hq10 hq11
      go_cut [6] from 41 to 51 (fun t6 wx => t6 = .bool b0 ∧ wx = w1)
      case first =>
        have d10 := HRF.out.c3 HX1.out 10 (by omega)
        have d11 := HRF.out.c3 HX1.out 11 (by omega)
        revert d10 d11 e10 e11
        generalize ad.getD 10 0 = x10
        generalize ad.getD 11 0 = x11
        intro e10 e11 d10 d11
        cases q10 with
        | false =>
          have HF := Lib.hid (show b0 = false by rw [HB00.out]; rfl)
          go_wp2_with fail
          go_meet
          exact ⟨by rw [HF.out], rfl⟩
        | true =>
          have HF := Lib.hid (show b0 = q11 by rw [HB00.out]; rfl)
          go_wp2_with fail
          go_meet
          exact ⟨by rw [HF.out], rfl⟩
      case rest =>
        obtain ⟨rfl, hwx⟩ := hcut
        obtain rfl := hwx.symm
        clear e10 e11 HB00
        go_wp2_with fail
        go_loop [6, 54] (fun z i => ∃ k : Nat, k ≤ 10 ∧ i = .int .i64 k ∧ z = .bool (b0 && (ad.take k).all (· == 0))) (fun _ i => 10 - (intOf i).toNat)
        case atStart => exact ⟨0, by omega, rfl, by simp⟩
        case round =>
          obtain ⟨k, hk, rfl, rfl⟩ := hrel
          by_cases hlt : k < 10
          · have c0 := HRF.out.c3 HX1.out k (by omega)
            have e0 := byte0 (ad.getD k 0)
            have HM : Hid (∀ b, b = ((b0 && (ad.take k).all (· == 0)) && (ad.getD k 0 == 0)) → b = (b0 && (ad.take (k + 1)).all (· == 0))) := Lib.hid (fun b hb => by rw [hb, all0_step ad (by omega), Bool.and_assoc])
            revert c0 e0 HM
            generalize (ad.getD k 0 == 0) = q
            generalize ad.getD k 0 = x
            generalize (b0 && (ad.take k).all (· == 0)) = pp
            intro c0 e0 HM
            cases pp
            · have HF := Lib.hid (HM.out false (by simp))
              go_wp2_with fail
              go_round
              case rel => exact ⟨k + 1, by omega, by go_num, by rw [← HF.out]⟩
              case measure => simp [intOf]; omega
            · have HF := Lib.hid (HM.out q (by simp))
              go_wp2_with fail
              go_round
              case rel => exact ⟨k + 1, by omega, by go_num, by rw [← HF.out]⟩
              case measure => simp [intOf]; omega
          · obtain rfl : k = 10 := by omega
            obtain ⟨v4, hv4⟩ : ∃ b, b = (b0 && (ad.take 10).all (· == 0)) := ⟨_, rfl⟩
            rw [← hv4]
            have HV := Lib.hid (HV4.out v4 hv4)
            clear hv4 HV4 hlt
            have a0 := HRF.out.c0 HX1.out
            go_upto_region 12 with fail
            go_cut [9] from 64 to 78 (fun t9 wx => t9 = .bool bR ∧ Below w1.heap.size w1 wx)
            case first =>
              have C := goes5_e nm w1 HE1.out (by omega)
              obtain ⟨g, hg⟩ : ∃ g, g = gosB nm := ⟨_, rfl⟩
              rw [← hg] at C
              have HW : Hid (∀ b, b = ((g && decide (0 ≤ ttl)) && decide (ttl ≤ 1048576)) → b = bR) := Lib.hid (fun b hb => by rw [hb, HBR.out, hg]; rfl)
              clear hg
              go_wp2_with fail
              refine C.mono ?_; rintro e w2 ⟨rfl, hb2, hE2⟩
              have HB2 := Lib.hid hb2
              have a2 := HRF.out.c2 (HX1.out.below hb2)
              clear hb2 hE2 C a0
              cases g with
              | false =>
                have HF := Lib.hid (HW.out false (by simp))
                go_wp2_with fail
                go_meet
                exact ⟨by rw [← HF.out]; first | done | rfl | (simp; omega) | simp [*], HB2.out⟩
              | true =>
                by_cases ht0 : 0 ≤ ttl
                · have ht0e : decide (0 ≤ ttl) = true := decide_eq_true ht0
                  by_cases ht1 : ttl ≤ 1048576
                  · have ht1e : decide (ttl ≤ 1048576) = true := decide_eq_true ht1
                    have HF := Lib.hid (HW.out true (by rw [ht0e, ht1e]; rfl))
                    clear ht0e ht1e
                    go_wp2_with fail
                    go_meet
                    exact ⟨by rw [← HF.out]; first | done | rfl | (simp; omega) | simp [*], HB2.out⟩
                  · have ht1e : decide (ttl ≤ 1048576) = false := decide_eq_false ht1
                    have ht1n : 1048576 < ttl := by omega
                    have HF := Lib.hid (HW.out false (by rw [ht1e]; simp))
                    clear ht0e ht1e
                    go_wp2_with fail
                    go_meet
                    exact ⟨by rw [← HF.out]; first | done | rfl | (simp; omega) | simp [*], HB2.out⟩
                · have ht0e : decide (0 ≤ ttl) = false := decide_eq_false ht0
                  have ht0n : ttl < 0 := by omega
                  have HF := Lib.hid (HW.out false (by rw [ht0e]; simp))
                  clear ht0e
                  go_wp2_with fail
                  go_meet
                  exact ⟨by rw [← HF.out]; first | done | rfl | (simp; omega) | simp [*], HB2.out⟩
            case rest =>
              obtain ⟨rfl, hb2⟩ := hcut
              have HX2 := Lib.hid (HX1.out.below hb2)
              have HB2 := Lib.hid (HB1.out.trans (hb2.mono HB1.out.size))
              have HE2 := Lib.hid (HE1.out.below hb2)
              clear hb2 a0 HX1 HB1 HE1
              obtain ⟨w2, hw2⟩ : ∃ x, x = wc := ⟨_, rfl⟩
              subst hw2
              have a1 := HRF.out.c1 HX2.out
              go_upto_block 2 with fail
              clear a1
              go_cut [9] from 80 to 159 (fun t9 wx => t9 = .bool wR ∧ Below w2.heap.size w2 wx)
              case first =>
                have a1 := HRF.out.c1 HX2.out
                have a19 := HRF.out.c19 HX2.out
                have a20 := HRF.out.c20 HX2.out
                have HSUB := Lib.hid (HRF.out.sub HX2.out)
                have HSA := Lib.hid (sizeBv h16)
                obtain ⟨z, hz⟩ : ∃ z, z = (ad == zero16) := ⟨_, rfl⟩
                have HQ : Hid (∀ w, (Op.equalIn 10000 23 (.agg (bvs ad).toArray) (.agg (bvs zero16).toArray)).run Tryd.prog w = .ok z w) := Lib.hid (fun w => by rw [hz]; exact eq_addr 9998 w h16 rfl)
                have HBU := Lib.hid built16
                have HZ := Lib.hid hz
                have HWU : Hid (wR = (if ty = 1 then ((bR && v4) && eB tx) && eB da
                  else if ty = 28 then (bR && eB tx) && eB da
                  else if ty = 2 ∨ ty = 5 ∨ ty = 12 then ((bR && eB da) && z) && gosB tx
                  else ((((bR && decide (0 < ty)) && decide (ty ≤ 65535)) && eB tx) && z) && decide (da.size ≤ 255))) := Lib.hid (by
                    rw [HWN.out, HV.out, HBR.out, hz]; rfl)
                clear hz
                revert HSUB HSA HQ HBU
                generalize (bvs ad).toArray = AV
                generalize (bvs zero16).toArray = ZV
                intro HSUB HSA HQ HBU
                by_cases h1 : ty = 1
                · have HW : Hid (∀ b, b = (((bR && v4) && eB tx) && eB da) → b = wR) := Lib.hid (fun b hb => by rw [hb, HWU.out, if_pos h1])
                  clear HWU HWR HRT HRV HFT HBR HWN HRF
                  subst h1
                  cases bR with
                  | false =>
                    have HF := Lib.hid (HW.out false (by simp))
                    go_wp2_with fail
                    go_meet
                    exact ⟨by rw [← HF.out]; first | done | rfl | (simp; omega) | simp [*], Below.refl _ _⟩
                  | true =>
                    cases v4 with
                    | false =>
                      have HF := Lib.hid (HW.out false (by simp))
                      go_wp2_with fail
                      go_meet
                      exact ⟨by rw [← HF.out]; first | done | rfl | (simp; omega) | simp [*], Below.refl _ _⟩
                    | true =>
                      by_cases hx : tx.toList = []
                      · have hxb : (tx.toList == []) = true := by rw [hx]; rfl
                        have hxi : tx.toList.isEmpty = true := by rw [hx]; rfl
                        have hxe : eB tx = true := hxb
                        by_cases hd : da.toList = []
                        · have hdb : (da.toList == []) = true := by rw [hd]; rfl
                          have hdi : da.toList.isEmpty = true := by rw [hd]; rfl
                          have hde : eB da = true := hdb
                          have HF := Lib.hid (HW.out true (by rw [hxe, hde]; rfl))
                          clear hxe hde
                          go_wp2_with fail
                          go_meet
                          exact ⟨by rw [← HF.out]; first | done | rfl | (simp; omega) | simp [*], Below.refl _ _⟩
                        · have hdb : (da.toList == []) = false := by rw [Bool.eq_false_iff, Ne, beq_iff_eq]; exact hd
                          have hdi : da.toList.isEmpty = false := by rw [Bool.eq_false_iff, Ne, List.isEmpty_iff]; exact hd
                          have hde : eB da = false := hdb
                          have HF := Lib.hid (HW.out false (by rw [hde]; simp))
                          clear hxe hde
                          go_wp2_with fail
                          go_meet
                          exact ⟨by rw [← HF.out]; first | done | rfl | (simp; omega) | simp [*], Below.refl _ _⟩
                      · have hxb : (tx.toList == []) = false := by rw [Bool.eq_false_iff, Ne, beq_iff_eq]; exact hx
                        have hxi : tx.toList.isEmpty = false := by rw [Bool.eq_false_iff, Ne, List.isEmpty_iff]; exact hx
                        have hxe : eB tx = false := hxb
                        have HF := Lib.hid (HW.out false (by rw [hxe]; simp))
                        clear hxe
                        go_wp2_with fail
                        go_meet
                        exact ⟨by rw [← HF.out]; first | done | rfl | (simp; omega) | simp [*], Below.refl _ _⟩
                · by_cases h2 : ty = 28
                  · have HW : Hid (∀ b, b = ((bR && eB tx) && eB da) → b = wR) := Lib.hid (fun b hb => by rw [hb, HWU.out, if_neg h1, if_pos h2])
                    clear HWU HWR HRT HRV HFT HBR HWN HRF h1
                    subst h2
                    cases bR with
                    | false =>
                      have HF := Lib.hid (HW.out false (by simp))
                      go_wp2_with fail
                      go_meet
                      exact ⟨by rw [← HF.out]; first | done | rfl | (simp; omega) | simp [*], Below.refl _ _⟩
                    | true =>
                      by_cases hx : tx.toList = []
                      · have hxb : (tx.toList == []) = true := by rw [hx]; rfl
                        have hxi : tx.toList.isEmpty = true := by rw [hx]; rfl
                        have hxe : eB tx = true := hxb
                        by_cases hd : da.toList = []
                        · have hdb : (da.toList == []) = true := by rw [hd]; rfl
                          have hdi : da.toList.isEmpty = true := by rw [hd]; rfl
                          have hde : eB da = true := hdb
                          have HF := Lib.hid (HW.out true (by rw [hxe, hde]; rfl))
                          clear hxe hde
                          go_wp2_with fail
                          go_meet
                          exact ⟨by rw [← HF.out]; first | done | rfl | (simp; omega) | simp [*], Below.refl _ _⟩
                        · have hdb : (da.toList == []) = false := by rw [Bool.eq_false_iff, Ne, beq_iff_eq]; exact hd
                          have hdi : da.toList.isEmpty = false := by rw [Bool.eq_false_iff, Ne, List.isEmpty_iff]; exact hd
                          have hde : eB da = false := hdb
                          have HF := Lib.hid (HW.out false (by rw [hde]; simp))
                          clear hxe hde
                          go_wp2_with fail
                          go_meet
                          exact ⟨by rw [← HF.out]; first | done | rfl | (simp; omega) | simp [*], Below.refl _ _⟩
                      · have hxb : (tx.toList == []) = false := by rw [Bool.eq_false_iff, Ne, beq_iff_eq]; exact hx
                        have hxi : tx.toList.isEmpty = false := by rw [Bool.eq_false_iff, Ne, List.isEmpty_iff]; exact hx
                        have hxe : eB tx = false := hxb
                        have HF := Lib.hid (HW.out false (by rw [hxe]; simp))
                        clear hxe
                        go_wp2_with fail
                        go_meet
                        exact ⟨by rw [← HF.out]; first | done | rfl | (simp; omega) | simp [*], Below.refl _ _⟩
                  · by_cases h3 : ty = 2 ∨ ty = 5 ∨ ty = 12
                    · have HW : Hid (∀ b, b = (((bR && eB da) && z) && gosB tx) → b = wR) := Lib.hid (fun b hb => by rw [hb, HWU.out, if_neg h1, if_neg h2, if_pos h3])
                      clear HWU HWR HRT HRV HFT HBR HWN HRF
                      have h3' := h3
                      clear h1 h2 h3
                      rcases h3' with rfl | rfl | rfl
                      all_goals
                        cases bR with
                        | false =>
                          have HF := Lib.hid (HW.out false (by simp))
                          go_wp2_with (first
                            | (refine wpList_load_agg_gh (by kernel_rfl) 23 (.tmp 148) rfl ⟨W.heap.size, 3, none⟩ rfl AV _ HSUB.out Tryd.underlying23 rfl HSA.out ?_; go_simp)
                            | (refine wpList_build_gh (by kernel_rfl) 23 _ rfl ZV HBU.out ?_; go_simp)
                            | (refine wpList_eql_agg_gh (by kernel_rfl) 23 (.tmp 149) (.tmp 150) 23 rfl AV ZV _ rfl rfl eqGuardAddr (HQ.out _) ?_; go_simp))
                          go_meet
                          exact ⟨by rw [← HF.out]; first | done | rfl | (simp; omega) | simp [*], Below.refl _ _⟩
                        | true =>
                          by_cases hd : da.toList = []
                          · have hdb : (da.toList == []) = true := by rw [hd]; rfl
                            have hdi : da.toList.isEmpty = true := by rw [hd]; rfl
                            have hde : eB da = true := hdb
                            cases z with
                            | false =>
                              have HF := Lib.hid (HW.out false (by simp))
                              clear hde
                              go_wp2_with (first
                                | (refine wpList_load_agg_gh (by kernel_rfl) 23 (.tmp 148) rfl ⟨W.heap.size, 3, none⟩ rfl AV _ HSUB.out Tryd.underlying23 rfl HSA.out ?_; go_simp)
                                | (refine wpList_build_gh (by kernel_rfl) 23 _ rfl ZV HBU.out ?_; go_simp)
                                | (refine wpList_eql_agg_gh (by kernel_rfl) 23 (.tmp 149) (.tmp 150) 23 rfl AV ZV _ rfl rfl eqGuardAddr (HQ.out _) ?_; go_simp))
                              go_meet
                              exact ⟨by rw [← HF.out]; first | done | rfl | (simp; omega) | simp [*], Below.refl _ _⟩
                            | true =>
                              have C := goes5_e tx w2 HE2.out (by omega)
                              obtain ⟨g, hg⟩ : ∃ g, g = gosB tx := ⟨_, rfl⟩
                              rw [← hg] at C HW
                              clear hg
                              have HF := Lib.hid (HW.out g (by rw [hde]; simp))
                              clear hde
                              go_wp2_with (first
                                | (refine wpList_load_agg_gh (by kernel_rfl) 23 (.tmp 148) rfl ⟨W.heap.size, 3, none⟩ rfl AV _ HSUB.out Tryd.underlying23 rfl HSA.out ?_; go_simp)
                                | (refine wpList_build_gh (by kernel_rfl) 23 _ rfl ZV HBU.out ?_; go_simp)
                                | (refine wpList_eql_agg_gh (by kernel_rfl) 23 (.tmp 149) (.tmp 150) 23 rfl AV ZV _ rfl rfl eqGuardAddr (HQ.out _) ?_; go_simp))
                              refine C.mono ?_; rintro e w3 ⟨rfl, hb3, hE3⟩
                              have HB3 := Lib.hid hb3
                              clear hb3 hE3 C
                              go_wp2_with fail
                              go_meet
                              exact ⟨by rw [← HF.out]; first | done | rfl | (simp; omega) | simp [*], HB3.out⟩
                          · have hdb : (da.toList == []) = false := by rw [Bool.eq_false_iff, Ne, beq_iff_eq]; exact hd
                            have hdi : da.toList.isEmpty = false := by rw [Bool.eq_false_iff, Ne, List.isEmpty_iff]; exact hd
                            have hde : eB da = false := hdb
                            have HF := Lib.hid (HW.out false (by rw [hde]; simp))
                            clear hde
                            go_wp2_with (first
                              | (refine wpList_load_agg_gh (by kernel_rfl) 23 (.tmp 148) rfl ⟨W.heap.size, 3, none⟩ rfl AV _ HSUB.out Tryd.underlying23 rfl HSA.out ?_; go_simp)
                              | (refine wpList_build_gh (by kernel_rfl) 23 _ rfl ZV HBU.out ?_; go_simp)
                              | (refine wpList_eql_agg_gh (by kernel_rfl) 23 (.tmp 149) (.tmp 150) 23 rfl AV ZV _ rfl rfl eqGuardAddr (HQ.out _) ?_; go_simp))
                            go_meet
                            exact ⟨by rw [← HF.out]; first | done | rfl | (simp; omega) | simp [*], Below.refl _ _⟩
                    · have HW : Hid (∀ b, b = (((((bR && decide (0 < ty)) && decide (ty ≤ 65535)) && eB tx) && z) && decide (da.size ≤ 255)) → b = wR) := Lib.hid (fun b hb => by rw [hb, HWU.out, if_neg h1, if_neg h2, if_neg h3])
                      have h31 : ¬ ty = 2 := fun e => h3 (.inl e)
                      have h32 : ¬ ty = 5 := fun e => h3 (.inr (.inl e))
                      have h33 : ¬ ty = 12 := fun e => h3 (.inr (.inr e))
                      clear h3 HWU HWR HRT HRV HFT HBR HWN HRF
                      cases bR with
                      | false =>
                        have HF := Lib.hid (HW.out false (by simp))
                        go_wp2_with (first
                          | (refine wpList_load_agg_gh (by kernel_rfl) 23 (.tmp 97) rfl ⟨W.heap.size, 3, none⟩ rfl AV _ HSUB.out Tryd.underlying23 rfl HSA.out ?_; go_simp)
                          | (refine wpList_build_gh (by kernel_rfl) 23 _ rfl ZV HBU.out ?_; go_simp)
                          | (refine wpList_eql_agg_gh (by kernel_rfl) 23 (.tmp 98) (.tmp 99) 23 rfl AV ZV _ rfl rfl eqGuardAddr (HQ.out _) ?_; go_simp))
                        go_meet
                        exact ⟨by rw [← HF.out]; first | done | rfl | (simp; omega) | simp [*], Below.refl _ _⟩
                      | true =>
                        by_cases hp : 0 < ty
                        · have hpe : decide (0 < ty) = true := decide_eq_true hp
                          by_cases hq : ty ≤ 65535
                          · have hqe : decide (ty ≤ 65535) = true := decide_eq_true hq
                            by_cases hx : tx.toList = []
                            · have hxb : (tx.toList == []) = true := by rw [hx]; rfl
                              have hxi : tx.toList.isEmpty = true := by rw [hx]; rfl
                              have hxe : eB tx = true := hxb
                              cases z with
                              | false =>
                                have HF := Lib.hid (HW.out false (by simp))
                                clear hpe hqe hxe
                                go_wp2_with (first
                                  | (refine wpList_load_agg_gh (by kernel_rfl) 23 (.tmp 97) rfl ⟨W.heap.size, 3, none⟩ rfl AV _ HSUB.out Tryd.underlying23 rfl HSA.out ?_; go_simp)
                                  | (refine wpList_build_gh (by kernel_rfl) 23 _ rfl ZV HBU.out ?_; go_simp)
                                  | (refine wpList_eql_agg_gh (by kernel_rfl) 23 (.tmp 98) (.tmp 99) 23 rfl AV ZV _ rfl rfl eqGuardAddr (HQ.out _) ?_; go_simp))
                                go_meet
                                exact ⟨by rw [← HF.out]; first | done | rfl | (simp; omega) | simp [*], Below.refl _ _⟩
                              | true =>
                                by_cases hda : da.size ≤ 255
                                · have hdae : decide (da.size ≤ 255) = true := decide_eq_true hda
                                  have HF := Lib.hid (HW.out true (by rw [hpe, hqe, hxe, hdae]; rfl))
                                  clear hpe hqe hxe hdae
                                  go_wp2_with (first
                                    | (refine wpList_load_agg_gh (by kernel_rfl) 23 (.tmp 97) rfl ⟨W.heap.size, 3, none⟩ rfl AV _ HSUB.out Tryd.underlying23 rfl HSA.out ?_; go_simp)
                                    | (refine wpList_build_gh (by kernel_rfl) 23 _ rfl ZV HBU.out ?_; go_simp)
                                    | (refine wpList_eql_agg_gh (by kernel_rfl) 23 (.tmp 98) (.tmp 99) 23 rfl AV ZV _ rfl rfl eqGuardAddr (HQ.out _) ?_; go_simp))
                                  go_meet
                                  exact ⟨by rw [← HF.out]; first | done | rfl | (simp; omega) | simp [*], Below.refl _ _⟩
                                · have hdae : decide (da.size ≤ 255) = false := decide_eq_false hda
                                  have hdan : 255 < da.size := by omega
                                  have HF := Lib.hid (HW.out false (by rw [hdae]; simp))
                                  clear hpe hqe hxe hdae
                                  go_wp2_with (first
                                    | (refine wpList_load_agg_gh (by kernel_rfl) 23 (.tmp 97) rfl ⟨W.heap.size, 3, none⟩ rfl AV _ HSUB.out Tryd.underlying23 rfl HSA.out ?_; go_simp)
                                    | (refine wpList_build_gh (by kernel_rfl) 23 _ rfl ZV HBU.out ?_; go_simp)
                                    | (refine wpList_eql_agg_gh (by kernel_rfl) 23 (.tmp 98) (.tmp 99) 23 rfl AV ZV _ rfl rfl eqGuardAddr (HQ.out _) ?_; go_simp))
                                  go_meet
                                  exact ⟨by rw [← HF.out]; first | done | rfl | (simp; omega) | simp [*], Below.refl _ _⟩
                            · have hxb : (tx.toList == []) = false := by rw [Bool.eq_false_iff, Ne, beq_iff_eq]; exact hx
                              have hxi : tx.toList.isEmpty = false := by rw [Bool.eq_false_iff, Ne, List.isEmpty_iff]; exact hx
                              have hxe : eB tx = false := hxb
                              have HF := Lib.hid (HW.out false (by rw [hxe]; simp))
                              clear hpe hqe hxe
                              go_wp2_with (first
                                | (refine wpList_load_agg_gh (by kernel_rfl) 23 (.tmp 97) rfl ⟨W.heap.size, 3, none⟩ rfl AV _ HSUB.out Tryd.underlying23 rfl HSA.out ?_; go_simp)
                                | (refine wpList_build_gh (by kernel_rfl) 23 _ rfl ZV HBU.out ?_; go_simp)
                                | (refine wpList_eql_agg_gh (by kernel_rfl) 23 (.tmp 98) (.tmp 99) 23 rfl AV ZV _ rfl rfl eqGuardAddr (HQ.out _) ?_; go_simp))
                              go_meet
                              exact ⟨by rw [← HF.out]; first | done | rfl | (simp; omega) | simp [*], Below.refl _ _⟩
                          · have hqe : decide (ty ≤ 65535) = false := decide_eq_false hq
                            have hqn : 65535 < ty := by omega
                            have HF := Lib.hid (HW.out false (by rw [hqe]; simp))
                            clear hpe hqe
                            go_wp2_with (first
                              | (refine wpList_load_agg_gh (by kernel_rfl) 23 (.tmp 97) rfl ⟨W.heap.size, 3, none⟩ rfl AV _ HSUB.out Tryd.underlying23 rfl HSA.out ?_; go_simp)
                              | (refine wpList_build_gh (by kernel_rfl) 23 _ rfl ZV HBU.out ?_; go_simp)
                              | (refine wpList_eql_agg_gh (by kernel_rfl) 23 (.tmp 98) (.tmp 99) 23 rfl AV ZV _ rfl rfl eqGuardAddr (HQ.out _) ?_; go_simp))
                            go_meet
                            exact ⟨by rw [← HF.out]; first | done | rfl | (simp; omega) | simp [*], Below.refl _ _⟩
                        · have hpe : decide (0 < ty) = false := decide_eq_false hp
                          have hpn : ty ≤ 0 := by omega
                          have HF := Lib.hid (HW.out false (by rw [hpe]; simp))
                          clear hpe
                          go_wp2_with (first
                            | (refine wpList_load_agg_gh (by kernel_rfl) 23 (.tmp 97) rfl ⟨W.heap.size, 3, none⟩ rfl AV _ HSUB.out Tryd.underlying23 rfl HSA.out ?_; go_simp)
                            | (refine wpList_build_gh (by kernel_rfl) 23 _ rfl ZV HBU.out ?_; go_simp)
                            | (refine wpList_eql_agg_gh (by kernel_rfl) 23 (.tmp 98) (.tmp 99) 23 rfl AV ZV _ rfl rfl eqGuardAddr (HQ.out _) ?_; go_simp))
                          go_meet
                          exact ⟨by rw [← HF.out]; first | done | rfl | (simp; omega) | simp [*], Below.refl _ _⟩
              case rest =>
                obtain ⟨rfl, hb3⟩ := hcut
                have HX3 := Lib.hid (HX2.out.below hb3)
                have HB3 := Lib.hid (HB2.out.trans (hb3.mono HB2.out.size))
                have HE3 := Lib.hid (HE2.out.below hb3)
                clear hb3 HX2 HB2 HE2
                obtain ⟨w3, hw3⟩ : ∃ x, x = wc := ⟨_, rfl⟩
                subst hw3
                go_upto_region 23 with fail
                go_cut [10] from 159 to 196 (fun t10 wx => t10 = .bool wM ∧ Below w3.heap.size w3 wx)
                case first =>
                  obtain ⟨m0, m4, m5, m6, _⟩ := HMC.out w3 HX3.out
                  obtain ⟨g, hg⟩ : ∃ g, g = gosB qn := ⟨_, rfl⟩
                  have HW : Hid (∀ b, b = ((((((decide (0 ≤ id) && decide (id ≤ 65535)) && decide (0 ≤ code)) && decide (code ≤ 15)) && g) && decide (1 ≤ qt)) && decide (qt ≤ 65535)) → b = wM) := Lib.hid (fun b hb => by rw [hb, HWM.out, hg]; rfl)
                  have C := goes5_e qn w3 HE3.out (by omega)
                  rw [← hg] at C
                  clear hg HWR HRT HRV HFT HBR HWN HRF
                  by_cases hi1 : 0 ≤ id
                  · have hi1e : decide (0 ≤ id) = true := decide_eq_true hi1
                    by_cases hi2 : id ≤ 65535
                    · have hi2e : decide (id ≤ 65535) = true := decide_eq_true hi2
                      by_cases hc1 : 0 ≤ code
                      · have hc1e : decide (0 ≤ code) = true := decide_eq_true hc1
                        by_cases hc2 : code ≤ 15
                        · have hc2e : decide (code ≤ 15) = true := decide_eq_true hc2
                          go_wp2_with fail
                          refine C.mono ?_; rintro e w4 ⟨rfl, hb4, hE4⟩
                          have HB4 := Lib.hid hb4
                          obtain ⟨n0, n4, n5, n6, _⟩ := HMC.out w4 (HX3.out.below hb4)
                          clear hb4 hE4 C m0 m4 m5 m6
                          cases g with
                          | false =>
                            have HF := Lib.hid (HW.out false (by simp))
                            clear hi1e hi2e hc1e hc2e
                            go_wp2_with fail
                            go_meet
                            exact ⟨by rw [← HF.out]; first | done | rfl | (simp; omega) | simp [*], HB4.out⟩
                          | true =>
                            by_cases hq1 : 1 ≤ qt
                            · have hq1e : decide (1 ≤ qt) = true := decide_eq_true hq1
                              by_cases hq2 : qt ≤ 65535
                              · have hq2e : decide (qt ≤ 65535) = true := decide_eq_true hq2
                                have HF := Lib.hid (HW.out true (by rw [hi1e, hi2e, hc1e, hc2e, hq1e, hq2e]; rfl))
                                clear hi1e hi2e hc1e hc2e hq1e hq2e
                                go_wp2_with fail
                                go_meet
                                exact ⟨by rw [← HF.out]; first | done | rfl | (simp; omega) | simp [*], HB4.out⟩
                              · have hq2e : decide (qt ≤ 65535) = false := decide_eq_false hq2
                                have hq2n : 65535 < qt := by omega
                                have HF := Lib.hid (HW.out false (by rw [hq2e]; simp))
                                clear hi1e hi2e hc1e hc2e hq1e hq2e
                                go_wp2_with fail
                                go_meet
                                exact ⟨by rw [← HF.out]; first | done | rfl | (simp; omega) | simp [*], HB4.out⟩
                            · have hq1e : decide (1 ≤ qt) = false := decide_eq_false hq1
                              have hq1n : qt < 1 := by omega
                              have HF := Lib.hid (HW.out false (by rw [hq1e]; simp))
                              clear hi1e hi2e hc1e hc2e hq1e
                              go_wp2_with fail
                              go_meet
                              exact ⟨by rw [← HF.out]; first | done | rfl | (simp; omega) | simp [*], HB4.out⟩
                        · have hc2e : decide (code ≤ 15) = false := decide_eq_false hc2
                          have hc2n : 15 < code := by omega
                          have HF := Lib.hid (HW.out false (by rw [hc2e]; simp))
                          clear hi1e hi2e hc1e hc2e
                          go_wp2_with fail
                          go_meet
                          exact ⟨by rw [← HF.out]; first | done | rfl | (simp; omega) | simp [*], Below.refl _ _⟩
                      · have hc1e : decide (0 ≤ code) = false := decide_eq_false hc1
                        have hc1n : code < 0 := by omega
                        have HF := Lib.hid (HW.out false (by rw [hc1e]; simp))
                        clear hi1e hi2e hc1e
                        go_wp2_with fail
                        go_meet
                        exact ⟨by rw [← HF.out]; first | done | rfl | (simp; omega) | simp [*], Below.refl _ _⟩
                    · have hi2e : decide (id ≤ 65535) = false := decide_eq_false hi2
                      have hi2n : 65535 < id := by omega
                      have HF := Lib.hid (HW.out false (by rw [hi2e]; simp))
                      clear hi1e hi2e
                      go_wp2_with fail
                      go_meet
                      exact ⟨by rw [← HF.out]; first | done | rfl | (simp; omega) | simp [*], Below.refl _ _⟩
                  · have hi1e : decide (0 ≤ id) = false := decide_eq_false hi1
                    have hi1n : id < 0 := by omega
                    have HF := Lib.hid (HW.out false (by rw [hi1e]; simp))
                    clear hi1e
                    go_wp2_with fail
                    go_meet
                    exact ⟨by rw [← HF.out]; first | done | rfl | (simp; omega) | simp [*], Below.refl _ _⟩
                case rest =>
                  obtain ⟨rfl, hb4⟩ := hcut
                  have HX4 := Lib.hid (HX3.out.below hb4)
                  have HB4 := Lib.hid (HB3.out.trans (hb4.mono HB3.out.size))
                  have HE4 := Lib.hid (HE3.out.below hb4)
                  clear hb4 HX3 HB3 HE3
                  obtain ⟨w4, hw4⟩ : ∃ x, x = wc := ⟨_, rfl⟩
                  subst hw4
                  have HSM : Hid ((Tryd.prog.info? 30).map (·.size) = some M.size) := Lib.hid (by rw [HMV.out]; exact sizeM)
                  have HOM : Hid (M.all (·.oneCell') = true) := Lib.hid (by rw [HMV.out]; simp [mCells, Value.oneCell'])
                  have HZM : Hid (zMsg.size = M.size) := Lib.hid (by rw [HMV.out]; rfl)
                  have HZ0 := Lib.hid zeroM
                  obtain ⟨N, hN⟩ : ∃ N, N = mCells id rp tr rc code qn qt (some ⟨w4.heap.size + 1, 0, none⟩) 1 1 U 0 cu := ⟨_, rfl⟩
                  have HSN : Hid ((Tryd.prog.info? 30).map (·.size) = some N.size) := Lib.hid (by rw [hN]; exact sizeM)
                  have C1 : Hid (∀ w, Env w → Calls Tryd.prog 9 #[.agg R] w fun e w' => e = .returned (.bool wR) ∧ Below w.heap.size w w' ∧ Env w') := Lib.hid (fun w hE => by
                    have h := HRT.out w hE
                    rw [HWR.out, ← HWN.out] at h
                    exact h)
                  have C2 : Hid (∀ w, Env w → Calls Tryd.prog 10 #[.agg M] w fun e w' => e = .returned (.bool wM) ∧ Below w.heap.size w w' ∧ Env w') := Lib.hid (fun w hE => by
                    have h := all_mv ⟨id, rp, tr, rc, code, qn, qt, A, ca, [], U, cu, []⟩ ⟨by unfold maxLen; show qn.size ≤ _; omega, (fun r hr => by cases hr), (fun r hr => by cases hr), (by show 0 ≤ 9223372036854775807; omega), (by show 0 ≤ 9223372036854775807; omega)⟩ w hE ⟨fun h => absurd h (by show ¬ 0 < 0; omega), fun h => absurd h (by show ¬ 0 < 0; omega)⟩
                    rw [want_mv _ rfl rfl, ← HWM.out] at h
                    rw [HMV.out]
                    exact h)
                  have C3 : Hid (∀ w, Env w → w.heap[w4.heap.size + 1]? = some (.cells R 25 (0, 0)) → Calls Tryd.prog 10 #[.agg N] w fun e w' => e = .returned (.bool (wM && wR)) ∧ Below w.heap.size w w' ∧ Env w') := Lib.hid (fun w hE hRb => by
                    have h := all_mv ⟨id, rp, tr, rc, code, qn, qt, some ⟨w4.heap.size + 1, 0, none⟩, 1, [⟨nm, ty, ttl, ad, tx, da⟩], U, cu, []⟩ ⟨by unfold maxLen; show qn.size ≤ _; omega, (fun r hr => by rw [List.mem_singleton.1 hr]; exact HFT.out), (fun r hr => by cases hr), (by show 1 ≤ 9223372036854775807; omega), (by show 0 ≤ 9223372036854775807; omega)⟩ w hE ⟨fun _ => ⟨w4.heap.size + 1, 0, rfl, heap_in hRb, fun k r hk j v hv => by
                      match k, hk with
                      | 0, hk =>
                        simp only [List.getElem?_cons_zero, Option.some.injEq] at hk
                        subst hk
                        rw [← HRV.out] at hv
                        exact row_cells hRb j v hv
                      | k + 1, hk => simp at hk⟩, fun h => absurd h (by show ¬ 0 < 0; omega)⟩
                    rw [want_mv1 _ ⟨nm, ty, ttl, ad, tx, da⟩ rfl rfl, HWR.out, ← HWN.out, ← HWM.out] at h
                    rw [hN]
                    exact h)
                  have hR0 := HX4.out.rcd
                  have hM0 := HX4.out.msg
                  have hza : (w4.alloc (.cells M 30)).heap.size = w4.heap.size + 1 := World.size_alloc _ _
                  have hba1 : Below w4.heap.size w4 (w4.alloc (.cells M 30)) := (Below.refl _ w4).alloc (Nat.le_refl _) _
                  have hba2 : Below w4.heap.size w4 ((w4.alloc (.cells M 30)).alloc (.cells R 25)) := hba1.alloc (by rw [hza]; omega) _
                  have hRa := (hba1.block W.heap.size (heap_in hR0)).trans hR0
                  have hNa : ((w4.alloc (.cells M 30)).alloc (.cells R 25)).heap[w4.heap.size]? = some (.cells M 30 (0, 0)) := (((Below.refl _ (w4.alloc (.cells M 30))).alloc (Nat.le_refl _) (.cells R 25)).block w4.heap.size (by rw [hza]; omega)).trans (heap_alloc_last w4 _)
                  have hRb : ((w4.alloc (.cells M 30)).alloc (.cells R 25)).heap[w4.heap.size + 1]? = some (.cells R 25 (0, 0)) := by
                    have := heap_alloc_last (w4.alloc (.cells M 30)) (.cells R 25)
                    rwa [hza] at this
                  have c7 : ((w4.alloc (.cells M 30)).alloc (.cells R 25)).cell? ⟨w4.heap.size, 7, none⟩ = some (.slice A 0 ca) := by rw [cell_of_row _ _ 7 _ _ _ hNa, HMV.out]; rfl
                  have f7 : ((w4.alloc (.cells M 30)).alloc (.cells R 25)).frozen? ⟨w4.heap.size, 7, none⟩ = false := frozen_of_row _ _ _ _ _ hNa
                  have hzb : (w4.alloc (.cells (M.setIfInBounds 7 (.slice (some ⟨w4.heap.size + 1, 0, none⟩) 1 1)) 30)).heap.size = w4.heap.size + 1 := World.size_alloc _ _
                  have hNM : M.setIfInBounds 7 (.slice (some ⟨w4.heap.size + 1, 0, none⟩) 1 1) = N := by rw [hN, HMV.out]; rfl
                  have HN6 : Hid (((w4.alloc (.cells (M.setIfInBounds 7 (.slice (some ⟨w4.heap.size + 1, 0, none⟩) 1 1)) 30)).alloc (.cells R 25)).heap[w4.heap.size]? = some (.cells N 30 (0, 0))) := Lib.hid (by
                    rw [← hNM]
                    exact (((Below.refl _ (w4.alloc (.cells (M.setIfInBounds 7 (.slice (some ⟨w4.heap.size + 1, 0, none⟩) 1 1)) 30))).alloc (Nat.le_refl _) (.cells R 25)).block w4.heap.size (by rw [hzb]; omega)).trans (heap_alloc_last w4 _))
                  have HRb6 : Hid (((w4.alloc (.cells (M.setIfInBounds 7 (.slice (some ⟨w4.heap.size + 1, 0, none⟩) 1 1)) 30)).alloc (.cells R 25)).heap[w4.heap.size + 1]? = some (.cells R 25 (0, 0))) := Lib.hid (by
                    have := heap_alloc_last (w4.alloc (.cells (M.setIfInBounds 7 (.slice (some ⟨w4.heap.size + 1, 0, none⟩) 1 1)) 30)) (.cells R 25)
                    rwa [hzb] at this)
                  have hb6 : Below w4.heap.size w4 ((w4.alloc (.cells (M.setIfInBounds 7 (.slice (some ⟨w4.heap.size + 1, 0, none⟩) 1 1)) 30)).alloc (.cells R 25)) := ((Below.refl _ w4).alloc (Nat.le_refl _) _).alloc (by rw [hzb]; omega) _
                  have HX6 := Lib.hid (HX4.out.below hb6)
                  have HB6 := Lib.hid (HB4.out.trans (hb6.mono HB4.out.size))
                  have HE6 := Lib.hid (HE4.out.below hb6)
                  obtain ⟨i0, hi0, hz0, hz1, _⟩ := info_recR
                  have HI0 := Lib.hid hi0
                  have HIZ := Lib.hid hz0
                  have HI1 := Lib.hid hz1
                  have HM0 := Lib.hid hM0
                  have HRa := Lib.hid hRa
                  clear hR0 hM0 hRa hNa hRb hb6 hba1 hba2 hN hNM hzb hi0 hz0 hz1
                  go_upto_region 26 with (first
                    | (refine wpList_load_row rfl 30 (.tmp 3) rfl (W.heap.size + 1) rfl 30 M (0, 0) _ HM0.out Tryd.underlying30 rfl HSM.out ?_; go_simp)
                    | (refine wpList_alloc_z rfl 30 rfl zMsg HZ0.out ?_; go_simp)
                    | (refine wpList_store_new rfl 30 (.tmp 11) (.tmp 196) rfl w4.heap.size rfl zMsg M 30 rfl rfl HSM.out HZM.out HOM.out ?_; go_simp)
                    | (refine wpList_load_row rfl 25 (.tmp 2) rfl W.heap.size rfl 25 R (0, 0) _ HRa.out Tryd.underlying25 rfl HSZ.out ?_; go_simp)
                    | (refine wpList_buildSlice rfl 28 25 1 #[(0, .tmp 197)] rfl R i0 _ Tryd.underlying28 HI0.out HIZ.out (by rw [HI1.out]; decide) (by rw [HI1.out]; decide) (by rw [HI1.out]; refine (congrArg _ (?_ : _ = [(0, Value.agg R)])).trans (fill_21R HR21.out); rw [Array.toList_map]; rfl) ?_; go_simp))
                  generalize ((w4.alloc (.cells (M.setIfInBounds 7 (.slice (some ⟨w4.heap.size + 1, 0, none⟩) 1 1)) 30)).alloc (.cells R 25)) = w6 at HN6 HRb6 HX6 HB6 HE6 ⊢
                  clear c7 f7 HM0 HRa
                  have HR6 := Lib.hid HX6.out.rcd
                  go_wp2_with (first
                    | (refine wpList_load_row rfl 25 (.tmp 2) rfl W.heap.size rfl 25 R (0, 0) _ HR6.out Tryd.underlying25 rfl HSZ.out ?_; go_simp))
                  refine (C1.out w6 HE6.out).mono ?_; rintro e w7 ⟨rfl, hb7, hE7⟩
                  have HX7 := Lib.hid (HX6.out.below hb7)
                  have HM7 := Lib.hid (row_cells HX7.out.msg)
                  have HN7 := Lib.hid ((hb7.block _ (heap_in HN6.out)).trans HN6.out)
                  have HRb7 := Lib.hid ((hb7.block _ (heap_in HRb6.out)).trans HRb6.out)
                  have HB7 := Lib.hid (HB6.out.trans (hb7.mono HB6.out.size))
                  have HE7 := Lib.hid hE7
                  clear hb7 hE7 HX6 HN6 HRb6 HB6 HE6
                  go_wp2_with (first
                    | (refine wpList_load_agg_gh (by kernel_rfl) 30 (.tmp 3) rfl ⟨W.heap.size + 1, 0, none⟩ rfl M _ HM7.out Tryd.underlying30 rfl HSM.out ?_; go_simp))
                  refine (C2.out w7 HE7.out).mono ?_; rintro e w8 ⟨rfl, hb8, hE8⟩
                  have hN8 := (hb8.block _ (heap_in HN7.out)).trans HN7.out
                  have HN8 := Lib.hid (row_cells hN8)
                  have hRb8 := (hb8.block _ (heap_in HRb7.out)).trans HRb7.out
                  have HB8 := Lib.hid (HB7.out.trans (hb8.mono HB7.out.size))
                  have C3w := C3.out w8 hE8 hRb8
                  clear hb8 hE8 hN8 hRb8 HX7 HN7 HRb7 HB7 HE7 HM7
                  cases wM
                  all_goals cases wR
                  all_goals
                    go_wp2_with (first
                      | (refine wpList_load_agg_gh (by kernel_rfl) 30 (.tmp 11) rfl ⟨w4.heap.size, 0, none⟩ rfl N _ HN8.out Tryd.underlying30 rfl HSN.out ?_; go_simp))
                    refine Calls.mono C3w ?_; rintro e w9 ⟨rfl, hb9, _⟩
                    have HB9 := Lib.hid (HB8.out.trans (hb9.mono HB8.out.size))
                    clear hb9 C3w
                    go_wp2_with fail
                    go_ret
                    exact ⟨rfl, HB9.out⟩
    · have hz' : (0 : Int) < (na : Int) + (nu : Int) := by omega
      have htI : (nm.size : Int) + (tx.size : Int) + (da.size : Int) + (qn.size : Int) ≤ 1200 := by omega
      go_wp2_with fail
      go_ret
      exact ⟨rfl, HB1.out⟩
  · have htI : (1200 : Int) < (nm.size : Int) + (tx.size : Int) + (da.size : Int) + (qn.size : Int) := by omega
    go_wp2_with fail
    go_ret
    exact ⟨rfl, HB1.out⟩
end Go.Proofs.YteeonnjbjmanpaaDoor
