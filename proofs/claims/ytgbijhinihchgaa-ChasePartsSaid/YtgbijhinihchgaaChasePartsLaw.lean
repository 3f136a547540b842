/-
  The walk of ChaseParts: records of other names, and of other types, play no part. No condition.
-/
import Derived.Test.YtgbijhinihchgaaChFg
namespace Go.Proofs.Ytgbijhinihchgaa
open Go.RowKit

theorem list_set5 {m : MV} {mc : List Value} (h : m.cells = mc.toArray) (S : ByteArray) : mc.set 5 (.string S) = (MV.cells { m with qn := S }).toList := by
  have : mc = m.cells.toList := by rw [h]
  rw [this]; rfl
theorem rv_set02 {r : RV} {rl : List Value} (h : r.cells = rl.toArray) (S : ByteArray) (t : Int) : (rl.set 0 (.string S)).set 2 (.int .i64 t) = (RV.cells { r with nm := S, ttl := t }).toList := by
  have : rl = r.cells.toList := by rw [h]
  rw [this]; unfold RV.cells; rfl
theorem app_nilc (g n cap c2 : Nat) (h : n ≤ cap) (ty : TypeId) (W : World) : (Builtin.append_ #[30, 30] ty #[.slice (some ⟨g, 0, none⟩) n cap, .slice none 0 c2]).run Try.prog W = .ok (.slice (some ⟨g, 0, none⟩) n cap) W := by
  simp [Builtin.append_, go_sem, run_underlying Try.underlying30, Builtin.lenOf, Builtin.firstCells, h, storeCells]
theorem wpList_andNot {P : Program} {ops : Array Oper} {rest : List Oper} {o : Oper} {a : Act} {Q : Exit → Act → World → Prop} {w : World} (hgd : o.guard = none) (t : TypeId) (x y : Operand) (s : TypeId) (ho : o.op = .binOp .andNot t x y s) (k : IntKind) (m n : Int)
    (hx : a.eval x = .int k m) (hy : a.eval y = .int k n) (h : wpList P ops Q rest (a.put o.dst (.int k (bits .andNot k m n))) w) : wpList P ops Q (o :: rest) a w :=
  wpList_plain hgd fun _ hK => by
    have hk := hK _ _ h
    unfold Oper.wp execOp
    simp only [ho, hx, hy]
    simp only [go_sem]
    first
      | exact hk
      | (unfold Oper.upon; exact hk)
/-- the two messages and the record as they stand -/
structure PtAt (w3 wx : World) (g9 g10 g11 : Nat) (c1 c2 cr : Array Value) (A1 : Option Addr) (rs : List RV) : Prop where
  below : Below w3.heap.size w3 wx
  m1 : wx.heap[g9]? = some (.cells c1 32 (0, 0))
  m2 : wx.heap[g10]? = some (.cells c2 32 (0, 0))
  rr : wx.heap[g11]? = some (.cells cr 41 (0, 0))
  ra : RecsAt wx A1 rs
theorem ptFin {w3 W8 w9 : World} {g9 g10 g11 gB n c1 : Nat} {C1 CR : Array Value} {A1 : Option Addr} {rs : List RV} (hb : Below w3.heap.size w3 W8) (h9 : W8.heap[g9]? = some (.cells C1 32 (0, 0))) (h10 : W8.heap[g10]? = some (.cells C1 32 (0, 0))) (h11 : W8.heap[g11]? = some (.cells CR 41 (0, 0)))
    (l9 : w3.heap.size ≤ g9) (l10 : g9 < g10) (l11 : g10 < g11) (lB : g11 < gB) (hg : W8.grownBy w9 (some gB)) (ho : w9.ownsRow gB 41 21 (.slice A1 n c1) n (rcs rs)) (hn : n = rs.length) (had : ∀ r ∈ rs, r.ad.length = 16) :
    w9.heap[g10]? = some (.cells C1 32 (0, 0)) ∧ PtAt w3 (w9.setCell ⟨g10, 7, none⟩ (.slice A1 n c1)) g9 g10 g11 C1 (C1.setIfInBounds 7 (.slice A1 n c1)) CR A1 rs := by
  have k9 : w9.heap[g9]? = some (.cells C1 32 (0, 0)) := (hg.block g9 (heap_lt h9) (fun e => by injection e with e; omega)).trans h9
  have k10 : w9.heap[g10]? = some (.cells C1 32 (0, 0)) := (hg.block g10 (heap_lt h10) (fun e => by injection e with e; omega)).trans h10
  have k11 : w9.heap[g11]? = some (.cells CR 41 (0, 0)) := (hg.block g11 (heap_lt h11) (fun e => by injection e with e; omega)).trans h11
  refine ⟨k10, ?_, ?_, heap_setCell_same w9 g10 7 _ _ _ k10, ?_, ?_⟩
  · exact (hb.grown hg hb.size (fun j hj => by injection hj with hj; omega)).setCell (p := ⟨g10, 7, none⟩) (by show w3.heap.size ≤ g10; omega) _
  · exact (Below.heap_setCell w9 ⟨g10, 7, none⟩ _ _ (by show g9 ≠ g10; omega)).trans k9
  · exact (Below.heap_setCell w9 ⟨g10, 7, none⟩ _ _ (by show g11 ≠ g10; omega)).trans k11
  · subst hn
    exact own_recs (ho.kept (grown_set w9 g10 7 _) (.inr (fun e => by have := (ho.lt g10 e).1; omega))) had
theorem own_one {W : World} {g : Nat} {rl : List Value} (h : W.heap[g]? = some (.cells rl.toArray 41 (0, 0))) (hl : rl.length = 21) : W.ownsRow g 41 21 (.slice (some ⟨g, 0, none⟩) 1 1) 1 rl :=
  ⟨by rw [hl], .inr ⟨g, 1, rl.toArray, rfl, Nat.le_refl _, h, Nat.le_refl _, by unfold maxLen; omega, by rw [List.size_toArray, hl], by rw [← hl]; simp⟩⟩
set_option maxRecDepth 100000 in
set_option maxHeartbeats 16000000 in
theorem chaseParts_walk (s : SV) (hs : s.Fits) (l : List SV) (hx : ∀ x ∈ l, x.Fits) (A : Option Addr) (ca : Nat) (fl : Int) (w : World) (hA : SeedsAt w A l) :
    Calls Try.prog 6 #[.agg s.cells, .slice A l.length ca, .int .i64 fl] w fun e w' => e = .returned (.bool true) ∧ Below w.heap.size w w' := by
  have HFit := Lib.hid fit15_e
  have hz20 : s.cells.size = 20 := SV.size hs.ad
  have HSZ : Hid ((Try.prog.info? 25).map (·.size) = some s.cells.size) := Lib.hid (by rw [hz20]; exact sizeSeed)
  have HF := Lib.hid hx
  have HSe0 := Lib.hid hA
  have ZS := Lib.hid zeroSeed
  obtain ⟨f2, hf2⟩ : ∃ f2 : Int, bits BinOp.andNot IntKind.i64 fl 8 = f2 := ⟨_, rfl⟩
  have HMe := Lib.hid (fun W hW hl => message_e 1 f2 s hs A ca l hx W hW hl)
  have HSr := Lib.hid (fun W => seed_e s hs W)
  have hrok := seedR_ok hs
  have HSi : Hid (∀ W1 : World, W1.heap[w.heap.size]? = some (.cells s.cells 25 (0, 0)) → True) := Lib.hid (fun _ _ => trivial)
  clear hA hx hs hz20
  by_cases h20 : l.length ≤ 20
  · have h20I : (l.length : Int) ≤ 20 := by omega
    generalize hsc : s.cells = sc at HSZ HMe HSr ⊢
    clear hsc HSi
    go_enter Try.func6, Try.ntmps6
    go_wp2_with fail
    refine (HFit.out _).mono ?_
    rintro e w1 ⟨rfl, hbw1⟩
    have hq1 : w1.heap[w.heap.size]? = some (.cells sc 25 (0, 0)) := (hbw1.block _ (by rw [World.size_alloc]; omega)).trans (heap_alloc_last w _)
    have HB1 : Hid (Below w.heap.size w w1) := Lib.hid (((Below.refl _ w).alloc (Nat.le_refl _) _).trans (hbw1.mono (by rw [World.size_alloc]; omega)))
    have HSc : Hid (∀ U, Below w1.heap.size w1 U → U.heap[w.heap.size]? = some (.cells sc 25 (0, 0))) := Lib.hid (fun U hU => (hU.block _ (heap_lt hq1)).trans hq1)
    have HSe : Hid (∀ U, Below w1.heap.size w1 U → SeedsAt U A l) := Lib.hid (fun U hU => HSe0.out.below (HB1.out.trans (hU.mono HB1.out.size)))
    clear hbw1 hq1 HSe0
    go_wp2_with fail
    go_loopw [21] (fun i wr => ∃ k : Nat, k ≤ l.length ∧ i = .int .i64 k ∧ Hid (Below w1.heap.size w1 wr)) (fun i _ => l.length - (intOf i).toNat)
    case atStart => exact ⟨0, by omega, rfl, Lib.hid (Below.refl _ w1)⟩
    case round =>
      obtain ⟨k, hk, rfl, HB⟩ := hrel
      by_cases hlt : k < l.length
      · have hkI : (k : Int) < (l.length : Int) := by omega
        obtain ⟨b, o, rfl, hbl, hc⟩ := (HSe.out wr HB.out) (by omega)
        obtain ⟨x, hxs⟩ : ∃ x, l[k]? = some x := ⟨_, List.getElem?_eq_getElem hlt⟩
        have hfit := HF.out x (List.mem_of_getElem? hxs)
        have HC := Lib.hid (hc k x hxs)
        have hz20 : x.cells.size = 20 := SV.size hfit.ad
        have Z : Hid ((Try.prog.info? 25).map (·.size) = some x.cells.size) := Lib.hid (by rw [hz20]; exact sizeSeed)
        have ZZ : Hid (zeroS.cells.size = x.cells.size) := Lib.hid (by rw [hz20]; exact SV.size rfl)
        have O1 : Hid (x.cells.all (·.oneCell') = true) := Lib.hid (SV.one x)
        have d : (wr.alloc (.cells x.cells 25)).cell? ⟨wr.heap.size, 19, none⟩ = some (.string x.da) := (cell_of_row _ wr.heap.size 19 _ _ _ (heap_alloc_last wr _)).trans (SV.c19 hfit.ad)
        have HB2 : Hid (Below w1.heap.size w1 (wr.alloc (.cells x.cells 25))) := Lib.hid (HB.out.alloc HB.out.size _)
        clear hc hxs hz20 hfit hbl HF HMe HSr
        generalize x.cells = cs at HC Z ZZ O1 d HB2
        generalize x.da = D at d
        generalize zeroS.cells = zs at ZS ZZ
        by_cases h4 : (300 : Int) < (D.size : Int)
        · go_wp2_with (first
            | (refine wpList_load_agg rfl 25 (.tmp 23) rfl ⟨b, o + k * 20, none⟩ rfl cs _ HC.out Try.underlying25 rfl Z.out ?_; go_simp)
            | (refine wpList_alloc_z rfl 25 rfl zs ZS.out ?_; go_simp)
            | (refine wpList_store_new rfl 25 (.tmp 8) (.tmp 24) rfl wr.heap.size rfl zs cs 25 rfl rfl Z.out ZZ.out O1.out ?_; go_simp))
          go_ret
          exact ⟨rfl, HB1.out.trans (HB2.out.mono HB1.out.size)⟩
        · go_wp2_with (first
            | (refine wpList_load_agg rfl 25 (.tmp 23) rfl ⟨b, o + k * 20, none⟩ rfl cs _ HC.out Try.underlying25 rfl Z.out ?_; go_simp)
            | (refine wpList_alloc_z rfl 25 rfl zs ZS.out ?_; go_simp)
            | (refine wpList_store_new rfl 25 (.tmp 8) (.tmp 24) rfl wr.heap.size rfl zs cs 25 rfl rfl Z.out ZZ.out O1.out ?_; go_simp))
          go_roundw
          case rel => exact ⟨k + 1, by omega, by go_num, HB2⟩
          case measure => simp [intOf]; omega
      · have hkI : ¬ (k : Int) < (l.length : Int) := by omega
        obtain rfl : k = l.length := by omega
        clear hlt hk ZS
        have HScr := Lib.hid (HSc.out wr HB.out)
        go_upto_region 11 with fail
        go_wp2_with (first
          | (refine wpList_andNot rfl 3 (.tmp 30) (.const (.int .i64 8)) _ rfl .i64 fl 8 rfl rfl ?_; rw [hf2]; go_simp)
          | (refine wpList_load_row rfl 25 (.tmp 3) rfl w.heap.size rfl 25 sc (0, 0) _ HScr.out Try.underlying25 rfl HSZ.out ?_; go_simp))
        refine (HMe.out wr (HSe.out wr HB.out) (by omega)).mono ?_
        rintro e w3 ⟨hb3, m, hm, hli, rfl⟩
        have HB3 : Hid (Below w1.heap.size w1 w3) := Lib.hid (HB.out.trans (hb3.mono HB.out.size))
        have hmn := hm
        have hcode : m.code = 0 ∨ m.code = 3 ∨ m.code = 2 := by
          have := congrArg MV.code hm
          have e : m.code = codeN (bN (f2 / 8) 3) := this
          rw [e]; exact codeN_is _
        have hqt : m.qt = (seedR s).ty := congrArg MV.qt hm
        have han : m.an = anL (l.take 32) := congrArg MV.an hm
        have hau : m.au = auL (l.take 32) := congrArg MV.au hm
        have hfT : ∀ x ∈ l.take 32, x.Fits := fun x hx => HF.out x (List.mem_of_mem_take hx)
        have hadA : ∀ r ∈ m.an, r.ad.length = 16 := fun r hr => by rw [han] at hr; exact (anL_mem hfT hr).1.fits.ad
        have hadU : ∀ r ∈ m.au, r.ad.length = 16 := fun r hr => by rw [hau] at hr; exact (auL_mem hfT hr).1.fits.ad
        have hlA : m.an.length ≤ 32 := by rw [han]; exact Nat.le_trans (anL_len _) (by rw [List.length_take]; omega)
        have hlU : m.au.length ≤ 32 := by rw [hau]; exact Nat.le_trans (auL_len _) (by rw [List.length_take]; omega)
        have hown : ∀ r ∈ m.an, (r.nm.toList == nmOwn.toList) = false := by rw [han]; exact an_own _
        have hR : ∃ r' : RV, r' = { seedR s with nm := nmOwn, ttl := 7 } := ⟨_, rfl⟩
        obtain ⟨r', hr'⟩ := hR
        have hrad : r'.ad.length = 16 := by rw [hr']; exact hrok.fits.ad
        have hO1 : ofF m.code nmOwn m.qt m.an m.au = if m.code ≠ 0 ∧ m.code ≠ 3 then ⟨4, [], ⟨#[]⟩, 0⟩ else nothF m.code m.au := of_noname hown
        have hO2 : ofF m.code nmOwn m.qt (r' :: m.an) m.au = if m.code ≠ 0 ∧ m.code ≠ 3 then ⟨4, [], ⟨#[]⟩, 0⟩ else ⟨1, [r'], ⟨#[]⟩, 7⟩ := by
          have := of_first (code := m.code) (S := nmOwn) (qt := m.qt) (r := r') (an := m.an) (au := m.au) hown (by rw [hr']; exact beq_self_eq_true _) (by rw [hr', hqt])
          rw [this, hr']
        have HOf1 : Hid (∀ U, m.Lies U → Calls Try.prog 10 #[.agg (MV.cells { m with qn := nmOwn })] U (FdPost U (if m.code ≠ 0 ∧ m.code ≠ 3 then ⟨4, [], ⟨#[]⟩, 0⟩ else nothF m.code m.au))) := Lib.hid (fun U hU => by
          have h := of_e { m with qn := nmOwn } hadA hadU (by show m.an.length ≤ 900; omega) (by show m.au.length ≤ 900; omega) U hU.an hU.au
          rw [show ofF ({ m with qn := nmOwn } : MV).code ({ m with qn := nmOwn } : MV).qn ({ m with qn := nmOwn } : MV).qt ({ m with qn := nmOwn } : MV).an ({ m with qn := nmOwn } : MV).au = _ from hO1] at h
          exact h)
        have HOf2 : Hid (∀ U A1 c1, RecsAt U A1 (r' :: m.an) → RecsAt U m.U m.au → Calls Try.prog 10 #[.agg (MV.cells { m with qn := nmOwn, A := A1, ca := c1, an := r' :: m.an })] U (FdPost U (if m.code ≠ 0 ∧ m.code ≠ 3 then ⟨4, [], ⟨#[]⟩, 0⟩ else ⟨1, [r'], ⟨#[]⟩, 7⟩))) := Lib.hid (fun U A1 c1 hU hU2 => by
          have h := of_e { m with qn := nmOwn, A := A1, ca := c1, an := r' :: m.an } (fun x hx => by
            rcases List.mem_cons.1 hx with rfl | hx
            · exact hrad
            · exact hadA x hx) hadU (by show (r' :: m.an).length ≤ 900; rw [List.length_cons]; omega) (by show m.au.length ≤ 900; omega) U hU hU2
          rw [show ofF ({ m with qn := nmOwn, A := A1, ca := c1, an := r' :: m.an } : MV).code ({ m with qn := nmOwn, A := A1, ca := c1, an := r' :: m.an } : MV).qn ({ m with qn := nmOwn, A := A1, ca := c1, an := r' :: m.an } : MV).qt ({ m with qn := nmOwn, A := A1, ca := c1, an := r' :: m.an } : MV).an ({ m with qn := nmOwn, A := A1, ca := c1, an := r' :: m.an } : MV).au = _ from hO2] at h
          exact h)
        obtain ⟨mc, hmc⟩ : ∃ mc : List Value, m.cells = mc.toArray := ⟨m.cells.toList, by rw [Array.toArray_toList]⟩
        obtain ⟨m1, hm1⟩ : ∃ m1, m1 = mc.set 5 (.string ⟨#[111, 119, 110]⟩) := ⟨_, rfl⟩
        have hm1c : MV.cells { m with qn := nmOwn } = m1.toArray := by rw [hm1]; exact (congrArg List.toArray (list_set5 hmc nmOwn)).symm.trans (by rfl) |>.symm ▸ rfl
        have H1c4 : Hid (m1.toArray[4]? = some (.int .i64 m.code)) := Lib.hid (by rw [← hm1c]; rfl)
        have H1c7 : Hid (m1.toArray[7]? = some (.slice m.A m.an.length m.ca)) := Lib.hid (by rw [← hm1c]; rfl)
        have H1s : Hid (∀ A1 n1 c1, m1.toArray.setIfInBounds 7 (.slice A1 n1 c1) = MV.cells { m with qn := nmOwn, A := A1, ca := c1, an := r' :: m.an } ∨ n1 ≠ m.an.length + 1) := Lib.hid (fun A1 n1 c1 => by
          by_cases h : n1 = m.an.length + 1
          · left; rw [← hm1c, h]; rfl
          · exact .inr h)
        have S1 : Hid ((Try.prog.info? 32).map (·.size) = some m1.toArray.size) := Lib.hid (by rw [← hm1c]; exact sizeM)
        have Z1 : Hid (zMsg.size = m1.toArray.size) := Lib.hid (by rw [← hm1c]; rfl)
        have O1 : Hid (m1.toArray.all (·.oneCell') = true) := Lib.hid (by rw [← hm1c]; exact MV.one _)
        have S0 : Hid ((Try.prog.info? 32).map (·.size) = some mc.toArray.size) := Lib.hid (by rw [← hmc]; exact sizeM)
        have Z0 : Hid (zMsg.size = mc.toArray.size) := Lib.hid (by rw [← hmc]; rfl)
        have O0 : Hid (mc.toArray.all (·.oneCell') = true) := Lib.hid (by rw [← hmc]; exact MV.one _)
        have ZM := Lib.hid zeroM
        have HM1 := Lib.hid hm1
        have d5 : (w3.alloc (.cells mc.toArray 32)).cell? ⟨w3.heap.size, 5, none⟩ = some (.string m.qn) := (cell_of_row _ w3.heap.size 5 _ _ _ (heap_alloc_last w3 _)).trans (by rw [← hmc]; rfl)
        have f5 := frozen_of_row _ w3.heap.size 5 _ _ (heap_alloc_last w3 (.cells mc.toArray 32))
        rw [hm1c] at HOf1
        obtain ⟨rl, hrl⟩ : ∃ rl : List Value, (seedR s).cells = rl.toArray := ⟨(seedR s).cells.toList, by rw [Array.toArray_toList]⟩
        obtain ⟨r2, hr2⟩ : ∃ r2, r2 = (rl.set 0 (.string ⟨#[111, 119, 110]⟩)).set 2 (.int .i64 7) := ⟨_, rfl⟩
        have hr2c : r2 = r'.cells.toList := by rw [hr2, hr']; exact rv_set02 hrl nmOwn 7
        have hR2 := Lib.hid hr2
        have SR0 : Hid ((Try.prog.info? 41).map (·.size) = some rl.toArray.size) := Lib.hid (by rw [← hrl]; exact sizeRv hrok.fits.ad)
        have ZR0 : Hid ((RV.cells ⟨emp, 0, 0, zero16, emp, emp⟩).size = rl.toArray.size) := Lib.hid (by rw [← hrl, RV.size hrok.fits.ad]; rfl)
        have OR0 : Hid (rl.toArray.all (·.oneCell') = true) := Lib.hid (by rw [← hrl]; exact RV.one _)
        have SR2 : Hid ((Try.prog.info? 41).map (·.size) = some r2.toArray.size) := Lib.hid (by rw [hr2c, Array.toArray_toList]; exact sizeRv hrad)
        have HCL : Hid (r2.length = 21) := Lib.hid (by rw [hr2c, Array.length_toList]; exact RV.size hrad)
        have HC1 : Hid (∀ u ∈ r2, u.oneCell' = true) := Lib.hid (fun u hu => by
          rw [hr2c] at hu
          have h := RV.one r'
          rw [Array.all_eq_true'] at h
          exact h u (by simpa using hu))
        have HRc2 : Hid (rcs (r' :: m.an) = r2 ++ rcs m.an) := Lib.hid (by rw [hr2c]; unfold rcs; rw [List.flatMap_cons])
        have q0 : rl.toArray[0]? = some (.string (seedR s).nm) := by rw [← hrl]; exact RV.c0 _
        have q2 : (rl.set 0 (.string ⟨#[111, 119, 110]⟩)).toArray[2]? = some (.int .i64 (seedR s).ttl) := by
          have h := RV.c2 (seedR s)
          rw [hrl] at h
          simpa using h
        have HR2c := Lib.hid hr2c
        have HSr2 : Hid (∀ W, Calls Try.prog 15 #[.agg sc] W fun e w' => e = .returned (.agg rl.toArray) ∧ Below W.heap.size W w') := Lib.hid (fun W => by rw [← hrl]; exact HSr.out W)
        have HEQ : Hid (∀ W, (Op.equalIn 10000 41 (.agg r2.toArray) (.agg r2.toArray)).run Try.prog W = .ok true W) := Lib.hid (fun W => by
          rw [hr2c, Array.toArray_toList, ← RV.eqB_self r']
          exact eq_recs W hrad hrad)
        have HZR := Lib.hid zeroRec
        have HAdA : Hid (∀ r ∈ r' :: m.an, r.ad.length = 16) := Lib.hid (fun x hx => by
          rcases List.mem_cons.1 hx with rfl | hx
          · exact hrad
          · exact hadA x hx)
        have HSrc : Hid ((m.A = none ∧ m.an = []) ∨ ∃ ad, m.A = some ad ∧ ∀ U, Below w3.heap.size w3 U → ∀ j u, (rcs m.an)[j]? = some u → U.cell? (ad.add j) = some u) := Lib.hid (by
          cases hAq : m.A with
          | none =>
            left
            refine ⟨rfl, ?_⟩
            rcases hq : m.an with _ | ⟨y, t⟩
            · rfl
            · obtain ⟨b, o, e, _⟩ := hli.an (by rw [hq]; simp)
              rw [hAq] at e; cases e
          | some ad =>
            right
            refine ⟨ad, rfl, fun U hU j u hj => ?_⟩
            rcases Nat.eq_zero_or_pos m.an.length with h0 | h0
            · rw [List.length_eq_zero_iff.1 h0] at hj; simp [rcs] at hj
            · obtain ⟨b, o, e, hlt, hc⟩ := (hli.an.below hU) h0
              rw [hAq] at e
              injection e with e
              subst e
              exact rcs_cells hadA hc j u hj)
        have LA : Hid ((rcs m.an).length = m.an.length * 21) := Lib.hid (rcs_len hadA)
        have OA := Lib.hid (rcs_one m.an)
        have HLi := Lib.hid hli
        have hlAI : (m.an.length : Int) ≤ 32 := by omega
        obtain ⟨F1, hF1⟩ : ∃ F1 : Fd, F1 = if m.code ≠ 0 ∧ m.code ≠ 3 then ⟨4, [], ⟨#[]⟩, 0⟩ else nothF m.code m.au := ⟨_, rfl⟩
        obtain ⟨F2, hF2⟩ : ∃ F2 : Fd, F2 = if m.code ≠ 0 ∧ m.code ≠ 3 then ⟨4, [], ⟨#[]⟩, 0⟩ else ⟨1, [r'], ⟨#[]⟩, 7⟩ := ⟨_, rfl⟩
        have HFF : Hid ((m.code = 0 → F1.out = 5 ∧ F2 = ⟨1, [r'], ⟨#[]⟩, 7⟩) ∧ (m.code = 3 → F1.out = 2 ∧ F2 = ⟨1, [r'], ⟨#[]⟩, 7⟩) ∧ (m.code = 2 → F1.out = 4 ∧ F2 = ⟨4, [], ⟨#[]⟩, 0⟩)) := Lib.hid (by
          refine ⟨fun h => ?_, fun h => ?_, fun h => ?_⟩
          · rw [hF1, hF2, h]; exact ⟨rfl, rfl⟩
          · rw [hF1, hF2, h]; exact ⟨rfl, rfl⟩
          · rw [hF1, hF2, h]; exact ⟨rfl, rfl⟩)
        rw [← hF1] at HOf1
        rw [← hF2] at HOf2
        clear hm hmn hqt han hau hfT hadA hadU hlU hown hO1 hO2 hrok hr' hrad hm1c hm1 hr2 hr2c hrl hli hF1 hF2 hb3 HSe HF HMe HSr
        rw [hmc]
        clear hmc
        go_upto_region 13 with (first
          | (refine wpList_alloc_z rfl 32 rfl zMsg ZM.out ?_; go_simp)
          | (refine wpList_store_new rfl 32 (.tmp 9) (.tmp 34) rfl w3.heap.size rfl zMsg mc.toArray 32 rfl rfl S0.out Z0.out O0.out ?_; go_simp))
        rw [← HM1.out]
        clear d5 f5 S0 Z0 O0 HM1
        have HL4 : Hid (Below w3.heap.size w3 (w3.alloc (.cells m1.toArray 32))) := Lib.hid ((Below.refl _ w3).alloc (Nat.le_refl _) _)
        have HG4 := Lib.hid (heap_alloc_last w3 (.cells m1.toArray 32))
        have HZ4 : Hid ((w3.alloc (.cells m1.toArray 32)).heap.size = w3.heap.size + 1) := Lib.hid (World.size_alloc _ _)
        generalize w3.alloc (.cells m1.toArray 32) = W4 at HL4 HG4 HZ4 ⊢
        obtain ⟨g9, hg9⟩ : ∃ g9, g9 = w3.heap.size := ⟨_, rfl⟩
        have HG9e := Lib.hid hg9
        rw [← hg9] at HG4 ⊢
        clear hg9
        go_upto_region 14 with (first
          | (refine wpList_load_row rfl 32 (.tmp 9) rfl g9 rfl 32 m1.toArray (0, 0) _ HG4.out Try.underlying32 rfl S1.out ?_; go_simp)
          | (refine wpList_alloc_z rfl 32 rfl zMsg ZM.out ?_; go_simp)
          | (refine wpList_store_new rfl 32 (.tmp 10) (.tmp 37) rfl W4.heap.size rfl zMsg m1.toArray 32 rfl rfl S1.out Z1.out O1.out ?_; go_simp))
        have hb5 : Below W4.heap.size W4 (W4.alloc (.cells m1.toArray 32)) := (Below.refl _ W4).alloc (Nat.le_refl _) _
        have HL5 := Lib.hid (HL4.out.trans (hb5.mono HL4.out.size))
        have HG5 := Lib.hid ((hb5.block _ (heap_lt HG4.out)).trans HG4.out)
        have HH5 := Lib.hid (heap_alloc_last W4 (.cells m1.toArray 32))
        have HZ5 : Hid ((W4.alloc (.cells m1.toArray 32)).heap.size = W4.heap.size + 1) := Lib.hid (World.size_alloc _ _)
        have HLt5 : Hid (g9 < W4.heap.size) := Lib.hid (heap_lt HG4.out)
        clear hb5 HL4 HG4 HZ4
        generalize W4.alloc (.cells m1.toArray 32) = W5 at HL5 HG5 HH5 HZ5 ⊢
        generalize W4.heap.size = g10 at HH5 HZ5 HLt5 ⊢
        have HSc5 := Lib.hid (HSc.out W5 (HB3.out.trans (HL5.out.mono HB3.out.size)))
        go_wp2_with (first
          | (refine wpList_load_row rfl 25 (.tmp 3) rfl w.heap.size rfl 25 sc (0, 0) _ HSc5.out Try.underlying25 rfl HSZ.out ?_; go_simp))
        refine (HSr2.out W5).mono ?_
        rintro e w6 ⟨rfl, hb6⟩
        have hl0 := heap_alloc_last w6 (.cells rl.toArray 41)
        have d0 := (cell_of_row _ w6.heap.size 0 _ _ _ hl0).trans q0
        have f0 := frozen_of_row _ w6.heap.size 0 _ _ hl0
        have hl2 := heap_alloc_last w6 (.cells (rl.set 0 (.string ⟨#[111, 119, 110]⟩)).toArray 41)
        have d2 := (cell_of_row _ w6.heap.size 2 _ _ _ hl2).trans q2
        have f2x := frozen_of_row _ w6.heap.size 2 _ _ hl2
        have hb7 : Below w6.heap.size w6 (w6.alloc (.cells r2.toArray 41)) := (Below.refl _ w6).alloc (Nat.le_refl _) _
        have hb57 := hb6.trans (hb7.mono hb6.size)
        have HL7 := Lib.hid (HL5.out.trans (hb57.mono HL5.out.size))
        have HG7 := Lib.hid ((hb57.block _ (heap_lt HG5.out)).trans HG5.out)
        have HH7 := Lib.hid ((hb57.block _ (heap_lt HH5.out)).trans HH5.out)
        have HI7 := Lib.hid (heap_alloc_last w6 (.cells r2.toArray 41))
        have HLt7 : Hid (g10 < w6.heap.size) := Lib.hid (Nat.lt_of_lt_of_le (heap_lt HH5.out) hb6.size)
        clear hl0 hl2 q0 q2 hb6 hb7 hb57 HL5 HG5 HH5 HZ5 HSc5 HSr2
        go_upto_region 16 with (first
          | (refine wpList_alloc_z rfl 41 rfl (RV.cells ⟨emp, 0, 0, zero16, emp, emp⟩) HZR.out ?_; go_simp)
          | (refine wpList_store_new rfl 41 (.tmp 11) (.tmp 39) rfl w6.heap.size rfl (RV.cells ⟨emp, 0, 0, zero16, emp, emp⟩) rl.toArray 41 rfl rfl SR0.out ZR0.out OR0.out ?_; go_simp))
        rw [← hR2.out]
        clear d0 f0 d2 f2x SR0 ZR0 OR0 hR2
        generalize w6.alloc (.cells r2.toArray 41) = W7 at HL7 HG7 HH7 HI7 ⊢
        generalize w6.heap.size = g11 at HI7 HLt7 ⊢
        obtain ⟨i0, hi, hz0, hz1, hz2⟩ := info_rec
        have HI := Lib.hid hi
        have HZ0 := Lib.hid hz0
        have HZ1 := Lib.hid hz1
        have HZ2 := Lib.hid hz2
        clear hi hz0 hz1 hz2
        go_cut [11] from 42 to 47 (fun t11 wx => t11 = .pointer (some ⟨g11, 0, none⟩) ∧ ∃ A1 c1, Hid (PtAt w3 wx g9 g10 g11 m1.toArray (MV.cells { m with qn := nmOwn, A := A1, ca := c1, an := r' :: m.an }) r2.toArray A1 (r' :: m.an)))
        case first =>
          have hb8 : Below W7.heap.size W7 (W7.alloc (.cells r2.toArray 41)) := (Below.refl _ W7).alloc (Nat.le_refl _) _
          have HL8 := Lib.hid (HL7.out.trans (hb8.mono HL7.out.size))
          have HG8 := Lib.hid ((hb8.block _ (heap_lt HG7.out)).trans HG7.out)
          have HH8 := Lib.hid ((hb8.block _ (heap_lt HH7.out)).trans HH7.out)
          have HI8 := Lib.hid ((hb8.block _ (heap_lt HI7.out)).trans HI7.out)
          have HB8 := Lib.hid (heap_alloc_last W7 (.cells r2.toArray 41))
          have HLtB : Hid (g11 < W7.heap.size) := Lib.hid (heap_lt HI7.out)
          have HOn := Lib.hid (own_one HB8.out HCL.out)
          have d97 := (cell_of_row _ g9 7 _ _ _ HG8.out).trans H1c7.out
          have HSz : Hid (W7.heap.size ≤ (W7.alloc (.cells r2.toArray 41)).heap.size) := Lib.hid hb8.size
          have HEnd : Hid (∀ w9 A1 n c1, (W7.alloc (.cells r2.toArray 41)).grownBy w9 (some W7.heap.size) → w9.ownsRow W7.heap.size 41 21 (.slice A1 n c1) n (rcs (r' :: m.an)) → n = m.an.length + 1 → w9.heap[g10]? = some (.cells m1.toArray 32 (0, 0)) ∧ PtAt w3 (w9.setCell ⟨g10, 7, none⟩ (.slice A1 n c1)) g9 g10 g11 m1.toArray (MV.cells { m with qn := nmOwn, A := A1, ca := c1, an := r' :: m.an }) r2.toArray A1 (r' :: m.an)) := Lib.hid (fun w9 A1 n c1 hg ho hn => by
            have h := ptFin HL8.out HG8.out HH8.out HI8.out (by rw [HG9e.out]; exact Nat.le_refl _) HLt5.out HLt7.out HLtB.out hg ho hn HAdA.out
            rcases H1s.out A1 n c1 with e | e
            · rw [e] at h; exact h
            · exact absurd hn e)
          clear hb8
          rcases HSrc.out with ⟨hAn, han0⟩ | ⟨ad, hAs, hcs⟩
          · have hn1 := app_nilc W7.heap.size 1 1 m.ca (Nat.le_refl _)
            have he := HEnd.out (W7.alloc (.cells r2.toArray 41)) (some ⟨W7.heap.size, 0, none⟩) 1 1 ⟨rfl, rfl, rfl, Nat.le_refl _, fun k _ _ => rfl⟩ (by rw [HRc2.out, han0]; simp only [rcs, List.flatMap_nil, List.append_nil]; exact HOn.out) (by rw [han0]; rfl)
            have d10 := cell_of_row _ g10 7 _ _ _ he.1
            rw [H1c7.out] at d10
            have f10 := frozen_of_row _ g10 7 _ _ he.1
            have HNX := Lib.hid he.2
            rw [hAn, han0] at d97
            rw [hAn, han0] at d10
            have d97 : (W7.alloc (.cells r2.toArray 41)).cell? ⟨g9, 7, none⟩ = some (.slice none 0 m.ca) := d97
            clear he HEnd
            go_wp2_with (first
              | (refine wpList_load_row rfl 41 (.tmp 11) rfl g11 rfl 41 r2.toArray (0, 0) _ HI7.out Try.underlying41 rfl SR2.out ?_; go_simp)
              | (refine wpList_buildSlice rfl 30 41 1 #[(0, .tmp 42)] rfl r2.toArray i0 _ Try.underlying30 HI.out HZ0.out (by rw [HZ1.out]; decide) (by rw [HZ1.out]; decide) (by rw [HZ1.out]; refine (congrArg _ (?_ : _ = [(0, Value.agg r2.toArray)])).trans (fill21c HCL.out); rw [Array.toList_map]; rfl) ?_; go_simp)
              | (at_builtin; refine Lib.wpList_append_run _ rfl _ _ _ _ rfl _ _ rfl rfl _ _ (hn1 _ _) ?_))
            go_meet
            case rel => exact ⟨rfl, _, _, HNX⟩
          · have HCs := Lib.hid (hcs _ HL8.out)
            rw [hAs] at d97
            have HAp : Hid (∀ v1 w9, w9.ownsRow W7.heap.size 41 21 v1 (1 + m.an.length) (r2 ++ rcs m.an) → (W7.alloc (.cells r2.toArray 41)).grownBy w9 (some W7.heap.size) → ∀ A1 c1, v1 = .slice A1 (1 + m.an.length) c1 → w9.heap[g10]? = some (.cells m1.toArray 32 (0, 0)) ∧ PtAt w3 (w9.setCell ⟨g10, 7, none⟩ (.slice A1 (1 + m.an.length) c1)) g9 g10 g11 m1.toArray (MV.cells { m with qn := nmOwn, A := A1, ca := c1, an := r' :: m.an }) r2.toArray A1 (r' :: m.an)) := Lib.hid (fun v1 w9 h1 h2 A1 c1 hv => by
              subst hv
              rw [← HRc2.out] at h1
              exact HEnd.out w9 A1 _ c1 h2 h1 (by omega))
            clear hcs HEnd
            generalize hna : m.an.length = na at *
            clear hna
            generalize rcs m.an = ra at HCs LA OA HAp
            go_wp2_with (first
              | (refine wpList_load_row rfl 41 (.tmp 11) rfl g11 rfl 41 r2.toArray (0, 0) _ HI7.out Try.underlying41 rfl SR2.out ?_; go_simp)
              | (refine wpList_buildSlice rfl 30 41 1 #[(0, .tmp 42)] rfl r2.toArray i0 _ Try.underlying30 HI.out HZ0.out (by rw [HZ1.out]; decide) (by rw [HZ1.out]; decide) (by rw [HZ1.out]; refine (congrArg _ (?_ : _ = [(0, Value.agg r2.toArray)])).trans (fill21c HCL.out); rw [Array.toList_map]; rfl) ?_; go_simp)
              | (at_builtin; refine wpList_append_own (w := W7.alloc (.cells r2.toArray 41)) rfl (.tmp 43) (.tmp 45) 30 rfl W7.heap.size 41 i0 _ 21 80 Try.underlying30 HI.out HZ0.out HZ1.out HZ2.out rfl (by decide) (.slice (some ⟨W7.heap.size, 0, none⟩) 1 1) 1 r2 rfl HOn.out ad na m.ca ra rfl LA.out HCs.out OA.out (by unfold maxLen; omega) (by omega) HSz.out ?_; intro v1 w9 ho1 hg1 hnil; clear hnil; obtain ⟨A1, ca1, rfl⟩ := own_sl4 ho1; have hap := HAp.out _ w9 ho1 hg1 _ _ rfl; have d10 := cell_of_row w9 g10 7 _ _ _ hap.1; rw [H1c7.out] at d10; have f10 := frozen_of_row w9 g10 7 _ _ hap.1; have HNX := Lib.hid hap.2; clear ho1 hg1 hap; go_simp))
            go_meet
            case rel => exact ⟨rfl, _, _, HNX⟩
        case rest =>
        obtain ⟨rfl, A1, c1, HPt⟩ := hcut
        clear HL7 HG7 HH7 HI7 HI HZ0 HZ1 HZ2 HC1 HCL HRc2 HAdA HSrc LA OA H1s H1c7 HLt5 HLt7 HZR ZM HSc HScr HSZ Z1 O1
        generalize wc = W0 at HPt ⊢
        have HLi0 := Lib.hid (HLi.out.below HPt.out.below)
        have HO1 : Hid (∀ U, Below W0.heap.size W0 U → Calls Try.prog 10 #[.agg m1.toArray] U (FdPost U F1)) := Lib.hid (fun U hU => HOf1.out U (HLi0.out.below hU))
        obtain ⟨m2, hm2⟩ : ∃ m2 : List Value, MV.cells { m with qn := nmOwn, A := A1, ca := c1, an := r' :: m.an } = m2.toArray := ⟨_, by rw [Array.toArray_toList]⟩
        have HO2 : Hid (∀ U, Below W0.heap.size W0 U → Calls Try.prog 10 #[.agg m2.toArray] U (FdPost U F2)) := Lib.hid (fun U hU => by rw [← hm2]; exact HOf2.out U A1 c1 (HPt.out.ra.below hU) (HLi0.out.au.below hU))
        have SRM2 : Hid ((Try.prog.info? 32).map (·.size) = some m2.length) := Lib.hid (by have h : (Try.prog.info? 32).map (·.size) = some m2.toArray.size := (by rw [← hm2]; exact sizeM); simpa using h)
        have SRM1 : Hid ((Try.prog.info? 32).map (·.size) = some m1.length) := Lib.hid (by simpa using S1.out)
        rw [hm2] at HPt
        clear hm2 HOf1 HOf2 HLi HLi0 S1
        have RM1 : Hid (∀ U, Below W0.heap.size W0 U → U.rangeAt g9 0 m1) := Lib.hid (fun U hU j v hj => by
          rw [Nat.zero_add]
          exact (cell_of_row U g9 j _ _ _ ((hU.block _ (heap_lt HPt.out.m1)).trans HPt.out.m1)).trans (by rw [List.getElem?_toArray]; exact hj))
        have RM2 : Hid (∀ U, Below W0.heap.size W0 U → U.rangeAt g10 0 m2) := Lib.hid (fun U hU j v hj => by
          rw [Nat.zero_add]
          exact (cell_of_row U g10 j _ _ _ ((hU.block _ (heap_lt HPt.out.m2)).trans HPt.out.m2)).trans (by rw [List.getElem?_toArray]; exact hj))
        go_upto_region 17 with fail
        go_cut [12, 13] from 48 to 51 (fun t12 t13 wx => ∃ gf gg B1 d1 B2 d2, t12 = .pointer (some ⟨gf, 0, none⟩) ∧ t13 = .pointer (some ⟨gg, 0, none⟩) ∧ Hid (FgFin F2.rs W0 wx gf gg (FC F1.out (.slice B1 F1.rs.length d1) F1.nx F1.ttl) (FC F2.out (.slice B2 F2.rs.length d2) F2.nx F2.ttl) B2))
        case first =>
          refine wp_region_held_drew (S := (fun W : World => Below W0.heap.size W0 W)) (by kernel_rfl) (Below.refl _ W0).drew (fun hHeld => ?_)
          have HM0 : Hid (FgAt F2.rs W0 W0.drew none none none) := Lib.hid ⟨(Below.refl _ W0).drew, (fun g h => by cases h), (fun g h => by cases h), (fun g h e _ => by cases e), (fun A e => by cases e)⟩
          generalize W0.drew = V0 at HM0 hHeld ⊢
          refine wpAnyH_take (i := 0) (oi := ({ dst := some 48, op := Go.Op.load 32 (Go.Operand.tmp 9), type := 32, pos := "law.go:150", after := #[], guard := none } : Oper)) (v := .agg m1.toArray) rfl (by kernel_rfl) (by kernel_rfl) (by kernel_rfl) (fun _ _ _ h => h) (yieldsIf_load_mid (by rfl) _ _ rfl _ _ rfl _ _ (fun W h => RM1.out W h) Try.underlying32 rfl SRM1.out) hHeld ?_
          try simp only [Act.put, List.setIfInBounds_toArray, List.set_cons_zero, List.set_cons_succ]
          refine wpAnyH_take (i := 2) (oi := ({ dst := some 50, op := Go.Op.load 32 (Go.Operand.tmp 10), type := 32, pos := "law.go:150", after := #[], guard := none } : Oper)) (v := .agg m2.toArray) rfl (by kernel_rfl) (by kernel_rfl) (by kernel_rfl) (fun _ _ _ h => h) (yieldsIf_load_mid (by rfl) _ _ rfl _ _ rfl _ _ (fun W h => RM2.out W h) Try.underlying32 rfl SRM2.out) hHeld ?_
          try simp only [Act.put, List.setIfInBounds_toArray, List.set_cons_zero, List.set_cons_succ]
          refine wpAnyH_ready (rs := [1, 4, 5]) (by kernel_rfl) (by simp) ?_
          refine (AllReadyH.cons (o := ({ dst := some 49, op := Go.Op.call { callee := Go.Callee.value (Go.Operand.func 10), args := #[Go.Operand.tmp 48], argTypes := #[32] }, type := 35, pos := "law.go:150", after := #[{ on := 0, ground := Go.Ground.data }], guard := none } : Oper)) rfl (fun K hK => ?_) (AllReadyH.cons (o := ({ dst := some 12, op := Go.Op.alloc 35, type := 0, pos := "law.go:150", after := #[], guard := none } : Oper)) rfl (fun K hK => ?_) (AllReadyH.cons (o := ({ dst := some 13, op := Go.Op.alloc 35, type := 0, pos := "law.go:150", after := #[], guard := none } : Oper)) rfl (fun K hK => ?_) AllReadyH.nil)))
          · go_simp
            go_at_call 10
            refine (HO1.out _ HM0.out.below).mono ?_
            rintro e' u1 ⟨A3, c4, rfl, hbm, hmr⟩
            have HM2 := Lib.hid (HM0.out.to hbm)
            refine hK.out _ _ HM2.out.below (fun hHeld => ?_)
            clear hK K hbm hmr
            try simp only [Act.put, List.setIfInBounds_toArray, List.set_cons_zero, List.set_cons_succ]
            refine wpAnyH_ready (rs := [3, 4, 5]) (by kernel_rfl) (by simp) ?_
            refine (AllReadyH.cons (o := ({ dst := some 51, op := Go.Op.call { callee := Go.Callee.value (Go.Operand.func 10), args := #[Go.Operand.tmp 50], argTypes := #[32] }, type := 35, pos := "law.go:150", after := #[{ on := 2, ground := Go.Ground.data }, { on := 1, ground := Go.Ground.chain }], guard := none } : Oper)) rfl (fun K hK => ?_) (AllReadyH.cons (o := ({ dst := some 12, op := Go.Op.alloc 35, type := 0, pos := "law.go:150", after := #[], guard := none } : Oper)) rfl (fun K hK => ?_) (AllReadyH.cons (o := ({ dst := some 13, op := Go.Op.alloc 35, type := 0, pos := "law.go:150", after := #[], guard := none } : Oper)) rfl (fun K hK => ?_) AllReadyH.nil)))
            · go_simp
              go_at_call 10
              refine (HO2.out _ HM2.out.below).mono ?_
              rintro e' u5 ⟨A7, c8, rfl, hbm, hmr⟩
              have HM6 := Lib.hid ((HM2.out.to hbm).withR hmr)
              refine hK.out _ _ HM6.out.below (fun hHeld => ?_)
              clear hK K hbm hmr
              try simp only [Act.put, List.setIfInBounds_toArray, List.set_cons_zero, List.set_cons_succ]
              refine wpAnyH_ready (rs := [4, 5]) (by kernel_rfl) (by simp) ?_
              refine (AllReadyH.cons (o := ({ dst := some 12, op := Go.Op.alloc 35, type := 0, pos := "law.go:150", after := #[], guard := none } : Oper)) rfl (fun K hK => ?_) (AllReadyH.cons (o := ({ dst := some 13, op := Go.Op.alloc 35, type := 0, pos := "law.go:150", after := #[], guard := none } : Oper)) rfl (fun K hK => ?_) AllReadyH.nil))
              · go_simp
                refine hK.out _ _ (HM6.out.below.alloc HM6.out.below.size _) (fun hHeld => ?_)
                clear hK K
                try simp only [Act.put, List.setIfInBounds_toArray, List.set_cons_zero, List.set_cons_succ]
                have HM10 := Lib.hid (HM6.out.withA)
                unfold zF FC at HM10
                generalize u5.alloc (.cells #[.int .i64 0, .slice none 0 0, .string ⟨#[]⟩, .int .i64 0] 35) = u9 at HM10 hHeld ⊢
                refine wpAnyH_ready (rs := [5]) (by kernel_rfl) (by simp) ?_
                refine (AllReadyH.cons (o := ({ dst := some 13, op := Go.Op.alloc 35, type := 0, pos := "law.go:150", after := #[], guard := none } : Oper)) rfl (fun K hK => ?_) AllReadyH.nil)
                go_simp
                refine hK.out _ _ (HM10.out.below.alloc HM10.out.below.size _) (fun hHeld => ?_)
                clear hK K
                try simp only [Act.put, List.setIfInBounds_toArray, List.set_cons_zero, List.set_cons_succ]
                have HM12 := Lib.hid (HM10.out.withB)
                unfold zF FC at HM12
                generalize u9.alloc (.cells #[.int .i64 0, .slice none 0 0, .string ⟨#[]⟩, .int .i64 0] 35) = u11 at HM12 hHeld ⊢
                refine wpAnyH_ready (rs := [6]) (by kernel_rfl) (by simp) ?_
                refine (AllReadyH.cons (o := ({ dst := none, op := Go.Op.store 35 (Go.Operand.tmp 12) (Go.Operand.tmp 49), type := 0, pos := "law.go:150", after := #[{ on := 4, ground := Go.Ground.data }, { on := 1, ground := Go.Ground.data }, { on := 3, ground := Go.Ground.chain }, { on := 0, ground := Go.Ground.phase }, { on := 1, ground := Go.Ground.phase }, { on := 2, ground := Go.Ground.textOnly Go.Departure.lateStores }, { on := 3, ground := Go.Ground.textOnly Go.Departure.lateStoresUnsure }, { on := 4, ground := Go.Ground.phase }, { on := 5, ground := Go.Ground.phase }], guard := none } : Oper)) rfl (fun K hK => ?_) AllReadyH.nil)
                refine step_store_sr rfl 35 (.tmp 12) (.tmp 49) rfl (u5.heap.size) zF (FC F1.out (.slice A3 F1.rs.length c4) F1.nx F1.ttl) 35 (HM12.out.a _ rfl).1 rfl rfl (sizeF _ _ _ _) rfl (FC_one _ _ _ _ _ _) (fun w4 hg4 hw4 hs4 => ?_)
                have HM13 := Lib.hid (HM12.out.one hg4.out hw4.out)
                refine hK.out _ _ HM13.out.below (fun hHeld => ?_)
                clear hK K
                try simp only [Act.put]
                refine wpAnyH_ready (rs := [7]) (by kernel_rfl) (by simp) ?_
                refine AllReadyH.cons (o := ({ dst := none, op := Go.Op.store 35 (Go.Operand.tmp 13) (Go.Operand.tmp 51), type := 0, pos := "law.go:150", after := #[{ on := 5, ground := Go.Ground.data }, { on := 3, ground := Go.Ground.data }, { on := 6, ground := Go.Ground.chain }, { on := 0, ground := Go.Ground.phase }, { on := 1, ground := Go.Ground.phase }, { on := 2, ground := Go.Ground.phase }, { on := 3, ground := Go.Ground.phase }, { on := 4, ground := Go.Ground.phase }, { on := 5, ground := Go.Ground.phase }, { on := 6, ground := Go.Ground.phase }], guard := none } : Oper)) rfl (fun K hK => ?_) AllReadyH.nil
                refine step_store_sr rfl 35 (.tmp 13) (.tmp 51) rfl (u9.heap.size) zF (FC F2.out (.slice A7 F2.rs.length c8) F2.nx F2.ttl) 35 HM13.out.b rfl rfl (sizeF _ _ _ _) rfl (FC_one _ _ _ _ _ _) (fun w5 hg5 hw5 hs5 => ?_)
                have HFn := Lib.hid (HM13.out.fin hg5.out hw5.out)
                refine hK.out _ _ HFn.out.below (fun hHeld => ?_)
                clear hK K
                refine wpAnyH_done (by kernel_rfl) ?_ _
                try (go_wp2_with fail)
                go_meet
                case rel => exact ⟨_, _, _, _, _, _, rfl, rfl, HFn⟩
              · go_simp
                refine hK.out _ _ (HM6.out.below.alloc HM6.out.below.size _) (fun hHeld => ?_)
                clear hK K
                try simp only [Act.put, List.setIfInBounds_toArray, List.set_cons_zero, List.set_cons_succ]
                have HM15 := Lib.hid (HM6.out.withB)
                unfold zF FC at HM15
                generalize u5.alloc (.cells #[.int .i64 0, .slice none 0 0, .string ⟨#[]⟩, .int .i64 0] 35) = u14 at HM15 hHeld ⊢
                refine wpAnyH_ready (rs := [4]) (by kernel_rfl) (by simp) ?_
                refine (AllReadyH.cons (o := ({ dst := some 12, op := Go.Op.alloc 35, type := 0, pos := "law.go:150", after := #[], guard := none } : Oper)) rfl (fun K hK => ?_) AllReadyH.nil)
                go_simp
                refine hK.out _ _ (HM15.out.below.alloc HM15.out.below.size _) (fun hHeld => ?_)
                clear hK K
                try simp only [Act.put, List.setIfInBounds_toArray, List.set_cons_zero, List.set_cons_succ]
                have HM17 := Lib.hid (HM15.out.withA)
                unfold zF FC at HM17
                generalize u14.alloc (.cells #[.int .i64 0, .slice none 0 0, .string ⟨#[]⟩, .int .i64 0] 35) = u16 at HM17 hHeld ⊢
                refine wpAnyH_ready (rs := [6]) (by kernel_rfl) (by simp) ?_
                refine (AllReadyH.cons (o := ({ dst := none, op := Go.Op.store 35 (Go.Operand.tmp 12) (Go.Operand.tmp 49), type := 0, pos := "law.go:150", after := #[{ on := 4, ground := Go.Ground.data }, { on := 1, ground := Go.Ground.data }, { on := 3, ground := Go.Ground.chain }, { on := 0, ground := Go.Ground.phase }, { on := 1, ground := Go.Ground.phase }, { on := 2, ground := Go.Ground.textOnly Go.Departure.lateStores }, { on := 3, ground := Go.Ground.textOnly Go.Departure.lateStoresUnsure }, { on := 4, ground := Go.Ground.phase }, { on := 5, ground := Go.Ground.phase }], guard := none } : Oper)) rfl (fun K hK => ?_) AllReadyH.nil)
                refine step_store_sr rfl 35 (.tmp 12) (.tmp 49) rfl (u14.heap.size) zF (FC F1.out (.slice A3 F1.rs.length c4) F1.nx F1.ttl) 35 (HM17.out.a _ rfl).1 rfl rfl (sizeF _ _ _ _) rfl (FC_one _ _ _ _ _ _) (fun w4 hg4 hw4 hs4 => ?_)
                have HM18 := Lib.hid (HM17.out.one hg4.out hw4.out)
                refine hK.out _ _ HM18.out.below (fun hHeld => ?_)
                clear hK K
                try simp only [Act.put]
                refine wpAnyH_ready (rs := [7]) (by kernel_rfl) (by simp) ?_
                refine AllReadyH.cons (o := ({ dst := none, op := Go.Op.store 35 (Go.Operand.tmp 13) (Go.Operand.tmp 51), type := 0, pos := "law.go:150", after := #[{ on := 5, ground := Go.Ground.data }, { on := 3, ground := Go.Ground.data }, { on := 6, ground := Go.Ground.chain }, { on := 0, ground := Go.Ground.phase }, { on := 1, ground := Go.Ground.phase }, { on := 2, ground := Go.Ground.phase }, { on := 3, ground := Go.Ground.phase }, { on := 4, ground := Go.Ground.phase }, { on := 5, ground := Go.Ground.phase }, { on := 6, ground := Go.Ground.phase }], guard := none } : Oper)) rfl (fun K hK => ?_) AllReadyH.nil
                refine step_store_sr rfl 35 (.tmp 13) (.tmp 51) rfl (u5.heap.size) zF (FC F2.out (.slice A7 F2.rs.length c8) F2.nx F2.ttl) 35 HM18.out.b rfl rfl (sizeF _ _ _ _) rfl (FC_one _ _ _ _ _ _) (fun w5 hg5 hw5 hs5 => ?_)
                have HFn := Lib.hid (HM18.out.fin hg5.out hw5.out)
                refine hK.out _ _ HFn.out.below (fun hHeld => ?_)
                clear hK K
                refine wpAnyH_done (by kernel_rfl) ?_ _
                try (go_wp2_with fail)
                go_meet
                case rel => exact ⟨_, _, _, _, _, _, rfl, rfl, HFn⟩
            · go_simp
              refine hK.out _ _ (HM2.out.below.alloc HM2.out.below.size _) (fun hHeld => ?_)
              clear hK K
              try simp only [Act.put, List.setIfInBounds_toArray, List.set_cons_zero, List.set_cons_succ]
              have HM20 := Lib.hid (HM2.out.withA)
              unfold zF FC at HM20
              generalize u1.alloc (.cells #[.int .i64 0, .slice none 0 0, .string ⟨#[]⟩, .int .i64 0] 35) = u19 at HM20 hHeld ⊢
              refine wpAnyH_ready (rs := [3, 5]) (by kernel_rfl) (by simp) ?_
              refine (AllReadyH.cons (o := ({ dst := some 51, op := Go.Op.call { callee := Go.Callee.value (Go.Operand.func 10), args := #[Go.Operand.tmp 50], argTypes := #[32] }, type := 35, pos := "law.go:150", after := #[{ on := 2, ground := Go.Ground.data }, { on := 1, ground := Go.Ground.chain }], guard := none } : Oper)) rfl (fun K hK => ?_) (AllReadyH.cons (o := ({ dst := some 13, op := Go.Op.alloc 35, type := 0, pos := "law.go:150", after := #[], guard := none } : Oper)) rfl (fun K hK => ?_) AllReadyH.nil))
              · go_simp
                go_at_call 10
                refine (HO2.out _ HM20.out.below).mono ?_
                rintro e' u21 ⟨A23, c24, rfl, hbm, hmr⟩
                have HM22 := Lib.hid ((HM20.out.to hbm).withR hmr)
                refine hK.out _ _ HM22.out.below (fun hHeld => ?_)
                clear hK K hbm hmr
                try simp only [Act.put, List.setIfInBounds_toArray, List.set_cons_zero, List.set_cons_succ]
                refine wpAnyH_ready (rs := [5]) (by kernel_rfl) (by simp) ?_
                refine (AllReadyH.cons (o := ({ dst := some 13, op := Go.Op.alloc 35, type := 0, pos := "law.go:150", after := #[], guard := none } : Oper)) rfl (fun K hK => ?_) AllReadyH.nil)
                go_simp
                refine hK.out _ _ (HM22.out.below.alloc HM22.out.below.size _) (fun hHeld => ?_)
                clear hK K
                try simp only [Act.put, List.setIfInBounds_toArray, List.set_cons_zero, List.set_cons_succ]
                have HM26 := Lib.hid (HM22.out.withB)
                unfold zF FC at HM26
                generalize u21.alloc (.cells #[.int .i64 0, .slice none 0 0, .string ⟨#[]⟩, .int .i64 0] 35) = u25 at HM26 hHeld ⊢
                refine wpAnyH_ready (rs := [6]) (by kernel_rfl) (by simp) ?_
                refine (AllReadyH.cons (o := ({ dst := none, op := Go.Op.store 35 (Go.Operand.tmp 12) (Go.Operand.tmp 49), type := 0, pos := "law.go:150", after := #[{ on := 4, ground := Go.Ground.data }, { on := 1, ground := Go.Ground.data }, { on := 3, ground := Go.Ground.chain }, { on := 0, ground := Go.Ground.phase }, { on := 1, ground := Go.Ground.phase }, { on := 2, ground := Go.Ground.textOnly Go.Departure.lateStores }, { on := 3, ground := Go.Ground.textOnly Go.Departure.lateStoresUnsure }, { on := 4, ground := Go.Ground.phase }, { on := 5, ground := Go.Ground.phase }], guard := none } : Oper)) rfl (fun K hK => ?_) AllReadyH.nil)
                refine step_store_sr rfl 35 (.tmp 12) (.tmp 49) rfl (u1.heap.size) zF (FC F1.out (.slice A3 F1.rs.length c4) F1.nx F1.ttl) 35 (HM26.out.a _ rfl).1 rfl rfl (sizeF _ _ _ _) rfl (FC_one _ _ _ _ _ _) (fun w4 hg4 hw4 hs4 => ?_)
                have HM27 := Lib.hid (HM26.out.one hg4.out hw4.out)
                refine hK.out _ _ HM27.out.below (fun hHeld => ?_)
                clear hK K
                try simp only [Act.put]
                refine wpAnyH_ready (rs := [7]) (by kernel_rfl) (by simp) ?_
                refine AllReadyH.cons (o := ({ dst := none, op := Go.Op.store 35 (Go.Operand.tmp 13) (Go.Operand.tmp 51), type := 0, pos := "law.go:150", after := #[{ on := 5, ground := Go.Ground.data }, { on := 3, ground := Go.Ground.data }, { on := 6, ground := Go.Ground.chain }, { on := 0, ground := Go.Ground.phase }, { on := 1, ground := Go.Ground.phase }, { on := 2, ground := Go.Ground.phase }, { on := 3, ground := Go.Ground.phase }, { on := 4, ground := Go.Ground.phase }, { on := 5, ground := Go.Ground.phase }, { on := 6, ground := Go.Ground.phase }], guard := none } : Oper)) rfl (fun K hK => ?_) AllReadyH.nil
                refine step_store_sr rfl 35 (.tmp 13) (.tmp 51) rfl (u21.heap.size) zF (FC F2.out (.slice A23 F2.rs.length c24) F2.nx F2.ttl) 35 HM27.out.b rfl rfl (sizeF _ _ _ _) rfl (FC_one _ _ _ _ _ _) (fun w5 hg5 hw5 hs5 => ?_)
                have HFn := Lib.hid (HM27.out.fin hg5.out hw5.out)
                refine hK.out _ _ HFn.out.below (fun hHeld => ?_)
                clear hK K
                refine wpAnyH_done (by kernel_rfl) ?_ _
                try (go_wp2_with fail)
                go_meet
                case rel => exact ⟨_, _, _, _, _, _, rfl, rfl, HFn⟩
              · go_simp
                refine hK.out _ _ (HM20.out.below.alloc HM20.out.below.size _) (fun hHeld => ?_)
                clear hK K
                try simp only [Act.put, List.setIfInBounds_toArray, List.set_cons_zero, List.set_cons_succ]
                have HM29 := Lib.hid (HM20.out.withB)
                unfold zF FC at HM29
                generalize u19.alloc (.cells #[.int .i64 0, .slice none 0 0, .string ⟨#[]⟩, .int .i64 0] 35) = u28 at HM29 hHeld ⊢
                refine wpAnyH_ready (rs := [3]) (by kernel_rfl) (by simp) ?_
                refine (AllReadyH.cons (o := ({ dst := some 51, op := Go.Op.call { callee := Go.Callee.value (Go.Operand.func 10), args := #[Go.Operand.tmp 50], argTypes := #[32] }, type := 35, pos := "law.go:150", after := #[{ on := 2, ground := Go.Ground.data }, { on := 1, ground := Go.Ground.chain }], guard := none } : Oper)) rfl (fun K hK => ?_) AllReadyH.nil)
                go_simp
                go_at_call 10
                refine (HO2.out _ HM29.out.below).mono ?_
                rintro e' u30 ⟨A32, c33, rfl, hbm, hmr⟩
                have HM31 := Lib.hid ((HM29.out.to hbm).withR hmr)
                refine hK.out _ _ HM31.out.below (fun hHeld => ?_)
                clear hK K hbm hmr
                try simp only [Act.put, List.setIfInBounds_toArray, List.set_cons_zero, List.set_cons_succ]
                refine wpAnyH_ready (rs := [6]) (by kernel_rfl) (by simp) ?_
                refine (AllReadyH.cons (o := ({ dst := none, op := Go.Op.store 35 (Go.Operand.tmp 12) (Go.Operand.tmp 49), type := 0, pos := "law.go:150", after := #[{ on := 4, ground := Go.Ground.data }, { on := 1, ground := Go.Ground.data }, { on := 3, ground := Go.Ground.chain }, { on := 0, ground := Go.Ground.phase }, { on := 1, ground := Go.Ground.phase }, { on := 2, ground := Go.Ground.textOnly Go.Departure.lateStores }, { on := 3, ground := Go.Ground.textOnly Go.Departure.lateStoresUnsure }, { on := 4, ground := Go.Ground.phase }, { on := 5, ground := Go.Ground.phase }], guard := none } : Oper)) rfl (fun K hK => ?_) AllReadyH.nil)
                refine step_store_sr rfl 35 (.tmp 12) (.tmp 49) rfl (u1.heap.size) zF (FC F1.out (.slice A3 F1.rs.length c4) F1.nx F1.ttl) 35 (HM31.out.a _ rfl).1 rfl rfl (sizeF _ _ _ _) rfl (FC_one _ _ _ _ _ _) (fun w4 hg4 hw4 hs4 => ?_)
                have HM34 := Lib.hid (HM31.out.one hg4.out hw4.out)
                refine hK.out _ _ HM34.out.below (fun hHeld => ?_)
                clear hK K
                try simp only [Act.put]
                refine wpAnyH_ready (rs := [7]) (by kernel_rfl) (by simp) ?_
                refine AllReadyH.cons (o := ({ dst := none, op := Go.Op.store 35 (Go.Operand.tmp 13) (Go.Operand.tmp 51), type := 0, pos := "law.go:150", after := #[{ on := 5, ground := Go.Ground.data }, { on := 3, ground := Go.Ground.data }, { on := 6, ground := Go.Ground.chain }, { on := 0, ground := Go.Ground.phase }, { on := 1, ground := Go.Ground.phase }, { on := 2, ground := Go.Ground.phase }, { on := 3, ground := Go.Ground.phase }, { on := 4, ground := Go.Ground.phase }, { on := 5, ground := Go.Ground.phase }, { on := 6, ground := Go.Ground.phase }], guard := none } : Oper)) rfl (fun K hK => ?_) AllReadyH.nil
                refine step_store_sr rfl 35 (.tmp 13) (.tmp 51) rfl (u19.heap.size) zF (FC F2.out (.slice A32 F2.rs.length c33) F2.nx F2.ttl) 35 HM34.out.b rfl rfl (sizeF _ _ _ _) rfl (FC_one _ _ _ _ _ _) (fun w5 hg5 hw5 hs5 => ?_)
                have HFn := Lib.hid (HM34.out.fin hg5.out hw5.out)
                refine hK.out _ _ HFn.out.below (fun hHeld => ?_)
                clear hK K
                refine wpAnyH_done (by kernel_rfl) ?_ _
                try (go_wp2_with fail)
                go_meet
                case rel => exact ⟨_, _, _, _, _, _, rfl, rfl, HFn⟩
            · go_simp
              refine hK.out _ _ (HM2.out.below.alloc HM2.out.below.size _) (fun hHeld => ?_)
              clear hK K
              try simp only [Act.put, List.setIfInBounds_toArray, List.set_cons_zero, List.set_cons_succ]
              have HM36 := Lib.hid (HM2.out.withB)
              unfold zF FC at HM36
              generalize u1.alloc (.cells #[.int .i64 0, .slice none 0 0, .string ⟨#[]⟩, .int .i64 0] 35) = u35 at HM36 hHeld ⊢
              refine wpAnyH_ready (rs := [3, 4]) (by kernel_rfl) (by simp) ?_
              refine (AllReadyH.cons (o := ({ dst := some 51, op := Go.Op.call { callee := Go.Callee.value (Go.Operand.func 10), args := #[Go.Operand.tmp 50], argTypes := #[32] }, type := 35, pos := "law.go:150", after := #[{ on := 2, ground := Go.Ground.data }, { on := 1, ground := Go.Ground.chain }], guard := none } : Oper)) rfl (fun K hK => ?_) (AllReadyH.cons (o := ({ dst := some 12, op := Go.Op.alloc 35, type := 0, pos := "law.go:150", after := #[], guard := none } : Oper)) rfl (fun K hK => ?_) AllReadyH.nil))
              · go_simp
                go_at_call 10
                refine (HO2.out _ HM36.out.below).mono ?_
                rintro e' u37 ⟨A39, c40, rfl, hbm, hmr⟩
                have HM38 := Lib.hid ((HM36.out.to hbm).withR hmr)
                refine hK.out _ _ HM38.out.below (fun hHeld => ?_)
                clear hK K hbm hmr
                try simp only [Act.put, List.setIfInBounds_toArray, List.set_cons_zero, List.set_cons_succ]
                refine wpAnyH_ready (rs := [4]) (by kernel_rfl) (by simp) ?_
                refine (AllReadyH.cons (o := ({ dst := some 12, op := Go.Op.alloc 35, type := 0, pos := "law.go:150", after := #[], guard := none } : Oper)) rfl (fun K hK => ?_) AllReadyH.nil)
                go_simp
                refine hK.out _ _ (HM38.out.below.alloc HM38.out.below.size _) (fun hHeld => ?_)
                clear hK K
                try simp only [Act.put, List.setIfInBounds_toArray, List.set_cons_zero, List.set_cons_succ]
                have HM42 := Lib.hid (HM38.out.withA)
                unfold zF FC at HM42
                generalize u37.alloc (.cells #[.int .i64 0, .slice none 0 0, .string ⟨#[]⟩, .int .i64 0] 35) = u41 at HM42 hHeld ⊢
                refine wpAnyH_ready (rs := [6]) (by kernel_rfl) (by simp) ?_
                refine (AllReadyH.cons (o := ({ dst := none, op := Go.Op.store 35 (Go.Operand.tmp 12) (Go.Operand.tmp 49), type := 0, pos := "law.go:150", after := #[{ on := 4, ground := Go.Ground.data }, { on := 1, ground := Go.Ground.data }, { on := 3, ground := Go.Ground.chain }, { on := 0, ground := Go.Ground.phase }, { on := 1, ground := Go.Ground.phase }, { on := 2, ground := Go.Ground.textOnly Go.Departure.lateStores }, { on := 3, ground := Go.Ground.textOnly Go.Departure.lateStoresUnsure }, { on := 4, ground := Go.Ground.phase }, { on := 5, ground := Go.Ground.phase }], guard := none } : Oper)) rfl (fun K hK => ?_) AllReadyH.nil)
                refine step_store_sr rfl 35 (.tmp 12) (.tmp 49) rfl (u37.heap.size) zF (FC F1.out (.slice A3 F1.rs.length c4) F1.nx F1.ttl) 35 (HM42.out.a _ rfl).1 rfl rfl (sizeF _ _ _ _) rfl (FC_one _ _ _ _ _ _) (fun w4 hg4 hw4 hs4 => ?_)
                have HM43 := Lib.hid (HM42.out.one hg4.out hw4.out)
                refine hK.out _ _ HM43.out.below (fun hHeld => ?_)
                clear hK K
                try simp only [Act.put]
                refine wpAnyH_ready (rs := [7]) (by kernel_rfl) (by simp) ?_
                refine AllReadyH.cons (o := ({ dst := none, op := Go.Op.store 35 (Go.Operand.tmp 13) (Go.Operand.tmp 51), type := 0, pos := "law.go:150", after := #[{ on := 5, ground := Go.Ground.data }, { on := 3, ground := Go.Ground.data }, { on := 6, ground := Go.Ground.chain }, { on := 0, ground := Go.Ground.phase }, { on := 1, ground := Go.Ground.phase }, { on := 2, ground := Go.Ground.phase }, { on := 3, ground := Go.Ground.phase }, { on := 4, ground := Go.Ground.phase }, { on := 5, ground := Go.Ground.phase }, { on := 6, ground := Go.Ground.phase }], guard := none } : Oper)) rfl (fun K hK => ?_) AllReadyH.nil
                refine step_store_sr rfl 35 (.tmp 13) (.tmp 51) rfl (u1.heap.size) zF (FC F2.out (.slice A39 F2.rs.length c40) F2.nx F2.ttl) 35 HM43.out.b rfl rfl (sizeF _ _ _ _) rfl (FC_one _ _ _ _ _ _) (fun w5 hg5 hw5 hs5 => ?_)
                have HFn := Lib.hid (HM43.out.fin hg5.out hw5.out)
                refine hK.out _ _ HFn.out.below (fun hHeld => ?_)
                clear hK K
                refine wpAnyH_done (by kernel_rfl) ?_ _
                try (go_wp2_with fail)
                go_meet
                case rel => exact ⟨_, _, _, _, _, _, rfl, rfl, HFn⟩
              · go_simp
                refine hK.out _ _ (HM36.out.below.alloc HM36.out.below.size _) (fun hHeld => ?_)
                clear hK K
                try simp only [Act.put, List.setIfInBounds_toArray, List.set_cons_zero, List.set_cons_succ]
                have HM45 := Lib.hid (HM36.out.withA)
                unfold zF FC at HM45
                generalize u35.alloc (.cells #[.int .i64 0, .slice none 0 0, .string ⟨#[]⟩, .int .i64 0] 35) = u44 at HM45 hHeld ⊢
                refine wpAnyH_ready (rs := [3]) (by kernel_rfl) (by simp) ?_
                refine (AllReadyH.cons (o := ({ dst := some 51, op := Go.Op.call { callee := Go.Callee.value (Go.Operand.func 10), args := #[Go.Operand.tmp 50], argTypes := #[32] }, type := 35, pos := "law.go:150", after := #[{ on := 2, ground := Go.Ground.data }, { on := 1, ground := Go.Ground.chain }], guard := none } : Oper)) rfl (fun K hK => ?_) AllReadyH.nil)
                go_simp
                go_at_call 10
                refine (HO2.out _ HM45.out.below).mono ?_
                rintro e' u46 ⟨A48, c49, rfl, hbm, hmr⟩
                have HM47 := Lib.hid ((HM45.out.to hbm).withR hmr)
                refine hK.out _ _ HM47.out.below (fun hHeld => ?_)
                clear hK K hbm hmr
                try simp only [Act.put, List.setIfInBounds_toArray, List.set_cons_zero, List.set_cons_succ]
                refine wpAnyH_ready (rs := [6]) (by kernel_rfl) (by simp) ?_
                refine (AllReadyH.cons (o := ({ dst := none, op := Go.Op.store 35 (Go.Operand.tmp 12) (Go.Operand.tmp 49), type := 0, pos := "law.go:150", after := #[{ on := 4, ground := Go.Ground.data }, { on := 1, ground := Go.Ground.data }, { on := 3, ground := Go.Ground.chain }, { on := 0, ground := Go.Ground.phase }, { on := 1, ground := Go.Ground.phase }, { on := 2, ground := Go.Ground.textOnly Go.Departure.lateStores }, { on := 3, ground := Go.Ground.textOnly Go.Departure.lateStoresUnsure }, { on := 4, ground := Go.Ground.phase }, { on := 5, ground := Go.Ground.phase }], guard := none } : Oper)) rfl (fun K hK => ?_) AllReadyH.nil)
                refine step_store_sr rfl 35 (.tmp 12) (.tmp 49) rfl (u35.heap.size) zF (FC F1.out (.slice A3 F1.rs.length c4) F1.nx F1.ttl) 35 (HM47.out.a _ rfl).1 rfl rfl (sizeF _ _ _ _) rfl (FC_one _ _ _ _ _ _) (fun w4 hg4 hw4 hs4 => ?_)
                have HM50 := Lib.hid (HM47.out.one hg4.out hw4.out)
                refine hK.out _ _ HM50.out.below (fun hHeld => ?_)
                clear hK K
                try simp only [Act.put]
                refine wpAnyH_ready (rs := [7]) (by kernel_rfl) (by simp) ?_
                refine AllReadyH.cons (o := ({ dst := none, op := Go.Op.store 35 (Go.Operand.tmp 13) (Go.Operand.tmp 51), type := 0, pos := "law.go:150", after := #[{ on := 5, ground := Go.Ground.data }, { on := 3, ground := Go.Ground.data }, { on := 6, ground := Go.Ground.chain }, { on := 0, ground := Go.Ground.phase }, { on := 1, ground := Go.Ground.phase }, { on := 2, ground := Go.Ground.phase }, { on := 3, ground := Go.Ground.phase }, { on := 4, ground := Go.Ground.phase }, { on := 5, ground := Go.Ground.phase }, { on := 6, ground := Go.Ground.phase }], guard := none } : Oper)) rfl (fun K hK => ?_) AllReadyH.nil
                refine step_store_sr rfl 35 (.tmp 13) (.tmp 51) rfl (u1.heap.size) zF (FC F2.out (.slice A48 F2.rs.length c49) F2.nx F2.ttl) 35 HM50.out.b rfl rfl (sizeF _ _ _ _) rfl (FC_one _ _ _ _ _ _) (fun w5 hg5 hw5 hs5 => ?_)
                have HFn := Lib.hid (HM50.out.fin hg5.out hw5.out)
                refine hK.out _ _ HFn.out.below (fun hHeld => ?_)
                clear hK K
                refine wpAnyH_done (by kernel_rfl) ?_ _
                try (go_wp2_with fail)
                go_meet
                case rel => exact ⟨_, _, _, _, _, _, rfl, rfl, HFn⟩
          · go_simp
            refine hK.out _ _ (HM0.out.below.alloc HM0.out.below.size _) (fun hHeld => ?_)
            clear hK K
            try simp only [Act.put, List.setIfInBounds_toArray, List.set_cons_zero, List.set_cons_succ]
            have HM52 := Lib.hid (HM0.out.withA)
            unfold zF FC at HM52
            generalize V0.alloc (.cells #[.int .i64 0, .slice none 0 0, .string ⟨#[]⟩, .int .i64 0] 35) = u51 at HM52 hHeld ⊢
            refine wpAnyH_ready (rs := [1, 5]) (by kernel_rfl) (by simp) ?_
            refine (AllReadyH.cons (o := ({ dst := some 49, op := Go.Op.call { callee := Go.Callee.value (Go.Operand.func 10), args := #[Go.Operand.tmp 48], argTypes := #[32] }, type := 35, pos := "law.go:150", after := #[{ on := 0, ground := Go.Ground.data }], guard := none } : Oper)) rfl (fun K hK => ?_) (AllReadyH.cons (o := ({ dst := some 13, op := Go.Op.alloc 35, type := 0, pos := "law.go:150", after := #[], guard := none } : Oper)) rfl (fun K hK => ?_) AllReadyH.nil))
            · go_simp
              go_at_call 10
              refine (HO1.out _ HM52.out.below).mono ?_
              rintro e' u53 ⟨A55, c56, rfl, hbm, hmr⟩
              have HM54 := Lib.hid (HM52.out.to hbm)
              refine hK.out _ _ HM54.out.below (fun hHeld => ?_)
              clear hK K hbm hmr
              try simp only [Act.put, List.setIfInBounds_toArray, List.set_cons_zero, List.set_cons_succ]
              refine wpAnyH_ready (rs := [3, 5]) (by kernel_rfl) (by simp) ?_
              refine (AllReadyH.cons (o := ({ dst := some 51, op := Go.Op.call { callee := Go.Callee.value (Go.Operand.func 10), args := #[Go.Operand.tmp 50], argTypes := #[32] }, type := 35, pos := "law.go:150", after := #[{ on := 2, ground := Go.Ground.data }, { on := 1, ground := Go.Ground.chain }], guard := none } : Oper)) rfl (fun K hK => ?_) (AllReadyH.cons (o := ({ dst := some 13, op := Go.Op.alloc 35, type := 0, pos := "law.go:150", after := #[], guard := none } : Oper)) rfl (fun K hK => ?_) AllReadyH.nil))
              · go_simp
                go_at_call 10
                refine (HO2.out _ HM54.out.below).mono ?_
                rintro e' u57 ⟨A59, c60, rfl, hbm, hmr⟩
                have HM58 := Lib.hid ((HM54.out.to hbm).withR hmr)
                refine hK.out _ _ HM58.out.below (fun hHeld => ?_)
                clear hK K hbm hmr
                try simp only [Act.put, List.setIfInBounds_toArray, List.set_cons_zero, List.set_cons_succ]
                refine wpAnyH_ready (rs := [5]) (by kernel_rfl) (by simp) ?_
                refine (AllReadyH.cons (o := ({ dst := some 13, op := Go.Op.alloc 35, type := 0, pos := "law.go:150", after := #[], guard := none } : Oper)) rfl (fun K hK => ?_) AllReadyH.nil)
                go_simp
                refine hK.out _ _ (HM58.out.below.alloc HM58.out.below.size _) (fun hHeld => ?_)
                clear hK K
                try simp only [Act.put, List.setIfInBounds_toArray, List.set_cons_zero, List.set_cons_succ]
                have HM62 := Lib.hid (HM58.out.withB)
                unfold zF FC at HM62
                generalize u57.alloc (.cells #[.int .i64 0, .slice none 0 0, .string ⟨#[]⟩, .int .i64 0] 35) = u61 at HM62 hHeld ⊢
                refine wpAnyH_ready (rs := [6]) (by kernel_rfl) (by simp) ?_
                refine (AllReadyH.cons (o := ({ dst := none, op := Go.Op.store 35 (Go.Operand.tmp 12) (Go.Operand.tmp 49), type := 0, pos := "law.go:150", after := #[{ on := 4, ground := Go.Ground.data }, { on := 1, ground := Go.Ground.data }, { on := 3, ground := Go.Ground.chain }, { on := 0, ground := Go.Ground.phase }, { on := 1, ground := Go.Ground.phase }, { on := 2, ground := Go.Ground.textOnly Go.Departure.lateStores }, { on := 3, ground := Go.Ground.textOnly Go.Departure.lateStoresUnsure }, { on := 4, ground := Go.Ground.phase }, { on := 5, ground := Go.Ground.phase }], guard := none } : Oper)) rfl (fun K hK => ?_) AllReadyH.nil)
                refine step_store_sr rfl 35 (.tmp 12) (.tmp 49) rfl (V0.heap.size) zF (FC F1.out (.slice A55 F1.rs.length c56) F1.nx F1.ttl) 35 (HM62.out.a _ rfl).1 rfl rfl (sizeF _ _ _ _) rfl (FC_one _ _ _ _ _ _) (fun w4 hg4 hw4 hs4 => ?_)
                have HM63 := Lib.hid (HM62.out.one hg4.out hw4.out)
                refine hK.out _ _ HM63.out.below (fun hHeld => ?_)
                clear hK K
                try simp only [Act.put]
                refine wpAnyH_ready (rs := [7]) (by kernel_rfl) (by simp) ?_
                refine AllReadyH.cons (o := ({ dst := none, op := Go.Op.store 35 (Go.Operand.tmp 13) (Go.Operand.tmp 51), type := 0, pos := "law.go:150", after := #[{ on := 5, ground := Go.Ground.data }, { on := 3, ground := Go.Ground.data }, { on := 6, ground := Go.Ground.chain }, { on := 0, ground := Go.Ground.phase }, { on := 1, ground := Go.Ground.phase }, { on := 2, ground := Go.Ground.phase }, { on := 3, ground := Go.Ground.phase }, { on := 4, ground := Go.Ground.phase }, { on := 5, ground := Go.Ground.phase }, { on := 6, ground := Go.Ground.phase }], guard := none } : Oper)) rfl (fun K hK => ?_) AllReadyH.nil
                refine step_store_sr rfl 35 (.tmp 13) (.tmp 51) rfl (u57.heap.size) zF (FC F2.out (.slice A59 F2.rs.length c60) F2.nx F2.ttl) 35 HM63.out.b rfl rfl (sizeF _ _ _ _) rfl (FC_one _ _ _ _ _ _) (fun w5 hg5 hw5 hs5 => ?_)
                have HFn := Lib.hid (HM63.out.fin hg5.out hw5.out)
                refine hK.out _ _ HFn.out.below (fun hHeld => ?_)
                clear hK K
                refine wpAnyH_done (by kernel_rfl) ?_ _
                try (go_wp2_with fail)
                go_meet
                case rel => exact ⟨_, _, _, _, _, _, rfl, rfl, HFn⟩
              · go_simp
                refine hK.out _ _ (HM54.out.below.alloc HM54.out.below.size _) (fun hHeld => ?_)
                clear hK K
                try simp only [Act.put, List.setIfInBounds_toArray, List.set_cons_zero, List.set_cons_succ]
                have HM65 := Lib.hid (HM54.out.withB)
                unfold zF FC at HM65
                generalize u53.alloc (.cells #[.int .i64 0, .slice none 0 0, .string ⟨#[]⟩, .int .i64 0] 35) = u64 at HM65 hHeld ⊢
                refine wpAnyH_ready (rs := [3]) (by kernel_rfl) (by simp) ?_
                refine (AllReadyH.cons (o := ({ dst := some 51, op := Go.Op.call { callee := Go.Callee.value (Go.Operand.func 10), args := #[Go.Operand.tmp 50], argTypes := #[32] }, type := 35, pos := "law.go:150", after := #[{ on := 2, ground := Go.Ground.data }, { on := 1, ground := Go.Ground.chain }], guard := none } : Oper)) rfl (fun K hK => ?_) AllReadyH.nil)
                go_simp
                go_at_call 10
                refine (HO2.out _ HM65.out.below).mono ?_
                rintro e' u66 ⟨A68, c69, rfl, hbm, hmr⟩
                have HM67 := Lib.hid ((HM65.out.to hbm).withR hmr)
                refine hK.out _ _ HM67.out.below (fun hHeld => ?_)
                clear hK K hbm hmr
                try simp only [Act.put, List.setIfInBounds_toArray, List.set_cons_zero, List.set_cons_succ]
                refine wpAnyH_ready (rs := [6]) (by kernel_rfl) (by simp) ?_
                refine (AllReadyH.cons (o := ({ dst := none, op := Go.Op.store 35 (Go.Operand.tmp 12) (Go.Operand.tmp 49), type := 0, pos := "law.go:150", after := #[{ on := 4, ground := Go.Ground.data }, { on := 1, ground := Go.Ground.data }, { on := 3, ground := Go.Ground.chain }, { on := 0, ground := Go.Ground.phase }, { on := 1, ground := Go.Ground.phase }, { on := 2, ground := Go.Ground.textOnly Go.Departure.lateStores }, { on := 3, ground := Go.Ground.textOnly Go.Departure.lateStoresUnsure }, { on := 4, ground := Go.Ground.phase }, { on := 5, ground := Go.Ground.phase }], guard := none } : Oper)) rfl (fun K hK => ?_) AllReadyH.nil)
                refine step_store_sr rfl 35 (.tmp 12) (.tmp 49) rfl (V0.heap.size) zF (FC F1.out (.slice A55 F1.rs.length c56) F1.nx F1.ttl) 35 (HM67.out.a _ rfl).1 rfl rfl (sizeF _ _ _ _) rfl (FC_one _ _ _ _ _ _) (fun w4 hg4 hw4 hs4 => ?_)
                have HM70 := Lib.hid (HM67.out.one hg4.out hw4.out)
                refine hK.out _ _ HM70.out.below (fun hHeld => ?_)
                clear hK K
                try simp only [Act.put]
                refine wpAnyH_ready (rs := [7]) (by kernel_rfl) (by simp) ?_
                refine AllReadyH.cons (o := ({ dst := none, op := Go.Op.store 35 (Go.Operand.tmp 13) (Go.Operand.tmp 51), type := 0, pos := "law.go:150", after := #[{ on := 5, ground := Go.Ground.data }, { on := 3, ground := Go.Ground.data }, { on := 6, ground := Go.Ground.chain }, { on := 0, ground := Go.Ground.phase }, { on := 1, ground := Go.Ground.phase }, { on := 2, ground := Go.Ground.phase }, { on := 3, ground := Go.Ground.phase }, { on := 4, ground := Go.Ground.phase }, { on := 5, ground := Go.Ground.phase }, { on := 6, ground := Go.Ground.phase }], guard := none } : Oper)) rfl (fun K hK => ?_) AllReadyH.nil
                refine step_store_sr rfl 35 (.tmp 13) (.tmp 51) rfl (u53.heap.size) zF (FC F2.out (.slice A68 F2.rs.length c69) F2.nx F2.ttl) 35 HM70.out.b rfl rfl (sizeF _ _ _ _) rfl (FC_one _ _ _ _ _ _) (fun w5 hg5 hw5 hs5 => ?_)
                have HFn := Lib.hid (HM70.out.fin hg5.out hw5.out)
                refine hK.out _ _ HFn.out.below (fun hHeld => ?_)
                clear hK K
                refine wpAnyH_done (by kernel_rfl) ?_ _
                try (go_wp2_with fail)
                go_meet
                case rel => exact ⟨_, _, _, _, _, _, rfl, rfl, HFn⟩
            · go_simp
              refine hK.out _ _ (HM52.out.below.alloc HM52.out.below.size _) (fun hHeld => ?_)
              clear hK K
              try simp only [Act.put, List.setIfInBounds_toArray, List.set_cons_zero, List.set_cons_succ]
              have HM72 := Lib.hid (HM52.out.withB)
              unfold zF FC at HM72
              generalize u51.alloc (.cells #[.int .i64 0, .slice none 0 0, .string ⟨#[]⟩, .int .i64 0] 35) = u71 at HM72 hHeld ⊢
              refine wpAnyH_ready (rs := [1]) (by kernel_rfl) (by simp) ?_
              refine (AllReadyH.cons (o := ({ dst := some 49, op := Go.Op.call { callee := Go.Callee.value (Go.Operand.func 10), args := #[Go.Operand.tmp 48], argTypes := #[32] }, type := 35, pos := "law.go:150", after := #[{ on := 0, ground := Go.Ground.data }], guard := none } : Oper)) rfl (fun K hK => ?_) AllReadyH.nil)
              go_simp
              go_at_call 10
              refine (HO1.out _ HM72.out.below).mono ?_
              rintro e' u73 ⟨A75, c76, rfl, hbm, hmr⟩
              have HM74 := Lib.hid (HM72.out.to hbm)
              refine hK.out _ _ HM74.out.below (fun hHeld => ?_)
              clear hK K hbm hmr
              try simp only [Act.put, List.setIfInBounds_toArray, List.set_cons_zero, List.set_cons_succ]
              refine wpAnyH_ready (rs := [3]) (by kernel_rfl) (by simp) ?_
              refine (AllReadyH.cons (o := ({ dst := some 51, op := Go.Op.call { callee := Go.Callee.value (Go.Operand.func 10), args := #[Go.Operand.tmp 50], argTypes := #[32] }, type := 35, pos := "law.go:150", after := #[{ on := 2, ground := Go.Ground.data }, { on := 1, ground := Go.Ground.chain }], guard := none } : Oper)) rfl (fun K hK => ?_) AllReadyH.nil)
              go_simp
              go_at_call 10
              refine (HO2.out _ HM74.out.below).mono ?_
              rintro e' u77 ⟨A79, c80, rfl, hbm, hmr⟩
              have HM78 := Lib.hid ((HM74.out.to hbm).withR hmr)
              refine hK.out _ _ HM78.out.below (fun hHeld => ?_)
              clear hK K hbm hmr
              try simp only [Act.put, List.setIfInBounds_toArray, List.set_cons_zero, List.set_cons_succ]
              refine wpAnyH_ready (rs := [6]) (by kernel_rfl) (by simp) ?_
              refine (AllReadyH.cons (o := ({ dst := none, op := Go.Op.store 35 (Go.Operand.tmp 12) (Go.Operand.tmp 49), type := 0, pos := "law.go:150", after := #[{ on := 4, ground := Go.Ground.data }, { on := 1, ground := Go.Ground.data }, { on := 3, ground := Go.Ground.chain }, { on := 0, ground := Go.Ground.phase }, { on := 1, ground := Go.Ground.phase }, { on := 2, ground := Go.Ground.textOnly Go.Departure.lateStores }, { on := 3, ground := Go.Ground.textOnly Go.Departure.lateStoresUnsure }, { on := 4, ground := Go.Ground.phase }, { on := 5, ground := Go.Ground.phase }], guard := none } : Oper)) rfl (fun K hK => ?_) AllReadyH.nil)
              refine step_store_sr rfl 35 (.tmp 12) (.tmp 49) rfl (V0.heap.size) zF (FC F1.out (.slice A75 F1.rs.length c76) F1.nx F1.ttl) 35 (HM78.out.a _ rfl).1 rfl rfl (sizeF _ _ _ _) rfl (FC_one _ _ _ _ _ _) (fun w4 hg4 hw4 hs4 => ?_)
              have HM81 := Lib.hid (HM78.out.one hg4.out hw4.out)
              refine hK.out _ _ HM81.out.below (fun hHeld => ?_)
              clear hK K
              try simp only [Act.put]
              refine wpAnyH_ready (rs := [7]) (by kernel_rfl) (by simp) ?_
              refine AllReadyH.cons (o := ({ dst := none, op := Go.Op.store 35 (Go.Operand.tmp 13) (Go.Operand.tmp 51), type := 0, pos := "law.go:150", after := #[{ on := 5, ground := Go.Ground.data }, { on := 3, ground := Go.Ground.data }, { on := 6, ground := Go.Ground.chain }, { on := 0, ground := Go.Ground.phase }, { on := 1, ground := Go.Ground.phase }, { on := 2, ground := Go.Ground.phase }, { on := 3, ground := Go.Ground.phase }, { on := 4, ground := Go.Ground.phase }, { on := 5, ground := Go.Ground.phase }, { on := 6, ground := Go.Ground.phase }], guard := none } : Oper)) rfl (fun K hK => ?_) AllReadyH.nil
              refine step_store_sr rfl 35 (.tmp 13) (.tmp 51) rfl (u51.heap.size) zF (FC F2.out (.slice A79 F2.rs.length c80) F2.nx F2.ttl) 35 HM81.out.b rfl rfl (sizeF _ _ _ _) rfl (FC_one _ _ _ _ _ _) (fun w5 hg5 hw5 hs5 => ?_)
              have HFn := Lib.hid (HM81.out.fin hg5.out hw5.out)
              refine hK.out _ _ HFn.out.below (fun hHeld => ?_)
              clear hK K
              refine wpAnyH_done (by kernel_rfl) ?_ _
              try (go_wp2_with fail)
              go_meet
              case rel => exact ⟨_, _, _, _, _, _, rfl, rfl, HFn⟩
          · go_simp
            refine hK.out _ _ (HM0.out.below.alloc HM0.out.below.size _) (fun hHeld => ?_)
            clear hK K
            try simp only [Act.put, List.setIfInBounds_toArray, List.set_cons_zero, List.set_cons_succ]
            have HM83 := Lib.hid (HM0.out.withB)
            unfold zF FC at HM83
            generalize V0.alloc (.cells #[.int .i64 0, .slice none 0 0, .string ⟨#[]⟩, .int .i64 0] 35) = u82 at HM83 hHeld ⊢
            refine wpAnyH_ready (rs := [1, 4]) (by kernel_rfl) (by simp) ?_
            refine (AllReadyH.cons (o := ({ dst := some 49, op := Go.Op.call { callee := Go.Callee.value (Go.Operand.func 10), args := #[Go.Operand.tmp 48], argTypes := #[32] }, type := 35, pos := "law.go:150", after := #[{ on := 0, ground := Go.Ground.data }], guard := none } : Oper)) rfl (fun K hK => ?_) (AllReadyH.cons (o := ({ dst := some 12, op := Go.Op.alloc 35, type := 0, pos := "law.go:150", after := #[], guard := none } : Oper)) rfl (fun K hK => ?_) AllReadyH.nil))
            · go_simp
              go_at_call 10
              refine (HO1.out _ HM83.out.below).mono ?_
              rintro e' u84 ⟨A86, c87, rfl, hbm, hmr⟩
              have HM85 := Lib.hid (HM83.out.to hbm)
              refine hK.out _ _ HM85.out.below (fun hHeld => ?_)
              clear hK K hbm hmr
              try simp only [Act.put, List.setIfInBounds_toArray, List.set_cons_zero, List.set_cons_succ]
              refine wpAnyH_ready (rs := [3, 4]) (by kernel_rfl) (by simp) ?_
              refine (AllReadyH.cons (o := ({ dst := some 51, op := Go.Op.call { callee := Go.Callee.value (Go.Operand.func 10), args := #[Go.Operand.tmp 50], argTypes := #[32] }, type := 35, pos := "law.go:150", after := #[{ on := 2, ground := Go.Ground.data }, { on := 1, ground := Go.Ground.chain }], guard := none } : Oper)) rfl (fun K hK => ?_) (AllReadyH.cons (o := ({ dst := some 12, op := Go.Op.alloc 35, type := 0, pos := "law.go:150", after := #[], guard := none } : Oper)) rfl (fun K hK => ?_) AllReadyH.nil))
              · go_simp
                go_at_call 10
                refine (HO2.out _ HM85.out.below).mono ?_
                rintro e' u88 ⟨A90, c91, rfl, hbm, hmr⟩
                have HM89 := Lib.hid ((HM85.out.to hbm).withR hmr)
                refine hK.out _ _ HM89.out.below (fun hHeld => ?_)
                clear hK K hbm hmr
                try simp only [Act.put, List.setIfInBounds_toArray, List.set_cons_zero, List.set_cons_succ]
                refine wpAnyH_ready (rs := [4]) (by kernel_rfl) (by simp) ?_
                refine (AllReadyH.cons (o := ({ dst := some 12, op := Go.Op.alloc 35, type := 0, pos := "law.go:150", after := #[], guard := none } : Oper)) rfl (fun K hK => ?_) AllReadyH.nil)
                go_simp
                refine hK.out _ _ (HM89.out.below.alloc HM89.out.below.size _) (fun hHeld => ?_)
                clear hK K
                try simp only [Act.put, List.setIfInBounds_toArray, List.set_cons_zero, List.set_cons_succ]
                have HM93 := Lib.hid (HM89.out.withA)
                unfold zF FC at HM93
                generalize u88.alloc (.cells #[.int .i64 0, .slice none 0 0, .string ⟨#[]⟩, .int .i64 0] 35) = u92 at HM93 hHeld ⊢
                refine wpAnyH_ready (rs := [6]) (by kernel_rfl) (by simp) ?_
                refine (AllReadyH.cons (o := ({ dst := none, op := Go.Op.store 35 (Go.Operand.tmp 12) (Go.Operand.tmp 49), type := 0, pos := "law.go:150", after := #[{ on := 4, ground := Go.Ground.data }, { on := 1, ground := Go.Ground.data }, { on := 3, ground := Go.Ground.chain }, { on := 0, ground := Go.Ground.phase }, { on := 1, ground := Go.Ground.phase }, { on := 2, ground := Go.Ground.textOnly Go.Departure.lateStores }, { on := 3, ground := Go.Ground.textOnly Go.Departure.lateStoresUnsure }, { on := 4, ground := Go.Ground.phase }, { on := 5, ground := Go.Ground.phase }], guard := none } : Oper)) rfl (fun K hK => ?_) AllReadyH.nil)
                refine step_store_sr rfl 35 (.tmp 12) (.tmp 49) rfl (u88.heap.size) zF (FC F1.out (.slice A86 F1.rs.length c87) F1.nx F1.ttl) 35 (HM93.out.a _ rfl).1 rfl rfl (sizeF _ _ _ _) rfl (FC_one _ _ _ _ _ _) (fun w4 hg4 hw4 hs4 => ?_)
                have HM94 := Lib.hid (HM93.out.one hg4.out hw4.out)
                refine hK.out _ _ HM94.out.below (fun hHeld => ?_)
                clear hK K
                try simp only [Act.put]
                refine wpAnyH_ready (rs := [7]) (by kernel_rfl) (by simp) ?_
                refine AllReadyH.cons (o := ({ dst := none, op := Go.Op.store 35 (Go.Operand.tmp 13) (Go.Operand.tmp 51), type := 0, pos := "law.go:150", after := #[{ on := 5, ground := Go.Ground.data }, { on := 3, ground := Go.Ground.data }, { on := 6, ground := Go.Ground.chain }, { on := 0, ground := Go.Ground.phase }, { on := 1, ground := Go.Ground.phase }, { on := 2, ground := Go.Ground.phase }, { on := 3, ground := Go.Ground.phase }, { on := 4, ground := Go.Ground.phase }, { on := 5, ground := Go.Ground.phase }, { on := 6, ground := Go.Ground.phase }], guard := none } : Oper)) rfl (fun K hK => ?_) AllReadyH.nil
                refine step_store_sr rfl 35 (.tmp 13) (.tmp 51) rfl (V0.heap.size) zF (FC F2.out (.slice A90 F2.rs.length c91) F2.nx F2.ttl) 35 HM94.out.b rfl rfl (sizeF _ _ _ _) rfl (FC_one _ _ _ _ _ _) (fun w5 hg5 hw5 hs5 => ?_)
                have HFn := Lib.hid (HM94.out.fin hg5.out hw5.out)
                refine hK.out _ _ HFn.out.below (fun hHeld => ?_)
                clear hK K
                refine wpAnyH_done (by kernel_rfl) ?_ _
                try (go_wp2_with fail)
                go_meet
                case rel => exact ⟨_, _, _, _, _, _, rfl, rfl, HFn⟩
              · go_simp
                refine hK.out _ _ (HM85.out.below.alloc HM85.out.below.size _) (fun hHeld => ?_)
                clear hK K
                try simp only [Act.put, List.setIfInBounds_toArray, List.set_cons_zero, List.set_cons_succ]
                have HM96 := Lib.hid (HM85.out.withA)
                unfold zF FC at HM96
                generalize u84.alloc (.cells #[.int .i64 0, .slice none 0 0, .string ⟨#[]⟩, .int .i64 0] 35) = u95 at HM96 hHeld ⊢
                refine wpAnyH_ready (rs := [3]) (by kernel_rfl) (by simp) ?_
                refine (AllReadyH.cons (o := ({ dst := some 51, op := Go.Op.call { callee := Go.Callee.value (Go.Operand.func 10), args := #[Go.Operand.tmp 50], argTypes := #[32] }, type := 35, pos := "law.go:150", after := #[{ on := 2, ground := Go.Ground.data }, { on := 1, ground := Go.Ground.chain }], guard := none } : Oper)) rfl (fun K hK => ?_) AllReadyH.nil)
                go_simp
                go_at_call 10
                refine (HO2.out _ HM96.out.below).mono ?_
                rintro e' u97 ⟨A99, c100, rfl, hbm, hmr⟩
                have HM98 := Lib.hid ((HM96.out.to hbm).withR hmr)
                refine hK.out _ _ HM98.out.below (fun hHeld => ?_)
                clear hK K hbm hmr
                try simp only [Act.put, List.setIfInBounds_toArray, List.set_cons_zero, List.set_cons_succ]
                refine wpAnyH_ready (rs := [6]) (by kernel_rfl) (by simp) ?_
                refine (AllReadyH.cons (o := ({ dst := none, op := Go.Op.store 35 (Go.Operand.tmp 12) (Go.Operand.tmp 49), type := 0, pos := "law.go:150", after := #[{ on := 4, ground := Go.Ground.data }, { on := 1, ground := Go.Ground.data }, { on := 3, ground := Go.Ground.chain }, { on := 0, ground := Go.Ground.phase }, { on := 1, ground := Go.Ground.phase }, { on := 2, ground := Go.Ground.textOnly Go.Departure.lateStores }, { on := 3, ground := Go.Ground.textOnly Go.Departure.lateStoresUnsure }, { on := 4, ground := Go.Ground.phase }, { on := 5, ground := Go.Ground.phase }], guard := none } : Oper)) rfl (fun K hK => ?_) AllReadyH.nil)
                refine step_store_sr rfl 35 (.tmp 12) (.tmp 49) rfl (u84.heap.size) zF (FC F1.out (.slice A86 F1.rs.length c87) F1.nx F1.ttl) 35 (HM98.out.a _ rfl).1 rfl rfl (sizeF _ _ _ _) rfl (FC_one _ _ _ _ _ _) (fun w4 hg4 hw4 hs4 => ?_)
                have HM101 := Lib.hid (HM98.out.one hg4.out hw4.out)
                refine hK.out _ _ HM101.out.below (fun hHeld => ?_)
                clear hK K
                try simp only [Act.put]
                refine wpAnyH_ready (rs := [7]) (by kernel_rfl) (by simp) ?_
                refine AllReadyH.cons (o := ({ dst := none, op := Go.Op.store 35 (Go.Operand.tmp 13) (Go.Operand.tmp 51), type := 0, pos := "law.go:150", after := #[{ on := 5, ground := Go.Ground.data }, { on := 3, ground := Go.Ground.data }, { on := 6, ground := Go.Ground.chain }, { on := 0, ground := Go.Ground.phase }, { on := 1, ground := Go.Ground.phase }, { on := 2, ground := Go.Ground.phase }, { on := 3, ground := Go.Ground.phase }, { on := 4, ground := Go.Ground.phase }, { on := 5, ground := Go.Ground.phase }, { on := 6, ground := Go.Ground.phase }], guard := none } : Oper)) rfl (fun K hK => ?_) AllReadyH.nil
                refine step_store_sr rfl 35 (.tmp 13) (.tmp 51) rfl (V0.heap.size) zF (FC F2.out (.slice A99 F2.rs.length c100) F2.nx F2.ttl) 35 HM101.out.b rfl rfl (sizeF _ _ _ _) rfl (FC_one _ _ _ _ _ _) (fun w5 hg5 hw5 hs5 => ?_)
                have HFn := Lib.hid (HM101.out.fin hg5.out hw5.out)
                refine hK.out _ _ HFn.out.below (fun hHeld => ?_)
                clear hK K
                refine wpAnyH_done (by kernel_rfl) ?_ _
                try (go_wp2_with fail)
                go_meet
                case rel => exact ⟨_, _, _, _, _, _, rfl, rfl, HFn⟩
            · go_simp
              refine hK.out _ _ (HM83.out.below.alloc HM83.out.below.size _) (fun hHeld => ?_)
              clear hK K
              try simp only [Act.put, List.setIfInBounds_toArray, List.set_cons_zero, List.set_cons_succ]
              have HM103 := Lib.hid (HM83.out.withA)
              unfold zF FC at HM103
              generalize u82.alloc (.cells #[.int .i64 0, .slice none 0 0, .string ⟨#[]⟩, .int .i64 0] 35) = u102 at HM103 hHeld ⊢
              refine wpAnyH_ready (rs := [1]) (by kernel_rfl) (by simp) ?_
              refine (AllReadyH.cons (o := ({ dst := some 49, op := Go.Op.call { callee := Go.Callee.value (Go.Operand.func 10), args := #[Go.Operand.tmp 48], argTypes := #[32] }, type := 35, pos := "law.go:150", after := #[{ on := 0, ground := Go.Ground.data }], guard := none } : Oper)) rfl (fun K hK => ?_) AllReadyH.nil)
              go_simp
              go_at_call 10
              refine (HO1.out _ HM103.out.below).mono ?_
              rintro e' u104 ⟨A106, c107, rfl, hbm, hmr⟩
              have HM105 := Lib.hid (HM103.out.to hbm)
              refine hK.out _ _ HM105.out.below (fun hHeld => ?_)
              clear hK K hbm hmr
              try simp only [Act.put, List.setIfInBounds_toArray, List.set_cons_zero, List.set_cons_succ]
              refine wpAnyH_ready (rs := [3]) (by kernel_rfl) (by simp) ?_
              refine (AllReadyH.cons (o := ({ dst := some 51, op := Go.Op.call { callee := Go.Callee.value (Go.Operand.func 10), args := #[Go.Operand.tmp 50], argTypes := #[32] }, type := 35, pos := "law.go:150", after := #[{ on := 2, ground := Go.Ground.data }, { on := 1, ground := Go.Ground.chain }], guard := none } : Oper)) rfl (fun K hK => ?_) AllReadyH.nil)
              go_simp
              go_at_call 10
              refine (HO2.out _ HM105.out.below).mono ?_
              rintro e' u108 ⟨A110, c111, rfl, hbm, hmr⟩
              have HM109 := Lib.hid ((HM105.out.to hbm).withR hmr)
              refine hK.out _ _ HM109.out.below (fun hHeld => ?_)
              clear hK K hbm hmr
              try simp only [Act.put, List.setIfInBounds_toArray, List.set_cons_zero, List.set_cons_succ]
              refine wpAnyH_ready (rs := [6]) (by kernel_rfl) (by simp) ?_
              refine (AllReadyH.cons (o := ({ dst := none, op := Go.Op.store 35 (Go.Operand.tmp 12) (Go.Operand.tmp 49), type := 0, pos := "law.go:150", after := #[{ on := 4, ground := Go.Ground.data }, { on := 1, ground := Go.Ground.data }, { on := 3, ground := Go.Ground.chain }, { on := 0, ground := Go.Ground.phase }, { on := 1, ground := Go.Ground.phase }, { on := 2, ground := Go.Ground.textOnly Go.Departure.lateStores }, { on := 3, ground := Go.Ground.textOnly Go.Departure.lateStoresUnsure }, { on := 4, ground := Go.Ground.phase }, { on := 5, ground := Go.Ground.phase }], guard := none } : Oper)) rfl (fun K hK => ?_) AllReadyH.nil)
              refine step_store_sr rfl 35 (.tmp 12) (.tmp 49) rfl (u82.heap.size) zF (FC F1.out (.slice A106 F1.rs.length c107) F1.nx F1.ttl) 35 (HM109.out.a _ rfl).1 rfl rfl (sizeF _ _ _ _) rfl (FC_one _ _ _ _ _ _) (fun w4 hg4 hw4 hs4 => ?_)
              have HM112 := Lib.hid (HM109.out.one hg4.out hw4.out)
              refine hK.out _ _ HM112.out.below (fun hHeld => ?_)
              clear hK K
              try simp only [Act.put]
              refine wpAnyH_ready (rs := [7]) (by kernel_rfl) (by simp) ?_
              refine AllReadyH.cons (o := ({ dst := none, op := Go.Op.store 35 (Go.Operand.tmp 13) (Go.Operand.tmp 51), type := 0, pos := "law.go:150", after := #[{ on := 5, ground := Go.Ground.data }, { on := 3, ground := Go.Ground.data }, { on := 6, ground := Go.Ground.chain }, { on := 0, ground := Go.Ground.phase }, { on := 1, ground := Go.Ground.phase }, { on := 2, ground := Go.Ground.phase }, { on := 3, ground := Go.Ground.phase }, { on := 4, ground := Go.Ground.phase }, { on := 5, ground := Go.Ground.phase }, { on := 6, ground := Go.Ground.phase }], guard := none } : Oper)) rfl (fun K hK => ?_) AllReadyH.nil
              refine step_store_sr rfl 35 (.tmp 13) (.tmp 51) rfl (V0.heap.size) zF (FC F2.out (.slice A110 F2.rs.length c111) F2.nx F2.ttl) 35 HM112.out.b rfl rfl (sizeF _ _ _ _) rfl (FC_one _ _ _ _ _ _) (fun w5 hg5 hw5 hs5 => ?_)
              have HFn := Lib.hid (HM112.out.fin hg5.out hw5.out)
              refine hK.out _ _ HFn.out.below (fun hHeld => ?_)
              clear hK K
              refine wpAnyH_done (by kernel_rfl) ?_ _
              try (go_wp2_with fail)
              go_meet
              case rel => exact ⟨_, _, _, _, _, _, rfl, rfl, HFn⟩
        case rest =>
        obtain ⟨gf, gg, B1, x1, B2, c2, rfl, rfl, HFn⟩ := hcut
        clear HO1 HO2 RM1 RM2 SRM1 SRM2
        generalize wc = W5 at HFn ⊢
        have HB5 : Hid (Below w.heap.size w W5) := Lib.hid (HB1.out.trans ((HB3.out.trans ((HPt.out.below.trans (HFn.out.below.mono HPt.out.below.size)).mono HB3.out.size)).mono HB1.out.size))
        have d4 := (cell_of_row W5 g9 4 _ _ _ ((HFn.out.below.block _ (heap_lt HPt.out.m1)).trans HPt.out.m1)).trans H1c4.out
        have HRr := Lib.hid ((HFn.out.below.block _ (heap_lt HPt.out.rr)).trans HPt.out.rr)
        have SX : Hid ((Try.prog.info? 41).map (·.size) = some r2.length) := Lib.hid (by simpa using SR2.out)
        clear HPt H1c4 SR2 HB1 HB3
        generalize m.code = code at d4 hcode HFF
        have good : F2 = ⟨1, [r'], ⟨#[]⟩, 7⟩ → ∃ bR oR, B2 = some ⟨bR, oR, none⟩ ∧ (∀ U, Below W5.heap.size W5 U → U.rangeAt bR oR r2) ∧ (∀ U, Below W5.heap.size W5 U → U.rangeAt g11 0 r2) ∧ (∀ U, Below W5.heap.size W5 U → U.cell? ⟨gg, 0, none⟩ = some (.int .i64 1)) ∧ (∀ U, Below W5.heap.size W5 U → U.cell? ⟨gg, 1, none⟩ = some (.slice B2 1 c2)) ∧ (∀ U, Below W5.heap.size W5 U → U.cell? ⟨gg, 3, none⟩ = some (.int .i64 7)) := by
          rintro rfl
          obtain ⟨bR, oR, e, hlt, hc⟩ := HFn.out.r (by show 0 < 1; omega)
          have hg : ∀ U, Below W5.heap.size W5 U → U.heap[gg]? = _ := fun U hU => (hU.block _ (heap_lt HFn.out.s)).trans HFn.out.s
          refine ⟨bR, oR, e, fun U hU j v hj => ?_, fun U hU j v hj => ?_, fun U hU => (cell_of_row U gg 0 _ _ _ (hg U hU)).trans rfl, fun U hU => (cell_of_row U gg 1 _ _ _ (hg U hU)).trans rfl, fun U hU => (cell_of_row U gg 3 _ _ _ (hg U hU)).trans rfl⟩
          · have h := hc 0 r' rfl j v (by rw [← HR2c.out]; exact hj)
            rw [Addr.add_lit] at h
            simp only [Nat.zero_mul, Nat.add_zero] at h
            exact (hU.cell (p := ⟨bR, oR + j, none⟩) hlt).trans h
          · rw [Nat.zero_add]
            exact (cell_of_row U g11 j _ _ _ ((hU.block _ (heap_lt HRr.out)).trans HRr.out)).trans (by rw [List.getElem?_toArray]; exact hj)
        have hgf : ∀ U, Below W5.heap.size W5 U → U.cell? ⟨gf, 0, none⟩ = some (.int .i64 F1.out) := fun U hU => (cell_of_row U gf 0 _ _ _ ((hU.block _ (heap_lt HFn.out.f)).trans HFn.out.f)).trans rfl
        rcases hcode with rfl | rfl | rfl
        · obtain ⟨h1, h2⟩ := HFF.out.1 rfl
          obtain ⟨bR, oR, rfl, rx, ry, g0, g1, g3⟩ := good h2
          have DF := Lib.hid hgf
          rw [h1] at DF
          have D0 := Lib.hid g0
          have D1 := Lib.hid g1
          have D3 := Lib.hid g3
          have RX := Lib.hid rx
          have RY := Lib.hid ry
          clear hgf good h1 h2 rx ry g0 g1 g3 HFF HFn HRr
          go_upto_region 20 with fail
          clear d4
          refine wp_region_held_drew (S := (fun W : World => Below W5.heap.size W5 W)) (by kernel_rfl) (Below.refl _ W5).drew (fun hHeld => ?_)
          refine wpAnyH_take (i := 0) (oi := ({ dst := some 68, op := Go.Op.fieldAddr 35 (Go.Operand.tmp 12) 0, type := 0, pos := "law.go:154", after := #[], guard := none } : Oper)) (v := .pointer (some ⟨gf, 0, none⟩)) rfl (by kernel_rfl) (by kernel_rfl) (by kernel_rfl) (fun _ _ _ h => h) (Or.inl ⟨by rfl, fun w' _ => ?_⟩) hHeld ?_
          · go_simp
          simp only [Act.put, List.setIfInBounds_toArray, List.set_cons_zero, List.set_cons_succ]
          refine wpAnyH_take (i := 1) (oi := ({ dst := some 69, op := Go.Op.load 3 (Go.Operand.tmp 68), type := 3, pos := "law.go:154", after := #[{ on := 0, ground := Go.Ground.data }], guard := none } : Oper)) (v := .int .i64 5) rfl (by kernel_rfl) (by kernel_rfl) (by kernel_rfl) (fun _ _ _ h => h) (Or.inl ⟨by rfl, fun w' hS' => ?_⟩) hHeld ?_
          · have hcell := DF.out w' hS'
            go_simp
          simp only [Act.put, List.setIfInBounds_toArray, List.set_cons_zero, List.set_cons_succ]
          refine wpAnyH_take (i := 2) (oi := ({ dst := some 70, op := Go.Op.binOp Go.BinOp.eql 3 (Go.Operand.tmp 69) (Go.Operand.const (Go.Value.int Go.IntKind.i64 5)) 3, type := 4, pos := "law.go:154", after := #[{ on := 1, ground := Go.Ground.data }], guard := none } : Oper)) (v := .bool true) rfl (by kernel_rfl) (by kernel_rfl) (by kernel_rfl) (fun _ _ _ h => h) (Or.inl ⟨by rfl, fun w' _ => ?_⟩) hHeld ?_
          · go_simp
          simp only [Act.put, List.setIfInBounds_toArray, List.set_cons_zero, List.set_cons_succ]
          refine wpAnyH_take (i := 3) (oi := ({ dst := some 71, op := Go.Op.move (Go.Operand.tmp 70), type := 4, pos := "law.go:154", after := #[{ on := 2, ground := Go.Ground.data }], guard := none } : Oper)) (v := .bool true) rfl (by kernel_rfl) (by kernel_rfl) (by kernel_rfl) (fun _ _ _ h => h) (Or.inl ⟨by rfl, fun w' _ => ?_⟩) hHeld ?_
          · go_simp
          simp only [Act.put, List.setIfInBounds_toArray, List.set_cons_zero, List.set_cons_succ]
          refine wpAnyH_take (i := 4) (oi := ({ dst := some 72, op := Go.Op.fieldAddr 35 (Go.Operand.tmp 12) 0, type := 0, pos := "law.go:154", after := #[{ on := 3, ground := Go.Ground.guard }], guard := some (3, false) } : Oper)) (v := undef) rfl (by kernel_rfl) (by kernel_rfl) (by kernel_rfl) (fun _ _ _ h => h) (.inr ⟨by kernel_rfl, rfl⟩) hHeld ?_
          simp only [Act.put, List.setIfInBounds_toArray, List.set_cons_zero, List.set_cons_succ]
          refine wpAnyH_take (i := 5) (oi := ({ dst := some 73, op := Go.Op.load 3 (Go.Operand.tmp 72), type := 3, pos := "law.go:154", after := #[{ on := 4, ground := Go.Ground.data }, { on := 3, ground := Go.Ground.guard }], guard := some (3, false) } : Oper)) (v := undef) rfl (by kernel_rfl) (by kernel_rfl) (by kernel_rfl) (fun _ _ _ h => h) (.inr ⟨by kernel_rfl, rfl⟩) hHeld ?_
          simp only [Act.put, List.setIfInBounds_toArray, List.set_cons_zero, List.set_cons_succ]
          refine wpAnyH_take (i := 6) (oi := ({ dst := some 74, op := Go.Op.binOp Go.BinOp.eql 3 (Go.Operand.tmp 73) (Go.Operand.const (Go.Value.int Go.IntKind.i64 2)) 3, type := 4, pos := "law.go:154", after := #[{ on := 5, ground := Go.Ground.data }, { on := 3, ground := Go.Ground.guard }], guard := some (3, false) } : Oper)) (v := undef) rfl (by kernel_rfl) (by kernel_rfl) (by kernel_rfl) (fun _ _ _ h => h) (.inr ⟨by kernel_rfl, rfl⟩) hHeld ?_
          simp only [Act.put, List.setIfInBounds_toArray, List.set_cons_zero, List.set_cons_succ]
          refine wpAnyH_take (i := 7) (oi := ({ dst := some 75, op := Go.Op.pick (Go.Operand.tmp 71) (Go.Operand.const (Go.Value.bool true)) (Go.Operand.tmp 74), type := 4, pos := "law.go:154", after := #[{ on := 3, ground := Go.Ground.data }, { on := 6, ground := Go.Ground.data }], guard := none } : Oper)) (v := .bool true) rfl (by kernel_rfl) (by kernel_rfl) (by kernel_rfl) (fun _ _ _ h => h) (Or.inl ⟨by rfl, fun w' _ => ?_⟩) hHeld ?_
          · go_simp
          simp only [Act.put, List.setIfInBounds_toArray, List.set_cons_zero, List.set_cons_succ]
          refine wpAnyH_take (i := 8) (oi := ({ dst := some 76, op := Go.Op.move (Go.Operand.tmp 75), type := 4, pos := "law.go:154", after := #[{ on := 7, ground := Go.Ground.data }, { on := 3, ground := Go.Ground.chain }], guard := none } : Oper)) (v := .bool true) rfl (by kernel_rfl) (by kernel_rfl) (by kernel_rfl) (fun _ _ _ h => h) (Or.inl ⟨by rfl, fun w' _ => ?_⟩) hHeld ?_
          · go_simp
          simp only [Act.put, List.setIfInBounds_toArray, List.set_cons_zero, List.set_cons_succ]
          refine wpAnyH_take (i := 9) (oi := ({ dst := some 77, op := Go.Op.fieldAddr 35 (Go.Operand.tmp 13) 0, type := 0, pos := "law.go:154", after := #[{ on := 8, ground := Go.Ground.guard }], guard := some (8, true) } : Oper)) (v := .pointer (some ⟨gg, 0, none⟩)) rfl (by kernel_rfl) (by kernel_rfl) (by kernel_rfl) (fun _ _ _ h => h) (Or.inl ⟨by kernel_rfl, fun w' _ => ?_⟩) hHeld ?_
          · go_simp
          simp only [Act.put, List.setIfInBounds_toArray, List.set_cons_zero, List.set_cons_succ]
          refine wpAnyH_take (i := 10) (oi := ({ dst := some 78, op := Go.Op.load 3 (Go.Operand.tmp 77), type := 3, pos := "law.go:154", after := #[{ on := 9, ground := Go.Ground.data }, { on := 8, ground := Go.Ground.guard }], guard := some (8, true) } : Oper)) (v := .int .i64 1) rfl (by kernel_rfl) (by kernel_rfl) (by kernel_rfl) (fun _ _ _ h => h) (Or.inl ⟨by kernel_rfl, fun w' hS' => ?_⟩) hHeld ?_
          · have hcell := D0.out w' hS'
            go_simp
          simp only [Act.put, List.setIfInBounds_toArray, List.set_cons_zero, List.set_cons_succ]
          refine wpAnyH_take (i := 11) (oi := ({ dst := some 79, op := Go.Op.binOp Go.BinOp.eql 3 (Go.Operand.tmp 78) (Go.Operand.const (Go.Value.int Go.IntKind.i64 1)) 3, type := 4, pos := "law.go:154", after := #[{ on := 10, ground := Go.Ground.data }, { on := 8, ground := Go.Ground.guard }], guard := some (8, true) } : Oper)) (v := .bool true) rfl (by kernel_rfl) (by kernel_rfl) (by kernel_rfl) (fun _ _ _ h => h) (Or.inl ⟨by kernel_rfl, fun w' _ => ?_⟩) hHeld ?_
          · go_simp
          simp only [Act.put, List.setIfInBounds_toArray, List.set_cons_zero, List.set_cons_succ]
          refine wpAnyH_take (i := 12) (oi := ({ dst := some 80, op := Go.Op.pick (Go.Operand.tmp 76) (Go.Operand.tmp 79) (Go.Operand.const (Go.Value.bool false)), type := 4, pos := "law.go:154", after := #[{ on := 8, ground := Go.Ground.data }, { on := 11, ground := Go.Ground.data }], guard := none } : Oper)) (v := .bool true) rfl (by kernel_rfl) (by kernel_rfl) (by kernel_rfl) (fun _ _ _ h => h) (Or.inl ⟨by rfl, fun w' _ => ?_⟩) hHeld ?_
          · go_simp
          simp only [Act.put, List.setIfInBounds_toArray, List.set_cons_zero, List.set_cons_succ]
          refine wpAnyH_take (i := 13) (oi := ({ dst := some 81, op := Go.Op.move (Go.Operand.tmp 80), type := 4, pos := "law.go:154", after := #[{ on := 12, ground := Go.Ground.data }, { on := 8, ground := Go.Ground.chain }], guard := none } : Oper)) (v := .bool true) rfl (by kernel_rfl) (by kernel_rfl) (by kernel_rfl) (fun _ _ _ h => h) (Or.inl ⟨by rfl, fun w' _ => ?_⟩) hHeld ?_
          · go_simp
          simp only [Act.put, List.setIfInBounds_toArray, List.set_cons_zero, List.set_cons_succ]
          refine wpAnyH_take (i := 14) (oi := ({ dst := some 82, op := Go.Op.fieldAddr 35 (Go.Operand.tmp 13) 1, type := 0, pos := "law.go:154", after := #[{ on := 13, ground := Go.Ground.guard }], guard := some (13, true) } : Oper)) (v := .pointer (some ⟨gg, 1, none⟩)) rfl (by kernel_rfl) (by kernel_rfl) (by kernel_rfl) (fun _ _ _ h => h) (Or.inl ⟨by kernel_rfl, fun w' _ => ?_⟩) hHeld ?_
          · go_simp
          simp only [Act.put, List.setIfInBounds_toArray, List.set_cons_zero, List.set_cons_succ]
          refine wpAnyH_take (i := 15) (oi := ({ dst := some 83, op := Go.Op.load 30 (Go.Operand.tmp 82), type := 30, pos := "law.go:154", after := #[{ on := 14, ground := Go.Ground.data }, { on := 13, ground := Go.Ground.guard }], guard := some (13, true) } : Oper)) (v := .slice (some ⟨bR, oR, none⟩) 1 c2) rfl (by kernel_rfl) (by kernel_rfl) (by kernel_rfl) (fun _ _ _ h => h) (Or.inl ⟨by kernel_rfl, fun w' hS' => ?_⟩) hHeld ?_
          · have hcell := D1.out w' hS'
            go_simp
          simp only [Act.put, List.setIfInBounds_toArray, List.set_cons_zero, List.set_cons_succ]
          refine wpAnyH_take (i := 16) (oi := ({ dst := some 84, op := Go.Op.call { callee := Go.Callee.builtin Go.Builtin.len, args := #[Go.Operand.tmp 83], argTypes := #[30] }, type := 3, pos := "law.go:154", after := #[{ on := 15, ground := Go.Ground.data }, { on := 13, ground := Go.Ground.guard }], guard := some (13, true) } : Oper)) (v := .int .i64 1) rfl (by kernel_rfl) (by kernel_rfl) (by kernel_rfl) (fun _ _ _ h => h) (Or.inl ⟨by kernel_rfl, fun w' _ => ?_⟩) hHeld ?_
          · go_simp
          simp only [Act.put, List.setIfInBounds_toArray, List.set_cons_zero, List.set_cons_succ]
          refine wpAnyH_take (i := 17) (oi := ({ dst := some 85, op := Go.Op.binOp Go.BinOp.eql 3 (Go.Operand.tmp 84) (Go.Operand.const (Go.Value.int Go.IntKind.i64 1)) 3, type := 4, pos := "law.go:154", after := #[{ on := 16, ground := Go.Ground.data }, { on := 13, ground := Go.Ground.guard }], guard := some (13, true) } : Oper)) (v := .bool true) rfl (by kernel_rfl) (by kernel_rfl) (by kernel_rfl) (fun _ _ _ h => h) (Or.inl ⟨by kernel_rfl, fun w' _ => ?_⟩) hHeld ?_
          · go_simp
          simp only [Act.put, List.setIfInBounds_toArray, List.set_cons_zero, List.set_cons_succ]
          refine wpAnyH_take (i := 18) (oi := ({ dst := some 86, op := Go.Op.pick (Go.Operand.tmp 81) (Go.Operand.tmp 85) (Go.Operand.const (Go.Value.bool false)), type := 4, pos := "law.go:154", after := #[{ on := 13, ground := Go.Ground.data }, { on := 17, ground := Go.Ground.data }], guard := none } : Oper)) (v := .bool true) rfl (by kernel_rfl) (by kernel_rfl) (by kernel_rfl) (fun _ _ _ h => h) (Or.inl ⟨by rfl, fun w' _ => ?_⟩) hHeld ?_
          · go_simp
          simp only [Act.put, List.setIfInBounds_toArray, List.set_cons_zero, List.set_cons_succ]
          refine wpAnyH_take (i := 19) (oi := ({ dst := some 87, op := Go.Op.move (Go.Operand.tmp 86), type := 4, pos := "law.go:154", after := #[{ on := 18, ground := Go.Ground.data }, { on := 13, ground := Go.Ground.chain }], guard := none } : Oper)) (v := .bool true) rfl (by kernel_rfl) (by kernel_rfl) (by kernel_rfl) (fun _ _ _ h => h) (Or.inl ⟨by rfl, fun w' _ => ?_⟩) hHeld ?_
          · go_simp
          simp only [Act.put, List.setIfInBounds_toArray, List.set_cons_zero, List.set_cons_succ]
          refine wpAnyH_take (i := 20) (oi := ({ dst := some 88, op := Go.Op.fieldAddr 35 (Go.Operand.tmp 13) 3, type := 0, pos := "law.go:154", after := #[{ on := 19, ground := Go.Ground.guard }], guard := some (19, true) } : Oper)) (v := .pointer (some ⟨gg, 3, none⟩)) rfl (by kernel_rfl) (by kernel_rfl) (by kernel_rfl) (fun _ _ _ h => h) (Or.inl ⟨by kernel_rfl, fun w' _ => ?_⟩) hHeld ?_
          · go_simp
          simp only [Act.put, List.setIfInBounds_toArray, List.set_cons_zero, List.set_cons_succ]
          refine wpAnyH_take (i := 21) (oi := ({ dst := some 89, op := Go.Op.load 3 (Go.Operand.tmp 88), type := 3, pos := "law.go:154", after := #[{ on := 20, ground := Go.Ground.data }, { on := 19, ground := Go.Ground.guard }], guard := some (19, true) } : Oper)) (v := .int .i64 7) rfl (by kernel_rfl) (by kernel_rfl) (by kernel_rfl) (fun _ _ _ h => h) (Or.inl ⟨by kernel_rfl, fun w' hS' => ?_⟩) hHeld ?_
          · have hcell := D3.out w' hS'
            go_simp
          simp only [Act.put, List.setIfInBounds_toArray, List.set_cons_zero, List.set_cons_succ]
          refine wpAnyH_take (i := 22) (oi := ({ dst := some 90, op := Go.Op.binOp Go.BinOp.eql 3 (Go.Operand.tmp 89) (Go.Operand.const (Go.Value.int Go.IntKind.i64 7)) 3, type := 4, pos := "law.go:154", after := #[{ on := 21, ground := Go.Ground.data }, { on := 19, ground := Go.Ground.guard }], guard := some (19, true) } : Oper)) (v := .bool true) rfl (by kernel_rfl) (by kernel_rfl) (by kernel_rfl) (fun _ _ _ h => h) (Or.inl ⟨by kernel_rfl, fun w' _ => ?_⟩) hHeld ?_
          · go_simp
          simp only [Act.put, List.setIfInBounds_toArray, List.set_cons_zero, List.set_cons_succ]
          refine wpAnyH_take (i := 23) (oi := ({ dst := some 91, op := Go.Op.pick (Go.Operand.tmp 87) (Go.Operand.tmp 90) (Go.Operand.const (Go.Value.bool false)), type := 4, pos := "law.go:154", after := #[{ on := 19, ground := Go.Ground.data }, { on := 22, ground := Go.Ground.data }], guard := none } : Oper)) (v := .bool true) rfl (by kernel_rfl) (by kernel_rfl) (by kernel_rfl) (fun _ _ _ h => h) (Or.inl ⟨by rfl, fun w' _ => ?_⟩) hHeld ?_
          · go_simp
          simp only [Act.put, List.setIfInBounds_toArray, List.set_cons_zero, List.set_cons_succ]
          refine wpAnyH_take (i := 24) (oi := ({ dst := some 92, op := Go.Op.move (Go.Operand.tmp 91), type := 4, pos := "law.go:154", after := #[{ on := 23, ground := Go.Ground.data }, { on := 19, ground := Go.Ground.chain }], guard := none } : Oper)) (v := .bool true) rfl (by kernel_rfl) (by kernel_rfl) (by kernel_rfl) (fun _ _ _ h => h) (Or.inl ⟨by rfl, fun w' _ => ?_⟩) hHeld ?_
          · go_simp
          simp only [Act.put, List.setIfInBounds_toArray, List.set_cons_zero, List.set_cons_succ]
          refine wpAnyH_take (i := 25) (oi := ({ dst := some 93, op := Go.Op.fieldAddr 35 (Go.Operand.tmp 13) 1, type := 0, pos := "law.go:154", after := #[{ on := 24, ground := Go.Ground.guard }], guard := some (24, true) } : Oper)) (v := .pointer (some ⟨gg, 1, none⟩)) rfl (by kernel_rfl) (by kernel_rfl) (by kernel_rfl) (fun _ _ _ h => h) (Or.inl ⟨by kernel_rfl, fun w' _ => ?_⟩) hHeld ?_
          · go_simp
          simp only [Act.put, List.setIfInBounds_toArray, List.set_cons_zero, List.set_cons_succ]
          refine wpAnyH_take (i := 26) (oi := ({ dst := some 94, op := Go.Op.load 30 (Go.Operand.tmp 93), type := 30, pos := "law.go:154", after := #[{ on := 25, ground := Go.Ground.data }, { on := 24, ground := Go.Ground.guard }], guard := some (24, true) } : Oper)) (v := .slice (some ⟨bR, oR, none⟩) 1 c2) rfl (by kernel_rfl) (by kernel_rfl) (by kernel_rfl) (fun _ _ _ h => h) (Or.inl ⟨by kernel_rfl, fun w' hS' => ?_⟩) hHeld ?_
          · have hcell := D1.out w' hS'
            go_simp
          simp only [Act.put, List.setIfInBounds_toArray, List.set_cons_zero, List.set_cons_succ]
          refine wpAnyH_take (i := 27) (oi := ({ dst := some 95, op := Go.Op.indexAddr 30 (Go.Operand.tmp 94) (Go.Operand.const (Go.Value.int Go.IntKind.i64 0)), type := 0, pos := "law.go:154", after := #[{ on := 26, ground := Go.Ground.data }, { on := 24, ground := Go.Ground.guard }], guard := some (24, true) } : Oper)) (v := .pointer (some ⟨bR, oR, none⟩)) rfl (by kernel_rfl) (by kernel_rfl) (by kernel_rfl) (fun _ _ _ h => h) (Or.inl ⟨by kernel_rfl, fun w' _ => ?_⟩) hHeld ?_
          · go_simp
          simp only [Act.put, List.setIfInBounds_toArray, List.set_cons_zero, List.set_cons_succ]
          refine wpAnyH_take (i := 28) (oi := ({ dst := some 96, op := Go.Op.load 41 (Go.Operand.tmp 95), type := 41, pos := "law.go:154", after := #[{ on := 27, ground := Go.Ground.data }, { on := 24, ground := Go.Ground.guard }], guard := some (24, true) } : Oper)) (v := .agg (r2).toArray) rfl (by kernel_rfl) (by kernel_rfl) (by kernel_rfl) (fun _ _ _ h => h) (yieldsIf_load_mid (by kernel_rfl) _ _ rfl _ _ rfl _ _ (fun W h => RX.out W h) Try.underlying41 rfl SX.out) hHeld ?_
          simp only [Act.put, List.setIfInBounds_toArray, List.set_cons_zero, List.set_cons_succ]
          refine wpAnyH_take (i := 29) (oi := ({ dst := some 97, op := Go.Op.load 41 (Go.Operand.tmp 11), type := 41, pos := "law.go:154", after := #[{ on := 24, ground := Go.Ground.guard }], guard := some (24, true) } : Oper)) (v := .agg (r2).toArray) rfl (by kernel_rfl) (by kernel_rfl) (by kernel_rfl) (fun _ _ _ h => h) (yieldsIf_load_mid (by kernel_rfl) _ _ rfl _ _ rfl _ _ (fun W h => RY.out W h) Try.underlying41 rfl SX.out) hHeld ?_
          simp only [Act.put, List.setIfInBounds_toArray, List.set_cons_zero, List.set_cons_succ]
          refine wpAnyH_take (i := 30) (oi := ({ dst := some 98, op := Go.Op.binOp Go.BinOp.eql 41 (Go.Operand.tmp 96) (Go.Operand.tmp 97) 41, type := 4, pos := "law.go:154", after := #[{ on := 28, ground := Go.Ground.data }, { on := 29, ground := Go.Ground.data }, { on := 24, ground := Go.Ground.guard }], guard := some (24, true) } : Oper)) (v := .bool true) rfl (by kernel_rfl) (by kernel_rfl) (by kernel_rfl) (fun _ _ _ h => h) (yieldsIf_eql (by kernel_rfl) 41 (.tmp 96) (.tmp 97) _ rfl r2.toArray r2.toArray true rfl rfl eqGuardRec (fun W _ => HEQ.out W)) hHeld ?_
          simp only [Act.put, List.setIfInBounds_toArray, List.set_cons_zero, List.set_cons_succ]
          refine wpAnyH_take (i := 31) (oi := ({ dst := some 99, op := Go.Op.pick (Go.Operand.tmp 92) (Go.Operand.tmp 98) (Go.Operand.const (Go.Value.bool false)), type := 4, pos := "law.go:154", after := #[{ on := 24, ground := Go.Ground.data }, { on := 30, ground := Go.Ground.data }], guard := none } : Oper)) (v := .bool true) rfl (by kernel_rfl) (by kernel_rfl) (by kernel_rfl) (fun _ _ _ h => h) (Or.inl ⟨by rfl, fun w' _ => ?_⟩) hHeld ?_
          · go_simp
          simp only [Act.put, List.setIfInBounds_toArray, List.set_cons_zero, List.set_cons_succ]
          refine wpAnyH_take (i := 32) (oi := ({ dst := some 6, op := Go.Op.assign (Go.Operand.tmp 99), type := 4, pos := "law.go:154", after := #[{ on := 31, ground := Go.Ground.data }, { on := 24, ground := Go.Ground.chain }, { on := 0, ground := Go.Ground.phase }, { on := 1, ground := Go.Ground.phase }, { on := 2, ground := Go.Ground.phase }, { on := 3, ground := Go.Ground.phase }, { on := 4, ground := Go.Ground.phase }, { on := 5, ground := Go.Ground.phase }, { on := 6, ground := Go.Ground.phase }, { on := 7, ground := Go.Ground.phase }, { on := 8, ground := Go.Ground.phase }, { on := 9, ground := Go.Ground.phase }, { on := 10, ground := Go.Ground.phase }, { on := 11, ground := Go.Ground.phase }, { on := 12, ground := Go.Ground.phase }, { on := 13, ground := Go.Ground.phase }, { on := 14, ground := Go.Ground.phase }, { on := 15, ground := Go.Ground.phase }, { on := 16, ground := Go.Ground.phase }, { on := 17, ground := Go.Ground.phase }, { on := 18, ground := Go.Ground.phase }, { on := 19, ground := Go.Ground.phase }, { on := 20, ground := Go.Ground.phase }, { on := 21, ground := Go.Ground.phase }, { on := 22, ground := Go.Ground.phase }, { on := 23, ground := Go.Ground.phase }, { on := 24, ground := Go.Ground.phase }, { on := 25, ground := Go.Ground.phase }, { on := 26, ground := Go.Ground.phase }, { on := 27, ground := Go.Ground.phase }, { on := 28, ground := Go.Ground.phase }, { on := 29, ground := Go.Ground.phase }, { on := 30, ground := Go.Ground.phase }, { on := 31, ground := Go.Ground.phase }], guard := none } : Oper)) (v := .bool true) rfl (by kernel_rfl) (by kernel_rfl) (by kernel_rfl) (fun _ _ _ h => h) (Or.inl ⟨by rfl, fun w' _ => ?_⟩) hHeld ?_
          · go_simp
          simp only [Act.put, List.setIfInBounds_toArray, List.set_cons_zero, List.set_cons_succ]
          refine wpAnyH_done (by kernel_rfl) ?_ _
          have HBe := Lib.hid (HB5.out.trans (hHeld.mono HB5.out.size))
          clear hHeld DF D0 D1 D3 RX RY
          try (go_wp2_with fail)
          go_ret
          exact ⟨rfl, HBe.out⟩
        · obtain ⟨h1, h2⟩ := HFF.out.2.1 rfl
          obtain ⟨bR, oR, rfl, rx, ry, g0, g1, g3⟩ := good h2
          have DF := Lib.hid hgf
          rw [h1] at DF
          have D0 := Lib.hid g0
          have D1 := Lib.hid g1
          have D3 := Lib.hid g3
          have RX := Lib.hid rx
          have RY := Lib.hid ry
          clear hgf good h1 h2 rx ry g0 g1 g3 HFF HFn HRr
          go_upto_region 20 with fail
          clear d4
          refine wp_region_held_drew (S := (fun W : World => Below W5.heap.size W5 W)) (by kernel_rfl) (Below.refl _ W5).drew (fun hHeld => ?_)
          refine wpAnyH_take (i := 0) (oi := ({ dst := some 68, op := Go.Op.fieldAddr 35 (Go.Operand.tmp 12) 0, type := 0, pos := "law.go:154", after := #[], guard := none } : Oper)) (v := .pointer (some ⟨gf, 0, none⟩)) rfl (by kernel_rfl) (by kernel_rfl) (by kernel_rfl) (fun _ _ _ h => h) (Or.inl ⟨by rfl, fun w' _ => ?_⟩) hHeld ?_
          · go_simp
          simp only [Act.put, List.setIfInBounds_toArray, List.set_cons_zero, List.set_cons_succ]
          refine wpAnyH_take (i := 1) (oi := ({ dst := some 69, op := Go.Op.load 3 (Go.Operand.tmp 68), type := 3, pos := "law.go:154", after := #[{ on := 0, ground := Go.Ground.data }], guard := none } : Oper)) (v := .int .i64 2) rfl (by kernel_rfl) (by kernel_rfl) (by kernel_rfl) (fun _ _ _ h => h) (Or.inl ⟨by rfl, fun w' hS' => ?_⟩) hHeld ?_
          · have hcell := DF.out w' hS'
            go_simp
          simp only [Act.put, List.setIfInBounds_toArray, List.set_cons_zero, List.set_cons_succ]
          refine wpAnyH_take (i := 2) (oi := ({ dst := some 70, op := Go.Op.binOp Go.BinOp.eql 3 (Go.Operand.tmp 69) (Go.Operand.const (Go.Value.int Go.IntKind.i64 5)) 3, type := 4, pos := "law.go:154", after := #[{ on := 1, ground := Go.Ground.data }], guard := none } : Oper)) (v := .bool false) rfl (by kernel_rfl) (by kernel_rfl) (by kernel_rfl) (fun _ _ _ h => h) (Or.inl ⟨by rfl, fun w' _ => ?_⟩) hHeld ?_
          · go_simp
          simp only [Act.put, List.setIfInBounds_toArray, List.set_cons_zero, List.set_cons_succ]
          refine wpAnyH_take (i := 3) (oi := ({ dst := some 71, op := Go.Op.move (Go.Operand.tmp 70), type := 4, pos := "law.go:154", after := #[{ on := 2, ground := Go.Ground.data }], guard := none } : Oper)) (v := .bool false) rfl (by kernel_rfl) (by kernel_rfl) (by kernel_rfl) (fun _ _ _ h => h) (Or.inl ⟨by rfl, fun w' _ => ?_⟩) hHeld ?_
          · go_simp
          simp only [Act.put, List.setIfInBounds_toArray, List.set_cons_zero, List.set_cons_succ]
          refine wpAnyH_take (i := 4) (oi := ({ dst := some 72, op := Go.Op.fieldAddr 35 (Go.Operand.tmp 12) 0, type := 0, pos := "law.go:154", after := #[{ on := 3, ground := Go.Ground.guard }], guard := some (3, false) } : Oper)) (v := .pointer (some ⟨gf, 0, none⟩)) rfl (by kernel_rfl) (by kernel_rfl) (by kernel_rfl) (fun _ _ _ h => h) (Or.inl ⟨by kernel_rfl, fun w' _ => ?_⟩) hHeld ?_
          · go_simp
          simp only [Act.put, List.setIfInBounds_toArray, List.set_cons_zero, List.set_cons_succ]
          refine wpAnyH_take (i := 5) (oi := ({ dst := some 73, op := Go.Op.load 3 (Go.Operand.tmp 72), type := 3, pos := "law.go:154", after := #[{ on := 4, ground := Go.Ground.data }, { on := 3, ground := Go.Ground.guard }], guard := some (3, false) } : Oper)) (v := .int .i64 2) rfl (by kernel_rfl) (by kernel_rfl) (by kernel_rfl) (fun _ _ _ h => h) (Or.inl ⟨by kernel_rfl, fun w' hS' => ?_⟩) hHeld ?_
          · have hcell := DF.out w' hS'
            go_simp
          simp only [Act.put, List.setIfInBounds_toArray, List.set_cons_zero, List.set_cons_succ]
          refine wpAnyH_take (i := 6) (oi := ({ dst := some 74, op := Go.Op.binOp Go.BinOp.eql 3 (Go.Operand.tmp 73) (Go.Operand.const (Go.Value.int Go.IntKind.i64 2)) 3, type := 4, pos := "law.go:154", after := #[{ on := 5, ground := Go.Ground.data }, { on := 3, ground := Go.Ground.guard }], guard := some (3, false) } : Oper)) (v := .bool true) rfl (by kernel_rfl) (by kernel_rfl) (by kernel_rfl) (fun _ _ _ h => h) (Or.inl ⟨by kernel_rfl, fun w' _ => ?_⟩) hHeld ?_
          · go_simp
          simp only [Act.put, List.setIfInBounds_toArray, List.set_cons_zero, List.set_cons_succ]
          refine wpAnyH_take (i := 7) (oi := ({ dst := some 75, op := Go.Op.pick (Go.Operand.tmp 71) (Go.Operand.const (Go.Value.bool true)) (Go.Operand.tmp 74), type := 4, pos := "law.go:154", after := #[{ on := 3, ground := Go.Ground.data }, { on := 6, ground := Go.Ground.data }], guard := none } : Oper)) (v := .bool true) rfl (by kernel_rfl) (by kernel_rfl) (by kernel_rfl) (fun _ _ _ h => h) (Or.inl ⟨by rfl, fun w' _ => ?_⟩) hHeld ?_
          · go_simp
          simp only [Act.put, List.setIfInBounds_toArray, List.set_cons_zero, List.set_cons_succ]
          refine wpAnyH_take (i := 8) (oi := ({ dst := some 76, op := Go.Op.move (Go.Operand.tmp 75), type := 4, pos := "law.go:154", after := #[{ on := 7, ground := Go.Ground.data }, { on := 3, ground := Go.Ground.chain }], guard := none } : Oper)) (v := .bool true) rfl (by kernel_rfl) (by kernel_rfl) (by kernel_rfl) (fun _ _ _ h => h) (Or.inl ⟨by rfl, fun w' _ => ?_⟩) hHeld ?_
          · go_simp
          simp only [Act.put, List.setIfInBounds_toArray, List.set_cons_zero, List.set_cons_succ]
          refine wpAnyH_take (i := 9) (oi := ({ dst := some 77, op := Go.Op.fieldAddr 35 (Go.Operand.tmp 13) 0, type := 0, pos := "law.go:154", after := #[{ on := 8, ground := Go.Ground.guard }], guard := some (8, true) } : Oper)) (v := .pointer (some ⟨gg, 0, none⟩)) rfl (by kernel_rfl) (by kernel_rfl) (by kernel_rfl) (fun _ _ _ h => h) (Or.inl ⟨by kernel_rfl, fun w' _ => ?_⟩) hHeld ?_
          · go_simp
          simp only [Act.put, List.setIfInBounds_toArray, List.set_cons_zero, List.set_cons_succ]
          refine wpAnyH_take (i := 10) (oi := ({ dst := some 78, op := Go.Op.load 3 (Go.Operand.tmp 77), type := 3, pos := "law.go:154", after := #[{ on := 9, ground := Go.Ground.data }, { on := 8, ground := Go.Ground.guard }], guard := some (8, true) } : Oper)) (v := .int .i64 1) rfl (by kernel_rfl) (by kernel_rfl) (by kernel_rfl) (fun _ _ _ h => h) (Or.inl ⟨by kernel_rfl, fun w' hS' => ?_⟩) hHeld ?_
          · have hcell := D0.out w' hS'
            go_simp
          simp only [Act.put, List.setIfInBounds_toArray, List.set_cons_zero, List.set_cons_succ]
          refine wpAnyH_take (i := 11) (oi := ({ dst := some 79, op := Go.Op.binOp Go.BinOp.eql 3 (Go.Operand.tmp 78) (Go.Operand.const (Go.Value.int Go.IntKind.i64 1)) 3, type := 4, pos := "law.go:154", after := #[{ on := 10, ground := Go.Ground.data }, { on := 8, ground := Go.Ground.guard }], guard := some (8, true) } : Oper)) (v := .bool true) rfl (by kernel_rfl) (by kernel_rfl) (by kernel_rfl) (fun _ _ _ h => h) (Or.inl ⟨by kernel_rfl, fun w' _ => ?_⟩) hHeld ?_
          · go_simp
          simp only [Act.put, List.setIfInBounds_toArray, List.set_cons_zero, List.set_cons_succ]
          refine wpAnyH_take (i := 12) (oi := ({ dst := some 80, op := Go.Op.pick (Go.Operand.tmp 76) (Go.Operand.tmp 79) (Go.Operand.const (Go.Value.bool false)), type := 4, pos := "law.go:154", after := #[{ on := 8, ground := Go.Ground.data }, { on := 11, ground := Go.Ground.data }], guard := none } : Oper)) (v := .bool true) rfl (by kernel_rfl) (by kernel_rfl) (by kernel_rfl) (fun _ _ _ h => h) (Or.inl ⟨by rfl, fun w' _ => ?_⟩) hHeld ?_
          · go_simp
          simp only [Act.put, List.setIfInBounds_toArray, List.set_cons_zero, List.set_cons_succ]
          refine wpAnyH_take (i := 13) (oi := ({ dst := some 81, op := Go.Op.move (Go.Operand.tmp 80), type := 4, pos := "law.go:154", after := #[{ on := 12, ground := Go.Ground.data }, { on := 8, ground := Go.Ground.chain }], guard := none } : Oper)) (v := .bool true) rfl (by kernel_rfl) (by kernel_rfl) (by kernel_rfl) (fun _ _ _ h => h) (Or.inl ⟨by rfl, fun w' _ => ?_⟩) hHeld ?_
          · go_simp
          simp only [Act.put, List.setIfInBounds_toArray, List.set_cons_zero, List.set_cons_succ]
          refine wpAnyH_take (i := 14) (oi := ({ dst := some 82, op := Go.Op.fieldAddr 35 (Go.Operand.tmp 13) 1, type := 0, pos := "law.go:154", after := #[{ on := 13, ground := Go.Ground.guard }], guard := some (13, true) } : Oper)) (v := .pointer (some ⟨gg, 1, none⟩)) rfl (by kernel_rfl) (by kernel_rfl) (by kernel_rfl) (fun _ _ _ h => h) (Or.inl ⟨by kernel_rfl, fun w' _ => ?_⟩) hHeld ?_
          · go_simp
          simp only [Act.put, List.setIfInBounds_toArray, List.set_cons_zero, List.set_cons_succ]
          refine wpAnyH_take (i := 15) (oi := ({ dst := some 83, op := Go.Op.load 30 (Go.Operand.tmp 82), type := 30, pos := "law.go:154", after := #[{ on := 14, ground := Go.Ground.data }, { on := 13, ground := Go.Ground.guard }], guard := some (13, true) } : Oper)) (v := .slice (some ⟨bR, oR, none⟩) 1 c2) rfl (by kernel_rfl) (by kernel_rfl) (by kernel_rfl) (fun _ _ _ h => h) (Or.inl ⟨by kernel_rfl, fun w' hS' => ?_⟩) hHeld ?_
          · have hcell := D1.out w' hS'
            go_simp
          simp only [Act.put, List.setIfInBounds_toArray, List.set_cons_zero, List.set_cons_succ]
          refine wpAnyH_take (i := 16) (oi := ({ dst := some 84, op := Go.Op.call { callee := Go.Callee.builtin Go.Builtin.len, args := #[Go.Operand.tmp 83], argTypes := #[30] }, type := 3, pos := "law.go:154", after := #[{ on := 15, ground := Go.Ground.data }, { on := 13, ground := Go.Ground.guard }], guard := some (13, true) } : Oper)) (v := .int .i64 1) rfl (by kernel_rfl) (by kernel_rfl) (by kernel_rfl) (fun _ _ _ h => h) (Or.inl ⟨by kernel_rfl, fun w' _ => ?_⟩) hHeld ?_
          · go_simp
          simp only [Act.put, List.setIfInBounds_toArray, List.set_cons_zero, List.set_cons_succ]
          refine wpAnyH_take (i := 17) (oi := ({ dst := some 85, op := Go.Op.binOp Go.BinOp.eql 3 (Go.Operand.tmp 84) (Go.Operand.const (Go.Value.int Go.IntKind.i64 1)) 3, type := 4, pos := "law.go:154", after := #[{ on := 16, ground := Go.Ground.data }, { on := 13, ground := Go.Ground.guard }], guard := some (13, true) } : Oper)) (v := .bool true) rfl (by kernel_rfl) (by kernel_rfl) (by kernel_rfl) (fun _ _ _ h => h) (Or.inl ⟨by kernel_rfl, fun w' _ => ?_⟩) hHeld ?_
          · go_simp
          simp only [Act.put, List.setIfInBounds_toArray, List.set_cons_zero, List.set_cons_succ]
          refine wpAnyH_take (i := 18) (oi := ({ dst := some 86, op := Go.Op.pick (Go.Operand.tmp 81) (Go.Operand.tmp 85) (Go.Operand.const (Go.Value.bool false)), type := 4, pos := "law.go:154", after := #[{ on := 13, ground := Go.Ground.data }, { on := 17, ground := Go.Ground.data }], guard := none } : Oper)) (v := .bool true) rfl (by kernel_rfl) (by kernel_rfl) (by kernel_rfl) (fun _ _ _ h => h) (Or.inl ⟨by rfl, fun w' _ => ?_⟩) hHeld ?_
          · go_simp
          simp only [Act.put, List.setIfInBounds_toArray, List.set_cons_zero, List.set_cons_succ]
          refine wpAnyH_take (i := 19) (oi := ({ dst := some 87, op := Go.Op.move (Go.Operand.tmp 86), type := 4, pos := "law.go:154", after := #[{ on := 18, ground := Go.Ground.data }, { on := 13, ground := Go.Ground.chain }], guard := none } : Oper)) (v := .bool true) rfl (by kernel_rfl) (by kernel_rfl) (by kernel_rfl) (fun _ _ _ h => h) (Or.inl ⟨by rfl, fun w' _ => ?_⟩) hHeld ?_
          · go_simp
          simp only [Act.put, List.setIfInBounds_toArray, List.set_cons_zero, List.set_cons_succ]
          refine wpAnyH_take (i := 20) (oi := ({ dst := some 88, op := Go.Op.fieldAddr 35 (Go.Operand.tmp 13) 3, type := 0, pos := "law.go:154", after := #[{ on := 19, ground := Go.Ground.guard }], guard := some (19, true) } : Oper)) (v := .pointer (some ⟨gg, 3, none⟩)) rfl (by kernel_rfl) (by kernel_rfl) (by kernel_rfl) (fun _ _ _ h => h) (Or.inl ⟨by kernel_rfl, fun w' _ => ?_⟩) hHeld ?_
          · go_simp
          simp only [Act.put, List.setIfInBounds_toArray, List.set_cons_zero, List.set_cons_succ]
          refine wpAnyH_take (i := 21) (oi := ({ dst := some 89, op := Go.Op.load 3 (Go.Operand.tmp 88), type := 3, pos := "law.go:154", after := #[{ on := 20, ground := Go.Ground.data }, { on := 19, ground := Go.Ground.guard }], guard := some (19, true) } : Oper)) (v := .int .i64 7) rfl (by kernel_rfl) (by kernel_rfl) (by kernel_rfl) (fun _ _ _ h => h) (Or.inl ⟨by kernel_rfl, fun w' hS' => ?_⟩) hHeld ?_
          · have hcell := D3.out w' hS'
            go_simp
          simp only [Act.put, List.setIfInBounds_toArray, List.set_cons_zero, List.set_cons_succ]
          refine wpAnyH_take (i := 22) (oi := ({ dst := some 90, op := Go.Op.binOp Go.BinOp.eql 3 (Go.Operand.tmp 89) (Go.Operand.const (Go.Value.int Go.IntKind.i64 7)) 3, type := 4, pos := "law.go:154", after := #[{ on := 21, ground := Go.Ground.data }, { on := 19, ground := Go.Ground.guard }], guard := some (19, true) } : Oper)) (v := .bool true) rfl (by kernel_rfl) (by kernel_rfl) (by kernel_rfl) (fun _ _ _ h => h) (Or.inl ⟨by kernel_rfl, fun w' _ => ?_⟩) hHeld ?_
          · go_simp
          simp only [Act.put, List.setIfInBounds_toArray, List.set_cons_zero, List.set_cons_succ]
          refine wpAnyH_take (i := 23) (oi := ({ dst := some 91, op := Go.Op.pick (Go.Operand.tmp 87) (Go.Operand.tmp 90) (Go.Operand.const (Go.Value.bool false)), type := 4, pos := "law.go:154", after := #[{ on := 19, ground := Go.Ground.data }, { on := 22, ground := Go.Ground.data }], guard := none } : Oper)) (v := .bool true) rfl (by kernel_rfl) (by kernel_rfl) (by kernel_rfl) (fun _ _ _ h => h) (Or.inl ⟨by rfl, fun w' _ => ?_⟩) hHeld ?_
          · go_simp
          simp only [Act.put, List.setIfInBounds_toArray, List.set_cons_zero, List.set_cons_succ]
          refine wpAnyH_take (i := 24) (oi := ({ dst := some 92, op := Go.Op.move (Go.Operand.tmp 91), type := 4, pos := "law.go:154", after := #[{ on := 23, ground := Go.Ground.data }, { on := 19, ground := Go.Ground.chain }], guard := none } : Oper)) (v := .bool true) rfl (by kernel_rfl) (by kernel_rfl) (by kernel_rfl) (fun _ _ _ h => h) (Or.inl ⟨by rfl, fun w' _ => ?_⟩) hHeld ?_
          · go_simp
          simp only [Act.put, List.setIfInBounds_toArray, List.set_cons_zero, List.set_cons_succ]
          refine wpAnyH_take (i := 25) (oi := ({ dst := some 93, op := Go.Op.fieldAddr 35 (Go.Operand.tmp 13) 1, type := 0, pos := "law.go:154", after := #[{ on := 24, ground := Go.Ground.guard }], guard := some (24, true) } : Oper)) (v := .pointer (some ⟨gg, 1, none⟩)) rfl (by kernel_rfl) (by kernel_rfl) (by kernel_rfl) (fun _ _ _ h => h) (Or.inl ⟨by kernel_rfl, fun w' _ => ?_⟩) hHeld ?_
          · go_simp
          simp only [Act.put, List.setIfInBounds_toArray, List.set_cons_zero, List.set_cons_succ]
          refine wpAnyH_take (i := 26) (oi := ({ dst := some 94, op := Go.Op.load 30 (Go.Operand.tmp 93), type := 30, pos := "law.go:154", after := #[{ on := 25, ground := Go.Ground.data }, { on := 24, ground := Go.Ground.guard }], guard := some (24, true) } : Oper)) (v := .slice (some ⟨bR, oR, none⟩) 1 c2) rfl (by kernel_rfl) (by kernel_rfl) (by kernel_rfl) (fun _ _ _ h => h) (Or.inl ⟨by kernel_rfl, fun w' hS' => ?_⟩) hHeld ?_
          · have hcell := D1.out w' hS'
            go_simp
          simp only [Act.put, List.setIfInBounds_toArray, List.set_cons_zero, List.set_cons_succ]
          refine wpAnyH_take (i := 27) (oi := ({ dst := some 95, op := Go.Op.indexAddr 30 (Go.Operand.tmp 94) (Go.Operand.const (Go.Value.int Go.IntKind.i64 0)), type := 0, pos := "law.go:154", after := #[{ on := 26, ground := Go.Ground.data }, { on := 24, ground := Go.Ground.guard }], guard := some (24, true) } : Oper)) (v := .pointer (some ⟨bR, oR, none⟩)) rfl (by kernel_rfl) (by kernel_rfl) (by kernel_rfl) (fun _ _ _ h => h) (Or.inl ⟨by kernel_rfl, fun w' _ => ?_⟩) hHeld ?_
          · go_simp
          simp only [Act.put, List.setIfInBounds_toArray, List.set_cons_zero, List.set_cons_succ]
          refine wpAnyH_take (i := 28) (oi := ({ dst := some 96, op := Go.Op.load 41 (Go.Operand.tmp 95), type := 41, pos := "law.go:154", after := #[{ on := 27, ground := Go.Ground.data }, { on := 24, ground := Go.Ground.guard }], guard := some (24, true) } : Oper)) (v := .agg (r2).toArray) rfl (by kernel_rfl) (by kernel_rfl) (by kernel_rfl) (fun _ _ _ h => h) (yieldsIf_load_mid (by kernel_rfl) _ _ rfl _ _ rfl _ _ (fun W h => RX.out W h) Try.underlying41 rfl SX.out) hHeld ?_
          simp only [Act.put, List.setIfInBounds_toArray, List.set_cons_zero, List.set_cons_succ]
          refine wpAnyH_take (i := 29) (oi := ({ dst := some 97, op := Go.Op.load 41 (Go.Operand.tmp 11), type := 41, pos := "law.go:154", after := #[{ on := 24, ground := Go.Ground.guard }], guard := some (24, true) } : Oper)) (v := .agg (r2).toArray) rfl (by kernel_rfl) (by kernel_rfl) (by kernel_rfl) (fun _ _ _ h => h) (yieldsIf_load_mid (by kernel_rfl) _ _ rfl _ _ rfl _ _ (fun W h => RY.out W h) Try.underlying41 rfl SX.out) hHeld ?_
          simp only [Act.put, List.setIfInBounds_toArray, List.set_cons_zero, List.set_cons_succ]
          refine wpAnyH_take (i := 30) (oi := ({ dst := some 98, op := Go.Op.binOp Go.BinOp.eql 41 (Go.Operand.tmp 96) (Go.Operand.tmp 97) 41, type := 4, pos := "law.go:154", after := #[{ on := 28, ground := Go.Ground.data }, { on := 29, ground := Go.Ground.data }, { on := 24, ground := Go.Ground.guard }], guard := some (24, true) } : Oper)) (v := .bool true) rfl (by kernel_rfl) (by kernel_rfl) (by kernel_rfl) (fun _ _ _ h => h) (yieldsIf_eql (by kernel_rfl) 41 (.tmp 96) (.tmp 97) _ rfl r2.toArray r2.toArray true rfl rfl eqGuardRec (fun W _ => HEQ.out W)) hHeld ?_
          simp only [Act.put, List.setIfInBounds_toArray, List.set_cons_zero, List.set_cons_succ]
          refine wpAnyH_take (i := 31) (oi := ({ dst := some 99, op := Go.Op.pick (Go.Operand.tmp 92) (Go.Operand.tmp 98) (Go.Operand.const (Go.Value.bool false)), type := 4, pos := "law.go:154", after := #[{ on := 24, ground := Go.Ground.data }, { on := 30, ground := Go.Ground.data }], guard := none } : Oper)) (v := .bool true) rfl (by kernel_rfl) (by kernel_rfl) (by kernel_rfl) (fun _ _ _ h => h) (Or.inl ⟨by rfl, fun w' _ => ?_⟩) hHeld ?_
          · go_simp
          simp only [Act.put, List.setIfInBounds_toArray, List.set_cons_zero, List.set_cons_succ]
          refine wpAnyH_take (i := 32) (oi := ({ dst := some 6, op := Go.Op.assign (Go.Operand.tmp 99), type := 4, pos := "law.go:154", after := #[{ on := 31, ground := Go.Ground.data }, { on := 24, ground := Go.Ground.chain }, { on := 0, ground := Go.Ground.phase }, { on := 1, ground := Go.Ground.phase }, { on := 2, ground := Go.Ground.phase }, { on := 3, ground := Go.Ground.phase }, { on := 4, ground := Go.Ground.phase }, { on := 5, ground := Go.Ground.phase }, { on := 6, ground := Go.Ground.phase }, { on := 7, ground := Go.Ground.phase }, { on := 8, ground := Go.Ground.phase }, { on := 9, ground := Go.Ground.phase }, { on := 10, ground := Go.Ground.phase }, { on := 11, ground := Go.Ground.phase }, { on := 12, ground := Go.Ground.phase }, { on := 13, ground := Go.Ground.phase }, { on := 14, ground := Go.Ground.phase }, { on := 15, ground := Go.Ground.phase }, { on := 16, ground := Go.Ground.phase }, { on := 17, ground := Go.Ground.phase }, { on := 18, ground := Go.Ground.phase }, { on := 19, ground := Go.Ground.phase }, { on := 20, ground := Go.Ground.phase }, { on := 21, ground := Go.Ground.phase }, { on := 22, ground := Go.Ground.phase }, { on := 23, ground := Go.Ground.phase }, { on := 24, ground := Go.Ground.phase }, { on := 25, ground := Go.Ground.phase }, { on := 26, ground := Go.Ground.phase }, { on := 27, ground := Go.Ground.phase }, { on := 28, ground := Go.Ground.phase }, { on := 29, ground := Go.Ground.phase }, { on := 30, ground := Go.Ground.phase }, { on := 31, ground := Go.Ground.phase }], guard := none } : Oper)) (v := .bool true) rfl (by kernel_rfl) (by kernel_rfl) (by kernel_rfl) (fun _ _ _ h => h) (Or.inl ⟨by rfl, fun w' _ => ?_⟩) hHeld ?_
          · go_simp
          simp only [Act.put, List.setIfInBounds_toArray, List.set_cons_zero, List.set_cons_succ]
          refine wpAnyH_done (by kernel_rfl) ?_ _
          have HBe := Lib.hid (HB5.out.trans (hHeld.mono HB5.out.size))
          clear hHeld DF D0 D1 D3 RX RY
          try (go_wp2_with fail)
          go_ret
          exact ⟨rfl, HBe.out⟩
        · obtain ⟨h1, h2⟩ := HFF.out.2.2 rfl
          have e1 := hgf W5 (Below.refl _ _)
          rw [h1] at e1
          have e2 := (cell_of_row W5 gg 0 _ _ _ HFn.out.s).trans (rfl : _ = some (Value.int .i64 F2.out))
          rw [h2] at e2
          have e2 : W5.cell? ⟨gg, 0, none⟩ = some (.int .i64 4) := e2
          clear hgf good h1 h2 HFF HFn HRr
          go_wp2_with fail
          go_ret
          exact ⟨rfl, HB5.out⟩
  · have h20d : decide ((20 : Int) < (l.length : Int)) = true := by simp; omega
    have h20n : ¬ (l.length : Int) ≤ 20 := by omega
    go_enter Try.func6, Try.ntmps6
    go_wp2_with fail
    refine (HFit.out _).mono ?_
    rintro e w1 ⟨rfl, hbw1⟩
    have HB1 : Hid (Below w.heap.size w w1) := Lib.hid (((Below.refl _ w).alloc (Nat.le_refl _) _).trans (hbw1.mono (by rw [World.size_alloc]; omega)))
    clear hbw1
    go_wp2_with fail
    go_ret
    exact ⟨rfl, HB1.out⟩
end Go.Proofs.Ytgbijhinihchgaa

