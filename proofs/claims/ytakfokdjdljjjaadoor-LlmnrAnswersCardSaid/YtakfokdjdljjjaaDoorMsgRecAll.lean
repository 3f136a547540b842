/-
  The walk of a reader's method record. Condition: the library's variable MaxLen holds some number.
-/
import Derived.Test.YtakfokdjdljjjaaDoorMsgRF
import Derived.Deep.RegionHeld3
import Derived.Deep.MidRow
import Derived.Deep.RegionLaw
namespace Go.Proofs.YtakfokdjdljjjaaDoor
open Go.RowKit

theorem numv_lt4 {b : List UInt8} {o : Option Nat} {r : Option (Nat × Nat)} (h : o.bind (fun p => numF b p 4) = r) : (r.map (·.1)).getD 0 < 4294967296 := by
  cases r with
  | none => simp
  | some x =>
    cases o with
    | none => simp at h
    | some p => simp only [Option.bind_some] at h; exact (num_le h).1
theorem RIs.setOk {base g c at_ : Nat} {w : World} {A : Option Addr} {b : List UInt8} (h : RIs base w g A c b at_ false) : RIs base (w.setCell ⟨g, 2, none⟩ (.bool false)) g A c b at_ false :=
  ⟨by rw [heap_setCell_same w g 2 _ _ _ h.blk]; rfl, h.inb.below ((Below.refl base w).setCell h.hg _), h.hg, h.cap, h.len, h.low, h.ok, h.nil⟩
theorem builtRec2 (nm : ByteArray) (ty : Int) : Tryd.prog.built 45 [(0, .string nm), (1, .int .i64 ty)] = some (RV.cells ⟨nm, ty, 0, zero16, emp, emp⟩) := by kernel_rfl
theorem row_at {W : World} {g : Nat} {mc : Array Value} {t : TypeId} (h : W.heap[g]? = some (.cells mc t (0, 0))) : ∀ j v, mc.toList[j]? = some v → W.cell? ((⟨g, 0, none⟩ : Addr).add j) = some v := fun j v hj => by
  rw [Addr.add_lit, Nat.zero_add, cell_of_row W g j _ _ _ h, ← Array.getElem?_toList]; exact hj
theorem step_store_blk {P : Program} {ops : Array Oper} {o : Oper} {a : Act} {Q : Exit → Act → World → Prop} {w : World} {K : Act → World → Prop} {E : Prop} (hgd : o.guard = none) (ty : TypeId) (x y : Operand) (ho : o.op = .store ty x y) (g : Nat) (z cells : Array Value) (t : TypeId) (hg : w.heap[g]? = some (.cells z t (0, 0)))
    (hx : a.eval x = .pointer (some ⟨g, 0, none⟩)) (hy : a.eval y = .agg cells) (hi : (P.info? ty).map (·.size) = some cells.size) (hz : z.size = cells.size) (h1 : cells.all (·.oneCell') = true)
    (h : ∀ w', Hid (w'.heap[g]? = some (.cells cells t (0, 0))) → Hid (w.grownBy w' (some g)) → w'.heap.size = w.heap.size → K (a.put o.dst undef) w') : if Region.wanted o (yielded ops a.tmps) = true then Oper.wp P o a w K Q else E := by
  have hw : Region.wanted o (yielded ops a.tmps) = true := by simp [Region.wanted, hgd]
  rw [if_pos hw]
  exact wp_store_row ty x y ho g cells hx hy t z hg hi hz h1 (h _ (setRow_heap w g z cells t _ hg) ⟨rfl, rfl, rfl, by simp, fun k _ hk => setRow_other w g k cells (fun e => hk (by rw [e]))⟩ (by simp))
set_option maxRecDepth 100000 in
set_option maxHeartbeats 64000000 in
theorem recordP (base g c : Nat) (A : Option Addr) (b : List UInt8) (o : Option Nat) (w : World) (he : Env w) (hB : 0 < base) (h : RSt base w g A c b o) :
    Calls Tryd.prog 31 #[.pointer (some ⟨g, 0, none⟩)] w fun e w' => RecP base w g A c b (o.bind (recF b)) e w' := by
  obtain ⟨p0, hp0⟩ := h.blk
  have hglt := hp0.lt
  have hbg := hp0.hg
  have ZR := Lib.hid zeroRec
  have ZZ : Hid (∀ nm ty, (RV.cells ⟨emp, 0, 0, zero16, emp, emp⟩).size = (RV.cells ⟨nm, ty, 0, zero16, emp, emp⟩).size) := Lib.hid (fun _ _ => rfl)
  have CQ := fun (zs : Array Value) => questionP base g c A b o (w.alloc (.cells zs 45)) (he.below ((Below.refl _ w).alloc (Nat.le_refl _) _)) hB (h.grown ((Below.refl _ w).alloc (Nat.le_refl _) _))
  revert ZR ZZ
  generalize RV.cells ⟨emp, 0, 0, zero16, emp, emp⟩ = zs
  intro ZR ZZ
  have C := CQ zs
  clear hp0 h CQ
  go_enter Tryd.func31, Tryd.ntmps31
  go_wp2_with (first
    | (refine wpList_alloc_z rfl 45 rfl zs ZR.out ?_; go_simp))
  refine C.mono ?_
  rintro e w1 ⟨s, t, rfl, ht, hst, hr1, hg1⟩
  have h0 := (hg1.block w.heap.size (by simp) (fun e => by injection e with e; omega)).trans (heap_alloc_last w _)
  have hl1 := heap_lt h0
  have BU := Lib.hid (builtRec2 s t)
  have Z1 := Lib.hid (sizeRv (r := ⟨s, t, 0, zero16, emp, emp⟩) rfl)
  have O1 := Lib.hid (RV.one ⟨s, t, 0, zero16, emp, emp⟩)
  have ZZ1 := Lib.hid (ZZ.out s t)
  have C2 := Lib.hid fun (T : Nat) => RV.c2 ⟨s, T, 0, zero16, emp, emp⟩
  obtain ⟨q, hq⟩ : ∃ q, o.bind (qF b) = q := ⟨_, rfl⟩
  rw [hq] at hst hr1
  have C3 := fun (cs : Array Value) => numberP base g c 4 A b _ _ (hr1.grown (((Below.refl _ w1).alloc (Nat.le_refl _) (.cells #[.string s, .int .i64 t] 28)).alloc (by rw [World.size_alloc]; omega) (.cells cs 45))) (by omega)
  have HQ := Lib.hid hq
  have HST := Lib.hid hst
  have HR1 := Lib.hid hr1
  have HG1 := Lib.hid hg1
  have H0 := Lib.hid h0
  have HE := Lib.hid he
  clear C hq hst hr1 hg1 h0 ZZ he
  obtain ⟨ms, hms⟩ : ∃ ms, RV.cells ⟨s, t, 0, zero16, emp, emp⟩ = ms := ⟨_, rfl⟩
  rw [hms] at BU Z1 O1 ZZ1
  have HMS := Lib.hid hms
  have hms0 := hms
  have C4 := C3 ms
  clear hms C3
  have ZS := Lib.hid (ZZ1.out.trans (congrArg Array.size hms0.symm))
  clear hms0
  go_wp2_with (first
    | (refine wpList_build_v rfl 45 #[(0, .tmp 10), (1, .tmp 12)] rfl [(0, .string s), (1, .int .i64 t)] ms BU.out rfl ?_; go_simp)
    | (refine wpList_alloc_z rfl 45 rfl zs ZR.out ?_; go_simp)
    | (refine wpList_store_new rfl 45 (.tmp 4) (.tmp 13) rfl (w1.heap.size + 1) (World.size_alloc ..) zs ms 45 rfl rfl Z1.out ZZ1.out O1.out ?_; go_simp))
  refine C4.mono ?_
  rintro e w2 ⟨rfl, hr2, hg2⟩
  obtain ⟨y, hy⟩ : ∃ y, (q.map (·.2)).bind (fun p => numF b p 4) = y := ⟨_, rfl⟩
  rw [hy] at hr2 ⊢
  have hT4 := numv_lt4 hy
  obtain ⟨T, hT⟩ : ∃ T, (y.map (·.1)).getD 0 = T := ⟨_, rfl⟩
  rw [hT] at hT4 ⊢
  have HY := Lib.hid hy
  have HT := Lib.hid hT
  have hglt1 : g < w1.heap.size := by omega
  have hm2 := (hg2.block (w1.heap.size + 1) (by simp) (fun e => by injection e with e; omega)).trans (heap_alloc2_new w1 _ _)
  have hz2 := (hg2.block w.heap.size (by simp; omega) (fun e => by injection e with e; omega)).trans ((Below.heap_alloc _ _ _ (by simp; omega)).trans ((Below.heap_alloc w1 _ _ hl1).trans H0.out))
  have hl2 := heap_lt hm2
  have d2 := (cell_of_row w2 (w1.heap.size + 1) 2 _ _ _ hm2).trans ((congrArg (fun z => z[2]?) HMS.out.symm).trans (RV.c2 ⟨s, t, 0, zero16, emp, emp⟩))
  have f2 := frozen_of_row w2 (w1.heap.size + 1) 2 _ _ hm2
  have HM2 := Lib.hid hm2
  have HZ2 := Lib.hid hz2
  have HR2 := Lib.hid hr2
  have HG2 := Lib.hid (grown_trans (grown_below (g := g) (((Below.refl _ w1).alloc (Nat.le_refl _) (.cells #[.string s, .int .i64 t] 28)).alloc (by rw [World.size_alloc]; omega) (.cells ms 45))) hg2)
  clear C4 hy hT hm2 hz2 hr2 hg2
  go_wp2_with fail
  obtain ⟨L, hLi, hLn⟩ : ∃ L : Nat, min (T : Int) 1048576 = (L : Int) ∧ min T 1048576 = L := ⟨min T 1048576, by omega, rfl⟩
  rw [hLi]
  have HL := Lib.hid hLn
  have hm3 : (w2.setCell ⟨w1.heap.size + 1, 2, none⟩ (.int .i64 (L : Int))).heap[w1.heap.size + 1]? = some (.cells (RV.cells ⟨s, t, L, zero16, emp, emp⟩) 45 (0, 0)) := (heap_setCell_same w2 (w1.heap.size + 1) 2 ms _ _ HM2.out).trans (by rw [← HMS.out, RV.set2])
  have hz3 := (Below.heap_setCell w2 ⟨w1.heap.size + 1, 2, none⟩ (.int .i64 (L : Int)) w.heap.size (by simp; omega)).trans HZ2.out
  have hr3 : RSt base (w2.setCell ⟨w1.heap.size + 1, 2, none⟩ (.int .i64 (L : Int))) g A c b (y.map (·.2)) := HR2.out.kept ((Below.refl base w2).setCell (p := ⟨w1.heap.size + 1, 2, none⟩) (by show base ≤ w1.heap.size + 1; omega) _) (Below.heap_setCell w2 ⟨w1.heap.size + 1, 2, none⟩ (.int .i64 (L : Int)) g (by simp; omega))
  have HG3 := Lib.hid (grown_new HG2.out (grown_set w2 (w1.heap.size + 1) 2 (.int .i64 (L : Int))) (by omega))
  have C5 := numberP base g c 2 A b _ _ hr3 (by omega)
  have HM3 := Lib.hid hm3
  have HZ3 := Lib.hid hz3
  clear hLi hLn hm3 hz3 hr3 HM2 HZ2 HR2 HG2 d2 f2 BU Z1 O1 HMS C2
  obtain ⟨w3, hw3⟩ : ∃ w3, w2.setCell ⟨w1.heap.size + 1, 2, none⟩ (.int .i64 (L : Int)) = w3 := ⟨_, rfl⟩
  have hs3 : w3.heap.size = w2.heap.size := by rw [← hw3]; simp
  rw [hw3] at C5 HM3 HZ3 HG3 ⊢
  clear hw3
  refine C5.mono ?_
  rintro e w4 ⟨rfl, hr4, hg4⟩
  obtain ⟨z, hz⟩ : ∃ z, (y.map (·.2)).bind (fun p => numF b p 2) = z := ⟨_, rfl⟩
  rw [hz] at hr4 ⊢
  have hU := numv_lt hz
  obtain ⟨U, hUe⟩ : ∃ U, (z.map (·.1)).getD 0 = U := ⟨_, rfl⟩
  rw [hUe] at hU ⊢
  have HZ := Lib.hid hz
  have HU := Lib.hid hUe
  have hm4 := (hg4.block (w1.heap.size + 1) (by omega) (fun e => by injection e with e; omega)).trans HM3.out
  have hz4 := (hg4.block w.heap.size (by omega) (fun e => by injection e with e; omega)).trans HZ3.out
  have hl4 := heap_lt hm4
  have d1 := (cell_of_row w4 (w1.heap.size + 1) 1 _ _ _ hm4).trans (RV.c1 _)
  have HM4 := Lib.hid hm4
  have HZ4 := Lib.hid hz4
  have HR4 := Lib.hid hr4
  have HG4 := Lib.hid (grown_trans HG3.out hg4)
  clear C5 hz hUe hm4 hz4 hr4 hg4 HM3 HZ3 HG3
  have hgw := grown_trans (grown_trans (grown_below (g := g) ((Below.refl _ w).alloc (Nat.le_refl _) (.cells zs 45))) HG1.out) HG4.out
  have hbw4 : Below base w w4 := (Below.refl base w).grown hgw (by omega) (fun k e => by injection e with e; omega)
  have HGW := Lib.hid hgw
  have CN := nameP base g c A b _ w4 (HE.out.base hbw4 hB) hB HR4.out
  clear hgw hbw4
  obtain ⟨gm, hgmE⟩ : ∃ gm, gm = w1.heap.size + 1 := ⟨_, rfl⟩
  obtain ⟨gz, hgzE⟩ : ∃ gz, gz = w.heap.size := ⟨_, rfl⟩
  rw [← hgmE] at HM4 hl4 d1 ⊢
  rw [← hgzE] at HZ4 ⊢
  have hgzgm : gz < gm := by omega
  have hgzg : g < gz := by omega
  have hbgz : base ≤ gz := by omega
  clear hgmE hl1 hl2 hs3 hglt1
  have hwgm : w.heap.size ≤ gm := by omega
  have hwgz : w.heap.size ≤ gz := by omega
  clear hgzE
  by_cases hty : t = 2 ∨ t = 5 ∨ t = 12
  · obtain ⟨N, hN⟩ : ∃ N, (z.map (·.2)).bind (nameF b) = N := ⟨_, rfl⟩
    rw [hN] at CN
    have HN := Lib.hid hN
    clear hN
    obtain ⟨p4, hp4⟩ := HR4.out.blk
    have e1 := cell_of_row w4 g 1 _ _ _ hp4.blk
    simp only [List.getElem?_toArray, List.getElem?_cons_succ, List.getElem?_cons_zero] at e1
    have hlow := hp4.low
    have HP4 : Hid (∀ v, z.map (·.2) = some v → v = p4) := Lib.hid (fun v hv => by
      have h := HR4.out
      rw [hv] at h
      have h2 := (show RIs base w4 g A c b v false from h).blk.symm.trans hp4.blk
      injection h2 with h2
      injection h2 with h2
      injection h2 with h2
      simp at h2
      omega)
    have wr1 : IntKind.i64.wrap ((p4 : Int) + (U : Int)) = (p4 : Int) + (U : Int) := IntWalk.i64_in _ (by omega)
    clear hp4
    have H5 : Hid (∀ w5, w4.grownBy w5 (some g) → w5.heap[gm]? = some (.cells (RV.cells ⟨s, t, L, zero16, emp, emp⟩) 45 (0, 0))) := Lib.hid (fun w5 hg5 => (hg5.block gm hl4 (fun e => by injection e with e; omega)).trans HM4.out)
    have H6 : Hid (∀ w5 (s5 : ByteArray), RSt base w5 g A c b (N.map (·.2)) → w4.grownBy w5 (some g) →
        (w5.setCell ⟨gm, 19, none⟩ (.string s5)).heap[gm]? = some (.cells (RV.cells ⟨s, t, L, zero16, s5, emp⟩) 45 (0, 0)) ∧ (w5.setCell ⟨gm, 19, none⟩ (.string s5)).heap[gz]? = some (.cells zs 45 (0, 0)) ∧
        RSt base (w5.setCell ⟨gm, 19, none⟩ (.string s5)) g A c b (N.map (·.2)) ∧ w.grownBy (w5.setCell ⟨gm, 19, none⟩ (.string s5)) (some g)) := Lib.hid (fun w5 s5 hr5 hg5 =>
      ⟨(heap_setCell_same w5 gm 19 _ _ _ (H5.out w5 hg5)).trans (by rw [RV.set19 rfl]),
        (Below.heap_setCell w5 ⟨gm, 19, none⟩ (.string s5) gz (by show gz ≠ gm; omega)).trans ((hg5.block gz (by omega) (fun e => by injection e with e; omega)).trans HZ4.out),
        hr5.kept ((Below.refl base w5).setCell (p := ⟨gm, 19, none⟩) (by show base ≤ gm; omega) (.string s5)) (Below.heap_setCell w5 ⟨gm, 19, none⟩ (.string s5) g (by show g ≠ gm; omega)),
        grown_new (grown_trans HGW.out hg5) (grown_set w5 gm 19 (.string s5)) hwgm⟩)
    have ZZ5 : Hid (∀ s5 : ByteArray, zs.size = (RV.cells ⟨s, t, L, zero16, s5, emp⟩).size) := Lib.hid (fun s5 => by rw [ZS.out, RV.size rfl, RV.size rfl])
    have Z5 : Hid (∀ s5 : ByteArray, (Tryd.prog.info? 45).map (·.size) = some (RV.cells ⟨s, t, L, zero16, s5, emp⟩).size) := Lib.hid (fun s5 => sizeRv rfl)
    have O5 : Hid (∀ s5 : ByteArray, (RV.cells ⟨s, t, L, zero16, s5, emp⟩).all (·.oneCell') = true) := Lib.hid (fun s5 => RV.one _)
    have hR : Hid (∀ s5 e w', e = .returned (.agg (RV.cells ⟨s, t, L, zero16, s5, emp⟩)) → (∀ x, N = some x → s5 = bs x.1) → (∀ v, N = some v → v.2 = p4 + U → RSt base w' g A c b (some v.2)) → (∀ v, N = some v → v.2 ≠ p4 + U → RSt base w' g A c b none) → (N = none → RSt base w' g A c b none) → w.grownBy w' (some g) → RecP base w g A c b (o.bind (recF b)) e w') := Lib.hid (by
      intro s5 e w' he hs5 hyes hno hnone hg
      cases hz : z with
      | none =>
        subst hz
        have hN : N = none := by rw [← HN.out]; rfl
        rw [recF_none HQ.out HY.out HZ.out rfl]
        exact ⟨⟨s, t, L, zero16, s5, emp⟩, he, rfl, (fun x hx => by cases hx), hnone hN, hg⟩
      | some v =>
        subst hz
        obtain ⟨x, y', hx, hy', hrec⟩ := recF_some HQ.out HY.out HZ.out rfl
        obtain ⟨hs1, ht1⟩ := HST.out x hx
        have hT1 := HT.out
        rw [hy'] at hT1
        have hU1 := HU.out
        have hT1 : y'.1 = T := hT1
        have hU1 : v.1 = U := hU1
        have hp := HP4.out v.2 rfl
        rw [hrec, if_pos (by rw [← ht1]; exact hty)]
        have hN : N = nameF b v.2 := by rw [← HN.out]; rfl
        rw [← hN]
        cases N with
        | none => exact ⟨⟨s, t, L, zero16, s5, emp⟩, he, rfl, (fun x hx => by cases hx), hnone rfl, hg⟩
        | some n =>
          simp only [Option.bind_some]
          by_cases h : n.2 = v.2 + v.1
          · rw [if_pos h]
            refine ⟨⟨s, t, L, zero16, s5, emp⟩, he, rfl, fun x' hx' => ?_, hyes n rfl (by omega), hg⟩
            injection hx' with hx'
            subst hx'
            have hL := HL.out
            unfold RV.ofRec
            simp only
            rw [hs5 n rfl, hs1, ht1, hT1, hL]
            rfl
          · rw [if_neg h]
            exact ⟨⟨s, t, L, zero16, s5, emp⟩, he, rfl, (fun x hx => by cases hx), hno n rfl (by omega), hg⟩)
    clear HM4 HZ4 HGW HG4 HG1 HR1 H0 HR4 HST HQ HY HT HU HZ HE ZZ1 ZS HP4 HN
    rcases hty with rfl | rfl | rfl
    all_goals
      go_wp2_with fail
      refine CN.mono ?_
      rintro e w5 ⟨s5, rfl, hs5, hr5, hg5⟩
      have hm5 := H5.out w5 hg5
      have d19 := (cell_of_row w5 gm 19 _ _ _ hm5).trans (RV.c19 rfl)
      have f19 := frozen_of_row w5 gm 19 _ _ hm5
      have hl5 := heap_lt hm5
      obtain ⟨hm6, hz6, hr6, hg6⟩ := H6.out w5 s5 hr5 hg5
      have Z6 := Lib.hid (Z5.out s5)
      have O6 := Lib.hid (O5.out s5)
      have ZZ6 := Lib.hid (ZZ5.out s5)
      have HR' := Lib.hid (hR.out s5)
      have HS5 := Lib.hid hs5
      revert hm6 Z6 O6 ZZ6 HR'
      generalize RV.cells ⟨s, _, L, zero16, s5, emp⟩ = rc
      intro hm6 Z6 O6 ZZ6 HR'
      have HM6 := Lib.hid hm6
      have HZ6 := Lib.hid hz6
      have HG6 := Lib.hid hg6
      have HR6 := Lib.hid hr6
      have kw : ∃ p6, RIs base (w5.setCell ⟨gm, 19, none⟩ (.string s5)) g A c b p6 (N.map (·.2)).isNone := hr6.blk
      clear CN hm5 hm6 hz6 hg6 hs5 hr5 hg5 hr6 H5 H6 Z5 O5 ZZ5 hR
      cases N with
      | none =>
        obtain ⟨p6, hp6⟩ := kw
        have k1 := cell_of_row _ g 1 _ _ _ hp6.blk
        have k2 := cell_of_row _ g 2 _ _ _ hp6.blk
        have kf := frozen_of_row _ g 2 _ _ hp6.blk
        simp only [List.getElem?_toArray, List.getElem?_cons_succ, List.getElem?_cons_zero] at k1 k2
        replace k2 := (show _ = some (Value.bool true) from k2)
        clear hp6
        go_wp2_with (first
          | (refine wpList_load_row rfl 45 (.tmp 4) rfl gm rfl 45 rc (0, 0) _ ((Below.heap_setCell _ ⟨g, 2, none⟩ _ gm (by show gm ≠ g; omega)).trans HM6.out) Tryd.underlying45 rfl Z6.out ?_; go_simp)
          | (refine wpList_store_blk rfl 45 (.tmp 2) (.tmp 52) rfl gz zs rc 45 ((Below.heap_setCell _ ⟨g, 2, none⟩ _ gz (by show gz ≠ g; omega)).trans HZ6.out) rfl rfl Z6.out ZZ6.out O6.out ?_; intro w7 hg7 hw7 hs7; go_simp))
        refine bodyPost_ret (results_cell_row rfl _ w7 gz 45 rc (0, 0) _ rfl hg7.out Tryd.underlying45 rfl Z6.out) rfl ?_
        refine HR'.out _ w7 rfl HS5.out (fun v hv => by cases hv) (fun v hv => by cases hv) (fun _ => ?_) (grown_new (grown_trans HG6.out (grown_set _ g 2 _)) hw7.out hwgz)
        exact (HR6.out.wrong).kept ((Below.refl base _).grown hw7.out (by simp; omega) (fun k e => by injection e with e; omega)) (hw7.out.block g (by simp; omega) (fun e => by injection e with e; omega))
      | some v =>
        clear kw
        obtain ⟨vn, vp⟩ := v
        have hp6 : RIs base (w5.setCell ⟨gm, 19, none⟩ (.string s5)) g A c b vp false := HR6.out
        have k1 := cell_of_row _ g 1 _ _ _ hp6.blk
        have k2 := cell_of_row _ g 2 _ _ _ hp6.blk
        have kf := frozen_of_row _ g 2 _ _ hp6.blk
        simp only [List.getElem?_toArray, List.getElem?_cons_succ, List.getElem?_cons_zero] at k1 k2
        have HP6 := Lib.hid hp6
        clear hp6
        by_cases hv : vp = p4 + U
        · subst hv
          rw [Int.natCast_add] at k1
          go_wp2_with (first
            | (refine wpList_load_row rfl 45 (.tmp 4) rfl gm rfl 45 rc (0, 0) _ ((Below.heap_setCell _ ⟨g, 2, none⟩ _ gm (by show gm ≠ g; omega)).trans HM6.out) Tryd.underlying45 rfl Z6.out ?_; go_simp)
            | (refine wpList_store_blk rfl 45 (.tmp 2) (.tmp 52) rfl gz zs rc 45 ((Below.heap_setCell _ ⟨g, 2, none⟩ _ gz (by show gz ≠ g; omega)).trans HZ6.out) rfl rfl Z6.out ZZ6.out O6.out ?_; intro w7 hg7 hw7 hs7; go_simp))
          refine bodyPost_ret (results_cell_row rfl _ w7 gz 45 rc (0, 0) _ rfl hg7.out Tryd.underlying45 rfl Z6.out) rfl ?_
          refine HR'.out _ w7 rfl HS5.out (fun v hv _ => ?_) (fun v hv hn => by injection hv with hv; subst hv; exact absurd rfl hn) (fun h => by cases h) (grown_new (grown_trans HG6.out (grown_set _ g 2 _)) hw7.out hwgz)
          injection hv with hv
          subst hv
          exact RSt.kept (o := some (p4 + U)) (HP6.out.setOk) ((Below.refl base _).grown hw7.out (by simp; omega) (fun k e => by injection e with e; omega)) (hw7.out.block g (by simp; omega) (fun e => by injection e with e; omega))
        · have hv2 := Lib.hid hv
          have hvI : ¬ (vp : Int) = (p4 : Int) + (U : Int) := by omega
          have hbe : ((vp : Int) != (p4 : Int) + (U : Int)) = true := by simpa using hvI
          go_wp2_with (first
            | (refine wpList_load_row rfl 45 (.tmp 4) rfl gm rfl 45 rc (0, 0) _ ((Below.heap_setCell _ ⟨g, 2, none⟩ _ gm (by show gm ≠ g; omega)).trans HM6.out) Tryd.underlying45 rfl Z6.out ?_; go_simp)
            | (refine wpList_store_blk rfl 45 (.tmp 2) (.tmp 52) rfl gz zs rc 45 ((Below.heap_setCell _ ⟨g, 2, none⟩ _ gz (by show gz ≠ g; omega)).trans HZ6.out) rfl rfl Z6.out ZZ6.out O6.out ?_; intro w7 hg7 hw7 hs7; go_simp))
          refine bodyPost_ret (results_cell_row rfl _ w7 gz 45 rc (0, 0) _ rfl hg7.out Tryd.underlying45 rfl Z6.out) rfl ?_
          have hw8 : ((w5.setCell ⟨gm, 19, none⟩ (.string s5)).setCell ⟨g, 2, none⟩ (.bool true)).grownBy w7 (some gz) := by
            have h := hw7.out
            first
              | exact h
              | (rw [hbe] at h; exact h)
          refine HR'.out _ w7 rfl HS5.out (fun v hv he => by injection hv with hv; subst hv; exact absurd he hv2.out) (fun v hv hn => ?_) (fun h => by cases h) (grown_new (grown_trans HG6.out (grown_set _ g 2 _)) hw7.out hwgz)
          exact (HR6.out.wrong).kept ((Below.refl base _).grown hw8 (by simp; omega) (fun k e => by injection e with e; omega)) (hw8.block g (by simp; omega) (fun e => by injection e with e; omega))
  · have HFin : Hid (∀ d : List UInt8, (∀ p, z.map (·.2) = some p → p + U ≤ b.length → d = cutB b p U) → ∀ e w', e = .returned (.agg (withR s t L d).cells) → RSt base w' g A c b ((z.map (·.2)).bind fun p => if p + U ≤ b.length then some (p + U) else none) → w.grownBy w' (some g) → RecP base w g A c b (o.bind (recF b)) e w') := Lib.hid (by
      intro d hd e w' he hr hg
      refine ⟨withR s t L d, he, withR_ad _ _ _ _, ?_, ?_, hg⟩
      · intro x hx
        cases hz : z with
        | none => subst hz; rw [recF_none HQ.out HY.out HZ.out rfl] at hx; cases hx
        | some v =>
          subst hz
          obtain ⟨x1, y', hx1, hy', hrec⟩ := recF_some HQ.out HY.out HZ.out rfl
          obtain ⟨hs1, ht1⟩ := HST.out x1 hx1
          have hT1 : y'.1 = T := by have := HT.out; rw [hy'] at this; exact this
          have hU1 : v.1 = U := HU.out
          rw [hrec, if_neg (by rw [← ht1]; exact hty)] at hx
          split at hx
          · rename_i hle
            injection hx with hx
            subst hx
            rw [hd v.2 rfl (by omega), hs1, ht1, ← HL.out, ← hT1, ← hU1]
            exact withR_ofRec _ _ _ _
          · cases hx
      · cases hz : z with
        | none => subst hz; rw [recF_none HQ.out HY.out HZ.out rfl]; exact hr
        | some v =>
          subst hz
          obtain ⟨x1, y', hx1, hy', hrec⟩ := recF_some HQ.out HY.out HZ.out rfl
          obtain ⟨hs1, ht1⟩ := HST.out x1 hx1
          have hU1 : v.1 = U := HU.out
          rw [hrec, if_neg (by rw [← ht1]; exact hty), hU1]
          have hr2 : RSt base w' g A c b (if v.2 + U ≤ b.length then some (v.2 + U) else none) := hr
          by_cases hle : v.2 + U ≤ b.length
          · rw [if_pos hle] at hr2 ⊢; exact hr2
          · rw [if_neg hle] at hr2 ⊢; exact hr2)
    have HWD : Hid (∀ (W : World) (A' : Option Addr) (d : List UInt8) (c' : Nat), InB W base A' d → base ≤ W.heap.size → Calls Tryd.prog 38 #[.agg (RV.cells ⟨s, t, L, zero16, emp, emp⟩), .slice A' d.length c'] W fun e w' => e = .returned (.agg (withR s t L d).cells) ∧ Below W.heap.size W w') := Lib.hid (fun W A' d c' hin hb => withData_any s t L base d.length c' A' d W rfl hin hb)
    have CT := takeP base g c U A b (z.map (·.2)) w4.drew (HR4.out.grown (Below.refl _ w4).drew) (by omega)
    have Z7 : Hid (∀ d, (Tryd.prog.info? 45).map (·.size) = some (withR s t L d).cells.size) := Lib.hid (fun d => sizeRv (withR_ad _ _ _ _))
    have O7 : Hid (∀ d, (withR s t L d).cells.all (·.oneCell') = true) := Lib.hid (fun d => RV.one _)
    have ZZ7 : Hid (∀ d, zs.size = (withR s t L d).cells.size) := Lib.hid (fun d => by rw [ZS.out, RV.size rfl, RV.size (withR_ad _ _ _ _)])
    have ZMc : Hid ((Tryd.prog.info? 45).map (·.size) = some (RV.cells ⟨s, t, L, zero16, emp, emp⟩).size) := Lib.hid (sizeRv rfl)
    have n1 : ¬ (t : Int) = 2 := by omega
    have n2 : ¬ (t : Int) = 5 := by omega
    have n3 : ¬ (t : Int) = 12 := by omega
    have hU70 : U ≤ 70000 := by omega
    simp only at d1
    revert HWD HM4 ZMc
    generalize RV.cells ⟨s, t, L, zero16, emp, emp⟩ = mc
    intro HM4 HWD ZMc
    clear HG4 HG1 HR1 H0 HR4 HST HQ HY HT HU HZ HE ZZ1 ZS CN hty
    go_wp2_with fail
    refine wp_region_held_drew (S := fun _ => True) (by kernel_rfl) trivial (fun hHeld => ?_)
    refine wpAnyH_take (i := 1) (oi := ({ dst := some 54, op := Go.Op.move (Go.Operand.tmp 0), type := 65, pos := "decode.go:132", after := #[], guard := none } : Oper)) (v := .pointer (some ⟨g, 0, none⟩)) rfl (by kernel_rfl) (by kernel_rfl) (by kernel_rfl) (fun _ _ _ h => h) (Or.inl ⟨by rfl, fun w' _ => ?_⟩) trivial ?_
    · go_simp
    try simp only [Act.put, List.setIfInBounds_toArray, List.set_cons_zero, List.set_cons_succ]
    refine wpAnyH_take (i := 2) (oi := ({ dst := some 55, op := Go.Op.move (Go.Operand.tmp 5), type := 3, pos := "decode.go:132", after := #[], guard := none } : Oper)) (v := .int .i64 (U : Nat)) rfl (by kernel_rfl) (by kernel_rfl) (by kernel_rfl) (fun _ _ _ h => h) (Or.inl ⟨by rfl, fun w' _ => ?_⟩) trivial ?_
    · go_simp
    try simp only [Act.put, List.setIfInBounds_toArray, List.set_cons_zero, List.set_cons_succ]
    refine wpAnyH_ready (rs := [0, 3]) (by kernel_rfl) (by simp) ?_
    refine AllReadyH.cons (o := ({ dst := some 53, op := Go.Op.load 45 (Go.Operand.tmp 4), type := 45, pos := "decode.go:132", after := #[], guard := none } : Oper)) rfl (fun K hK => ?_) (AllReadyH.cons (o := ({ dst := some 56, op := Go.Op.call { callee := Go.Callee.value (Go.Operand.func 29), args := #[Go.Operand.tmp 54, Go.Operand.tmp 55], argTypes := #[65, 3] }, type := 32, pos := "decode.go:132", after := #[{ on := 1, ground := Go.Ground.data }, { on := 2, ground := Go.Ground.data }], guard := none } : Oper)) rfl (fun K hK => ?_) AllReadyH.nil)
    · refine step_load_agg rfl 45 (.tmp 4) rfl ⟨gm, 0, none⟩ rfl mc _ (row_at (show w4.drew.heap[gm]? = _ from HM4.out)) Tryd.underlying45 rfl ZMc.out ?_
      refine hK.out _ _ trivial (fun _ => ?_)
      clear hK K
      try simp only [Act.put, List.setIfInBounds_toArray, List.set_cons_zero, List.set_cons_succ]
      refine wpAnyH_ready (rs := [3]) (by kernel_rfl) (by simp) ?_
      refine AllReadyH.cons (o := ({ dst := some 56, op := Go.Op.call { callee := Go.Callee.value (Go.Operand.func 29), args := #[Go.Operand.tmp 54, Go.Operand.tmp 55], argTypes := #[65, 3] }, type := 32, pos := "decode.go:132", after := #[{ on := 1, ground := Go.Ground.data }, { on := 2, ground := Go.Ground.data }], guard := none } : Oper)) rfl (fun K hK => ?_) AllReadyH.nil
      go_simp
      go_at_call 29
      refine CT.mono ?_
      rintro e' w5 ⟨A', d, c', rfl, hin, hd, hr5, hg5'⟩
      have hg5 := grown_trans HGW.out (grown_trans (grown_below (g := g) (Below.refl _ w4).drew) hg5')
      have hm5 : w5.heap[gm]? = some (.cells mc 45 (0, 0)) := (hg5'.block gm hl4 (fun e => by injection e with e; omega)).trans HM4.out
      have hz5 : w5.heap[gz]? = some (.cells zs 45 (0, 0)) := (hg5'.block gz (by show gz < w4.heap.size; omega) (fun e => by injection e with e; omega)).trans HZ4.out
      have hl5 := heap_lt hm5
      have hb5 : base ≤ w5.heap.size := by omega
      refine hK.out _ _ trivial (fun _ => ?_)
      clear hK K hg5'
      try simp only [Act.put, List.setIfInBounds_toArray, List.set_cons_zero, List.set_cons_succ]
      refine wpAnyH_ready (rs := [4]) (by kernel_rfl) (by simp) ?_
      refine AllReadyH.cons (o := ({ dst := some 57, op := Go.Op.call { callee := Go.Callee.value (Go.Operand.func 38), args := #[Go.Operand.tmp 53, Go.Operand.tmp 56], argTypes := #[45, 32] }, type := 45, pos := "decode.go:132", after := #[{ on := 0, ground := Go.Ground.data }, { on := 3, ground := Go.Ground.data }, { on := 3, ground := Go.Ground.chain }], guard := none } : Oper)) rfl (fun K hK => ?_) AllReadyH.nil
      go_simp
      go_at_call 38
      refine (HWD.out w5 A' d c' hin hb5).mono ?_
      rintro e' w6 ⟨rfl, hb6⟩
      have hz6 := (hb6.block gz (by omega)).trans hz5
      have hr6 := hr5.grown hb6
      have hg6 := grown_trans hg5 (grown_below (g := g) hb6)
      have hl6 := heap_lt hz6
      have HR6 := Lib.hid hr6
      have HG6 := Lib.hid hg6
      have HF6 := Lib.hid (HFin.out d hd)
      have HZ6 := Lib.hid hz6
      have hZ7 := Lib.hid (Z7.out d)
      have hO7 := Lib.hid (O7.out d)
      have hZZ7 := Lib.hid (ZZ7.out d)
      revert HF6 hZ7 hO7 hZZ7
      generalize hrr : (withR s t L d).cells = rr
      intro HF6 hZ7 hO7 hZZ7
      clear hrr
      refine hK.out _ _ trivial (fun _ => ?_)
      clear hK K hb6 hz6 hr6 hg6
      try simp only [Act.put, List.setIfInBounds_toArray, List.set_cons_zero, List.set_cons_succ]
      refine wpAnyH_ready (rs := [5]) (by kernel_rfl) (by simp) ?_
      refine AllReadyH.cons (o := ({ dst := none, op := Go.Op.store 45 (Go.Operand.tmp 2) (Go.Operand.tmp 57), type := 0, pos := "decode.go:132", after := #[{ on := 4, ground := Go.Ground.data }, { on := 4, ground := Go.Ground.chain }, { on := 0, ground := Go.Ground.phase }, { on := 1, ground := Go.Ground.phase }, { on := 2, ground := Go.Ground.phase }, { on := 3, ground := Go.Ground.phase }, { on := 4, ground := Go.Ground.phase }], guard := none } : Oper)) rfl (fun K hK => ?_) AllReadyH.nil
      refine step_store_blk rfl 45 (.tmp 2) (.tmp 57) rfl gz zs rr 45 HZ6.out rfl rfl hZ7.out hZZ7.out hO7.out (fun w7 hg7 hw7 hs7 => ?_)
      refine hK.out _ _ trivial (fun _ => ?_)
      clear hK K
      refine wpAnyH_done (by kernel_rfl) ?_ _
      go_wp2_with fail
      exact bodyPost_ret (results_cell_row rfl _ w7 gz 45 rr (0, 0) _ rfl hg7.out Tryd.underlying45 rfl hZ7.out) rfl (HF6.out _ w7 rfl (RSt.kept HR6.out ((Below.refl base _).grown hw7.out (by omega) (fun k e => by injection e with e; omega)) (hw7.out.block g (by omega) (fun e => by injection e with e; omega))) (grown_new HG6.out hw7.out hwgz))
    · go_simp
      go_at_call 29
      refine CT.mono ?_
      rintro e' w5 ⟨A', d, c', rfl, hin, hd, hr5, hg5'⟩
      have hg5 := grown_trans HGW.out (grown_trans (grown_below (g := g) (Below.refl _ w4).drew) hg5')
      have hm5 : w5.heap[gm]? = some (.cells mc 45 (0, 0)) := (hg5'.block gm hl4 (fun e => by injection e with e; omega)).trans HM4.out
      have hz5 : w5.heap[gz]? = some (.cells zs 45 (0, 0)) := (hg5'.block gz (by show gz < w4.heap.size; omega) (fun e => by injection e with e; omega)).trans HZ4.out
      have hl5 := heap_lt hm5
      have hb5 : base ≤ w5.heap.size := by omega
      refine hK.out _ _ trivial (fun _ => ?_)
      clear hK K hg5'
      try simp only [Act.put, List.setIfInBounds_toArray, List.set_cons_zero, List.set_cons_succ]
      refine wpAnyH_ready (rs := [0]) (by kernel_rfl) (by simp) ?_
      refine AllReadyH.cons (o := ({ dst := some 53, op := Go.Op.load 45 (Go.Operand.tmp 4), type := 45, pos := "decode.go:132", after := #[], guard := none } : Oper)) rfl (fun K hK => ?_) AllReadyH.nil
      refine step_load_agg rfl 45 (.tmp 4) rfl ⟨gm, 0, none⟩ rfl mc _ (row_at (hm5)) Tryd.underlying45 rfl ZMc.out ?_
      refine hK.out _ _ trivial (fun _ => ?_)
      clear hK K
      try simp only [Act.put, List.setIfInBounds_toArray, List.set_cons_zero, List.set_cons_succ]
      refine wpAnyH_ready (rs := [4]) (by kernel_rfl) (by simp) ?_
      refine AllReadyH.cons (o := ({ dst := some 57, op := Go.Op.call { callee := Go.Callee.value (Go.Operand.func 38), args := #[Go.Operand.tmp 53, Go.Operand.tmp 56], argTypes := #[45, 32] }, type := 45, pos := "decode.go:132", after := #[{ on := 0, ground := Go.Ground.data }, { on := 3, ground := Go.Ground.data }, { on := 3, ground := Go.Ground.chain }], guard := none } : Oper)) rfl (fun K hK => ?_) AllReadyH.nil
      go_simp
      go_at_call 38
      refine (HWD.out w5 A' d c' hin hb5).mono ?_
      rintro e' w6 ⟨rfl, hb6⟩
      have hz6 := (hb6.block gz (by omega)).trans hz5
      have hr6 := hr5.grown hb6
      have hg6 := grown_trans hg5 (grown_below (g := g) hb6)
      have hl6 := heap_lt hz6
      have HR6 := Lib.hid hr6
      have HG6 := Lib.hid hg6
      have HF6 := Lib.hid (HFin.out d hd)
      have HZ6 := Lib.hid hz6
      have hZ7 := Lib.hid (Z7.out d)
      have hO7 := Lib.hid (O7.out d)
      have hZZ7 := Lib.hid (ZZ7.out d)
      revert HF6 hZ7 hO7 hZZ7
      generalize hrr : (withR s t L d).cells = rr
      intro HF6 hZ7 hO7 hZZ7
      clear hrr
      refine hK.out _ _ trivial (fun _ => ?_)
      clear hK K hb6 hz6 hr6 hg6
      try simp only [Act.put, List.setIfInBounds_toArray, List.set_cons_zero, List.set_cons_succ]
      refine wpAnyH_ready (rs := [5]) (by kernel_rfl) (by simp) ?_
      refine AllReadyH.cons (o := ({ dst := none, op := Go.Op.store 45 (Go.Operand.tmp 2) (Go.Operand.tmp 57), type := 0, pos := "decode.go:132", after := #[{ on := 4, ground := Go.Ground.data }, { on := 4, ground := Go.Ground.chain }, { on := 0, ground := Go.Ground.phase }, { on := 1, ground := Go.Ground.phase }, { on := 2, ground := Go.Ground.phase }, { on := 3, ground := Go.Ground.phase }, { on := 4, ground := Go.Ground.phase }], guard := none } : Oper)) rfl (fun K hK => ?_) AllReadyH.nil
      refine step_store_blk rfl 45 (.tmp 2) (.tmp 57) rfl gz zs rr 45 HZ6.out rfl rfl hZ7.out hZZ7.out hO7.out (fun w7 hg7 hw7 hs7 => ?_)
      refine hK.out _ _ trivial (fun _ => ?_)
      clear hK K
      refine wpAnyH_done (by kernel_rfl) ?_ _
      go_wp2_with fail
      exact bodyPost_ret (results_cell_row rfl _ w7 gz 45 rr (0, 0) _ rfl hg7.out Tryd.underlying45 rfl hZ7.out) rfl (HF6.out _ w7 rfl (RSt.kept HR6.out ((Below.refl base _).grown hw7.out (by omega) (fun k e => by injection e with e; omega)) (hw7.out.block g (by omega) (fun e => by injection e with e; omega))) (grown_new HG6.out hw7.out hwgz))
end Go.Proofs.YtakfokdjdljjjaaDoor
