/-
  The walk of AddrFours: four bytes make an address, and it comes back. Condition: the library's variables hold what their initialisers lay.
-/
import Derived.Test.YtclfmokdjmnjcaaDoorAddrFit
import Derived.Test.YtclfmokdjmnjcaaDoorAddrRev
import Derived.Test.YtclfmokdjmnjcaaDoorAddrWant
import Derived.Deep.RegionHeld3
import Derived.BigQuiet
namespace Go.Proofs.YtclfmokdjmnjcaaDoor
open Go.RowKit

theorem cell_bvs {w : World} {g : Nat} {x : List UInt8} {t : TypeId} {fr : Nat × Nat} (h : w.heap[g]? = some (.cells (bvs x).toArray t fr)) {k : Nat} (hk : k < x.length) : w.cell? ⟨g, k, none⟩ = some (.int .u8 (x.getD k 0).toNat) := by
  have := cell_of_row w g k _ t fr h
  rw [this]
  unfold bvs
  rw [List.getD_eq_getElem?_getD, List.getElem?_eq_getElem hk]
  simp [hk]
theorem range_blk {w W : World} {g : Nat} {cs : List Value} {t : TypeId} {fr : Nat × Nat} (hg : w.heap[g]? = some (.cells cs.toArray t fr)) (hb : Below w.heap.size w W) : W.rangeAt g 0 cs := fun j v hj => by
  rw [Nat.zero_add, cell_of_row W g j cs.toArray t fr ((hb.block _ (Array.getElem?_eq_some_iff.1 hg).1).trans hg)]; simpa using hj
theorem cell_blk {w W : World} {g : Nat} {x : List UInt8} {t : TypeId} {fr : Nat × Nat} (hg : w.heap[g]? = some (.cells (bvs x).toArray t fr)) (hb : Below w.heap.size w W) {k : Nat} (hk : k < x.length) : W.cell? ⟨g, k, none⟩ = some (.int .u8 (x.getD k 0).toNat) :=
  cell_bvs ((hb.block _ (Array.getElem?_eq_some_iff.1 hg).1).trans hg) hk
set_option maxRecDepth 100000 in
set_option maxHeartbeats 8000000 in
theorem addrFours_walk (b : List UInt8) (hb : b.length = 4) (a : List UInt8) (ha : a.length = 16) (w : World) (he : AEnv w) :
    Calls Tryd.prog 5 #[.agg (bvs b).toArray, .agg (bvs a).toArray] w fun e w' => e = .returned (.bool true) ∧ Below w.heap.size w w' := by
  obtain ⟨x0, x1, x2, x3, rfl⟩ : ∃ x0 x1 x2 x3, b = [x0, x1, x2, x3] := by
    match b, hb with
    | [x0, x1, x2, x3], _ => exact ⟨x0, x1, x2, x3, rfl⟩
  obtain ⟨Z, hZ⟩ : ∃ Z, Z = (bvs zero16).toArray := ⟨_, rfl⟩
  have zA : (Tryd.prog.info? 23).map (·.zero) = some (some (.agg Z)) := by rw [hZ]; exact zeroAddr
  have zn : Z.size = 16 := by rw [hZ]; rfl
  have hv4 := fun W => v4_e x0 x1 x2 x3 W
  obtain ⟨v, hv⟩ : ∃ v, v = four12 ++ [x0, x1, x2, x3] := ⟨_, rfl⟩
  have hvl : v.length = 16 := by rw [hv]; rfl
  have hvS := sizeBv hvl
  have hv1 := oneBv v
  have hvz : Z.size = (bvs v).toArray.size := by rw [zn, List.size_toArray, bvs_length, hvl]
  have hu := Tryd.underlying23
  rw [← hv] at hv4
  have hprint := fun W (hW : AEnv W) => print_e v hvl W hW
  have hparse : ∀ W, AEnv W → Calls Tryd.prog 13 #[.string (tb (txt v))] W fun e w' => e = .returned (.tuple #[.agg (bvs v).toArray, .int .i64 0]) ∧ Below W.heap.size W w' := fun W hW =>
    (parse_e (tb (txt v)) W hW (by rw [Lib.size_eq, tb_data]; have := txt_len hvl; omega)).mono fun e w' ⟨h1, h2⟩ => by
      rw [tb_data, parseA_txt hvl] at h2
      rcases h2 with ⟨c, hc, _, h3⟩ | ⟨hc, _⟩
      · obtain rfl := Option.some.inj hc
        exact ⟨h3, h1⟩
      · cases hc
  generalize hq : (bvs [x0, x1, x2, x3]).toArray = q
  obtain ⟨r, hr⟩ : ∃ r, r = (bvs a).toArray := ⟨_, rfl⟩
  rw [← hr]
  have HRr := Lib.hid hr
  clear hr
  have hwi : Below w.heap.size w ((w.alloc (.cells q 32)).alloc (.cells r 23)) := ((Below.refl _ w).alloc (Nat.le_refl _) _).alloc (by rw [World.size_alloc]; omega) _
  have hwn : ((w.alloc (.cells q 32)).alloc (.cells r 23)).heap.size = w.heap.size + 2 := by rw [World.size_alloc, World.size_alloc]
  have hRb := heap_alloc2_old w (.cells q 32) (.cells r 23)
  have hRa := heap_alloc2_new w (.cells q 32) (.cells r 23)
  generalize hwe : ((w.alloc (.cells q 32)).alloc (.cells r 23)) = wi at *
  have HE := Lib.hid (he.below hwi)
  have HB0 := Lib.hid hwi
  go_enter Tryd.func5, Tryd.ntmps5
  go_wp2_with fail
  refine (fit5_e _ HE.out).mono ?_
  rintro e w1 ⟨rfl, hb1⟩
  have HB1 := Lib.hid (HB0.out.trans (hb1.mono HB0.out.size))
  have HE1 := Lib.hid (HE.out.below hb1)
  have gb1 : w1.heap[w.heap.size]? = some (.cells (bvs [x0, x1, x2, x3]).toArray 32 (0, 0)) := (hb1.block _ (by omega)).trans (by rw [hRb, ← hq])
  have ga1 : w1.heap[w.heap.size + 1]? = some (.cells r 23 (0, 0)) := (hb1.block _ (by omega)).trans hRa
  have b0 : w1.cell? ⟨w.heap.size, 0, none⟩ = some (.int .u8 x0.toNat) := cell_bvs gb1 (k := 0) (by show 0 < 4; omega)
  have b1 : w1.cell? ⟨w.heap.size, 1, none⟩ = some (.int .u8 x1.toNat) := cell_bvs gb1 (k := 1) (by show 1 < 4; omega)
  have b2 : w1.cell? ⟨w.heap.size, 2, none⟩ = some (.int .u8 x2.toNat) := cell_bvs gb1 (k := 2) (by show 2 < 4; omega)
  have b3 : w1.cell? ⟨w.heap.size, 3, none⟩ = some (.int .u8 x3.toNat) := cell_bvs gb1 (k := 3) (by show 3 < 4; omega)
  have HGa := Lib.hid ga1
  have HGb := Lib.hid gb1
  have hw1 : w.heap.size + 2 ≤ w1.heap.size := by have := hb1.size; omega
  have HZ := Lib.hid hZ
  have ZA := Lib.hid zA
  have HVS := Lib.hid hvS
  have HV1 := Lib.hid hv1
  have HVZ := Lib.hid hvz
  have HPr := Lib.hid hprint
  have HPa := Lib.hid hparse
  have HV4 := Lib.hid hv4
  have HV := Lib.hid hv
  clear hZ zA hvS hv1 hvz hprint hparse hv4 gb1 ga1 hb1 hwe hRb hRa hv zn
  go_wp2_with fail
  refine (HV4.out _).mono ?_
  rintro e w2 ⟨rfl, hb2⟩
  have ga2 : w2.heap[w.heap.size + 1]? = some (.cells r 23 (0, 0)) := (hb2.block _ (by omega)).trans HGa.out
  have gb2 : w2.heap[w.heap.size]? = some (.cells (bvs [x0, x1, x2, x3]).toArray 32 (0, 0)) := (hb2.block _ (by omega)).trans HGb.out
  obtain ⟨vr, hvr⟩ : ∃ vr, vr = (bvs v).toArray := ⟨_, rfl⟩
  rw [← hvr] at HVS HV1 HVZ HPa HPr ⊢
  have HVr := Lib.hid hvr
  have hw2 : w.heap.size + 2 ≤ w2.heap.size := by have := hb2.size; omega
  have hb3 : Below w2.heap.size w2 (w2.alloc (.cells vr 23)) := (Below.refl _ w2).alloc (Nat.le_refl _) _
  have HB3 := Lib.hid ((HB1.out.trans (hb2.mono HB1.out.size)).trans (hb3.mono (by omega)))
  have HE3 := Lib.hid ((HE1.out.below hb2).below hb3)
  have GA3 : Hid ((w2.alloc (.cells vr 23)).heap[w.heap.size + 1]? = some (.cells (bvs a).toArray 23 (0, 0))) := Lib.hid ((hb3.block _ (by omega)).trans (by rw [← HRr.out]; exact ga2))
  have GB3 : Hid ((w2.alloc (.cells vr 23)).heap[w.heap.size]? = some (.cells (bvs [x0, x1, x2, x3]).toArray 32 (0, 0))) := Lib.hid ((hb3.block _ (by omega)).trans gb2)
  have GV3 : Hid ((w2.alloc (.cells vr 23)).heap[w2.heap.size]? = some (.cells vr 23 (0, 0))) := Lib.hid (heap_alloc_last w2 _)
  have c10 : (w2.alloc (.cells vr 23)).cell? ⟨w.heap.size + 1, 10, none⟩ = some (.int .u8 (a.getD 10 0).toNat) := cell_bvs GA3.out (by omega)
  have c11 : (w2.alloc (.cells vr 23)).cell? ⟨w.heap.size + 1, 11, none⟩ = some (.int .u8 (a.getD 11 0).toNat) := cell_bvs GA3.out (by omega)
  have hsl : ∀ W : World, (Instr.sliceAt 23 (.pointer (some ⟨w.heap.size + 1, 0, none⟩)) none (some (.int .i64 10)) none).run Tryd.prog W = .ok (.slice (some ⟨w.heap.size + 1, 0, none⟩) 10 16) W := fun W => by kernel_rfl
  have hw0 := want_none a
  generalize a.getD 10 0 = y10 at c10 hw0
  generalize a.getD 11 0 = y11 at c11 hw0
  have h10l := y10.toNat_lt
  have h11l := y11.toNat_lt
  have HW0 := Lib.hid hw0
  clear b0 b1 b2 b3 hb2 hb3 hw0 ga2 gb2 hvr hw1
  have hq10 : (y10 = 255 ∧ ((y10.toNat : Int) = 255)) ∨ (y10 ≠ 255 ∧ ¬ ((y10.toNat : Int) = 255)) := by
    by_cases h : y10 = 255
    · exact .inl ⟨h, by rw [h]; rfl⟩
    · exact .inr ⟨h, fun e => h (UInt8.toNat_inj.1 (by show y10.toNat = 255; omega))⟩
  have hq11 : (y11 = 255 ∧ ((y11.toNat : Int) = 255)) ∨ (y11 ≠ 255 ∧ ¬ ((y11.toNat : Int) = 255)) := by
    by_cases h : y11 = 255
    · exact .inl ⟨h, by rw [h]; rfl⟩
    · exact .inr ⟨h, fun e => h (UInt8.toNat_inj.1 (by show y11.toNat = 255; omega))⟩
  rcases hq10 with ⟨h10, e10⟩ | ⟨h10, e10⟩
  · rcases hq11 with ⟨h11, e11⟩ | ⟨h11, e11⟩
    · skip
      go_wp2_with (first
        | (refine wpList_alloc_z rfl 23 rfl Z ZA.out ?_; go_simp)
        | (refine wpList_store_new rfl 23 (.tmp 5) (.tmp 21) rfl w2.heap.size rfl Z vr 23 rfl rfl HVS.out HVZ.out HV1.out ?_; go_simp))
      generalize (w2.alloc (.cells vr 23)) = w3 at HB3 HE3 GA3 GB3 GV3 ⊢
      generalize w2.heap.size = nv at GV3 hw2 ⊢
      clear c10 c11
      go_loopg [32, 8, 6] 10 (fun gk i _ q wr => ∃ (k : Nat) (b : Bool), i = .int .i64 k ∧ k + gk = 10 ∧ q = .bool b ∧ Hid (b = wantTo a k) ∧ Hid (Below w3.heap.size w3 wr))
      case atStart => exact ⟨0, true, rfl, by simp, rfl, Lib.hid (by rw [HW0.out]; rw [h10, h11]; rfl), Lib.hid (Below.refl _ _)⟩
      case round =>
        obtain ⟨k, q, rfl, hk, rfl, HQ, HBW⟩ := hrel
        by_cases hlt : k < 10
        · obtain ⟨g, rfl⟩ : ∃ g, gk = g + 1 := ⟨gk - 1, by omega⟩
          have hkI : (k : Int) < 10 := by omega
          have ck : wr.cell? ⟨w.heap.size + 1, k, none⟩ = some (.int .u8 (a.getD k 0).toNat) := cell_blk GA3.out HBW.out (by omega)
          have hst := want_step (a := a) (k := k) (by omega)
          rw [← HQ.out] at hst
          generalize a.getD k 0 = y at ck hst
          have hyl := y.toNat_lt
          have HST := Lib.hid hst
          clear hst
          cases q
          · go_wp2_with fail
            go_roundg g
            case measure => omega
            case rel => exact ⟨k + 1, false, by go_num, by omega, rfl, Lib.hid HST.out.symm, HBW⟩
          · by_cases hy : y = 0
            · have hyI : (y.toNat : Int) = 0 := by rw [hy]; rfl
              go_wp2_with fail
              go_roundg g
              case measure => omega
              case rel => exact ⟨k + 1, true, by go_num, by omega, rfl, Lib.hid (by rw [HST.out, hy]; rfl), HBW⟩
            · have hyI : ¬ (y.toNat : Int) = 0 := fun e => hy (UInt8.toNat_inj.1 (by show y.toNat = 0; omega))
              have hyB : ((y.toNat : Int) == 0) = false := beq_eq_false_iff_ne.2 hyI
              go_wp2_with fail
              go_roundg g
              case measure => omega
              case rel => exact ⟨k + 1, false, by go_num, by omega, rfl, Lib.hid (by rw [HST.out]; simp [hy]), HBW⟩
        · have hkI : ¬ (k : Int) < 10 := by omega
          obtain rfl : k = 10 := by omega
          have HQ2 := Lib.hid (HQ.out.trans (want_all ha))
          have rgv : wr.rangeAt nv 0 (bvs v) := range_blk (by rw [GV3.out, HVr.out]) HBW.out
          have hldv : ∀ j u, vr.toList[j]? = some u → wr.cell? ((⟨nv, 0, none⟩ : Addr).add j) = some u := fun j u hj => by
            rw [HVr.out] at hj
            have := rgv j u hj
            rw [Addr.add_lit]; exact this
          have HLV := Lib.hid hldv
          have HEw := Lib.hid (HE3.out.below HBW.out)
          clear rgv hldv
          go_wp2_with (refine wpList_load_agg rfl 23 (.tmp 5) rfl ⟨nv, 0, none⟩ rfl vr _ HLV.out hu rfl HVS.out ?_; go_simp)
          refine (HPr.out _ HEw.out).mono ?_
          rintro e w6 ⟨rfl, hb6⟩
          have HB6 := Lib.hid (HBW.out.trans (hb6.mono HBW.out.size))
          have HE6 := Lib.hid (HEw.out.below hb6)
          clear hb6
          go_wp2_with fail
          refine (HPa.out _ HE6.out).mono ?_
          rintro e w7 ⟨rfl, hb7⟩
          have hb8 : Below w7.heap.size w7 (w7.alloc (.cells vr 23)) := (Below.refl _ w7).alloc (Nat.le_refl _) _
          have hb37 := HB6.out.trans (hb7.mono HB6.out.size)
          have hb38 := hb37.trans (hb8.mono hb37.size)
          have HB8 := Lib.hid (HB3.out.trans (hb38.mono HB3.out.size))
          have GA8 := Lib.hid ((hb38.block _ (Array.getElem?_eq_some_iff.1 GA3.out).1).trans GA3.out)
          have GB8 := Lib.hid ((hb38.block _ (Array.getElem?_eq_some_iff.1 GB3.out).1).trans GB3.out)
          have GV8 := Lib.hid ((hb38.block _ (Array.getElem?_eq_some_iff.1 GV3.out).1).trans GV3.out)
          have GW8 : Hid ((w7.alloc (.cells vr 23)).heap[w7.heap.size]? = some (.cells vr 23 (0, 0))) := Lib.hid (heap_alloc_last w7 _)
          clear hb7 hb8 hb37 hb38
          go_wp2_with (first
            | (refine wpList_alloc_z rfl 23 rfl Z ZA.out ?_; go_simp)
            | (refine wpList_store_new rfl 23 (.tmp 9) (.tmp 46) rfl w7.heap.size rfl Z vr 23 rfl rfl HVS.out HVZ.out HV1.out ?_; go_simp))
          generalize (w7.alloc (.cells vr 23)) = w8 at HB8 GA8 GB8 GV8 GW8 ⊢
          generalize w7.heap.size = nw at GW8 ⊢
          have hvd := HV.out
          have V12 : Hid (∀ W : World, Below w8.heap.size w8 W → W.cell? ⟨nv, 12, none⟩ = some (.int .u8 x0.toNat)) := Lib.hid (fun W h => (cell_blk (x := v) (by rw [GV8.out, HVr.out]) h (k := 12) (by omega)).trans (by rw [hvd]; rfl))
          have V15 : Hid (∀ W : World, Below w8.heap.size w8 W → W.cell? ⟨nv, 15, none⟩ = some (.int .u8 x3.toNat)) := Lib.hid (fun W h => (cell_blk (x := v) (by rw [GV8.out, HVr.out]) h (k := 15) (by omega)).trans (by rw [hvd]; rfl))
          have B0 : Hid (∀ W : World, Below w8.heap.size w8 W → W.cell? ⟨w.heap.size, 0, none⟩ = some (.int .u8 x0.toNat)) := Lib.hid (fun W h => cell_blk GB8.out h (k := 0) (by show 0 < 4; omega))
          have B3 : Hid (∀ W : World, Below w8.heap.size w8 W → W.cell? ⟨w.heap.size, 3, none⟩ = some (.int .u8 x3.toNat)) := Lib.hid (fun W h => cell_blk GB8.out h (k := 3) (by show 3 < 4; omega))
          have A12 : Hid (∀ W : World, Below w8.heap.size w8 W → W.cell? ⟨w.heap.size + 1, 12, none⟩ = some (.int .u8 (a.getD 12 0).toNat)) := Lib.hid (fun W h => cell_blk GA8.out h (by omega))
          have A13 : Hid (∀ W : World, Below w8.heap.size w8 W → W.cell? ⟨w.heap.size + 1, 13, none⟩ = some (.int .u8 (a.getD 13 0).toNat)) := Lib.hid (fun W h => cell_blk GA8.out h (by omega))
          have A14 : Hid (∀ W : World, Below w8.heap.size w8 W → W.cell? ⟨w.heap.size + 1, 14, none⟩ = some (.int .u8 (a.getD 14 0).toNat)) := Lib.hid (fun W h => cell_blk GA8.out h (by omega))
          have A15 : Hid (∀ W : World, Below w8.heap.size w8 W → W.cell? ⟨w.heap.size + 1, 15, none⟩ = some (.int .u8 (a.getD 15 0).toNat)) := Lib.hid (fun W h => cell_blk GA8.out h (by omega))
          have RV : Hid (∀ W : World, Below w8.heap.size w8 W → W.rangeAt nv 0 (bvs v)) := Lib.hid (fun W h => range_blk (by rw [GV8.out, HVr.out]) h)
          have RW : Hid (∀ W : World, Below w8.heap.size w8 W → W.rangeAt nw 0 (bvs v)) := Lib.hid (fun W h => range_blk (by rw [GW8.out, HVr.out]) h)
          have RA : Hid (∀ W : World, Below w8.heap.size w8 W → W.rangeAt (w.heap.size + 1) 0 (bvs a)) := Lib.hid (fun W h => range_blk GA8.out h)
          have h4v : isV4 v = true := by rw [hvd]; exact isV4_four x0 x1 x2 x3
          have hfb := four_back ha
          have H4V := Lib.hid (fun W => is4_e v hvl W)
          have H4A := Lib.hid (fun W => is4_e a ha W)
          have HFB := Lib.hid (fun W => v4_e (a.getD 12 0) (a.getD 13 0) (a.getD 14 0) (a.getD 15 0) W)
          have HSV : Hid ((Tryd.prog.info? 23).map (·.size) = some (bvs v).length) := Lib.hid (sizeBv hvl)
          have HSA : Hid ((Tryd.prog.info? 23).map (·.size) = some (bvs a).length) := Lib.hid (sizeBv ha)
          have HQV : ∀ W : World, (Op.equalIn 10000 23 (.agg (bvs v).toArray) (.agg (bvs v).toArray)).run Tryd.prog W = .ok true W := fun W => by rw [run_eq_addr W hvl hvl, beq_self_eq_true]
          have HQA : ∀ W : World, (Op.equalIn 10000 23 (.agg (bvs a).toArray) (.agg (bvs a).toArray)).run Tryd.prog W = .ok true W := fun W => by rw [run_eq_addr W ha ha, beq_self_eq_true]
          have hq := HQ2.out
          rw [h4v] at H4V
          rw [← hq] at H4A hfb
          have hfb2 : q = true → bvs (four12 ++ [a.getD 12 0, a.getD 13 0, a.getD 14 0, a.getD 15 0]) = bvs a := fun e => by rw [hfb e]
          generalize bvs (four12 ++ [a.getD 12 0, a.getD 13 0, a.getD 14 0, a.getD 15 0]) = fl at HFB hfb2
          generalize bvs v = vl at RV RW H4V HSV HQV
          generalize bvs a = al at RA H4A HSA HQA hfb2
          generalize a.getD 12 0 = y12 at A12 HFB
          generalize a.getD 13 0 = y13 at A13 HFB
          generalize a.getD 14 0 = y14 at A14 HFB
          generalize a.getD 15 0 = y15 at A15 HFB
          generalize w.heap.size + 1 = na at RA A12 A13 A14 A15 ⊢
          have HFB2 := Lib.hid hfb2
          clear hq h4v hfb hfb2 hvd
          generalize hnb : w.heap.size = nb at B0 B3 ⊢
          cases q
          · skip
            refine wp_region_held_drew (S := (fun W : World => Below w8.heap.size w8 W)) (by kernel_rfl) (Below.refl _ w8).drew (fun hHeld => ?_)
            refine wpAnyH_take (i := 0) (oi := ({ dst := some 48, op := Go.Op.load 23 (Go.Operand.tmp 5), type := 23, pos := "law.go:119", after := #[], guard := none } : Oper)) (v := .agg vl.toArray) rfl (by kernel_rfl) (by kernel_rfl) (by kernel_rfl) (fun _ _ _ h => h) (yieldsIf_load_mid (by rfl) _ _ rfl _ _ rfl _ _ (fun W h => RV.out W h) hu rfl HSV.out) hHeld ?_
            simp only [Act.put, List.setIfInBounds_toArray, List.set_cons_zero, List.set_cons_succ]
            refine wpAnyH_ready (rs := [1]) (by kernel_rfl) (by simp) ?_
            refine AllReadyH.cons (o := ({ dst := some 49, op := Go.Op.call { callee := Go.Callee.value (Go.Operand.func 8), args := #[Go.Operand.tmp 48], argTypes := #[23] }, type := 4, pos := "law.go:119", after := #[{ on := 0, ground := Go.Ground.data }], guard := none } : Oper)) rfl (fun K hK => ?_) AllReadyH.nil
            go_simp
            go_at_call 8
            refine (H4V.out _).mono ?_
            rintro e' w11 ⟨rfl, hw11⟩
            refine hK.out _ _ (hHeld.trans (hw11.mono hHeld.size)) (fun hHeld1 => ?_)
            clear hK K
            refine wpAnyH_take (i := 2) (oi := ({ dst := some 50, op := Go.Op.move (Go.Operand.tmp 49), type := 4, pos := "law.go:119", after := #[{ on := 1, ground := Go.Ground.data }, { on := 1, ground := Go.Ground.chain }], guard := none } : Oper)) (v := .bool true) rfl (by kernel_rfl) (by kernel_rfl) (by kernel_rfl) (fun _ _ _ h => h) (Or.inl ⟨by rfl, fun w' _ => ?_⟩) hHeld1 ?_
            · go_simp
            simp only [Act.put, List.setIfInBounds_toArray, List.set_cons_zero, List.set_cons_succ]
            refine wpAnyH_take (i := 3) (oi := ({ dst := some 51, op := Go.Op.indexAddr 23 (Go.Operand.tmp 5) (Go.Operand.const (Go.Value.int Go.IntKind.i64 12)), type := 0, pos := "law.go:119", after := #[{ on := 2, ground := Go.Ground.guard }], guard := some (2, true) } : Oper)) (v := .pointer (some ⟨nv, 12, none⟩)) rfl (by kernel_rfl) (by kernel_rfl) (by kernel_rfl) (fun _ _ _ h => h) (Or.inl ⟨by rfl, fun w' _ => ?_⟩) hHeld1 ?_
            · go_simp
            simp only [Act.put, List.setIfInBounds_toArray, List.set_cons_zero, List.set_cons_succ]
            refine wpAnyH_take (i := 4) (oi := ({ dst := some 52, op := Go.Op.load 5 (Go.Operand.tmp 51), type := 5, pos := "law.go:119", after := #[{ on := 3, ground := Go.Ground.data }, { on := 2, ground := Go.Ground.guard }], guard := some (2, true) } : Oper)) (v := .int .u8 x0.toNat) rfl (by kernel_rfl) (by kernel_rfl) (by kernel_rfl) (fun _ _ _ h => h) (Or.inl ⟨by rfl, fun w' hS' => ?_⟩) hHeld1 ?_
            · have hcell := V12.out _ hS'
              go_simp
            simp only [Act.put, List.setIfInBounds_toArray, List.set_cons_zero, List.set_cons_succ]
            refine wpAnyH_take (i := 5) (oi := ({ dst := some 53, op := Go.Op.indexAddr 32 (Go.Operand.tmp 2) (Go.Operand.const (Go.Value.int Go.IntKind.i64 0)), type := 0, pos := "law.go:119", after := #[{ on := 2, ground := Go.Ground.guard }], guard := some (2, true) } : Oper)) (v := .pointer (some ⟨nb, 0, none⟩)) rfl (by kernel_rfl) (by kernel_rfl) (by kernel_rfl) (fun _ _ _ h => h) (Or.inl ⟨by rfl, fun w' _ => ?_⟩) hHeld1 ?_
            · go_simp
            simp only [Act.put, List.setIfInBounds_toArray, List.set_cons_zero, List.set_cons_succ]
            refine wpAnyH_take (i := 6) (oi := ({ dst := some 54, op := Go.Op.load 5 (Go.Operand.tmp 53), type := 5, pos := "law.go:119", after := #[{ on := 5, ground := Go.Ground.data }, { on := 2, ground := Go.Ground.guard }], guard := some (2, true) } : Oper)) (v := .int .u8 x0.toNat) rfl (by kernel_rfl) (by kernel_rfl) (by kernel_rfl) (fun _ _ _ h => h) (Or.inl ⟨by rfl, fun w' hS' => ?_⟩) hHeld1 ?_
            · have hcell := B0.out _ hS'
              go_simp
            simp only [Act.put, List.setIfInBounds_toArray, List.set_cons_zero, List.set_cons_succ]
            refine wpAnyH_take (i := 7) (oi := ({ dst := some 55, op := Go.Op.binOp Go.BinOp.eql 5 (Go.Operand.tmp 52) (Go.Operand.tmp 54) 5, type := 4, pos := "law.go:119", after := #[{ on := 4, ground := Go.Ground.data }, { on := 6, ground := Go.Ground.data }, { on := 2, ground := Go.Ground.guard }], guard := some (2, true) } : Oper)) (v := .bool true) rfl (by kernel_rfl) (by kernel_rfl) (by kernel_rfl) (fun _ _ _ h => h) (Or.inl ⟨by rfl, fun w' _ => ?_⟩) hHeld1 ?_
            · go_simp
            simp only [Act.put, List.setIfInBounds_toArray, List.set_cons_zero, List.set_cons_succ]
            refine wpAnyH_take (i := 8) (oi := ({ dst := some 56, op := Go.Op.pick (Go.Operand.tmp 50) (Go.Operand.tmp 55) (Go.Operand.const (Go.Value.bool false)), type := 4, pos := "law.go:119", after := #[{ on := 2, ground := Go.Ground.data }, { on := 7, ground := Go.Ground.data }], guard := none } : Oper)) (v := .bool true) rfl (by kernel_rfl) (by kernel_rfl) (by kernel_rfl) (fun _ _ _ h => h) (Or.inl ⟨by rfl, fun w' _ => ?_⟩) hHeld1 ?_
            · go_simp
            simp only [Act.put, List.setIfInBounds_toArray, List.set_cons_zero, List.set_cons_succ]
            refine wpAnyH_take (i := 9) (oi := ({ dst := some 57, op := Go.Op.move (Go.Operand.tmp 56), type := 4, pos := "law.go:119", after := #[{ on := 8, ground := Go.Ground.data }, { on := 2, ground := Go.Ground.chain }], guard := none } : Oper)) (v := .bool true) rfl (by kernel_rfl) (by kernel_rfl) (by kernel_rfl) (fun _ _ _ h => h) (Or.inl ⟨by rfl, fun w' _ => ?_⟩) hHeld1 ?_
            · go_simp
            simp only [Act.put, List.setIfInBounds_toArray, List.set_cons_zero, List.set_cons_succ]
            refine wpAnyH_take (i := 10) (oi := ({ dst := some 58, op := Go.Op.indexAddr 23 (Go.Operand.tmp 5) (Go.Operand.const (Go.Value.int Go.IntKind.i64 15)), type := 0, pos := "law.go:119", after := #[{ on := 9, ground := Go.Ground.guard }], guard := some (9, true) } : Oper)) (v := .pointer (some ⟨nv, 15, none⟩)) rfl (by kernel_rfl) (by kernel_rfl) (by kernel_rfl) (fun _ _ _ h => h) (Or.inl ⟨by rfl, fun w' _ => ?_⟩) hHeld1 ?_
            · go_simp
            simp only [Act.put, List.setIfInBounds_toArray, List.set_cons_zero, List.set_cons_succ]
            refine wpAnyH_take (i := 11) (oi := ({ dst := some 59, op := Go.Op.load 5 (Go.Operand.tmp 58), type := 5, pos := "law.go:119", after := #[{ on := 10, ground := Go.Ground.data }, { on := 9, ground := Go.Ground.guard }], guard := some (9, true) } : Oper)) (v := .int .u8 x3.toNat) rfl (by kernel_rfl) (by kernel_rfl) (by kernel_rfl) (fun _ _ _ h => h) (Or.inl ⟨by rfl, fun w' hS' => ?_⟩) hHeld1 ?_
            · have hcell := V15.out _ hS'
              go_simp
            simp only [Act.put, List.setIfInBounds_toArray, List.set_cons_zero, List.set_cons_succ]
            refine wpAnyH_take (i := 12) (oi := ({ dst := some 60, op := Go.Op.indexAddr 32 (Go.Operand.tmp 2) (Go.Operand.const (Go.Value.int Go.IntKind.i64 3)), type := 0, pos := "law.go:119", after := #[{ on := 9, ground := Go.Ground.guard }], guard := some (9, true) } : Oper)) (v := .pointer (some ⟨nb, 3, none⟩)) rfl (by kernel_rfl) (by kernel_rfl) (by kernel_rfl) (fun _ _ _ h => h) (Or.inl ⟨by rfl, fun w' _ => ?_⟩) hHeld1 ?_
            · go_simp
            simp only [Act.put, List.setIfInBounds_toArray, List.set_cons_zero, List.set_cons_succ]
            refine wpAnyH_take (i := 13) (oi := ({ dst := some 61, op := Go.Op.load 5 (Go.Operand.tmp 60), type := 5, pos := "law.go:119", after := #[{ on := 12, ground := Go.Ground.data }, { on := 9, ground := Go.Ground.guard }], guard := some (9, true) } : Oper)) (v := .int .u8 x3.toNat) rfl (by kernel_rfl) (by kernel_rfl) (by kernel_rfl) (fun _ _ _ h => h) (Or.inl ⟨by rfl, fun w' hS' => ?_⟩) hHeld1 ?_
            · have hcell := B3.out _ hS'
              go_simp
            simp only [Act.put, List.setIfInBounds_toArray, List.set_cons_zero, List.set_cons_succ]
            refine wpAnyH_take (i := 14) (oi := ({ dst := some 62, op := Go.Op.binOp Go.BinOp.eql 5 (Go.Operand.tmp 59) (Go.Operand.tmp 61) 5, type := 4, pos := "law.go:119", after := #[{ on := 11, ground := Go.Ground.data }, { on := 13, ground := Go.Ground.data }, { on := 9, ground := Go.Ground.guard }], guard := some (9, true) } : Oper)) (v := .bool true) rfl (by kernel_rfl) (by kernel_rfl) (by kernel_rfl) (fun _ _ _ h => h) (Or.inl ⟨by rfl, fun w' _ => ?_⟩) hHeld1 ?_
            · go_simp
            simp only [Act.put, List.setIfInBounds_toArray, List.set_cons_zero, List.set_cons_succ]
            refine wpAnyH_take (i := 15) (oi := ({ dst := some 63, op := Go.Op.pick (Go.Operand.tmp 57) (Go.Operand.tmp 62) (Go.Operand.const (Go.Value.bool false)), type := 4, pos := "law.go:119", after := #[{ on := 9, ground := Go.Ground.data }, { on := 14, ground := Go.Ground.data }], guard := none } : Oper)) (v := .bool true) rfl (by kernel_rfl) (by kernel_rfl) (by kernel_rfl) (fun _ _ _ h => h) (Or.inl ⟨by rfl, fun w' _ => ?_⟩) hHeld1 ?_
            · go_simp
            simp only [Act.put, List.setIfInBounds_toArray, List.set_cons_zero, List.set_cons_succ]
            refine wpAnyH_take (i := 16) (oi := ({ dst := some 64, op := Go.Op.move (Go.Operand.tmp 63), type := 4, pos := "law.go:119", after := #[{ on := 15, ground := Go.Ground.data }, { on := 9, ground := Go.Ground.chain }], guard := none } : Oper)) (v := .bool true) rfl (by kernel_rfl) (by kernel_rfl) (by kernel_rfl) (fun _ _ _ h => h) (Or.inl ⟨by rfl, fun w' _ => ?_⟩) hHeld1 ?_
            · go_simp
            simp only [Act.put, List.setIfInBounds_toArray, List.set_cons_zero, List.set_cons_succ]
            refine wpAnyH_take (i := 17) (oi := ({ dst := some 65, op := Go.Op.load 23 (Go.Operand.tmp 3), type := 23, pos := "law.go:119", after := #[{ on := 16, ground := Go.Ground.guard }], guard := some (16, true) } : Oper)) (v := .agg al.toArray) rfl (by kernel_rfl) (by kernel_rfl) (by kernel_rfl) (fun _ _ _ h => h) (yieldsIf_load_mid (by rfl) _ _ rfl _ _ rfl _ _ (fun W h => RA.out W h) hu rfl HSA.out) hHeld1 ?_
            simp only [Act.put, List.setIfInBounds_toArray, List.set_cons_zero, List.set_cons_succ]
            refine wpAnyH_take (i := 19) (oi := ({ dst := some 67, op := Go.Op.move (Go.Operand.tmp 6), type := 4, pos := "law.go:119", after := #[{ on := 16, ground := Go.Ground.guard }], guard := some (16, true) } : Oper)) (v := .bool false) rfl (by kernel_rfl) (by kernel_rfl) (by kernel_rfl) (fun _ _ _ h => h) (Or.inl ⟨by rfl, fun w' _ => ?_⟩) hHeld1 ?_
            · go_simp
            simp only [Act.put, List.setIfInBounds_toArray, List.set_cons_zero, List.set_cons_succ]
            refine wpAnyH_ready (rs := [18]) (by kernel_rfl) (by simp) ?_
            refine AllReadyH.cons (o := ({ dst := some 66, op := Go.Op.call { callee := Go.Callee.value (Go.Operand.func 8), args := #[Go.Operand.tmp 65], argTypes := #[23] }, type := 4, pos := "law.go:119", after := #[{ on := 17, ground := Go.Ground.data }, { on := 16, ground := Go.Ground.chain }, { on := 16, ground := Go.Ground.guard }], guard := some (16, true) } : Oper)) rfl (fun K hK => ?_) AllReadyH.nil
            go_simp
            go_at_call 8
            refine (H4A.out _).mono ?_
            rintro e' w12 ⟨rfl, hw12⟩
            refine hK.out _ _ (hHeld1.trans (hw12.mono hHeld1.size)) (fun hHeld2 => ?_)
            clear hK K
            refine wpAnyH_take (i := 20) (oi := ({ dst := some 68, op := Go.Op.binOp Go.BinOp.eql 4 (Go.Operand.tmp 66) (Go.Operand.tmp 67) 4, type := 4, pos := "law.go:119", after := #[{ on := 18, ground := Go.Ground.data }, { on := 19, ground := Go.Ground.data }, { on := 16, ground := Go.Ground.guard }], guard := some (16, true) } : Oper)) (v := .bool true) rfl (by kernel_rfl) (by kernel_rfl) (by kernel_rfl) (fun _ _ _ h => h) (Or.inl ⟨by rfl, fun w' _ => ?_⟩) hHeld2 ?_
            · go_simp
            simp only [Act.put, List.setIfInBounds_toArray, List.set_cons_zero, List.set_cons_succ]
            refine wpAnyH_take (i := 21) (oi := ({ dst := some 69, op := Go.Op.pick (Go.Operand.tmp 64) (Go.Operand.tmp 68) (Go.Operand.const (Go.Value.bool false)), type := 4, pos := "law.go:119", after := #[{ on := 16, ground := Go.Ground.data }, { on := 20, ground := Go.Ground.data }], guard := none } : Oper)) (v := .bool true) rfl (by kernel_rfl) (by kernel_rfl) (by kernel_rfl) (fun _ _ _ h => h) (Or.inl ⟨by rfl, fun w' _ => ?_⟩) hHeld2 ?_
            · go_simp
            simp only [Act.put, List.setIfInBounds_toArray, List.set_cons_zero, List.set_cons_succ]
            refine wpAnyH_take (i := 22) (oi := ({ dst := some 70, op := Go.Op.move (Go.Operand.tmp 69), type := 4, pos := "law.go:119", after := #[{ on := 21, ground := Go.Ground.data }, { on := 18, ground := Go.Ground.chain }], guard := none } : Oper)) (v := .bool true) rfl (by kernel_rfl) (by kernel_rfl) (by kernel_rfl) (fun _ _ _ h => h) (Or.inl ⟨by rfl, fun w' _ => ?_⟩) hHeld2 ?_
            · go_simp
            simp only [Act.put, List.setIfInBounds_toArray, List.set_cons_zero, List.set_cons_succ]
            refine wpAnyH_take (i := 23) (oi := ({ dst := some 71, op := Go.Op.move (Go.Operand.tmp 10), type := 34, pos := "law.go:119", after := #[{ on := 22, ground := Go.Ground.guard }], guard := some (22, true) } : Oper)) (v := .int .i64 0) rfl (by kernel_rfl) (by kernel_rfl) (by kernel_rfl) (fun _ _ _ h => h) (Or.inl ⟨by rfl, fun w' _ => ?_⟩) hHeld2 ?_
            · go_simp
            simp only [Act.put, List.setIfInBounds_toArray, List.set_cons_zero, List.set_cons_succ]
            refine wpAnyH_take (i := 24) (oi := ({ dst := some 72, op := Go.Op.binOp Go.BinOp.eql 34 (Go.Operand.tmp 71) (Go.Operand.const (Go.Value.int Go.IntKind.i64 0)) 34, type := 4, pos := "law.go:119", after := #[{ on := 23, ground := Go.Ground.data }, { on := 22, ground := Go.Ground.guard }], guard := some (22, true) } : Oper)) (v := .bool true) rfl (by kernel_rfl) (by kernel_rfl) (by kernel_rfl) (fun _ _ _ h => h) (Or.inl ⟨by rfl, fun w' _ => ?_⟩) hHeld2 ?_
            · go_simp
            simp only [Act.put, List.setIfInBounds_toArray, List.set_cons_zero, List.set_cons_succ]
            refine wpAnyH_take (i := 25) (oi := ({ dst := some 73, op := Go.Op.pick (Go.Operand.tmp 70) (Go.Operand.tmp 72) (Go.Operand.const (Go.Value.bool false)), type := 4, pos := "law.go:119", after := #[{ on := 22, ground := Go.Ground.data }, { on := 24, ground := Go.Ground.data }], guard := none } : Oper)) (v := .bool true) rfl (by kernel_rfl) (by kernel_rfl) (by kernel_rfl) (fun _ _ _ h => h) (Or.inl ⟨by rfl, fun w' _ => ?_⟩) hHeld2 ?_
            · go_simp
            simp only [Act.put, List.setIfInBounds_toArray, List.set_cons_zero, List.set_cons_succ]
            refine wpAnyH_take (i := 26) (oi := ({ dst := some 74, op := Go.Op.move (Go.Operand.tmp 73), type := 4, pos := "law.go:119", after := #[{ on := 25, ground := Go.Ground.data }, { on := 22, ground := Go.Ground.chain }], guard := none } : Oper)) (v := .bool true) rfl (by kernel_rfl) (by kernel_rfl) (by kernel_rfl) (fun _ _ _ h => h) (Or.inl ⟨by rfl, fun w' _ => ?_⟩) hHeld2 ?_
            · go_simp
            simp only [Act.put, List.setIfInBounds_toArray, List.set_cons_zero, List.set_cons_succ]
            refine wpAnyH_take (i := 27) (oi := ({ dst := some 75, op := Go.Op.load 23 (Go.Operand.tmp 9), type := 23, pos := "law.go:119", after := #[{ on := 26, ground := Go.Ground.guard }], guard := some (26, true) } : Oper)) (v := .agg vl.toArray) rfl (by kernel_rfl) (by kernel_rfl) (by kernel_rfl) (fun _ _ _ h => h) (yieldsIf_load_mid (by rfl) _ _ rfl _ _ rfl _ _ (fun W h => RW.out W h) hu rfl HSV.out) hHeld2 ?_
            simp only [Act.put, List.setIfInBounds_toArray, List.set_cons_zero, List.set_cons_succ]
            refine wpAnyH_take (i := 28) (oi := ({ dst := some 76, op := Go.Op.load 23 (Go.Operand.tmp 5), type := 23, pos := "law.go:119", after := #[{ on := 26, ground := Go.Ground.guard }], guard := some (26, true) } : Oper)) (v := .agg vl.toArray) rfl (by kernel_rfl) (by kernel_rfl) (by kernel_rfl) (fun _ _ _ h => h) (yieldsIf_load_mid (by rfl) _ _ rfl _ _ rfl _ _ (fun W h => RV.out W h) hu rfl HSV.out) hHeld2 ?_
            simp only [Act.put, List.setIfInBounds_toArray, List.set_cons_zero, List.set_cons_succ]
            refine wpAnyH_take (i := 29) (oi := ({ dst := some 77, op := Go.Op.binOp Go.BinOp.eql 23 (Go.Operand.tmp 75) (Go.Operand.tmp 76) 23, type := 4, pos := "law.go:119", after := #[{ on := 27, ground := Go.Ground.data }, { on := 28, ground := Go.Ground.data }, { on := 26, ground := Go.Ground.guard }], guard := some (26, true) } : Oper)) (v := .bool true) rfl (by kernel_rfl) (by kernel_rfl) (by kernel_rfl) (fun _ _ _ h => h) (Or.inl ⟨by rfl, fun w' _ => ?_⟩) hHeld2 ?_
            · go_simp
            simp only [Act.put, List.setIfInBounds_toArray, List.set_cons_zero, List.set_cons_succ]
            refine wpAnyH_take (i := 30) (oi := ({ dst := some 78, op := Go.Op.pick (Go.Operand.tmp 74) (Go.Operand.tmp 77) (Go.Operand.const (Go.Value.bool false)), type := 4, pos := "law.go:119", after := #[{ on := 26, ground := Go.Ground.data }, { on := 29, ground := Go.Ground.data }], guard := none } : Oper)) (v := .bool true) rfl (by kernel_rfl) (by kernel_rfl) (by kernel_rfl) (fun _ _ _ h => h) (Or.inl ⟨by rfl, fun w' _ => ?_⟩) hHeld2 ?_
            · go_simp
            simp only [Act.put, List.setIfInBounds_toArray, List.set_cons_zero, List.set_cons_succ]
            refine wpAnyH_take (i := 31) (oi := ({ dst := some 79, op := Go.Op.move (Go.Operand.tmp 78), type := 4, pos := "law.go:119", after := #[{ on := 30, ground := Go.Ground.data }, { on := 26, ground := Go.Ground.chain }], guard := none } : Oper)) (v := .bool true) rfl (by kernel_rfl) (by kernel_rfl) (by kernel_rfl) (fun _ _ _ h => h) (Or.inl ⟨by rfl, fun w' _ => ?_⟩) hHeld2 ?_
            · go_simp
            simp only [Act.put, List.setIfInBounds_toArray, List.set_cons_zero, List.set_cons_succ]
            refine wpAnyH_take (i := 32) (oi := ({ dst := some 80, op := Go.Op.move (Go.Operand.tmp 6), type := 4, pos := "law.go:119", after := #[{ on := 31, ground := Go.Ground.guard }], guard := some (31, true) } : Oper)) (v := .bool false) rfl (by kernel_rfl) (by kernel_rfl) (by kernel_rfl) (fun _ _ _ h => h) (Or.inl ⟨by rfl, fun w' _ => ?_⟩) hHeld2 ?_
            · go_simp
            simp only [Act.put, List.setIfInBounds_toArray, List.set_cons_zero, List.set_cons_succ]
            refine wpAnyH_take (i := 33) (oi := ({ dst := some 81, op := Go.Op.unOp Go.UnOp.not 4 (Go.Operand.tmp 80), type := 4, pos := "law.go:119", after := #[{ on := 32, ground := Go.Ground.data }, { on := 31, ground := Go.Ground.guard }], guard := some (31, true) } : Oper)) (v := .bool true) rfl (by kernel_rfl) (by kernel_rfl) (by kernel_rfl) (fun _ _ _ h => h) (Or.inl ⟨by rfl, fun w' _ => ?_⟩) hHeld2 ?_
            · go_simp
            simp only [Act.put, List.setIfInBounds_toArray, List.set_cons_zero, List.set_cons_succ]
            refine wpAnyH_take (i := 34) (oi := ({ dst := some 82, op := Go.Op.move (Go.Operand.tmp 81), type := 4, pos := "law.go:119", after := #[{ on := 33, ground := Go.Ground.data }, { on := 31, ground := Go.Ground.chain }, { on := 31, ground := Go.Ground.guard }], guard := some (31, true) } : Oper)) (v := .bool true) rfl (by kernel_rfl) (by kernel_rfl) (by kernel_rfl) (fun _ _ _ h => h) (Or.inl ⟨by rfl, fun w' _ => ?_⟩) hHeld2 ?_
            · go_simp
            simp only [Act.put, List.setIfInBounds_toArray, List.set_cons_zero, List.set_cons_succ]
            refine wpAnyH_take (i := 35) (oi := ({ dst := some 83, op := Go.Op.indexAddr 23 (Go.Operand.tmp 3) (Go.Operand.const (Go.Value.int Go.IntKind.i64 12)), type := 0, pos := "law.go:119", after := #[{ on := 34, ground := Go.Ground.guard }], guard := some (34, false) } : Oper)) (v := undef) rfl (by kernel_rfl) (by kernel_rfl) (by kernel_rfl) (fun _ _ _ h => h) (Or.inr ⟨by rfl, rfl⟩) hHeld2 ?_
            simp only [Act.put, List.setIfInBounds_toArray, List.set_cons_zero, List.set_cons_succ]
            refine wpAnyH_take (i := 36) (oi := ({ dst := some 84, op := Go.Op.load 5 (Go.Operand.tmp 83), type := 5, pos := "law.go:119", after := #[{ on := 35, ground := Go.Ground.data }, { on := 34, ground := Go.Ground.guard }], guard := some (34, false) } : Oper)) (v := undef) rfl (by kernel_rfl) (by kernel_rfl) (by kernel_rfl) (fun _ _ _ h => h) (Or.inr ⟨by rfl, rfl⟩) hHeld2 ?_
            simp only [Act.put, List.setIfInBounds_toArray, List.set_cons_zero, List.set_cons_succ]
            refine wpAnyH_take (i := 37) (oi := ({ dst := some 85, op := Go.Op.indexAddr 23 (Go.Operand.tmp 3) (Go.Operand.const (Go.Value.int Go.IntKind.i64 13)), type := 0, pos := "law.go:119", after := #[{ on := 34, ground := Go.Ground.guard }], guard := some (34, false) } : Oper)) (v := undef) rfl (by kernel_rfl) (by kernel_rfl) (by kernel_rfl) (fun _ _ _ h => h) (Or.inr ⟨by rfl, rfl⟩) hHeld2 ?_
            simp only [Act.put, List.setIfInBounds_toArray, List.set_cons_zero, List.set_cons_succ]
            refine wpAnyH_take (i := 38) (oi := ({ dst := some 86, op := Go.Op.load 5 (Go.Operand.tmp 85), type := 5, pos := "law.go:119", after := #[{ on := 37, ground := Go.Ground.data }, { on := 34, ground := Go.Ground.guard }], guard := some (34, false) } : Oper)) (v := undef) rfl (by kernel_rfl) (by kernel_rfl) (by kernel_rfl) (fun _ _ _ h => h) (Or.inr ⟨by rfl, rfl⟩) hHeld2 ?_
            simp only [Act.put, List.setIfInBounds_toArray, List.set_cons_zero, List.set_cons_succ]
            refine wpAnyH_take (i := 39) (oi := ({ dst := some 87, op := Go.Op.indexAddr 23 (Go.Operand.tmp 3) (Go.Operand.const (Go.Value.int Go.IntKind.i64 14)), type := 0, pos := "law.go:119", after := #[{ on := 34, ground := Go.Ground.guard }], guard := some (34, false) } : Oper)) (v := undef) rfl (by kernel_rfl) (by kernel_rfl) (by kernel_rfl) (fun _ _ _ h => h) (Or.inr ⟨by rfl, rfl⟩) hHeld2 ?_
            simp only [Act.put, List.setIfInBounds_toArray, List.set_cons_zero, List.set_cons_succ]
            refine wpAnyH_take (i := 40) (oi := ({ dst := some 88, op := Go.Op.load 5 (Go.Operand.tmp 87), type := 5, pos := "law.go:119", after := #[{ on := 39, ground := Go.Ground.data }, { on := 34, ground := Go.Ground.guard }], guard := some (34, false) } : Oper)) (v := undef) rfl (by kernel_rfl) (by kernel_rfl) (by kernel_rfl) (fun _ _ _ h => h) (Or.inr ⟨by rfl, rfl⟩) hHeld2 ?_
            simp only [Act.put, List.setIfInBounds_toArray, List.set_cons_zero, List.set_cons_succ]
            refine wpAnyH_take (i := 41) (oi := ({ dst := some 89, op := Go.Op.indexAddr 23 (Go.Operand.tmp 3) (Go.Operand.const (Go.Value.int Go.IntKind.i64 15)), type := 0, pos := "law.go:119", after := #[{ on := 34, ground := Go.Ground.guard }], guard := some (34, false) } : Oper)) (v := undef) rfl (by kernel_rfl) (by kernel_rfl) (by kernel_rfl) (fun _ _ _ h => h) (Or.inr ⟨by rfl, rfl⟩) hHeld2 ?_
            simp only [Act.put, List.setIfInBounds_toArray, List.set_cons_zero, List.set_cons_succ]
            refine wpAnyH_take (i := 42) (oi := ({ dst := some 90, op := Go.Op.load 5 (Go.Operand.tmp 89), type := 5, pos := "law.go:119", after := #[{ on := 41, ground := Go.Ground.data }, { on := 34, ground := Go.Ground.guard }], guard := some (34, false) } : Oper)) (v := undef) rfl (by kernel_rfl) (by kernel_rfl) (by kernel_rfl) (fun _ _ _ h => h) (Or.inr ⟨by rfl, rfl⟩) hHeld2 ?_
            simp only [Act.put, List.setIfInBounds_toArray, List.set_cons_zero, List.set_cons_succ]
            refine wpAnyH_take (i := 43) (oi := ({ dst := some 91, op := Go.Op.call { callee := Go.Callee.value (Go.Operand.func 12), args := #[Go.Operand.tmp 84, Go.Operand.tmp 86, Go.Operand.tmp 88, Go.Operand.tmp 90], argTypes := #[5, 5, 5, 5] }, type := 23, pos := "law.go:119", after := #[{ on := 36, ground := Go.Ground.data }, { on := 38, ground := Go.Ground.data }, { on := 40, ground := Go.Ground.data }, { on := 42, ground := Go.Ground.data }, { on := 34, ground := Go.Ground.chain }, { on := 34, ground := Go.Ground.guard }], guard := some (34, false) } : Oper)) (v := undef) rfl (by kernel_rfl) (by kernel_rfl) (by kernel_rfl) (fun _ _ _ h => h) (Or.inr ⟨by rfl, rfl⟩) hHeld2 ?_
            simp only [Act.put, List.setIfInBounds_toArray, List.set_cons_zero, List.set_cons_succ]
            refine wpAnyH_take (i := 44) (oi := ({ dst := some 92, op := Go.Op.load 23 (Go.Operand.tmp 3), type := 23, pos := "law.go:119", after := #[{ on := 34, ground := Go.Ground.guard }], guard := some (34, false) } : Oper)) (v := undef) rfl (by kernel_rfl) (by kernel_rfl) (by kernel_rfl) (fun _ _ _ h => h) (Or.inr ⟨by rfl, rfl⟩) hHeld2 ?_
            simp only [Act.put, List.setIfInBounds_toArray, List.set_cons_zero, List.set_cons_succ]
            refine wpAnyH_take (i := 45) (oi := ({ dst := some 93, op := Go.Op.binOp Go.BinOp.eql 23 (Go.Operand.tmp 91) (Go.Operand.tmp 92) 23, type := 4, pos := "law.go:119", after := #[{ on := 43, ground := Go.Ground.data }, { on := 44, ground := Go.Ground.data }, { on := 34, ground := Go.Ground.guard }], guard := some (34, false) } : Oper)) (v := undef) rfl (by kernel_rfl) (by kernel_rfl) (by kernel_rfl) (fun _ _ _ h => h) (Or.inr ⟨by rfl, rfl⟩) hHeld2 ?_
            simp only [Act.put, List.setIfInBounds_toArray, List.set_cons_zero, List.set_cons_succ]
            refine wpAnyH_take (i := 46) (oi := ({ dst := some 94, op := Go.Op.pick (Go.Operand.tmp 82) (Go.Operand.const (Go.Value.bool true)) (Go.Operand.tmp 93), type := 4, pos := "law.go:119", after := #[{ on := 34, ground := Go.Ground.data }, { on := 45, ground := Go.Ground.data }, { on := 31, ground := Go.Ground.guard }], guard := some (31, true) } : Oper)) (v := .bool true) rfl (by kernel_rfl) (by kernel_rfl) (by kernel_rfl) (fun _ _ _ h => h) (Or.inl ⟨by rfl, fun w' _ => ?_⟩) hHeld2 ?_
            · go_simp
            simp only [Act.put, List.setIfInBounds_toArray, List.set_cons_zero, List.set_cons_succ]
            refine wpAnyH_take (i := 47) (oi := ({ dst := some 95, op := Go.Op.pick (Go.Operand.tmp 79) (Go.Operand.tmp 94) (Go.Operand.const (Go.Value.bool false)), type := 4, pos := "law.go:119", after := #[{ on := 31, ground := Go.Ground.data }, { on := 46, ground := Go.Ground.data }], guard := none } : Oper)) (v := .bool true) rfl (by kernel_rfl) (by kernel_rfl) (by kernel_rfl) (fun _ _ _ h => h) (Or.inl ⟨by rfl, fun w' _ => ?_⟩) hHeld2 ?_
            · go_simp
            simp only [Act.put, List.setIfInBounds_toArray, List.set_cons_zero, List.set_cons_succ]
            refine wpAnyH_take (i := 48) (oi := ({ dst := some 4, op := Go.Op.assign (Go.Operand.tmp 95), type := 4, pos := "law.go:119", after := #[{ on := 47, ground := Go.Ground.data }, { on := 43, ground := Go.Ground.chain }, { on := 0, ground := Go.Ground.phase }, { on := 1, ground := Go.Ground.phase }, { on := 2, ground := Go.Ground.phase }, { on := 3, ground := Go.Ground.phase }, { on := 4, ground := Go.Ground.phase }, { on := 5, ground := Go.Ground.phase }, { on := 6, ground := Go.Ground.phase }, { on := 7, ground := Go.Ground.phase }, { on := 8, ground := Go.Ground.phase }, { on := 9, ground := Go.Ground.phase }, { on := 10, ground := Go.Ground.phase }, { on := 11, ground := Go.Ground.phase }, { on := 12, ground := Go.Ground.phase }, { on := 13, ground := Go.Ground.phase }, { on := 14, ground := Go.Ground.phase }, { on := 15, ground := Go.Ground.phase }, { on := 16, ground := Go.Ground.phase }, { on := 17, ground := Go.Ground.phase }, { on := 18, ground := Go.Ground.phase }, { on := 19, ground := Go.Ground.phase }, { on := 20, ground := Go.Ground.phase }, { on := 21, ground := Go.Ground.phase }, { on := 22, ground := Go.Ground.phase }, { on := 23, ground := Go.Ground.phase }, { on := 24, ground := Go.Ground.phase }, { on := 25, ground := Go.Ground.phase }, { on := 26, ground := Go.Ground.phase }, { on := 27, ground := Go.Ground.phase }, { on := 28, ground := Go.Ground.phase }, { on := 29, ground := Go.Ground.phase }, { on := 30, ground := Go.Ground.phase }, { on := 31, ground := Go.Ground.phase }, { on := 32, ground := Go.Ground.phase }, { on := 33, ground := Go.Ground.phase }, { on := 34, ground := Go.Ground.phase }, { on := 35, ground := Go.Ground.phase }, { on := 36, ground := Go.Ground.phase }, { on := 37, ground := Go.Ground.phase }, { on := 38, ground := Go.Ground.phase }, { on := 39, ground := Go.Ground.phase }, { on := 40, ground := Go.Ground.phase }, { on := 41, ground := Go.Ground.phase }, { on := 42, ground := Go.Ground.phase }, { on := 43, ground := Go.Ground.phase }, { on := 44, ground := Go.Ground.phase }, { on := 45, ground := Go.Ground.phase }, { on := 46, ground := Go.Ground.phase }, { on := 47, ground := Go.Ground.phase }], guard := none } : Oper)) (v := .bool true) rfl (by kernel_rfl) (by kernel_rfl) (by kernel_rfl) (fun _ _ _ h => h) (Or.inl ⟨by rfl, fun w' _ => ?_⟩) hHeld2 ?_
            · go_simp
            simp only [Act.put, List.setIfInBounds_toArray, List.set_cons_zero, List.set_cons_succ]
            refine wpAnyH_done (by kernel_rfl) ?_ _
            have HBn := Lib.hid (HB8.out.trans (hHeld2.mono HB8.out.size))
            go_wp2_with fail
            go_ret
            first
              | exact ⟨rfl, HBn.out⟩
              | exact ⟨rfl, by rw [← hnb]; exact HBn.out⟩
          · have e := HFB2.out rfl
            rw [e] at HFB
            clear e
            refine wp_region_held_drew (S := (fun W : World => Below w8.heap.size w8 W)) (by kernel_rfl) (Below.refl _ w8).drew (fun hHeld => ?_)
            refine wpAnyH_take (i := 0) (oi := ({ dst := some 48, op := Go.Op.load 23 (Go.Operand.tmp 5), type := 23, pos := "law.go:119", after := #[], guard := none } : Oper)) (v := .agg vl.toArray) rfl (by kernel_rfl) (by kernel_rfl) (by kernel_rfl) (fun _ _ _ h => h) (yieldsIf_load_mid (by rfl) _ _ rfl _ _ rfl _ _ (fun W h => RV.out W h) hu rfl HSV.out) hHeld ?_
            simp only [Act.put, List.setIfInBounds_toArray, List.set_cons_zero, List.set_cons_succ]
            refine wpAnyH_ready (rs := [1]) (by kernel_rfl) (by simp) ?_
            refine AllReadyH.cons (o := ({ dst := some 49, op := Go.Op.call { callee := Go.Callee.value (Go.Operand.func 8), args := #[Go.Operand.tmp 48], argTypes := #[23] }, type := 4, pos := "law.go:119", after := #[{ on := 0, ground := Go.Ground.data }], guard := none } : Oper)) rfl (fun K hK => ?_) AllReadyH.nil
            go_simp
            go_at_call 8
            refine (H4V.out _).mono ?_
            rintro e' w11 ⟨rfl, hw11⟩
            refine hK.out _ _ (hHeld.trans (hw11.mono hHeld.size)) (fun hHeld1 => ?_)
            clear hK K
            refine wpAnyH_take (i := 2) (oi := ({ dst := some 50, op := Go.Op.move (Go.Operand.tmp 49), type := 4, pos := "law.go:119", after := #[{ on := 1, ground := Go.Ground.data }, { on := 1, ground := Go.Ground.chain }], guard := none } : Oper)) (v := .bool true) rfl (by kernel_rfl) (by kernel_rfl) (by kernel_rfl) (fun _ _ _ h => h) (Or.inl ⟨by rfl, fun w' _ => ?_⟩) hHeld1 ?_
            · go_simp
            simp only [Act.put, List.setIfInBounds_toArray, List.set_cons_zero, List.set_cons_succ]
            refine wpAnyH_take (i := 3) (oi := ({ dst := some 51, op := Go.Op.indexAddr 23 (Go.Operand.tmp 5) (Go.Operand.const (Go.Value.int Go.IntKind.i64 12)), type := 0, pos := "law.go:119", after := #[{ on := 2, ground := Go.Ground.guard }], guard := some (2, true) } : Oper)) (v := .pointer (some ⟨nv, 12, none⟩)) rfl (by kernel_rfl) (by kernel_rfl) (by kernel_rfl) (fun _ _ _ h => h) (Or.inl ⟨by rfl, fun w' _ => ?_⟩) hHeld1 ?_
            · go_simp
            simp only [Act.put, List.setIfInBounds_toArray, List.set_cons_zero, List.set_cons_succ]
            refine wpAnyH_take (i := 4) (oi := ({ dst := some 52, op := Go.Op.load 5 (Go.Operand.tmp 51), type := 5, pos := "law.go:119", after := #[{ on := 3, ground := Go.Ground.data }, { on := 2, ground := Go.Ground.guard }], guard := some (2, true) } : Oper)) (v := .int .u8 x0.toNat) rfl (by kernel_rfl) (by kernel_rfl) (by kernel_rfl) (fun _ _ _ h => h) (Or.inl ⟨by rfl, fun w' hS' => ?_⟩) hHeld1 ?_
            · have hcell := V12.out _ hS'
              go_simp
            simp only [Act.put, List.setIfInBounds_toArray, List.set_cons_zero, List.set_cons_succ]
            refine wpAnyH_take (i := 5) (oi := ({ dst := some 53, op := Go.Op.indexAddr 32 (Go.Operand.tmp 2) (Go.Operand.const (Go.Value.int Go.IntKind.i64 0)), type := 0, pos := "law.go:119", after := #[{ on := 2, ground := Go.Ground.guard }], guard := some (2, true) } : Oper)) (v := .pointer (some ⟨nb, 0, none⟩)) rfl (by kernel_rfl) (by kernel_rfl) (by kernel_rfl) (fun _ _ _ h => h) (Or.inl ⟨by rfl, fun w' _ => ?_⟩) hHeld1 ?_
            · go_simp
            simp only [Act.put, List.setIfInBounds_toArray, List.set_cons_zero, List.set_cons_succ]
            refine wpAnyH_take (i := 6) (oi := ({ dst := some 54, op := Go.Op.load 5 (Go.Operand.tmp 53), type := 5, pos := "law.go:119", after := #[{ on := 5, ground := Go.Ground.data }, { on := 2, ground := Go.Ground.guard }], guard := some (2, true) } : Oper)) (v := .int .u8 x0.toNat) rfl (by kernel_rfl) (by kernel_rfl) (by kernel_rfl) (fun _ _ _ h => h) (Or.inl ⟨by rfl, fun w' hS' => ?_⟩) hHeld1 ?_
            · have hcell := B0.out _ hS'
              go_simp
            simp only [Act.put, List.setIfInBounds_toArray, List.set_cons_zero, List.set_cons_succ]
            refine wpAnyH_take (i := 7) (oi := ({ dst := some 55, op := Go.Op.binOp Go.BinOp.eql 5 (Go.Operand.tmp 52) (Go.Operand.tmp 54) 5, type := 4, pos := "law.go:119", after := #[{ on := 4, ground := Go.Ground.data }, { on := 6, ground := Go.Ground.data }, { on := 2, ground := Go.Ground.guard }], guard := some (2, true) } : Oper)) (v := .bool true) rfl (by kernel_rfl) (by kernel_rfl) (by kernel_rfl) (fun _ _ _ h => h) (Or.inl ⟨by rfl, fun w' _ => ?_⟩) hHeld1 ?_
            · go_simp
            simp only [Act.put, List.setIfInBounds_toArray, List.set_cons_zero, List.set_cons_succ]
            refine wpAnyH_take (i := 8) (oi := ({ dst := some 56, op := Go.Op.pick (Go.Operand.tmp 50) (Go.Operand.tmp 55) (Go.Operand.const (Go.Value.bool false)), type := 4, pos := "law.go:119", after := #[{ on := 2, ground := Go.Ground.data }, { on := 7, ground := Go.Ground.data }], guard := none } : Oper)) (v := .bool true) rfl (by kernel_rfl) (by kernel_rfl) (by kernel_rfl) (fun _ _ _ h => h) (Or.inl ⟨by rfl, fun w' _ => ?_⟩) hHeld1 ?_
            · go_simp
            simp only [Act.put, List.setIfInBounds_toArray, List.set_cons_zero, List.set_cons_succ]
            refine wpAnyH_take (i := 9) (oi := ({ dst := some 57, op := Go.Op.move (Go.Operand.tmp 56), type := 4, pos := "law.go:119", after := #[{ on := 8, ground := Go.Ground.data }, { on := 2, ground := Go.Ground.chain }], guard := none } : Oper)) (v := .bool true) rfl (by kernel_rfl) (by kernel_rfl) (by kernel_rfl) (fun _ _ _ h => h) (Or.inl ⟨by rfl, fun w' _ => ?_⟩) hHeld1 ?_
            · go_simp
            simp only [Act.put, List.setIfInBounds_toArray, List.set_cons_zero, List.set_cons_succ]
            refine wpAnyH_take (i := 10) (oi := ({ dst := some 58, op := Go.Op.indexAddr 23 (Go.Operand.tmp 5) (Go.Operand.const (Go.Value.int Go.IntKind.i64 15)), type := 0, pos := "law.go:119", after := #[{ on := 9, ground := Go.Ground.guard }], guard := some (9, true) } : Oper)) (v := .pointer (some ⟨nv, 15, none⟩)) rfl (by kernel_rfl) (by kernel_rfl) (by kernel_rfl) (fun _ _ _ h => h) (Or.inl ⟨by rfl, fun w' _ => ?_⟩) hHeld1 ?_
            · go_simp
            simp only [Act.put, List.setIfInBounds_toArray, List.set_cons_zero, List.set_cons_succ]
            refine wpAnyH_take (i := 11) (oi := ({ dst := some 59, op := Go.Op.load 5 (Go.Operand.tmp 58), type := 5, pos := "law.go:119", after := #[{ on := 10, ground := Go.Ground.data }, { on := 9, ground := Go.Ground.guard }], guard := some (9, true) } : Oper)) (v := .int .u8 x3.toNat) rfl (by kernel_rfl) (by kernel_rfl) (by kernel_rfl) (fun _ _ _ h => h) (Or.inl ⟨by rfl, fun w' hS' => ?_⟩) hHeld1 ?_
            · have hcell := V15.out _ hS'
              go_simp
            simp only [Act.put, List.setIfInBounds_toArray, List.set_cons_zero, List.set_cons_succ]
            refine wpAnyH_take (i := 12) (oi := ({ dst := some 60, op := Go.Op.indexAddr 32 (Go.Operand.tmp 2) (Go.Operand.const (Go.Value.int Go.IntKind.i64 3)), type := 0, pos := "law.go:119", after := #[{ on := 9, ground := Go.Ground.guard }], guard := some (9, true) } : Oper)) (v := .pointer (some ⟨nb, 3, none⟩)) rfl (by kernel_rfl) (by kernel_rfl) (by kernel_rfl) (fun _ _ _ h => h) (Or.inl ⟨by rfl, fun w' _ => ?_⟩) hHeld1 ?_
            · go_simp
            simp only [Act.put, List.setIfInBounds_toArray, List.set_cons_zero, List.set_cons_succ]
            refine wpAnyH_take (i := 13) (oi := ({ dst := some 61, op := Go.Op.load 5 (Go.Operand.tmp 60), type := 5, pos := "law.go:119", after := #[{ on := 12, ground := Go.Ground.data }, { on := 9, ground := Go.Ground.guard }], guard := some (9, true) } : Oper)) (v := .int .u8 x3.toNat) rfl (by kernel_rfl) (by kernel_rfl) (by kernel_rfl) (fun _ _ _ h => h) (Or.inl ⟨by rfl, fun w' hS' => ?_⟩) hHeld1 ?_
            · have hcell := B3.out _ hS'
              go_simp
            simp only [Act.put, List.setIfInBounds_toArray, List.set_cons_zero, List.set_cons_succ]
            refine wpAnyH_take (i := 14) (oi := ({ dst := some 62, op := Go.Op.binOp Go.BinOp.eql 5 (Go.Operand.tmp 59) (Go.Operand.tmp 61) 5, type := 4, pos := "law.go:119", after := #[{ on := 11, ground := Go.Ground.data }, { on := 13, ground := Go.Ground.data }, { on := 9, ground := Go.Ground.guard }], guard := some (9, true) } : Oper)) (v := .bool true) rfl (by kernel_rfl) (by kernel_rfl) (by kernel_rfl) (fun _ _ _ h => h) (Or.inl ⟨by rfl, fun w' _ => ?_⟩) hHeld1 ?_
            · go_simp
            simp only [Act.put, List.setIfInBounds_toArray, List.set_cons_zero, List.set_cons_succ]
            refine wpAnyH_take (i := 15) (oi := ({ dst := some 63, op := Go.Op.pick (Go.Operand.tmp 57) (Go.Operand.tmp 62) (Go.Operand.const (Go.Value.bool false)), type := 4, pos := "law.go:119", after := #[{ on := 9, ground := Go.Ground.data }, { on := 14, ground := Go.Ground.data }], guard := none } : Oper)) (v := .bool true) rfl (by kernel_rfl) (by kernel_rfl) (by kernel_rfl) (fun _ _ _ h => h) (Or.inl ⟨by rfl, fun w' _ => ?_⟩) hHeld1 ?_
            · go_simp
            simp only [Act.put, List.setIfInBounds_toArray, List.set_cons_zero, List.set_cons_succ]
            refine wpAnyH_take (i := 16) (oi := ({ dst := some 64, op := Go.Op.move (Go.Operand.tmp 63), type := 4, pos := "law.go:119", after := #[{ on := 15, ground := Go.Ground.data }, { on := 9, ground := Go.Ground.chain }], guard := none } : Oper)) (v := .bool true) rfl (by kernel_rfl) (by kernel_rfl) (by kernel_rfl) (fun _ _ _ h => h) (Or.inl ⟨by rfl, fun w' _ => ?_⟩) hHeld1 ?_
            · go_simp
            simp only [Act.put, List.setIfInBounds_toArray, List.set_cons_zero, List.set_cons_succ]
            refine wpAnyH_take (i := 17) (oi := ({ dst := some 65, op := Go.Op.load 23 (Go.Operand.tmp 3), type := 23, pos := "law.go:119", after := #[{ on := 16, ground := Go.Ground.guard }], guard := some (16, true) } : Oper)) (v := .agg al.toArray) rfl (by kernel_rfl) (by kernel_rfl) (by kernel_rfl) (fun _ _ _ h => h) (yieldsIf_load_mid (by rfl) _ _ rfl _ _ rfl _ _ (fun W h => RA.out W h) hu rfl HSA.out) hHeld1 ?_
            simp only [Act.put, List.setIfInBounds_toArray, List.set_cons_zero, List.set_cons_succ]
            refine wpAnyH_take (i := 19) (oi := ({ dst := some 67, op := Go.Op.move (Go.Operand.tmp 6), type := 4, pos := "law.go:119", after := #[{ on := 16, ground := Go.Ground.guard }], guard := some (16, true) } : Oper)) (v := .bool true) rfl (by kernel_rfl) (by kernel_rfl) (by kernel_rfl) (fun _ _ _ h => h) (Or.inl ⟨by rfl, fun w' _ => ?_⟩) hHeld1 ?_
            · go_simp
            simp only [Act.put, List.setIfInBounds_toArray, List.set_cons_zero, List.set_cons_succ]
            refine wpAnyH_ready (rs := [18]) (by kernel_rfl) (by simp) ?_
            refine AllReadyH.cons (o := ({ dst := some 66, op := Go.Op.call { callee := Go.Callee.value (Go.Operand.func 8), args := #[Go.Operand.tmp 65], argTypes := #[23] }, type := 4, pos := "law.go:119", after := #[{ on := 17, ground := Go.Ground.data }, { on := 16, ground := Go.Ground.chain }, { on := 16, ground := Go.Ground.guard }], guard := some (16, true) } : Oper)) rfl (fun K hK => ?_) AllReadyH.nil
            go_simp
            go_at_call 8
            refine (H4A.out _).mono ?_
            rintro e' w12 ⟨rfl, hw12⟩
            refine hK.out _ _ (hHeld1.trans (hw12.mono hHeld1.size)) (fun hHeld2 => ?_)
            clear hK K
            refine wpAnyH_take (i := 20) (oi := ({ dst := some 68, op := Go.Op.binOp Go.BinOp.eql 4 (Go.Operand.tmp 66) (Go.Operand.tmp 67) 4, type := 4, pos := "law.go:119", after := #[{ on := 18, ground := Go.Ground.data }, { on := 19, ground := Go.Ground.data }, { on := 16, ground := Go.Ground.guard }], guard := some (16, true) } : Oper)) (v := .bool true) rfl (by kernel_rfl) (by kernel_rfl) (by kernel_rfl) (fun _ _ _ h => h) (Or.inl ⟨by rfl, fun w' _ => ?_⟩) hHeld2 ?_
            · go_simp
            simp only [Act.put, List.setIfInBounds_toArray, List.set_cons_zero, List.set_cons_succ]
            refine wpAnyH_take (i := 21) (oi := ({ dst := some 69, op := Go.Op.pick (Go.Operand.tmp 64) (Go.Operand.tmp 68) (Go.Operand.const (Go.Value.bool false)), type := 4, pos := "law.go:119", after := #[{ on := 16, ground := Go.Ground.data }, { on := 20, ground := Go.Ground.data }], guard := none } : Oper)) (v := .bool true) rfl (by kernel_rfl) (by kernel_rfl) (by kernel_rfl) (fun _ _ _ h => h) (Or.inl ⟨by rfl, fun w' _ => ?_⟩) hHeld2 ?_
            · go_simp
            simp only [Act.put, List.setIfInBounds_toArray, List.set_cons_zero, List.set_cons_succ]
            refine wpAnyH_take (i := 22) (oi := ({ dst := some 70, op := Go.Op.move (Go.Operand.tmp 69), type := 4, pos := "law.go:119", after := #[{ on := 21, ground := Go.Ground.data }, { on := 18, ground := Go.Ground.chain }], guard := none } : Oper)) (v := .bool true) rfl (by kernel_rfl) (by kernel_rfl) (by kernel_rfl) (fun _ _ _ h => h) (Or.inl ⟨by rfl, fun w' _ => ?_⟩) hHeld2 ?_
            · go_simp
            simp only [Act.put, List.setIfInBounds_toArray, List.set_cons_zero, List.set_cons_succ]
            refine wpAnyH_take (i := 23) (oi := ({ dst := some 71, op := Go.Op.move (Go.Operand.tmp 10), type := 34, pos := "law.go:119", after := #[{ on := 22, ground := Go.Ground.guard }], guard := some (22, true) } : Oper)) (v := .int .i64 0) rfl (by kernel_rfl) (by kernel_rfl) (by kernel_rfl) (fun _ _ _ h => h) (Or.inl ⟨by rfl, fun w' _ => ?_⟩) hHeld2 ?_
            · go_simp
            simp only [Act.put, List.setIfInBounds_toArray, List.set_cons_zero, List.set_cons_succ]
            refine wpAnyH_take (i := 24) (oi := ({ dst := some 72, op := Go.Op.binOp Go.BinOp.eql 34 (Go.Operand.tmp 71) (Go.Operand.const (Go.Value.int Go.IntKind.i64 0)) 34, type := 4, pos := "law.go:119", after := #[{ on := 23, ground := Go.Ground.data }, { on := 22, ground := Go.Ground.guard }], guard := some (22, true) } : Oper)) (v := .bool true) rfl (by kernel_rfl) (by kernel_rfl) (by kernel_rfl) (fun _ _ _ h => h) (Or.inl ⟨by rfl, fun w' _ => ?_⟩) hHeld2 ?_
            · go_simp
            simp only [Act.put, List.setIfInBounds_toArray, List.set_cons_zero, List.set_cons_succ]
            refine wpAnyH_take (i := 25) (oi := ({ dst := some 73, op := Go.Op.pick (Go.Operand.tmp 70) (Go.Operand.tmp 72) (Go.Operand.const (Go.Value.bool false)), type := 4, pos := "law.go:119", after := #[{ on := 22, ground := Go.Ground.data }, { on := 24, ground := Go.Ground.data }], guard := none } : Oper)) (v := .bool true) rfl (by kernel_rfl) (by kernel_rfl) (by kernel_rfl) (fun _ _ _ h => h) (Or.inl ⟨by rfl, fun w' _ => ?_⟩) hHeld2 ?_
            · go_simp
            simp only [Act.put, List.setIfInBounds_toArray, List.set_cons_zero, List.set_cons_succ]
            refine wpAnyH_take (i := 26) (oi := ({ dst := some 74, op := Go.Op.move (Go.Operand.tmp 73), type := 4, pos := "law.go:119", after := #[{ on := 25, ground := Go.Ground.data }, { on := 22, ground := Go.Ground.chain }], guard := none } : Oper)) (v := .bool true) rfl (by kernel_rfl) (by kernel_rfl) (by kernel_rfl) (fun _ _ _ h => h) (Or.inl ⟨by rfl, fun w' _ => ?_⟩) hHeld2 ?_
            · go_simp
            simp only [Act.put, List.setIfInBounds_toArray, List.set_cons_zero, List.set_cons_succ]
            refine wpAnyH_take (i := 27) (oi := ({ dst := some 75, op := Go.Op.load 23 (Go.Operand.tmp 9), type := 23, pos := "law.go:119", after := #[{ on := 26, ground := Go.Ground.guard }], guard := some (26, true) } : Oper)) (v := .agg vl.toArray) rfl (by kernel_rfl) (by kernel_rfl) (by kernel_rfl) (fun _ _ _ h => h) (yieldsIf_load_mid (by rfl) _ _ rfl _ _ rfl _ _ (fun W h => RW.out W h) hu rfl HSV.out) hHeld2 ?_
            simp only [Act.put, List.setIfInBounds_toArray, List.set_cons_zero, List.set_cons_succ]
            refine wpAnyH_take (i := 28) (oi := ({ dst := some 76, op := Go.Op.load 23 (Go.Operand.tmp 5), type := 23, pos := "law.go:119", after := #[{ on := 26, ground := Go.Ground.guard }], guard := some (26, true) } : Oper)) (v := .agg vl.toArray) rfl (by kernel_rfl) (by kernel_rfl) (by kernel_rfl) (fun _ _ _ h => h) (yieldsIf_load_mid (by rfl) _ _ rfl _ _ rfl _ _ (fun W h => RV.out W h) hu rfl HSV.out) hHeld2 ?_
            simp only [Act.put, List.setIfInBounds_toArray, List.set_cons_zero, List.set_cons_succ]
            refine wpAnyH_take (i := 29) (oi := ({ dst := some 77, op := Go.Op.binOp Go.BinOp.eql 23 (Go.Operand.tmp 75) (Go.Operand.tmp 76) 23, type := 4, pos := "law.go:119", after := #[{ on := 27, ground := Go.Ground.data }, { on := 28, ground := Go.Ground.data }, { on := 26, ground := Go.Ground.guard }], guard := some (26, true) } : Oper)) (v := .bool true) rfl (by kernel_rfl) (by kernel_rfl) (by kernel_rfl) (fun _ _ _ h => h) (Or.inl ⟨by rfl, fun w' _ => ?_⟩) hHeld2 ?_
            · go_simp
            simp only [Act.put, List.setIfInBounds_toArray, List.set_cons_zero, List.set_cons_succ]
            refine wpAnyH_take (i := 30) (oi := ({ dst := some 78, op := Go.Op.pick (Go.Operand.tmp 74) (Go.Operand.tmp 77) (Go.Operand.const (Go.Value.bool false)), type := 4, pos := "law.go:119", after := #[{ on := 26, ground := Go.Ground.data }, { on := 29, ground := Go.Ground.data }], guard := none } : Oper)) (v := .bool true) rfl (by kernel_rfl) (by kernel_rfl) (by kernel_rfl) (fun _ _ _ h => h) (Or.inl ⟨by rfl, fun w' _ => ?_⟩) hHeld2 ?_
            · go_simp
            simp only [Act.put, List.setIfInBounds_toArray, List.set_cons_zero, List.set_cons_succ]
            refine wpAnyH_take (i := 31) (oi := ({ dst := some 79, op := Go.Op.move (Go.Operand.tmp 78), type := 4, pos := "law.go:119", after := #[{ on := 30, ground := Go.Ground.data }, { on := 26, ground := Go.Ground.chain }], guard := none } : Oper)) (v := .bool true) rfl (by kernel_rfl) (by kernel_rfl) (by kernel_rfl) (fun _ _ _ h => h) (Or.inl ⟨by rfl, fun w' _ => ?_⟩) hHeld2 ?_
            · go_simp
            simp only [Act.put, List.setIfInBounds_toArray, List.set_cons_zero, List.set_cons_succ]
            refine wpAnyH_take (i := 32) (oi := ({ dst := some 80, op := Go.Op.move (Go.Operand.tmp 6), type := 4, pos := "law.go:119", after := #[{ on := 31, ground := Go.Ground.guard }], guard := some (31, true) } : Oper)) (v := .bool true) rfl (by kernel_rfl) (by kernel_rfl) (by kernel_rfl) (fun _ _ _ h => h) (Or.inl ⟨by rfl, fun w' _ => ?_⟩) hHeld2 ?_
            · go_simp
            simp only [Act.put, List.setIfInBounds_toArray, List.set_cons_zero, List.set_cons_succ]
            refine wpAnyH_take (i := 33) (oi := ({ dst := some 81, op := Go.Op.unOp Go.UnOp.not 4 (Go.Operand.tmp 80), type := 4, pos := "law.go:119", after := #[{ on := 32, ground := Go.Ground.data }, { on := 31, ground := Go.Ground.guard }], guard := some (31, true) } : Oper)) (v := .bool false) rfl (by kernel_rfl) (by kernel_rfl) (by kernel_rfl) (fun _ _ _ h => h) (Or.inl ⟨by rfl, fun w' _ => ?_⟩) hHeld2 ?_
            · go_simp
            simp only [Act.put, List.setIfInBounds_toArray, List.set_cons_zero, List.set_cons_succ]
            refine wpAnyH_take (i := 34) (oi := ({ dst := some 82, op := Go.Op.move (Go.Operand.tmp 81), type := 4, pos := "law.go:119", after := #[{ on := 33, ground := Go.Ground.data }, { on := 31, ground := Go.Ground.chain }, { on := 31, ground := Go.Ground.guard }], guard := some (31, true) } : Oper)) (v := .bool false) rfl (by kernel_rfl) (by kernel_rfl) (by kernel_rfl) (fun _ _ _ h => h) (Or.inl ⟨by rfl, fun w' _ => ?_⟩) hHeld2 ?_
            · go_simp
            simp only [Act.put, List.setIfInBounds_toArray, List.set_cons_zero, List.set_cons_succ]
            refine wpAnyH_take (i := 35) (oi := ({ dst := some 83, op := Go.Op.indexAddr 23 (Go.Operand.tmp 3) (Go.Operand.const (Go.Value.int Go.IntKind.i64 12)), type := 0, pos := "law.go:119", after := #[{ on := 34, ground := Go.Ground.guard }], guard := some (34, false) } : Oper)) (v := .pointer (some ⟨na, 12, none⟩)) rfl (by kernel_rfl) (by kernel_rfl) (by kernel_rfl) (fun _ _ _ h => h) (Or.inl ⟨by rfl, fun w' _ => ?_⟩) hHeld2 ?_
            · go_simp
            simp only [Act.put, List.setIfInBounds_toArray, List.set_cons_zero, List.set_cons_succ]
            refine wpAnyH_take (i := 36) (oi := ({ dst := some 84, op := Go.Op.load 5 (Go.Operand.tmp 83), type := 5, pos := "law.go:119", after := #[{ on := 35, ground := Go.Ground.data }, { on := 34, ground := Go.Ground.guard }], guard := some (34, false) } : Oper)) (v := .int .u8 y12.toNat) rfl (by kernel_rfl) (by kernel_rfl) (by kernel_rfl) (fun _ _ _ h => h) (Or.inl ⟨by rfl, fun w' hS' => ?_⟩) hHeld2 ?_
            · have hcell := A12.out _ hS'
              go_simp
            simp only [Act.put, List.setIfInBounds_toArray, List.set_cons_zero, List.set_cons_succ]
            refine wpAnyH_take (i := 37) (oi := ({ dst := some 85, op := Go.Op.indexAddr 23 (Go.Operand.tmp 3) (Go.Operand.const (Go.Value.int Go.IntKind.i64 13)), type := 0, pos := "law.go:119", after := #[{ on := 34, ground := Go.Ground.guard }], guard := some (34, false) } : Oper)) (v := .pointer (some ⟨na, 13, none⟩)) rfl (by kernel_rfl) (by kernel_rfl) (by kernel_rfl) (fun _ _ _ h => h) (Or.inl ⟨by rfl, fun w' _ => ?_⟩) hHeld2 ?_
            · go_simp
            simp only [Act.put, List.setIfInBounds_toArray, List.set_cons_zero, List.set_cons_succ]
            refine wpAnyH_take (i := 38) (oi := ({ dst := some 86, op := Go.Op.load 5 (Go.Operand.tmp 85), type := 5, pos := "law.go:119", after := #[{ on := 37, ground := Go.Ground.data }, { on := 34, ground := Go.Ground.guard }], guard := some (34, false) } : Oper)) (v := .int .u8 y13.toNat) rfl (by kernel_rfl) (by kernel_rfl) (by kernel_rfl) (fun _ _ _ h => h) (Or.inl ⟨by rfl, fun w' hS' => ?_⟩) hHeld2 ?_
            · have hcell := A13.out _ hS'
              go_simp
            simp only [Act.put, List.setIfInBounds_toArray, List.set_cons_zero, List.set_cons_succ]
            refine wpAnyH_take (i := 39) (oi := ({ dst := some 87, op := Go.Op.indexAddr 23 (Go.Operand.tmp 3) (Go.Operand.const (Go.Value.int Go.IntKind.i64 14)), type := 0, pos := "law.go:119", after := #[{ on := 34, ground := Go.Ground.guard }], guard := some (34, false) } : Oper)) (v := .pointer (some ⟨na, 14, none⟩)) rfl (by kernel_rfl) (by kernel_rfl) (by kernel_rfl) (fun _ _ _ h => h) (Or.inl ⟨by rfl, fun w' _ => ?_⟩) hHeld2 ?_
            · go_simp
            simp only [Act.put, List.setIfInBounds_toArray, List.set_cons_zero, List.set_cons_succ]
            refine wpAnyH_take (i := 40) (oi := ({ dst := some 88, op := Go.Op.load 5 (Go.Operand.tmp 87), type := 5, pos := "law.go:119", after := #[{ on := 39, ground := Go.Ground.data }, { on := 34, ground := Go.Ground.guard }], guard := some (34, false) } : Oper)) (v := .int .u8 y14.toNat) rfl (by kernel_rfl) (by kernel_rfl) (by kernel_rfl) (fun _ _ _ h => h) (Or.inl ⟨by rfl, fun w' hS' => ?_⟩) hHeld2 ?_
            · have hcell := A14.out _ hS'
              go_simp
            simp only [Act.put, List.setIfInBounds_toArray, List.set_cons_zero, List.set_cons_succ]
            refine wpAnyH_take (i := 41) (oi := ({ dst := some 89, op := Go.Op.indexAddr 23 (Go.Operand.tmp 3) (Go.Operand.const (Go.Value.int Go.IntKind.i64 15)), type := 0, pos := "law.go:119", after := #[{ on := 34, ground := Go.Ground.guard }], guard := some (34, false) } : Oper)) (v := .pointer (some ⟨na, 15, none⟩)) rfl (by kernel_rfl) (by kernel_rfl) (by kernel_rfl) (fun _ _ _ h => h) (Or.inl ⟨by rfl, fun w' _ => ?_⟩) hHeld2 ?_
            · go_simp
            simp only [Act.put, List.setIfInBounds_toArray, List.set_cons_zero, List.set_cons_succ]
            refine wpAnyH_take (i := 42) (oi := ({ dst := some 90, op := Go.Op.load 5 (Go.Operand.tmp 89), type := 5, pos := "law.go:119", after := #[{ on := 41, ground := Go.Ground.data }, { on := 34, ground := Go.Ground.guard }], guard := some (34, false) } : Oper)) (v := .int .u8 y15.toNat) rfl (by kernel_rfl) (by kernel_rfl) (by kernel_rfl) (fun _ _ _ h => h) (Or.inl ⟨by rfl, fun w' hS' => ?_⟩) hHeld2 ?_
            · have hcell := A15.out _ hS'
              go_simp
            simp only [Act.put, List.setIfInBounds_toArray, List.set_cons_zero, List.set_cons_succ]
            refine wpAnyH_take (i := 44) (oi := ({ dst := some 92, op := Go.Op.load 23 (Go.Operand.tmp 3), type := 23, pos := "law.go:119", after := #[{ on := 34, ground := Go.Ground.guard }], guard := some (34, false) } : Oper)) (v := .agg al.toArray) rfl (by kernel_rfl) (by kernel_rfl) (by kernel_rfl) (fun _ _ _ h => h) (yieldsIf_load_mid (by rfl) _ _ rfl _ _ rfl _ _ (fun W h => RA.out W h) hu rfl HSA.out) hHeld2 ?_
            simp only [Act.put, List.setIfInBounds_toArray, List.set_cons_zero, List.set_cons_succ]
            refine wpAnyH_ready (rs := [43]) (by kernel_rfl) (by simp) ?_
            refine AllReadyH.cons (o := ({ dst := some 91, op := Go.Op.call { callee := Go.Callee.value (Go.Operand.func 12), args := #[Go.Operand.tmp 84, Go.Operand.tmp 86, Go.Operand.tmp 88, Go.Operand.tmp 90], argTypes := #[5, 5, 5, 5] }, type := 23, pos := "law.go:119", after := #[{ on := 36, ground := Go.Ground.data }, { on := 38, ground := Go.Ground.data }, { on := 40, ground := Go.Ground.data }, { on := 42, ground := Go.Ground.data }, { on := 34, ground := Go.Ground.chain }, { on := 34, ground := Go.Ground.guard }], guard := some (34, false) } : Oper)) rfl (fun K hK => ?_) AllReadyH.nil
            go_simp
            go_at_call 12
            refine (HFB.out _).mono ?_
            rintro e' w13 ⟨rfl, hw13⟩
            refine hK.out _ _ (hHeld2.trans (hw13.mono hHeld2.size)) (fun hHeld3 => ?_)
            clear hK K
            refine wpAnyH_take (i := 45) (oi := ({ dst := some 93, op := Go.Op.binOp Go.BinOp.eql 23 (Go.Operand.tmp 91) (Go.Operand.tmp 92) 23, type := 4, pos := "law.go:119", after := #[{ on := 43, ground := Go.Ground.data }, { on := 44, ground := Go.Ground.data }, { on := 34, ground := Go.Ground.guard }], guard := some (34, false) } : Oper)) (v := .bool true) rfl (by kernel_rfl) (by kernel_rfl) (by kernel_rfl) (fun _ _ _ h => h) (Or.inl ⟨by rfl, fun w' _ => ?_⟩) hHeld3 ?_
            · go_simp
            simp only [Act.put, List.setIfInBounds_toArray, List.set_cons_zero, List.set_cons_succ]
            refine wpAnyH_take (i := 46) (oi := ({ dst := some 94, op := Go.Op.pick (Go.Operand.tmp 82) (Go.Operand.const (Go.Value.bool true)) (Go.Operand.tmp 93), type := 4, pos := "law.go:119", after := #[{ on := 34, ground := Go.Ground.data }, { on := 45, ground := Go.Ground.data }, { on := 31, ground := Go.Ground.guard }], guard := some (31, true) } : Oper)) (v := .bool true) rfl (by kernel_rfl) (by kernel_rfl) (by kernel_rfl) (fun _ _ _ h => h) (Or.inl ⟨by rfl, fun w' _ => ?_⟩) hHeld3 ?_
            · go_simp
            simp only [Act.put, List.setIfInBounds_toArray, List.set_cons_zero, List.set_cons_succ]
            refine wpAnyH_take (i := 47) (oi := ({ dst := some 95, op := Go.Op.pick (Go.Operand.tmp 79) (Go.Operand.tmp 94) (Go.Operand.const (Go.Value.bool false)), type := 4, pos := "law.go:119", after := #[{ on := 31, ground := Go.Ground.data }, { on := 46, ground := Go.Ground.data }], guard := none } : Oper)) (v := .bool true) rfl (by kernel_rfl) (by kernel_rfl) (by kernel_rfl) (fun _ _ _ h => h) (Or.inl ⟨by rfl, fun w' _ => ?_⟩) hHeld3 ?_
            · go_simp
            simp only [Act.put, List.setIfInBounds_toArray, List.set_cons_zero, List.set_cons_succ]
            refine wpAnyH_take (i := 48) (oi := ({ dst := some 4, op := Go.Op.assign (Go.Operand.tmp 95), type := 4, pos := "law.go:119", after := #[{ on := 47, ground := Go.Ground.data }, { on := 43, ground := Go.Ground.chain }, { on := 0, ground := Go.Ground.phase }, { on := 1, ground := Go.Ground.phase }, { on := 2, ground := Go.Ground.phase }, { on := 3, ground := Go.Ground.phase }, { on := 4, ground := Go.Ground.phase }, { on := 5, ground := Go.Ground.phase }, { on := 6, ground := Go.Ground.phase }, { on := 7, ground := Go.Ground.phase }, { on := 8, ground := Go.Ground.phase }, { on := 9, ground := Go.Ground.phase }, { on := 10, ground := Go.Ground.phase }, { on := 11, ground := Go.Ground.phase }, { on := 12, ground := Go.Ground.phase }, { on := 13, ground := Go.Ground.phase }, { on := 14, ground := Go.Ground.phase }, { on := 15, ground := Go.Ground.phase }, { on := 16, ground := Go.Ground.phase }, { on := 17, ground := Go.Ground.phase }, { on := 18, ground := Go.Ground.phase }, { on := 19, ground := Go.Ground.phase }, { on := 20, ground := Go.Ground.phase }, { on := 21, ground := Go.Ground.phase }, { on := 22, ground := Go.Ground.phase }, { on := 23, ground := Go.Ground.phase }, { on := 24, ground := Go.Ground.phase }, { on := 25, ground := Go.Ground.phase }, { on := 26, ground := Go.Ground.phase }, { on := 27, ground := Go.Ground.phase }, { on := 28, ground := Go.Ground.phase }, { on := 29, ground := Go.Ground.phase }, { on := 30, ground := Go.Ground.phase }, { on := 31, ground := Go.Ground.phase }, { on := 32, ground := Go.Ground.phase }, { on := 33, ground := Go.Ground.phase }, { on := 34, ground := Go.Ground.phase }, { on := 35, ground := Go.Ground.phase }, { on := 36, ground := Go.Ground.phase }, { on := 37, ground := Go.Ground.phase }, { on := 38, ground := Go.Ground.phase }, { on := 39, ground := Go.Ground.phase }, { on := 40, ground := Go.Ground.phase }, { on := 41, ground := Go.Ground.phase }, { on := 42, ground := Go.Ground.phase }, { on := 43, ground := Go.Ground.phase }, { on := 44, ground := Go.Ground.phase }, { on := 45, ground := Go.Ground.phase }, { on := 46, ground := Go.Ground.phase }, { on := 47, ground := Go.Ground.phase }], guard := none } : Oper)) (v := .bool true) rfl (by kernel_rfl) (by kernel_rfl) (by kernel_rfl) (fun _ _ _ h => h) (Or.inl ⟨by rfl, fun w' _ => ?_⟩) hHeld3 ?_
            · go_simp
            simp only [Act.put, List.setIfInBounds_toArray, List.set_cons_zero, List.set_cons_succ]
            refine wpAnyH_done (by kernel_rfl) ?_ _
            have HBn := Lib.hid (HB8.out.trans (hHeld3.mono HB8.out.size))
            go_wp2_with fail
            go_ret
            first
              | exact ⟨rfl, HBn.out⟩
              | exact ⟨rfl, by rw [← hnb]; exact HBn.out⟩
    · have e11B : ((y11.toNat : Int) == 255) = false := beq_eq_false_iff_ne.2 e11
      go_wp2_with (first
        | (refine wpList_alloc_z rfl 23 rfl Z ZA.out ?_; go_simp)
        | (refine wpList_store_new rfl 23 (.tmp 5) (.tmp 21) rfl w2.heap.size rfl Z vr 23 rfl rfl HVS.out HVZ.out HV1.out ?_; go_simp))
      generalize (w2.alloc (.cells vr 23)) = w3 at HB3 HE3 GA3 GB3 GV3 ⊢
      generalize w2.heap.size = nv at GV3 hw2 ⊢
      clear c10 c11
      go_loopg [32, 8, 6] 10 (fun gk i _ q wr => ∃ (k : Nat) (b : Bool), i = .int .i64 k ∧ k + gk = 10 ∧ q = .bool b ∧ Hid (b = wantTo a k) ∧ Hid (Below w3.heap.size w3 wr))
      case atStart => exact ⟨0, false, rfl, by simp, rfl, Lib.hid (by rw [HW0.out]; simp [h11]), Lib.hid (Below.refl _ _)⟩
      case round =>
        obtain ⟨k, q, rfl, hk, rfl, HQ, HBW⟩ := hrel
        by_cases hlt : k < 10
        · obtain ⟨g, rfl⟩ : ∃ g, gk = g + 1 := ⟨gk - 1, by omega⟩
          have hkI : (k : Int) < 10 := by omega
          have ck : wr.cell? ⟨w.heap.size + 1, k, none⟩ = some (.int .u8 (a.getD k 0).toNat) := cell_blk GA3.out HBW.out (by omega)
          have hst := want_step (a := a) (k := k) (by omega)
          rw [← HQ.out] at hst
          generalize a.getD k 0 = y at ck hst
          have hyl := y.toNat_lt
          have HST := Lib.hid hst
          clear hst
          cases q
          · go_wp2_with fail
            go_roundg g
            case measure => omega
            case rel => exact ⟨k + 1, false, by go_num, by omega, rfl, Lib.hid HST.out.symm, HBW⟩
          · by_cases hy : y = 0
            · have hyI : (y.toNat : Int) = 0 := by rw [hy]; rfl
              go_wp2_with fail
              go_roundg g
              case measure => omega
              case rel => exact ⟨k + 1, true, by go_num, by omega, rfl, Lib.hid (by rw [HST.out, hy]; rfl), HBW⟩
            · have hyI : ¬ (y.toNat : Int) = 0 := fun e => hy (UInt8.toNat_inj.1 (by show y.toNat = 0; omega))
              have hyB : ((y.toNat : Int) == 0) = false := beq_eq_false_iff_ne.2 hyI
              go_wp2_with fail
              go_roundg g
              case measure => omega
              case rel => exact ⟨k + 1, false, by go_num, by omega, rfl, Lib.hid (by rw [HST.out]; simp [hy]), HBW⟩
        · have hkI : ¬ (k : Int) < 10 := by omega
          obtain rfl : k = 10 := by omega
          have HQ2 := Lib.hid (HQ.out.trans (want_all ha))
          have rgv : wr.rangeAt nv 0 (bvs v) := range_blk (by rw [GV3.out, HVr.out]) HBW.out
          have hldv : ∀ j u, vr.toList[j]? = some u → wr.cell? ((⟨nv, 0, none⟩ : Addr).add j) = some u := fun j u hj => by
            rw [HVr.out] at hj
            have := rgv j u hj
            rw [Addr.add_lit]; exact this
          have HLV := Lib.hid hldv
          have HEw := Lib.hid (HE3.out.below HBW.out)
          clear rgv hldv
          go_wp2_with (refine wpList_load_agg rfl 23 (.tmp 5) rfl ⟨nv, 0, none⟩ rfl vr _ HLV.out hu rfl HVS.out ?_; go_simp)
          refine (HPr.out _ HEw.out).mono ?_
          rintro e w6 ⟨rfl, hb6⟩
          have HB6 := Lib.hid (HBW.out.trans (hb6.mono HBW.out.size))
          have HE6 := Lib.hid (HEw.out.below hb6)
          clear hb6
          go_wp2_with fail
          refine (HPa.out _ HE6.out).mono ?_
          rintro e w7 ⟨rfl, hb7⟩
          have hb8 : Below w7.heap.size w7 (w7.alloc (.cells vr 23)) := (Below.refl _ w7).alloc (Nat.le_refl _) _
          have hb37 := HB6.out.trans (hb7.mono HB6.out.size)
          have hb38 := hb37.trans (hb8.mono hb37.size)
          have HB8 := Lib.hid (HB3.out.trans (hb38.mono HB3.out.size))
          have GA8 := Lib.hid ((hb38.block _ (Array.getElem?_eq_some_iff.1 GA3.out).1).trans GA3.out)
          have GB8 := Lib.hid ((hb38.block _ (Array.getElem?_eq_some_iff.1 GB3.out).1).trans GB3.out)
          have GV8 := Lib.hid ((hb38.block _ (Array.getElem?_eq_some_iff.1 GV3.out).1).trans GV3.out)
          have GW8 : Hid ((w7.alloc (.cells vr 23)).heap[w7.heap.size]? = some (.cells vr 23 (0, 0))) := Lib.hid (heap_alloc_last w7 _)
          clear hb7 hb8 hb37 hb38
          go_wp2_with (first
            | (refine wpList_alloc_z rfl 23 rfl Z ZA.out ?_; go_simp)
            | (refine wpList_store_new rfl 23 (.tmp 9) (.tmp 46) rfl w7.heap.size rfl Z vr 23 rfl rfl HVS.out HVZ.out HV1.out ?_; go_simp))
          generalize (w7.alloc (.cells vr 23)) = w8 at HB8 GA8 GB8 GV8 GW8 ⊢
          generalize w7.heap.size = nw at GW8 ⊢
          have hvd := HV.out
          have V12 : Hid (∀ W : World, Below w8.heap.size w8 W → W.cell? ⟨nv, 12, none⟩ = some (.int .u8 x0.toNat)) := Lib.hid (fun W h => (cell_blk (x := v) (by rw [GV8.out, HVr.out]) h (k := 12) (by omega)).trans (by rw [hvd]; rfl))
          have V15 : Hid (∀ W : World, Below w8.heap.size w8 W → W.cell? ⟨nv, 15, none⟩ = some (.int .u8 x3.toNat)) := Lib.hid (fun W h => (cell_blk (x := v) (by rw [GV8.out, HVr.out]) h (k := 15) (by omega)).trans (by rw [hvd]; rfl))
          have B0 : Hid (∀ W : World, Below w8.heap.size w8 W → W.cell? ⟨w.heap.size, 0, none⟩ = some (.int .u8 x0.toNat)) := Lib.hid (fun W h => cell_blk GB8.out h (k := 0) (by show 0 < 4; omega))
          have B3 : Hid (∀ W : World, Below w8.heap.size w8 W → W.cell? ⟨w.heap.size, 3, none⟩ = some (.int .u8 x3.toNat)) := Lib.hid (fun W h => cell_blk GB8.out h (k := 3) (by show 3 < 4; omega))
          have A12 : Hid (∀ W : World, Below w8.heap.size w8 W → W.cell? ⟨w.heap.size + 1, 12, none⟩ = some (.int .u8 (a.getD 12 0).toNat)) := Lib.hid (fun W h => cell_blk GA8.out h (by omega))
          have A13 : Hid (∀ W : World, Below w8.heap.size w8 W → W.cell? ⟨w.heap.size + 1, 13, none⟩ = some (.int .u8 (a.getD 13 0).toNat)) := Lib.hid (fun W h => cell_blk GA8.out h (by omega))
          have A14 : Hid (∀ W : World, Below w8.heap.size w8 W → W.cell? ⟨w.heap.size + 1, 14, none⟩ = some (.int .u8 (a.getD 14 0).toNat)) := Lib.hid (fun W h => cell_blk GA8.out h (by omega))
          have A15 : Hid (∀ W : World, Below w8.heap.size w8 W → W.cell? ⟨w.heap.size + 1, 15, none⟩ = some (.int .u8 (a.getD 15 0).toNat)) := Lib.hid (fun W h => cell_blk GA8.out h (by omega))
          have RV : Hid (∀ W : World, Below w8.heap.size w8 W → W.rangeAt nv 0 (bvs v)) := Lib.hid (fun W h => range_blk (by rw [GV8.out, HVr.out]) h)
          have RW : Hid (∀ W : World, Below w8.heap.size w8 W → W.rangeAt nw 0 (bvs v)) := Lib.hid (fun W h => range_blk (by rw [GW8.out, HVr.out]) h)
          have RA : Hid (∀ W : World, Below w8.heap.size w8 W → W.rangeAt (w.heap.size + 1) 0 (bvs a)) := Lib.hid (fun W h => range_blk GA8.out h)
          have h4v : isV4 v = true := by rw [hvd]; exact isV4_four x0 x1 x2 x3
          have hfb := four_back ha
          have H4V := Lib.hid (fun W => is4_e v hvl W)
          have H4A := Lib.hid (fun W => is4_e a ha W)
          have HFB := Lib.hid (fun W => v4_e (a.getD 12 0) (a.getD 13 0) (a.getD 14 0) (a.getD 15 0) W)
          have HSV : Hid ((Tryd.prog.info? 23).map (·.size) = some (bvs v).length) := Lib.hid (sizeBv hvl)
          have HSA : Hid ((Tryd.prog.info? 23).map (·.size) = some (bvs a).length) := Lib.hid (sizeBv ha)
          have HQV : ∀ W : World, (Op.equalIn 10000 23 (.agg (bvs v).toArray) (.agg (bvs v).toArray)).run Tryd.prog W = .ok true W := fun W => by rw [run_eq_addr W hvl hvl, beq_self_eq_true]
          have HQA : ∀ W : World, (Op.equalIn 10000 23 (.agg (bvs a).toArray) (.agg (bvs a).toArray)).run Tryd.prog W = .ok true W := fun W => by rw [run_eq_addr W ha ha, beq_self_eq_true]
          have hq := HQ2.out
          rw [h4v] at H4V
          rw [← hq] at H4A hfb
          have hfb2 : q = true → bvs (four12 ++ [a.getD 12 0, a.getD 13 0, a.getD 14 0, a.getD 15 0]) = bvs a := fun e => by rw [hfb e]
          generalize bvs (four12 ++ [a.getD 12 0, a.getD 13 0, a.getD 14 0, a.getD 15 0]) = fl at HFB hfb2
          generalize bvs v = vl at RV RW H4V HSV HQV
          generalize bvs a = al at RA H4A HSA HQA hfb2
          generalize a.getD 12 0 = y12 at A12 HFB
          generalize a.getD 13 0 = y13 at A13 HFB
          generalize a.getD 14 0 = y14 at A14 HFB
          generalize a.getD 15 0 = y15 at A15 HFB
          generalize w.heap.size + 1 = na at RA A12 A13 A14 A15 ⊢
          have HFB2 := Lib.hid hfb2
          clear hq h4v hfb hfb2 hvd
          generalize hnb : w.heap.size = nb at B0 B3 ⊢
          cases q
          · skip
            refine wp_region_held_drew (S := (fun W : World => Below w8.heap.size w8 W)) (by kernel_rfl) (Below.refl _ w8).drew (fun hHeld => ?_)
            refine wpAnyH_take (i := 0) (oi := ({ dst := some 48, op := Go.Op.load 23 (Go.Operand.tmp 5), type := 23, pos := "law.go:119", after := #[], guard := none } : Oper)) (v := .agg vl.toArray) rfl (by kernel_rfl) (by kernel_rfl) (by kernel_rfl) (fun _ _ _ h => h) (yieldsIf_load_mid (by rfl) _ _ rfl _ _ rfl _ _ (fun W h => RV.out W h) hu rfl HSV.out) hHeld ?_
            simp only [Act.put, List.setIfInBounds_toArray, List.set_cons_zero, List.set_cons_succ]
            refine wpAnyH_ready (rs := [1]) (by kernel_rfl) (by simp) ?_
            refine AllReadyH.cons (o := ({ dst := some 49, op := Go.Op.call { callee := Go.Callee.value (Go.Operand.func 8), args := #[Go.Operand.tmp 48], argTypes := #[23] }, type := 4, pos := "law.go:119", after := #[{ on := 0, ground := Go.Ground.data }], guard := none } : Oper)) rfl (fun K hK => ?_) AllReadyH.nil
            go_simp
            go_at_call 8
            refine (H4V.out _).mono ?_
            rintro e' w11 ⟨rfl, hw11⟩
            refine hK.out _ _ (hHeld.trans (hw11.mono hHeld.size)) (fun hHeld1 => ?_)
            clear hK K
            refine wpAnyH_take (i := 2) (oi := ({ dst := some 50, op := Go.Op.move (Go.Operand.tmp 49), type := 4, pos := "law.go:119", after := #[{ on := 1, ground := Go.Ground.data }, { on := 1, ground := Go.Ground.chain }], guard := none } : Oper)) (v := .bool true) rfl (by kernel_rfl) (by kernel_rfl) (by kernel_rfl) (fun _ _ _ h => h) (Or.inl ⟨by rfl, fun w' _ => ?_⟩) hHeld1 ?_
            · go_simp
            simp only [Act.put, List.setIfInBounds_toArray, List.set_cons_zero, List.set_cons_succ]
            refine wpAnyH_take (i := 3) (oi := ({ dst := some 51, op := Go.Op.indexAddr 23 (Go.Operand.tmp 5) (Go.Operand.const (Go.Value.int Go.IntKind.i64 12)), type := 0, pos := "law.go:119", after := #[{ on := 2, ground := Go.Ground.guard }], guard := some (2, true) } : Oper)) (v := .pointer (some ⟨nv, 12, none⟩)) rfl (by kernel_rfl) (by kernel_rfl) (by kernel_rfl) (fun _ _ _ h => h) (Or.inl ⟨by rfl, fun w' _ => ?_⟩) hHeld1 ?_
            · go_simp
            simp only [Act.put, List.setIfInBounds_toArray, List.set_cons_zero, List.set_cons_succ]
            refine wpAnyH_take (i := 4) (oi := ({ dst := some 52, op := Go.Op.load 5 (Go.Operand.tmp 51), type := 5, pos := "law.go:119", after := #[{ on := 3, ground := Go.Ground.data }, { on := 2, ground := Go.Ground.guard }], guard := some (2, true) } : Oper)) (v := .int .u8 x0.toNat) rfl (by kernel_rfl) (by kernel_rfl) (by kernel_rfl) (fun _ _ _ h => h) (Or.inl ⟨by rfl, fun w' hS' => ?_⟩) hHeld1 ?_
            · have hcell := V12.out _ hS'
              go_simp
            simp only [Act.put, List.setIfInBounds_toArray, List.set_cons_zero, List.set_cons_succ]
            refine wpAnyH_take (i := 5) (oi := ({ dst := some 53, op := Go.Op.indexAddr 32 (Go.Operand.tmp 2) (Go.Operand.const (Go.Value.int Go.IntKind.i64 0)), type := 0, pos := "law.go:119", after := #[{ on := 2, ground := Go.Ground.guard }], guard := some (2, true) } : Oper)) (v := .pointer (some ⟨nb, 0, none⟩)) rfl (by kernel_rfl) (by kernel_rfl) (by kernel_rfl) (fun _ _ _ h => h) (Or.inl ⟨by rfl, fun w' _ => ?_⟩) hHeld1 ?_
            · go_simp
            simp only [Act.put, List.setIfInBounds_toArray, List.set_cons_zero, List.set_cons_succ]
            refine wpAnyH_take (i := 6) (oi := ({ dst := some 54, op := Go.Op.load 5 (Go.Operand.tmp 53), type := 5, pos := "law.go:119", after := #[{ on := 5, ground := Go.Ground.data }, { on := 2, ground := Go.Ground.guard }], guard := some (2, true) } : Oper)) (v := .int .u8 x0.toNat) rfl (by kernel_rfl) (by kernel_rfl) (by kernel_rfl) (fun _ _ _ h => h) (Or.inl ⟨by rfl, fun w' hS' => ?_⟩) hHeld1 ?_
            · have hcell := B0.out _ hS'
              go_simp
            simp only [Act.put, List.setIfInBounds_toArray, List.set_cons_zero, List.set_cons_succ]
            refine wpAnyH_take (i := 7) (oi := ({ dst := some 55, op := Go.Op.binOp Go.BinOp.eql 5 (Go.Operand.tmp 52) (Go.Operand.tmp 54) 5, type := 4, pos := "law.go:119", after := #[{ on := 4, ground := Go.Ground.data }, { on := 6, ground := Go.Ground.data }, { on := 2, ground := Go.Ground.guard }], guard := some (2, true) } : Oper)) (v := .bool true) rfl (by kernel_rfl) (by kernel_rfl) (by kernel_rfl) (fun _ _ _ h => h) (Or.inl ⟨by rfl, fun w' _ => ?_⟩) hHeld1 ?_
            · go_simp
            simp only [Act.put, List.setIfInBounds_toArray, List.set_cons_zero, List.set_cons_succ]
            refine wpAnyH_take (i := 8) (oi := ({ dst := some 56, op := Go.Op.pick (Go.Operand.tmp 50) (Go.Operand.tmp 55) (Go.Operand.const (Go.Value.bool false)), type := 4, pos := "law.go:119", after := #[{ on := 2, ground := Go.Ground.data }, { on := 7, ground := Go.Ground.data }], guard := none } : Oper)) (v := .bool true) rfl (by kernel_rfl) (by kernel_rfl) (by kernel_rfl) (fun _ _ _ h => h) (Or.inl ⟨by rfl, fun w' _ => ?_⟩) hHeld1 ?_
            · go_simp
            simp only [Act.put, List.setIfInBounds_toArray, List.set_cons_zero, List.set_cons_succ]
            refine wpAnyH_take (i := 9) (oi := ({ dst := some 57, op := Go.Op.move (Go.Operand.tmp 56), type := 4, pos := "law.go:119", after := #[{ on := 8, ground := Go.Ground.data }, { on := 2, ground := Go.Ground.chain }], guard := none } : Oper)) (v := .bool true) rfl (by kernel_rfl) (by kernel_rfl) (by kernel_rfl) (fun _ _ _ h => h) (Or.inl ⟨by rfl, fun w' _ => ?_⟩) hHeld1 ?_
            · go_simp
            simp only [Act.put, List.setIfInBounds_toArray, List.set_cons_zero, List.set_cons_succ]
            refine wpAnyH_take (i := 10) (oi := ({ dst := some 58, op := Go.Op.indexAddr 23 (Go.Operand.tmp 5) (Go.Operand.const (Go.Value.int Go.IntKind.i64 15)), type := 0, pos := "law.go:119", after := #[{ on := 9, ground := Go.Ground.guard }], guard := some (9, true) } : Oper)) (v := .pointer (some ⟨nv, 15, none⟩)) rfl (by kernel_rfl) (by kernel_rfl) (by kernel_rfl) (fun _ _ _ h => h) (Or.inl ⟨by rfl, fun w' _ => ?_⟩) hHeld1 ?_
            · go_simp
            simp only [Act.put, List.setIfInBounds_toArray, List.set_cons_zero, List.set_cons_succ]
            refine wpAnyH_take (i := 11) (oi := ({ dst := some 59, op := Go.Op.load 5 (Go.Operand.tmp 58), type := 5, pos := "law.go:119", after := #[{ on := 10, ground := Go.Ground.data }, { on := 9, ground := Go.Ground.guard }], guard := some (9, true) } : Oper)) (v := .int .u8 x3.toNat) rfl (by kernel_rfl) (by kernel_rfl) (by kernel_rfl) (fun _ _ _ h => h) (Or.inl ⟨by rfl, fun w' hS' => ?_⟩) hHeld1 ?_
            · have hcell := V15.out _ hS'
              go_simp
            simp only [Act.put, List.setIfInBounds_toArray, List.set_cons_zero, List.set_cons_succ]
            refine wpAnyH_take (i := 12) (oi := ({ dst := some 60, op := Go.Op.indexAddr 32 (Go.Operand.tmp 2) (Go.Operand.const (Go.Value.int Go.IntKind.i64 3)), type := 0, pos := "law.go:119", after := #[{ on := 9, ground := Go.Ground.guard }], guard := some (9, true) } : Oper)) (v := .pointer (some ⟨nb, 3, none⟩)) rfl (by kernel_rfl) (by kernel_rfl) (by kernel_rfl) (fun _ _ _ h => h) (Or.inl ⟨by rfl, fun w' _ => ?_⟩) hHeld1 ?_
            · go_simp
            simp only [Act.put, List.setIfInBounds_toArray, List.set_cons_zero, List.set_cons_succ]
            refine wpAnyH_take (i := 13) (oi := ({ dst := some 61, op := Go.Op.load 5 (Go.Operand.tmp 60), type := 5, pos := "law.go:119", after := #[{ on := 12, ground := Go.Ground.data }, { on := 9, ground := Go.Ground.guard }], guard := some (9, true) } : Oper)) (v := .int .u8 x3.toNat) rfl (by kernel_rfl) (by kernel_rfl) (by kernel_rfl) (fun _ _ _ h => h) (Or.inl ⟨by rfl, fun w' hS' => ?_⟩) hHeld1 ?_
            · have hcell := B3.out _ hS'
              go_simp
            simp only [Act.put, List.setIfInBounds_toArray, List.set_cons_zero, List.set_cons_succ]
            refine wpAnyH_take (i := 14) (oi := ({ dst := some 62, op := Go.Op.binOp Go.BinOp.eql 5 (Go.Operand.tmp 59) (Go.Operand.tmp 61) 5, type := 4, pos := "law.go:119", after := #[{ on := 11, ground := Go.Ground.data }, { on := 13, ground := Go.Ground.data }, { on := 9, ground := Go.Ground.guard }], guard := some (9, true) } : Oper)) (v := .bool true) rfl (by kernel_rfl) (by kernel_rfl) (by kernel_rfl) (fun _ _ _ h => h) (Or.inl ⟨by rfl, fun w' _ => ?_⟩) hHeld1 ?_
            · go_simp
            simp only [Act.put, List.setIfInBounds_toArray, List.set_cons_zero, List.set_cons_succ]
            refine wpAnyH_take (i := 15) (oi := ({ dst := some 63, op := Go.Op.pick (Go.Operand.tmp 57) (Go.Operand.tmp 62) (Go.Operand.const (Go.Value.bool false)), type := 4, pos := "law.go:119", after := #[{ on := 9, ground := Go.Ground.data }, { on := 14, ground := Go.Ground.data }], guard := none } : Oper)) (v := .bool true) rfl (by kernel_rfl) (by kernel_rfl) (by kernel_rfl) (fun _ _ _ h => h) (Or.inl ⟨by rfl, fun w' _ => ?_⟩) hHeld1 ?_
            · go_simp
            simp only [Act.put, List.setIfInBounds_toArray, List.set_cons_zero, List.set_cons_succ]
            refine wpAnyH_take (i := 16) (oi := ({ dst := some 64, op := Go.Op.move (Go.Operand.tmp 63), type := 4, pos := "law.go:119", after := #[{ on := 15, ground := Go.Ground.data }, { on := 9, ground := Go.Ground.chain }], guard := none } : Oper)) (v := .bool true) rfl (by kernel_rfl) (by kernel_rfl) (by kernel_rfl) (fun _ _ _ h => h) (Or.inl ⟨by rfl, fun w' _ => ?_⟩) hHeld1 ?_
            · go_simp
            simp only [Act.put, List.setIfInBounds_toArray, List.set_cons_zero, List.set_cons_succ]
            refine wpAnyH_take (i := 17) (oi := ({ dst := some 65, op := Go.Op.load 23 (Go.Operand.tmp 3), type := 23, pos := "law.go:119", after := #[{ on := 16, ground := Go.Ground.guard }], guard := some (16, true) } : Oper)) (v := .agg al.toArray) rfl (by kernel_rfl) (by kernel_rfl) (by kernel_rfl) (fun _ _ _ h => h) (yieldsIf_load_mid (by rfl) _ _ rfl _ _ rfl _ _ (fun W h => RA.out W h) hu rfl HSA.out) hHeld1 ?_
            simp only [Act.put, List.setIfInBounds_toArray, List.set_cons_zero, List.set_cons_succ]
            refine wpAnyH_take (i := 19) (oi := ({ dst := some 67, op := Go.Op.move (Go.Operand.tmp 6), type := 4, pos := "law.go:119", after := #[{ on := 16, ground := Go.Ground.guard }], guard := some (16, true) } : Oper)) (v := .bool false) rfl (by kernel_rfl) (by kernel_rfl) (by kernel_rfl) (fun _ _ _ h => h) (Or.inl ⟨by rfl, fun w' _ => ?_⟩) hHeld1 ?_
            · go_simp
            simp only [Act.put, List.setIfInBounds_toArray, List.set_cons_zero, List.set_cons_succ]
            refine wpAnyH_ready (rs := [18]) (by kernel_rfl) (by simp) ?_
            refine AllReadyH.cons (o := ({ dst := some 66, op := Go.Op.call { callee := Go.Callee.value (Go.Operand.func 8), args := #[Go.Operand.tmp 65], argTypes := #[23] }, type := 4, pos := "law.go:119", after := #[{ on := 17, ground := Go.Ground.data }, { on := 16, ground := Go.Ground.chain }, { on := 16, ground := Go.Ground.guard }], guard := some (16, true) } : Oper)) rfl (fun K hK => ?_) AllReadyH.nil
            go_simp
            go_at_call 8
            refine (H4A.out _).mono ?_
            rintro e' w12 ⟨rfl, hw12⟩
            refine hK.out _ _ (hHeld1.trans (hw12.mono hHeld1.size)) (fun hHeld2 => ?_)
            clear hK K
            refine wpAnyH_take (i := 20) (oi := ({ dst := some 68, op := Go.Op.binOp Go.BinOp.eql 4 (Go.Operand.tmp 66) (Go.Operand.tmp 67) 4, type := 4, pos := "law.go:119", after := #[{ on := 18, ground := Go.Ground.data }, { on := 19, ground := Go.Ground.data }, { on := 16, ground := Go.Ground.guard }], guard := some (16, true) } : Oper)) (v := .bool true) rfl (by kernel_rfl) (by kernel_rfl) (by kernel_rfl) (fun _ _ _ h => h) (Or.inl ⟨by rfl, fun w' _ => ?_⟩) hHeld2 ?_
            · go_simp
            simp only [Act.put, List.setIfInBounds_toArray, List.set_cons_zero, List.set_cons_succ]
            refine wpAnyH_take (i := 21) (oi := ({ dst := some 69, op := Go.Op.pick (Go.Operand.tmp 64) (Go.Operand.tmp 68) (Go.Operand.const (Go.Value.bool false)), type := 4, pos := "law.go:119", after := #[{ on := 16, ground := Go.Ground.data }, { on := 20, ground := Go.Ground.data }], guard := none } : Oper)) (v := .bool true) rfl (by kernel_rfl) (by kernel_rfl) (by kernel_rfl) (fun _ _ _ h => h) (Or.inl ⟨by rfl, fun w' _ => ?_⟩) hHeld2 ?_
            · go_simp
            simp only [Act.put, List.setIfInBounds_toArray, List.set_cons_zero, List.set_cons_succ]
            refine wpAnyH_take (i := 22) (oi := ({ dst := some 70, op := Go.Op.move (Go.Operand.tmp 69), type := 4, pos := "law.go:119", after := #[{ on := 21, ground := Go.Ground.data }, { on := 18, ground := Go.Ground.chain }], guard := none } : Oper)) (v := .bool true) rfl (by kernel_rfl) (by kernel_rfl) (by kernel_rfl) (fun _ _ _ h => h) (Or.inl ⟨by rfl, fun w' _ => ?_⟩) hHeld2 ?_
            · go_simp
            simp only [Act.put, List.setIfInBounds_toArray, List.set_cons_zero, List.set_cons_succ]
            refine wpAnyH_take (i := 23) (oi := ({ dst := some 71, op := Go.Op.move (Go.Operand.tmp 10), type := 34, pos := "law.go:119", after := #[{ on := 22, ground := Go.Ground.guard }], guard := some (22, true) } : Oper)) (v := .int .i64 0) rfl (by kernel_rfl) (by kernel_rfl) (by kernel_rfl) (fun _ _ _ h => h) (Or.inl ⟨by rfl, fun w' _ => ?_⟩) hHeld2 ?_
            · go_simp
            simp only [Act.put, List.setIfInBounds_toArray, List.set_cons_zero, List.set_cons_succ]
            refine wpAnyH_take (i := 24) (oi := ({ dst := some 72, op := Go.Op.binOp Go.BinOp.eql 34 (Go.Operand.tmp 71) (Go.Operand.const (Go.Value.int Go.IntKind.i64 0)) 34, type := 4, pos := "law.go:119", after := #[{ on := 23, ground := Go.Ground.data }, { on := 22, ground := Go.Ground.guard }], guard := some (22, true) } : Oper)) (v := .bool true) rfl (by kernel_rfl) (by kernel_rfl) (by kernel_rfl) (fun _ _ _ h => h) (Or.inl ⟨by rfl, fun w' _ => ?_⟩) hHeld2 ?_
            · go_simp
            simp only [Act.put, List.setIfInBounds_toArray, List.set_cons_zero, List.set_cons_succ]
            refine wpAnyH_take (i := 25) (oi := ({ dst := some 73, op := Go.Op.pick (Go.Operand.tmp 70) (Go.Operand.tmp 72) (Go.Operand.const (Go.Value.bool false)), type := 4, pos := "law.go:119", after := #[{ on := 22, ground := Go.Ground.data }, { on := 24, ground := Go.Ground.data }], guard := none } : Oper)) (v := .bool true) rfl (by kernel_rfl) (by kernel_rfl) (by kernel_rfl) (fun _ _ _ h => h) (Or.inl ⟨by rfl, fun w' _ => ?_⟩) hHeld2 ?_
            · go_simp
            simp only [Act.put, List.setIfInBounds_toArray, List.set_cons_zero, List.set_cons_succ]
            refine wpAnyH_take (i := 26) (oi := ({ dst := some 74, op := Go.Op.move (Go.Operand.tmp 73), type := 4, pos := "law.go:119", after := #[{ on := 25, ground := Go.Ground.data }, { on := 22, ground := Go.Ground.chain }], guard := none } : Oper)) (v := .bool true) rfl (by kernel_rfl) (by kernel_rfl) (by kernel_rfl) (fun _ _ _ h => h) (Or.inl ⟨by rfl, fun w' _ => ?_⟩) hHeld2 ?_
            · go_simp
            simp only [Act.put, List.setIfInBounds_toArray, List.set_cons_zero, List.set_cons_succ]
            refine wpAnyH_take (i := 27) (oi := ({ dst := some 75, op := Go.Op.load 23 (Go.Operand.tmp 9), type := 23, pos := "law.go:119", after := #[{ on := 26, ground := Go.Ground.guard }], guard := some (26, true) } : Oper)) (v := .agg vl.toArray) rfl (by kernel_rfl) (by kernel_rfl) (by kernel_rfl) (fun _ _ _ h => h) (yieldsIf_load_mid (by rfl) _ _ rfl _ _ rfl _ _ (fun W h => RW.out W h) hu rfl HSV.out) hHeld2 ?_
            simp only [Act.put, List.setIfInBounds_toArray, List.set_cons_zero, List.set_cons_succ]
            refine wpAnyH_take (i := 28) (oi := ({ dst := some 76, op := Go.Op.load 23 (Go.Operand.tmp 5), type := 23, pos := "law.go:119", after := #[{ on := 26, ground := Go.Ground.guard }], guard := some (26, true) } : Oper)) (v := .agg vl.toArray) rfl (by kernel_rfl) (by kernel_rfl) (by kernel_rfl) (fun _ _ _ h => h) (yieldsIf_load_mid (by rfl) _ _ rfl _ _ rfl _ _ (fun W h => RV.out W h) hu rfl HSV.out) hHeld2 ?_
            simp only [Act.put, List.setIfInBounds_toArray, List.set_cons_zero, List.set_cons_succ]
            refine wpAnyH_take (i := 29) (oi := ({ dst := some 77, op := Go.Op.binOp Go.BinOp.eql 23 (Go.Operand.tmp 75) (Go.Operand.tmp 76) 23, type := 4, pos := "law.go:119", after := #[{ on := 27, ground := Go.Ground.data }, { on := 28, ground := Go.Ground.data }, { on := 26, ground := Go.Ground.guard }], guard := some (26, true) } : Oper)) (v := .bool true) rfl (by kernel_rfl) (by kernel_rfl) (by kernel_rfl) (fun _ _ _ h => h) (Or.inl ⟨by rfl, fun w' _ => ?_⟩) hHeld2 ?_
            · go_simp
            simp only [Act.put, List.setIfInBounds_toArray, List.set_cons_zero, List.set_cons_succ]
            refine wpAnyH_take (i := 30) (oi := ({ dst := some 78, op := Go.Op.pick (Go.Operand.tmp 74) (Go.Operand.tmp 77) (Go.Operand.const (Go.Value.bool false)), type := 4, pos := "law.go:119", after := #[{ on := 26, ground := Go.Ground.data }, { on := 29, ground := Go.Ground.data }], guard := none } : Oper)) (v := .bool true) rfl (by kernel_rfl) (by kernel_rfl) (by kernel_rfl) (fun _ _ _ h => h) (Or.inl ⟨by rfl, fun w' _ => ?_⟩) hHeld2 ?_
            · go_simp
            simp only [Act.put, List.setIfInBounds_toArray, List.set_cons_zero, List.set_cons_succ]
            refine wpAnyH_take (i := 31) (oi := ({ dst := some 79, op := Go.Op.move (Go.Operand.tmp 78), type := 4, pos := "law.go:119", after := #[{ on := 30, ground := Go.Ground.data }, { on := 26, ground := Go.Ground.chain }], guard := none } : Oper)) (v := .bool true) rfl (by kernel_rfl) (by kernel_rfl) (by kernel_rfl) (fun _ _ _ h => h) (Or.inl ⟨by rfl, fun w' _ => ?_⟩) hHeld2 ?_
            · go_simp
            simp only [Act.put, List.setIfInBounds_toArray, List.set_cons_zero, List.set_cons_succ]
            refine wpAnyH_take (i := 32) (oi := ({ dst := some 80, op := Go.Op.move (Go.Operand.tmp 6), type := 4, pos := "law.go:119", after := #[{ on := 31, ground := Go.Ground.guard }], guard := some (31, true) } : Oper)) (v := .bool false) rfl (by kernel_rfl) (by kernel_rfl) (by kernel_rfl) (fun _ _ _ h => h) (Or.inl ⟨by rfl, fun w' _ => ?_⟩) hHeld2 ?_
            · go_simp
            simp only [Act.put, List.setIfInBounds_toArray, List.set_cons_zero, List.set_cons_succ]
            refine wpAnyH_take (i := 33) (oi := ({ dst := some 81, op := Go.Op.unOp Go.UnOp.not 4 (Go.Operand.tmp 80), type := 4, pos := "law.go:119", after := #[{ on := 32, ground := Go.Ground.data }, { on := 31, ground := Go.Ground.guard }], guard := some (31, true) } : Oper)) (v := .bool true) rfl (by kernel_rfl) (by kernel_rfl) (by kernel_rfl) (fun _ _ _ h => h) (Or.inl ⟨by rfl, fun w' _ => ?_⟩) hHeld2 ?_
            · go_simp
            simp only [Act.put, List.setIfInBounds_toArray, List.set_cons_zero, List.set_cons_succ]
            refine wpAnyH_take (i := 34) (oi := ({ dst := some 82, op := Go.Op.move (Go.Operand.tmp 81), type := 4, pos := "law.go:119", after := #[{ on := 33, ground := Go.Ground.data }, { on := 31, ground := Go.Ground.chain }, { on := 31, ground := Go.Ground.guard }], guard := some (31, true) } : Oper)) (v := .bool true) rfl (by kernel_rfl) (by kernel_rfl) (by kernel_rfl) (fun _ _ _ h => h) (Or.inl ⟨by rfl, fun w' _ => ?_⟩) hHeld2 ?_
            · go_simp
            simp only [Act.put, List.setIfInBounds_toArray, List.set_cons_zero, List.set_cons_succ]
            refine wpAnyH_take (i := 35) (oi := ({ dst := some 83, op := Go.Op.indexAddr 23 (Go.Operand.tmp 3) (Go.Operand.const (Go.Value.int Go.IntKind.i64 12)), type := 0, pos := "law.go:119", after := #[{ on := 34, ground := Go.Ground.guard }], guard := some (34, false) } : Oper)) (v := undef) rfl (by kernel_rfl) (by kernel_rfl) (by kernel_rfl) (fun _ _ _ h => h) (Or.inr ⟨by rfl, rfl⟩) hHeld2 ?_
            simp only [Act.put, List.setIfInBounds_toArray, List.set_cons_zero, List.set_cons_succ]
            refine wpAnyH_take (i := 36) (oi := ({ dst := some 84, op := Go.Op.load 5 (Go.Operand.tmp 83), type := 5, pos := "law.go:119", after := #[{ on := 35, ground := Go.Ground.data }, { on := 34, ground := Go.Ground.guard }], guard := some (34, false) } : Oper)) (v := undef) rfl (by kernel_rfl) (by kernel_rfl) (by kernel_rfl) (fun _ _ _ h => h) (Or.inr ⟨by rfl, rfl⟩) hHeld2 ?_
            simp only [Act.put, List.setIfInBounds_toArray, List.set_cons_zero, List.set_cons_succ]
            refine wpAnyH_take (i := 37) (oi := ({ dst := some 85, op := Go.Op.indexAddr 23 (Go.Operand.tmp 3) (Go.Operand.const (Go.Value.int Go.IntKind.i64 13)), type := 0, pos := "law.go:119", after := #[{ on := 34, ground := Go.Ground.guard }], guard := some (34, false) } : Oper)) (v := undef) rfl (by kernel_rfl) (by kernel_rfl) (by kernel_rfl) (fun _ _ _ h => h) (Or.inr ⟨by rfl, rfl⟩) hHeld2 ?_
            simp only [Act.put, List.setIfInBounds_toArray, List.set_cons_zero, List.set_cons_succ]
            refine wpAnyH_take (i := 38) (oi := ({ dst := some 86, op := Go.Op.load 5 (Go.Operand.tmp 85), type := 5, pos := "law.go:119", after := #[{ on := 37, ground := Go.Ground.data }, { on := 34, ground := Go.Ground.guard }], guard := some (34, false) } : Oper)) (v := undef) rfl (by kernel_rfl) (by kernel_rfl) (by kernel_rfl) (fun _ _ _ h => h) (Or.inr ⟨by rfl, rfl⟩) hHeld2 ?_
            simp only [Act.put, List.setIfInBounds_toArray, List.set_cons_zero, List.set_cons_succ]
            refine wpAnyH_take (i := 39) (oi := ({ dst := some 87, op := Go.Op.indexAddr 23 (Go.Operand.tmp 3) (Go.Operand.const (Go.Value.int Go.IntKind.i64 14)), type := 0, pos := "law.go:119", after := #[{ on := 34, ground := Go.Ground.guard }], guard := some (34, false) } : Oper)) (v := undef) rfl (by kernel_rfl) (by kernel_rfl) (by kernel_rfl) (fun _ _ _ h => h) (Or.inr ⟨by rfl, rfl⟩) hHeld2 ?_
            simp only [Act.put, List.setIfInBounds_toArray, List.set_cons_zero, List.set_cons_succ]
            refine wpAnyH_take (i := 40) (oi := ({ dst := some 88, op := Go.Op.load 5 (Go.Operand.tmp 87), type := 5, pos := "law.go:119", after := #[{ on := 39, ground := Go.Ground.data }, { on := 34, ground := Go.Ground.guard }], guard := some (34, false) } : Oper)) (v := undef) rfl (by kernel_rfl) (by kernel_rfl) (by kernel_rfl) (fun _ _ _ h => h) (Or.inr ⟨by rfl, rfl⟩) hHeld2 ?_
            simp only [Act.put, List.setIfInBounds_toArray, List.set_cons_zero, List.set_cons_succ]
            refine wpAnyH_take (i := 41) (oi := ({ dst := some 89, op := Go.Op.indexAddr 23 (Go.Operand.tmp 3) (Go.Operand.const (Go.Value.int Go.IntKind.i64 15)), type := 0, pos := "law.go:119", after := #[{ on := 34, ground := Go.Ground.guard }], guard := some (34, false) } : Oper)) (v := undef) rfl (by kernel_rfl) (by kernel_rfl) (by kernel_rfl) (fun _ _ _ h => h) (Or.inr ⟨by rfl, rfl⟩) hHeld2 ?_
            simp only [Act.put, List.setIfInBounds_toArray, List.set_cons_zero, List.set_cons_succ]
            refine wpAnyH_take (i := 42) (oi := ({ dst := some 90, op := Go.Op.load 5 (Go.Operand.tmp 89), type := 5, pos := "law.go:119", after := #[{ on := 41, ground := Go.Ground.data }, { on := 34, ground := Go.Ground.guard }], guard := some (34, false) } : Oper)) (v := undef) rfl (by kernel_rfl) (by kernel_rfl) (by kernel_rfl) (fun _ _ _ h => h) (Or.inr ⟨by rfl, rfl⟩) hHeld2 ?_
            simp only [Act.put, List.setIfInBounds_toArray, List.set_cons_zero, List.set_cons_succ]
            refine wpAnyH_take (i := 43) (oi := ({ dst := some 91, op := Go.Op.call { callee := Go.Callee.value (Go.Operand.func 12), args := #[Go.Operand.tmp 84, Go.Operand.tmp 86, Go.Operand.tmp 88, Go.Operand.tmp 90], argTypes := #[5, 5, 5, 5] }, type := 23, pos := "law.go:119", after := #[{ on := 36, ground := Go.Ground.data }, { on := 38, ground := Go.Ground.data }, { on := 40, ground := Go.Ground.data }, { on := 42, ground := Go.Ground.data }, { on := 34, ground := Go.Ground.chain }, { on := 34, ground := Go.Ground.guard }], guard := some (34, false) } : Oper)) (v := undef) rfl (by kernel_rfl) (by kernel_rfl) (by kernel_rfl) (fun _ _ _ h => h) (Or.inr ⟨by rfl, rfl⟩) hHeld2 ?_
            simp only [Act.put, List.setIfInBounds_toArray, List.set_cons_zero, List.set_cons_succ]
            refine wpAnyH_take (i := 44) (oi := ({ dst := some 92, op := Go.Op.load 23 (Go.Operand.tmp 3), type := 23, pos := "law.go:119", after := #[{ on := 34, ground := Go.Ground.guard }], guard := some (34, false) } : Oper)) (v := undef) rfl (by kernel_rfl) (by kernel_rfl) (by kernel_rfl) (fun _ _ _ h => h) (Or.inr ⟨by rfl, rfl⟩) hHeld2 ?_
            simp only [Act.put, List.setIfInBounds_toArray, List.set_cons_zero, List.set_cons_succ]
            refine wpAnyH_take (i := 45) (oi := ({ dst := some 93, op := Go.Op.binOp Go.BinOp.eql 23 (Go.Operand.tmp 91) (Go.Operand.tmp 92) 23, type := 4, pos := "law.go:119", after := #[{ on := 43, ground := Go.Ground.data }, { on := 44, ground := Go.Ground.data }, { on := 34, ground := Go.Ground.guard }], guard := some (34, false) } : Oper)) (v := undef) rfl (by kernel_rfl) (by kernel_rfl) (by kernel_rfl) (fun _ _ _ h => h) (Or.inr ⟨by rfl, rfl⟩) hHeld2 ?_
            simp only [Act.put, List.setIfInBounds_toArray, List.set_cons_zero, List.set_cons_succ]
            refine wpAnyH_take (i := 46) (oi := ({ dst := some 94, op := Go.Op.pick (Go.Operand.tmp 82) (Go.Operand.const (Go.Value.bool true)) (Go.Operand.tmp 93), type := 4, pos := "law.go:119", after := #[{ on := 34, ground := Go.Ground.data }, { on := 45, ground := Go.Ground.data }, { on := 31, ground := Go.Ground.guard }], guard := some (31, true) } : Oper)) (v := .bool true) rfl (by kernel_rfl) (by kernel_rfl) (by kernel_rfl) (fun _ _ _ h => h) (Or.inl ⟨by rfl, fun w' _ => ?_⟩) hHeld2 ?_
            · go_simp
            simp only [Act.put, List.setIfInBounds_toArray, List.set_cons_zero, List.set_cons_succ]
            refine wpAnyH_take (i := 47) (oi := ({ dst := some 95, op := Go.Op.pick (Go.Operand.tmp 79) (Go.Operand.tmp 94) (Go.Operand.const (Go.Value.bool false)), type := 4, pos := "law.go:119", after := #[{ on := 31, ground := Go.Ground.data }, { on := 46, ground := Go.Ground.data }], guard := none } : Oper)) (v := .bool true) rfl (by kernel_rfl) (by kernel_rfl) (by kernel_rfl) (fun _ _ _ h => h) (Or.inl ⟨by rfl, fun w' _ => ?_⟩) hHeld2 ?_
            · go_simp
            simp only [Act.put, List.setIfInBounds_toArray, List.set_cons_zero, List.set_cons_succ]
            refine wpAnyH_take (i := 48) (oi := ({ dst := some 4, op := Go.Op.assign (Go.Operand.tmp 95), type := 4, pos := "law.go:119", after := #[{ on := 47, ground := Go.Ground.data }, { on := 43, ground := Go.Ground.chain }, { on := 0, ground := Go.Ground.phase }, { on := 1, ground := Go.Ground.phase }, { on := 2, ground := Go.Ground.phase }, { on := 3, ground := Go.Ground.phase }, { on := 4, ground := Go.Ground.phase }, { on := 5, ground := Go.Ground.phase }, { on := 6, ground := Go.Ground.phase }, { on := 7, ground := Go.Ground.phase }, { on := 8, ground := Go.Ground.phase }, { on := 9, ground := Go.Ground.phase }, { on := 10, ground := Go.Ground.phase }, { on := 11, ground := Go.Ground.phase }, { on := 12, ground := Go.Ground.phase }, { on := 13, ground := Go.Ground.phase }, { on := 14, ground := Go.Ground.phase }, { on := 15, ground := Go.Ground.phase }, { on := 16, ground := Go.Ground.phase }, { on := 17, ground := Go.Ground.phase }, { on := 18, ground := Go.Ground.phase }, { on := 19, ground := Go.Ground.phase }, { on := 20, ground := Go.Ground.phase }, { on := 21, ground := Go.Ground.phase }, { on := 22, ground := Go.Ground.phase }, { on := 23, ground := Go.Ground.phase }, { on := 24, ground := Go.Ground.phase }, { on := 25, ground := Go.Ground.phase }, { on := 26, ground := Go.Ground.phase }, { on := 27, ground := Go.Ground.phase }, { on := 28, ground := Go.Ground.phase }, { on := 29, ground := Go.Ground.phase }, { on := 30, ground := Go.Ground.phase }, { on := 31, ground := Go.Ground.phase }, { on := 32, ground := Go.Ground.phase }, { on := 33, ground := Go.Ground.phase }, { on := 34, ground := Go.Ground.phase }, { on := 35, ground := Go.Ground.phase }, { on := 36, ground := Go.Ground.phase }, { on := 37, ground := Go.Ground.phase }, { on := 38, ground := Go.Ground.phase }, { on := 39, ground := Go.Ground.phase }, { on := 40, ground := Go.Ground.phase }, { on := 41, ground := Go.Ground.phase }, { on := 42, ground := Go.Ground.phase }, { on := 43, ground := Go.Ground.phase }, { on := 44, ground := Go.Ground.phase }, { on := 45, ground := Go.Ground.phase }, { on := 46, ground := Go.Ground.phase }, { on := 47, ground := Go.Ground.phase }], guard := none } : Oper)) (v := .bool true) rfl (by kernel_rfl) (by kernel_rfl) (by kernel_rfl) (fun _ _ _ h => h) (Or.inl ⟨by rfl, fun w' _ => ?_⟩) hHeld2 ?_
            · go_simp
            simp only [Act.put, List.setIfInBounds_toArray, List.set_cons_zero, List.set_cons_succ]
            refine wpAnyH_done (by kernel_rfl) ?_ _
            have HBn := Lib.hid (HB8.out.trans (hHeld2.mono HB8.out.size))
            go_wp2_with fail
            go_ret
            first
              | exact ⟨rfl, HBn.out⟩
              | exact ⟨rfl, by rw [← hnb]; exact HBn.out⟩
          · have e := HFB2.out rfl
            rw [e] at HFB
            clear e
            refine wp_region_held_drew (S := (fun W : World => Below w8.heap.size w8 W)) (by kernel_rfl) (Below.refl _ w8).drew (fun hHeld => ?_)
            refine wpAnyH_take (i := 0) (oi := ({ dst := some 48, op := Go.Op.load 23 (Go.Operand.tmp 5), type := 23, pos := "law.go:119", after := #[], guard := none } : Oper)) (v := .agg vl.toArray) rfl (by kernel_rfl) (by kernel_rfl) (by kernel_rfl) (fun _ _ _ h => h) (yieldsIf_load_mid (by rfl) _ _ rfl _ _ rfl _ _ (fun W h => RV.out W h) hu rfl HSV.out) hHeld ?_
            simp only [Act.put, List.setIfInBounds_toArray, List.set_cons_zero, List.set_cons_succ]
            refine wpAnyH_ready (rs := [1]) (by kernel_rfl) (by simp) ?_
            refine AllReadyH.cons (o := ({ dst := some 49, op := Go.Op.call { callee := Go.Callee.value (Go.Operand.func 8), args := #[Go.Operand.tmp 48], argTypes := #[23] }, type := 4, pos := "law.go:119", after := #[{ on := 0, ground := Go.Ground.data }], guard := none } : Oper)) rfl (fun K hK => ?_) AllReadyH.nil
            go_simp
            go_at_call 8
            refine (H4V.out _).mono ?_
            rintro e' w11 ⟨rfl, hw11⟩
            refine hK.out _ _ (hHeld.trans (hw11.mono hHeld.size)) (fun hHeld1 => ?_)
            clear hK K
            refine wpAnyH_take (i := 2) (oi := ({ dst := some 50, op := Go.Op.move (Go.Operand.tmp 49), type := 4, pos := "law.go:119", after := #[{ on := 1, ground := Go.Ground.data }, { on := 1, ground := Go.Ground.chain }], guard := none } : Oper)) (v := .bool true) rfl (by kernel_rfl) (by kernel_rfl) (by kernel_rfl) (fun _ _ _ h => h) (Or.inl ⟨by rfl, fun w' _ => ?_⟩) hHeld1 ?_
            · go_simp
            simp only [Act.put, List.setIfInBounds_toArray, List.set_cons_zero, List.set_cons_succ]
            refine wpAnyH_take (i := 3) (oi := ({ dst := some 51, op := Go.Op.indexAddr 23 (Go.Operand.tmp 5) (Go.Operand.const (Go.Value.int Go.IntKind.i64 12)), type := 0, pos := "law.go:119", after := #[{ on := 2, ground := Go.Ground.guard }], guard := some (2, true) } : Oper)) (v := .pointer (some ⟨nv, 12, none⟩)) rfl (by kernel_rfl) (by kernel_rfl) (by kernel_rfl) (fun _ _ _ h => h) (Or.inl ⟨by rfl, fun w' _ => ?_⟩) hHeld1 ?_
            · go_simp
            simp only [Act.put, List.setIfInBounds_toArray, List.set_cons_zero, List.set_cons_succ]
            refine wpAnyH_take (i := 4) (oi := ({ dst := some 52, op := Go.Op.load 5 (Go.Operand.tmp 51), type := 5, pos := "law.go:119", after := #[{ on := 3, ground := Go.Ground.data }, { on := 2, ground := Go.Ground.guard }], guard := some (2, true) } : Oper)) (v := .int .u8 x0.toNat) rfl (by kernel_rfl) (by kernel_rfl) (by kernel_rfl) (fun _ _ _ h => h) (Or.inl ⟨by rfl, fun w' hS' => ?_⟩) hHeld1 ?_
            · have hcell := V12.out _ hS'
              go_simp
            simp only [Act.put, List.setIfInBounds_toArray, List.set_cons_zero, List.set_cons_succ]
            refine wpAnyH_take (i := 5) (oi := ({ dst := some 53, op := Go.Op.indexAddr 32 (Go.Operand.tmp 2) (Go.Operand.const (Go.Value.int Go.IntKind.i64 0)), type := 0, pos := "law.go:119", after := #[{ on := 2, ground := Go.Ground.guard }], guard := some (2, true) } : Oper)) (v := .pointer (some ⟨nb, 0, none⟩)) rfl (by kernel_rfl) (by kernel_rfl) (by kernel_rfl) (fun _ _ _ h => h) (Or.inl ⟨by rfl, fun w' _ => ?_⟩) hHeld1 ?_
            · go_simp
            simp only [Act.put, List.setIfInBounds_toArray, List.set_cons_zero, List.set_cons_succ]
            refine wpAnyH_take (i := 6) (oi := ({ dst := some 54, op := Go.Op.load 5 (Go.Operand.tmp 53), type := 5, pos := "law.go:119", after := #[{ on := 5, ground := Go.Ground.data }, { on := 2, ground := Go.Ground.guard }], guard := some (2, true) } : Oper)) (v := .int .u8 x0.toNat) rfl (by kernel_rfl) (by kernel_rfl) (by kernel_rfl) (fun _ _ _ h => h) (Or.inl ⟨by rfl, fun w' hS' => ?_⟩) hHeld1 ?_
            · have hcell := B0.out _ hS'
              go_simp
            simp only [Act.put, List.setIfInBounds_toArray, List.set_cons_zero, List.set_cons_succ]
            refine wpAnyH_take (i := 7) (oi := ({ dst := some 55, op := Go.Op.binOp Go.BinOp.eql 5 (Go.Operand.tmp 52) (Go.Operand.tmp 54) 5, type := 4, pos := "law.go:119", after := #[{ on := 4, ground := Go.Ground.data }, { on := 6, ground := Go.Ground.data }, { on := 2, ground := Go.Ground.guard }], guard := some (2, true) } : Oper)) (v := .bool true) rfl (by kernel_rfl) (by kernel_rfl) (by kernel_rfl) (fun _ _ _ h => h) (Or.inl ⟨by rfl, fun w' _ => ?_⟩) hHeld1 ?_
            · go_simp
            simp only [Act.put, List.setIfInBounds_toArray, List.set_cons_zero, List.set_cons_succ]
            refine wpAnyH_take (i := 8) (oi := ({ dst := some 56, op := Go.Op.pick (Go.Operand.tmp 50) (Go.Operand.tmp 55) (Go.Operand.const (Go.Value.bool false)), type := 4, pos := "law.go:119", after := #[{ on := 2, ground := Go.Ground.data }, { on := 7, ground := Go.Ground.data }], guard := none } : Oper)) (v := .bool true) rfl (by kernel_rfl) (by kernel_rfl) (by kernel_rfl) (fun _ _ _ h => h) (Or.inl ⟨by rfl, fun w' _ => ?_⟩) hHeld1 ?_
            · go_simp
            simp only [Act.put, List.setIfInBounds_toArray, List.set_cons_zero, List.set_cons_succ]
            refine wpAnyH_take (i := 9) (oi := ({ dst := some 57, op := Go.Op.move (Go.Operand.tmp 56), type := 4, pos := "law.go:119", after := #[{ on := 8, ground := Go.Ground.data }, { on := 2, ground := Go.Ground.chain }], guard := none } : Oper)) (v := .bool true) rfl (by kernel_rfl) (by kernel_rfl) (by kernel_rfl) (fun _ _ _ h => h) (Or.inl ⟨by rfl, fun w' _ => ?_⟩) hHeld1 ?_
            · go_simp
            simp only [Act.put, List.setIfInBounds_toArray, List.set_cons_zero, List.set_cons_succ]
            refine wpAnyH_take (i := 10) (oi := ({ dst := some 58, op := Go.Op.indexAddr 23 (Go.Operand.tmp 5) (Go.Operand.const (Go.Value.int Go.IntKind.i64 15)), type := 0, pos := "law.go:119", after := #[{ on := 9, ground := Go.Ground.guard }], guard := some (9, true) } : Oper)) (v := .pointer (some ⟨nv, 15, none⟩)) rfl (by kernel_rfl) (by kernel_rfl) (by kernel_rfl) (fun _ _ _ h => h) (Or.inl ⟨by rfl, fun w' _ => ?_⟩) hHeld1 ?_
            · go_simp
            simp only [Act.put, List.setIfInBounds_toArray, List.set_cons_zero, List.set_cons_succ]
            refine wpAnyH_take (i := 11) (oi := ({ dst := some 59, op := Go.Op.load 5 (Go.Operand.tmp 58), type := 5, pos := "law.go:119", after := #[{ on := 10, ground := Go.Ground.data }, { on := 9, ground := Go.Ground.guard }], guard := some (9, true) } : Oper)) (v := .int .u8 x3.toNat) rfl (by kernel_rfl) (by kernel_rfl) (by kernel_rfl) (fun _ _ _ h => h) (Or.inl ⟨by rfl, fun w' hS' => ?_⟩) hHeld1 ?_
            · have hcell := V15.out _ hS'
              go_simp
            simp only [Act.put, List.setIfInBounds_toArray, List.set_cons_zero, List.set_cons_succ]
            refine wpAnyH_take (i := 12) (oi := ({ dst := some 60, op := Go.Op.indexAddr 32 (Go.Operand.tmp 2) (Go.Operand.const (Go.Value.int Go.IntKind.i64 3)), type := 0, pos := "law.go:119", after := #[{ on := 9, ground := Go.Ground.guard }], guard := some (9, true) } : Oper)) (v := .pointer (some ⟨nb, 3, none⟩)) rfl (by kernel_rfl) (by kernel_rfl) (by kernel_rfl) (fun _ _ _ h => h) (Or.inl ⟨by rfl, fun w' _ => ?_⟩) hHeld1 ?_
            · go_simp
            simp only [Act.put, List.setIfInBounds_toArray, List.set_cons_zero, List.set_cons_succ]
            refine wpAnyH_take (i := 13) (oi := ({ dst := some 61, op := Go.Op.load 5 (Go.Operand.tmp 60), type := 5, pos := "law.go:119", after := #[{ on := 12, ground := Go.Ground.data }, { on := 9, ground := Go.Ground.guard }], guard := some (9, true) } : Oper)) (v := .int .u8 x3.toNat) rfl (by kernel_rfl) (by kernel_rfl) (by kernel_rfl) (fun _ _ _ h => h) (Or.inl ⟨by rfl, fun w' hS' => ?_⟩) hHeld1 ?_
            · have hcell := B3.out _ hS'
              go_simp
            simp only [Act.put, List.setIfInBounds_toArray, List.set_cons_zero, List.set_cons_succ]
            refine wpAnyH_take (i := 14) (oi := ({ dst := some 62, op := Go.Op.binOp Go.BinOp.eql 5 (Go.Operand.tmp 59) (Go.Operand.tmp 61) 5, type := 4, pos := "law.go:119", after := #[{ on := 11, ground := Go.Ground.data }, { on := 13, ground := Go.Ground.data }, { on := 9, ground := Go.Ground.guard }], guard := some (9, true) } : Oper)) (v := .bool true) rfl (by kernel_rfl) (by kernel_rfl) (by kernel_rfl) (fun _ _ _ h => h) (Or.inl ⟨by rfl, fun w' _ => ?_⟩) hHeld1 ?_
            · go_simp
            simp only [Act.put, List.setIfInBounds_toArray, List.set_cons_zero, List.set_cons_succ]
            refine wpAnyH_take (i := 15) (oi := ({ dst := some 63, op := Go.Op.pick (Go.Operand.tmp 57) (Go.Operand.tmp 62) (Go.Operand.const (Go.Value.bool false)), type := 4, pos := "law.go:119", after := #[{ on := 9, ground := Go.Ground.data }, { on := 14, ground := Go.Ground.data }], guard := none } : Oper)) (v := .bool true) rfl (by kernel_rfl) (by kernel_rfl) (by kernel_rfl) (fun _ _ _ h => h) (Or.inl ⟨by rfl, fun w' _ => ?_⟩) hHeld1 ?_
            · go_simp
            simp only [Act.put, List.setIfInBounds_toArray, List.set_cons_zero, List.set_cons_succ]
            refine wpAnyH_take (i := 16) (oi := ({ dst := some 64, op := Go.Op.move (Go.Operand.tmp 63), type := 4, pos := "law.go:119", after := #[{ on := 15, ground := Go.Ground.data }, { on := 9, ground := Go.Ground.chain }], guard := none } : Oper)) (v := .bool true) rfl (by kernel_rfl) (by kernel_rfl) (by kernel_rfl) (fun _ _ _ h => h) (Or.inl ⟨by rfl, fun w' _ => ?_⟩) hHeld1 ?_
            · go_simp
            simp only [Act.put, List.setIfInBounds_toArray, List.set_cons_zero, List.set_cons_succ]
            refine wpAnyH_take (i := 17) (oi := ({ dst := some 65, op := Go.Op.load 23 (Go.Operand.tmp 3), type := 23, pos := "law.go:119", after := #[{ on := 16, ground := Go.Ground.guard }], guard := some (16, true) } : Oper)) (v := .agg al.toArray) rfl (by kernel_rfl) (by kernel_rfl) (by kernel_rfl) (fun _ _ _ h => h) (yieldsIf_load_mid (by rfl) _ _ rfl _ _ rfl _ _ (fun W h => RA.out W h) hu rfl HSA.out) hHeld1 ?_
            simp only [Act.put, List.setIfInBounds_toArray, List.set_cons_zero, List.set_cons_succ]
            refine wpAnyH_take (i := 19) (oi := ({ dst := some 67, op := Go.Op.move (Go.Operand.tmp 6), type := 4, pos := "law.go:119", after := #[{ on := 16, ground := Go.Ground.guard }], guard := some (16, true) } : Oper)) (v := .bool true) rfl (by kernel_rfl) (by kernel_rfl) (by kernel_rfl) (fun _ _ _ h => h) (Or.inl ⟨by rfl, fun w' _ => ?_⟩) hHeld1 ?_
            · go_simp
            simp only [Act.put, List.setIfInBounds_toArray, List.set_cons_zero, List.set_cons_succ]
            refine wpAnyH_ready (rs := [18]) (by kernel_rfl) (by simp) ?_
            refine AllReadyH.cons (o := ({ dst := some 66, op := Go.Op.call { callee := Go.Callee.value (Go.Operand.func 8), args := #[Go.Operand.tmp 65], argTypes := #[23] }, type := 4, pos := "law.go:119", after := #[{ on := 17, ground := Go.Ground.data }, { on := 16, ground := Go.Ground.chain }, { on := 16, ground := Go.Ground.guard }], guard := some (16, true) } : Oper)) rfl (fun K hK => ?_) AllReadyH.nil
            go_simp
            go_at_call 8
            refine (H4A.out _).mono ?_
            rintro e' w12 ⟨rfl, hw12⟩
            refine hK.out _ _ (hHeld1.trans (hw12.mono hHeld1.size)) (fun hHeld2 => ?_)
            clear hK K
            refine wpAnyH_take (i := 20) (oi := ({ dst := some 68, op := Go.Op.binOp Go.BinOp.eql 4 (Go.Operand.tmp 66) (Go.Operand.tmp 67) 4, type := 4, pos := "law.go:119", after := #[{ on := 18, ground := Go.Ground.data }, { on := 19, ground := Go.Ground.data }, { on := 16, ground := Go.Ground.guard }], guard := some (16, true) } : Oper)) (v := .bool true) rfl (by kernel_rfl) (by kernel_rfl) (by kernel_rfl) (fun _ _ _ h => h) (Or.inl ⟨by rfl, fun w' _ => ?_⟩) hHeld2 ?_
            · go_simp
            simp only [Act.put, List.setIfInBounds_toArray, List.set_cons_zero, List.set_cons_succ]
            refine wpAnyH_take (i := 21) (oi := ({ dst := some 69, op := Go.Op.pick (Go.Operand.tmp 64) (Go.Operand.tmp 68) (Go.Operand.const (Go.Value.bool false)), type := 4, pos := "law.go:119", after := #[{ on := 16, ground := Go.Ground.data }, { on := 20, ground := Go.Ground.data }], guard := none } : Oper)) (v := .bool true) rfl (by kernel_rfl) (by kernel_rfl) (by kernel_rfl) (fun _ _ _ h => h) (Or.inl ⟨by rfl, fun w' _ => ?_⟩) hHeld2 ?_
            · go_simp
            simp only [Act.put, List.setIfInBounds_toArray, List.set_cons_zero, List.set_cons_succ]
            refine wpAnyH_take (i := 22) (oi := ({ dst := some 70, op := Go.Op.move (Go.Operand.tmp 69), type := 4, pos := "law.go:119", after := #[{ on := 21, ground := Go.Ground.data }, { on := 18, ground := Go.Ground.chain }], guard := none } : Oper)) (v := .bool true) rfl (by kernel_rfl) (by kernel_rfl) (by kernel_rfl) (fun _ _ _ h => h) (Or.inl ⟨by rfl, fun w' _ => ?_⟩) hHeld2 ?_
            · go_simp
            simp only [Act.put, List.setIfInBounds_toArray, List.set_cons_zero, List.set_cons_succ]
            refine wpAnyH_take (i := 23) (oi := ({ dst := some 71, op := Go.Op.move (Go.Operand.tmp 10), type := 34, pos := "law.go:119", after := #[{ on := 22, ground := Go.Ground.guard }], guard := some (22, true) } : Oper)) (v := .int .i64 0) rfl (by kernel_rfl) (by kernel_rfl) (by kernel_rfl) (fun _ _ _ h => h) (Or.inl ⟨by rfl, fun w' _ => ?_⟩) hHeld2 ?_
            · go_simp
            simp only [Act.put, List.setIfInBounds_toArray, List.set_cons_zero, List.set_cons_succ]
            refine wpAnyH_take (i := 24) (oi := ({ dst := some 72, op := Go.Op.binOp Go.BinOp.eql 34 (Go.Operand.tmp 71) (Go.Operand.const (Go.Value.int Go.IntKind.i64 0)) 34, type := 4, pos := "law.go:119", after := #[{ on := 23, ground := Go.Ground.data }, { on := 22, ground := Go.Ground.guard }], guard := some (22, true) } : Oper)) (v := .bool true) rfl (by kernel_rfl) (by kernel_rfl) (by kernel_rfl) (fun _ _ _ h => h) (Or.inl ⟨by rfl, fun w' _ => ?_⟩) hHeld2 ?_
            · go_simp
            simp only [Act.put, List.setIfInBounds_toArray, List.set_cons_zero, List.set_cons_succ]
            refine wpAnyH_take (i := 25) (oi := ({ dst := some 73, op := Go.Op.pick (Go.Operand.tmp 70) (Go.Operand.tmp 72) (Go.Operand.const (Go.Value.bool false)), type := 4, pos := "law.go:119", after := #[{ on := 22, ground := Go.Ground.data }, { on := 24, ground := Go.Ground.data }], guard := none } : Oper)) (v := .bool true) rfl (by kernel_rfl) (by kernel_rfl) (by kernel_rfl) (fun _ _ _ h => h) (Or.inl ⟨by rfl, fun w' _ => ?_⟩) hHeld2 ?_
            · go_simp
            simp only [Act.put, List.setIfInBounds_toArray, List.set_cons_zero, List.set_cons_succ]
            refine wpAnyH_take (i := 26) (oi := ({ dst := some 74, op := Go.Op.move (Go.Operand.tmp 73), type := 4, pos := "law.go:119", after := #[{ on := 25, ground := Go.Ground.data }, { on := 22, ground := Go.Ground.chain }], guard := none } : Oper)) (v := .bool true) rfl (by kernel_rfl) (by kernel_rfl) (by kernel_rfl) (fun _ _ _ h => h) (Or.inl ⟨by rfl, fun w' _ => ?_⟩) hHeld2 ?_
            · go_simp
            simp only [Act.put, List.setIfInBounds_toArray, List.set_cons_zero, List.set_cons_succ]
            refine wpAnyH_take (i := 27) (oi := ({ dst := some 75, op := Go.Op.load 23 (Go.Operand.tmp 9), type := 23, pos := "law.go:119", after := #[{ on := 26, ground := Go.Ground.guard }], guard := some (26, true) } : Oper)) (v := .agg vl.toArray) rfl (by kernel_rfl) (by kernel_rfl) (by kernel_rfl) (fun _ _ _ h => h) (yieldsIf_load_mid (by rfl) _ _ rfl _ _ rfl _ _ (fun W h => RW.out W h) hu rfl HSV.out) hHeld2 ?_
            simp only [Act.put, List.setIfInBounds_toArray, List.set_cons_zero, List.set_cons_succ]
            refine wpAnyH_take (i := 28) (oi := ({ dst := some 76, op := Go.Op.load 23 (Go.Operand.tmp 5), type := 23, pos := "law.go:119", after := #[{ on := 26, ground := Go.Ground.guard }], guard := some (26, true) } : Oper)) (v := .agg vl.toArray) rfl (by kernel_rfl) (by kernel_rfl) (by kernel_rfl) (fun _ _ _ h => h) (yieldsIf_load_mid (by rfl) _ _ rfl _ _ rfl _ _ (fun W h => RV.out W h) hu rfl HSV.out) hHeld2 ?_
            simp only [Act.put, List.setIfInBounds_toArray, List.set_cons_zero, List.set_cons_succ]
            refine wpAnyH_take (i := 29) (oi := ({ dst := some 77, op := Go.Op.binOp Go.BinOp.eql 23 (Go.Operand.tmp 75) (Go.Operand.tmp 76) 23, type := 4, pos := "law.go:119", after := #[{ on := 27, ground := Go.Ground.data }, { on := 28, ground := Go.Ground.data }, { on := 26, ground := Go.Ground.guard }], guard := some (26, true) } : Oper)) (v := .bool true) rfl (by kernel_rfl) (by kernel_rfl) (by kernel_rfl) (fun _ _ _ h => h) (Or.inl ⟨by rfl, fun w' _ => ?_⟩) hHeld2 ?_
            · go_simp
            simp only [Act.put, List.setIfInBounds_toArray, List.set_cons_zero, List.set_cons_succ]
            refine wpAnyH_take (i := 30) (oi := ({ dst := some 78, op := Go.Op.pick (Go.Operand.tmp 74) (Go.Operand.tmp 77) (Go.Operand.const (Go.Value.bool false)), type := 4, pos := "law.go:119", after := #[{ on := 26, ground := Go.Ground.data }, { on := 29, ground := Go.Ground.data }], guard := none } : Oper)) (v := .bool true) rfl (by kernel_rfl) (by kernel_rfl) (by kernel_rfl) (fun _ _ _ h => h) (Or.inl ⟨by rfl, fun w' _ => ?_⟩) hHeld2 ?_
            · go_simp
            simp only [Act.put, List.setIfInBounds_toArray, List.set_cons_zero, List.set_cons_succ]
            refine wpAnyH_take (i := 31) (oi := ({ dst := some 79, op := Go.Op.move (Go.Operand.tmp 78), type := 4, pos := "law.go:119", after := #[{ on := 30, ground := Go.Ground.data }, { on := 26, ground := Go.Ground.chain }], guard := none } : Oper)) (v := .bool true) rfl (by kernel_rfl) (by kernel_rfl) (by kernel_rfl) (fun _ _ _ h => h) (Or.inl ⟨by rfl, fun w' _ => ?_⟩) hHeld2 ?_
            · go_simp
            simp only [Act.put, List.setIfInBounds_toArray, List.set_cons_zero, List.set_cons_succ]
            refine wpAnyH_take (i := 32) (oi := ({ dst := some 80, op := Go.Op.move (Go.Operand.tmp 6), type := 4, pos := "law.go:119", after := #[{ on := 31, ground := Go.Ground.guard }], guard := some (31, true) } : Oper)) (v := .bool true) rfl (by kernel_rfl) (by kernel_rfl) (by kernel_rfl) (fun _ _ _ h => h) (Or.inl ⟨by rfl, fun w' _ => ?_⟩) hHeld2 ?_
            · go_simp
            simp only [Act.put, List.setIfInBounds_toArray, List.set_cons_zero, List.set_cons_succ]
            refine wpAnyH_take (i := 33) (oi := ({ dst := some 81, op := Go.Op.unOp Go.UnOp.not 4 (Go.Operand.tmp 80), type := 4, pos := "law.go:119", after := #[{ on := 32, ground := Go.Ground.data }, { on := 31, ground := Go.Ground.guard }], guard := some (31, true) } : Oper)) (v := .bool false) rfl (by kernel_rfl) (by kernel_rfl) (by kernel_rfl) (fun _ _ _ h => h) (Or.inl ⟨by rfl, fun w' _ => ?_⟩) hHeld2 ?_
            · go_simp
            simp only [Act.put, List.setIfInBounds_toArray, List.set_cons_zero, List.set_cons_succ]
            refine wpAnyH_take (i := 34) (oi := ({ dst := some 82, op := Go.Op.move (Go.Operand.tmp 81), type := 4, pos := "law.go:119", after := #[{ on := 33, ground := Go.Ground.data }, { on := 31, ground := Go.Ground.chain }, { on := 31, ground := Go.Ground.guard }], guard := some (31, true) } : Oper)) (v := .bool false) rfl (by kernel_rfl) (by kernel_rfl) (by kernel_rfl) (fun _ _ _ h => h) (Or.inl ⟨by rfl, fun w' _ => ?_⟩) hHeld2 ?_
            · go_simp
            simp only [Act.put, List.setIfInBounds_toArray, List.set_cons_zero, List.set_cons_succ]
            refine wpAnyH_take (i := 35) (oi := ({ dst := some 83, op := Go.Op.indexAddr 23 (Go.Operand.tmp 3) (Go.Operand.const (Go.Value.int Go.IntKind.i64 12)), type := 0, pos := "law.go:119", after := #[{ on := 34, ground := Go.Ground.guard }], guard := some (34, false) } : Oper)) (v := .pointer (some ⟨na, 12, none⟩)) rfl (by kernel_rfl) (by kernel_rfl) (by kernel_rfl) (fun _ _ _ h => h) (Or.inl ⟨by rfl, fun w' _ => ?_⟩) hHeld2 ?_
            · go_simp
            simp only [Act.put, List.setIfInBounds_toArray, List.set_cons_zero, List.set_cons_succ]
            refine wpAnyH_take (i := 36) (oi := ({ dst := some 84, op := Go.Op.load 5 (Go.Operand.tmp 83), type := 5, pos := "law.go:119", after := #[{ on := 35, ground := Go.Ground.data }, { on := 34, ground := Go.Ground.guard }], guard := some (34, false) } : Oper)) (v := .int .u8 y12.toNat) rfl (by kernel_rfl) (by kernel_rfl) (by kernel_rfl) (fun _ _ _ h => h) (Or.inl ⟨by rfl, fun w' hS' => ?_⟩) hHeld2 ?_
            · have hcell := A12.out _ hS'
              go_simp
            simp only [Act.put, List.setIfInBounds_toArray, List.set_cons_zero, List.set_cons_succ]
            refine wpAnyH_take (i := 37) (oi := ({ dst := some 85, op := Go.Op.indexAddr 23 (Go.Operand.tmp 3) (Go.Operand.const (Go.Value.int Go.IntKind.i64 13)), type := 0, pos := "law.go:119", after := #[{ on := 34, ground := Go.Ground.guard }], guard := some (34, false) } : Oper)) (v := .pointer (some ⟨na, 13, none⟩)) rfl (by kernel_rfl) (by kernel_rfl) (by kernel_rfl) (fun _ _ _ h => h) (Or.inl ⟨by rfl, fun w' _ => ?_⟩) hHeld2 ?_
            · go_simp
            simp only [Act.put, List.setIfInBounds_toArray, List.set_cons_zero, List.set_cons_succ]
            refine wpAnyH_take (i := 38) (oi := ({ dst := some 86, op := Go.Op.load 5 (Go.Operand.tmp 85), type := 5, pos := "law.go:119", after := #[{ on := 37, ground := Go.Ground.data }, { on := 34, ground := Go.Ground.guard }], guard := some (34, false) } : Oper)) (v := .int .u8 y13.toNat) rfl (by kernel_rfl) (by kernel_rfl) (by kernel_rfl) (fun _ _ _ h => h) (Or.inl ⟨by rfl, fun w' hS' => ?_⟩) hHeld2 ?_
            · have hcell := A13.out _ hS'
              go_simp
            simp only [Act.put, List.setIfInBounds_toArray, List.set_cons_zero, List.set_cons_succ]
            refine wpAnyH_take (i := 39) (oi := ({ dst := some 87, op := Go.Op.indexAddr 23 (Go.Operand.tmp 3) (Go.Operand.const (Go.Value.int Go.IntKind.i64 14)), type := 0, pos := "law.go:119", after := #[{ on := 34, ground := Go.Ground.guard }], guard := some (34, false) } : Oper)) (v := .pointer (some ⟨na, 14, none⟩)) rfl (by kernel_rfl) (by kernel_rfl) (by kernel_rfl) (fun _ _ _ h => h) (Or.inl ⟨by rfl, fun w' _ => ?_⟩) hHeld2 ?_
            · go_simp
            simp only [Act.put, List.setIfInBounds_toArray, List.set_cons_zero, List.set_cons_succ]
            refine wpAnyH_take (i := 40) (oi := ({ dst := some 88, op := Go.Op.load 5 (Go.Operand.tmp 87), type := 5, pos := "law.go:119", after := #[{ on := 39, ground := Go.Ground.data }, { on := 34, ground := Go.Ground.guard }], guard := some (34, false) } : Oper)) (v := .int .u8 y14.toNat) rfl (by kernel_rfl) (by kernel_rfl) (by kernel_rfl) (fun _ _ _ h => h) (Or.inl ⟨by rfl, fun w' hS' => ?_⟩) hHeld2 ?_
            · have hcell := A14.out _ hS'
              go_simp
            simp only [Act.put, List.setIfInBounds_toArray, List.set_cons_zero, List.set_cons_succ]
            refine wpAnyH_take (i := 41) (oi := ({ dst := some 89, op := Go.Op.indexAddr 23 (Go.Operand.tmp 3) (Go.Operand.const (Go.Value.int Go.IntKind.i64 15)), type := 0, pos := "law.go:119", after := #[{ on := 34, ground := Go.Ground.guard }], guard := some (34, false) } : Oper)) (v := .pointer (some ⟨na, 15, none⟩)) rfl (by kernel_rfl) (by kernel_rfl) (by kernel_rfl) (fun _ _ _ h => h) (Or.inl ⟨by rfl, fun w' _ => ?_⟩) hHeld2 ?_
            · go_simp
            simp only [Act.put, List.setIfInBounds_toArray, List.set_cons_zero, List.set_cons_succ]
            refine wpAnyH_take (i := 42) (oi := ({ dst := some 90, op := Go.Op.load 5 (Go.Operand.tmp 89), type := 5, pos := "law.go:119", after := #[{ on := 41, ground := Go.Ground.data }, { on := 34, ground := Go.Ground.guard }], guard := some (34, false) } : Oper)) (v := .int .u8 y15.toNat) rfl (by kernel_rfl) (by kernel_rfl) (by kernel_rfl) (fun _ _ _ h => h) (Or.inl ⟨by rfl, fun w' hS' => ?_⟩) hHeld2 ?_
            · have hcell := A15.out _ hS'
              go_simp
            simp only [Act.put, List.setIfInBounds_toArray, List.set_cons_zero, List.set_cons_succ]
            refine wpAnyH_take (i := 44) (oi := ({ dst := some 92, op := Go.Op.load 23 (Go.Operand.tmp 3), type := 23, pos := "law.go:119", after := #[{ on := 34, ground := Go.Ground.guard }], guard := some (34, false) } : Oper)) (v := .agg al.toArray) rfl (by kernel_rfl) (by kernel_rfl) (by kernel_rfl) (fun _ _ _ h => h) (yieldsIf_load_mid (by rfl) _ _ rfl _ _ rfl _ _ (fun W h => RA.out W h) hu rfl HSA.out) hHeld2 ?_
            simp only [Act.put, List.setIfInBounds_toArray, List.set_cons_zero, List.set_cons_succ]
            refine wpAnyH_ready (rs := [43]) (by kernel_rfl) (by simp) ?_
            refine AllReadyH.cons (o := ({ dst := some 91, op := Go.Op.call { callee := Go.Callee.value (Go.Operand.func 12), args := #[Go.Operand.tmp 84, Go.Operand.tmp 86, Go.Operand.tmp 88, Go.Operand.tmp 90], argTypes := #[5, 5, 5, 5] }, type := 23, pos := "law.go:119", after := #[{ on := 36, ground := Go.Ground.data }, { on := 38, ground := Go.Ground.data }, { on := 40, ground := Go.Ground.data }, { on := 42, ground := Go.Ground.data }, { on := 34, ground := Go.Ground.chain }, { on := 34, ground := Go.Ground.guard }], guard := some (34, false) } : Oper)) rfl (fun K hK => ?_) AllReadyH.nil
            go_simp
            go_at_call 12
            refine (HFB.out _).mono ?_
            rintro e' w13 ⟨rfl, hw13⟩
            refine hK.out _ _ (hHeld2.trans (hw13.mono hHeld2.size)) (fun hHeld3 => ?_)
            clear hK K
            refine wpAnyH_take (i := 45) (oi := ({ dst := some 93, op := Go.Op.binOp Go.BinOp.eql 23 (Go.Operand.tmp 91) (Go.Operand.tmp 92) 23, type := 4, pos := "law.go:119", after := #[{ on := 43, ground := Go.Ground.data }, { on := 44, ground := Go.Ground.data }, { on := 34, ground := Go.Ground.guard }], guard := some (34, false) } : Oper)) (v := .bool true) rfl (by kernel_rfl) (by kernel_rfl) (by kernel_rfl) (fun _ _ _ h => h) (Or.inl ⟨by rfl, fun w' _ => ?_⟩) hHeld3 ?_
            · go_simp
            simp only [Act.put, List.setIfInBounds_toArray, List.set_cons_zero, List.set_cons_succ]
            refine wpAnyH_take (i := 46) (oi := ({ dst := some 94, op := Go.Op.pick (Go.Operand.tmp 82) (Go.Operand.const (Go.Value.bool true)) (Go.Operand.tmp 93), type := 4, pos := "law.go:119", after := #[{ on := 34, ground := Go.Ground.data }, { on := 45, ground := Go.Ground.data }, { on := 31, ground := Go.Ground.guard }], guard := some (31, true) } : Oper)) (v := .bool true) rfl (by kernel_rfl) (by kernel_rfl) (by kernel_rfl) (fun _ _ _ h => h) (Or.inl ⟨by rfl, fun w' _ => ?_⟩) hHeld3 ?_
            · go_simp
            simp only [Act.put, List.setIfInBounds_toArray, List.set_cons_zero, List.set_cons_succ]
            refine wpAnyH_take (i := 47) (oi := ({ dst := some 95, op := Go.Op.pick (Go.Operand.tmp 79) (Go.Operand.tmp 94) (Go.Operand.const (Go.Value.bool false)), type := 4, pos := "law.go:119", after := #[{ on := 31, ground := Go.Ground.data }, { on := 46, ground := Go.Ground.data }], guard := none } : Oper)) (v := .bool true) rfl (by kernel_rfl) (by kernel_rfl) (by kernel_rfl) (fun _ _ _ h => h) (Or.inl ⟨by rfl, fun w' _ => ?_⟩) hHeld3 ?_
            · go_simp
            simp only [Act.put, List.setIfInBounds_toArray, List.set_cons_zero, List.set_cons_succ]
            refine wpAnyH_take (i := 48) (oi := ({ dst := some 4, op := Go.Op.assign (Go.Operand.tmp 95), type := 4, pos := "law.go:119", after := #[{ on := 47, ground := Go.Ground.data }, { on := 43, ground := Go.Ground.chain }, { on := 0, ground := Go.Ground.phase }, { on := 1, ground := Go.Ground.phase }, { on := 2, ground := Go.Ground.phase }, { on := 3, ground := Go.Ground.phase }, { on := 4, ground := Go.Ground.phase }, { on := 5, ground := Go.Ground.phase }, { on := 6, ground := Go.Ground.phase }, { on := 7, ground := Go.Ground.phase }, { on := 8, ground := Go.Ground.phase }, { on := 9, ground := Go.Ground.phase }, { on := 10, ground := Go.Ground.phase }, { on := 11, ground := Go.Ground.phase }, { on := 12, ground := Go.Ground.phase }, { on := 13, ground := Go.Ground.phase }, { on := 14, ground := Go.Ground.phase }, { on := 15, ground := Go.Ground.phase }, { on := 16, ground := Go.Ground.phase }, { on := 17, ground := Go.Ground.phase }, { on := 18, ground := Go.Ground.phase }, { on := 19, ground := Go.Ground.phase }, { on := 20, ground := Go.Ground.phase }, { on := 21, ground := Go.Ground.phase }, { on := 22, ground := Go.Ground.phase }, { on := 23, ground := Go.Ground.phase }, { on := 24, ground := Go.Ground.phase }, { on := 25, ground := Go.Ground.phase }, { on := 26, ground := Go.Ground.phase }, { on := 27, ground := Go.Ground.phase }, { on := 28, ground := Go.Ground.phase }, { on := 29, ground := Go.Ground.phase }, { on := 30, ground := Go.Ground.phase }, { on := 31, ground := Go.Ground.phase }, { on := 32, ground := Go.Ground.phase }, { on := 33, ground := Go.Ground.phase }, { on := 34, ground := Go.Ground.phase }, { on := 35, ground := Go.Ground.phase }, { on := 36, ground := Go.Ground.phase }, { on := 37, ground := Go.Ground.phase }, { on := 38, ground := Go.Ground.phase }, { on := 39, ground := Go.Ground.phase }, { on := 40, ground := Go.Ground.phase }, { on := 41, ground := Go.Ground.phase }, { on := 42, ground := Go.Ground.phase }, { on := 43, ground := Go.Ground.phase }, { on := 44, ground := Go.Ground.phase }, { on := 45, ground := Go.Ground.phase }, { on := 46, ground := Go.Ground.phase }, { on := 47, ground := Go.Ground.phase }], guard := none } : Oper)) (v := .bool true) rfl (by kernel_rfl) (by kernel_rfl) (by kernel_rfl) (fun _ _ _ h => h) (Or.inl ⟨by rfl, fun w' _ => ?_⟩) hHeld3 ?_
            · go_simp
            simp only [Act.put, List.setIfInBounds_toArray, List.set_cons_zero, List.set_cons_succ]
            refine wpAnyH_done (by kernel_rfl) ?_ _
            have HBn := Lib.hid (HB8.out.trans (hHeld3.mono HB8.out.size))
            go_wp2_with fail
            go_ret
            first
              | exact ⟨rfl, HBn.out⟩
              | exact ⟨rfl, by rw [← hnb]; exact HBn.out⟩
  · have e10B : ((y10.toNat : Int) == 255) = false := beq_eq_false_iff_ne.2 e10
    go_wp2_with (first
      | (refine wpList_alloc_z rfl 23 rfl Z ZA.out ?_; go_simp)
      | (refine wpList_store_new rfl 23 (.tmp 5) (.tmp 21) rfl w2.heap.size rfl Z vr 23 rfl rfl HVS.out HVZ.out HV1.out ?_; go_simp))
    generalize (w2.alloc (.cells vr 23)) = w3 at HB3 HE3 GA3 GB3 GV3 ⊢
    generalize w2.heap.size = nv at GV3 hw2 ⊢
    clear c10 c11
    go_loopg [32, 8, 6] 10 (fun gk i _ q wr => ∃ (k : Nat) (b : Bool), i = .int .i64 k ∧ k + gk = 10 ∧ q = .bool b ∧ Hid (b = wantTo a k) ∧ Hid (Below w3.heap.size w3 wr))
    case atStart => exact ⟨0, false, rfl, by simp, rfl, Lib.hid (by rw [HW0.out]; simp [h10]), Lib.hid (Below.refl _ _)⟩
    case round =>
      obtain ⟨k, q, rfl, hk, rfl, HQ, HBW⟩ := hrel
      by_cases hlt : k < 10
      · obtain ⟨g, rfl⟩ : ∃ g, gk = g + 1 := ⟨gk - 1, by omega⟩
        have hkI : (k : Int) < 10 := by omega
        have ck : wr.cell? ⟨w.heap.size + 1, k, none⟩ = some (.int .u8 (a.getD k 0).toNat) := cell_blk GA3.out HBW.out (by omega)
        have hst := want_step (a := a) (k := k) (by omega)
        rw [← HQ.out] at hst
        generalize a.getD k 0 = y at ck hst
        have hyl := y.toNat_lt
        have HST := Lib.hid hst
        clear hst
        cases q
        · go_wp2_with fail
          go_roundg g
          case measure => omega
          case rel => exact ⟨k + 1, false, by go_num, by omega, rfl, Lib.hid HST.out.symm, HBW⟩
        · by_cases hy : y = 0
          · have hyI : (y.toNat : Int) = 0 := by rw [hy]; rfl
            go_wp2_with fail
            go_roundg g
            case measure => omega
            case rel => exact ⟨k + 1, true, by go_num, by omega, rfl, Lib.hid (by rw [HST.out, hy]; rfl), HBW⟩
          · have hyI : ¬ (y.toNat : Int) = 0 := fun e => hy (UInt8.toNat_inj.1 (by show y.toNat = 0; omega))
            have hyB : ((y.toNat : Int) == 0) = false := beq_eq_false_iff_ne.2 hyI
            go_wp2_with fail
            go_roundg g
            case measure => omega
            case rel => exact ⟨k + 1, false, by go_num, by omega, rfl, Lib.hid (by rw [HST.out]; simp [hy]), HBW⟩
      · have hkI : ¬ (k : Int) < 10 := by omega
        obtain rfl : k = 10 := by omega
        have HQ2 := Lib.hid (HQ.out.trans (want_all ha))
        have rgv : wr.rangeAt nv 0 (bvs v) := range_blk (by rw [GV3.out, HVr.out]) HBW.out
        have hldv : ∀ j u, vr.toList[j]? = some u → wr.cell? ((⟨nv, 0, none⟩ : Addr).add j) = some u := fun j u hj => by
          rw [HVr.out] at hj
          have := rgv j u hj
          rw [Addr.add_lit]; exact this
        have HLV := Lib.hid hldv
        have HEw := Lib.hid (HE3.out.below HBW.out)
        clear rgv hldv
        go_wp2_with (refine wpList_load_agg rfl 23 (.tmp 5) rfl ⟨nv, 0, none⟩ rfl vr _ HLV.out hu rfl HVS.out ?_; go_simp)
        refine (HPr.out _ HEw.out).mono ?_
        rintro e w6 ⟨rfl, hb6⟩
        have HB6 := Lib.hid (HBW.out.trans (hb6.mono HBW.out.size))
        have HE6 := Lib.hid (HEw.out.below hb6)
        clear hb6
        go_wp2_with fail
        refine (HPa.out _ HE6.out).mono ?_
        rintro e w7 ⟨rfl, hb7⟩
        have hb8 : Below w7.heap.size w7 (w7.alloc (.cells vr 23)) := (Below.refl _ w7).alloc (Nat.le_refl _) _
        have hb37 := HB6.out.trans (hb7.mono HB6.out.size)
        have hb38 := hb37.trans (hb8.mono hb37.size)
        have HB8 := Lib.hid (HB3.out.trans (hb38.mono HB3.out.size))
        have GA8 := Lib.hid ((hb38.block _ (Array.getElem?_eq_some_iff.1 GA3.out).1).trans GA3.out)
        have GB8 := Lib.hid ((hb38.block _ (Array.getElem?_eq_some_iff.1 GB3.out).1).trans GB3.out)
        have GV8 := Lib.hid ((hb38.block _ (Array.getElem?_eq_some_iff.1 GV3.out).1).trans GV3.out)
        have GW8 : Hid ((w7.alloc (.cells vr 23)).heap[w7.heap.size]? = some (.cells vr 23 (0, 0))) := Lib.hid (heap_alloc_last w7 _)
        clear hb7 hb8 hb37 hb38
        go_wp2_with (first
          | (refine wpList_alloc_z rfl 23 rfl Z ZA.out ?_; go_simp)
          | (refine wpList_store_new rfl 23 (.tmp 9) (.tmp 46) rfl w7.heap.size rfl Z vr 23 rfl rfl HVS.out HVZ.out HV1.out ?_; go_simp))
        generalize (w7.alloc (.cells vr 23)) = w8 at HB8 GA8 GB8 GV8 GW8 ⊢
        generalize w7.heap.size = nw at GW8 ⊢
        have hvd := HV.out
        have V12 : Hid (∀ W : World, Below w8.heap.size w8 W → W.cell? ⟨nv, 12, none⟩ = some (.int .u8 x0.toNat)) := Lib.hid (fun W h => (cell_blk (x := v) (by rw [GV8.out, HVr.out]) h (k := 12) (by omega)).trans (by rw [hvd]; rfl))
        have V15 : Hid (∀ W : World, Below w8.heap.size w8 W → W.cell? ⟨nv, 15, none⟩ = some (.int .u8 x3.toNat)) := Lib.hid (fun W h => (cell_blk (x := v) (by rw [GV8.out, HVr.out]) h (k := 15) (by omega)).trans (by rw [hvd]; rfl))
        have B0 : Hid (∀ W : World, Below w8.heap.size w8 W → W.cell? ⟨w.heap.size, 0, none⟩ = some (.int .u8 x0.toNat)) := Lib.hid (fun W h => cell_blk GB8.out h (k := 0) (by show 0 < 4; omega))
        have B3 : Hid (∀ W : World, Below w8.heap.size w8 W → W.cell? ⟨w.heap.size, 3, none⟩ = some (.int .u8 x3.toNat)) := Lib.hid (fun W h => cell_blk GB8.out h (k := 3) (by show 3 < 4; omega))
        have A12 : Hid (∀ W : World, Below w8.heap.size w8 W → W.cell? ⟨w.heap.size + 1, 12, none⟩ = some (.int .u8 (a.getD 12 0).toNat)) := Lib.hid (fun W h => cell_blk GA8.out h (by omega))
        have A13 : Hid (∀ W : World, Below w8.heap.size w8 W → W.cell? ⟨w.heap.size + 1, 13, none⟩ = some (.int .u8 (a.getD 13 0).toNat)) := Lib.hid (fun W h => cell_blk GA8.out h (by omega))
        have A14 : Hid (∀ W : World, Below w8.heap.size w8 W → W.cell? ⟨w.heap.size + 1, 14, none⟩ = some (.int .u8 (a.getD 14 0).toNat)) := Lib.hid (fun W h => cell_blk GA8.out h (by omega))
        have A15 : Hid (∀ W : World, Below w8.heap.size w8 W → W.cell? ⟨w.heap.size + 1, 15, none⟩ = some (.int .u8 (a.getD 15 0).toNat)) := Lib.hid (fun W h => cell_blk GA8.out h (by omega))
        have RV : Hid (∀ W : World, Below w8.heap.size w8 W → W.rangeAt nv 0 (bvs v)) := Lib.hid (fun W h => range_blk (by rw [GV8.out, HVr.out]) h)
        have RW : Hid (∀ W : World, Below w8.heap.size w8 W → W.rangeAt nw 0 (bvs v)) := Lib.hid (fun W h => range_blk (by rw [GW8.out, HVr.out]) h)
        have RA : Hid (∀ W : World, Below w8.heap.size w8 W → W.rangeAt (w.heap.size + 1) 0 (bvs a)) := Lib.hid (fun W h => range_blk GA8.out h)
        have h4v : isV4 v = true := by rw [hvd]; exact isV4_four x0 x1 x2 x3
        have hfb := four_back ha
        have H4V := Lib.hid (fun W => is4_e v hvl W)
        have H4A := Lib.hid (fun W => is4_e a ha W)
        have HFB := Lib.hid (fun W => v4_e (a.getD 12 0) (a.getD 13 0) (a.getD 14 0) (a.getD 15 0) W)
        have HSV : Hid ((Tryd.prog.info? 23).map (·.size) = some (bvs v).length) := Lib.hid (sizeBv hvl)
        have HSA : Hid ((Tryd.prog.info? 23).map (·.size) = some (bvs a).length) := Lib.hid (sizeBv ha)
        have HQV : ∀ W : World, (Op.equalIn 10000 23 (.agg (bvs v).toArray) (.agg (bvs v).toArray)).run Tryd.prog W = .ok true W := fun W => by rw [run_eq_addr W hvl hvl, beq_self_eq_true]
        have HQA : ∀ W : World, (Op.equalIn 10000 23 (.agg (bvs a).toArray) (.agg (bvs a).toArray)).run Tryd.prog W = .ok true W := fun W => by rw [run_eq_addr W ha ha, beq_self_eq_true]
        have hq := HQ2.out
        rw [h4v] at H4V
        rw [← hq] at H4A hfb
        have hfb2 : q = true → bvs (four12 ++ [a.getD 12 0, a.getD 13 0, a.getD 14 0, a.getD 15 0]) = bvs a := fun e => by rw [hfb e]
        generalize bvs (four12 ++ [a.getD 12 0, a.getD 13 0, a.getD 14 0, a.getD 15 0]) = fl at HFB hfb2
        generalize bvs v = vl at RV RW H4V HSV HQV
        generalize bvs a = al at RA H4A HSA HQA hfb2
        generalize a.getD 12 0 = y12 at A12 HFB
        generalize a.getD 13 0 = y13 at A13 HFB
        generalize a.getD 14 0 = y14 at A14 HFB
        generalize a.getD 15 0 = y15 at A15 HFB
        generalize w.heap.size + 1 = na at RA A12 A13 A14 A15 ⊢
        have HFB2 := Lib.hid hfb2
        clear hq h4v hfb hfb2 hvd
        generalize hnb : w.heap.size = nb at B0 B3 ⊢
        cases q
        · skip
          refine wp_region_held_drew (S := (fun W : World => Below w8.heap.size w8 W)) (by kernel_rfl) (Below.refl _ w8).drew (fun hHeld => ?_)
          refine wpAnyH_take (i := 0) (oi := ({ dst := some 48, op := Go.Op.load 23 (Go.Operand.tmp 5), type := 23, pos := "law.go:119", after := #[], guard := none } : Oper)) (v := .agg vl.toArray) rfl (by kernel_rfl) (by kernel_rfl) (by kernel_rfl) (fun _ _ _ h => h) (yieldsIf_load_mid (by rfl) _ _ rfl _ _ rfl _ _ (fun W h => RV.out W h) hu rfl HSV.out) hHeld ?_
          simp only [Act.put, List.setIfInBounds_toArray, List.set_cons_zero, List.set_cons_succ]
          refine wpAnyH_ready (rs := [1]) (by kernel_rfl) (by simp) ?_
          refine AllReadyH.cons (o := ({ dst := some 49, op := Go.Op.call { callee := Go.Callee.value (Go.Operand.func 8), args := #[Go.Operand.tmp 48], argTypes := #[23] }, type := 4, pos := "law.go:119", after := #[{ on := 0, ground := Go.Ground.data }], guard := none } : Oper)) rfl (fun K hK => ?_) AllReadyH.nil
          go_simp
          go_at_call 8
          refine (H4V.out _).mono ?_
          rintro e' w11 ⟨rfl, hw11⟩
          refine hK.out _ _ (hHeld.trans (hw11.mono hHeld.size)) (fun hHeld1 => ?_)
          clear hK K
          refine wpAnyH_take (i := 2) (oi := ({ dst := some 50, op := Go.Op.move (Go.Operand.tmp 49), type := 4, pos := "law.go:119", after := #[{ on := 1, ground := Go.Ground.data }, { on := 1, ground := Go.Ground.chain }], guard := none } : Oper)) (v := .bool true) rfl (by kernel_rfl) (by kernel_rfl) (by kernel_rfl) (fun _ _ _ h => h) (Or.inl ⟨by rfl, fun w' _ => ?_⟩) hHeld1 ?_
          · go_simp
          simp only [Act.put, List.setIfInBounds_toArray, List.set_cons_zero, List.set_cons_succ]
          refine wpAnyH_take (i := 3) (oi := ({ dst := some 51, op := Go.Op.indexAddr 23 (Go.Operand.tmp 5) (Go.Operand.const (Go.Value.int Go.IntKind.i64 12)), type := 0, pos := "law.go:119", after := #[{ on := 2, ground := Go.Ground.guard }], guard := some (2, true) } : Oper)) (v := .pointer (some ⟨nv, 12, none⟩)) rfl (by kernel_rfl) (by kernel_rfl) (by kernel_rfl) (fun _ _ _ h => h) (Or.inl ⟨by rfl, fun w' _ => ?_⟩) hHeld1 ?_
          · go_simp
          simp only [Act.put, List.setIfInBounds_toArray, List.set_cons_zero, List.set_cons_succ]
          refine wpAnyH_take (i := 4) (oi := ({ dst := some 52, op := Go.Op.load 5 (Go.Operand.tmp 51), type := 5, pos := "law.go:119", after := #[{ on := 3, ground := Go.Ground.data }, { on := 2, ground := Go.Ground.guard }], guard := some (2, true) } : Oper)) (v := .int .u8 x0.toNat) rfl (by kernel_rfl) (by kernel_rfl) (by kernel_rfl) (fun _ _ _ h => h) (Or.inl ⟨by rfl, fun w' hS' => ?_⟩) hHeld1 ?_
          · have hcell := V12.out _ hS'
            go_simp
          simp only [Act.put, List.setIfInBounds_toArray, List.set_cons_zero, List.set_cons_succ]
          refine wpAnyH_take (i := 5) (oi := ({ dst := some 53, op := Go.Op.indexAddr 32 (Go.Operand.tmp 2) (Go.Operand.const (Go.Value.int Go.IntKind.i64 0)), type := 0, pos := "law.go:119", after := #[{ on := 2, ground := Go.Ground.guard }], guard := some (2, true) } : Oper)) (v := .pointer (some ⟨nb, 0, none⟩)) rfl (by kernel_rfl) (by kernel_rfl) (by kernel_rfl) (fun _ _ _ h => h) (Or.inl ⟨by rfl, fun w' _ => ?_⟩) hHeld1 ?_
          · go_simp
          simp only [Act.put, List.setIfInBounds_toArray, List.set_cons_zero, List.set_cons_succ]
          refine wpAnyH_take (i := 6) (oi := ({ dst := some 54, op := Go.Op.load 5 (Go.Operand.tmp 53), type := 5, pos := "law.go:119", after := #[{ on := 5, ground := Go.Ground.data }, { on := 2, ground := Go.Ground.guard }], guard := some (2, true) } : Oper)) (v := .int .u8 x0.toNat) rfl (by kernel_rfl) (by kernel_rfl) (by kernel_rfl) (fun _ _ _ h => h) (Or.inl ⟨by rfl, fun w' hS' => ?_⟩) hHeld1 ?_
          · have hcell := B0.out _ hS'
            go_simp
          simp only [Act.put, List.setIfInBounds_toArray, List.set_cons_zero, List.set_cons_succ]
          refine wpAnyH_take (i := 7) (oi := ({ dst := some 55, op := Go.Op.binOp Go.BinOp.eql 5 (Go.Operand.tmp 52) (Go.Operand.tmp 54) 5, type := 4, pos := "law.go:119", after := #[{ on := 4, ground := Go.Ground.data }, { on := 6, ground := Go.Ground.data }, { on := 2, ground := Go.Ground.guard }], guard := some (2, true) } : Oper)) (v := .bool true) rfl (by kernel_rfl) (by kernel_rfl) (by kernel_rfl) (fun _ _ _ h => h) (Or.inl ⟨by rfl, fun w' _ => ?_⟩) hHeld1 ?_
          · go_simp
          simp only [Act.put, List.setIfInBounds_toArray, List.set_cons_zero, List.set_cons_succ]
          refine wpAnyH_take (i := 8) (oi := ({ dst := some 56, op := Go.Op.pick (Go.Operand.tmp 50) (Go.Operand.tmp 55) (Go.Operand.const (Go.Value.bool false)), type := 4, pos := "law.go:119", after := #[{ on := 2, ground := Go.Ground.data }, { on := 7, ground := Go.Ground.data }], guard := none } : Oper)) (v := .bool true) rfl (by kernel_rfl) (by kernel_rfl) (by kernel_rfl) (fun _ _ _ h => h) (Or.inl ⟨by rfl, fun w' _ => ?_⟩) hHeld1 ?_
          · go_simp
          simp only [Act.put, List.setIfInBounds_toArray, List.set_cons_zero, List.set_cons_succ]
          refine wpAnyH_take (i := 9) (oi := ({ dst := some 57, op := Go.Op.move (Go.Operand.tmp 56), type := 4, pos := "law.go:119", after := #[{ on := 8, ground := Go.Ground.data }, { on := 2, ground := Go.Ground.chain }], guard := none } : Oper)) (v := .bool true) rfl (by kernel_rfl) (by kernel_rfl) (by kernel_rfl) (fun _ _ _ h => h) (Or.inl ⟨by rfl, fun w' _ => ?_⟩) hHeld1 ?_
          · go_simp
          simp only [Act.put, List.setIfInBounds_toArray, List.set_cons_zero, List.set_cons_succ]
          refine wpAnyH_take (i := 10) (oi := ({ dst := some 58, op := Go.Op.indexAddr 23 (Go.Operand.tmp 5) (Go.Operand.const (Go.Value.int Go.IntKind.i64 15)), type := 0, pos := "law.go:119", after := #[{ on := 9, ground := Go.Ground.guard }], guard := some (9, true) } : Oper)) (v := .pointer (some ⟨nv, 15, none⟩)) rfl (by kernel_rfl) (by kernel_rfl) (by kernel_rfl) (fun _ _ _ h => h) (Or.inl ⟨by rfl, fun w' _ => ?_⟩) hHeld1 ?_
          · go_simp
          simp only [Act.put, List.setIfInBounds_toArray, List.set_cons_zero, List.set_cons_succ]
          refine wpAnyH_take (i := 11) (oi := ({ dst := some 59, op := Go.Op.load 5 (Go.Operand.tmp 58), type := 5, pos := "law.go:119", after := #[{ on := 10, ground := Go.Ground.data }, { on := 9, ground := Go.Ground.guard }], guard := some (9, true) } : Oper)) (v := .int .u8 x3.toNat) rfl (by kernel_rfl) (by kernel_rfl) (by kernel_rfl) (fun _ _ _ h => h) (Or.inl ⟨by rfl, fun w' hS' => ?_⟩) hHeld1 ?_
          · have hcell := V15.out _ hS'
            go_simp
          simp only [Act.put, List.setIfInBounds_toArray, List.set_cons_zero, List.set_cons_succ]
          refine wpAnyH_take (i := 12) (oi := ({ dst := some 60, op := Go.Op.indexAddr 32 (Go.Operand.tmp 2) (Go.Operand.const (Go.Value.int Go.IntKind.i64 3)), type := 0, pos := "law.go:119", after := #[{ on := 9, ground := Go.Ground.guard }], guard := some (9, true) } : Oper)) (v := .pointer (some ⟨nb, 3, none⟩)) rfl (by kernel_rfl) (by kernel_rfl) (by kernel_rfl) (fun _ _ _ h => h) (Or.inl ⟨by rfl, fun w' _ => ?_⟩) hHeld1 ?_
          · go_simp
          simp only [Act.put, List.setIfInBounds_toArray, List.set_cons_zero, List.set_cons_succ]
          refine wpAnyH_take (i := 13) (oi := ({ dst := some 61, op := Go.Op.load 5 (Go.Operand.tmp 60), type := 5, pos := "law.go:119", after := #[{ on := 12, ground := Go.Ground.data }, { on := 9, ground := Go.Ground.guard }], guard := some (9, true) } : Oper)) (v := .int .u8 x3.toNat) rfl (by kernel_rfl) (by kernel_rfl) (by kernel_rfl) (fun _ _ _ h => h) (Or.inl ⟨by rfl, fun w' hS' => ?_⟩) hHeld1 ?_
          · have hcell := B3.out _ hS'
            go_simp
          simp only [Act.put, List.setIfInBounds_toArray, List.set_cons_zero, List.set_cons_succ]
          refine wpAnyH_take (i := 14) (oi := ({ dst := some 62, op := Go.Op.binOp Go.BinOp.eql 5 (Go.Operand.tmp 59) (Go.Operand.tmp 61) 5, type := 4, pos := "law.go:119", after := #[{ on := 11, ground := Go.Ground.data }, { on := 13, ground := Go.Ground.data }, { on := 9, ground := Go.Ground.guard }], guard := some (9, true) } : Oper)) (v := .bool true) rfl (by kernel_rfl) (by kernel_rfl) (by kernel_rfl) (fun _ _ _ h => h) (Or.inl ⟨by rfl, fun w' _ => ?_⟩) hHeld1 ?_
          · go_simp
          simp only [Act.put, List.setIfInBounds_toArray, List.set_cons_zero, List.set_cons_succ]
          refine wpAnyH_take (i := 15) (oi := ({ dst := some 63, op := Go.Op.pick (Go.Operand.tmp 57) (Go.Operand.tmp 62) (Go.Operand.const (Go.Value.bool false)), type := 4, pos := "law.go:119", after := #[{ on := 9, ground := Go.Ground.data }, { on := 14, ground := Go.Ground.data }], guard := none } : Oper)) (v := .bool true) rfl (by kernel_rfl) (by kernel_rfl) (by kernel_rfl) (fun _ _ _ h => h) (Or.inl ⟨by rfl, fun w' _ => ?_⟩) hHeld1 ?_
          · go_simp
          simp only [Act.put, List.setIfInBounds_toArray, List.set_cons_zero, List.set_cons_succ]
          refine wpAnyH_take (i := 16) (oi := ({ dst := some 64, op := Go.Op.move (Go.Operand.tmp 63), type := 4, pos := "law.go:119", after := #[{ on := 15, ground := Go.Ground.data }, { on := 9, ground := Go.Ground.chain }], guard := none } : Oper)) (v := .bool true) rfl (by kernel_rfl) (by kernel_rfl) (by kernel_rfl) (fun _ _ _ h => h) (Or.inl ⟨by rfl, fun w' _ => ?_⟩) hHeld1 ?_
          · go_simp
          simp only [Act.put, List.setIfInBounds_toArray, List.set_cons_zero, List.set_cons_succ]
          refine wpAnyH_take (i := 17) (oi := ({ dst := some 65, op := Go.Op.load 23 (Go.Operand.tmp 3), type := 23, pos := "law.go:119", after := #[{ on := 16, ground := Go.Ground.guard }], guard := some (16, true) } : Oper)) (v := .agg al.toArray) rfl (by kernel_rfl) (by kernel_rfl) (by kernel_rfl) (fun _ _ _ h => h) (yieldsIf_load_mid (by rfl) _ _ rfl _ _ rfl _ _ (fun W h => RA.out W h) hu rfl HSA.out) hHeld1 ?_
          simp only [Act.put, List.setIfInBounds_toArray, List.set_cons_zero, List.set_cons_succ]
          refine wpAnyH_take (i := 19) (oi := ({ dst := some 67, op := Go.Op.move (Go.Operand.tmp 6), type := 4, pos := "law.go:119", after := #[{ on := 16, ground := Go.Ground.guard }], guard := some (16, true) } : Oper)) (v := .bool false) rfl (by kernel_rfl) (by kernel_rfl) (by kernel_rfl) (fun _ _ _ h => h) (Or.inl ⟨by rfl, fun w' _ => ?_⟩) hHeld1 ?_
          · go_simp
          simp only [Act.put, List.setIfInBounds_toArray, List.set_cons_zero, List.set_cons_succ]
          refine wpAnyH_ready (rs := [18]) (by kernel_rfl) (by simp) ?_
          refine AllReadyH.cons (o := ({ dst := some 66, op := Go.Op.call { callee := Go.Callee.value (Go.Operand.func 8), args := #[Go.Operand.tmp 65], argTypes := #[23] }, type := 4, pos := "law.go:119", after := #[{ on := 17, ground := Go.Ground.data }, { on := 16, ground := Go.Ground.chain }, { on := 16, ground := Go.Ground.guard }], guard := some (16, true) } : Oper)) rfl (fun K hK => ?_) AllReadyH.nil
          go_simp
          go_at_call 8
          refine (H4A.out _).mono ?_
          rintro e' w12 ⟨rfl, hw12⟩
          refine hK.out _ _ (hHeld1.trans (hw12.mono hHeld1.size)) (fun hHeld2 => ?_)
          clear hK K
          refine wpAnyH_take (i := 20) (oi := ({ dst := some 68, op := Go.Op.binOp Go.BinOp.eql 4 (Go.Operand.tmp 66) (Go.Operand.tmp 67) 4, type := 4, pos := "law.go:119", after := #[{ on := 18, ground := Go.Ground.data }, { on := 19, ground := Go.Ground.data }, { on := 16, ground := Go.Ground.guard }], guard := some (16, true) } : Oper)) (v := .bool true) rfl (by kernel_rfl) (by kernel_rfl) (by kernel_rfl) (fun _ _ _ h => h) (Or.inl ⟨by rfl, fun w' _ => ?_⟩) hHeld2 ?_
          · go_simp
          simp only [Act.put, List.setIfInBounds_toArray, List.set_cons_zero, List.set_cons_succ]
          refine wpAnyH_take (i := 21) (oi := ({ dst := some 69, op := Go.Op.pick (Go.Operand.tmp 64) (Go.Operand.tmp 68) (Go.Operand.const (Go.Value.bool false)), type := 4, pos := "law.go:119", after := #[{ on := 16, ground := Go.Ground.data }, { on := 20, ground := Go.Ground.data }], guard := none } : Oper)) (v := .bool true) rfl (by kernel_rfl) (by kernel_rfl) (by kernel_rfl) (fun _ _ _ h => h) (Or.inl ⟨by rfl, fun w' _ => ?_⟩) hHeld2 ?_
          · go_simp
          simp only [Act.put, List.setIfInBounds_toArray, List.set_cons_zero, List.set_cons_succ]
          refine wpAnyH_take (i := 22) (oi := ({ dst := some 70, op := Go.Op.move (Go.Operand.tmp 69), type := 4, pos := "law.go:119", after := #[{ on := 21, ground := Go.Ground.data }, { on := 18, ground := Go.Ground.chain }], guard := none } : Oper)) (v := .bool true) rfl (by kernel_rfl) (by kernel_rfl) (by kernel_rfl) (fun _ _ _ h => h) (Or.inl ⟨by rfl, fun w' _ => ?_⟩) hHeld2 ?_
          · go_simp
          simp only [Act.put, List.setIfInBounds_toArray, List.set_cons_zero, List.set_cons_succ]
          refine wpAnyH_take (i := 23) (oi := ({ dst := some 71, op := Go.Op.move (Go.Operand.tmp 10), type := 34, pos := "law.go:119", after := #[{ on := 22, ground := Go.Ground.guard }], guard := some (22, true) } : Oper)) (v := .int .i64 0) rfl (by kernel_rfl) (by kernel_rfl) (by kernel_rfl) (fun _ _ _ h => h) (Or.inl ⟨by rfl, fun w' _ => ?_⟩) hHeld2 ?_
          · go_simp
          simp only [Act.put, List.setIfInBounds_toArray, List.set_cons_zero, List.set_cons_succ]
          refine wpAnyH_take (i := 24) (oi := ({ dst := some 72, op := Go.Op.binOp Go.BinOp.eql 34 (Go.Operand.tmp 71) (Go.Operand.const (Go.Value.int Go.IntKind.i64 0)) 34, type := 4, pos := "law.go:119", after := #[{ on := 23, ground := Go.Ground.data }, { on := 22, ground := Go.Ground.guard }], guard := some (22, true) } : Oper)) (v := .bool true) rfl (by kernel_rfl) (by kernel_rfl) (by kernel_rfl) (fun _ _ _ h => h) (Or.inl ⟨by rfl, fun w' _ => ?_⟩) hHeld2 ?_
          · go_simp
          simp only [Act.put, List.setIfInBounds_toArray, List.set_cons_zero, List.set_cons_succ]
          refine wpAnyH_take (i := 25) (oi := ({ dst := some 73, op := Go.Op.pick (Go.Operand.tmp 70) (Go.Operand.tmp 72) (Go.Operand.const (Go.Value.bool false)), type := 4, pos := "law.go:119", after := #[{ on := 22, ground := Go.Ground.data }, { on := 24, ground := Go.Ground.data }], guard := none } : Oper)) (v := .bool true) rfl (by kernel_rfl) (by kernel_rfl) (by kernel_rfl) (fun _ _ _ h => h) (Or.inl ⟨by rfl, fun w' _ => ?_⟩) hHeld2 ?_
          · go_simp
          simp only [Act.put, List.setIfInBounds_toArray, List.set_cons_zero, List.set_cons_succ]
          refine wpAnyH_take (i := 26) (oi := ({ dst := some 74, op := Go.Op.move (Go.Operand.tmp 73), type := 4, pos := "law.go:119", after := #[{ on := 25, ground := Go.Ground.data }, { on := 22, ground := Go.Ground.chain }], guard := none } : Oper)) (v := .bool true) rfl (by kernel_rfl) (by kernel_rfl) (by kernel_rfl) (fun _ _ _ h => h) (Or.inl ⟨by rfl, fun w' _ => ?_⟩) hHeld2 ?_
          · go_simp
          simp only [Act.put, List.setIfInBounds_toArray, List.set_cons_zero, List.set_cons_succ]
          refine wpAnyH_take (i := 27) (oi := ({ dst := some 75, op := Go.Op.load 23 (Go.Operand.tmp 9), type := 23, pos := "law.go:119", after := #[{ on := 26, ground := Go.Ground.guard }], guard := some (26, true) } : Oper)) (v := .agg vl.toArray) rfl (by kernel_rfl) (by kernel_rfl) (by kernel_rfl) (fun _ _ _ h => h) (yieldsIf_load_mid (by rfl) _ _ rfl _ _ rfl _ _ (fun W h => RW.out W h) hu rfl HSV.out) hHeld2 ?_
          simp only [Act.put, List.setIfInBounds_toArray, List.set_cons_zero, List.set_cons_succ]
          refine wpAnyH_take (i := 28) (oi := ({ dst := some 76, op := Go.Op.load 23 (Go.Operand.tmp 5), type := 23, pos := "law.go:119", after := #[{ on := 26, ground := Go.Ground.guard }], guard := some (26, true) } : Oper)) (v := .agg vl.toArray) rfl (by kernel_rfl) (by kernel_rfl) (by kernel_rfl) (fun _ _ _ h => h) (yieldsIf_load_mid (by rfl) _ _ rfl _ _ rfl _ _ (fun W h => RV.out W h) hu rfl HSV.out) hHeld2 ?_
          simp only [Act.put, List.setIfInBounds_toArray, List.set_cons_zero, List.set_cons_succ]
          refine wpAnyH_take (i := 29) (oi := ({ dst := some 77, op := Go.Op.binOp Go.BinOp.eql 23 (Go.Operand.tmp 75) (Go.Operand.tmp 76) 23, type := 4, pos := "law.go:119", after := #[{ on := 27, ground := Go.Ground.data }, { on := 28, ground := Go.Ground.data }, { on := 26, ground := Go.Ground.guard }], guard := some (26, true) } : Oper)) (v := .bool true) rfl (by kernel_rfl) (by kernel_rfl) (by kernel_rfl) (fun _ _ _ h => h) (Or.inl ⟨by rfl, fun w' _ => ?_⟩) hHeld2 ?_
          · go_simp
          simp only [Act.put, List.setIfInBounds_toArray, List.set_cons_zero, List.set_cons_succ]
          refine wpAnyH_take (i := 30) (oi := ({ dst := some 78, op := Go.Op.pick (Go.Operand.tmp 74) (Go.Operand.tmp 77) (Go.Operand.const (Go.Value.bool false)), type := 4, pos := "law.go:119", after := #[{ on := 26, ground := Go.Ground.data }, { on := 29, ground := Go.Ground.data }], guard := none } : Oper)) (v := .bool true) rfl (by kernel_rfl) (by kernel_rfl) (by kernel_rfl) (fun _ _ _ h => h) (Or.inl ⟨by rfl, fun w' _ => ?_⟩) hHeld2 ?_
          · go_simp
          simp only [Act.put, List.setIfInBounds_toArray, List.set_cons_zero, List.set_cons_succ]
          refine wpAnyH_take (i := 31) (oi := ({ dst := some 79, op := Go.Op.move (Go.Operand.tmp 78), type := 4, pos := "law.go:119", after := #[{ on := 30, ground := Go.Ground.data }, { on := 26, ground := Go.Ground.chain }], guard := none } : Oper)) (v := .bool true) rfl (by kernel_rfl) (by kernel_rfl) (by kernel_rfl) (fun _ _ _ h => h) (Or.inl ⟨by rfl, fun w' _ => ?_⟩) hHeld2 ?_
          · go_simp
          simp only [Act.put, List.setIfInBounds_toArray, List.set_cons_zero, List.set_cons_succ]
          refine wpAnyH_take (i := 32) (oi := ({ dst := some 80, op := Go.Op.move (Go.Operand.tmp 6), type := 4, pos := "law.go:119", after := #[{ on := 31, ground := Go.Ground.guard }], guard := some (31, true) } : Oper)) (v := .bool false) rfl (by kernel_rfl) (by kernel_rfl) (by kernel_rfl) (fun _ _ _ h => h) (Or.inl ⟨by rfl, fun w' _ => ?_⟩) hHeld2 ?_
          · go_simp
          simp only [Act.put, List.setIfInBounds_toArray, List.set_cons_zero, List.set_cons_succ]
          refine wpAnyH_take (i := 33) (oi := ({ dst := some 81, op := Go.Op.unOp Go.UnOp.not 4 (Go.Operand.tmp 80), type := 4, pos := "law.go:119", after := #[{ on := 32, ground := Go.Ground.data }, { on := 31, ground := Go.Ground.guard }], guard := some (31, true) } : Oper)) (v := .bool true) rfl (by kernel_rfl) (by kernel_rfl) (by kernel_rfl) (fun _ _ _ h => h) (Or.inl ⟨by rfl, fun w' _ => ?_⟩) hHeld2 ?_
          · go_simp
          simp only [Act.put, List.setIfInBounds_toArray, List.set_cons_zero, List.set_cons_succ]
          refine wpAnyH_take (i := 34) (oi := ({ dst := some 82, op := Go.Op.move (Go.Operand.tmp 81), type := 4, pos := "law.go:119", after := #[{ on := 33, ground := Go.Ground.data }, { on := 31, ground := Go.Ground.chain }, { on := 31, ground := Go.Ground.guard }], guard := some (31, true) } : Oper)) (v := .bool true) rfl (by kernel_rfl) (by kernel_rfl) (by kernel_rfl) (fun _ _ _ h => h) (Or.inl ⟨by rfl, fun w' _ => ?_⟩) hHeld2 ?_
          · go_simp
          simp only [Act.put, List.setIfInBounds_toArray, List.set_cons_zero, List.set_cons_succ]
          refine wpAnyH_take (i := 35) (oi := ({ dst := some 83, op := Go.Op.indexAddr 23 (Go.Operand.tmp 3) (Go.Operand.const (Go.Value.int Go.IntKind.i64 12)), type := 0, pos := "law.go:119", after := #[{ on := 34, ground := Go.Ground.guard }], guard := some (34, false) } : Oper)) (v := undef) rfl (by kernel_rfl) (by kernel_rfl) (by kernel_rfl) (fun _ _ _ h => h) (Or.inr ⟨by rfl, rfl⟩) hHeld2 ?_
          simp only [Act.put, List.setIfInBounds_toArray, List.set_cons_zero, List.set_cons_succ]
          refine wpAnyH_take (i := 36) (oi := ({ dst := some 84, op := Go.Op.load 5 (Go.Operand.tmp 83), type := 5, pos := "law.go:119", after := #[{ on := 35, ground := Go.Ground.data }, { on := 34, ground := Go.Ground.guard }], guard := some (34, false) } : Oper)) (v := undef) rfl (by kernel_rfl) (by kernel_rfl) (by kernel_rfl) (fun _ _ _ h => h) (Or.inr ⟨by rfl, rfl⟩) hHeld2 ?_
          simp only [Act.put, List.setIfInBounds_toArray, List.set_cons_zero, List.set_cons_succ]
          refine wpAnyH_take (i := 37) (oi := ({ dst := some 85, op := Go.Op.indexAddr 23 (Go.Operand.tmp 3) (Go.Operand.const (Go.Value.int Go.IntKind.i64 13)), type := 0, pos := "law.go:119", after := #[{ on := 34, ground := Go.Ground.guard }], guard := some (34, false) } : Oper)) (v := undef) rfl (by kernel_rfl) (by kernel_rfl) (by kernel_rfl) (fun _ _ _ h => h) (Or.inr ⟨by rfl, rfl⟩) hHeld2 ?_
          simp only [Act.put, List.setIfInBounds_toArray, List.set_cons_zero, List.set_cons_succ]
          refine wpAnyH_take (i := 38) (oi := ({ dst := some 86, op := Go.Op.load 5 (Go.Operand.tmp 85), type := 5, pos := "law.go:119", after := #[{ on := 37, ground := Go.Ground.data }, { on := 34, ground := Go.Ground.guard }], guard := some (34, false) } : Oper)) (v := undef) rfl (by kernel_rfl) (by kernel_rfl) (by kernel_rfl) (fun _ _ _ h => h) (Or.inr ⟨by rfl, rfl⟩) hHeld2 ?_
          simp only [Act.put, List.setIfInBounds_toArray, List.set_cons_zero, List.set_cons_succ]
          refine wpAnyH_take (i := 39) (oi := ({ dst := some 87, op := Go.Op.indexAddr 23 (Go.Operand.tmp 3) (Go.Operand.const (Go.Value.int Go.IntKind.i64 14)), type := 0, pos := "law.go:119", after := #[{ on := 34, ground := Go.Ground.guard }], guard := some (34, false) } : Oper)) (v := undef) rfl (by kernel_rfl) (by kernel_rfl) (by kernel_rfl) (fun _ _ _ h => h) (Or.inr ⟨by rfl, rfl⟩) hHeld2 ?_
          simp only [Act.put, List.setIfInBounds_toArray, List.set_cons_zero, List.set_cons_succ]
          refine wpAnyH_take (i := 40) (oi := ({ dst := some 88, op := Go.Op.load 5 (Go.Operand.tmp 87), type := 5, pos := "law.go:119", after := #[{ on := 39, ground := Go.Ground.data }, { on := 34, ground := Go.Ground.guard }], guard := some (34, false) } : Oper)) (v := undef) rfl (by kernel_rfl) (by kernel_rfl) (by kernel_rfl) (fun _ _ _ h => h) (Or.inr ⟨by rfl, rfl⟩) hHeld2 ?_
          simp only [Act.put, List.setIfInBounds_toArray, List.set_cons_zero, List.set_cons_succ]
          refine wpAnyH_take (i := 41) (oi := ({ dst := some 89, op := Go.Op.indexAddr 23 (Go.Operand.tmp 3) (Go.Operand.const (Go.Value.int Go.IntKind.i64 15)), type := 0, pos := "law.go:119", after := #[{ on := 34, ground := Go.Ground.guard }], guard := some (34, false) } : Oper)) (v := undef) rfl (by kernel_rfl) (by kernel_rfl) (by kernel_rfl) (fun _ _ _ h => h) (Or.inr ⟨by rfl, rfl⟩) hHeld2 ?_
          simp only [Act.put, List.setIfInBounds_toArray, List.set_cons_zero, List.set_cons_succ]
          refine wpAnyH_take (i := 42) (oi := ({ dst := some 90, op := Go.Op.load 5 (Go.Operand.tmp 89), type := 5, pos := "law.go:119", after := #[{ on := 41, ground := Go.Ground.data }, { on := 34, ground := Go.Ground.guard }], guard := some (34, false) } : Oper)) (v := undef) rfl (by kernel_rfl) (by kernel_rfl) (by kernel_rfl) (fun _ _ _ h => h) (Or.inr ⟨by rfl, rfl⟩) hHeld2 ?_
          simp only [Act.put, List.setIfInBounds_toArray, List.set_cons_zero, List.set_cons_succ]
          refine wpAnyH_take (i := 43) (oi := ({ dst := some 91, op := Go.Op.call { callee := Go.Callee.value (Go.Operand.func 12), args := #[Go.Operand.tmp 84, Go.Operand.tmp 86, Go.Operand.tmp 88, Go.Operand.tmp 90], argTypes := #[5, 5, 5, 5] }, type := 23, pos := "law.go:119", after := #[{ on := 36, ground := Go.Ground.data }, { on := 38, ground := Go.Ground.data }, { on := 40, ground := Go.Ground.data }, { on := 42, ground := Go.Ground.data }, { on := 34, ground := Go.Ground.chain }, { on := 34, ground := Go.Ground.guard }], guard := some (34, false) } : Oper)) (v := undef) rfl (by kernel_rfl) (by kernel_rfl) (by kernel_rfl) (fun _ _ _ h => h) (Or.inr ⟨by rfl, rfl⟩) hHeld2 ?_
          simp only [Act.put, List.setIfInBounds_toArray, List.set_cons_zero, List.set_cons_succ]
          refine wpAnyH_take (i := 44) (oi := ({ dst := some 92, op := Go.Op.load 23 (Go.Operand.tmp 3), type := 23, pos := "law.go:119", after := #[{ on := 34, ground := Go.Ground.guard }], guard := some (34, false) } : Oper)) (v := undef) rfl (by kernel_rfl) (by kernel_rfl) (by kernel_rfl) (fun _ _ _ h => h) (Or.inr ⟨by rfl, rfl⟩) hHeld2 ?_
          simp only [Act.put, List.setIfInBounds_toArray, List.set_cons_zero, List.set_cons_succ]
          refine wpAnyH_take (i := 45) (oi := ({ dst := some 93, op := Go.Op.binOp Go.BinOp.eql 23 (Go.Operand.tmp 91) (Go.Operand.tmp 92) 23, type := 4, pos := "law.go:119", after := #[{ on := 43, ground := Go.Ground.data }, { on := 44, ground := Go.Ground.data }, { on := 34, ground := Go.Ground.guard }], guard := some (34, false) } : Oper)) (v := undef) rfl (by kernel_rfl) (by kernel_rfl) (by kernel_rfl) (fun _ _ _ h => h) (Or.inr ⟨by rfl, rfl⟩) hHeld2 ?_
          simp only [Act.put, List.setIfInBounds_toArray, List.set_cons_zero, List.set_cons_succ]
          refine wpAnyH_take (i := 46) (oi := ({ dst := some 94, op := Go.Op.pick (Go.Operand.tmp 82) (Go.Operand.const (Go.Value.bool true)) (Go.Operand.tmp 93), type := 4, pos := "law.go:119", after := #[{ on := 34, ground := Go.Ground.data }, { on := 45, ground := Go.Ground.data }, { on := 31, ground := Go.Ground.guard }], guard := some (31, true) } : Oper)) (v := .bool true) rfl (by kernel_rfl) (by kernel_rfl) (by kernel_rfl) (fun _ _ _ h => h) (Or.inl ⟨by rfl, fun w' _ => ?_⟩) hHeld2 ?_
          · go_simp
          simp only [Act.put, List.setIfInBounds_toArray, List.set_cons_zero, List.set_cons_succ]
          refine wpAnyH_take (i := 47) (oi := ({ dst := some 95, op := Go.Op.pick (Go.Operand.tmp 79) (Go.Operand.tmp 94) (Go.Operand.const (Go.Value.bool false)), type := 4, pos := "law.go:119", after := #[{ on := 31, ground := Go.Ground.data }, { on := 46, ground := Go.Ground.data }], guard := none } : Oper)) (v := .bool true) rfl (by kernel_rfl) (by kernel_rfl) (by kernel_rfl) (fun _ _ _ h => h) (Or.inl ⟨by rfl, fun w' _ => ?_⟩) hHeld2 ?_
          · go_simp
          simp only [Act.put, List.setIfInBounds_toArray, List.set_cons_zero, List.set_cons_succ]
          refine wpAnyH_take (i := 48) (oi := ({ dst := some 4, op := Go.Op.assign (Go.Operand.tmp 95), type := 4, pos := "law.go:119", after := #[{ on := 47, ground := Go.Ground.data }, { on := 43, ground := Go.Ground.chain }, { on := 0, ground := Go.Ground.phase }, { on := 1, ground := Go.Ground.phase }, { on := 2, ground := Go.Ground.phase }, { on := 3, ground := Go.Ground.phase }, { on := 4, ground := Go.Ground.phase }, { on := 5, ground := Go.Ground.phase }, { on := 6, ground := Go.Ground.phase }, { on := 7, ground := Go.Ground.phase }, { on := 8, ground := Go.Ground.phase }, { on := 9, ground := Go.Ground.phase }, { on := 10, ground := Go.Ground.phase }, { on := 11, ground := Go.Ground.phase }, { on := 12, ground := Go.Ground.phase }, { on := 13, ground := Go.Ground.phase }, { on := 14, ground := Go.Ground.phase }, { on := 15, ground := Go.Ground.phase }, { on := 16, ground := Go.Ground.phase }, { on := 17, ground := Go.Ground.phase }, { on := 18, ground := Go.Ground.phase }, { on := 19, ground := Go.Ground.phase }, { on := 20, ground := Go.Ground.phase }, { on := 21, ground := Go.Ground.phase }, { on := 22, ground := Go.Ground.phase }, { on := 23, ground := Go.Ground.phase }, { on := 24, ground := Go.Ground.phase }, { on := 25, ground := Go.Ground.phase }, { on := 26, ground := Go.Ground.phase }, { on := 27, ground := Go.Ground.phase }, { on := 28, ground := Go.Ground.phase }, { on := 29, ground := Go.Ground.phase }, { on := 30, ground := Go.Ground.phase }, { on := 31, ground := Go.Ground.phase }, { on := 32, ground := Go.Ground.phase }, { on := 33, ground := Go.Ground.phase }, { on := 34, ground := Go.Ground.phase }, { on := 35, ground := Go.Ground.phase }, { on := 36, ground := Go.Ground.phase }, { on := 37, ground := Go.Ground.phase }, { on := 38, ground := Go.Ground.phase }, { on := 39, ground := Go.Ground.phase }, { on := 40, ground := Go.Ground.phase }, { on := 41, ground := Go.Ground.phase }, { on := 42, ground := Go.Ground.phase }, { on := 43, ground := Go.Ground.phase }, { on := 44, ground := Go.Ground.phase }, { on := 45, ground := Go.Ground.phase }, { on := 46, ground := Go.Ground.phase }, { on := 47, ground := Go.Ground.phase }], guard := none } : Oper)) (v := .bool true) rfl (by kernel_rfl) (by kernel_rfl) (by kernel_rfl) (fun _ _ _ h => h) (Or.inl ⟨by rfl, fun w' _ => ?_⟩) hHeld2 ?_
          · go_simp
          simp only [Act.put, List.setIfInBounds_toArray, List.set_cons_zero, List.set_cons_succ]
          refine wpAnyH_done (by kernel_rfl) ?_ _
          have HBn := Lib.hid (HB8.out.trans (hHeld2.mono HB8.out.size))
          go_wp2_with fail
          go_ret
          first
            | exact ⟨rfl, HBn.out⟩
            | exact ⟨rfl, by rw [← hnb]; exact HBn.out⟩
        · have e := HFB2.out rfl
          rw [e] at HFB
          clear e
          refine wp_region_held_drew (S := (fun W : World => Below w8.heap.size w8 W)) (by kernel_rfl) (Below.refl _ w8).drew (fun hHeld => ?_)
          refine wpAnyH_take (i := 0) (oi := ({ dst := some 48, op := Go.Op.load 23 (Go.Operand.tmp 5), type := 23, pos := "law.go:119", after := #[], guard := none } : Oper)) (v := .agg vl.toArray) rfl (by kernel_rfl) (by kernel_rfl) (by kernel_rfl) (fun _ _ _ h => h) (yieldsIf_load_mid (by rfl) _ _ rfl _ _ rfl _ _ (fun W h => RV.out W h) hu rfl HSV.out) hHeld ?_
          simp only [Act.put, List.setIfInBounds_toArray, List.set_cons_zero, List.set_cons_succ]
          refine wpAnyH_ready (rs := [1]) (by kernel_rfl) (by simp) ?_
          refine AllReadyH.cons (o := ({ dst := some 49, op := Go.Op.call { callee := Go.Callee.value (Go.Operand.func 8), args := #[Go.Operand.tmp 48], argTypes := #[23] }, type := 4, pos := "law.go:119", after := #[{ on := 0, ground := Go.Ground.data }], guard := none } : Oper)) rfl (fun K hK => ?_) AllReadyH.nil
          go_simp
          go_at_call 8
          refine (H4V.out _).mono ?_
          rintro e' w11 ⟨rfl, hw11⟩
          refine hK.out _ _ (hHeld.trans (hw11.mono hHeld.size)) (fun hHeld1 => ?_)
          clear hK K
          refine wpAnyH_take (i := 2) (oi := ({ dst := some 50, op := Go.Op.move (Go.Operand.tmp 49), type := 4, pos := "law.go:119", after := #[{ on := 1, ground := Go.Ground.data }, { on := 1, ground := Go.Ground.chain }], guard := none } : Oper)) (v := .bool true) rfl (by kernel_rfl) (by kernel_rfl) (by kernel_rfl) (fun _ _ _ h => h) (Or.inl ⟨by rfl, fun w' _ => ?_⟩) hHeld1 ?_
          · go_simp
          simp only [Act.put, List.setIfInBounds_toArray, List.set_cons_zero, List.set_cons_succ]
          refine wpAnyH_take (i := 3) (oi := ({ dst := some 51, op := Go.Op.indexAddr 23 (Go.Operand.tmp 5) (Go.Operand.const (Go.Value.int Go.IntKind.i64 12)), type := 0, pos := "law.go:119", after := #[{ on := 2, ground := Go.Ground.guard }], guard := some (2, true) } : Oper)) (v := .pointer (some ⟨nv, 12, none⟩)) rfl (by kernel_rfl) (by kernel_rfl) (by kernel_rfl) (fun _ _ _ h => h) (Or.inl ⟨by rfl, fun w' _ => ?_⟩) hHeld1 ?_
          · go_simp
          simp only [Act.put, List.setIfInBounds_toArray, List.set_cons_zero, List.set_cons_succ]
          refine wpAnyH_take (i := 4) (oi := ({ dst := some 52, op := Go.Op.load 5 (Go.Operand.tmp 51), type := 5, pos := "law.go:119", after := #[{ on := 3, ground := Go.Ground.data }, { on := 2, ground := Go.Ground.guard }], guard := some (2, true) } : Oper)) (v := .int .u8 x0.toNat) rfl (by kernel_rfl) (by kernel_rfl) (by kernel_rfl) (fun _ _ _ h => h) (Or.inl ⟨by rfl, fun w' hS' => ?_⟩) hHeld1 ?_
          · have hcell := V12.out _ hS'
            go_simp
          simp only [Act.put, List.setIfInBounds_toArray, List.set_cons_zero, List.set_cons_succ]
          refine wpAnyH_take (i := 5) (oi := ({ dst := some 53, op := Go.Op.indexAddr 32 (Go.Operand.tmp 2) (Go.Operand.const (Go.Value.int Go.IntKind.i64 0)), type := 0, pos := "law.go:119", after := #[{ on := 2, ground := Go.Ground.guard }], guard := some (2, true) } : Oper)) (v := .pointer (some ⟨nb, 0, none⟩)) rfl (by kernel_rfl) (by kernel_rfl) (by kernel_rfl) (fun _ _ _ h => h) (Or.inl ⟨by rfl, fun w' _ => ?_⟩) hHeld1 ?_
          · go_simp
          simp only [Act.put, List.setIfInBounds_toArray, List.set_cons_zero, List.set_cons_succ]
          refine wpAnyH_take (i := 6) (oi := ({ dst := some 54, op := Go.Op.load 5 (Go.Operand.tmp 53), type := 5, pos := "law.go:119", after := #[{ on := 5, ground := Go.Ground.data }, { on := 2, ground := Go.Ground.guard }], guard := some (2, true) } : Oper)) (v := .int .u8 x0.toNat) rfl (by kernel_rfl) (by kernel_rfl) (by kernel_rfl) (fun _ _ _ h => h) (Or.inl ⟨by rfl, fun w' hS' => ?_⟩) hHeld1 ?_
          · have hcell := B0.out _ hS'
            go_simp
          simp only [Act.put, List.setIfInBounds_toArray, List.set_cons_zero, List.set_cons_succ]
          refine wpAnyH_take (i := 7) (oi := ({ dst := some 55, op := Go.Op.binOp Go.BinOp.eql 5 (Go.Operand.tmp 52) (Go.Operand.tmp 54) 5, type := 4, pos := "law.go:119", after := #[{ on := 4, ground := Go.Ground.data }, { on := 6, ground := Go.Ground.data }, { on := 2, ground := Go.Ground.guard }], guard := some (2, true) } : Oper)) (v := .bool true) rfl (by kernel_rfl) (by kernel_rfl) (by kernel_rfl) (fun _ _ _ h => h) (Or.inl ⟨by rfl, fun w' _ => ?_⟩) hHeld1 ?_
          · go_simp
          simp only [Act.put, List.setIfInBounds_toArray, List.set_cons_zero, List.set_cons_succ]
          refine wpAnyH_take (i := 8) (oi := ({ dst := some 56, op := Go.Op.pick (Go.Operand.tmp 50) (Go.Operand.tmp 55) (Go.Operand.const (Go.Value.bool false)), type := 4, pos := "law.go:119", after := #[{ on := 2, ground := Go.Ground.data }, { on := 7, ground := Go.Ground.data }], guard := none } : Oper)) (v := .bool true) rfl (by kernel_rfl) (by kernel_rfl) (by kernel_rfl) (fun _ _ _ h => h) (Or.inl ⟨by rfl, fun w' _ => ?_⟩) hHeld1 ?_
          · go_simp
          simp only [Act.put, List.setIfInBounds_toArray, List.set_cons_zero, List.set_cons_succ]
          refine wpAnyH_take (i := 9) (oi := ({ dst := some 57, op := Go.Op.move (Go.Operand.tmp 56), type := 4, pos := "law.go:119", after := #[{ on := 8, ground := Go.Ground.data }, { on := 2, ground := Go.Ground.chain }], guard := none } : Oper)) (v := .bool true) rfl (by kernel_rfl) (by kernel_rfl) (by kernel_rfl) (fun _ _ _ h => h) (Or.inl ⟨by rfl, fun w' _ => ?_⟩) hHeld1 ?_
          · go_simp
          simp only [Act.put, List.setIfInBounds_toArray, List.set_cons_zero, List.set_cons_succ]
          refine wpAnyH_take (i := 10) (oi := ({ dst := some 58, op := Go.Op.indexAddr 23 (Go.Operand.tmp 5) (Go.Operand.const (Go.Value.int Go.IntKind.i64 15)), type := 0, pos := "law.go:119", after := #[{ on := 9, ground := Go.Ground.guard }], guard := some (9, true) } : Oper)) (v := .pointer (some ⟨nv, 15, none⟩)) rfl (by kernel_rfl) (by kernel_rfl) (by kernel_rfl) (fun _ _ _ h => h) (Or.inl ⟨by rfl, fun w' _ => ?_⟩) hHeld1 ?_
          · go_simp
          simp only [Act.put, List.setIfInBounds_toArray, List.set_cons_zero, List.set_cons_succ]
          refine wpAnyH_take (i := 11) (oi := ({ dst := some 59, op := Go.Op.load 5 (Go.Operand.tmp 58), type := 5, pos := "law.go:119", after := #[{ on := 10, ground := Go.Ground.data }, { on := 9, ground := Go.Ground.guard }], guard := some (9, true) } : Oper)) (v := .int .u8 x3.toNat) rfl (by kernel_rfl) (by kernel_rfl) (by kernel_rfl) (fun _ _ _ h => h) (Or.inl ⟨by rfl, fun w' hS' => ?_⟩) hHeld1 ?_
          · have hcell := V15.out _ hS'
            go_simp
          simp only [Act.put, List.setIfInBounds_toArray, List.set_cons_zero, List.set_cons_succ]
          refine wpAnyH_take (i := 12) (oi := ({ dst := some 60, op := Go.Op.indexAddr 32 (Go.Operand.tmp 2) (Go.Operand.const (Go.Value.int Go.IntKind.i64 3)), type := 0, pos := "law.go:119", after := #[{ on := 9, ground := Go.Ground.guard }], guard := some (9, true) } : Oper)) (v := .pointer (some ⟨nb, 3, none⟩)) rfl (by kernel_rfl) (by kernel_rfl) (by kernel_rfl) (fun _ _ _ h => h) (Or.inl ⟨by rfl, fun w' _ => ?_⟩) hHeld1 ?_
          · go_simp
          simp only [Act.put, List.setIfInBounds_toArray, List.set_cons_zero, List.set_cons_succ]
          refine wpAnyH_take (i := 13) (oi := ({ dst := some 61, op := Go.Op.load 5 (Go.Operand.tmp 60), type := 5, pos := "law.go:119", after := #[{ on := 12, ground := Go.Ground.data }, { on := 9, ground := Go.Ground.guard }], guard := some (9, true) } : Oper)) (v := .int .u8 x3.toNat) rfl (by kernel_rfl) (by kernel_rfl) (by kernel_rfl) (fun _ _ _ h => h) (Or.inl ⟨by rfl, fun w' hS' => ?_⟩) hHeld1 ?_
          · have hcell := B3.out _ hS'
            go_simp
          simp only [Act.put, List.setIfInBounds_toArray, List.set_cons_zero, List.set_cons_succ]
          refine wpAnyH_take (i := 14) (oi := ({ dst := some 62, op := Go.Op.binOp Go.BinOp.eql 5 (Go.Operand.tmp 59) (Go.Operand.tmp 61) 5, type := 4, pos := "law.go:119", after := #[{ on := 11, ground := Go.Ground.data }, { on := 13, ground := Go.Ground.data }, { on := 9, ground := Go.Ground.guard }], guard := some (9, true) } : Oper)) (v := .bool true) rfl (by kernel_rfl) (by kernel_rfl) (by kernel_rfl) (fun _ _ _ h => h) (Or.inl ⟨by rfl, fun w' _ => ?_⟩) hHeld1 ?_
          · go_simp
          simp only [Act.put, List.setIfInBounds_toArray, List.set_cons_zero, List.set_cons_succ]
          refine wpAnyH_take (i := 15) (oi := ({ dst := some 63, op := Go.Op.pick (Go.Operand.tmp 57) (Go.Operand.tmp 62) (Go.Operand.const (Go.Value.bool false)), type := 4, pos := "law.go:119", after := #[{ on := 9, ground := Go.Ground.data }, { on := 14, ground := Go.Ground.data }], guard := none } : Oper)) (v := .bool true) rfl (by kernel_rfl) (by kernel_rfl) (by kernel_rfl) (fun _ _ _ h => h) (Or.inl ⟨by rfl, fun w' _ => ?_⟩) hHeld1 ?_
          · go_simp
          simp only [Act.put, List.setIfInBounds_toArray, List.set_cons_zero, List.set_cons_succ]
          refine wpAnyH_take (i := 16) (oi := ({ dst := some 64, op := Go.Op.move (Go.Operand.tmp 63), type := 4, pos := "law.go:119", after := #[{ on := 15, ground := Go.Ground.data }, { on := 9, ground := Go.Ground.chain }], guard := none } : Oper)) (v := .bool true) rfl (by kernel_rfl) (by kernel_rfl) (by kernel_rfl) (fun _ _ _ h => h) (Or.inl ⟨by rfl, fun w' _ => ?_⟩) hHeld1 ?_
          · go_simp
          simp only [Act.put, List.setIfInBounds_toArray, List.set_cons_zero, List.set_cons_succ]
          refine wpAnyH_take (i := 17) (oi := ({ dst := some 65, op := Go.Op.load 23 (Go.Operand.tmp 3), type := 23, pos := "law.go:119", after := #[{ on := 16, ground := Go.Ground.guard }], guard := some (16, true) } : Oper)) (v := .agg al.toArray) rfl (by kernel_rfl) (by kernel_rfl) (by kernel_rfl) (fun _ _ _ h => h) (yieldsIf_load_mid (by rfl) _ _ rfl _ _ rfl _ _ (fun W h => RA.out W h) hu rfl HSA.out) hHeld1 ?_
          simp only [Act.put, List.setIfInBounds_toArray, List.set_cons_zero, List.set_cons_succ]
          refine wpAnyH_take (i := 19) (oi := ({ dst := some 67, op := Go.Op.move (Go.Operand.tmp 6), type := 4, pos := "law.go:119", after := #[{ on := 16, ground := Go.Ground.guard }], guard := some (16, true) } : Oper)) (v := .bool true) rfl (by kernel_rfl) (by kernel_rfl) (by kernel_rfl) (fun _ _ _ h => h) (Or.inl ⟨by rfl, fun w' _ => ?_⟩) hHeld1 ?_
          · go_simp
          simp only [Act.put, List.setIfInBounds_toArray, List.set_cons_zero, List.set_cons_succ]
          refine wpAnyH_ready (rs := [18]) (by kernel_rfl) (by simp) ?_
          refine AllReadyH.cons (o := ({ dst := some 66, op := Go.Op.call { callee := Go.Callee.value (Go.Operand.func 8), args := #[Go.Operand.tmp 65], argTypes := #[23] }, type := 4, pos := "law.go:119", after := #[{ on := 17, ground := Go.Ground.data }, { on := 16, ground := Go.Ground.chain }, { on := 16, ground := Go.Ground.guard }], guard := some (16, true) } : Oper)) rfl (fun K hK => ?_) AllReadyH.nil
          go_simp
          go_at_call 8
          refine (H4A.out _).mono ?_
          rintro e' w12 ⟨rfl, hw12⟩
          refine hK.out _ _ (hHeld1.trans (hw12.mono hHeld1.size)) (fun hHeld2 => ?_)
          clear hK K
          refine wpAnyH_take (i := 20) (oi := ({ dst := some 68, op := Go.Op.binOp Go.BinOp.eql 4 (Go.Operand.tmp 66) (Go.Operand.tmp 67) 4, type := 4, pos := "law.go:119", after := #[{ on := 18, ground := Go.Ground.data }, { on := 19, ground := Go.Ground.data }, { on := 16, ground := Go.Ground.guard }], guard := some (16, true) } : Oper)) (v := .bool true) rfl (by kernel_rfl) (by kernel_rfl) (by kernel_rfl) (fun _ _ _ h => h) (Or.inl ⟨by rfl, fun w' _ => ?_⟩) hHeld2 ?_
          · go_simp
          simp only [Act.put, List.setIfInBounds_toArray, List.set_cons_zero, List.set_cons_succ]
          refine wpAnyH_take (i := 21) (oi := ({ dst := some 69, op := Go.Op.pick (Go.Operand.tmp 64) (Go.Operand.tmp 68) (Go.Operand.const (Go.Value.bool false)), type := 4, pos := "law.go:119", after := #[{ on := 16, ground := Go.Ground.data }, { on := 20, ground := Go.Ground.data }], guard := none } : Oper)) (v := .bool true) rfl (by kernel_rfl) (by kernel_rfl) (by kernel_rfl) (fun _ _ _ h => h) (Or.inl ⟨by rfl, fun w' _ => ?_⟩) hHeld2 ?_
          · go_simp
          simp only [Act.put, List.setIfInBounds_toArray, List.set_cons_zero, List.set_cons_succ]
          refine wpAnyH_take (i := 22) (oi := ({ dst := some 70, op := Go.Op.move (Go.Operand.tmp 69), type := 4, pos := "law.go:119", after := #[{ on := 21, ground := Go.Ground.data }, { on := 18, ground := Go.Ground.chain }], guard := none } : Oper)) (v := .bool true) rfl (by kernel_rfl) (by kernel_rfl) (by kernel_rfl) (fun _ _ _ h => h) (Or.inl ⟨by rfl, fun w' _ => ?_⟩) hHeld2 ?_
          · go_simp
          simp only [Act.put, List.setIfInBounds_toArray, List.set_cons_zero, List.set_cons_succ]
          refine wpAnyH_take (i := 23) (oi := ({ dst := some 71, op := Go.Op.move (Go.Operand.tmp 10), type := 34, pos := "law.go:119", after := #[{ on := 22, ground := Go.Ground.guard }], guard := some (22, true) } : Oper)) (v := .int .i64 0) rfl (by kernel_rfl) (by kernel_rfl) (by kernel_rfl) (fun _ _ _ h => h) (Or.inl ⟨by rfl, fun w' _ => ?_⟩) hHeld2 ?_
          · go_simp
          simp only [Act.put, List.setIfInBounds_toArray, List.set_cons_zero, List.set_cons_succ]
          refine wpAnyH_take (i := 24) (oi := ({ dst := some 72, op := Go.Op.binOp Go.BinOp.eql 34 (Go.Operand.tmp 71) (Go.Operand.const (Go.Value.int Go.IntKind.i64 0)) 34, type := 4, pos := "law.go:119", after := #[{ on := 23, ground := Go.Ground.data }, { on := 22, ground := Go.Ground.guard }], guard := some (22, true) } : Oper)) (v := .bool true) rfl (by kernel_rfl) (by kernel_rfl) (by kernel_rfl) (fun _ _ _ h => h) (Or.inl ⟨by rfl, fun w' _ => ?_⟩) hHeld2 ?_
          · go_simp
          simp only [Act.put, List.setIfInBounds_toArray, List.set_cons_zero, List.set_cons_succ]
          refine wpAnyH_take (i := 25) (oi := ({ dst := some 73, op := Go.Op.pick (Go.Operand.tmp 70) (Go.Operand.tmp 72) (Go.Operand.const (Go.Value.bool false)), type := 4, pos := "law.go:119", after := #[{ on := 22, ground := Go.Ground.data }, { on := 24, ground := Go.Ground.data }], guard := none } : Oper)) (v := .bool true) rfl (by kernel_rfl) (by kernel_rfl) (by kernel_rfl) (fun _ _ _ h => h) (Or.inl ⟨by rfl, fun w' _ => ?_⟩) hHeld2 ?_
          · go_simp
          simp only [Act.put, List.setIfInBounds_toArray, List.set_cons_zero, List.set_cons_succ]
          refine wpAnyH_take (i := 26) (oi := ({ dst := some 74, op := Go.Op.move (Go.Operand.tmp 73), type := 4, pos := "law.go:119", after := #[{ on := 25, ground := Go.Ground.data }, { on := 22, ground := Go.Ground.chain }], guard := none } : Oper)) (v := .bool true) rfl (by kernel_rfl) (by kernel_rfl) (by kernel_rfl) (fun _ _ _ h => h) (Or.inl ⟨by rfl, fun w' _ => ?_⟩) hHeld2 ?_
          · go_simp
          simp only [Act.put, List.setIfInBounds_toArray, List.set_cons_zero, List.set_cons_succ]
          refine wpAnyH_take (i := 27) (oi := ({ dst := some 75, op := Go.Op.load 23 (Go.Operand.tmp 9), type := 23, pos := "law.go:119", after := #[{ on := 26, ground := Go.Ground.guard }], guard := some (26, true) } : Oper)) (v := .agg vl.toArray) rfl (by kernel_rfl) (by kernel_rfl) (by kernel_rfl) (fun _ _ _ h => h) (yieldsIf_load_mid (by rfl) _ _ rfl _ _ rfl _ _ (fun W h => RW.out W h) hu rfl HSV.out) hHeld2 ?_
          simp only [Act.put, List.setIfInBounds_toArray, List.set_cons_zero, List.set_cons_succ]
          refine wpAnyH_take (i := 28) (oi := ({ dst := some 76, op := Go.Op.load 23 (Go.Operand.tmp 5), type := 23, pos := "law.go:119", after := #[{ on := 26, ground := Go.Ground.guard }], guard := some (26, true) } : Oper)) (v := .agg vl.toArray) rfl (by kernel_rfl) (by kernel_rfl) (by kernel_rfl) (fun _ _ _ h => h) (yieldsIf_load_mid (by rfl) _ _ rfl _ _ rfl _ _ (fun W h => RV.out W h) hu rfl HSV.out) hHeld2 ?_
          simp only [Act.put, List.setIfInBounds_toArray, List.set_cons_zero, List.set_cons_succ]
          refine wpAnyH_take (i := 29) (oi := ({ dst := some 77, op := Go.Op.binOp Go.BinOp.eql 23 (Go.Operand.tmp 75) (Go.Operand.tmp 76) 23, type := 4, pos := "law.go:119", after := #[{ on := 27, ground := Go.Ground.data }, { on := 28, ground := Go.Ground.data }, { on := 26, ground := Go.Ground.guard }], guard := some (26, true) } : Oper)) (v := .bool true) rfl (by kernel_rfl) (by kernel_rfl) (by kernel_rfl) (fun _ _ _ h => h) (Or.inl ⟨by rfl, fun w' _ => ?_⟩) hHeld2 ?_
          · go_simp
          simp only [Act.put, List.setIfInBounds_toArray, List.set_cons_zero, List.set_cons_succ]
          refine wpAnyH_take (i := 30) (oi := ({ dst := some 78, op := Go.Op.pick (Go.Operand.tmp 74) (Go.Operand.tmp 77) (Go.Operand.const (Go.Value.bool false)), type := 4, pos := "law.go:119", after := #[{ on := 26, ground := Go.Ground.data }, { on := 29, ground := Go.Ground.data }], guard := none } : Oper)) (v := .bool true) rfl (by kernel_rfl) (by kernel_rfl) (by kernel_rfl) (fun _ _ _ h => h) (Or.inl ⟨by rfl, fun w' _ => ?_⟩) hHeld2 ?_
          · go_simp
          simp only [Act.put, List.setIfInBounds_toArray, List.set_cons_zero, List.set_cons_succ]
          refine wpAnyH_take (i := 31) (oi := ({ dst := some 79, op := Go.Op.move (Go.Operand.tmp 78), type := 4, pos := "law.go:119", after := #[{ on := 30, ground := Go.Ground.data }, { on := 26, ground := Go.Ground.chain }], guard := none } : Oper)) (v := .bool true) rfl (by kernel_rfl) (by kernel_rfl) (by kernel_rfl) (fun _ _ _ h => h) (Or.inl ⟨by rfl, fun w' _ => ?_⟩) hHeld2 ?_
          · go_simp
          simp only [Act.put, List.setIfInBounds_toArray, List.set_cons_zero, List.set_cons_succ]
          refine wpAnyH_take (i := 32) (oi := ({ dst := some 80, op := Go.Op.move (Go.Operand.tmp 6), type := 4, pos := "law.go:119", after := #[{ on := 31, ground := Go.Ground.guard }], guard := some (31, true) } : Oper)) (v := .bool true) rfl (by kernel_rfl) (by kernel_rfl) (by kernel_rfl) (fun _ _ _ h => h) (Or.inl ⟨by rfl, fun w' _ => ?_⟩) hHeld2 ?_
          · go_simp
          simp only [Act.put, List.setIfInBounds_toArray, List.set_cons_zero, List.set_cons_succ]
          refine wpAnyH_take (i := 33) (oi := ({ dst := some 81, op := Go.Op.unOp Go.UnOp.not 4 (Go.Operand.tmp 80), type := 4, pos := "law.go:119", after := #[{ on := 32, ground := Go.Ground.data }, { on := 31, ground := Go.Ground.guard }], guard := some (31, true) } : Oper)) (v := .bool false) rfl (by kernel_rfl) (by kernel_rfl) (by kernel_rfl) (fun _ _ _ h => h) (Or.inl ⟨by rfl, fun w' _ => ?_⟩) hHeld2 ?_
          · go_simp
          simp only [Act.put, List.setIfInBounds_toArray, List.set_cons_zero, List.set_cons_succ]
          refine wpAnyH_take (i := 34) (oi := ({ dst := some 82, op := Go.Op.move (Go.Operand.tmp 81), type := 4, pos := "law.go:119", after := #[{ on := 33, ground := Go.Ground.data }, { on := 31, ground := Go.Ground.chain }, { on := 31, ground := Go.Ground.guard }], guard := some (31, true) } : Oper)) (v := .bool false) rfl (by kernel_rfl) (by kernel_rfl) (by kernel_rfl) (fun _ _ _ h => h) (Or.inl ⟨by rfl, fun w' _ => ?_⟩) hHeld2 ?_
          · go_simp
          simp only [Act.put, List.setIfInBounds_toArray, List.set_cons_zero, List.set_cons_succ]
          refine wpAnyH_take (i := 35) (oi := ({ dst := some 83, op := Go.Op.indexAddr 23 (Go.Operand.tmp 3) (Go.Operand.const (Go.Value.int Go.IntKind.i64 12)), type := 0, pos := "law.go:119", after := #[{ on := 34, ground := Go.Ground.guard }], guard := some (34, false) } : Oper)) (v := .pointer (some ⟨na, 12, none⟩)) rfl (by kernel_rfl) (by kernel_rfl) (by kernel_rfl) (fun _ _ _ h => h) (Or.inl ⟨by rfl, fun w' _ => ?_⟩) hHeld2 ?_
          · go_simp
          simp only [Act.put, List.setIfInBounds_toArray, List.set_cons_zero, List.set_cons_succ]
          refine wpAnyH_take (i := 36) (oi := ({ dst := some 84, op := Go.Op.load 5 (Go.Operand.tmp 83), type := 5, pos := "law.go:119", after := #[{ on := 35, ground := Go.Ground.data }, { on := 34, ground := Go.Ground.guard }], guard := some (34, false) } : Oper)) (v := .int .u8 y12.toNat) rfl (by kernel_rfl) (by kernel_rfl) (by kernel_rfl) (fun _ _ _ h => h) (Or.inl ⟨by rfl, fun w' hS' => ?_⟩) hHeld2 ?_
          · have hcell := A12.out _ hS'
            go_simp
          simp only [Act.put, List.setIfInBounds_toArray, List.set_cons_zero, List.set_cons_succ]
          refine wpAnyH_take (i := 37) (oi := ({ dst := some 85, op := Go.Op.indexAddr 23 (Go.Operand.tmp 3) (Go.Operand.const (Go.Value.int Go.IntKind.i64 13)), type := 0, pos := "law.go:119", after := #[{ on := 34, ground := Go.Ground.guard }], guard := some (34, false) } : Oper)) (v := .pointer (some ⟨na, 13, none⟩)) rfl (by kernel_rfl) (by kernel_rfl) (by kernel_rfl) (fun _ _ _ h => h) (Or.inl ⟨by rfl, fun w' _ => ?_⟩) hHeld2 ?_
          · go_simp
          simp only [Act.put, List.setIfInBounds_toArray, List.set_cons_zero, List.set_cons_succ]
          refine wpAnyH_take (i := 38) (oi := ({ dst := some 86, op := Go.Op.load 5 (Go.Operand.tmp 85), type := 5, pos := "law.go:119", after := #[{ on := 37, ground := Go.Ground.data }, { on := 34, ground := Go.Ground.guard }], guard := some (34, false) } : Oper)) (v := .int .u8 y13.toNat) rfl (by kernel_rfl) (by kernel_rfl) (by kernel_rfl) (fun _ _ _ h => h) (Or.inl ⟨by rfl, fun w' hS' => ?_⟩) hHeld2 ?_
          · have hcell := A13.out _ hS'
            go_simp
          simp only [Act.put, List.setIfInBounds_toArray, List.set_cons_zero, List.set_cons_succ]
          refine wpAnyH_take (i := 39) (oi := ({ dst := some 87, op := Go.Op.indexAddr 23 (Go.Operand.tmp 3) (Go.Operand.const (Go.Value.int Go.IntKind.i64 14)), type := 0, pos := "law.go:119", after := #[{ on := 34, ground := Go.Ground.guard }], guard := some (34, false) } : Oper)) (v := .pointer (some ⟨na, 14, none⟩)) rfl (by kernel_rfl) (by kernel_rfl) (by kernel_rfl) (fun _ _ _ h => h) (Or.inl ⟨by rfl, fun w' _ => ?_⟩) hHeld2 ?_
          · go_simp
          simp only [Act.put, List.setIfInBounds_toArray, List.set_cons_zero, List.set_cons_succ]
          refine wpAnyH_take (i := 40) (oi := ({ dst := some 88, op := Go.Op.load 5 (Go.Operand.tmp 87), type := 5, pos := "law.go:119", after := #[{ on := 39, ground := Go.Ground.data }, { on := 34, ground := Go.Ground.guard }], guard := some (34, false) } : Oper)) (v := .int .u8 y14.toNat) rfl (by kernel_rfl) (by kernel_rfl) (by kernel_rfl) (fun _ _ _ h => h) (Or.inl ⟨by rfl, fun w' hS' => ?_⟩) hHeld2 ?_
          · have hcell := A14.out _ hS'
            go_simp
          simp only [Act.put, List.setIfInBounds_toArray, List.set_cons_zero, List.set_cons_succ]
          refine wpAnyH_take (i := 41) (oi := ({ dst := some 89, op := Go.Op.indexAddr 23 (Go.Operand.tmp 3) (Go.Operand.const (Go.Value.int Go.IntKind.i64 15)), type := 0, pos := "law.go:119", after := #[{ on := 34, ground := Go.Ground.guard }], guard := some (34, false) } : Oper)) (v := .pointer (some ⟨na, 15, none⟩)) rfl (by kernel_rfl) (by kernel_rfl) (by kernel_rfl) (fun _ _ _ h => h) (Or.inl ⟨by rfl, fun w' _ => ?_⟩) hHeld2 ?_
          · go_simp
          simp only [Act.put, List.setIfInBounds_toArray, List.set_cons_zero, List.set_cons_succ]
          refine wpAnyH_take (i := 42) (oi := ({ dst := some 90, op := Go.Op.load 5 (Go.Operand.tmp 89), type := 5, pos := "law.go:119", after := #[{ on := 41, ground := Go.Ground.data }, { on := 34, ground := Go.Ground.guard }], guard := some (34, false) } : Oper)) (v := .int .u8 y15.toNat) rfl (by kernel_rfl) (by kernel_rfl) (by kernel_rfl) (fun _ _ _ h => h) (Or.inl ⟨by rfl, fun w' hS' => ?_⟩) hHeld2 ?_
          · have hcell := A15.out _ hS'
            go_simp
          simp only [Act.put, List.setIfInBounds_toArray, List.set_cons_zero, List.set_cons_succ]
          refine wpAnyH_take (i := 44) (oi := ({ dst := some 92, op := Go.Op.load 23 (Go.Operand.tmp 3), type := 23, pos := "law.go:119", after := #[{ on := 34, ground := Go.Ground.guard }], guard := some (34, false) } : Oper)) (v := .agg al.toArray) rfl (by kernel_rfl) (by kernel_rfl) (by kernel_rfl) (fun _ _ _ h => h) (yieldsIf_load_mid (by rfl) _ _ rfl _ _ rfl _ _ (fun W h => RA.out W h) hu rfl HSA.out) hHeld2 ?_
          simp only [Act.put, List.setIfInBounds_toArray, List.set_cons_zero, List.set_cons_succ]
          refine wpAnyH_ready (rs := [43]) (by kernel_rfl) (by simp) ?_
          refine AllReadyH.cons (o := ({ dst := some 91, op := Go.Op.call { callee := Go.Callee.value (Go.Operand.func 12), args := #[Go.Operand.tmp 84, Go.Operand.tmp 86, Go.Operand.tmp 88, Go.Operand.tmp 90], argTypes := #[5, 5, 5, 5] }, type := 23, pos := "law.go:119", after := #[{ on := 36, ground := Go.Ground.data }, { on := 38, ground := Go.Ground.data }, { on := 40, ground := Go.Ground.data }, { on := 42, ground := Go.Ground.data }, { on := 34, ground := Go.Ground.chain }, { on := 34, ground := Go.Ground.guard }], guard := some (34, false) } : Oper)) rfl (fun K hK => ?_) AllReadyH.nil
          go_simp
          go_at_call 12
          refine (HFB.out _).mono ?_
          rintro e' w13 ⟨rfl, hw13⟩
          refine hK.out _ _ (hHeld2.trans (hw13.mono hHeld2.size)) (fun hHeld3 => ?_)
          clear hK K
          refine wpAnyH_take (i := 45) (oi := ({ dst := some 93, op := Go.Op.binOp Go.BinOp.eql 23 (Go.Operand.tmp 91) (Go.Operand.tmp 92) 23, type := 4, pos := "law.go:119", after := #[{ on := 43, ground := Go.Ground.data }, { on := 44, ground := Go.Ground.data }, { on := 34, ground := Go.Ground.guard }], guard := some (34, false) } : Oper)) (v := .bool true) rfl (by kernel_rfl) (by kernel_rfl) (by kernel_rfl) (fun _ _ _ h => h) (Or.inl ⟨by rfl, fun w' _ => ?_⟩) hHeld3 ?_
          · go_simp
          simp only [Act.put, List.setIfInBounds_toArray, List.set_cons_zero, List.set_cons_succ]
          refine wpAnyH_take (i := 46) (oi := ({ dst := some 94, op := Go.Op.pick (Go.Operand.tmp 82) (Go.Operand.const (Go.Value.bool true)) (Go.Operand.tmp 93), type := 4, pos := "law.go:119", after := #[{ on := 34, ground := Go.Ground.data }, { on := 45, ground := Go.Ground.data }, { on := 31, ground := Go.Ground.guard }], guard := some (31, true) } : Oper)) (v := .bool true) rfl (by kernel_rfl) (by kernel_rfl) (by kernel_rfl) (fun _ _ _ h => h) (Or.inl ⟨by rfl, fun w' _ => ?_⟩) hHeld3 ?_
          · go_simp
          simp only [Act.put, List.setIfInBounds_toArray, List.set_cons_zero, List.set_cons_succ]
          refine wpAnyH_take (i := 47) (oi := ({ dst := some 95, op := Go.Op.pick (Go.Operand.tmp 79) (Go.Operand.tmp 94) (Go.Operand.const (Go.Value.bool false)), type := 4, pos := "law.go:119", after := #[{ on := 31, ground := Go.Ground.data }, { on := 46, ground := Go.Ground.data }], guard := none } : Oper)) (v := .bool true) rfl (by kernel_rfl) (by kernel_rfl) (by kernel_rfl) (fun _ _ _ h => h) (Or.inl ⟨by rfl, fun w' _ => ?_⟩) hHeld3 ?_
          · go_simp
          simp only [Act.put, List.setIfInBounds_toArray, List.set_cons_zero, List.set_cons_succ]
          refine wpAnyH_take (i := 48) (oi := ({ dst := some 4, op := Go.Op.assign (Go.Operand.tmp 95), type := 4, pos := "law.go:119", after := #[{ on := 47, ground := Go.Ground.data }, { on := 43, ground := Go.Ground.chain }, { on := 0, ground := Go.Ground.phase }, { on := 1, ground := Go.Ground.phase }, { on := 2, ground := Go.Ground.phase }, { on := 3, ground := Go.Ground.phase }, { on := 4, ground := Go.Ground.phase }, { on := 5, ground := Go.Ground.phase }, { on := 6, ground := Go.Ground.phase }, { on := 7, ground := Go.Ground.phase }, { on := 8, ground := Go.Ground.phase }, { on := 9, ground := Go.Ground.phase }, { on := 10, ground := Go.Ground.phase }, { on := 11, ground := Go.Ground.phase }, { on := 12, ground := Go.Ground.phase }, { on := 13, ground := Go.Ground.phase }, { on := 14, ground := Go.Ground.phase }, { on := 15, ground := Go.Ground.phase }, { on := 16, ground := Go.Ground.phase }, { on := 17, ground := Go.Ground.phase }, { on := 18, ground := Go.Ground.phase }, { on := 19, ground := Go.Ground.phase }, { on := 20, ground := Go.Ground.phase }, { on := 21, ground := Go.Ground.phase }, { on := 22, ground := Go.Ground.phase }, { on := 23, ground := Go.Ground.phase }, { on := 24, ground := Go.Ground.phase }, { on := 25, ground := Go.Ground.phase }, { on := 26, ground := Go.Ground.phase }, { on := 27, ground := Go.Ground.phase }, { on := 28, ground := Go.Ground.phase }, { on := 29, ground := Go.Ground.phase }, { on := 30, ground := Go.Ground.phase }, { on := 31, ground := Go.Ground.phase }, { on := 32, ground := Go.Ground.phase }, { on := 33, ground := Go.Ground.phase }, { on := 34, ground := Go.Ground.phase }, { on := 35, ground := Go.Ground.phase }, { on := 36, ground := Go.Ground.phase }, { on := 37, ground := Go.Ground.phase }, { on := 38, ground := Go.Ground.phase }, { on := 39, ground := Go.Ground.phase }, { on := 40, ground := Go.Ground.phase }, { on := 41, ground := Go.Ground.phase }, { on := 42, ground := Go.Ground.phase }, { on := 43, ground := Go.Ground.phase }, { on := 44, ground := Go.Ground.phase }, { on := 45, ground := Go.Ground.phase }, { on := 46, ground := Go.Ground.phase }, { on := 47, ground := Go.Ground.phase }], guard := none } : Oper)) (v := .bool true) rfl (by kernel_rfl) (by kernel_rfl) (by kernel_rfl) (fun _ _ _ h => h) (Or.inl ⟨by rfl, fun w' _ => ?_⟩) hHeld3 ?_
          · go_simp
          simp only [Act.put, List.setIfInBounds_toArray, List.set_cons_zero, List.set_cons_succ]
          refine wpAnyH_done (by kernel_rfl) ?_ _
          have HBn := Lib.hid (HB8.out.trans (hHeld3.mono HB8.out.size))
          go_wp2_with fail
          go_ret
          first
            | exact ⟨rfl, HBn.out⟩
            | exact ⟨rfl, by rw [← hnb]; exact HBn.out⟩
end Go.Proofs.YtclfmokdjmnjcaaDoor
