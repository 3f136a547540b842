/-
  The walk of the document's own answer Scope. Condition: sixteen bytes.
-/
import Derived.Test.YtoaedlllnkcfnaaDoorRankRef
import Derived.Deep.CutRange
namespace Go.Proofs.YtoaedlllnkcfnaaDoor
open Go.RowKit

set_option maxRecDepth 100000 in
set_option maxHeartbeats 4000000 in
theorem refScope_e (a : List UInt8) (ha : a.length = 16) (w : World) :
    Calls Tryd.prog 15 #[.agg (bvs a).toArray] w fun e w' => e = .returned (.int .i64 (scA a)) ∧ Below w.heap.size w w' := by
  have hcell : ∀ W j, Below (w.alloc (.cells (bvs a).toArray 27)).heap.size (w.alloc (.cells (bvs a).toArray 27)) W → j < 16 → W.cell? ⟨w.heap.size, j, none⟩ = some (.int .u8 (a.getD j 0).toNat) := fun W j hW hj => by
    rw [hW.cell (p := ⟨w.heap.size, j, none⟩) (by show w.heap.size < _; rw [World.size_alloc]; omega), World.cell?_alloc_mark, List.getElem?_toArray]
    exact bvs_at (by omega)
  have hblk : ∀ W, Below (w.alloc (.cells (bvs a).toArray 27)).heap.size (w.alloc (.cells (bvs a).toArray 27)) W → ∀ j v, (bvs a).toArray.toList[j]? = some v → W.cell? ((⟨w.heap.size, 0, none⟩ : Addr).add j) = some v := fun W hW j v hj => by
    rw [Addr.add_lit, Nat.zero_add, hW.cell (p := ⟨w.heap.size, j, none⟩) (by show w.heap.size < _; rw [World.size_alloc]; omega), World.cell?_alloc_mark]
    simpa using hj
  have hlt : ∀ k, (a.getD k 0).toNat < 256 := fun k => (a.getD k 0).toNat_lt
  have hfour := fun W => four_e a ha W
  have hq : ∀ W : World, (Op.equalIn 10000 27 (.agg (bvs a).toArray) (.agg (bvs one6).toArray)).run Tryd.prog W = .ok (a == one6) W := fun W => eq_addr 9998 W ha rfl
  have hob : Tryd.prog.built 27 [(15, .int .u8 1)] = some (bvs one6).toArray := by kernel_rfl
  have hS := sizeBv ha
  have hpol : scA a = if isV4 a = true ∧ ((a.getD 12 0).toNat = 127 ∨ ((a.getD 12 0).toNat = 169 ∧ (a.getD 13 0).toNat = 254)) then 2 else if isV4 a = true then 14
    else if (a.getD 0 0).toNat = 255 then (a.getD 1 0).toNat % 16
    else if a = one6 ∨ ((a.getD 0 0).toNat = 254 ∧ 128 ≤ (a.getD 1 0).toNat ∧ (a.getD 1 0).toNat < 192) then 2
    else if (a.getD 0 0).toNat = 254 ∧ 192 ≤ (a.getD 1 0).toNat then 5 else 14 := rfl
  obtain ⟨q1, hq1⟩ : ∃ q1, q1 = (a == one6) := ⟨_, rfl⟩
  have hq1' : (a = one6) ↔ q1 = true := by rw [hq1, beq_iff_eq]
  have hq0 : q1 = true → (a.getD 0 0).toNat = 0 := fun h => by rw [hq1'.2 h]; rfl
  rw [← hq1] at hq
  simp only [hq1'] at hpol
  obtain ⟨f, hf⟩ : ∃ f : Nat → Nat, ∀ k, f k = (a.getD k 0).toNat := ⟨_, fun _ => rfl⟩
  simp only [← hf] at hcell hlt hpol hq0
  generalize isV4 a = V at *
  generalize scA a = pa at *
  generalize (bvs a).toArray = c at *
  generalize (bvs one6).toArray = o1 at *
  have hb0 : Below w.heap.size w (w.alloc (.cells c 27)) := (Below.refl _ w).alloc (Nat.le_refl _) _
  have hld := hblk _ (Below.refl _ _)
  have HC := Lib.hid hcell
  have HBlk := Lib.hid hblk
  have HB0 := Lib.hid hb0
  have HFour := Lib.hid hfour
  have HQ := Lib.hid hq
  have HOb := Lib.hid hob
  have HS := Lib.hid hS
  have HPol := Lib.hid hpol
  have HLt := Lib.hid hlt
  have HLD := Lib.hid hld
  have HQ0 := Lib.hid hq0
  clear hcell hblk hb0 ha hf hfour hq hob hS hpol hlt hq1 hq1' hld hq0
  go_enter Tryd.func15, Tryd.ntmps15
  go_wp2_with (first
    | (refine wpList_load_agg ?_ 27 (.tmp 1) ?_ ⟨w.heap.size, 0, none⟩ ?_ c _ HLD.out Tryd.underlying27 ?_ HS.out ?_; (· rfl); (· rfl); (· rfl); (· rfl); go_simp))
  refine (HFour.out _).mono ?_
  rintro e w6 ⟨rfl, hb6⟩
  have HF6 := Lib.hid (HB0.out.trans (hb6.mono HB0.out.size))
  have HLD6 := Lib.hid (HBlk.out w6 hb6)
  have HB6 := Lib.hid hb6
  have hpa := HPol.out
  cases V with
  | true =>
    have c12 := HC.out w6 12 hb6 (by omega)
    have c13 := HC.out w6 13 hb6 (by omega)
    have l12 := HLt.out 12
    have l13 := HLt.out 13
    generalize f 12 = y at *
    generalize f 13 = z at *
    have HPa := Lib.hid hpa
    clear hb6 hpa
    have hcl : (y = 127) ∨ (y = 169 ∧ z = 254) ∨ (y = 169 ∧ ¬ z = 254) ∨ (¬ y = 127 ∧ ¬ y = 169) := by omega
    rcases hcl with h | h | h | h
    · subst h
      have HR := Lib.hid (show pa = 2 by rw [HPa.out]; simp)
      clear HPa
      go_wp2
      go_ret
      refine ⟨?_, HF6.out⟩
      rw [HR.out]; rfl
    · obtain ⟨rfl, rfl⟩ := h
      have HR := Lib.hid (show pa = 2 by rw [HPa.out]; simp)
      clear HPa
      go_wp2
      go_ret
      refine ⟨?_, HF6.out⟩
      rw [HR.out]; rfl
    · obtain ⟨rfl, h⟩ := h
      have HR := Lib.hid (show pa = 14 by rw [HPa.out]; simp [h])
      have g1 : ((z : Int) == 254) = false := by rw [beq_eq_false_iff_ne]; omega
      have g2 : ¬ (z : Int) = 254 := by omega
      clear HPa
      go_wp2_with (first
        | (refine wpList_load_agg ?_ 27 (.tmp 1) ?_ ⟨w.heap.size, 0, none⟩ ?_ c _ HLD6.out Tryd.underlying27 ?_ HS.out ?_; (· rfl); (· rfl); (· rfl); (· rfl); go_simp))
      refine (HFour.out _).mono ?_
      rintro e w7 ⟨rfl, hb7⟩
      have HF7 := Lib.hid (HF6.out.trans (hb7.mono HF6.out.size))
      clear hb7
      go_wp2
      go_ret
      refine ⟨?_, HF7.out⟩
      rw [HR.out]; rfl
    · obtain ⟨h1, h2⟩ := h
      have HR := Lib.hid (show pa = 14 by rw [HPa.out]; simp [h1, h2])
      have g1 : ((y : Int) == 127) = false := by rw [beq_eq_false_iff_ne]; omega
      have g2 : ¬ (y : Int) = 127 := by omega
      have g3 : ((y : Int) == 169) = false := by rw [beq_eq_false_iff_ne]; omega
      have g4 : ¬ (y : Int) = 169 := by omega
      clear HPa
      go_wp2_with (first
        | (refine wpList_load_agg ?_ 27 (.tmp 1) ?_ ⟨w.heap.size, 0, none⟩ ?_ c _ HLD6.out Tryd.underlying27 ?_ HS.out ?_; (· rfl); (· rfl); (· rfl); (· rfl); go_simp))
      refine (HFour.out _).mono ?_
      rintro e w7 ⟨rfl, hb7⟩
      have HF7 := Lib.hid (HF6.out.trans (hb7.mono HF6.out.size))
      clear hb7
      go_wp2
      go_ret
      refine ⟨?_, HF7.out⟩
      rw [HR.out]; rfl
  | false =>
    have HPa0 := Lib.hid hpa
    clear hb6 hpa
    go_upto_region 3 with fail
    go_wp2_with (first
      | (refine wpList_load_agg ?_ 27 (.tmp 1) ?_ ⟨w.heap.size, 0, none⟩ ?_ c _ HLD6.out Tryd.underlying27 ?_ HS.out ?_; (· rfl); (· rfl); (· rfl); (· rfl); go_simp))
    refine (HFour.out _).mono ?_
    rintro e w7 ⟨rfl, hb7⟩
    have HF7 := Lib.hid (HF6.out.trans (hb7.mono HF6.out.size))
    have hb8 := HB6.out.trans (hb7.mono HB6.out.size)
    have HLD7 := Lib.hid (HBlk.out w7 hb8)
    have c0 := HC.out w7 0 hb8 (by omega)
    have c1 := HC.out w7 1 hb8 (by omega)
    have l0 := HLt.out 0
    have l1 := HLt.out 1
    have h0 := HQ0.out
    have hpa := HPa0.out
    clear HPa0 HPol HQ0 HLt HC
    generalize f 0 = x0 at *
    generalize f 1 = x1 at *
    have HPa := Lib.hid hpa
    clear hpa hb7 hb8
    have H0 := Lib.hid h0
    clear h0
    by_cases h255 : x0 = 255
    · subst h255
      have HR := Lib.hid (show pa = x1 % 16 by rw [HPa.out]; simp)
      clear HPa H0
      have hrem : (x1 : Int).tmod 16 = ((x1 % 16 : Nat) : Int) := by rw [Int.tmod_eq_emod_of_nonneg (by omega)]; omega
      go_wp2
      go_ret
      refine ⟨?_, HF7.out⟩
      rw [HR.out]
      first | rfl | (simp; done) | skip
      all_goals trace_state
    · have g1 : ((x0 : Int) == 255) = false := by rw [beq_eq_false_iff_ne]; omega
      have g2 : ¬ (x0 : Int) = 255 := by omega
      cases q1 with
      | true =>
        obtain rfl := H0.out rfl
        have HR := Lib.hid (show pa = 2 by rw [HPa.out]; simp)
        clear HPa H0
        go_upto_region 7 with fail
        go_wp2_with (first
          | (refine wpList_load_agg ?_ 27 (.tmp 1) ?_ ⟨w.heap.size, 0, none⟩ ?_ c _ HLD7.out Tryd.underlying27 ?_ HS.out ?_; (· rfl); (· rfl); (· rfl); (· rfl); go_simp)
          | (refine wpList_build_z ?_ 27 #[(15, .const (.int .u8 1))] ?_ o1 ?_ ?_; (· rfl); (· rfl); (· exact HOb.out); go_simp))
        rw [HQ.out]
        simp only [Result.andThen_ok]
        go_wp2_with fail
        go_ret
        refine ⟨?_, HF7.out⟩
        rw [HR.out]; rfl
      | false =>
        have HPb := Lib.hid (show pa = if x0 = 254 ∧ 128 ≤ x1 ∧ x1 < 192 then 2 else if x0 = 254 ∧ 192 ≤ x1 then 5 else 14 by rw [HPa.out]; simp [h255])
        clear HPa H0
        have hcl : (x0 = 254 ∧ 128 ≤ x1 ∧ x1 < 192) ∨ (x0 = 254 ∧ 192 ≤ x1) ∨ (x0 = 254 ∧ x1 < 128) ∨ (¬ x0 = 254) := by omega
        rcases hcl with h | h | h | h
        · obtain ⟨rfl, h1, h2⟩ := h
          have HR := Lib.hid (show pa = 2 by rw [HPb.out, if_pos ⟨rfl, h1, h2⟩])
          have k1 : (128 : Int) ≤ (x1 : Int) := by omega
          have k2 : (x1 : Int) < 192 := by omega
          clear HPb
          go_upto_region 7 with fail
          go_wp2_with (first
            | (refine wpList_load_agg ?_ 27 (.tmp 1) ?_ ⟨w.heap.size, 0, none⟩ ?_ c _ HLD7.out Tryd.underlying27 ?_ HS.out ?_; (· rfl); (· rfl); (· rfl); (· rfl); go_simp)
            | (refine wpList_build_z ?_ 27 #[(15, .const (.int .u8 1))] ?_ o1 ?_ ?_; (· rfl); (· rfl); (· exact HOb.out); go_simp))
          rw [HQ.out]
          simp only [Result.andThen_ok]
          go_wp2_with fail
          go_ret
          refine ⟨?_, HF7.out⟩
          rw [HR.out]; rfl
        · obtain ⟨rfl, h1⟩ := h
          have HR := Lib.hid (show pa = 5 by rw [HPb.out, if_neg (fun h => by omega), if_pos ⟨rfl, h1⟩])
          have k1 : (128 : Int) ≤ (x1 : Int) := by omega
          have k2 : ¬ (x1 : Int) < 192 := by omega
          have k3 : (192 : Int) ≤ (x1 : Int) := by omega
          clear HPb
          go_upto_region 7 with fail
          go_wp2_with (first
            | (refine wpList_load_agg ?_ 27 (.tmp 1) ?_ ⟨w.heap.size, 0, none⟩ ?_ c _ HLD7.out Tryd.underlying27 ?_ HS.out ?_; (· rfl); (· rfl); (· rfl); (· rfl); go_simp)
            | (refine wpList_build_z ?_ 27 #[(15, .const (.int .u8 1))] ?_ o1 ?_ ?_; (· rfl); (· rfl); (· exact HOb.out); go_simp))
          rw [HQ.out]
          simp only [Result.andThen_ok]
          go_wp2_with fail
          go_ret
          refine ⟨?_, HF7.out⟩
          rw [HR.out]; rfl
        · obtain ⟨rfl, h1⟩ := h
          have HR := Lib.hid (show pa = 14 by rw [HPb.out, if_neg (fun h => by omega), if_neg (fun h => by omega)])
          have k1 : ¬ (128 : Int) ≤ (x1 : Int) := by omega
          have k3 : ¬ (192 : Int) ≤ (x1 : Int) := by omega
          clear HPb
          go_upto_region 7 with fail
          go_wp2_with (first
            | (refine wpList_load_agg ?_ 27 (.tmp 1) ?_ ⟨w.heap.size, 0, none⟩ ?_ c _ HLD7.out Tryd.underlying27 ?_ HS.out ?_; (· rfl); (· rfl); (· rfl); (· rfl); go_simp)
            | (refine wpList_build_z ?_ 27 #[(15, .const (.int .u8 1))] ?_ o1 ?_ ?_; (· rfl); (· rfl); (· exact HOb.out); go_simp))
          rw [HQ.out]
          simp only [Result.andThen_ok]
          go_wp2_with fail
          go_ret
          refine ⟨?_, HF7.out⟩
          rw [HR.out]; rfl
        · have HR := Lib.hid (show pa = 14 by rw [HPb.out, if_neg (fun e => h e.1), if_neg (fun e => h e.1)])
          have k1 : ((x0 : Int) == 254) = false := by rw [beq_eq_false_iff_ne]; omega
          have k3 : ¬ (x0 : Int) = 254 := by omega
          clear HPb
          go_upto_region 7 with fail
          go_wp2_with (first
            | (refine wpList_load_agg ?_ 27 (.tmp 1) ?_ ⟨w.heap.size, 0, none⟩ ?_ c _ HLD7.out Tryd.underlying27 ?_ HS.out ?_; (· rfl); (· rfl); (· rfl); (· rfl); go_simp)
            | (refine wpList_build_z ?_ 27 #[(15, .const (.int .u8 1))] ?_ o1 ?_ ?_; (· rfl); (· rfl); (· exact HOb.out); go_simp))
          rw [HQ.out]
          simp only [Result.andThen_ok]
          go_wp2_with fail
          go_ret
          refine ⟨?_, HF7.out⟩
          rw [HR.out]; rfl
end Go.Proofs.YtoaedlllnkcfnaaDoor
