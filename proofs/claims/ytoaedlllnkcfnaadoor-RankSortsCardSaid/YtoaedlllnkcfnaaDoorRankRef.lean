/-
  The walks of the document's own answers: Four, Policy, Scope. Condition: sixteen bytes.
-/
import Derived.Test.YtoaedlllnkcfnaaDoorRankPolEq
import Derived.Deep.CutRange
namespace Go.Proofs.YtoaedlllnkcfnaaDoor
open Go.RowKit

theorem isV4_bool {a : List UInt8} (ha : a.length = 16) : isV4 a = (allZ a 10 && (a.getD 10 0 == 255) && (a.getD 11 0 == 255)) := by
  rw [Bool.eq_iff_iff, isV4_iff ha, Bool.and_eq_true, Bool.and_eq_true, allZ_iff, beq_iff_eq, beq_iff_eq]
  constructor
  · intro h
    refine ⟨⟨fun j hj => ?_, h 10 (by decide)⟩, h 11 (by decide)⟩
    rw [h j (by omega)]
    have : ∀ j, j < 10 → four12.getD j 0 = 0 := by decide
    exact this j hj
  · rintro ⟨⟨h1, h2⟩, h3⟩ j hj
    rcases Nat.lt_or_ge j 10 with h | h
    · rw [h1 j h]
      have : ∀ j, j < 10 → 0 = four12.getD j 0 := by decide
      exact this j h
    · obtain rfl | rfl : j = 10 ∨ j = 11 := by omega
      · exact h2
      · exact h3
theorem beq_nat (x : UInt8) (n : Nat) (hn : n < 256) : (x == UInt8.ofNat n) = decide (x.toNat = n) := by
  rw [Bool.eq_iff_iff, beq_iff_eq, decide_eq_true_iff]
  exact u8_nat hn
set_option maxRecDepth 100000 in
set_option maxHeartbeats 1000000 in
theorem four_e (a : List UInt8) (ha : a.length = 16) (w : World) :
    Calls Tryd.prog 26 #[.agg (bvs a).toArray] w fun e w' => e = .returned (.bool (isV4 a)) ∧ Below w.heap.size w w' := by
  have hb := isV4_bool ha
  rw [show ((a.getD 10 0 == 255)) = decide ((a.getD 10 0).toNat = 255) from beq_nat _ 255 (by decide), show ((a.getD 11 0 == 255)) = decide ((a.getD 11 0).toNat = 255) from beq_nat _ 255 (by decide)] at hb
  have hcell : ∀ W j, Below (w.alloc (.cells (bvs a).toArray 27)).heap.size (w.alloc (.cells (bvs a).toArray 27)) W → j < 16 → W.cell? ⟨w.heap.size, j, none⟩ = some (.int .u8 (a.getD j 0).toNat) := fun W j hW hj => by
    rw [hW.cell (p := ⟨w.heap.size, j, none⟩) (by show w.heap.size < _; rw [World.size_alloc]; omega), World.cell?_alloc_mark, List.getElem?_toArray]
    exact bvs_at (by omega)
  have hz : ∀ k, allZ a (k + 1) = (allZ a k && decide ((a.getD k 0).toNat = 0)) := fun k => by
    rw [allZ, show ((a.getD k 0 == 0)) = decide ((a.getD k 0).toNat = 0) from beq_nat _ 0 (by decide)]
  have hmono : ∀ k, k ≤ 10 → allZ a k = false → allZ a 10 = false := fun k hk h => by
    rw [Bool.eq_false_iff] at h ⊢
    intro e
    exact h ((allZ_iff a k).2 fun j hj => (allZ_iff a 10).1 e j (by omega))
  have hlt : ∀ k, (a.getD k 0).toNat < 256 := fun k => (a.getD k 0).toNat_lt
  obtain ⟨f, hf⟩ : ∃ f : Nat → Nat, ∀ k, f k = (a.getD k 0).toNat := ⟨_, fun _ => rfl⟩
  have h00 : allZ a 0 = true := rfl
  simp only [← hf] at hb hcell hz hlt
  generalize isV4 a = V at *
  generalize allZ a = Zf at *
  generalize (bvs a).toArray = c at *
  have hb0 : Below w.heap.size w (w.alloc (.cells c 27)) := (Below.refl _ w).alloc (Nat.le_refl _) _
  have HB := Lib.hid hb
  have HC := Lib.hid hcell
  have HZ := Lib.hid hz
  have HM := Lib.hid hmono
  have HB0 := Lib.hid hb0
  have H00 := Lib.hid h00
  clear hb hcell hz hmono hb0 h00 ha hf
  go_enter Tryd.func26, Tryd.ntmps26
  go_wp2
  go_loopg [3] 10 (fun gk i wr => ∃ k : Nat, i = .int .i64 k ∧ k + gk = 10 ∧ Hid (Zf k = true) ∧ Hid (Below (w.alloc (.cells c 27)).heap.size (w.alloc (.cells c 27)) wr))
  case atStart => exact ⟨0, rfl, by simp, H00, Lib.hid (Below.refl _ _)⟩
  case round =>
    obtain ⟨k, rfl, hk, HZk, HBw⟩ := hrel
    by_cases hlt10 : k < 10
    · obtain ⟨g, rfl⟩ : ∃ g, gk = g + 1 := ⟨gk - 1, by omega⟩
      have hkI : (k : Int) < 10 := by omega
      have hc := HC.out wr k HBw.out (by omega)
      have hzk := HZ.out k
      rw [HZk.out] at hzk
      have hx := hlt k
      generalize hfk : f k = x at hc hzk hx
      by_cases h0 : x = 0
      · subst h0
        have HZ' := Lib.hid (show Zf (k + 1) = true by rw [hzk]; rfl)
        clear hzk hfk
        go_wp2
        go_roundg g
        case measure => omega
        case rel => exact ⟨k + 1, by go_num, by omega, HZ', HBw⟩
      · have hV := Lib.hid (show V = false by rw [HB.out, HM.out (k + 1) (by omega) (by rw [hzk]; simp [h0])]; rfl)
        have h0I : ¬ (x : Int) = 0 := by omega
        clear hzk hfk
        go_wp2
        go_ret
        refine ⟨?_, HB0.out.trans (HBw.out.mono HB0.out.size)⟩
        rw [hV.out]; rfl
    · obtain rfl : k = 10 := by omega
      have hc := HC.out wr 10 HBw.out (by omega)
      have hd := HC.out wr 11 HBw.out (by omega)
      have hv := HB.out
      rw [HZk.out] at hv
      have hx := hlt 10
      have hy := hlt 11
      generalize hfk : f 10 = x at hc hv hx
      generalize hfk2 : f 11 = y at hd hv hy
      by_cases h1 : x = 255
      · subst h1
        by_cases h2 : y = 255
        · subst h2
          have hV := Lib.hid (show V = true by rw [hv]; rfl)
          clear hv hfk hfk2
          go_wp2
          go_ret
          refine ⟨?_, HB0.out.trans (HBw.out.mono HB0.out.size)⟩
          rw [hV.out]; rfl
        · have hV := Lib.hid (show V = false by rw [hv]; simp [h2])
          have h2B := Lib.hid (show ((y : Int) == 255) = false by rw [beq_eq_false_iff_ne]; omega)
          clear hv hfk hfk2
          go_wp2
          go_ret
          refine ⟨?_, HB0.out.trans (HBw.out.mono HB0.out.size)⟩
          rw [hV.out]
          show Ending.returned (Value.bool ((y : Int) == 255)) = _
          rw [h2B.out]
      · have hV := Lib.hid (show V = false by rw [hv]; simp [h1])
        have h1I : ¬ (x : Int) = 255 := by omega
        clear hv hfk hfk2
        go_wp2
        go_ret
        refine ⟨?_, HB0.out.trans (HBw.out.mono HB0.out.size)⟩
        rw [hV.out]; rfl
section
variable {P : Program} {ops : Array Oper} {rest : List Oper} {o : Oper} {a : Act} {Q : Exit → Act → World → Prop}
theorem wpList_eql_agg_gh {w : World} (hw : Region.wanted o (yielded ops a.tmps) = true) (t : TypeId) (x y : Operand) (s : TypeId) (ho : o.op = .binOp .eql t x y s) (xs ys : Array Value) (b : Bool) (hx : a.eval x = .agg xs) (hy : a.eval y = .agg ys)
    (hm : P.eqGuardType P.depth t = false) (hr : (Op.equalIn 10000 t (.agg xs) (.agg ys)).run P w = .ok b w)
    (h : wpList P ops Q rest (a.put o.dst (.bool b)) w) : wpList P ops Q (o :: rest) a w := by
  unfold wpList
  rw [if_pos hw]
  left
  have h1 := run_eqGuard_agg (P := P) w .eql t x y xs ys hm
  have h2 := run_eql_struct (P := P) w t xs ys
  rw [hr] at h2
  unfold Oper.wp execOp
  simp only [ho, hx, hy, Sem.run_bind, h1, h2, Result.andThen_ok]
  exact h
end
theorem zeros_z {a : List UInt8} (h : allZ a 12 = true) : ((a.getD 0 0).toNat = 0) := z_first h
set_option maxRecDepth 100000 in
set_option maxHeartbeats 4000000 in
theorem refPolicy_e (a : List UInt8) (ha : a.length = 16) (w : World) :
    Calls Tryd.prog 13 #[.agg (bvs a).toArray] w fun e w' => e = .returned (.tuple #[.int .i64 (polA a).1, .int .i64 (polA a).2]) ∧ Below w.heap.size w w' := by
  have hcell : ∀ W j, Below (w.alloc (.cells (bvs a).toArray 27)).heap.size (w.alloc (.cells (bvs a).toArray 27)) W → j < 16 → W.cell? ⟨w.heap.size, j, none⟩ = some (.int .u8 (a.getD j 0).toNat) := fun W j hW hj => by
    rw [hW.cell (p := ⟨w.heap.size, j, none⟩) (by show w.heap.size < _; rw [World.size_alloc]; omega), World.cell?_alloc_mark, List.getElem?_toArray]
    exact bvs_at (by omega)
  have hblk : ∀ W, Below (w.alloc (.cells (bvs a).toArray 27)).heap.size (w.alloc (.cells (bvs a).toArray 27)) W → ∀ j v, (bvs a).toArray.toList[j]? = some v → W.cell? ((⟨w.heap.size, 0, none⟩ : Addr).add j) = some v := fun W hW j v hj => by
    rw [Addr.add_lit, Nat.zero_add, hW.cell (p := ⟨w.heap.size, j, none⟩) (by show w.heap.size < _; rw [World.size_alloc]; omega), World.cell?_alloc_mark]
    simpa using hj
  have hz : ∀ k, allZ a (k + 1) = (allZ a k && decide ((a.getD k 0).toNat = 0)) := fun k => by
    rw [allZ, show ((a.getD k 0 == 0)) = decide ((a.getD k 0).toNat = 0) from beq_nat _ 0 (by decide)]
  have hlt : ∀ k, (a.getD k 0).toNat < 256 := fun k => (a.getD k 0).toNat_lt
  have hfour := fun W => four_e a ha W
  have hq : ∀ W : World, (Op.equalIn 10000 27 (.agg (bvs a).toArray) (.agg (bvs one6).toArray)).run Tryd.prog W = .ok (a == one6) W := fun W => eq_addr 9998 W ha rfl
  have hob : Tryd.prog.built 27 [(15, .int .u8 1)] = some (bvs one6).toArray := by kernel_rfl
  have hS := sizeBv ha
  have hpol : polA a = if allZ a 12 = true ∧ a = one6 then (50, 0) else if isV4 a = true then (35, 4) else if allZ a 12 = true then (1, 3)
    else if (a.getD 0 0).toNat = 32 ∧ (a.getD 1 0).toNat = 1 ∧ (a.getD 2 0).toNat = 0 ∧ (a.getD 3 0).toNat = 0 then (5, 5)
    else if (a.getD 0 0).toNat = 32 ∧ (a.getD 1 0).toNat = 2 then (30, 2)
    else if (a.getD 0 0).toNat = 63 ∧ (a.getD 1 0).toNat = 254 then (1, 12)
    else if (a.getD 0 0).toNat = 254 ∧ 192 ≤ (a.getD 1 0).toNat then (1, 11)
    else if (a.getD 0 0).toNat = 252 ∨ (a.getD 0 0).toNat = 253 then (3, 13) else (40, 1) := rfl
  obtain ⟨q1, hq1⟩ : ∃ q1, q1 = (a == one6) := ⟨_, rfl⟩
  have hq1' : (a = one6) ↔ q1 = true := by rw [hq1, beq_iff_eq]
  rw [← hq1] at hq
  simp only [hq1'] at hpol
  obtain ⟨f, hf⟩ : ∃ f : Nat → Nat, ∀ k, f k = (a.getD k 0).toNat := ⟨_, fun _ => rfl⟩
  have h00 : allZ a 0 = true := rfl
  simp only [← hf] at hcell hz hlt hpol
  generalize isV4 a = V at *
  generalize allZ a = Zf at *
  generalize polA a = pa at *
  obtain ⟨p1, hp1⟩ : ∃ p1, p1 = pa.1 := ⟨_, rfl⟩
  obtain ⟨p2, hp2⟩ : ∃ p2, p2 = pa.2 := ⟨_, rfl⟩
  rw [← hp1, ← hp2]
  generalize (bvs a).toArray = c at *
  generalize (bvs one6).toArray = o1 at *
  have hb0 : Below w.heap.size w (w.alloc (.cells c 27)) := (Below.refl _ w).alloc (Nat.le_refl _) _
  have HP1 := Lib.hid hp1
  have HP2 := Lib.hid hp2
  have HC := Lib.hid hcell
  have HBlk := Lib.hid hblk
  have HZ := Lib.hid hz
  have HB0 := Lib.hid hb0
  have H00 := Lib.hid h00
  have HFour := Lib.hid hfour
  have HQ := Lib.hid hq
  have HOb := Lib.hid hob
  have HS := Lib.hid hS
  have HPol := Lib.hid hpol
  have HLt := Lib.hid hlt
  clear hcell hblk hz hb0 h00 ha hf hfour hq hob hS hpol hlt hq1 hq1' hp1 hp2
  go_enter Tryd.func13, Tryd.ntmps13
  go_wp2
  go_loopg [5, 4] 12 (fun gk i z wr => ∃ k : Nat, i = .int .i64 k ∧ k + gk = 12 ∧ z = .bool (Zf k) ∧ Hid (Below (w.alloc (.cells c 27)).heap.size (w.alloc (.cells c 27)) wr))
  case atStart => exact ⟨0, rfl, by simp, by rw [H00.out], Lib.hid (Below.refl _ _)⟩
  case round =>
    obtain ⟨k, rfl, hk, rfl, HBw⟩ := hrel
    by_cases hlt12 : k < 12
    · obtain ⟨g, rfl⟩ : ∃ g, gk = g + 1 := ⟨gk - 1, by omega⟩
      have hkI : (k : Int) < 12 := by omega
      have hc := HC.out wr k HBw.out (by omega)
      have hzk := HZ.out k
      generalize hfk : f k = x at hc hzk
      cases hzz : Zf k with
      | false =>
        have HZ' := Lib.hid (show Zf (k + 1) = false by rw [hzk, hzz]; rfl)
        clear hzk hfk hzz
        go_wp2
        go_roundg g
        case measure => omega
        case rel => exact ⟨k + 1, by go_num, by omega, by rw [HZ'.out], HBw⟩
      | true =>
        have HZ' := Lib.hid (show Zf (k + 1) = decide (x = 0) by rw [hzk, hzz]; rfl)
        clear hzk hfk hzz
        by_cases h0 : x = 0
        · subst h0
          go_wp2
          go_roundg g
          case measure => omega
          case rel => exact ⟨k + 1, by go_num, by omega, by rw [HZ'.out]; rfl, HBw⟩
        · have h2B := Lib.hid (show ((x : Int) == 0) = false by rw [beq_eq_false_iff_ne]; omega)
          go_wp2
          go_roundg g
          case measure => omega
          case rel => exact ⟨k + 1, by go_num, by omega, by rw [HZ'.out, decide_eq_false h0, h2B.out], HBw⟩
    · obtain rfl : k = 12 := by omega
      have c0 := HC.out wr 0 HBw.out (by omega)
      have hfin : Below w.heap.size w wr := HB0.out.trans (HBw.out.mono HB0.out.size)
      have HFin := Lib.hid hfin
      clear hfin
      have hzz := HPol.out
      generalize hzf : Zf 12 = z at hzz ⊢
      have hld := HBlk.out wr HBw.out
      have HLD := Lib.hid hld
      clear hld c0
      have HZf := Lib.hid hzf
      clear hzf hzz
      cases z with
      | true =>
        cases q1 with
        | true =>
          have hr : pa = (50, 0) := by rw [HPol.out]; simp only [HZf.out]; simp
          have HR1 := Lib.hid (show p1 = 50 by rw [HP1.out, hr])
          have HR2 := Lib.hid (show p2 = 0 by rw [HP2.out, hr])
          clear hr
          go_wp2_with (first
            | (refine wpList_load_agg_gh (by kernel_rfl) 27 (.tmp 1) rfl ⟨w.heap.size, 0, none⟩ rfl c _ HLD.out Tryd.underlying27 rfl HS.out ?_; go_simp)
            | (refine wpList_load_agg rfl 27 (.tmp 1) rfl ⟨w.heap.size, 0, none⟩ rfl c _ HLD.out Tryd.underlying27 rfl HS.out ?_; go_simp)
            | (refine wpList_build_g 27 #[(15, .const (.int .u8 1))] (by kernel_rfl) rfl o1 HOb.out ?_; go_simp)
            | (refine wpList_eql_agg_gh (by kernel_rfl) 27 (.tmp 20) (.tmp 21) 27 rfl c o1 true rfl rfl eqGuardAddr (HQ.out _) ?_; go_simp))
          exact bodyPost_ret (results_tmp2 rfl _ _ _) rfl ⟨by rw [HR1.out, HR2.out]; rfl, HFin.out⟩
        | false =>
          go_wp2_with (first
            | (refine wpList_load_agg_gh (by kernel_rfl) 27 (.tmp 1) rfl ⟨w.heap.size, 0, none⟩ rfl c _ HLD.out Tryd.underlying27 rfl HS.out ?_; go_simp)
            | (refine wpList_load_agg rfl 27 (.tmp 1) rfl ⟨w.heap.size, 0, none⟩ rfl c _ HLD.out Tryd.underlying27 rfl HS.out ?_; go_simp)
            | (refine wpList_build_g 27 #[(15, .const (.int .u8 1))] (by kernel_rfl) rfl o1 HOb.out ?_; go_simp)
            | (refine wpList_eql_agg_gh (by kernel_rfl) 27 (.tmp 20) (.tmp 21) 27 rfl c o1 false rfl rfl eqGuardAddr (HQ.out _) ?_; go_simp))
          refine (HFour.out _).mono ?_
          rintro e w6 ⟨rfl, hb6⟩
          have hb7 := HBw.out.trans (hb6.mono HBw.out.size)
          have HF6 := Lib.hid (HFin.out.trans (hb6.mono HFin.out.size))
          clear hb6
          cases V with
          | true =>
            clear hb7
            have hr : pa = (35, 4) := by rw [HPol.out]; simp only [HZf.out]; simp
            have HR1 := Lib.hid (show p1 = 35 by rw [HP1.out, hr])
            have HR2 := Lib.hid (show p2 = 4 by rw [HP2.out, hr])
            clear hr
            go_wp2
            exact bodyPost_ret (results_tmp2 rfl _ _ _) rfl ⟨by rw [HR1.out, HR2.out]; rfl, HF6.out⟩
          | false =>
            clear hb7
            have hr : pa = (1, 3) := by rw [HPol.out]; simp only [HZf.out]; simp
            have HR1 := Lib.hid (show p1 = 1 by rw [HP1.out, hr])
            have HR2 := Lib.hid (show p2 = 3 by rw [HP2.out, hr])
            clear hr
            go_wp2
            exact bodyPost_ret (results_tmp2 rfl _ _ _) rfl ⟨by rw [HR1.out, HR2.out]; rfl, HF6.out⟩
      | false =>
        go_upto_region 8 with fail
        go_wp2_with (first
          | (refine wpList_load_agg rfl 27 (.tmp 1) rfl ⟨w.heap.size, 0, none⟩ rfl c _ HLD.out Tryd.underlying27 rfl HS.out ?_; go_simp))
        refine (HFour.out _).mono ?_
        rintro e w6 ⟨rfl, hb6⟩
        have hb7 := HBw.out.trans (hb6.mono HBw.out.size)
        have HF6 := Lib.hid (HFin.out.trans (hb6.mono HFin.out.size))
        clear hb6
        cases V with
        | true =>
          clear hb7
          have hr : pa = (35, 4) := by rw [HPol.out]; simp only [HZf.out]; simp
          have HR1 := Lib.hid (show p1 = 35 by rw [HP1.out, hr])
          have HR2 := Lib.hid (show p2 = 4 by rw [HP2.out, hr])
          clear hr
          go_wp2
          exact bodyPost_ret (results_tmp2 rfl _ _ _) rfl ⟨by rw [HR1.out, HR2.out]; rfl, HF6.out⟩
        | false =>
          have c0 := HC.out w6 0 hb7 (by omega)
          have l0 := HLt.out 0
          have c1 := HC.out w6 1 hb7 (by omega)
          have l1 := HLt.out 1
          have c2 := HC.out w6 2 hb7 (by omega)
          have l2 := HLt.out 2
          have c3 := HC.out w6 3 hb7 (by omega)
          have l3 := HLt.out 3
          have hpa := HPol.out
          rw [HZf.out] at hpa
          generalize f 0 = x0 at *
          generalize f 1 = x1 at *
          generalize f 2 = x2 at *
          generalize f 3 = x3 at *
          have HPa := Lib.hid hpa
          clear hpa hb7
          have hcl : (x0 = 32 ∧ x1 = 1 ∧ x2 = 0 ∧ x3 = 0) ∨ (x0 = 32 ∧ x1 = 1 ∧ x2 = 0 ∧ ¬ x3 = 0) ∨ (x0 = 32 ∧ x1 = 1 ∧ ¬ x2 = 0) ∨ (x0 = 32 ∧ x1 = 2) ∨ (x0 = 32 ∧ ¬ x1 = 1 ∧ ¬ x1 = 2) ∨ (x0 = 63 ∧ x1 = 254) ∨ (x0 = 63 ∧ ¬ x1 = 254) ∨ (x0 = 254 ∧ 192 ≤ x1) ∨ (x0 = 254 ∧ ¬ 192 ≤ x1) ∨ (x0 = 252) ∨ (x0 = 253) ∨ (¬ x0 = 32 ∧ ¬ x0 = 63 ∧ ¬ x0 = 254 ∧ ¬ x0 = 252 ∧ ¬ x0 = 253) := by omega
          rcases hcl with h | h | h | h | h | h | h | h | h | h | h | h
          · obtain ⟨rfl, rfl, rfl, rfl⟩ := h
            have hr : pa = (5, 5) := by rw [HPa.out]; first | (simp; done) | (simp [h]; done) | (simp [k32, k63, k254, k252, k253]; done) | (clear HPol HLt HBlk HC HFour HQ; (repeat' split); all_goals first | rfl | (exfalso; omega))
            have HR1 := Lib.hid (show p1 = 5 by rw [HP1.out, hr])
            have HR2 := Lib.hid (show p2 = 5 by rw [HP2.out, hr])
            clear hr
            clear HPa
            go_wp2
            exact bodyPost_ret (results_tmp2 rfl _ _ _) rfl ⟨by rw [HR1.out, HR2.out]; rfl, HF6.out⟩
          · obtain ⟨rfl, rfl, rfl, h⟩ := h
            have g3 : ((x3 : Int) == 0) = false := by rw [beq_eq_false_iff_ne]; omega
            have hr : pa = (40, 1) := by rw [HPa.out]; first | (simp; done) | (simp [h]; done) | (simp [k32, k63, k254, k252, k253]; done) | (clear HPol HLt HBlk HC HFour HQ; (repeat' split); all_goals first | rfl | (exfalso; omega))
            have HR1 := Lib.hid (show p1 = 40 by rw [HP1.out, hr])
            have HR2 := Lib.hid (show p2 = 1 by rw [HP2.out, hr])
            clear hr
            clear HPa
            go_wp2
            exact bodyPost_ret (results_tmp2 rfl _ _ _) rfl ⟨by rw [HR1.out, HR2.out]; rfl, HF6.out⟩
          · obtain ⟨rfl, rfl, h⟩ := h
            have g3 : ((x2 : Int) == 0) = false := by rw [beq_eq_false_iff_ne]; omega
            have g4 : ¬ (x2 : Int) = 0 := by omega
            have hr : pa = (40, 1) := by rw [HPa.out]; first | (simp; done) | (simp [h]; done) | (simp [k32, k63, k254, k252, k253]; done) | (clear HPol HLt HBlk HC HFour HQ; (repeat' split); all_goals first | rfl | (exfalso; omega))
            have HR1 := Lib.hid (show p1 = 40 by rw [HP1.out, hr])
            have HR2 := Lib.hid (show p2 = 1 by rw [HP2.out, hr])
            clear hr
            clear HPa
            go_wp2
            exact bodyPost_ret (results_tmp2 rfl _ _ _) rfl ⟨by rw [HR1.out, HR2.out]; rfl, HF6.out⟩
          · obtain ⟨rfl, rfl⟩ := h
            have hr : pa = (30, 2) := by rw [HPa.out]; first | (simp; done) | (simp [h]; done) | (simp [k32, k63, k254, k252, k253]; done) | (clear HPol HLt HBlk HC HFour HQ; (repeat' split); all_goals first | rfl | (exfalso; omega))
            have HR1 := Lib.hid (show p1 = 30 by rw [HP1.out, hr])
            have HR2 := Lib.hid (show p2 = 2 by rw [HP2.out, hr])
            clear hr
            clear HPa
            go_wp2
            exact bodyPost_ret (results_tmp2 rfl _ _ _) rfl ⟨by rw [HR1.out, HR2.out]; rfl, HF6.out⟩
          · obtain ⟨rfl, h⟩ := h
            have g3 : ((x1 : Int) == 1) = false := by rw [beq_eq_false_iff_ne]; omega
            have g4 : ((x1 : Int) == 2) = false := by rw [beq_eq_false_iff_ne]; omega
            have g5 : ¬ (x1 : Int) = 1 := by omega
            have g6 : ¬ (x1 : Int) = 2 := by omega
            have hr : pa = (40, 1) := by rw [HPa.out]; first | (simp; done) | (simp [h]; done) | (simp [k32, k63, k254, k252, k253]; done) | (clear HPol HLt HBlk HC HFour HQ; (repeat' split); all_goals first | rfl | (exfalso; omega))
            have HR1 := Lib.hid (show p1 = 40 by rw [HP1.out, hr])
            have HR2 := Lib.hid (show p2 = 1 by rw [HP2.out, hr])
            clear hr
            clear HPa
            go_wp2
            exact bodyPost_ret (results_tmp2 rfl _ _ _) rfl ⟨by rw [HR1.out, HR2.out]; rfl, HF6.out⟩
          · obtain ⟨rfl, rfl⟩ := h
            have hr : pa = (1, 12) := by rw [HPa.out]; first | (simp; done) | (simp [h]; done) | (simp [k32, k63, k254, k252, k253]; done) | (clear HPol HLt HBlk HC HFour HQ; (repeat' split); all_goals first | rfl | (exfalso; omega))
            have HR1 := Lib.hid (show p1 = 1 by rw [HP1.out, hr])
            have HR2 := Lib.hid (show p2 = 12 by rw [HP2.out, hr])
            clear hr
            clear HPa
            go_wp2
            exact bodyPost_ret (results_tmp2 rfl _ _ _) rfl ⟨by rw [HR1.out, HR2.out]; rfl, HF6.out⟩
          · obtain ⟨rfl, h⟩ := h
            have g3 : ((x1 : Int) == 254) = false := by rw [beq_eq_false_iff_ne]; omega
            have g4 : ¬ (x1 : Int) = 254 := by omega
            have hr : pa = (40, 1) := by rw [HPa.out]; first | (simp; done) | (simp [h]; done) | (simp [k32, k63, k254, k252, k253]; done) | (clear HPol HLt HBlk HC HFour HQ; (repeat' split); all_goals first | rfl | (exfalso; omega))
            have HR1 := Lib.hid (show p1 = 40 by rw [HP1.out, hr])
            have HR2 := Lib.hid (show p2 = 1 by rw [HP2.out, hr])
            clear hr
            clear HPa
            go_wp2
            exact bodyPost_ret (results_tmp2 rfl _ _ _) rfl ⟨by rw [HR1.out, HR2.out]; rfl, HF6.out⟩
          · obtain ⟨rfl, h⟩ := h
            have g3 : (192 : Int) ≤ (x1 : Int) := by omega
            have hr : pa = (1, 11) := by rw [HPa.out]; first | (simp; done) | (simp [h]; done) | (simp [k32, k63, k254, k252, k253]; done) | (clear HPol HLt HBlk HC HFour HQ; (repeat' split); all_goals first | rfl | (exfalso; omega))
            have HR1 := Lib.hid (show p1 = 1 by rw [HP1.out, hr])
            have HR2 := Lib.hid (show p2 = 11 by rw [HP2.out, hr])
            clear hr
            clear HPa
            go_wp2
            exact bodyPost_ret (results_tmp2 rfl _ _ _) rfl ⟨by rw [HR1.out, HR2.out]; rfl, HF6.out⟩
          · obtain ⟨rfl, h⟩ := h
            have g3 : ¬ (192 : Int) ≤ (x1 : Int) := by omega
            have hr : pa = (40, 1) := by rw [HPa.out]; first | (simp; done) | (simp [h]; done) | (simp [k32, k63, k254, k252, k253]; done) | (clear HPol HLt HBlk HC HFour HQ; (repeat' split); all_goals first | rfl | (exfalso; omega))
            have HR1 := Lib.hid (show p1 = 40 by rw [HP1.out, hr])
            have HR2 := Lib.hid (show p2 = 1 by rw [HP2.out, hr])
            clear hr
            clear HPa
            go_wp2
            exact bodyPost_ret (results_tmp2 rfl _ _ _) rfl ⟨by rw [HR1.out, HR2.out]; rfl, HF6.out⟩
          · subst h
            have hr : pa = (3, 13) := by rw [HPa.out]; first | (simp; done) | (simp [h]; done) | (simp [k32, k63, k254, k252, k253]; done) | (clear HPol HLt HBlk HC HFour HQ; (repeat' split); all_goals first | rfl | (exfalso; omega))
            have HR1 := Lib.hid (show p1 = 3 by rw [HP1.out, hr])
            have HR2 := Lib.hid (show p2 = 13 by rw [HP2.out, hr])
            clear hr
            clear HPa
            go_wp2
            exact bodyPost_ret (results_tmp2 rfl _ _ _) rfl ⟨by rw [HR1.out, HR2.out]; rfl, HF6.out⟩
          · subst h
            have hr : pa = (3, 13) := by rw [HPa.out]; first | (simp; done) | (simp [h]; done) | (simp [k32, k63, k254, k252, k253]; done) | (clear HPol HLt HBlk HC HFour HQ; (repeat' split); all_goals first | rfl | (exfalso; omega))
            have HR1 := Lib.hid (show p1 = 3 by rw [HP1.out, hr])
            have HR2 := Lib.hid (show p2 = 13 by rw [HP2.out, hr])
            clear hr
            clear HPa
            go_wp2
            exact bodyPost_ret (results_tmp2 rfl _ _ _) rfl ⟨by rw [HR1.out, HR2.out]; rfl, HF6.out⟩
          · obtain ⟨k32, k63, k254, k252, k253⟩ := h
            have g32 : ¬ (x0 : Int) = 32 := by omega
            have e32 : ((x0 : Int) == 32) = false := by rw [beq_eq_false_iff_ne]; omega
            have g63 : ¬ (x0 : Int) = 63 := by omega
            have e63 : ((x0 : Int) == 63) = false := by rw [beq_eq_false_iff_ne]; omega
            have g254 : ¬ (x0 : Int) = 254 := by omega
            have e254 : ((x0 : Int) == 254) = false := by rw [beq_eq_false_iff_ne]; omega
            have g252 : ¬ (x0 : Int) = 252 := by omega
            have e252 : ((x0 : Int) == 252) = false := by rw [beq_eq_false_iff_ne]; omega
            have g253 : ¬ (x0 : Int) = 253 := by omega
            have e253 : ((x0 : Int) == 253) = false := by rw [beq_eq_false_iff_ne]; omega
            have hr : pa = (40, 1) := by rw [HPa.out]; first | (simp; done) | (simp [h]; done) | (simp [k32, k63, k254, k252, k253]; done) | (clear HPol HLt HBlk HC HFour HQ; (repeat' split); all_goals first | rfl | (exfalso; omega))
            have HR1 := Lib.hid (show p1 = 40 by rw [HP1.out, hr])
            have HR2 := Lib.hid (show p2 = 1 by rw [HP2.out, hr])
            clear hr
            clear HPa
            go_wp2
            exact bodyPost_ret (results_tmp2 rfl _ _ _) rfl ⟨by rw [HR1.out, HR2.out]; rfl, HF6.out⟩
end Go.Proofs.YtoaedlllnkcfnaaDoor
