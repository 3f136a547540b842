/-
  The walk of AddrReverses: reverse names have all bytes, or halves of bytes, the last one first; unlike addresses have unlike ones. Conditions: sixteen bytes; the library's variables hold what their initialisers lay.
-/
import Derived.Test.YtclfmokdjmnjcaaDoorAddrFit
import Derived.Test.YtclfmokdjmnjcaaDoorAddrRev
import Derived.Deep.RegionHeld3
import Derived.BigQuiet
namespace Go.Proofs.YtclfmokdjmnjcaaDoor
open Go.RowKit

theorem range_rowR {w : World} {g : Nat} {cs : List Value} {t : TypeId} {fr : Nat × Nat} (hg : w.heap[g]? = some (.cells cs.toArray t fr)) : w.rangeAt g 0 cs := fun j v hj => by
  rw [Nat.zero_add, cell_of_row w g j _ t fr hg]; simpa using hj
theorem range_belowR {w w' : World} {g : Nat} {cs : List Value} (h : w.rangeAt g 0 cs) (hlt : g < w.heap.size) (hb : Below w.heap.size w w') : w'.rangeAt g 0 cs := fun j v hj => (hb.cell (p := ⟨g, 0 + j, none⟩) hlt).trans (h j v hj)
/-- two addresses lie in memory -/
structure RvS (w : World) (g1 g2 : Nat) (c1 c2 : List Value) (wr : World) : Prop where
  ra : wr.rangeAt g1 0 c1
  rb : wr.rangeAt g2 0 c2
  la : g1 < wr.heap.size
  lb : g2 < wr.heap.size
  env : AEnv wr
  below : Below w.heap.size w wr
theorem RvS.step {w wr w2 : World} {g1 g2 : Nat} {c1 c2 : List Value} (h : RvS w g1 g2 c1 c2 wr) (hb : Below wr.heap.size wr w2) : RvS w g1 g2 c1 c2 w2 :=
  ⟨range_belowR h.ra h.la hb, range_belowR h.rb h.lb hb, Nat.lt_of_lt_of_le h.la hb.size, Nat.lt_of_lt_of_le h.lb hb.size, h.env.below hb, h.below.trans (hb.mono h.below.size)⟩
theorem RvS.drew {w wr : World} {g1 g2 : Nat} {c1 c2 : List Value} (h : RvS w g1 g2 c1 c2 wr) : RvS w g1 g2 c1 c2 wr.drew := h.step (Below.refl _ wr).drew
theorem rv_beq {a b : List UInt8} (ha : a.length = 16) (hb : b.length = 16) : ((tb (rvT a)).toList == (tb (rvT b)).toList) = (a == b) := by
  rw [Bool.eq_iff_iff, beq_iff_eq, beq_iff_eq, Lib.toList_data, Lib.toList_data, tb_data, tb_data]
  exact ⟨fun h => rv_inj ha hb h, fun h => by rw [h]⟩
/-- and a row of texts beside them -/
structure RvT (w : World) (g1 g2 : Nat) (c1 c2 : List Value) (gs : Nat) (ps : List ByteArray) (wr : World) : Prop where
  base : RvS w g1 g2 c1 c2 wr
  lt : gs < wr.heap.size
  cells : ∀ j, j < ps.length → wr.cell? ⟨gs, j, none⟩ = some (.string (ps.getD j ByteArray.empty))
theorem RvT.step {w wr w2 : World} {g1 g2 gs : Nat} {c1 c2 : List Value} {ps : List ByteArray} (h : RvT w g1 g2 c1 c2 gs ps wr) (hb : Below wr.heap.size wr w2) : RvT w g1 g2 c1 c2 gs ps w2 :=
  ⟨h.base.step hb, Nat.lt_of_lt_of_le h.lt hb.size, fun j hj => (hb.cell (p := ⟨gs, j, none⟩) h.lt).trans (h.cells j hj)⟩
theorem RvT.drew {w wr : World} {g1 g2 gs : Nat} {c1 c2 : List Value} {ps : List ByteArray} (h : RvT w g1 g2 c1 c2 gs ps wr) : RvT w g1 g2 c1 c2 gs ps wr.drew := h.step (Below.refl _ wr).drew
theorem six_of {ps : List ByteArray} {d : List (List UInt8)} {u v : List UInt8} (h : ps.map (·.data.toList) = d.reverse ++ [u, v]) (hd : d.length = 4) :
    ∃ p0 p1 p2 p3, ps = [p0, p1, p2, p3, tb u, tb v] ∧ [p3, p2, p1, p0].map (·.data.toList) = d := by
  match d, hd with
  | [d0, d1, d2, d3], _ =>
    have hl := congrArg List.length h
    rw [List.length_map] at hl
    match ps, hl with
    | [p0, p1, p2, p3, p4, p5], _ =>
      simp only [List.map_cons, List.map_nil, List.reverse_cons, List.reverse_nil, List.nil_append, List.cons_append, List.cons.injEq, and_true] at h
      obtain ⟨h0, h1, h2, h3, h4, h5⟩ := h
      refine ⟨p0, p1, p2, p3, ?_, ?_⟩
      · rw [show p4 = tb u from bytes_inj h4, show p5 = tb v from bytes_inj h5]
      · simp only [List.map_cons, List.map_nil, h0, h1, h2, h3]
theorem half_hi2 (c : UInt8) : bits BinOp.and IntKind.u8 ((c.toNat : Int) / 16) 15 = (c.toNat : Int) / 16 := by
  have h : ∀ k : Fin 256, bits BinOp.and IntKind.u8 ((k.val : Int) / 16) 15 = (k.val : Int) / 16 := by decide +kernel
  exact h ⟨c.toNat, c.toNat_lt⟩
theorem idx_hex (k : Nat) (hk : k < 16) (W : World) : (Instr.index 9 (.string (ByteArray.mk #[48, 49, 50, 51, 52, 53, 54, 55, 56, 57, 97, 98, 99, 100, 101, 102])) (.int .u8 (k : Int))).run Tryd.prog W = .ok (.int .u8 (hexD k).toNat) W := by
  have h : ∀ k : Fin 16, (ByteArray.mk #[48, 49, 50, 51, 52, 53, 54, 55, 56, 57, 97, 98, 99, 100, 101, 102]).data.toList.getD k.val 0 = hexD k.val := by decide +kernel
  rw [run_index_string W 9 _ .u8 (k : Int) Tryd.underlying9, dif_pos ⟨by omega, by show (k : Int) < 16; omega⟩]
  have e : ((k : Int)).toNat = k := by omega
  simp only [e]
  rw [Lib.getD_at _ _ hk, h ⟨k, hk⟩]
set_option maxRecDepth 100000 in
set_option maxHeartbeats 4000000 in
theorem addrReverses_walk (a : List UInt8) (ha : a.length = 16) (b : List UInt8) (hb : b.length = 16) (w : World) (he : AEnv w) :
    Calls Tryd.prog 4 #[.agg (bvs a).toArray, .agg (bvs b).toArray] w fun e w' => e = .returned (.bool true) ∧ Below w.heap.size w w' := by
  have hq : ∀ W : World, (Op.equalIn 10000 23 (.agg (bvs a).toArray) (.agg (bvs b).toArray)).run Tryd.prog W = .ok (a == b) W := fun W => run_eq_addr W ha hb
  have hS : (Tryd.prog.info? 23).map (·.size) = some (bvs a).length := by rw [sizeAddr, bvs_length, ha]
  have hS2 : (Tryd.prog.info? 23).map (·.size) = some (bvs b).length := by rw [sizeAddr, bvs_length, hb]
  have hu := Tryd.underlying23
  have hpa := fun W (hW : AEnv W) => rv_e a ha W hW
  have hpb := fun W (hW : AEnv W) => rv_e b hb W hW
  have hpr := fun W (hW : AEnv W) => print_e a ha W hW
  have h4e := fun W => is4_e a ha W
  have hxy := rv_beq ha hb
  have htj : isV4 a = true → jn (decs4 a) = txt a := fun h => by unfold txt; rw [if_pos h]; rfl
  have htl := txt_len ha
  have hxs := rvT_len ha
  have hsp4 : isV4 a = true → _ := fun h => sp_rv4 ha h
  have hsp6 : isV4 a = false → _ := fun h => sp_rv6 ha h
  have hbyt : ∀ (W : World) (g : Nat), W.rangeAt g 0 (bvs a) → ∀ j, j < 16 → W.cell? ⟨g, j, none⟩ = some (.int .u8 (a.getD j 0).toNat) := fun W g h j hj => by
    have := h j _ (bvs_at (xs := a) (j := j) (by omega))
    rwa [Nat.zero_add] at this
  obtain ⟨x, hx⟩ : ∃ x, x = tb (rvT a) := ⟨_, rfl⟩
  have hxd : x.data.toList = rvT a := by rw [hx, tb_data]
  rw [← hx] at hpa hxy
  generalize tb (rvT b) = y at hpb hxy
  generalize (a == b) = res at hq hxy
  rw [← hxd] at hsp4 hsp6 hxs
  rw [← Lib.size_eq] at hxs
  obtain ⟨c1, hc1⟩ : ∃ c, c = bvs a := ⟨_, rfl⟩
  rw [← hc1] at hq hS hpa hpr h4e hbyt ⊢
  generalize bvs b = c2 at *
  have hb2 : Below w.heap.size w ((w.alloc (.cells c1.toArray 23)).alloc (.cells c2.toArray 23)) := ((Below.refl _ w).alloc (Nat.le_refl _) _).alloc (by rw [World.size_alloc]; omega) _
  have hp0 : RvS w w.heap.size (w.heap.size + 1) c1 c2 ((w.alloc (.cells c1.toArray 23)).alloc (.cells c2.toArray 23)) :=
    ⟨range_rowR (heap_alloc2_old w _ _), range_rowR (heap_alloc2_new w _ _), by rw [World.size_alloc, World.size_alloc]; omega, by rw [World.size_alloc, World.size_alloc]; omega, he.below hb2, hb2⟩
  have hfit := fun W (hW : AEnv W) => fit5_e W hW
  have HP0 := Lib.hid hp0
  have HF := Lib.hid hfit
  have HA : Hid (∀ W, RvS w w.heap.size (w.heap.size + 1) c1 c2 W → Calls Tryd.prog 9 #[.agg c1.toArray] W fun e w' => e = .returned (.string x) ∧ RvS w w.heap.size (w.heap.size + 1) c1 c2 w') := Lib.hid (fun W hW => (hpa W hW.env).mono fun _ _ ⟨h1, h2⟩ => ⟨h1, hW.step h2⟩)
  have HB : Hid (∀ W, RvS w w.heap.size (w.heap.size + 1) c1 c2 W → Calls Tryd.prog 9 #[.agg c2.toArray] W fun e w' => e = .returned (.string y) ∧ RvS w w.heap.size (w.heap.size + 1) c1 c2 w') := Lib.hid (fun W hW => (hpb W hW.env).mono fun _ _ ⟨h1, h2⟩ => ⟨h1, hW.step h2⟩)
  have HPr := Lib.hid hpr
  have H4 := Lib.hid h4e
  have HS4 := Lib.hid hsp4
  have HS6 := Lib.hid hsp6
  have HBy := Lib.hid hbyt
  have HTJ := Lib.hid htj
  have HTL := Lib.hid htl
  have HD4 := Lib.hid (decs4_length ha)
  clear hpa hpb hp0 hfit he hb hb2 hpr h4e hsp4 hsp6 hbyt hx hxd hc1 htj htl
  go_enter Tryd.func4, Tryd.ntmps4
  go_wp2_with fail
  refine (HF.out _ HP0.out.env).mono ?_
  rintro e w1 ⟨rfl, hb1⟩
  have h0 := HP0.out.step hb1
  clear hb1
  go_wp2_with fail
  refine wp_region_held_drew (S := RvS w w.heap.size (w.heap.size + 1) c1 c2) (by kernel_rfl) h0.drew (fun hHeld => ?_)
  refine wpAnyH_take (i := 0) (oi := ({ dst := some 12, op := Go.Op.load 23 (Go.Operand.tmp 2), type := 23, pos := "law.go:74", after := #[], guard := none } : Oper)) (v := .agg c1.toArray) rfl (by kernel_rfl) (by kernel_rfl) (by kernel_rfl) (fun _ _ _ h => h) (yieldsIf_load_mid (by rfl) _ _ rfl _ _ rfl _ _ (fun w h => h.ra) hu rfl hS) hHeld ?_
  refine wpAnyH_take (i := 2) (oi := ({ dst := some 14, op := Go.Op.load 23 (Go.Operand.tmp 3), type := 23, pos := "law.go:74", after := #[], guard := none } : Oper)) (v := .agg c2.toArray) rfl (by kernel_rfl) (by kernel_rfl) (by kernel_rfl) (fun _ _ _ h => h) (yieldsIf_load_mid (by rfl) _ _ rfl _ _ rfl _ _ (fun w h => h.rb) hu rfl hS2) hHeld ?_
  simp only [Act.put, List.setIfInBounds_toArray, List.set_cons_zero, List.set_cons_succ]
  refine wpAnyH_ready (rs := [1]) (by kernel_rfl) (by simp) ?_
  refine AllReadyH.cons (o := ({ dst := some 13, op := Go.Op.call { callee := Go.Callee.value (Go.Operand.func 9), args := #[Go.Operand.tmp 12], argTypes := #[23] }, type := 9, pos := "law.go:74", after := #[{ on := 0, ground := Go.Ground.data }], guard := none } : Oper)) rfl (fun K hK => ?_) AllReadyH.nil
  go_simp
  go_at_call 9
  refine (HA.out _ hHeld).mono ?_
  rintro e' w2 ⟨rfl, hp2⟩
  refine hK.out _ _ hp2 (fun hHeld1 => ?_)
  clear hK K
  refine wpAnyH_ready (rs := [3]) (by kernel_rfl) (by simp) ?_
  refine AllReadyH.cons (o := ({ dst := some 15, op := Go.Op.call { callee := Go.Callee.value (Go.Operand.func 9), args := #[Go.Operand.tmp 14], argTypes := #[23] }, type := 9, pos := "law.go:74", after := #[{ on := 2, ground := Go.Ground.data }, { on := 1, ground := Go.Ground.chain }], guard := none } : Oper)) rfl (fun K hK => ?_) AllReadyH.nil
  go_simp
  go_at_call 9
  refine (HB.out _ hHeld1).mono ?_
  rintro e' w3 ⟨rfl, hp3⟩
  refine hK.out _ _ hp3 (fun hHeld2 => ?_)
  clear hK K
  refine wpAnyH_take (i := 4) (oi := ({ dst := some 5, op := Go.Op.assign (Go.Operand.tmp 13), type := 9, pos := "law.go:74", after := #[{ on := 1, ground := Go.Ground.data }, { on := 3, ground := Go.Ground.chain }, { on := 0, ground := Go.Ground.phase }, { on := 1, ground := Go.Ground.phase }, { on := 2, ground := Go.Ground.textOnly Go.Departure.lateStores }, { on := 3, ground := Go.Ground.textOnly Go.Departure.lateStoresUnsure }], guard := none } : Oper)) (v := .string x) rfl (by kernel_rfl) (by kernel_rfl) (by kernel_rfl) (fun _ _ _ h => h) (Or.inl ⟨by rfl, fun w' _ => ?_⟩) hHeld2 ?_
  · go_simp
  refine wpAnyH_take (i := 5) (oi := ({ dst := some 6, op := Go.Op.assign (Go.Operand.tmp 15), type := 9, pos := "law.go:74", after := #[{ on := 3, ground := Go.Ground.data }, { on := 4, ground := Go.Ground.chain }, { on := 0, ground := Go.Ground.phase }, { on := 1, ground := Go.Ground.phase }, { on := 2, ground := Go.Ground.phase }, { on := 3, ground := Go.Ground.phase }, { on := 4, ground := Go.Ground.phase }], guard := none } : Oper)) (v := .string y) rfl (by kernel_rfl) (by kernel_rfl) (by kernel_rfl) (fun _ _ _ h => h) (Or.inl ⟨by rfl, fun w' _ => ?_⟩) hHeld2 ?_
  · go_simp
  simp only [Act.put, List.setIfInBounds_toArray, List.set_cons_zero, List.set_cons_succ]
  refine wpAnyH_done (by kernel_rfl) ?_ _
  have HH2 := Lib.hid hHeld2
  clear hHeld hHeld1 hHeld2 hp2 hp3 h0
  have hspl := split_f x w3 HH2.out.env.env (by omega)
  obtain ⟨ps, hps⟩ : ∃ ps, ps = pieces x := ⟨_, rfl⟩
  have hpd : ps.map (·.data.toList) = sp x.data.toList := by rw [hps]; exact pieces_data x
  rw [← hps] at hspl
  have HPD := Lib.hid hpd
  clear hps hpd
  go_wp2_with fail
  refine hspl.mono ?_
  rintro e w4 ⟨rfl, hb4, hstr⟩
  have HH4 := Lib.hid (HH2.out.step hb4)
  have HST := Lib.hid hstr
  clear hspl hb4 hstr
  have hra : ∀ j v, c1.toArray.toList[j]? = some v → w4.cell? ((⟨w.heap.size, 0, none⟩ : Addr).add j) = some v := fun j v hj => by rw [Addr.add_lit]; exact HH4.out.ra j v hj
  have hrb : ∀ j v, c2.toArray.toList[j]? = some v → w4.cell? ((⟨w.heap.size + 1, 0, none⟩ : Addr).add j) = some v := fun j v hj => by rw [Addr.add_lit]; exact HH4.out.rb j v hj
  have HRA := Lib.hid hra
  have HRB := Lib.hid hrb
  have HSa : Hid ((Tryd.prog.info? 23).map (·.size) = some c1.toArray.size) := Lib.hid (by rw [hS, List.size_toArray])
  have HSb : Hid ((Tryd.prog.info? 23).map (·.size) = some c2.toArray.size) := Lib.hid (by rw [hS2, List.size_toArray])
  clear hra hrb
  cases h4 : isV4 a
  · have hpd := HPD.out
    rw [HS6.out h4] at hpd
    have hpl : ps.length = 34 := by
      have := congrArg List.length hpd
      rw [List.length_map, List.length_append, List.length_reverse, halfL_length, ha] at this
      exact this
    have hat : ∀ j y, ((halfL a).reverse ++ [[105, 112, 54], [97, 114, 112, 97]])[j]? = some y → ps.getD j ByteArray.empty = tb y := fun j y hj => by
      rw [← hpd, List.getElem?_map] at hj
      cases hq : ps[j]? with
      | none => rw [hq] at hj; cases hj
      | some q =>
        rw [hq, Option.map_some, Option.some.injEq] at hj
        rw [List.getD_eq_getElem?_getD, hq]
        exact bytes_inj hj
    have hrl : (halfL a).reverse.length = 32 := by rw [List.length_reverse, halfL_length, ha]
    have h33 : ps.getD 33 ByteArray.empty = ByteArray.mk #[97, 114, 112, 97] := hat 33 _ (by rw [List.getElem?_append_right (by omega), hrl]; rfl)
    have h32 : ps.getD 32 ByteArray.empty = ByteArray.mk #[105, 112, 54] := hat 32 _ (by rw [List.getElem?_append_right (by omega), hrl]; rfl)
    have hdig : ∀ i, i < 32 → ps.getD i ByteArray.empty = tb [hexD ((if i % 2 = 0 then (a.getD (15 - i / 2) 0).toNat % 16 else (a.getD (15 - i / 2) 0).toNat / 16))] := fun i hi => by
      apply hat
      rw [List.getElem?_append_left (by omega), List.getElem?_reverse (by rw [halfL_length, ha]; omega), halfL_length, ha]
      obtain ⟨e1, e2⟩ := halfL_at a (15 - i / 2) (by omega)
      by_cases hp : i % 2 = 0
      · rw [if_pos hp, ← e2]; congr 1; omega
      · rw [if_neg hp, ← e1]; congr 1; omega
    have hc33 : w4.cell? ⟨w3.heap.size, 33, none⟩ = some (.string (ByteArray.mk #[97, 114, 112, 97])) := by rw [← h33]; exact HST.out.cells 33 (by omega)
    have HDG := Lib.hid hdig
    have H32 := Lib.hid h32
    have HPL := Lib.hid hpl
    rw [hpl]
    have h4w := H4.out w4
    rw [h4] at h4w
    clear hpd hat hrl h33 h32 hdig hpl
    go_wp2_with (first
      | (refine wpList_load_agg rfl 23 (.tmp 2) rfl ⟨w.heap.size, 0, none⟩ rfl c1.toArray _ HRA.out hu rfl HSa.out ?_; go_simp)
      | (refine wpList_load_agg rfl 23 (.tmp 3) rfl ⟨w.heap.size + 1, 0, none⟩ rfl c2.toArray _ HRB.out hu rfl HSb.out ?_; go_simp))
    refine h4w.mono ?_
    rintro e w5 ⟨rfl, hb5⟩
    have HH5 := Lib.hid (HH4.out.step hb5)
    have HST5 := Lib.hid (HST.out.below hb5)
    have c32 : w5.cell? ⟨w3.heap.size, 32, none⟩ = some (.string (ByteArray.mk #[105, 112, 54])) := by rw [← H32.out]; exact HST5.out.cells 32 (by rw [HPL.out]; omega)
    clear hb5 h4w hc33
    go_wp2_with fail
    go_loopg [73, 8, 9] 32 (fun gk i _ _ wr => ∃ k : Nat, i = .int .i64 k ∧ k + gk = 32 ∧ Below w5.heap.size w5 wr)
    case atStart => exact ⟨0, rfl, rfl, Below.refl _ _⟩
    case round =>
      obtain ⟨k, rfl, hk, hbw⟩ := hrel
      by_cases hlt : k < 32
      · obtain ⟨g, rfl⟩ : ∃ g, gk = g + 1 := ⟨gk - 1, by omega⟩
        obtain ⟨q, hq⟩ : ∃ q, q = k / 2 := ⟨_, rfl⟩
        have hq2 : (k : Int) / 2 = (q : Int) := by omega
        have hix : (15 : Int) - (q : Int) = ((15 - q : Nat) : Int) := by omega
        have hbyte := HBy.out wr w.heap.size (range_belowR HH5.out.ra HH5.out.la hbw) (15 - q) (by omega)
        have hcs : wr.cell? ⟨w3.heap.size, k, none⟩ = some (.string (ps.getD k ByteArray.empty)) := by
          rw [hbw.cell (p := ⟨w3.heap.size, k, none⟩) HST5.out.lt]
          exact HST5.out.cells k (by rw [HPL.out]; omega)
        have hdg := HDG.out k hlt
        rw [hdg, ← hq] at hcs
        have hq15 : q ≤ 15 := by omega
        clear hq
        have hby := (a.getD (15 - q) 0).toNat_lt
        generalize (a.getD (15 - q) 0) = c at hbyte hcs hby
        have HBW := Lib.hid hbw
        have hkI : (k : Int) < 32 := by omega
        clear hbw hdg
        rcases Nat.mod_two_eq_zero_or_one k with h2 | h2
        · rw [if_pos h2] at hcs
          have hm : (k : Int) % 2 = 0 := by omega
          have hnib := half_lo c
          have hidx := idx_hex (c.toNat % 16) (by omega)
          rw [show ((c.toNat % 16 : Nat) : Int) = (c.toNat : Int) % 16 by omega] at hidx
          generalize hexD (c.toNat % 16) = D at hcs hidx
          replace hcs : wr.cell? ⟨w3.heap.size, k, none⟩ = some (.string (ByteArray.mk #[D])) := hcs
          go_wp2_with fail
          have hk34 : (k : Int) < 34 := by omega
          refine wp_region_held_drew (S := (fun W : World => W.cell? ⟨w3.heap.size, k, none⟩ = some (.string (ByteArray.mk #[D])) ∧ Below w5.heap.size w5 W)) (by kernel_rfl) ⟨hcs, HBW.out.drew⟩ (fun hHeld => ?_)
          refine wpAnyH_take (i := 0) (oi := ({ dst := some 86, op := Go.Op.move (Go.Operand.tmp 7), type := 27, pos := "law.go:87", after := #[], guard := none } : Oper)) (v := .slice (some ⟨w3.heap.size, 0, none⟩) 34 34) rfl (by kernel_rfl) (by kernel_rfl) (by kernel_rfl) (fun _ _ _ h => h) (Or.inl ⟨by rfl, fun w' _ => ?_⟩) hHeld ?_
          · go_simp
          simp only [Act.put, List.setIfInBounds_toArray, List.set_cons_zero, List.set_cons_succ]
          refine wpAnyH_take (i := 1) (oi := ({ dst := some 87, op := Go.Op.move (Go.Operand.tmp 8), type := 3, pos := "law.go:87", after := #[], guard := none } : Oper)) (v := .int .i64 k) rfl (by kernel_rfl) (by kernel_rfl) (by kernel_rfl) (fun _ _ _ h => h) (Or.inl ⟨by rfl, fun w' _ => ?_⟩) hHeld ?_
          · go_simp
          simp only [Act.put, List.setIfInBounds_toArray, List.set_cons_zero, List.set_cons_succ]
          refine wpAnyH_take (i := 2) (oi := ({ dst := some 88, op := Go.Op.indexAddr 27 (Go.Operand.tmp 86) (Go.Operand.tmp 87), type := 0, pos := "law.go:87", after := #[{ on := 0, ground := Go.Ground.data }, { on := 1, ground := Go.Ground.data }], guard := none } : Oper)) (v := .pointer (some ⟨w3.heap.size, k, none⟩)) rfl (by kernel_rfl) (by kernel_rfl) (by kernel_rfl) (fun _ _ _ h => h) (Or.inl ⟨by rfl, fun w' _ => ?_⟩) hHeld ?_
          · go_simp
          simp only [Act.put, List.setIfInBounds_toArray, List.set_cons_zero, List.set_cons_succ]
          refine wpAnyH_take (i := 3) (oi := ({ dst := some 89, op := Go.Op.load 9 (Go.Operand.tmp 88), type := 9, pos := "law.go:87", after := #[{ on := 2, ground := Go.Ground.data }], guard := none } : Oper)) (v := .string (ByteArray.mk #[D])) rfl (by kernel_rfl) (by kernel_rfl) (by kernel_rfl) (fun _ _ _ h => h) (Or.inl ⟨by rfl, fun w' hS' => ?_⟩) hHeld ?_
          · have hcell := hS'.1
            go_simp
          simp only [Act.put, List.setIfInBounds_toArray, List.set_cons_zero, List.set_cons_succ]
          refine wpAnyH_take (i := 4) (oi := ({ dst := some 90, op := Go.Op.move (Go.Operand.tmp 9), type := 5, pos := "law.go:87", after := #[], guard := none } : Oper)) (v := .int .u8 ((c.toNat : Int) % 16)) rfl (by kernel_rfl) (by kernel_rfl) (by kernel_rfl) (fun _ _ _ h => h) (Or.inl ⟨by rfl, fun w' _ => ?_⟩) hHeld ?_
          · go_simp
          simp only [Act.put, List.setIfInBounds_toArray, List.set_cons_zero, List.set_cons_succ]
          refine wpAnyH_take (i := 5) (oi := ({ dst := some 91, op := Go.Op.index 9 (Go.Operand.const (Go.Value.string { data := #[48, 49, 50, 51, 52, 53, 54, 55, 56, 57, 97, 98, 99, 100, 101, 102] })) (Go.Operand.tmp 90), type := 5, pos := "law.go:87", after := #[{ on := 4, ground := Go.Ground.data }], guard := none } : Oper)) (v := .int .u8 D.toNat) rfl (by kernel_rfl) (by kernel_rfl) (by kernel_rfl) (fun _ _ _ h => h) (Or.inl ⟨by rfl, fun w' _ => ?_⟩) hHeld ?_
          · go_simp
          simp only [Act.put, List.setIfInBounds_toArray, List.set_cons_zero, List.set_cons_succ]
          refine wpAnyH_ready (rs := [6]) (by kernel_rfl) (by simp) ?_
          refine AllReadyH.cons (o := ({ dst := some 92, op := Go.Op.buildSlice 30 1 #[(0, Go.Operand.tmp 91)], type := 30, pos := "law.go:87", after := #[{ on := 5, ground := Go.Ground.data }], guard := none } : Oper)) rfl (fun K hK => ?_) AllReadyH.nil
          go_simp
          have hba : Below wr.drew.heap.size wr.drew (wr.drew.alloc (.cells #[.int .u8 D.toNat] 5)) := (Below.refl _ _).alloc (Nat.le_refl _) _
          refine hK.out _ _ ⟨(hba.cell (p := ⟨w3.heap.size, k, none⟩) (Nat.lt_of_lt_of_le HST5.out.lt HBW.out.size)).trans hHeld.1, hHeld.2.trans (hba.mono hHeld.2.size)⟩ (fun hHeld1 => ?_)
          clear hK K
          have hcv : (convert 30 9 (.slice (some ⟨wr.heap.size, 0, none⟩) 1 1)).run Tryd.prog (wr.alloc (.cells #[.int .u8 D.toNat] 5)).drew = .ok (.string (ByteArray.mk #[D])) (wr.alloc (.cells #[.int .u8 D.toNat] 5)).drew :=
            run_convert_bytes_back (P := Tryd.prog) (wr.alloc (.cells #[.int .u8 D.toNat] 5)).drew 30 9 5 ⟨wr.heap.size, 0, none⟩ 1 [D] Tryd.underlying30 Tryd.underlying5 Tryd.underlying9 (fun j hj => by
              rw [Addr.add_lit, Nat.zero_add]
              match j, hj with
              | 0, _ => exact World.cell?_alloc_mark ..)
          refine wpAnyH_ready (rs := [7]) (by kernel_rfl) (by simp) ?_
          refine AllReadyH.cons (o := ({ dst := some 93, op := Go.Op.convert 30 9 (Go.Operand.tmp 92), type := 9, pos := "law.go:87", after := #[{ on := 6, ground := Go.Ground.data }], guard := none } : Oper)) rfl (fun K hK => ?_) AllReadyH.nil
          go_simp
          refine hK.out _ _ hHeld1 (fun hHeld2 => ?_)
          clear hK K
          refine wpAnyH_take (i := 8) (oi := ({ dst := some 94, op := Go.Op.binOp Go.BinOp.neq 9 (Go.Operand.tmp 89) (Go.Operand.tmp 93) 9, type := 4, pos := "law.go:87", after := #[{ on := 3, ground := Go.Ground.data }, { on := 7, ground := Go.Ground.data }], guard := none } : Oper)) (v := .bool false) rfl (by kernel_rfl) (by kernel_rfl) (by kernel_rfl) (fun _ _ _ h => h) (Or.inl ⟨by rfl, fun w' _ => ?_⟩) hHeld2 ?_
          · go_simp
          simp only [Act.put, List.setIfInBounds_toArray, List.set_cons_zero, List.set_cons_succ]
          refine wpAnyH_done (by kernel_rfl) ?_ _
          have HBn := Lib.hid hHeld2.2
          clear hHeld hHeld1 hHeld2 hba hcv
          go_wp2_with fail
          go_roundg g
          case measure => omega
          case rel => exact ⟨k + 1, by go_num, by omega, HBn.out⟩
        · rw [if_neg (by omega)] at hcs
          have hm : (k : Int) % 2 = 1 := by omega
          have hnib := half_hi2 c
          have hidx := idx_hex (c.toNat / 16) (by omega)
          rw [show ((c.toNat / 16 : Nat) : Int) = (c.toNat : Int) / 16 by omega] at hidx
          generalize hexD (c.toNat / 16) = D at hcs hidx
          replace hcs : wr.cell? ⟨w3.heap.size, k, none⟩ = some (.string (ByteArray.mk #[D])) := hcs
          go_wp2_with fail
          have hk34 : (k : Int) < 34 := by omega
          refine wp_region_held_drew (S := (fun W : World => W.cell? ⟨w3.heap.size, k, none⟩ = some (.string (ByteArray.mk #[D])) ∧ Below w5.heap.size w5 W)) (by kernel_rfl) ⟨hcs, HBW.out.drew⟩ (fun hHeld => ?_)
          refine wpAnyH_take (i := 0) (oi := ({ dst := some 86, op := Go.Op.move (Go.Operand.tmp 7), type := 27, pos := "law.go:87", after := #[], guard := none } : Oper)) (v := .slice (some ⟨w3.heap.size, 0, none⟩) 34 34) rfl (by kernel_rfl) (by kernel_rfl) (by kernel_rfl) (fun _ _ _ h => h) (Or.inl ⟨by rfl, fun w' _ => ?_⟩) hHeld ?_
          · go_simp
          simp only [Act.put, List.setIfInBounds_toArray, List.set_cons_zero, List.set_cons_succ]
          refine wpAnyH_take (i := 1) (oi := ({ dst := some 87, op := Go.Op.move (Go.Operand.tmp 8), type := 3, pos := "law.go:87", after := #[], guard := none } : Oper)) (v := .int .i64 k) rfl (by kernel_rfl) (by kernel_rfl) (by kernel_rfl) (fun _ _ _ h => h) (Or.inl ⟨by rfl, fun w' _ => ?_⟩) hHeld ?_
          · go_simp
          simp only [Act.put, List.setIfInBounds_toArray, List.set_cons_zero, List.set_cons_succ]
          refine wpAnyH_take (i := 2) (oi := ({ dst := some 88, op := Go.Op.indexAddr 27 (Go.Operand.tmp 86) (Go.Operand.tmp 87), type := 0, pos := "law.go:87", after := #[{ on := 0, ground := Go.Ground.data }, { on := 1, ground := Go.Ground.data }], guard := none } : Oper)) (v := .pointer (some ⟨w3.heap.size, k, none⟩)) rfl (by kernel_rfl) (by kernel_rfl) (by kernel_rfl) (fun _ _ _ h => h) (Or.inl ⟨by rfl, fun w' _ => ?_⟩) hHeld ?_
          · go_simp
          simp only [Act.put, List.setIfInBounds_toArray, List.set_cons_zero, List.set_cons_succ]
          refine wpAnyH_take (i := 3) (oi := ({ dst := some 89, op := Go.Op.load 9 (Go.Operand.tmp 88), type := 9, pos := "law.go:87", after := #[{ on := 2, ground := Go.Ground.data }], guard := none } : Oper)) (v := .string (ByteArray.mk #[D])) rfl (by kernel_rfl) (by kernel_rfl) (by kernel_rfl) (fun _ _ _ h => h) (Or.inl ⟨by rfl, fun w' hS' => ?_⟩) hHeld ?_
          · have hcell := hS'.1
            go_simp
          simp only [Act.put, List.setIfInBounds_toArray, List.set_cons_zero, List.set_cons_succ]
          refine wpAnyH_take (i := 4) (oi := ({ dst := some 90, op := Go.Op.move (Go.Operand.tmp 9), type := 5, pos := "law.go:87", after := #[], guard := none } : Oper)) (v := .int .u8 ((c.toNat : Int) / 16)) rfl (by kernel_rfl) (by kernel_rfl) (by kernel_rfl) (fun _ _ _ h => h) (Or.inl ⟨by rfl, fun w' _ => ?_⟩) hHeld ?_
          · go_simp
          simp only [Act.put, List.setIfInBounds_toArray, List.set_cons_zero, List.set_cons_succ]
          refine wpAnyH_take (i := 5) (oi := ({ dst := some 91, op := Go.Op.index 9 (Go.Operand.const (Go.Value.string { data := #[48, 49, 50, 51, 52, 53, 54, 55, 56, 57, 97, 98, 99, 100, 101, 102] })) (Go.Operand.tmp 90), type := 5, pos := "law.go:87", after := #[{ on := 4, ground := Go.Ground.data }], guard := none } : Oper)) (v := .int .u8 D.toNat) rfl (by kernel_rfl) (by kernel_rfl) (by kernel_rfl) (fun _ _ _ h => h) (Or.inl ⟨by rfl, fun w' _ => ?_⟩) hHeld ?_
          · go_simp
          simp only [Act.put, List.setIfInBounds_toArray, List.set_cons_zero, List.set_cons_succ]
          refine wpAnyH_ready (rs := [6]) (by kernel_rfl) (by simp) ?_
          refine AllReadyH.cons (o := ({ dst := some 92, op := Go.Op.buildSlice 30 1 #[(0, Go.Operand.tmp 91)], type := 30, pos := "law.go:87", after := #[{ on := 5, ground := Go.Ground.data }], guard := none } : Oper)) rfl (fun K hK => ?_) AllReadyH.nil
          go_simp
          have hba : Below wr.drew.heap.size wr.drew (wr.drew.alloc (.cells #[.int .u8 D.toNat] 5)) := (Below.refl _ _).alloc (Nat.le_refl _) _
          refine hK.out _ _ ⟨(hba.cell (p := ⟨w3.heap.size, k, none⟩) (Nat.lt_of_lt_of_le HST5.out.lt HBW.out.size)).trans hHeld.1, hHeld.2.trans (hba.mono hHeld.2.size)⟩ (fun hHeld1 => ?_)
          clear hK K
          have hcv : (convert 30 9 (.slice (some ⟨wr.heap.size, 0, none⟩) 1 1)).run Tryd.prog (wr.alloc (.cells #[.int .u8 D.toNat] 5)).drew = .ok (.string (ByteArray.mk #[D])) (wr.alloc (.cells #[.int .u8 D.toNat] 5)).drew :=
            run_convert_bytes_back (P := Tryd.prog) (wr.alloc (.cells #[.int .u8 D.toNat] 5)).drew 30 9 5 ⟨wr.heap.size, 0, none⟩ 1 [D] Tryd.underlying30 Tryd.underlying5 Tryd.underlying9 (fun j hj => by
              rw [Addr.add_lit, Nat.zero_add]
              match j, hj with
              | 0, _ => exact World.cell?_alloc_mark ..)
          refine wpAnyH_ready (rs := [7]) (by kernel_rfl) (by simp) ?_
          refine AllReadyH.cons (o := ({ dst := some 93, op := Go.Op.convert 30 9 (Go.Operand.tmp 92), type := 9, pos := "law.go:87", after := #[{ on := 6, ground := Go.Ground.data }], guard := none } : Oper)) rfl (fun K hK => ?_) AllReadyH.nil
          go_simp
          refine hK.out _ _ hHeld1 (fun hHeld2 => ?_)
          clear hK K
          refine wpAnyH_take (i := 8) (oi := ({ dst := some 94, op := Go.Op.binOp Go.BinOp.neq 9 (Go.Operand.tmp 89) (Go.Operand.tmp 93) 9, type := 4, pos := "law.go:87", after := #[{ on := 3, ground := Go.Ground.data }, { on := 7, ground := Go.Ground.data }], guard := none } : Oper)) (v := .bool false) rfl (by kernel_rfl) (by kernel_rfl) (by kernel_rfl) (fun _ _ _ h => h) (Or.inl ⟨by rfl, fun w' _ => ?_⟩) hHeld2 ?_
          · go_simp
          simp only [Act.put, List.setIfInBounds_toArray, List.set_cons_zero, List.set_cons_succ]
          refine wpAnyH_done (by kernel_rfl) ?_ _
          have HBn := Lib.hid hHeld2.2
          clear hHeld hHeld1 hHeld2 hba hcv
          go_wp2_with fail
          go_roundg g
          case measure => omega
          case rel => exact ⟨k + 1, by go_num, by omega, HBn.out⟩
      · have hkI : ¬ (k : Int) < 32 := by omega
        have HBe := Lib.hid (HH5.out.below.trans (hbw.mono HH5.out.below.size))
        clear hbw
        go_wp2_with fail
        go_ret
        exact ⟨rfl, HBe.out⟩
  · have hpd := HPD.out
    rw [HS4.out h4] at hpd
    obtain ⟨p0, p1, p2, p3, hps, hdd⟩ := six_of hpd HD4.out
    replace hps : ps = [p0, p1, p2, p3, ByteArray.mk #[105, 110, 45, 97, 100, 100, 114], ByteArray.mk #[97, 114, 112, 97]] := hps
    subst hps
    have h0 : RvT w w.heap.size (w.heap.size + 1) c1 c2 w3.heap.size [p0, p1, p2, p3, ByteArray.mk #[105, 110, 45, 97, 100, 100, 114], ByteArray.mk #[97, 114, 112, 97]] w4 := ⟨HH4.out, HST.out.lt, HST.out.cells⟩
    have c5 : w4.cell? ⟨w3.heap.size, 5, none⟩ = some (.string (ByteArray.mk #[97, 114, 112, 97])) := h0.cells 5 (by simp)
    have hjn : jn ([p3, p2, p1, p0].map (·.data.toList)) = txt a := by rw [hdd]; exact HTJ.out h4
    have HJN := Lib.hid hjn
    have H0 := Lib.hid h0
    have h4w := H4.out w4
    rw [h4] at h4w
    clear hpd hdd hjn h0 HST HPD
    go_wp2_with (first
      | (refine wpList_load_agg rfl 23 (.tmp 2) rfl ⟨w.heap.size, 0, none⟩ rfl c1.toArray _ HRA.out hu rfl HSa.out ?_; go_simp)
      | (refine wpList_load_agg rfl 23 (.tmp 3) rfl ⟨w.heap.size + 1, 0, none⟩ rfl c2.toArray _ HRB.out hu rfl HSb.out ?_; go_simp))
    refine h4w.mono ?_
    rintro e w5 ⟨rfl, hb5⟩
    have h5 : RvT w w.heap.size (w.heap.size + 1) c1 c2 w3.heap.size [p0, p1, p2, p3, ByteArray.mk #[105, 110, 45, 97, 100, 100, 114], ByteArray.mk #[97, 114, 112, 97]] w5 := H0.out.step hb5
    clear hb5 h4w c5
    go_wp2_with fail
    refine wp_region_held_drew (S := RvT w w.heap.size (w.heap.size + 1) c1 c2 w3.heap.size [p0, p1, p2, p3, ByteArray.mk #[105, 110, 45, 97, 100, 100, 114], ByteArray.mk #[97, 114, 112, 97]]) (by kernel_rfl) h5.drew (fun hHeld => ?_)
    refine wpAnyH_take (i := 0) (oi := ({ dst := some 36, op := Go.Op.move (Go.Operand.tmp 7), type := 27, pos := "law.go:80", after := #[], guard := none } : Oper)) (v := .slice (some ⟨w3.heap.size, 0, none⟩) 6 6) rfl (by kernel_rfl) (by kernel_rfl) (by kernel_rfl) (fun _ _ _ h => h) (Or.inl ⟨by rfl, fun w' _ => ?_⟩) hHeld ?_
    · go_simp
    simp only [Act.put, List.setIfInBounds_toArray, List.set_cons_zero, List.set_cons_succ]
    refine wpAnyH_take (i := 1) (oi := ({ dst := some 37, op := Go.Op.call { callee := Go.Callee.builtin Go.Builtin.len, args := #[Go.Operand.tmp 36], argTypes := #[27] }, type := 3, pos := "law.go:80", after := #[{ on := 0, ground := Go.Ground.data }], guard := none } : Oper)) (v := .int .i64 6) rfl (by kernel_rfl) (by kernel_rfl) (by kernel_rfl) (fun _ _ _ h => h) (Or.inl ⟨by rfl, fun w' _ => ?_⟩) hHeld ?_
    · go_simp
    simp only [Act.put, List.setIfInBounds_toArray, List.set_cons_zero, List.set_cons_succ]
    refine wpAnyH_take (i := 2) (oi := ({ dst := some 38, op := Go.Op.binOp Go.BinOp.eql 3 (Go.Operand.tmp 37) (Go.Operand.const (Go.Value.int Go.IntKind.i64 6)) 3, type := 4, pos := "law.go:80", after := #[{ on := 1, ground := Go.Ground.data }], guard := none } : Oper)) (v := .bool true) rfl (by kernel_rfl) (by kernel_rfl) (by kernel_rfl) (fun _ _ _ h => h) (Or.inl ⟨by rfl, fun w' _ => ?_⟩) hHeld ?_
    · go_simp
    simp only [Act.put, List.setIfInBounds_toArray, List.set_cons_zero, List.set_cons_succ]
    refine wpAnyH_take (i := 3) (oi := ({ dst := some 39, op := Go.Op.move (Go.Operand.tmp 38), type := 4, pos := "law.go:80", after := #[{ on := 2, ground := Go.Ground.data }], guard := none } : Oper)) (v := .bool true) rfl (by kernel_rfl) (by kernel_rfl) (by kernel_rfl) (fun _ _ _ h => h) (Or.inl ⟨by rfl, fun w' _ => ?_⟩) hHeld ?_
    · go_simp
    simp only [Act.put, List.setIfInBounds_toArray, List.set_cons_zero, List.set_cons_succ]
    refine wpAnyH_take (i := 4) (oi := ({ dst := some 40, op := Go.Op.move (Go.Operand.tmp 7), type := 27, pos := "law.go:80", after := #[{ on := 3, ground := Go.Ground.guard }], guard := some (3, true) } : Oper)) (v := .slice (some ⟨w3.heap.size, 0, none⟩) 6 6) rfl (by kernel_rfl) (by kernel_rfl) (by kernel_rfl) (fun _ _ _ h => h) (Or.inl ⟨by rfl, fun w' _ => ?_⟩) hHeld ?_
    · go_simp
    simp only [Act.put, List.setIfInBounds_toArray, List.set_cons_zero, List.set_cons_succ]
    refine wpAnyH_take (i := 5) (oi := ({ dst := some 41, op := Go.Op.indexAddr 27 (Go.Operand.tmp 40) (Go.Operand.const (Go.Value.int Go.IntKind.i64 4)), type := 0, pos := "law.go:80", after := #[{ on := 4, ground := Go.Ground.data }, { on := 3, ground := Go.Ground.guard }], guard := some (3, true) } : Oper)) (v := .pointer (some ⟨w3.heap.size, 4, none⟩)) rfl (by kernel_rfl) (by kernel_rfl) (by kernel_rfl) (fun _ _ _ h => h) (Or.inl ⟨by rfl, fun w' _ => ?_⟩) hHeld ?_
    · go_simp
    simp only [Act.put, List.setIfInBounds_toArray, List.set_cons_zero, List.set_cons_succ]
    refine wpAnyH_take (i := 6) (oi := ({ dst := some 42, op := Go.Op.load 9 (Go.Operand.tmp 41), type := 9, pos := "law.go:80", after := #[{ on := 5, ground := Go.Ground.data }, { on := 3, ground := Go.Ground.guard }], guard := some (3, true) } : Oper)) (v := .string (ByteArray.mk #[105, 110, 45, 97, 100, 100, 114])) rfl (by kernel_rfl) (by kernel_rfl) (by kernel_rfl) (fun _ _ _ h => h) (Or.inl ⟨by rfl, fun w' hS' => ?_⟩) hHeld ?_
    · have hcell : w'.cell? ⟨w3.heap.size, 4, none⟩ = some (.string (ByteArray.mk #[105, 110, 45, 97, 100, 100, 114])) := hS'.cells 4 (by simp)
      go_simp
    simp only [Act.put, List.setIfInBounds_toArray, List.set_cons_zero, List.set_cons_succ]
    refine wpAnyH_take (i := 7) (oi := ({ dst := some 43, op := Go.Op.binOp Go.BinOp.eql 9 (Go.Operand.tmp 42) (Go.Operand.const (Go.Value.string { data := #[105, 110, 45, 97, 100, 100, 114] })) 9, type := 4, pos := "law.go:80", after := #[{ on := 6, ground := Go.Ground.data }, { on := 3, ground := Go.Ground.guard }], guard := some (3, true) } : Oper)) (v := .bool true) rfl (by kernel_rfl) (by kernel_rfl) (by kernel_rfl) (fun _ _ _ h => h) (Or.inl ⟨by rfl, fun w' _ => ?_⟩) hHeld ?_
    · go_simp
    simp only [Act.put, List.setIfInBounds_toArray, List.set_cons_zero, List.set_cons_succ]
    refine wpAnyH_take (i := 8) (oi := ({ dst := some 44, op := Go.Op.pick (Go.Operand.tmp 39) (Go.Operand.tmp 43) (Go.Operand.const (Go.Value.bool false)), type := 4, pos := "law.go:80", after := #[{ on := 3, ground := Go.Ground.data }, { on := 7, ground := Go.Ground.data }], guard := none } : Oper)) (v := .bool true) rfl (by kernel_rfl) (by kernel_rfl) (by kernel_rfl) (fun _ _ _ h => h) (Or.inl ⟨by rfl, fun w' _ => ?_⟩) hHeld ?_
    · go_simp
    simp only [Act.put, List.setIfInBounds_toArray, List.set_cons_zero, List.set_cons_succ]
    refine wpAnyH_take (i := 9) (oi := ({ dst := some 45, op := Go.Op.move (Go.Operand.tmp 44), type := 4, pos := "law.go:80", after := #[{ on := 8, ground := Go.Ground.data }, { on := 3, ground := Go.Ground.chain }], guard := none } : Oper)) (v := .bool true) rfl (by kernel_rfl) (by kernel_rfl) (by kernel_rfl) (fun _ _ _ h => h) (Or.inl ⟨by rfl, fun w' _ => ?_⟩) hHeld ?_
    · go_simp
    simp only [Act.put, List.setIfInBounds_toArray, List.set_cons_zero, List.set_cons_succ]
    refine wpAnyH_take (i := 10) (oi := ({ dst := some 46, op := Go.Op.move (Go.Operand.tmp 7), type := 27, pos := "law.go:80", after := #[{ on := 9, ground := Go.Ground.guard }], guard := some (9, true) } : Oper)) (v := .slice (some ⟨w3.heap.size, 0, none⟩) 6 6) rfl (by kernel_rfl) (by kernel_rfl) (by kernel_rfl) (fun _ _ _ h => h) (Or.inl ⟨by rfl, fun w' _ => ?_⟩) hHeld ?_
    · go_simp
    simp only [Act.put, List.setIfInBounds_toArray, List.set_cons_zero, List.set_cons_succ]
    refine wpAnyH_take (i := 11) (oi := ({ dst := some 47, op := Go.Op.indexAddr 27 (Go.Operand.tmp 46) (Go.Operand.const (Go.Value.int Go.IntKind.i64 3)), type := 0, pos := "law.go:80", after := #[{ on := 10, ground := Go.Ground.data }, { on := 9, ground := Go.Ground.guard }], guard := some (9, true) } : Oper)) (v := .pointer (some ⟨w3.heap.size, 3, none⟩)) rfl (by kernel_rfl) (by kernel_rfl) (by kernel_rfl) (fun _ _ _ h => h) (Or.inl ⟨by rfl, fun w' _ => ?_⟩) hHeld ?_
    · go_simp
    simp only [Act.put, List.setIfInBounds_toArray, List.set_cons_zero, List.set_cons_succ]
    refine wpAnyH_take (i := 12) (oi := ({ dst := some 48, op := Go.Op.load 9 (Go.Operand.tmp 47), type := 9, pos := "law.go:80", after := #[{ on := 11, ground := Go.Ground.data }, { on := 9, ground := Go.Ground.guard }], guard := some (9, true) } : Oper)) (v := .string p3) rfl (by kernel_rfl) (by kernel_rfl) (by kernel_rfl) (fun _ _ _ h => h) (Or.inl ⟨by rfl, fun w' hS' => ?_⟩) hHeld ?_
    · have hcell : w'.cell? ⟨w3.heap.size, 3, none⟩ = some (.string p3) := hS'.cells 3 (by simp)
      go_simp
    simp only [Act.put, List.setIfInBounds_toArray, List.set_cons_zero, List.set_cons_succ]
    refine wpAnyH_take (i := 13) (oi := ({ dst := some 49, op := Go.Op.move (Go.Operand.tmp 7), type := 27, pos := "law.go:80", after := #[{ on := 9, ground := Go.Ground.guard }], guard := some (9, true) } : Oper)) (v := .slice (some ⟨w3.heap.size, 0, none⟩) 6 6) rfl (by kernel_rfl) (by kernel_rfl) (by kernel_rfl) (fun _ _ _ h => h) (Or.inl ⟨by rfl, fun w' _ => ?_⟩) hHeld ?_
    · go_simp
    simp only [Act.put, List.setIfInBounds_toArray, List.set_cons_zero, List.set_cons_succ]
    refine wpAnyH_take (i := 14) (oi := ({ dst := some 50, op := Go.Op.indexAddr 27 (Go.Operand.tmp 49) (Go.Operand.const (Go.Value.int Go.IntKind.i64 2)), type := 0, pos := "law.go:80", after := #[{ on := 13, ground := Go.Ground.data }, { on := 9, ground := Go.Ground.guard }], guard := some (9, true) } : Oper)) (v := .pointer (some ⟨w3.heap.size, 2, none⟩)) rfl (by kernel_rfl) (by kernel_rfl) (by kernel_rfl) (fun _ _ _ h => h) (Or.inl ⟨by rfl, fun w' _ => ?_⟩) hHeld ?_
    · go_simp
    simp only [Act.put, List.setIfInBounds_toArray, List.set_cons_zero, List.set_cons_succ]
    refine wpAnyH_take (i := 15) (oi := ({ dst := some 51, op := Go.Op.load 9 (Go.Operand.tmp 50), type := 9, pos := "law.go:80", after := #[{ on := 14, ground := Go.Ground.data }, { on := 9, ground := Go.Ground.guard }], guard := some (9, true) } : Oper)) (v := .string p2) rfl (by kernel_rfl) (by kernel_rfl) (by kernel_rfl) (fun _ _ _ h => h) (Or.inl ⟨by rfl, fun w' hS' => ?_⟩) hHeld ?_
    · have hcell : w'.cell? ⟨w3.heap.size, 2, none⟩ = some (.string p2) := hS'.cells 2 (by simp)
      go_simp
    simp only [Act.put, List.setIfInBounds_toArray, List.set_cons_zero, List.set_cons_succ]
    refine wpAnyH_take (i := 16) (oi := ({ dst := some 52, op := Go.Op.move (Go.Operand.tmp 7), type := 27, pos := "law.go:80", after := #[{ on := 9, ground := Go.Ground.guard }], guard := some (9, true) } : Oper)) (v := .slice (some ⟨w3.heap.size, 0, none⟩) 6 6) rfl (by kernel_rfl) (by kernel_rfl) (by kernel_rfl) (fun _ _ _ h => h) (Or.inl ⟨by rfl, fun w' _ => ?_⟩) hHeld ?_
    · go_simp
    simp only [Act.put, List.setIfInBounds_toArray, List.set_cons_zero, List.set_cons_succ]
    refine wpAnyH_take (i := 17) (oi := ({ dst := some 53, op := Go.Op.indexAddr 27 (Go.Operand.tmp 52) (Go.Operand.const (Go.Value.int Go.IntKind.i64 1)), type := 0, pos := "law.go:80", after := #[{ on := 16, ground := Go.Ground.data }, { on := 9, ground := Go.Ground.guard }], guard := some (9, true) } : Oper)) (v := .pointer (some ⟨w3.heap.size, 1, none⟩)) rfl (by kernel_rfl) (by kernel_rfl) (by kernel_rfl) (fun _ _ _ h => h) (Or.inl ⟨by rfl, fun w' _ => ?_⟩) hHeld ?_
    · go_simp
    simp only [Act.put, List.setIfInBounds_toArray, List.set_cons_zero, List.set_cons_succ]
    refine wpAnyH_take (i := 18) (oi := ({ dst := some 54, op := Go.Op.load 9 (Go.Operand.tmp 53), type := 9, pos := "law.go:80", after := #[{ on := 17, ground := Go.Ground.data }, { on := 9, ground := Go.Ground.guard }], guard := some (9, true) } : Oper)) (v := .string p1) rfl (by kernel_rfl) (by kernel_rfl) (by kernel_rfl) (fun _ _ _ h => h) (Or.inl ⟨by rfl, fun w' hS' => ?_⟩) hHeld ?_
    · have hcell : w'.cell? ⟨w3.heap.size, 1, none⟩ = some (.string p1) := hS'.cells 1 (by simp)
      go_simp
    simp only [Act.put, List.setIfInBounds_toArray, List.set_cons_zero, List.set_cons_succ]
    refine wpAnyH_take (i := 19) (oi := ({ dst := some 55, op := Go.Op.move (Go.Operand.tmp 7), type := 27, pos := "law.go:80", after := #[{ on := 9, ground := Go.Ground.guard }], guard := some (9, true) } : Oper)) (v := .slice (some ⟨w3.heap.size, 0, none⟩) 6 6) rfl (by kernel_rfl) (by kernel_rfl) (by kernel_rfl) (fun _ _ _ h => h) (Or.inl ⟨by rfl, fun w' _ => ?_⟩) hHeld ?_
    · go_simp
    simp only [Act.put, List.setIfInBounds_toArray, List.set_cons_zero, List.set_cons_succ]
    refine wpAnyH_take (i := 20) (oi := ({ dst := some 56, op := Go.Op.indexAddr 27 (Go.Operand.tmp 55) (Go.Operand.const (Go.Value.int Go.IntKind.i64 0)), type := 0, pos := "law.go:80", after := #[{ on := 19, ground := Go.Ground.data }, { on := 9, ground := Go.Ground.guard }], guard := some (9, true) } : Oper)) (v := .pointer (some ⟨w3.heap.size, 0, none⟩)) rfl (by kernel_rfl) (by kernel_rfl) (by kernel_rfl) (fun _ _ _ h => h) (Or.inl ⟨by rfl, fun w' _ => ?_⟩) hHeld ?_
    · go_simp
    simp only [Act.put, List.setIfInBounds_toArray, List.set_cons_zero, List.set_cons_succ]
    refine wpAnyH_take (i := 21) (oi := ({ dst := some 57, op := Go.Op.load 9 (Go.Operand.tmp 56), type := 9, pos := "law.go:80", after := #[{ on := 20, ground := Go.Ground.data }, { on := 9, ground := Go.Ground.guard }], guard := some (9, true) } : Oper)) (v := .string p0) rfl (by kernel_rfl) (by kernel_rfl) (by kernel_rfl) (fun _ _ _ h => h) (Or.inl ⟨by rfl, fun w' hS' => ?_⟩) hHeld ?_
    · have hcell : w'.cell? ⟨w3.heap.size, 0, none⟩ = some (.string p0) := hS'.cells 0 (by simp)
      go_simp
    simp only [Act.put, List.setIfInBounds_toArray, List.set_cons_zero, List.set_cons_succ]
    refine wpAnyH_take (i := 24) (oi := ({ dst := some 60, op := Go.Op.load 23 (Go.Operand.tmp 2), type := 23, pos := "law.go:80", after := #[{ on := 9, ground := Go.Ground.guard }], guard := some (9, true) } : Oper)) (v := .agg c1.toArray) rfl (by kernel_rfl) (by kernel_rfl) (by kernel_rfl) (fun _ _ _ h => h) (yieldsIf_load_mid (by rfl) _ _ rfl _ _ rfl _ _ (fun w h => h.base.ra) hu rfl hS) hHeld ?_
    simp only [Act.put, List.setIfInBounds_toArray, List.set_cons_zero, List.set_cons_succ]
    refine wpAnyH_ready (rs := [22]) (by kernel_rfl) (by simp) ?_
    refine AllReadyH.cons (o := ({ dst := some 58, op := Go.Op.buildSlice 27 4 #[(0, Go.Operand.tmp 48), (1, Go.Operand.tmp 51), (2, Go.Operand.tmp 54), (3, Go.Operand.tmp 57)], type := 27, pos := "law.go:80", after := #[{ on := 12, ground := Go.Ground.data }, { on := 15, ground := Go.Ground.data }, { on := 18, ground := Go.Ground.data }, { on := 21, ground := Go.Ground.data }, { on := 9, ground := Go.Ground.guard }], guard := some (9, true) } : Oper)) rfl (fun K hK => ?_) AllReadyH.nil
    go_simp
    have hba : Below w5.drew.heap.size w5.drew (w5.drew.alloc (.cells #[.string p3, .string p2, .string p1, .string p0] 9)) := (Below.refl _ _).alloc (Nat.le_refl _) _
    refine hK.out _ _ (hHeld.step hba) (fun hHeld1 => ?_)
    clear hK K
    have hst4 : Strs (w5.drew.alloc (.cells #[.string p3, .string p2, .string p1, .string p0] 9)) w5.drew.heap.size [p3, p2, p1, p0] := ⟨by rw [World.size_alloc]; omega, fun j hj => by
      rw [Nat.zero_add, World.cell?_alloc_mark]
      match j, hj with
      | 0, _ => rfl
      | 1, _ => rfl
      | 2, _ => rfl
      | 3, _ => rfl
      ⟩
    have hjoin := join_e w5.drew.heap.size 4 [p3, p2, p1, p0] _ hHeld1.base.env.env hst4 (by simp) (by simp) (by rw [HJN.out]; have := HTL.out; omega)
    rw [HJN.out, show ({ data := (txt a).toArray } : ByteArray) = tb (txt a) from rfl] at hjoin
    refine wpAnyH_ready (rs := [23]) (by kernel_rfl) (by simp) ?_
    refine AllReadyH.cons (o := ({ dst := some 59, op := Go.Op.call { callee := Go.Callee.value (Go.Operand.func 11), args := #[Go.Operand.tmp 58], argTypes := #[27] }, type := 9, pos := "law.go:80", after := #[{ on := 22, ground := Go.Ground.data }, { on := 9, ground := Go.Ground.chain }, { on := 9, ground := Go.Ground.guard }], guard := some (9, true) } : Oper)) rfl (fun K hK => ?_) AllReadyH.nil
    go_simp
    go_at_call 11
    refine hjoin.mono ?_
    rintro e' w6 ⟨rfl, hb6, _⟩
    refine hK.out _ _ (hHeld1.step hb6) (fun hHeld2 => ?_)
    clear hK K
    have hprt := HPr.out w6 hHeld2.base.env
    refine wpAnyH_ready (rs := [25]) (by kernel_rfl) (by simp) ?_
    refine AllReadyH.cons (o := ({ dst := some 61, op := Go.Op.call { callee := Go.Callee.value (Go.Operand.func 7), args := #[Go.Operand.tmp 60], argTypes := #[23] }, type := 9, pos := "law.go:80", after := #[{ on := 24, ground := Go.Ground.data }, { on := 23, ground := Go.Ground.chain }, { on := 9, ground := Go.Ground.guard }], guard := some (9, true) } : Oper)) rfl (fun K hK => ?_) AllReadyH.nil
    go_simp
    go_at_call 7
    refine hprt.mono ?_
    rintro e' w7 ⟨rfl, hb7⟩
    refine hK.out _ _ (hHeld2.step hb7) (fun hHeld3 => ?_)
    clear hK K
    generalize tb (txt a) = T
    refine wpAnyH_take (i := 26) (oi := ({ dst := some 62, op := Go.Op.binOp Go.BinOp.eql 9 (Go.Operand.tmp 59) (Go.Operand.tmp 61) 9, type := 4, pos := "law.go:80", after := #[{ on := 23, ground := Go.Ground.data }, { on := 25, ground := Go.Ground.data }, { on := 9, ground := Go.Ground.guard }], guard := some (9, true) } : Oper)) (v := .bool true) rfl (by kernel_rfl) (by kernel_rfl) (by kernel_rfl) (fun _ _ _ h => h) (Or.inl ⟨by rfl, fun w' _ => ?_⟩) hHeld3 ?_
    · go_simp
    simp only [Act.put, List.setIfInBounds_toArray, List.set_cons_zero, List.set_cons_succ]
    refine wpAnyH_take (i := 27) (oi := ({ dst := some 63, op := Go.Op.pick (Go.Operand.tmp 45) (Go.Operand.tmp 62) (Go.Operand.const (Go.Value.bool false)), type := 4, pos := "law.go:80", after := #[{ on := 9, ground := Go.Ground.data }, { on := 26, ground := Go.Ground.data }], guard := none } : Oper)) (v := .bool true) rfl (by kernel_rfl) (by kernel_rfl) (by kernel_rfl) (fun _ _ _ h => h) (Or.inl ⟨by rfl, fun w' _ => ?_⟩) hHeld3 ?_
    · go_simp
    simp only [Act.put, List.setIfInBounds_toArray, List.set_cons_zero, List.set_cons_succ]
    refine wpAnyH_take (i := 28) (oi := ({ dst := some 4, op := Go.Op.assign (Go.Operand.tmp 63), type := 4, pos := "law.go:80", after := #[{ on := 27, ground := Go.Ground.data }, { on := 25, ground := Go.Ground.chain }, { on := 0, ground := Go.Ground.phase }, { on := 1, ground := Go.Ground.phase }, { on := 2, ground := Go.Ground.phase }, { on := 3, ground := Go.Ground.phase }, { on := 4, ground := Go.Ground.phase }, { on := 5, ground := Go.Ground.phase }, { on := 6, ground := Go.Ground.phase }, { on := 7, ground := Go.Ground.phase }, { on := 8, ground := Go.Ground.phase }, { on := 9, ground := Go.Ground.phase }, { on := 10, ground := Go.Ground.phase }, { on := 11, ground := Go.Ground.phase }, { on := 12, ground := Go.Ground.phase }, { on := 13, ground := Go.Ground.phase }, { on := 14, ground := Go.Ground.phase }, { on := 15, ground := Go.Ground.phase }, { on := 16, ground := Go.Ground.phase }, { on := 17, ground := Go.Ground.phase }, { on := 18, ground := Go.Ground.phase }, { on := 19, ground := Go.Ground.phase }, { on := 20, ground := Go.Ground.phase }, { on := 21, ground := Go.Ground.phase }, { on := 22, ground := Go.Ground.phase }, { on := 23, ground := Go.Ground.phase }, { on := 24, ground := Go.Ground.phase }, { on := 25, ground := Go.Ground.phase }, { on := 26, ground := Go.Ground.phase }, { on := 27, ground := Go.Ground.phase }], guard := none } : Oper)) (v := .bool true) rfl (by kernel_rfl) (by kernel_rfl) (by kernel_rfl) (fun _ _ _ h => h) (Or.inl ⟨by rfl, fun w' _ => ?_⟩) hHeld3 ?_
    · go_simp
    simp only [Act.put, List.setIfInBounds_toArray, List.set_cons_zero, List.set_cons_succ]
    refine wpAnyH_done (by kernel_rfl) ?_ _
    go_wp2
    go_ret
    exact ⟨rfl, hHeld3.base.below⟩
end Go.Proofs.YtclfmokdjmnjcaaDoor
