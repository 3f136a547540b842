/-
  The walk of HostsBack: lines come back from their text. Conditions: the text is one that may come in; the library's variables hold what their initialisers lay.
-/
import Derived.Test.YtclfmokdjmnjcaaGreatDoorHostsPrn
import Derived.Deep.RegionHeld3
import Derived.BigQuiet
namespace Go.Proofs.YtclfmokdjmnjcaaGreatDoor
open Go.RowKit

/-- a line's cells as they lie -/
theorem HRow.parts {w : World} {b : Nat} {l : List HV} {k : Nat} {x : HV} (h : HRow w b l) (hx : l[k]? = some x) :
    (∀ W : World, Below w.heap.size w W → W.rangeAt b (k * 17) (bvs x.h.addr)) ∧ (∀ W : World, Below w.heap.size w W → W.cell? ⟨b, k * 17 + 16, none⟩ = some (.slice (some ⟨x.g, 0, none⟩) x.h.names.length x.c)) ∧
    ∀ (j : Nat) (t : List UInt8), x.h.names[j]? = some t → ∀ W : World, Below w.heap.size w W → W.cell? ⟨x.g, j, none⟩ = some (.string (tb t)) := by
  have hm := List.mem_of_getElem? hx
  have hl := h.ns.len x hm
  have hld := h.load hx
  refine ⟨fun W hb j v hj => ?_, fun W hb => ?_, fun j t ht W hb => ?_⟩
  · have hjl := (List.getElem?_eq_some_iff.1 hj).1
    have h1 := hld j v (by
      show x.cells[j]? = some v
      unfold HV.cells
      rw [List.getElem?_append_left hjl]; exact hj)
    rw [Addr.add_lit] at h1
    exact (hb.cell (p := ⟨b, k * 17 + j, none⟩) h.lt).trans h1
  · have h1 := hld 16 _ (HV.nm hl)
    rw [Addr.add_lit] at h1
    exact (hb.cell (p := ⟨b, k * 17 + 16, none⟩) h.lt).trans h1
  · have hst := h.ns.names x hm
    have hjl := (List.getElem?_eq_some_iff.1 ht).1
    have h1 := hst.2 j (by rw [List.length_map]; exact hjl)
    rw [Nat.zero_add, List.getD_eq_getElem?_getD, List.getElem?_map, ht] at h1
    exact (hb.cell (p := ⟨x.g, j, none⟩) hst.1).trans h1
set_option maxRecDepth 100000 in
set_option maxHeartbeats 4000000 in
theorem hostsBack_walk (s : ByteArray) (hs : s.size ≤ 140737488351232) (w : World) (he : AEnv w) :
    Calls Tryz.prog 3 #[.string s] w fun e w' => e = .returned (.bool true) ∧ Below w.heap.size w w' := by
  have HE := Lib.hid he
  have huH := Tryz.underlying31
  have huA := Tryz.underlying28
  have HL := Lib.hid (fun W => light_e s W (by omega))
  clear he
  go_enter Tryz.func3, Tryz.ntmps3
  go_wp2_with fail
  refine (fit6_e _ HE.out).mono ?_
  rintro e w1 ⟨rfl, hb1⟩
  have HB1 := Lib.hid hb1
  have HE1 := Lib.hid (HE.out.below hb1)
  clear hb1
  by_cases hs2 : s.size ≤ 2000
  · rw [decide_eq_true hs2] at HL
    have hsl : s.data.toList.length ≤ 2000 := by rw [← Lib.size_eq]; exact hs2
    have hp := hparse_e s w1 HE1.out (by omega)
    go_wp2_with (go_at_call 10; refine (HL.out _).mono ?_; rintro e w2 ⟨rfl, hw⟩; obtain rfl := hw.symm)
    refine hp.mono ?_
    rintro e w2 ⟨l, v, hpd, rfl, hv, hb2⟩
    obtain ⟨A, c, rfl, hA⟩ := hv.form
    have hll : l.length ≤ 64 := by have := hpd.len; rwa [List.length_map] at this
    have hpl := print_len hpd hsl
    have HB2 := Lib.hid (HB1.out.trans (hb2.mono HB1.out.size))
    have HE2 := Lib.hid (HE1.out.below hb2)
    have HA2 := Lib.hid hA
    have HGd : Hid (∀ g ∈ l.map (·.h), Good g) := Lib.hid hpd.good
    have hpr := hprint_e A c l.length l w2 HE2.out hA rfl hll hpl
    clear hp hv hb2 hpd hA
    go_wp2_with fail
    refine hpr.mono ?_
    rintro e w3 ⟨rfl, hb3⟩
    have HB3 := Lib.hid (HB2.out.trans (hb3.mono HB2.out.size))
    have HE3 := Lib.hid (HE2.out.below hb3)
    have HA3 := Lib.hid (HA2.out.below hb3)
    have hp2 := hparse_e (tb (printL (l.map (·.h)))) w3 HE3.out (by show (printL (l.map (·.h))).toArray.size ≤ _; rw [List.size_toArray]; omega)
    clear hpr hb3 hpl
    go_wp2_with fail
    refine hp2.mono ?_
    rintro e w4 ⟨z, vz, hpz, rfl, hvz, hb4⟩
    have hzz : z.map (·.h) = l.map (·.h) := by
      rw [tb_data] at hpz
      rw [pd_print HGd.out hpz, List.take_of_length_le (by rw [List.length_map]; omega)]
    have hzl : z.length = l.length := by
      have := congrArg List.length hzz
      rwa [List.length_map, List.length_map] at this
    obtain ⟨Az, cz, hvz', hAz⟩ := hvz.form
    rw [hzl] at hvz'
    subst hvz'
    have HB4 := Lib.hid (HB3.out.trans (hb4.mono HB3.out.size))
    have HA4 := Lib.hid (HA3.out.below hb4)
    have HZ4 := Lib.hid hAz
    have HZZ := Lib.hid hzz
    have HZL := Lib.hid hzl
    have hllI : ¬ ((64 : Int) < (l.length : Int)) := by omega
    clear hp2 hpz hvz hb4 hAz hzz hzl
    go_wp2_with fail
    go_loopg [29, 5, 6] l.length (fun gk i _ _ wr => ∃ k : Nat, i = .int .i64 k ∧ k + gk = l.length ∧ Hid (Below w4.heap.size w4 wr))
    case atStart => exact ⟨0, rfl, by simp, Lib.hid (Below.refl _ _)⟩
    case round =>
      obtain ⟨k, rfl, hk, HBW⟩ := hrel
      by_cases hlt : k < l.length
      · obtain ⟨g, rfl⟩ : ∃ g, gk = g + 1 := ⟨gk - 1, by omega⟩
        obtain ⟨x, hx⟩ : ∃ x, l[k]? = some x := ⟨_, List.getElem?_eq_getElem hlt⟩
        obtain ⟨y, hy⟩ : ∃ y, z[k]? = some y := ⟨_, List.getElem?_eq_getElem (by have := HZL.out; omega)⟩
        have hxy : y.h = x.h := by
          have := congrArg (fun l => l[k]?) HZZ.out
          simp only [List.getElem?_map, hx, hy, Option.map_some, Option.some.injEq] at this
          exact this
        obtain ⟨b, rfl, hrl⟩ := HA4.out (List.ne_nil_of_mem (List.mem_of_getElem? hx))
        obtain ⟨bz, rfl, hrz⟩ := HZ4.out (List.ne_nil_of_mem (List.mem_of_getElem? hy))
        have hgx := hrl.ns.good x (List.mem_of_getElem? hx)
        have hsm : x.h.names.length ≤ 4294967281 := hrl.ns.small x (List.mem_of_getElem? hx)
        have hkI : (k : Int) < (l.length : Int) := by omega
        obtain ⟨hX1, hX2, hX3⟩ := hrl.parts hx
        obtain ⟨hY1, hY2, hY3⟩ := hrz.parts hy
        rw [hxy] at hY1 hY2 hY3
        have hne : ¬ x.h.names = [] := hgx.ne
        have hn0 : ¬ (x.h.names.length : Int) = 0 := by
          have := List.length_pos_iff.2 hgx.ne
          omega
        have hsa : (Tryz.prog.info? 28).map (·.size) = some (bvs x.h.addr).length := sizeBv hgx.len
        have HQ : ∀ W : World, (Op.equalIn 10000 28 (.agg (bvs x.h.addr).toArray) (.agg (bvs x.h.addr).toArray)).run Tryz.prog W = .ok true W := fun W => by rw [run_eq_addr W hgx.len hgx.len, beq_self_eq_true]
        generalize bvs x.h.addr = ra at hX1 hY1 hsa HQ
        generalize x.g = gx at hX2 hX3
        generalize y.g = gy at hY2 hY3
        generalize x.c = px at hX2
        generalize y.c = py at hY2
        generalize x.h.names = ns at hX2 hX3 hY2 hY3 hn0 hsm hne
        have HX1 := Lib.hid hX1
        have HX2 := Lib.hid hX2
        have HX3 := Lib.hid hX3
        have HY1 := Lib.hid hY1
        have HY2 := Lib.hid hY2
        have HY3 := Lib.hid hY3
        have HSL := Lib.hid hsa
        have HBD := Lib.hid HBW.out.drew
        have c16 := HX2.out _ HBD.out
        clear hrl hrz hgx hX1 hX2 hX3 hY1 hY2 hY3 hsa hxy hx hy
        go_wp2_with fail
        refine wp_region_held_drew (S := (fun W : World => Below w4.heap.size w4 W)) (by kernel_rfl) HBD.out (fun hHeld => ?_)
        refine wpAnyH_take (i := 0) (oi := ({ dst := some 32, op := Go.Op.move (Go.Operand.tmp 3), type := 24, pos := "law.go:35", after := #[], guard := none } : Oper)) (v := .slice (some ⟨b, 0, none⟩) l.length c) rfl (by kernel_rfl) (by kernel_rfl) (by kernel_rfl) (fun _ _ _ h => h) (Or.inl ⟨by rfl, fun w' _ => ?_⟩) hHeld ?_
        · go_simp
        simp only [Act.put, List.setIfInBounds_toArray, List.set_cons_zero, List.set_cons_succ]
        refine wpAnyH_take (i := 1) (oi := ({ dst := some 33, op := Go.Op.move (Go.Operand.tmp 5), type := 3, pos := "law.go:35", after := #[], guard := none } : Oper)) (v := .int .i64 k) rfl (by kernel_rfl) (by kernel_rfl) (by kernel_rfl) (fun _ _ _ h => h) (Or.inl ⟨by rfl, fun w' _ => ?_⟩) hHeld ?_
        · go_simp
        simp only [Act.put, List.setIfInBounds_toArray, List.set_cons_zero, List.set_cons_succ]
        refine wpAnyH_take (i := 2) (oi := ({ dst := some 34, op := Go.Op.indexAddr 24 (Go.Operand.tmp 32) (Go.Operand.tmp 33), type := 0, pos := "law.go:35", after := #[{ on := 0, ground := Go.Ground.data }, { on := 1, ground := Go.Ground.data }], guard := none } : Oper)) (v := .pointer (some ⟨b, k * 17, none⟩)) rfl (by kernel_rfl) (by kernel_rfl) (by kernel_rfl) (fun _ _ _ h => h) (Or.inl ⟨by rfl, fun w' _ => ?_⟩) hHeld ?_
        · go_simp
        simp only [Act.put, List.setIfInBounds_toArray, List.set_cons_zero, List.set_cons_succ]
        refine wpAnyH_take (i := 3) (oi := ({ dst := some 35, op := Go.Op.fieldAddr 31 (Go.Operand.tmp 34) 0, type := 0, pos := "law.go:35", after := #[{ on := 2, ground := Go.Ground.data }], guard := none } : Oper)) (v := .pointer (some ⟨b, k * 17, none⟩)) rfl (by kernel_rfl) (by kernel_rfl) (by kernel_rfl) (fun _ _ _ h => h) (Or.inl ⟨by rfl, fun w' _ => ?_⟩) hHeld ?_
        · go_simp
        simp only [Act.put, List.setIfInBounds_toArray, List.set_cons_zero, List.set_cons_succ]
        refine wpAnyH_take (i := 4) (oi := ({ dst := some 36, op := Go.Op.load 28 (Go.Operand.tmp 35), type := 28, pos := "law.go:35", after := #[{ on := 3, ground := Go.Ground.data }], guard := none } : Oper)) (v := .agg ra.toArray) rfl (by kernel_rfl) (by kernel_rfl) (by kernel_rfl) (fun _ _ _ h => h) (yieldsIf_load_mid (by rfl) _ _ rfl _ _ rfl _ _ (fun W h => HX1.out W h) huA rfl HSL.out) hHeld ?_
        simp only [Act.put, List.setIfInBounds_toArray, List.set_cons_zero, List.set_cons_succ]
        refine wpAnyH_take (i := 5) (oi := ({ dst := some 37, op := Go.Op.move (Go.Operand.tmp 4), type := 24, pos := "law.go:35", after := #[], guard := none } : Oper)) (v := .slice (some ⟨bz, 0, none⟩) l.length cz) rfl (by kernel_rfl) (by kernel_rfl) (by kernel_rfl) (fun _ _ _ h => h) (Or.inl ⟨by rfl, fun w' _ => ?_⟩) hHeld ?_
        · go_simp
        simp only [Act.put, List.setIfInBounds_toArray, List.set_cons_zero, List.set_cons_succ]
        refine wpAnyH_take (i := 6) (oi := ({ dst := some 38, op := Go.Op.move (Go.Operand.tmp 5), type := 3, pos := "law.go:35", after := #[], guard := none } : Oper)) (v := .int .i64 k) rfl (by kernel_rfl) (by kernel_rfl) (by kernel_rfl) (fun _ _ _ h => h) (Or.inl ⟨by rfl, fun w' _ => ?_⟩) hHeld ?_
        · go_simp
        simp only [Act.put, List.setIfInBounds_toArray, List.set_cons_zero, List.set_cons_succ]
        refine wpAnyH_take (i := 7) (oi := ({ dst := some 39, op := Go.Op.indexAddr 24 (Go.Operand.tmp 37) (Go.Operand.tmp 38), type := 0, pos := "law.go:35", after := #[{ on := 5, ground := Go.Ground.data }, { on := 6, ground := Go.Ground.data }], guard := none } : Oper)) (v := .pointer (some ⟨bz, k * 17, none⟩)) rfl (by kernel_rfl) (by kernel_rfl) (by kernel_rfl) (fun _ _ _ h => h) (Or.inl ⟨by rfl, fun w' _ => ?_⟩) hHeld ?_
        · go_simp
        simp only [Act.put, List.setIfInBounds_toArray, List.set_cons_zero, List.set_cons_succ]
        refine wpAnyH_take (i := 8) (oi := ({ dst := some 40, op := Go.Op.fieldAddr 31 (Go.Operand.tmp 39) 0, type := 0, pos := "law.go:35", after := #[{ on := 7, ground := Go.Ground.data }], guard := none } : Oper)) (v := .pointer (some ⟨bz, k * 17, none⟩)) rfl (by kernel_rfl) (by kernel_rfl) (by kernel_rfl) (fun _ _ _ h => h) (Or.inl ⟨by rfl, fun w' _ => ?_⟩) hHeld ?_
        · go_simp
        simp only [Act.put, List.setIfInBounds_toArray, List.set_cons_zero, List.set_cons_succ]
        refine wpAnyH_take (i := 9) (oi := ({ dst := some 41, op := Go.Op.load 28 (Go.Operand.tmp 40), type := 28, pos := "law.go:35", after := #[{ on := 8, ground := Go.Ground.data }], guard := none } : Oper)) (v := .agg ra.toArray) rfl (by kernel_rfl) (by kernel_rfl) (by kernel_rfl) (fun _ _ _ h => h) (yieldsIf_load_mid (by rfl) _ _ rfl _ _ rfl _ _ (fun W h => HY1.out W h) huA rfl HSL.out) hHeld ?_
        simp only [Act.put, List.setIfInBounds_toArray, List.set_cons_zero, List.set_cons_succ]
        refine wpAnyH_take (i := 10) (oi := ({ dst := some 42, op := Go.Op.binOp Go.BinOp.neq 28 (Go.Operand.tmp 36) (Go.Operand.tmp 41) 28, type := 4, pos := "law.go:35", after := #[{ on := 4, ground := Go.Ground.data }, { on := 9, ground := Go.Ground.data }], guard := none } : Oper)) (v := .bool false) rfl (by kernel_rfl) (by kernel_rfl) (by kernel_rfl) (fun _ _ _ h => h) (Or.inl ⟨by rfl, fun w' _ => ?_⟩) hHeld ?_
        · go_simp
        simp only [Act.put, List.setIfInBounds_toArray, List.set_cons_zero, List.set_cons_succ]
        refine wpAnyH_take (i := 11) (oi := ({ dst := some 43, op := Go.Op.move (Go.Operand.tmp 42), type := 4, pos := "law.go:35", after := #[{ on := 10, ground := Go.Ground.data }], guard := none } : Oper)) (v := .bool false) rfl (by kernel_rfl) (by kernel_rfl) (by kernel_rfl) (fun _ _ _ h => h) (Or.inl ⟨by rfl, fun w' _ => ?_⟩) hHeld ?_
        · go_simp
        simp only [Act.put, List.setIfInBounds_toArray, List.set_cons_zero, List.set_cons_succ]
        refine wpAnyH_take (i := 12) (oi := ({ dst := some 44, op := Go.Op.move (Go.Operand.tmp 3), type := 24, pos := "law.go:35", after := #[{ on := 11, ground := Go.Ground.guard }], guard := some (11, false) } : Oper)) (v := .slice (some ⟨b, 0, none⟩) l.length c) rfl (by kernel_rfl) (by kernel_rfl) (by kernel_rfl) (fun _ _ _ h => h) (Or.inl ⟨by rfl, fun w' _ => ?_⟩) hHeld ?_
        · go_simp
        simp only [Act.put, List.setIfInBounds_toArray, List.set_cons_zero, List.set_cons_succ]
        refine wpAnyH_take (i := 13) (oi := ({ dst := some 45, op := Go.Op.move (Go.Operand.tmp 5), type := 3, pos := "law.go:35", after := #[{ on := 11, ground := Go.Ground.guard }], guard := some (11, false) } : Oper)) (v := .int .i64 k) rfl (by kernel_rfl) (by kernel_rfl) (by kernel_rfl) (fun _ _ _ h => h) (Or.inl ⟨by rfl, fun w' _ => ?_⟩) hHeld ?_
        · go_simp
        simp only [Act.put, List.setIfInBounds_toArray, List.set_cons_zero, List.set_cons_succ]
        refine wpAnyH_take (i := 14) (oi := ({ dst := some 46, op := Go.Op.indexAddr 24 (Go.Operand.tmp 44) (Go.Operand.tmp 45), type := 0, pos := "law.go:35", after := #[{ on := 12, ground := Go.Ground.data }, { on := 13, ground := Go.Ground.data }, { on := 11, ground := Go.Ground.guard }], guard := some (11, false) } : Oper)) (v := .pointer (some ⟨b, k * 17, none⟩)) rfl (by kernel_rfl) (by kernel_rfl) (by kernel_rfl) (fun _ _ _ h => h) (Or.inl ⟨by rfl, fun w' _ => ?_⟩) hHeld ?_
        · go_simp
        simp only [Act.put, List.setIfInBounds_toArray, List.set_cons_zero, List.set_cons_succ]
        refine wpAnyH_take (i := 15) (oi := ({ dst := some 47, op := Go.Op.fieldAddr 31 (Go.Operand.tmp 46) 1, type := 0, pos := "law.go:35", after := #[{ on := 14, ground := Go.Ground.data }, { on := 11, ground := Go.Ground.guard }], guard := some (11, false) } : Oper)) (v := .pointer (some ⟨b, k * 17 + 16, none⟩)) rfl (by kernel_rfl) (by kernel_rfl) (by kernel_rfl) (fun _ _ _ h => h) (Or.inl ⟨by rfl, fun w' _ => ?_⟩) hHeld ?_
        · go_simp
        simp only [Act.put, List.setIfInBounds_toArray, List.set_cons_zero, List.set_cons_succ]
        refine wpAnyH_take (i := 16) (oi := ({ dst := some 48, op := Go.Op.load 29 (Go.Operand.tmp 47), type := 29, pos := "law.go:35", after := #[{ on := 15, ground := Go.Ground.data }, { on := 11, ground := Go.Ground.guard }], guard := some (11, false) } : Oper)) (v := .slice (some ⟨gx, 0, none⟩) ns.length px) rfl (by kernel_rfl) (by kernel_rfl) (by kernel_rfl) (fun _ _ _ h => h) (Or.inl ⟨by rfl, fun w' hS' => ?_⟩) hHeld ?_
        · have hcell := HX2.out _ hS'
          go_simp
        simp only [Act.put, List.setIfInBounds_toArray, List.set_cons_zero, List.set_cons_succ]
        refine wpAnyH_take (i := 17) (oi := ({ dst := some 49, op := Go.Op.call { callee := Go.Callee.builtin Go.Builtin.len, args := #[Go.Operand.tmp 48], argTypes := #[29] }, type := 3, pos := "law.go:35", after := #[{ on := 16, ground := Go.Ground.data }, { on := 11, ground := Go.Ground.guard }], guard := some (11, false) } : Oper)) (v := .int .i64 ns.length) rfl (by kernel_rfl) (by kernel_rfl) (by kernel_rfl) (fun _ _ _ h => h) (Or.inl ⟨by rfl, fun w' _ => ?_⟩) hHeld ?_
        · go_simp
        simp only [Act.put, List.setIfInBounds_toArray, List.set_cons_zero, List.set_cons_succ]
        refine wpAnyH_take (i := 18) (oi := ({ dst := some 50, op := Go.Op.move (Go.Operand.tmp 4), type := 24, pos := "law.go:35", after := #[{ on := 11, ground := Go.Ground.guard }], guard := some (11, false) } : Oper)) (v := .slice (some ⟨bz, 0, none⟩) l.length cz) rfl (by kernel_rfl) (by kernel_rfl) (by kernel_rfl) (fun _ _ _ h => h) (Or.inl ⟨by rfl, fun w' _ => ?_⟩) hHeld ?_
        · go_simp
        simp only [Act.put, List.setIfInBounds_toArray, List.set_cons_zero, List.set_cons_succ]
        refine wpAnyH_take (i := 19) (oi := ({ dst := some 51, op := Go.Op.move (Go.Operand.tmp 5), type := 3, pos := "law.go:35", after := #[{ on := 11, ground := Go.Ground.guard }], guard := some (11, false) } : Oper)) (v := .int .i64 k) rfl (by kernel_rfl) (by kernel_rfl) (by kernel_rfl) (fun _ _ _ h => h) (Or.inl ⟨by rfl, fun w' _ => ?_⟩) hHeld ?_
        · go_simp
        simp only [Act.put, List.setIfInBounds_toArray, List.set_cons_zero, List.set_cons_succ]
        refine wpAnyH_take (i := 20) (oi := ({ dst := some 52, op := Go.Op.indexAddr 24 (Go.Operand.tmp 50) (Go.Operand.tmp 51), type := 0, pos := "law.go:35", after := #[{ on := 18, ground := Go.Ground.data }, { on := 19, ground := Go.Ground.data }, { on := 11, ground := Go.Ground.guard }], guard := some (11, false) } : Oper)) (v := .pointer (some ⟨bz, k * 17, none⟩)) rfl (by kernel_rfl) (by kernel_rfl) (by kernel_rfl) (fun _ _ _ h => h) (Or.inl ⟨by rfl, fun w' _ => ?_⟩) hHeld ?_
        · go_simp
        simp only [Act.put, List.setIfInBounds_toArray, List.set_cons_zero, List.set_cons_succ]
        refine wpAnyH_take (i := 21) (oi := ({ dst := some 53, op := Go.Op.fieldAddr 31 (Go.Operand.tmp 52) 1, type := 0, pos := "law.go:35", after := #[{ on := 20, ground := Go.Ground.data }, { on := 11, ground := Go.Ground.guard }], guard := some (11, false) } : Oper)) (v := .pointer (some ⟨bz, k * 17 + 16, none⟩)) rfl (by kernel_rfl) (by kernel_rfl) (by kernel_rfl) (fun _ _ _ h => h) (Or.inl ⟨by rfl, fun w' _ => ?_⟩) hHeld ?_
        · go_simp
        simp only [Act.put, List.setIfInBounds_toArray, List.set_cons_zero, List.set_cons_succ]
        refine wpAnyH_take (i := 22) (oi := ({ dst := some 54, op := Go.Op.load 29 (Go.Operand.tmp 53), type := 29, pos := "law.go:35", after := #[{ on := 21, ground := Go.Ground.data }, { on := 11, ground := Go.Ground.guard }], guard := some (11, false) } : Oper)) (v := .slice (some ⟨gy, 0, none⟩) ns.length py) rfl (by kernel_rfl) (by kernel_rfl) (by kernel_rfl) (fun _ _ _ h => h) (Or.inl ⟨by rfl, fun w' hS' => ?_⟩) hHeld ?_
        · have hcell := HY2.out _ hS'
          go_simp
        simp only [Act.put, List.setIfInBounds_toArray, List.set_cons_zero, List.set_cons_succ]
        refine wpAnyH_take (i := 23) (oi := ({ dst := some 55, op := Go.Op.call { callee := Go.Callee.builtin Go.Builtin.len, args := #[Go.Operand.tmp 54], argTypes := #[29] }, type := 3, pos := "law.go:35", after := #[{ on := 22, ground := Go.Ground.data }, { on := 11, ground := Go.Ground.guard }], guard := some (11, false) } : Oper)) (v := .int .i64 ns.length) rfl (by kernel_rfl) (by kernel_rfl) (by kernel_rfl) (fun _ _ _ h => h) (Or.inl ⟨by rfl, fun w' _ => ?_⟩) hHeld ?_
        · go_simp
        simp only [Act.put, List.setIfInBounds_toArray, List.set_cons_zero, List.set_cons_succ]
        refine wpAnyH_take (i := 24) (oi := ({ dst := some 56, op := Go.Op.binOp Go.BinOp.neq 3 (Go.Operand.tmp 49) (Go.Operand.tmp 55) 3, type := 4, pos := "law.go:35", after := #[{ on := 17, ground := Go.Ground.data }, { on := 23, ground := Go.Ground.data }, { on := 11, ground := Go.Ground.guard }], guard := some (11, false) } : Oper)) (v := .bool false) rfl (by kernel_rfl) (by kernel_rfl) (by kernel_rfl) (fun _ _ _ h => h) (Or.inl ⟨by rfl, fun w' _ => ?_⟩) hHeld ?_
        · go_simp
        simp only [Act.put, List.setIfInBounds_toArray, List.set_cons_zero, List.set_cons_succ]
        refine wpAnyH_take (i := 25) (oi := ({ dst := some 57, op := Go.Op.pick (Go.Operand.tmp 43) (Go.Operand.const (Go.Value.bool true)) (Go.Operand.tmp 56), type := 4, pos := "law.go:35", after := #[{ on := 11, ground := Go.Ground.data }, { on := 24, ground := Go.Ground.data }], guard := none } : Oper)) (v := .bool false) rfl (by kernel_rfl) (by kernel_rfl) (by kernel_rfl) (fun _ _ _ h => h) (Or.inl ⟨by rfl, fun w' _ => ?_⟩) hHeld ?_
        · go_simp
        simp only [Act.put, List.setIfInBounds_toArray, List.set_cons_zero, List.set_cons_succ]
        refine wpAnyH_take (i := 26) (oi := ({ dst := some 58, op := Go.Op.move (Go.Operand.tmp 57), type := 4, pos := "law.go:35", after := #[{ on := 25, ground := Go.Ground.data }, { on := 11, ground := Go.Ground.chain }], guard := none } : Oper)) (v := .bool false) rfl (by kernel_rfl) (by kernel_rfl) (by kernel_rfl) (fun _ _ _ h => h) (Or.inl ⟨by rfl, fun w' _ => ?_⟩) hHeld ?_
        · go_simp
        simp only [Act.put, List.setIfInBounds_toArray, List.set_cons_zero, List.set_cons_succ]
        refine wpAnyH_take (i := 27) (oi := ({ dst := some 59, op := Go.Op.move (Go.Operand.tmp 3), type := 24, pos := "law.go:35", after := #[{ on := 26, ground := Go.Ground.guard }], guard := some (26, false) } : Oper)) (v := .slice (some ⟨b, 0, none⟩) l.length c) rfl (by kernel_rfl) (by kernel_rfl) (by kernel_rfl) (fun _ _ _ h => h) (Or.inl ⟨by rfl, fun w' _ => ?_⟩) hHeld ?_
        · go_simp
        simp only [Act.put, List.setIfInBounds_toArray, List.set_cons_zero, List.set_cons_succ]
        refine wpAnyH_take (i := 28) (oi := ({ dst := some 60, op := Go.Op.move (Go.Operand.tmp 5), type := 3, pos := "law.go:35", after := #[{ on := 26, ground := Go.Ground.guard }], guard := some (26, false) } : Oper)) (v := .int .i64 k) rfl (by kernel_rfl) (by kernel_rfl) (by kernel_rfl) (fun _ _ _ h => h) (Or.inl ⟨by rfl, fun w' _ => ?_⟩) hHeld ?_
        · go_simp
        simp only [Act.put, List.setIfInBounds_toArray, List.set_cons_zero, List.set_cons_succ]
        refine wpAnyH_take (i := 29) (oi := ({ dst := some 61, op := Go.Op.indexAddr 24 (Go.Operand.tmp 59) (Go.Operand.tmp 60), type := 0, pos := "law.go:35", after := #[{ on := 27, ground := Go.Ground.data }, { on := 28, ground := Go.Ground.data }, { on := 26, ground := Go.Ground.guard }], guard := some (26, false) } : Oper)) (v := .pointer (some ⟨b, k * 17, none⟩)) rfl (by kernel_rfl) (by kernel_rfl) (by kernel_rfl) (fun _ _ _ h => h) (Or.inl ⟨by rfl, fun w' _ => ?_⟩) hHeld ?_
        · go_simp
        simp only [Act.put, List.setIfInBounds_toArray, List.set_cons_zero, List.set_cons_succ]
        refine wpAnyH_take (i := 30) (oi := ({ dst := some 62, op := Go.Op.fieldAddr 31 (Go.Operand.tmp 61) 1, type := 0, pos := "law.go:35", after := #[{ on := 29, ground := Go.Ground.data }, { on := 26, ground := Go.Ground.guard }], guard := some (26, false) } : Oper)) (v := .pointer (some ⟨b, k * 17 + 16, none⟩)) rfl (by kernel_rfl) (by kernel_rfl) (by kernel_rfl) (fun _ _ _ h => h) (Or.inl ⟨by rfl, fun w' _ => ?_⟩) hHeld ?_
        · go_simp
        simp only [Act.put, List.setIfInBounds_toArray, List.set_cons_zero, List.set_cons_succ]
        refine wpAnyH_take (i := 31) (oi := ({ dst := some 63, op := Go.Op.load 29 (Go.Operand.tmp 62), type := 29, pos := "law.go:35", after := #[{ on := 30, ground := Go.Ground.data }, { on := 26, ground := Go.Ground.guard }], guard := some (26, false) } : Oper)) (v := .slice (some ⟨gx, 0, none⟩) ns.length px) rfl (by kernel_rfl) (by kernel_rfl) (by kernel_rfl) (fun _ _ _ h => h) (Or.inl ⟨by rfl, fun w' hS' => ?_⟩) hHeld ?_
        · have hcell := HX2.out _ hS'
          go_simp
        simp only [Act.put, List.setIfInBounds_toArray, List.set_cons_zero, List.set_cons_succ]
        refine wpAnyH_take (i := 32) (oi := ({ dst := some 64, op := Go.Op.call { callee := Go.Callee.builtin Go.Builtin.len, args := #[Go.Operand.tmp 63], argTypes := #[29] }, type := 3, pos := "law.go:35", after := #[{ on := 31, ground := Go.Ground.data }, { on := 26, ground := Go.Ground.guard }], guard := some (26, false) } : Oper)) (v := .int .i64 ns.length) rfl (by kernel_rfl) (by kernel_rfl) (by kernel_rfl) (fun _ _ _ h => h) (Or.inl ⟨by rfl, fun w' _ => ?_⟩) hHeld ?_
        · go_simp
        simp only [Act.put, List.setIfInBounds_toArray, List.set_cons_zero, List.set_cons_succ]
        refine wpAnyH_take (i := 33) (oi := ({ dst := some 65, op := Go.Op.binOp Go.BinOp.eql 3 (Go.Operand.tmp 64) (Go.Operand.const (Go.Value.int Go.IntKind.i64 0)) 3, type := 4, pos := "law.go:35", after := #[{ on := 32, ground := Go.Ground.data }, { on := 26, ground := Go.Ground.guard }], guard := some (26, false) } : Oper)) (v := .bool false) rfl (by kernel_rfl) (by kernel_rfl) (by kernel_rfl) (fun _ _ _ h => h) (Or.inl ⟨by rfl, fun w' _ => ?_⟩) hHeld ?_
        · go_simp <;> exact hne
        simp only [Act.put, List.setIfInBounds_toArray, List.set_cons_zero, List.set_cons_succ]
        refine wpAnyH_take (i := 34) (oi := ({ dst := some 66, op := Go.Op.pick (Go.Operand.tmp 58) (Go.Operand.const (Go.Value.bool true)) (Go.Operand.tmp 65), type := 4, pos := "law.go:35", after := #[{ on := 26, ground := Go.Ground.data }, { on := 33, ground := Go.Ground.data }], guard := none } : Oper)) (v := .bool false) rfl (by kernel_rfl) (by kernel_rfl) (by kernel_rfl) (fun _ _ _ h => h) (Or.inl ⟨by rfl, fun w' _ => ?_⟩) hHeld ?_
        · go_simp
        simp only [Act.put, List.setIfInBounds_toArray, List.set_cons_zero, List.set_cons_succ]
        refine wpAnyH_done (by kernel_rfl) ?_ _
        clear hHeld
        go_wp2_with fail
        go_loopg [73, 6] ns.length (fun gk i _ wr2 => ∃ j : Nat, i = .int .i64 j ∧ j + gk = ns.length ∧ Hid (Below w4.heap.size w4 wr2))
        case atStart => exact ⟨0, rfl, by simp, HBD⟩
        case round =>
          obtain ⟨j, rfl, hj, HBX⟩ := hrel
          by_cases hlt2 : j < ns.length
          · obtain ⟨g2, rfl⟩ : ∃ g', gk = g' + 1 := ⟨gk - 1, by omega⟩
            obtain ⟨t, ht⟩ : ∃ t, ns[j]? = some t := ⟨_, List.getElem?_eq_getElem hlt2⟩
            have hjI : (j : Int) < (ns.length : Int) := by omega
            have HTX := Lib.hid (HX3.out j t ht)
            have HTY := Lib.hid (HY3.out j t ht)
            have HBY := Lib.hid HBX.out.drew
            generalize tb t = tt at HTX HTY
            clear ht
            go_wp2_with fail
            refine wp_region_held_drew (S := (fun W : World => Below w4.heap.size w4 W)) (by kernel_rfl) HBY.out (fun hHeld => ?_)
            refine wpAnyH_take (i := 0) (oi := ({ dst := some 76, op := Go.Op.move (Go.Operand.tmp 3), type := 24, pos := "law.go:39", after := #[], guard := none } : Oper)) (v := .slice (some ⟨b, 0, none⟩) l.length c) rfl (by kernel_rfl) (by kernel_rfl) (by kernel_rfl) (fun _ _ _ h => h) (Or.inl ⟨by rfl, fun w' _ => ?_⟩) hHeld ?_
            · go_simp
            simp only [Act.put, List.setIfInBounds_toArray, List.set_cons_zero, List.set_cons_succ]
            refine wpAnyH_take (i := 1) (oi := ({ dst := some 77, op := Go.Op.move (Go.Operand.tmp 5), type := 3, pos := "law.go:39", after := #[], guard := none } : Oper)) (v := .int .i64 k) rfl (by kernel_rfl) (by kernel_rfl) (by kernel_rfl) (fun _ _ _ h => h) (Or.inl ⟨by rfl, fun w' _ => ?_⟩) hHeld ?_
            · go_simp
            simp only [Act.put, List.setIfInBounds_toArray, List.set_cons_zero, List.set_cons_succ]
            refine wpAnyH_take (i := 2) (oi := ({ dst := some 78, op := Go.Op.indexAddr 24 (Go.Operand.tmp 76) (Go.Operand.tmp 77), type := 0, pos := "law.go:39", after := #[{ on := 0, ground := Go.Ground.data }, { on := 1, ground := Go.Ground.data }], guard := none } : Oper)) (v := .pointer (some ⟨b, k * 17, none⟩)) rfl (by kernel_rfl) (by kernel_rfl) (by kernel_rfl) (fun _ _ _ h => h) (Or.inl ⟨by rfl, fun w' _ => ?_⟩) hHeld ?_
            · go_simp
            simp only [Act.put, List.setIfInBounds_toArray, List.set_cons_zero, List.set_cons_succ]
            refine wpAnyH_take (i := 3) (oi := ({ dst := some 79, op := Go.Op.fieldAddr 31 (Go.Operand.tmp 78) 1, type := 0, pos := "law.go:39", after := #[{ on := 2, ground := Go.Ground.data }], guard := none } : Oper)) (v := .pointer (some ⟨b, k * 17 + 16, none⟩)) rfl (by kernel_rfl) (by kernel_rfl) (by kernel_rfl) (fun _ _ _ h => h) (Or.inl ⟨by rfl, fun w' _ => ?_⟩) hHeld ?_
            · go_simp
            simp only [Act.put, List.setIfInBounds_toArray, List.set_cons_zero, List.set_cons_succ]
            refine wpAnyH_take (i := 4) (oi := ({ dst := some 80, op := Go.Op.load 29 (Go.Operand.tmp 79), type := 29, pos := "law.go:39", after := #[{ on := 3, ground := Go.Ground.data }], guard := none } : Oper)) (v := .slice (some ⟨gx, 0, none⟩) ns.length px) rfl (by kernel_rfl) (by kernel_rfl) (by kernel_rfl) (fun _ _ _ h => h) (Or.inl ⟨by rfl, fun w' hS' => ?_⟩) hHeld ?_
            · have hcell := HX2.out _ hS'
              go_simp
            simp only [Act.put, List.setIfInBounds_toArray, List.set_cons_zero, List.set_cons_succ]
            refine wpAnyH_take (i := 5) (oi := ({ dst := some 81, op := Go.Op.move (Go.Operand.tmp 6), type := 3, pos := "law.go:39", after := #[], guard := none } : Oper)) (v := .int .i64 j) rfl (by kernel_rfl) (by kernel_rfl) (by kernel_rfl) (fun _ _ _ h => h) (Or.inl ⟨by rfl, fun w' _ => ?_⟩) hHeld ?_
            · go_simp
            simp only [Act.put, List.setIfInBounds_toArray, List.set_cons_zero, List.set_cons_succ]
            refine wpAnyH_take (i := 6) (oi := ({ dst := some 82, op := Go.Op.indexAddr 29 (Go.Operand.tmp 80) (Go.Operand.tmp 81), type := 0, pos := "law.go:39", after := #[{ on := 4, ground := Go.Ground.data }, { on := 5, ground := Go.Ground.data }], guard := none } : Oper)) (v := .pointer (some ⟨gx, j, none⟩)) rfl (by kernel_rfl) (by kernel_rfl) (by kernel_rfl) (fun _ _ _ h => h) (Or.inl ⟨by rfl, fun w' _ => ?_⟩) hHeld ?_
            · go_simp
            simp only [Act.put, List.setIfInBounds_toArray, List.set_cons_zero, List.set_cons_succ]
            refine wpAnyH_take (i := 7) (oi := ({ dst := some 83, op := Go.Op.load 9 (Go.Operand.tmp 82), type := 9, pos := "law.go:39", after := #[{ on := 6, ground := Go.Ground.data }], guard := none } : Oper)) (v := .string tt) rfl (by kernel_rfl) (by kernel_rfl) (by kernel_rfl) (fun _ _ _ h => h) (Or.inl ⟨by rfl, fun w' hS' => ?_⟩) hHeld ?_
            · have hcell := HTX.out _ hS'
              go_simp
            simp only [Act.put, List.setIfInBounds_toArray, List.set_cons_zero, List.set_cons_succ]
            refine wpAnyH_take (i := 8) (oi := ({ dst := some 84, op := Go.Op.move (Go.Operand.tmp 4), type := 24, pos := "law.go:39", after := #[], guard := none } : Oper)) (v := .slice (some ⟨bz, 0, none⟩) l.length cz) rfl (by kernel_rfl) (by kernel_rfl) (by kernel_rfl) (fun _ _ _ h => h) (Or.inl ⟨by rfl, fun w' _ => ?_⟩) hHeld ?_
            · go_simp
            simp only [Act.put, List.setIfInBounds_toArray, List.set_cons_zero, List.set_cons_succ]
            refine wpAnyH_take (i := 9) (oi := ({ dst := some 85, op := Go.Op.move (Go.Operand.tmp 5), type := 3, pos := "law.go:39", after := #[], guard := none } : Oper)) (v := .int .i64 k) rfl (by kernel_rfl) (by kernel_rfl) (by kernel_rfl) (fun _ _ _ h => h) (Or.inl ⟨by rfl, fun w' _ => ?_⟩) hHeld ?_
            · go_simp
            simp only [Act.put, List.setIfInBounds_toArray, List.set_cons_zero, List.set_cons_succ]
            refine wpAnyH_take (i := 10) (oi := ({ dst := some 86, op := Go.Op.indexAddr 24 (Go.Operand.tmp 84) (Go.Operand.tmp 85), type := 0, pos := "law.go:39", after := #[{ on := 8, ground := Go.Ground.data }, { on := 9, ground := Go.Ground.data }], guard := none } : Oper)) (v := .pointer (some ⟨bz, k * 17, none⟩)) rfl (by kernel_rfl) (by kernel_rfl) (by kernel_rfl) (fun _ _ _ h => h) (Or.inl ⟨by rfl, fun w' _ => ?_⟩) hHeld ?_
            · go_simp
            simp only [Act.put, List.setIfInBounds_toArray, List.set_cons_zero, List.set_cons_succ]
            refine wpAnyH_take (i := 11) (oi := ({ dst := some 87, op := Go.Op.fieldAddr 31 (Go.Operand.tmp 86) 1, type := 0, pos := "law.go:39", after := #[{ on := 10, ground := Go.Ground.data }], guard := none } : Oper)) (v := .pointer (some ⟨bz, k * 17 + 16, none⟩)) rfl (by kernel_rfl) (by kernel_rfl) (by kernel_rfl) (fun _ _ _ h => h) (Or.inl ⟨by rfl, fun w' _ => ?_⟩) hHeld ?_
            · go_simp
            simp only [Act.put, List.setIfInBounds_toArray, List.set_cons_zero, List.set_cons_succ]
            refine wpAnyH_take (i := 12) (oi := ({ dst := some 88, op := Go.Op.load 29 (Go.Operand.tmp 87), type := 29, pos := "law.go:39", after := #[{ on := 11, ground := Go.Ground.data }], guard := none } : Oper)) (v := .slice (some ⟨gy, 0, none⟩) ns.length py) rfl (by kernel_rfl) (by kernel_rfl) (by kernel_rfl) (fun _ _ _ h => h) (Or.inl ⟨by rfl, fun w' hS' => ?_⟩) hHeld ?_
            · have hcell := HY2.out _ hS'
              go_simp
            simp only [Act.put, List.setIfInBounds_toArray, List.set_cons_zero, List.set_cons_succ]
            refine wpAnyH_take (i := 13) (oi := ({ dst := some 89, op := Go.Op.move (Go.Operand.tmp 6), type := 3, pos := "law.go:39", after := #[], guard := none } : Oper)) (v := .int .i64 j) rfl (by kernel_rfl) (by kernel_rfl) (by kernel_rfl) (fun _ _ _ h => h) (Or.inl ⟨by rfl, fun w' _ => ?_⟩) hHeld ?_
            · go_simp
            simp only [Act.put, List.setIfInBounds_toArray, List.set_cons_zero, List.set_cons_succ]
            refine wpAnyH_take (i := 14) (oi := ({ dst := some 90, op := Go.Op.indexAddr 29 (Go.Operand.tmp 88) (Go.Operand.tmp 89), type := 0, pos := "law.go:39", after := #[{ on := 12, ground := Go.Ground.data }, { on := 13, ground := Go.Ground.data }], guard := none } : Oper)) (v := .pointer (some ⟨gy, j, none⟩)) rfl (by kernel_rfl) (by kernel_rfl) (by kernel_rfl) (fun _ _ _ h => h) (Or.inl ⟨by rfl, fun w' _ => ?_⟩) hHeld ?_
            · go_simp
            simp only [Act.put, List.setIfInBounds_toArray, List.set_cons_zero, List.set_cons_succ]
            refine wpAnyH_take (i := 15) (oi := ({ dst := some 91, op := Go.Op.load 9 (Go.Operand.tmp 90), type := 9, pos := "law.go:39", after := #[{ on := 14, ground := Go.Ground.data }], guard := none } : Oper)) (v := .string tt) rfl (by kernel_rfl) (by kernel_rfl) (by kernel_rfl) (fun _ _ _ h => h) (Or.inl ⟨by rfl, fun w' hS' => ?_⟩) hHeld ?_
            · have hcell := HTY.out _ hS'
              go_simp
            simp only [Act.put, List.setIfInBounds_toArray, List.set_cons_zero, List.set_cons_succ]
            refine wpAnyH_take (i := 16) (oi := ({ dst := some 92, op := Go.Op.binOp Go.BinOp.neq 9 (Go.Operand.tmp 83) (Go.Operand.tmp 91) 9, type := 4, pos := "law.go:39", after := #[{ on := 7, ground := Go.Ground.data }, { on := 15, ground := Go.Ground.data }], guard := none } : Oper)) (v := .bool false) rfl (by kernel_rfl) (by kernel_rfl) (by kernel_rfl) (fun _ _ _ h => h) (Or.inl ⟨by rfl, fun w' _ => ?_⟩) hHeld ?_
            · go_simp
            simp only [Act.put, List.setIfInBounds_toArray, List.set_cons_zero, List.set_cons_succ]
            refine wpAnyH_done (by kernel_rfl) ?_ _
            clear hHeld
            go_wp2_with fail
            go_roundg g2
            case measure => omega
            case rel => exact ⟨j + 1, by go_num, by omega, HBY⟩
          · have hjI : ¬ (j : Int) < (ns.length : Int) := by omega
            go_wp2_with fail
            go_roundg g
            case measure => omega
            case rel => exact ⟨k + 1, by go_num, by omega, HBX⟩
      · have hkI : ¬ (k : Int) < (l.length : Int) := by omega
        have HBe := Lib.hid (HB4.out.trans (HBW.out.mono HB4.out.size))
        go_wp2_with fail
        go_ret
        exact ⟨rfl, HBe.out⟩
  · rw [decide_eq_false hs2] at HL
    go_wp2_with (go_at_call 10; refine (HL.out _).mono ?_; rintro e w2 ⟨rfl, hw⟩; obtain rfl := hw.symm)
    go_ret
    exact ⟨rfl, HB1.out⟩
end Go.Proofs.YtclfmokdjmnjcaaGreatDoor
