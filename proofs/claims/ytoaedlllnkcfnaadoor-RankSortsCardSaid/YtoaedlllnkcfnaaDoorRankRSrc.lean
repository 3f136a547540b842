/-
  The walk of the document's own answer Source: local addresses that lie in memory. Condition: sixteen bytes.
-/
import Derived.Test.YtoaedlllnkcfnaaDoorRankBet
import Derived.Test.YtoaedlllnkcfnaaDoorRankSrc
namespace Go.Proofs.YtoaedlllnkcfnaaDoor
open Go.RowKit

theorem mem_len {ls : List LV} (hls : ∀ x ∈ ls, x.addr.length = 16) {m : Nat} {z : LV} (h : ls[m]? = some z) : z.addr.length = 16 := hls z (List.mem_of_getElem? h)
set_option maxRecDepth 100000 in
set_option maxHeartbeats 8000000 in
theorem refSource_e (ls : List LV) (hls : ∀ x ∈ ls, x.addr.length = 16) (A : Option Addr) (cap : Nat) (t0 : List UInt8) (ht : t0.length = 16) (hn : ls.length < 1000000) (w : World) (hA : LocsAt w A ls) :
    Calls Tryd.prog 23 #[.slice A ls.length cap, .agg (bvs t0).toArray] w fun e w' => e = .returned (.tuple #[.agg ((srcA ls t0).getD lvZero).cells.toArray, .bool (srcA ls t0).isSome]) ∧ Below w.heap.size w w' := by
  have hSt := sizeBv ht
  rw [List.size_toArray] at hSt
  have hu := Tryd.underlying27
  have hul := Tryd.underlying42
  have i2 := fun W => four_e t0 ht W
  have hZ := lZeroAt
  have hZ1 : lvZero.cells.toArray.size = 18 := by rw [List.size_toArray]; exact LV.size rfl
  have hBet := fun (y z : LV) (hy : y.addr.length = 16) (hz : z.addr.length = 16) (W : World) => refBetter_e y z t0 hy hz ht W
  have hBc := fun (y z : LV) (hy : y.addr.length = 16) (hz : z.addr.length = 16) => better_cmp hy hz ht
  obtain ⟨tl, htl⟩ : ∃ tl, tl = bvs t0 := ⟨_, rfl⟩
  rw [← htl] at hSt i2 ⊢
  simp only [← htl] at hBet
  obtain ⟨Z, hZd⟩ : ∃ Z, Z = lvZero.cells.toArray := ⟨_, rfl⟩
  rw [← hZd] at hZ hZ1
  obtain ⟨st, hst⟩ : ∃ st : Nat → Option LV, ∀ k, st k = (ls.take k).foldl (srcStep t0) none := ⟨_, fun _ => rfl⟩
  have hst0 : st 0 = none := by rw [hst]; rfl
  have hstE : srcA ls t0 = st ls.length := by rw [hst, List.take_length]; rfl
  have hstS : ∀ k x, ls[k]? = some x → st (k + 1) = srcStep t0 (st k) x := fun k x h => by rw [hst, hst]; exact take_step ls t0 k x h
  obtain ⟨w2, hw2⟩ : ∃ w2, w2 = ((w.alloc (.cells tl.toArray 27)).alloc (.cells Z 42)) := ⟨_, rfl⟩
  have z2 : w2.heap.size = w.heap.size + 2 := by rw [hw2, World.size_alloc, World.size_alloc]
  have b1 : w2.heap[w.heap.size]? = some (.cells tl.toArray 27 (0, 0)) := by rw [hw2]; exact heap_alloc2_old _ _ _
  have b2 : w2.heap[w.heap.size + 1]? = some (.cells Z 42 (0, 0)) := by rw [hw2]; exact heap_alloc2_new _ _ _
  have hb2 : Below w.heap.size w w2 := by
    rw [hw2]
    exact ((Below.refl _ w).alloc (Nat.le_refl _) _).alloc (by rw [World.size_alloc]; omega) _
  have RT := Lib.hid (fun (W : World) (hb : Below w2.heap.size w2 W) => (fun j v hj => by rw [Nat.zero_add, hb.cell (p := ⟨w.heap.size, j, none⟩) (by show w.heap.size < _; omega), cell_of_row _ _ _ _ _ _ b1, List.getElem?_toArray]; exact hj : W.rangeAt w.heap.size 0 tl))
  have HRow := Lib.hid (fun (hlt : 0 < ls.length) => (by
    obtain ⟨b, o, e, hbl, hc⟩ := hA (by rw [List.length_map]; exact hlt)
    exact ⟨b, o, e, fun W (hb : Below w2.heap.size w2 W) m z hz j v hj => by
      rw [hb.cell (p := ⟨b, o + m * 18 + j, none⟩) (by show b < _; omega), hb2.cell (p := ⟨b, o + m * 18 + j, none⟩) hbl]
      exact hc m z.cells (by rw [List.getElem?_map, hz]; rfl) j v hj⟩ : ∃ b o, A = some ⟨b, o, none⟩ ∧ ∀ W, Below w2.heap.size w2 W → ∀ m z, ls[m]? = some z → W.rangeAt b (o + m * 18) z.cells))
  have B2 := Lib.hid b2
  have HB2 := Lib.hid hb2
  have Z2 := Lib.hid z2
  have HSt := Lib.hid hSt
  have I2 := Lib.hid i2
  have HZ := Lib.hid hZ
  have HZ1 := Lib.hid hZ1
  have HZd := Lib.hid hZd
  have H0 := Lib.hid hst0
  have HEnd := Lib.hid hstE
  have HStp := Lib.hid hstS
  have HLs := Lib.hid hls
  have HBet := Lib.hid hBet
  have HBc := Lib.hid hBc
  clear hSt i2 hZ hZ1 hZd hst0 hstE hstS b1 b2 hb2 z2 hA hls htl hst ht hBet hBc
  go_enter Tryd.func23, Tryd.ntmps23
  go_wp2_with (first
    | (refine wpList_alloc_z rfl 42 rfl Z HZ.out ?_; go_simp))
  rw [← hw2]
  clear hw2
  go_loopg [7, 6] ls.length (fun gk i f wr => ∃ k : Nat, i = .int .i64 k ∧ k + gk = ls.length ∧ (∃ z : Int, f = .int .i64 z ∧ ((z = -1 ∧ st k = none) ∨ ∃ m : Nat, z = m ∧ m < ls.length ∧ ∃ s, st k = some s ∧ ls[m]? = some s)) ∧ Hid (Below w2.heap.size w2 wr))
  case atStart => exact ⟨0, rfl, by simp, ⟨-1, rfl, Or.inl ⟨rfl, H0.out⟩⟩, Lib.hid (Below.refl _ _)⟩
  case round =>
    obtain ⟨k, rfl, hk, ⟨z, rfl, hz⟩, HB⟩ := hrel
    have HK := Lib.hid hz
    clear hz
    by_cases hlt : k < ls.length
    · obtain ⟨g, rfl⟩ : ∃ g, gk = g + 1 := ⟨gk - 1, by omega⟩
      have hkI : (k : Int) < (ls.length : Int) := by omega
      obtain ⟨y, hy⟩ : ∃ y, ls[k]? = some y := ⟨_, List.getElem?_eq_getElem hlt⟩
      have hyl := mem_len HLs.out hy
      have hsx := sizeBv hyl
      rw [List.size_toArray] at hsx
      have hss := HStp.out k y hy
      have i1 := fun W => four_e y.addr hyl W
      have hys := lSize hyl
      rw [List.size_toArray] at hys
      have hyh := (LV.has hyl).1
      obtain ⟨b, o, rfl, hrow⟩ := HRow.out (by omega)
      obtain ⟨x, hx⟩ : ∃ x, x = bvs y.addr := ⟨_, rfl⟩
      rw [← hx] at i1 hsx hyh
      have RX := Lib.hid (fun (W : World) (hb : Below w2.heap.size w2 W) => (fun j v hj => hrow W hb k y hy j v (hyh j v hj) : W.rangeAt b (o + k * 18) x))
      obtain ⟨b1, hb1⟩ : ∃ b1, b1 = isV4 y.addr := ⟨_, rfl⟩
      obtain ⟨b2, hb2⟩ : ∃ b2, b2 = isV4 t0 := ⟨_, rfl⟩
      have i2 := I2.out
      rw [← hb1] at i1
      rw [← hb2] at i2
      have hfour : Hid (st (k + 1) = if b1 = b2 then (match st k with | none => some y | some b => if 0 < cmpL y b t0 then some y else some b) else st k) := Lib.hid (by rw [hss]; unfold srcStep; rw [hb1, hb2]; rfl)
      have I1 := Lib.hid i1
      have I2 := Lib.hid i2
      have HSx := Lib.hid hsx
      have HYS := Lib.hid hys
      have HRw := Lib.hid hrow
      have HYL := Lib.hid hyl
      have HYm := Lib.hid hy
      have hk9 : k + (g + 1) = ls.length := hk
      clear i1 i2 hsx hys hx hss hyl hyh hrow hy hb1 hb2 hk HRow
      go_wp2_with fail
      refine wp_region_held_drew (S := (fun W : World => Below w2.heap.size w2 W)) (by kernel_rfl) HB.out.drew (fun hHeld => ?_)
      refine wpAnyH_take (i := 0) (oi := ({ dst := some 14, op := Go.Op.move (Go.Operand.tmp 0), type := 22, pos := "ref.go:106", after := #[], guard := none } : Oper)) (v := .slice (some ⟨b, o, none⟩) ls.length cap) rfl (by kernel_rfl) (by kernel_rfl) (by kernel_rfl) (fun _ _ _ h => h) (Or.inl ⟨by rfl, fun w' _ => ?_⟩) hHeld ?_
      · go_simp
      simp only [Act.put, List.setIfInBounds_toArray, List.set_cons_zero, List.set_cons_succ]
      refine wpAnyH_take (i := 1) (oi := ({ dst := some 15, op := Go.Op.move (Go.Operand.tmp 7), type := 3, pos := "ref.go:106", after := #[], guard := none } : Oper)) (v := .int .i64 k) rfl (by kernel_rfl) (by kernel_rfl) (by kernel_rfl) (fun _ _ _ h => h) (Or.inl ⟨by rfl, fun w' _ => ?_⟩) hHeld ?_
      · go_simp
      simp only [Act.put, List.setIfInBounds_toArray, List.set_cons_zero, List.set_cons_succ]
      refine wpAnyH_take (i := 2) (oi := ({ dst := some 16, op := Go.Op.indexAddr 22 (Go.Operand.tmp 14) (Go.Operand.tmp 15), type := 0, pos := "ref.go:106", after := #[{ on := 0, ground := Go.Ground.data }, { on := 1, ground := Go.Ground.data }], guard := none } : Oper)) (v := .pointer (some ⟨b, o + k * 18, none⟩)) rfl (by kernel_rfl) (by kernel_rfl) (by kernel_rfl) (fun _ _ _ h => h) (Or.inl ⟨by rfl, fun w' _ => ?_⟩) hHeld ?_
      · go_simp
      simp only [Act.put, List.setIfInBounds_toArray, List.set_cons_zero, List.set_cons_succ]
      refine wpAnyH_take (i := 3) (oi := ({ dst := some 17, op := Go.Op.fieldAddr 42 (Go.Operand.tmp 16) 0, type := 0, pos := "ref.go:106", after := #[{ on := 2, ground := Go.Ground.data }], guard := none } : Oper)) (v := .pointer (some ⟨b, o + k * 18, none⟩)) rfl (by kernel_rfl) (by kernel_rfl) (by kernel_rfl) (fun _ _ _ h => h) (Or.inl ⟨by rfl, fun w' _ => ?_⟩) hHeld ?_
      · go_simp
      simp only [Act.put, List.setIfInBounds_toArray, List.set_cons_zero, List.set_cons_succ]
      refine wpAnyH_take (i := 4) (oi := ({ dst := some 18, op := Go.Op.load 27 (Go.Operand.tmp 17), type := 27, pos := "ref.go:106", after := #[{ on := 3, ground := Go.Ground.data }], guard := none } : Oper)) (v := .agg (x).toArray) rfl (by kernel_rfl) (by kernel_rfl) (by kernel_rfl) (fun _ _ _ h => h) (yieldsIf_load_mid (by rfl) _ _ rfl _ _ rfl _ _ (fun W h => RX.out W h) hu rfl HSx.out) hHeld ?_
      simp only [Act.put, List.setIfInBounds_toArray, List.set_cons_zero, List.set_cons_succ]
      refine wpAnyH_take (i := 6) (oi := ({ dst := some 20, op := Go.Op.load 27 (Go.Operand.tmp 3), type := 27, pos := "ref.go:106", after := #[], guard := none } : Oper)) (v := .agg (tl).toArray) rfl (by kernel_rfl) (by kernel_rfl) (by kernel_rfl) (fun _ _ _ h => h) (yieldsIf_load_mid (by rfl) _ _ rfl _ _ rfl _ _ (fun W h => RT.out W h) hu rfl HSt.out) hHeld ?_
      simp only [Act.put, List.setIfInBounds_toArray, List.set_cons_zero, List.set_cons_succ]
      refine wpAnyH_ready (rs := [5]) (by kernel_rfl) (by simp) ?_
      refine AllReadyH.cons (o := ({ dst := some 19, op := Go.Op.call { callee := Go.Callee.value (Go.Operand.func 26), args := #[Go.Operand.tmp 18], argTypes := #[27] }, type := 4, pos := "ref.go:106", after := #[{ on := 4, ground := Go.Ground.data }], guard := none } : Oper)) rfl (fun K hK => ?_) AllReadyH.nil
      go_simp
      go_at_call 26
      refine (I1.out _).mono ?_
      rintro e' wc ⟨rfl, hbc⟩
      refine hK.out _ _ (Below.trans hHeld (Below.mono hbc (Below.size hHeld))) (fun hHeld' => ?_)
      clear hK K hbc
      try clear hHeld
      try simp only [Act.put, List.setIfInBounds_toArray, List.set_cons_zero, List.set_cons_succ]
      refine wpAnyH_ready (rs := [7]) (by kernel_rfl) (by simp) ?_
      refine AllReadyH.cons (o := ({ dst := some 21, op := Go.Op.call { callee := Go.Callee.value (Go.Operand.func 26), args := #[Go.Operand.tmp 20], argTypes := #[27] }, type := 4, pos := "ref.go:106", after := #[{ on := 6, ground := Go.Ground.data }, { on := 5, ground := Go.Ground.chain }], guard := none } : Oper)) rfl (fun K hK => ?_) AllReadyH.nil
      go_simp
      go_at_call 26
      refine (I2.out _).mono ?_
      rintro e' wc ⟨rfl, hbc⟩
      refine hK.out _ _ (Below.trans hHeld' (Below.mono hbc (Below.size hHeld'))) (fun hHeld'' => ?_)
      clear hK K hbc
      try clear hHeld'
      try simp only [Act.put, List.setIfInBounds_toArray, List.set_cons_zero, List.set_cons_succ]
      refine wpAnyH_take (i := 8) (oi := ({ dst := some 22, op := Go.Op.binOp Go.BinOp.neq 4 (Go.Operand.tmp 19) (Go.Operand.tmp 21) 4, type := 4, pos := "ref.go:106", after := #[{ on := 5, ground := Go.Ground.data }, { on := 7, ground := Go.Ground.data }], guard := none } : Oper)) (v := .bool (!(b1 == b2))) rfl (by kernel_rfl) (by kernel_rfl) (by kernel_rfl) (fun _ _ _ h => h) (Or.inl ⟨by rfl, fun w' _ => ?_⟩) hHeld'' ?_
      · go_simp
      simp only [Act.put, List.setIfInBounds_toArray, List.set_cons_zero, List.set_cons_succ]
      refine wpAnyH_done (by kernel_rfl) ?_ _
      have XB := Lib.hid hHeld''
      clear hHeld''
      obtain ⟨q, hq⟩ : ∃ q, q = !(b1 == b2) := ⟨_, rfl⟩
      rw [← hq]
      by_cases hbb : b1 = b2
      · obtain rfl : q = false := by rw [hq, hbb]; simp
        have hF : Hid (st (k + 1) = (match st k with | none => some y | some b => if 0 < cmpL y b t0 then some y else some b)) := Lib.hid (by rw [hfour.out, if_pos hbb])
        clear hbb hfour hq
        rcases HK.out with ⟨rfl, hsk⟩ | ⟨m, rfl, hml, s, hsk, hm⟩
        · have HF := Lib.hid (show st (k + 1) = some y by rw [hF.out, hsk])
          clear hF hsk HK
          go_upto_region 6 with fail
          go_quiet (fail)
          go_wp2_with fail
          go_roundg g
          case measure => omega
          case rel => exact ⟨k + 1, by go_num, by omega, ⟨k, rfl, Or.inr ⟨k, rfl, hlt, y, HF.out, HYm.out⟩⟩, Lib.hid ⟨XB.out.os, XB.out.tape, XB.out.output, XB.out.size, XB.out.block⟩⟩
        · have hsl := mem_len HLs.out hm
          have hzs := lSize hsl
          rw [List.size_toArray] at hzs
          have hbet := fun W => HBet.out y s HYL.out hsl W
          have hbc := HBc.out y s HYL.out hsl
          have hrw := HRw.out
          obtain ⟨cb, hcb⟩ : ∃ cb, cb = betterB y s t0 := ⟨_, rfl⟩
          rw [← hcb] at hbc
          simp only [← hcb] at hbet
          obtain ⟨yl, hyl⟩ : ∃ yl, yl = y.cells := ⟨_, rfl⟩
          obtain ⟨zl, hzl⟩ : ∃ zl, zl = s.cells := ⟨_, rfl⟩
          have hys := HYS.out
          simp only [← hyl, ← hzl] at hbet
          rw [← hyl] at hys
          rw [← hzl] at hzs
          have RY := Lib.hid (fun (W : World) (hb : Below w2.heap.size w2 W) => (by rw [hyl]; exact hrw W hb k y HYm.out : W.rangeAt b (o + k * 18) yl))
          have RZ := Lib.hid (fun (W : World) (hb : Below w2.heap.size w2 W) => (by rw [hzl]; exact hrw W hb m s hm : W.rangeAt b (o + m * 18) zl))
          have HFz := Lib.hid (show st (k + 1) = if cb = true then some y else some s by
            rw [hF.out, hsk, hbc]; by_cases h : 0 < cmpL y s t0 <;> simp [h])
          have HKm := Lib.hid (And.intro hml hm)
          have CB := Lib.hid hbet
          have HYS := Lib.hid hys
          have HZS := Lib.hid hzs
          have hmI : (m : Int) < (ls.length : Int) := by omega
          have hm0 : ¬ (m : Int) < 0 := by omega
          clear hbet hbc hys hzs hyl hzl hcb hrw hsl hsk hF HK hm
          go_upto_region 6 with fail
          refine wp_region_held_drew (S := (fun W : World => Below w2.heap.size w2 W)) (by kernel_rfl) XB.out.drew (fun hHeld => ?_)
          refine wpAnyH_take (i := 0) (oi := ({ dst := some 23, op := Go.Op.move (Go.Operand.tmp 6), type := 3, pos := "ref.go:109", after := #[], guard := none } : Oper)) (v := .int .i64 m) rfl (by kernel_rfl) (by kernel_rfl) (by kernel_rfl) (fun _ _ _ h => h) (Or.inl ⟨by rfl, fun w' _ => ?_⟩) hHeld ?_
          · go_simp
          simp only [Act.put, List.setIfInBounds_toArray, List.set_cons_zero, List.set_cons_succ]
          refine wpAnyH_take (i := 1) (oi := ({ dst := some 24, op := Go.Op.binOp Go.BinOp.lss 3 (Go.Operand.tmp 23) (Go.Operand.const (Go.Value.int Go.IntKind.i64 0)) 3, type := 4, pos := "ref.go:109", after := #[{ on := 0, ground := Go.Ground.data }], guard := none } : Oper)) (v := .bool false) rfl (by kernel_rfl) (by kernel_rfl) (by kernel_rfl) (fun _ _ _ h => h) (Or.inl ⟨by rfl, fun w' _ => ?_⟩) hHeld ?_
          · go_simp
          simp only [Act.put, List.setIfInBounds_toArray, List.set_cons_zero, List.set_cons_succ]
          refine wpAnyH_take (i := 2) (oi := ({ dst := some 25, op := Go.Op.move (Go.Operand.tmp 24), type := 4, pos := "ref.go:109", after := #[{ on := 1, ground := Go.Ground.data }], guard := none } : Oper)) (v := .bool false) rfl (by kernel_rfl) (by kernel_rfl) (by kernel_rfl) (fun _ _ _ h => h) (Or.inl ⟨by rfl, fun w' _ => ?_⟩) hHeld ?_
          · go_simp
          simp only [Act.put, List.setIfInBounds_toArray, List.set_cons_zero, List.set_cons_succ]
          refine wpAnyH_take (i := 3) (oi := ({ dst := some 26, op := Go.Op.move (Go.Operand.tmp 0), type := 22, pos := "ref.go:109", after := #[{ on := 2, ground := Go.Ground.guard }], guard := some (2, false) } : Oper)) (v := .slice (some ⟨b, o, none⟩) ls.length cap) rfl (by kernel_rfl) (by kernel_rfl) (by kernel_rfl) (fun _ _ _ h => h) (Or.inl ⟨by kernel_rfl, fun w' _ => ?_⟩) hHeld ?_
          · go_simp
          simp only [Act.put, List.setIfInBounds_toArray, List.set_cons_zero, List.set_cons_succ]
          refine wpAnyH_take (i := 4) (oi := ({ dst := some 27, op := Go.Op.move (Go.Operand.tmp 7), type := 3, pos := "ref.go:109", after := #[{ on := 2, ground := Go.Ground.guard }], guard := some (2, false) } : Oper)) (v := .int .i64 k) rfl (by kernel_rfl) (by kernel_rfl) (by kernel_rfl) (fun _ _ _ h => h) (Or.inl ⟨by kernel_rfl, fun w' _ => ?_⟩) hHeld ?_
          · go_simp
          simp only [Act.put, List.setIfInBounds_toArray, List.set_cons_zero, List.set_cons_succ]
          refine wpAnyH_take (i := 5) (oi := ({ dst := some 28, op := Go.Op.indexAddr 22 (Go.Operand.tmp 26) (Go.Operand.tmp 27), type := 0, pos := "ref.go:109", after := #[{ on := 3, ground := Go.Ground.data }, { on := 4, ground := Go.Ground.data }, { on := 2, ground := Go.Ground.guard }], guard := some (2, false) } : Oper)) (v := .pointer (some ⟨b, o + k * 18, none⟩)) rfl (by kernel_rfl) (by kernel_rfl) (by kernel_rfl) (fun _ _ _ h => h) (Or.inl ⟨by kernel_rfl, fun w' _ => ?_⟩) hHeld ?_
          · go_simp
          simp only [Act.put, List.setIfInBounds_toArray, List.set_cons_zero, List.set_cons_succ]
          refine wpAnyH_take (i := 6) (oi := ({ dst := some 29, op := Go.Op.load 42 (Go.Operand.tmp 28), type := 42, pos := "ref.go:109", after := #[{ on := 5, ground := Go.Ground.data }, { on := 2, ground := Go.Ground.guard }], guard := some (2, false) } : Oper)) (v := .agg (yl).toArray) rfl (by kernel_rfl) (by kernel_rfl) (by kernel_rfl) (fun _ _ _ h => h) (yieldsIf_load_mid (by kernel_rfl) _ _ rfl _ _ rfl _ _ (fun W h => RY.out W h) hul rfl HYS.out) hHeld ?_
          simp only [Act.put, List.setIfInBounds_toArray, List.set_cons_zero, List.set_cons_succ]
          refine wpAnyH_take (i := 7) (oi := ({ dst := some 30, op := Go.Op.move (Go.Operand.tmp 0), type := 22, pos := "ref.go:109", after := #[{ on := 2, ground := Go.Ground.guard }], guard := some (2, false) } : Oper)) (v := .slice (some ⟨b, o, none⟩) ls.length cap) rfl (by kernel_rfl) (by kernel_rfl) (by kernel_rfl) (fun _ _ _ h => h) (Or.inl ⟨by kernel_rfl, fun w' _ => ?_⟩) hHeld ?_
          · go_simp
          simp only [Act.put, List.setIfInBounds_toArray, List.set_cons_zero, List.set_cons_succ]
          refine wpAnyH_take (i := 8) (oi := ({ dst := some 31, op := Go.Op.move (Go.Operand.tmp 6), type := 3, pos := "ref.go:109", after := #[{ on := 2, ground := Go.Ground.guard }], guard := some (2, false) } : Oper)) (v := .int .i64 m) rfl (by kernel_rfl) (by kernel_rfl) (by kernel_rfl) (fun _ _ _ h => h) (Or.inl ⟨by kernel_rfl, fun w' _ => ?_⟩) hHeld ?_
          · go_simp
          simp only [Act.put, List.setIfInBounds_toArray, List.set_cons_zero, List.set_cons_succ]
          refine wpAnyH_take (i := 9) (oi := ({ dst := some 32, op := Go.Op.indexAddr 22 (Go.Operand.tmp 30) (Go.Operand.tmp 31), type := 0, pos := "ref.go:109", after := #[{ on := 7, ground := Go.Ground.data }, { on := 8, ground := Go.Ground.data }, { on := 2, ground := Go.Ground.guard }], guard := some (2, false) } : Oper)) (v := .pointer (some ⟨b, o + m * 18, none⟩)) rfl (by kernel_rfl) (by kernel_rfl) (by kernel_rfl) (fun _ _ _ h => h) (Or.inl ⟨by kernel_rfl, fun w' _ => ?_⟩) hHeld ?_
          · go_simp
          simp only [Act.put, List.setIfInBounds_toArray, List.set_cons_zero, List.set_cons_succ]
          refine wpAnyH_take (i := 10) (oi := ({ dst := some 33, op := Go.Op.load 42 (Go.Operand.tmp 32), type := 42, pos := "ref.go:109", after := #[{ on := 9, ground := Go.Ground.data }, { on := 2, ground := Go.Ground.guard }], guard := some (2, false) } : Oper)) (v := .agg (zl).toArray) rfl (by kernel_rfl) (by kernel_rfl) (by kernel_rfl) (fun _ _ _ h => h) (yieldsIf_load_mid (by kernel_rfl) _ _ rfl _ _ rfl _ _ (fun W h => RZ.out W h) hul rfl HZS.out) hHeld ?_
          simp only [Act.put, List.setIfInBounds_toArray, List.set_cons_zero, List.set_cons_succ]
          refine wpAnyH_take (i := 11) (oi := ({ dst := some 34, op := Go.Op.load 27 (Go.Operand.tmp 3), type := 27, pos := "ref.go:109", after := #[{ on := 2, ground := Go.Ground.guard }], guard := some (2, false) } : Oper)) (v := .agg (tl).toArray) rfl (by kernel_rfl) (by kernel_rfl) (by kernel_rfl) (fun _ _ _ h => h) (yieldsIf_load_mid (by kernel_rfl) _ _ rfl _ _ rfl _ _ (fun W h => RT.out W h) hu rfl HSt.out) hHeld ?_
          simp only [Act.put, List.setIfInBounds_toArray, List.set_cons_zero, List.set_cons_succ]
          refine wpAnyH_ready (rs := [12]) (by kernel_rfl) (by simp) ?_
          refine AllReadyH.cons (o := ({ dst := some 35, op := Go.Op.call { callee := Go.Callee.value (Go.Operand.func 33), args := #[Go.Operand.tmp 29, Go.Operand.tmp 33, Go.Operand.tmp 34], argTypes := #[42, 42, 27] }, type := 4, pos := "ref.go:109", after := #[{ on := 6, ground := Go.Ground.data }, { on := 10, ground := Go.Ground.data }, { on := 11, ground := Go.Ground.data }, { on := 2, ground := Go.Ground.chain }, { on := 2, ground := Go.Ground.guard }], guard := some (2, false) } : Oper)) rfl (fun K hK => ?_) AllReadyH.nil
          rw [if_pos (by kernel_rfl)]
          go_simp
          go_at_call 33
          refine (CB.out _).mono ?_
          rintro e' wc ⟨rfl, hbc⟩
          refine hK.out _ _ (Below.trans hHeld (Below.mono hbc (Below.size hHeld))) (fun hHeld' => ?_)
          clear hK K hbc
          try clear hHeld
          try simp only [Act.put, List.setIfInBounds_toArray, List.set_cons_zero, List.set_cons_succ]
          refine wpAnyH_take (i := 13) (oi := ({ dst := some 36, op := Go.Op.pick (Go.Operand.tmp 25) (Go.Operand.const (Go.Value.bool true)) (Go.Operand.tmp 35), type := 4, pos := "ref.go:109", after := #[{ on := 2, ground := Go.Ground.data }, { on := 12, ground := Go.Ground.data }], guard := none } : Oper)) (v := .bool cb) rfl (by kernel_rfl) (by kernel_rfl) (by kernel_rfl) (fun _ _ _ h => h) (Or.inl ⟨by rfl, fun w' _ => ?_⟩) hHeld' ?_
          · go_simp
          simp only [Act.put, List.setIfInBounds_toArray, List.set_cons_zero, List.set_cons_succ]
          refine wpAnyH_done (by kernel_rfl) ?_ _
          have YB := Lib.hid hHeld'
          clear hHeld'
          cases cb with
          | true =>
            have HF := Lib.hid (show st (k + 1) = some y by rw [HFz.out, if_pos rfl])
            clear HFz
            go_wp2_with fail
            go_roundg g
            case measure => omega
            case rel => exact ⟨k + 1, by go_num, by omega, ⟨k, rfl, Or.inr ⟨k, rfl, hlt, y, HF.out, HYm.out⟩⟩, YB⟩
          | false =>
            have HF := Lib.hid (show st (k + 1) = some s by rw [HFz.out, if_neg (by decide)])
            clear HFz
            go_wp2_with fail
            go_roundg g
            case measure => omega
            case rel => exact ⟨k + 1, by go_num, by omega, ⟨m, rfl, Or.inr ⟨m, rfl, HKm.out.1, s, HF.out, HKm.out.2⟩⟩, YB⟩
      · obtain rfl : q = true := by rw [hq, beq_eq_false_iff_ne.2 hbb]; rfl
        have hF : Hid (st (k + 1) = st k) := Lib.hid (by rw [hfour.out, if_neg hbb])
        clear hbb hfour hq
        go_wp2_with fail
        go_roundg g
        case measure => omega
        case rel => exact ⟨k + 1, by go_num, by omega, ⟨z, rfl, by rw [hF.out]; exact HK.out⟩, XB⟩
    · obtain rfl : k = ls.length := by omega
      have hnI : ¬ (ls.length : Int) < (ls.length : Int) := by omega
      have c2 := (HB.out.block (w.heap.size + 1) (by have := Z2.out; omega)).trans B2.out
      have C2 := Lib.hid c2
      clear c2
      have hgz : w.heap.size ≤ w2.heap.size := by have := Z2.out; omega
      have HGZ := Lib.hid (HB2.out.trans (HB.out.mono hgz))
      rcases HK.out with ⟨rfl, hsk⟩ | ⟨m, rfl, hml, s, hsk, hm⟩
      · have HEn := Lib.hid (HEnd.out.trans hsk)
        have hz18 := lSize (r := lvZero) rfl
        have hlz : Z.size = lvZero.cells.toArray.size := by rw [HZd.out]
        have hlo := LV.one lvZero
        clear hsk HK HEnd
        go_wp2_with (first
          | (refine wpList_store_blk rfl 42 (.tmp 4) (.tmp 40) rfl (w.heap.size + 1) Z lvZero.cells.toArray 42 C2.out rfl rfl hz18 hlz hlo ?_; intro w7 h7 hg7 hz7; go_simp))
        refine bodyPost_ret (results_row_tmp rfl _ _ (w.heap.size + 1) 42 lvZero.cells.toArray (0, 0) _ rfl h7.out Tryd.underlying42 rfl hz18) rfl ⟨?_, HGZ.out.grown hg7.out (by have := HGZ.out.size; omega) (fun j hj => by cases hj; omega)⟩
        rw [HEn.out]; rfl
      · have HEn := Lib.hid (HEnd.out.trans hsk)
        have hsl := mem_len HLs.out hm
        have hl3 := lSize hsl
        have hlz : Z.size = s.cells.toArray.size := by rw [HZ1.out, List.size_toArray, LV.size hsl]
        have hlo := LV.one s
        obtain ⟨b, o, rfl, hrow⟩ := HRow.out (by omega)
        have hmI : (m : Int) < (ls.length : Int) := by omega
        have hm0 : ¬ (m : Int) < 0 := by omega
        have xl : ∀ j v, s.cells.toArray.toList[j]? = some v → wr.cell? ((⟨b, o + m * 18, none⟩ : Addr).add j) = some v := fun j v hj => by
          rw [Addr.add_lit]; exact hrow wr HB.out m s hm j v hj
        obtain ⟨lc, hlc⟩ : ∃ lc, lc = s.cells.toArray := ⟨_, rfl⟩
        rw [← hlc] at hl3 hlz hlo xl
        have HLC := Lib.hid hlc
        have HL3 := Lib.hid hl3
        have HLZ := Lib.hid hlz
        have HLO := Lib.hid hlo
        have XL := Lib.hid xl
        clear hsk HK HEnd hsl hl3 hlz hlo hrow xl hm hlc HRow
        go_wp2_with (first
          | (refine wpList_load_agg rfl 42 (.tmp 43) rfl ⟨b, o + m * 18, none⟩ rfl lc _ XL.out Tryd.underlying42 rfl HL3.out ?_; go_simp)
          | (refine wpList_store_blk rfl 42 (.tmp 4) (.tmp 44) rfl (w.heap.size + 1) Z lc 42 C2.out rfl rfl HL3.out HLZ.out HLO.out ?_; intro w7 h7 hg7 hz7; go_simp))
        refine bodyPost_ret (results_row_tmp rfl _ _ (w.heap.size + 1) 42 lc (0, 0) _ rfl h7.out Tryd.underlying42 rfl HL3.out) rfl ⟨?_, HGZ.out.grown hg7.out (by have := HGZ.out.size; omega) (fun j hj => by cases hj; omega)⟩
        rw [HEn.out, HLC.out]; rfl
end Go.Proofs.YtoaedlllnkcfnaaDoor
