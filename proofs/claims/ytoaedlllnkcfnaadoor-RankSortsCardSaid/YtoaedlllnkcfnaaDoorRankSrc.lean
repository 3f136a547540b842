/-
  The walk of rank.Source: local addresses that lie in memory, the best of them. Condition: the two tables hold what their initialisers lay.
-/
import Derived.Test.YtoaedlllnkcfnaaDoorRankCmp
import Derived.Laws.ResultCell
namespace Go.Proofs.YtoaedlllnkcfnaaDoor
open Go.RowKit

section
variable {P : Program} {ops : Array Oper} {rest : List Oper} {o : Oper} {a : Act} {Q : Exit → Act → World → Prop}
theorem wpList_load_agg_gh {w : World} (hw : Region.wanted o (yielded ops a.tmps) = true) (ty : TypeId) (x : Operand) (ho : o.op = .load ty x) (p : Addr) (hx : a.eval x = .pointer (some p)) (cs : Array Value) (d : TypeDesc)
    (hc : ∀ j v, cs.toList[j]? = some v → w.cell? (p.add j) = some v)
    (hu : P.underlying ty = some d) (hd : (match d with | .struct _ | .array _ _ => true | _ => false) = true) (hi : (P.info? ty).map (·.size) = some cs.size)
    (h : wpList P ops Q rest (a.put o.dst (.agg cs)) w) : wpList P ops Q (o :: rest) a w := by
  unfold wpList
  rw [if_pos hw]
  left
  have hl := run_loadCells_list (P := P) w p cs.toList hc
  cases hq : P.info? ty with
  | none => simp [hq] at hi
  | some i =>
    have hs : i.size = cs.size := by simpa [hq] using hi
    have hagg : (isAgg ty).run P w = .ok true w := by
      unfold isAgg
      rw [Sem.run_bind, run_underlying hu w]
      cases d <;> simp_all
    have hlv : (loadVar ty p).run P w = .ok (.agg cs) w := by
      simp only [Array.length_toList, Array.toArray_toList] at hl
      simp [loadVar, Sem.run_bind, hagg, sizeOf, typeInfo, hq, hs, hl]
    unfold Oper.wp execOp
    simp only [ho, hx, Instr.loadAt, Instr.sureAddr, Sem.run_bind, Sem.run_pure, Result.andThen_ok, hlv]
    exact h
end
/-- values of n cells each, one behind the other -/
def RowsAt (n : Nat) (w : World) (A : Option Addr) (l : List (List Value)) : Prop :=
  0 < l.length → ∃ b o, A = some ⟨b, o, none⟩ ∧ b < w.heap.size ∧ ∀ k c, l[k]? = some c → ∀ j v, c[j]? = some v → w.cell? ⟨b, o + k * n + j, none⟩ = some v
theorem RowsAt.below {n : Nat} {w w' : World} {A : Option Addr} {l : List (List Value)} (h : RowsAt n w A l) (hb : Below w.heap.size w w') : RowsAt n w' A l := fun h0 => by
  obtain ⟨b, o, rfl, hlt, hc⟩ := h h0
  exact ⟨b, o, rfl, Nat.lt_of_lt_of_le hlt hb.size, fun k c hk j v hv => (hb.cell (p := ⟨b, o + k * n + j, none⟩) hlt).trans (hc k c hk j v hv)⟩
def LocsAt (w : World) (A : Option Addr) (ls : List LV) : Prop := RowsAt 18 w A (ls.map LV.cells)
def lvZero : LV := ⟨zero16, false, false⟩
/-- the best of the first ones -/
def srcStep (t : List UInt8) (s : Option LV) (x : LV) : Option LV :=
  if isV4 x.addr = isV4 t then (match s with | none => some x | some b => if 0 < cmpL x b t then some x else some b) else s
def srcA (ls : List LV) (t : List UInt8) : Option LV := ls.foldl (srcStep t) none
theorem lZeroAt : (Tryd.prog.info? 42).map (·.zero) = some (some (.agg lvZero.cells.toArray)) := by kernel_rfl
theorem results_row_tmp {P : Program} {fn : Func} {p u : Tmp} {ty : TypeId} (h : fn.results = #[.cell p ty, .tmp u]) (tmps : Array Value) (w : World) (g : Nat) (t : TypeId) (cs : Array Value) (fr : Nat × Nat) (d : TypeDesc)
    (hp : tmps.getD p undef = .pointer (some ⟨g, 0, none⟩)) (hg : w.heap[g]? = some (.cells cs t fr))
    (hu : P.underlying ty = some d) (hd : (match d with | .struct _ | .array _ _ => true | _ => false) = true) (hi : (P.info? ty).map (·.size) = some cs.size) :
    (results fn tmps).run P w = .ok (.tuple #[.agg cs, tmps.getD u undef]) w := by
  rw [results_cell_tmp h, hp]
  simp [asAddr, Result.andThen, run_loadVar_row w g t ty cs fr d hg hu hd hi]
theorem take_step (ls : List LV) (t : List UInt8) (k : Nat) (x : LV) (h : ls[k]? = some x) : (ls.take (k + 1)).foldl (srcStep t) none = srcStep t ((ls.take k).foldl (srcStep t) none) x := by
  rw [List.take_add_one, h, List.foldl_append]; rfl
theorem srcStep_len {t : List UInt8} {s : Option LV} {x : LV} (hs : ∀ y, s = some y → y.addr.length = 16) (hx : x.addr.length = 16) : ∀ y, srcStep t s x = some y → y.addr.length = 16 := by
  intro y hy
  unfold srcStep at hy
  split at hy
  · cases s with
    | none => exact (Option.some.inj hy) ▸ hx
    | some b =>
      simp only at hy
      split at hy
      · exact (Option.some.inj hy) ▸ hx
      · exact hs y hy
  · exact hs y hy
set_option maxRecDepth 100000 in
set_option maxHeartbeats 4000000 in
theorem source_e (ls : List LV) (hls : ∀ x ∈ ls, x.addr.length = 16) (A : Option Addr) (cap : Nat) (t0 : List UInt8) (ht : t0.length = 16) (hn : ls.length < 1000000) (w : World) (he : REnv w) (hA : LocsAt w A ls) :
    Calls Tryd.prog 17 #[.slice A ls.length cap, .agg (bvs t0).toArray] w fun e w' => e = .returned (.tuple #[.agg ((srcA ls t0).getD lvZero).cells.toArray, .bool (srcA ls t0).isSome]) ∧ Below w.heap.size w w' := by
  have hSt := sizeBv ht
  rw [List.size_toArray] at hSt
  have hu := Tryd.underlying27
  have i2 := fun W => is4_e t0 ht W
  have hZ := lZeroAt
  have hZ1 : lvZero.cells.toArray.size = 18 := by rw [List.size_toArray]; exact LV.size rfl
  obtain ⟨tl, htl⟩ : ∃ tl, tl = bvs t0 := ⟨_, rfl⟩
  rw [← htl] at hSt i2 ⊢
  obtain ⟨Z, hZd⟩ : ∃ Z, Z = lvZero.cells.toArray := ⟨_, rfl⟩
  rw [← hZd] at hZ hZ1
  obtain ⟨st, hst⟩ : ∃ st : Nat → Option LV, ∀ k, st k = (ls.take k).foldl (srcStep t0) none := ⟨_, fun _ => rfl⟩
  have hst0 : st 0 = none := by rw [hst]; rfl
  have hstE : srcA ls t0 = st ls.length := by rw [hst, List.take_length]; rfl
  have hstS : ∀ k x, ls[k]? = some x → st (k + 1) = srcStep t0 (st k) x := fun k x h => by rw [hst, hst]; exact take_step ls t0 k x h
  obtain ⟨w2, hw2⟩ : ∃ w2, w2 = (w.alloc (.cells tl.toArray 27)) := ⟨_, rfl⟩
  obtain ⟨w4, hw4⟩ : ∃ w4, w4 = ((w.alloc (.cells tl.toArray 27)).alloc (.cells Z 42)).alloc (.cells Z 42) := ⟨_, rfl⟩
  have z4 : w4.heap.size = w.heap.size + 3 := by rw [hw4, World.size_alloc, World.size_alloc, World.size_alloc]
  have b1 : w4.heap[w.heap.size]? = some (.cells tl.toArray 27 (0, 0)) := by
    rw [hw4, heap_alloc_old' _ _ (by rw [World.size_alloc, World.size_alloc]; omega)]; exact heap_alloc2_old _ _ _
  have b2 : w4.heap[w.heap.size + 1]? = some (.cells Z 42 (0, 0)) := by
    rw [hw4, heap_alloc_old' _ _ (by rw [World.size_alloc, World.size_alloc]; omega)]; exact heap_alloc2_new _ _ _
  have b3 : w4.heap[w.heap.size + 2]? = some (.cells Z 42 (0, 0)) := by
    rw [hw4, show w.heap.size + 2 = ((w.alloc (.cells tl.toArray 27)).alloc (.cells Z 42)).heap.size by rw [World.size_alloc, World.size_alloc]]; exact heap_alloc_last _ _
  have hb4 : Below w.heap.size w w4 := by
    rw [hw4]
    exact (((Below.refl _ w).alloc (Nat.le_refl _) _).alloc (by rw [World.size_alloc]; omega) _).alloc (by rw [World.size_alloc, World.size_alloc]; omega) _
  have B1 := Lib.hid b1
  have B2 := Lib.hid b2
  have B3 := Lib.hid b3
  have HB4 := Lib.hid hb4
  have Z4 := Lib.hid z4
  have HE := Lib.hid he
  have HA := Lib.hid hA
  have HSt := Lib.hid hSt
  have I2 := Lib.hid i2
  have HZ := Lib.hid hZ
  have HZ1 := Lib.hid hZ1
  have HZd := Lib.hid hZd
  have H0 := Lib.hid hst0
  have HEnd := Lib.hid hstE
  have HStp := Lib.hid hstS
  have HLs := Lib.hid hls
  have HT := Lib.hid ht
  have HTL := Lib.hid htl
  have HC := Lib.hid compare_e
  clear hSt i2 hZ hZ1 hZd hst0 hstE hstS b1 b2 b3 hb4 z4 he hA hls htl hst ht hw2
  go_enter Tryd.func17, Tryd.ntmps17
  go_wp2_with (first
    | (refine wpList_alloc_z rfl 42 rfl Z HZ.out ?_; go_simp))
  rw [← hw4]
  clear hw4
  go_loopg [12, 7] ls.length (fun gk i f wr => ∃ k : Nat, i = .int .i64 k ∧ k + gk = ls.length ∧ f = .bool (st k).isSome ∧ Hid (Below w.heap.size w wr) ∧ Hid (w.heap.size + 3 ≤ wr.heap.size) ∧ Hid (wr.heap[w.heap.size]? = some (.cells tl.toArray 27 (0, 0))) ∧ Hid (wr.heap[w.heap.size + 1]? = some (.cells Z 42 (0, 0))) ∧ Hid (wr.heap[w.heap.size + 2]? = some (.cells ((st k).getD lvZero).cells.toArray 42 (0, 0))) ∧ Hid (∀ y, st k = some y → y.addr.length = 16))
  case atStart => exact ⟨0, rfl, by simp, by rw [H0.out]; rfl, HB4, Lib.hid (by rw [Z4.out]; exact Nat.le_refl _), B1, B2, Lib.hid (by rw [H0.out]; show _ = some (Obj.cells lvZero.cells.toArray _ _); rw [← HZd.out]; exact B3.out), Lib.hid (by rw [H0.out]; intro y hy; cases hy)⟩
  case round =>
    obtain ⟨k, rfl, hk, rfl, HB, HZw, H1, H2, H3, HL⟩ := hrel
    by_cases hlt : k < ls.length
    · obtain ⟨g, rfl⟩ : ∃ g, gk = g + 1 := ⟨gk - 1, by omega⟩
      have hkI : (k : Int) < (ls.length : Int) := by omega
      obtain ⟨y, hy⟩ : ∃ y, ls[k]? = some y := ⟨_, List.getElem?_eq_getElem hlt⟩
      obtain ⟨fb, hfb⟩ : ∃ fb, fb = (st k).isSome := ⟨_, rfl⟩
      rw [← hfb]
      have HFB := Lib.hid hfb
      clear hfb
      have hyl := HLs.out y (List.mem_of_getElem? hy)
      have hsx := sizeBv hyl
      rw [List.size_toArray] at hsx
      have hss := HStp.out k y hy
      have i1 := fun W => is4_e y.addr hyl W
      have hys := lSize hyl
      have hyo := LV.one y
      have hyh := (LV.has hyl).1
      have hyz : Z.size = y.cells.toArray.size := by rw [HZ1.out, List.size_toArray, LV.size hyl]
      obtain ⟨b, o, rfl, hbl, hcells⟩ := HA.out (by rw [List.length_map]; omega)
      have hyc : ∀ j v, y.cells.toArray.toList[j]? = some v → wr.cell? ((⟨b, o + k * 18, none⟩ : Addr).add j) = some v := fun j v hj => by
        rw [Addr.add_lit, HB.out.cell (p := ⟨b, o + k * 18 + j, none⟩) hbl]
        exact hcells k y.cells (by rw [List.getElem?_map, hy]; rfl) j v hj
      obtain ⟨G, hG⟩ : ∃ G, G = wr.heap.size := ⟨_, rfl⟩
      obtain ⟨w5, hw5⟩ : ∃ w5, w5 = wr.alloc (.cells y.cells.toArray 42) := ⟨_, rfl⟩
      have hzw := HZw.out
      have z5 : w5.heap.size = G + 1 := by rw [hw5, World.size_alloc, hG]
      have c1 : w5.heap[w.heap.size]? = some (.cells tl.toArray 27 (0, 0)) := by rw [hw5, heap_alloc_old' _ _ (by omega)]; exact H1.out
      have c2 : w5.heap[w.heap.size + 1]? = some (.cells Z 42 (0, 0)) := by rw [hw5, heap_alloc_old' _ _ (by omega)]; exact H2.out
      have c3 : w5.heap[w.heap.size + 2]? = some (.cells ((st k).getD lvZero).cells.toArray 42 (0, 0)) := by rw [hw5, heap_alloc_old' _ _ (by omega)]; exact H3.out
      have c4 : w5.heap[G]? = some (.cells y.cells.toArray 42 (0, 0)) := by rw [hw5, hG]; exact heap_alloc_last _ _
      have hb5 : Below w.heap.size w w5 := by rw [hw5]; exact HB.out.alloc HB.out.size _
      have hls3 : ((st k).getD lvZero).addr.length = 16 := by
        cases hsk : st k with
        | none => rfl
        | some z => exact HL.out z hsk
      have hcmp := fun W (hW : REnv W) => HC.out y ((st k).getD lvZero) t0 hyl hls3 HT.out W hW
      have hl3 := lSize hls3
      have hlz : ((st k).getD lvZero).cells.toArray.size = y.cells.toArray.size := by
        rw [List.size_toArray, List.size_toArray, LV.size hls3, LV.size hyl]
      have hLnext := srcStep_len (t := t0) (x := y) HL.out hyl
      rw [← hss] at hLnext
      rw [← HTL.out] at hcmp
      obtain ⟨x, hx⟩ : ∃ x, x = bvs y.addr := ⟨_, rfl⟩
      rw [← hx] at i1 hsx hyh
      obtain ⟨lc, hlc⟩ : ∃ lc, lc = ((st k).getD lvZero).cells.toArray := ⟨_, rfl⟩
      rw [← hlc] at c3 hl3 hlz hcmp
      obtain ⟨yc, hycd⟩ : ∃ yc, yc = y.cells.toArray := ⟨_, rfl⟩
      rw [← hycd] at hyc hw5 c4 hys hyo hyz hlz hcmp
      have RX := Lib.hid (fun (W : World) (hb : Below w5.heap.size w5 W) => (fun j v hj => by rw [Nat.zero_add, hb.cell (p := ⟨G, j, none⟩) (by show G < _; omega), cell_of_row _ _ _ _ _ _ c4, hycd, List.getElem?_toArray]; exact hyh j v hj : W.rangeAt G 0 x))
      have RT := Lib.hid (fun (W : World) (hb : Below w5.heap.size w5 W) => (fun j v hj => by rw [Nat.zero_add, hb.cell (p := ⟨w.heap.size, j, none⟩) (by show w.heap.size < _; omega), cell_of_row _ _ _ _ _ _ c1, List.getElem?_toArray]; exact hj : W.rangeAt w.heap.size 0 tl))
      obtain ⟨b1, hb1⟩ : ∃ b1, b1 = isV4 y.addr := ⟨_, rfl⟩
      obtain ⟨b2, hb2⟩ : ∃ b2, b2 = isV4 t0 := ⟨_, rfl⟩
      have i2 := I2.out
      rw [← hb1] at i1
      rw [← hb2] at i2
      have hfour : Hid (st (k + 1) = if b1 = b2 then (match st k with | none => some y | some b => if 0 < cmpL y b t0 then some y else some b) else st k) := Lib.hid (by rw [hss]; unfold srcStep; rw [hb1, hb2])
      have I1 := Lib.hid i1
      have I2 := Lib.hid i2
      have HSx := Lib.hid hsx
      have HYC := Lib.hid hyc
      have HYS := Lib.hid hys
      have HYO := Lib.hid hyo
      have HYZ := Lib.hid hyz
      have HL3 := Lib.hid hl3
      have HLZ := Lib.hid hlz
      have HLC := Lib.hid hlc
      have HYD := Lib.hid hycd
      have HCM := Lib.hid (fun (W : World) (hb : Below w5.heap.size w5 W) => hcmp W ((HE.out.below hb5).below hb))
      have HLN := Lib.hid hLnext
      have C1 := Lib.hid c1
      have C2 := Lib.hid c2
      have C3 := Lib.hid c3
      have C4 := Lib.hid c4
      have HB5 := Lib.hid hb5
      have Z5 := Lib.hid z5
      have HZW := Lib.hid hzw
      have HG := Lib.hid hG
      clear i1 i2 hsx hyc hys hyo hyz hl3 hlz hlc hycd hcmp hLnext c1 c2 c3 c4 hb5 z5 hx hss hyl hyh hcells hy hls3 hb1 hb2 HB H1 H2 H3 HZw hzw HC
      clear HStp HLs HA
      go_wp2_with (first
        | (refine wpList_load_agg rfl 42 (.tmp 14) rfl ⟨b, o + k * 18, none⟩ rfl yc _ HYC.out Tryd.underlying42 rfl HYS.out ?_; go_simp)
        | (refine wpList_alloc_z rfl 42 rfl Z HZ.out ?_; go_simp)
        | (refine wpList_store_new rfl 42 (.tmp 9) (.tmp 15) rfl wr.heap.size rfl Z yc 42 rfl rfl HYS.out HYZ.out HYO.out ?_; go_simp))
      rw [← hw5, ← hG]
      clear hw5 hG
      refine wp_region_held_drew (S := (fun W : World => Below w5.heap.size w5 W)) (by kernel_rfl) (Below.refl _ w5).drew (fun hHeld => ?_)
      refine wpAnyH_take (i := 0) (oi := ({ dst := some 16, op := Go.Op.fieldAddr 42 (Go.Operand.tmp 9) 0, type := 0, pos := "rank.go:89", after := #[], guard := none } : Oper)) (v := .pointer (some ⟨G, 0, none⟩)) rfl (by kernel_rfl) (by kernel_rfl) (by kernel_rfl) (fun _ _ _ h => h) (Or.inl ⟨by rfl, fun w' _ => ?_⟩) hHeld ?_
      · go_simp
      simp only [Act.put, List.setIfInBounds_toArray, List.set_cons_zero, List.set_cons_succ]
      refine wpAnyH_take (i := 1) (oi := ({ dst := some 17, op := Go.Op.load 27 (Go.Operand.tmp 16), type := 27, pos := "rank.go:89", after := #[{ on := 0, ground := Go.Ground.data }], guard := none } : Oper)) (v := .agg (x).toArray) rfl (by kernel_rfl) (by kernel_rfl) (by kernel_rfl) (fun _ _ _ h => h) (yieldsIf_load_mid (by rfl) _ _ rfl _ _ rfl _ _ (fun W h => RX.out W h) hu rfl HSx.out) hHeld ?_
      simp only [Act.put, List.setIfInBounds_toArray, List.set_cons_zero, List.set_cons_succ]
      refine wpAnyH_take (i := 3) (oi := ({ dst := some 19, op := Go.Op.load 27 (Go.Operand.tmp 3), type := 27, pos := "rank.go:89", after := #[], guard := none } : Oper)) (v := .agg (tl).toArray) rfl (by kernel_rfl) (by kernel_rfl) (by kernel_rfl) (fun _ _ _ h => h) (yieldsIf_load_mid (by rfl) _ _ rfl _ _ rfl _ _ (fun W h => RT.out W h) hu rfl HSt.out) hHeld ?_
      simp only [Act.put, List.setIfInBounds_toArray, List.set_cons_zero, List.set_cons_succ]
      refine wpAnyH_ready (rs := [2]) (by kernel_rfl) (by simp) ?_
      refine AllReadyH.cons (o := ({ dst := some 18, op := Go.Op.call { callee := Go.Callee.value (Go.Operand.func 18), args := #[Go.Operand.tmp 17], argTypes := #[27] }, type := 4, pos := "rank.go:89", after := #[{ on := 1, ground := Go.Ground.data }], guard := none } : Oper)) rfl (fun K hK => ?_) AllReadyH.nil
      go_simp
      go_at_call 18
      refine (I1.out _).mono ?_
      rintro e' wc ⟨rfl, hbc⟩
      refine hK.out _ _ (Below.trans hHeld (Below.mono hbc (Below.size hHeld))) (fun hHeld' => ?_)
      clear hK K hbc
      try clear hHeld
      try simp only [Act.put, List.setIfInBounds_toArray, List.set_cons_zero, List.set_cons_succ]
      refine wpAnyH_ready (rs := [4]) (by kernel_rfl) (by simp) ?_
      refine AllReadyH.cons (o := ({ dst := some 20, op := Go.Op.call { callee := Go.Callee.value (Go.Operand.func 18), args := #[Go.Operand.tmp 19], argTypes := #[27] }, type := 4, pos := "rank.go:89", after := #[{ on := 3, ground := Go.Ground.data }, { on := 2, ground := Go.Ground.chain }], guard := none } : Oper)) rfl (fun K hK => ?_) AllReadyH.nil
      go_simp
      go_at_call 18
      refine (I2.out _).mono ?_
      rintro e' wc ⟨rfl, hbc⟩
      refine hK.out _ _ (Below.trans hHeld' (Below.mono hbc (Below.size hHeld'))) (fun hHeld'' => ?_)
      clear hK K hbc
      try clear hHeld'
      try simp only [Act.put, List.setIfInBounds_toArray, List.set_cons_zero, List.set_cons_succ]
      refine wpAnyH_take (i := 5) (oi := ({ dst := some 21, op := Go.Op.binOp Go.BinOp.neq 4 (Go.Operand.tmp 18) (Go.Operand.tmp 20) 4, type := 4, pos := "rank.go:89", after := #[{ on := 2, ground := Go.Ground.data }, { on := 4, ground := Go.Ground.data }], guard := none } : Oper)) (v := .bool (!(b1 == b2))) rfl (by kernel_rfl) (by kernel_rfl) (by kernel_rfl) (fun _ _ _ h => h) (Or.inl ⟨by rfl, fun w' _ => ?_⟩) hHeld'' ?_
      · go_simp
      simp only [Act.put, List.setIfInBounds_toArray, List.set_cons_zero, List.set_cons_succ]
      refine wpAnyH_done (by kernel_rfl) ?_ _
      have hh := hHeld''
      have hz5 := Z5.out
      have hgg := HG.out
      have hzw := HZW.out
      have x1 := (hh.block w.heap.size (by omega)).trans C1.out
      have x2 := (hh.block (w.heap.size + 1) (by omega)).trans C2.out
      have x3 := (hh.block (w.heap.size + 2) (by omega)).trans C3.out
      have x4 := (hh.block G (by omega)).trans C4.out
      have xb : Below w.heap.size w wc := HB5.out.trans (hh.mono HB5.out.size)
      have xz : w.heap.size + 3 ≤ wc.heap.size := by have := hh.size; omega
      have xt : ∀ j v, tl.toArray.toList[j]? = some v → wc.cell? ((⟨w.heap.size, 0, none⟩ : Addr).add j) = some v := part_at x1 0 tl (fun j v hj => by rw [Nat.zero_add, List.getElem?_toArray]; exact hj)
      have xl : ∀ j v, lc.toList[j]? = some v → wc.cell? ((⟨w.heap.size + 1 + 1, 0, none⟩ : Addr).add j) = some v := fun j v hj => by
        rw [Addr.add_lit, Nat.zero_add, cell_of_row _ _ _ _ _ _ x3]; simpa using hj
      have xy : ∀ j v, yc.toList[j]? = some v → wc.cell? ((⟨G, 0, none⟩ : Addr).add j) = some v := fun j v hj => by
        rw [Addr.add_lit, Nat.zero_add, cell_of_row _ _ _ _ _ _ x4]; simpa using hj
      have hcw := HCM.out wc hh
      have HCW := Lib.hid hcw
      have X1 := Lib.hid x1
      have X2 := Lib.hid x2
      have X3 := Lib.hid x3
      have X4 := Lib.hid x4
      have XB := Lib.hid xb
      have XZ := Lib.hid xz
      have XT := Lib.hid xt
      have XL := Lib.hid xl
      have XY := Lib.hid xy
      have HGw := Lib.hid (show G < wc.heap.size by have := hh.size; omega)
      have HGn := Lib.hid (show w.heap.size + 2 < G by have := HG.out; omega)
      have hk9 : k + (g + 1) = ls.length := hk
      clear hh hz5 hzw hgg x1 x2 x3 x4 xb xz xt xl xy hcw hHeld''
      obtain ⟨q, hq⟩ : ∃ q, q = !(b1 == b2) := ⟨_, rfl⟩
      rw [← hq]
      by_cases hbb : b1 = b2
      · obtain rfl : q = false := by rw [hq, hbb]; simp
        have hF : Hid (st (k + 1) = (match st k with | none => some y | some b => if 0 < cmpL y b t0 then some y else some b)) := Lib.hid (by rw [hfour.out, if_pos hbb])
        clear hbb hfour hq
        cases hsk : st k with
        | none =>
          have HF := Lib.hid (show st (k + 1) = some y by rw [hF.out, hsk])
          obtain rfl : fb = false := by rw [HFB.out, hsk]; rfl
          clear hF HCW hsk
          go_wp2_with (first
            | (refine wpList_load_agg rfl 42 (.tmp 9) rfl ⟨G, 0, none⟩ rfl yc _ XY.out Tryd.underlying42 rfl HYS.out ?_; go_simp)
            | (refine wpList_store_blk rfl 42 (.tmp 6) (.tmp 31) rfl (w.heap.size + 1 + 1) lc yc 42 X3.out rfl rfl HYS.out HLZ.out HYO.out ?_; intro w7 h7 hg7 hz7; go_simp))
          go_roundg g
          case measure => omega
          case rel =>
            have hxz := XZ.out
            refine ⟨k + 1, by go_num, by omega, by rw [HF.out]; rfl, Lib.hid (XB.out.grown hg7.out (by omega) (fun j hj => by cases hj; omega)), Lib.hid (by have := hg7.out.size; omega), Lib.hid ?_, Lib.hid ?_, Lib.hid ?_, HLN⟩
            · exact (hg7.out.block _ (by omega) (fun e => by have := Option.some.inj e; omega)).trans X1.out
            · exact (hg7.out.block _ (by omega) (fun e => by have := Option.some.inj e; omega)).trans X2.out
            · rw [HF.out]; show _ = some (Obj.cells y.cells.toArray _ _); rw [← HYD.out]; exact h7.out
        | some z =>
          have hgd : (st k).getD lvZero = z := by rw [hsk]; rfl
          rw [hgd] at HCW
          have HLC2 := HLC
          rw [hgd] at HLC2
          obtain rfl : fb = true := by rw [HFB.out, hsk]; rfl
          have hFz := Lib.hid (show st (k + 1) = if 0 < cmpL y z t0 then some y else some z by rw [hF.out, hsk])
          clear hF HCM hsk hgd
          obtain ⟨c, hc⟩ : ∃ c, c = cmpL y z t0 := ⟨_, rfl⟩
          rw [← hc] at HCW hFz
          clear hc
          go_wp2_with (first
            | (refine wpList_load_agg_gh (by kernel_rfl) 42 (.tmp 9) rfl ⟨G, 0, none⟩ rfl yc _ XY.out Tryd.underlying42 rfl HYS.out ?_; go_simp)
            | (refine wpList_load_agg_gh (by kernel_rfl) 42 (.tmp 6) rfl ⟨w.heap.size + 1 + 1, 0, none⟩ rfl lc _ XL.out Tryd.underlying42 rfl HL3.out ?_; go_simp)
            | (refine wpList_load_agg_gh (by kernel_rfl) 27 (.tmp 3) rfl ⟨w.heap.size, 0, none⟩ rfl tl.toArray _ XT.out Tryd.underlying27 rfl HSt.out ?_; go_simp))
          refine HCW.out.mono ?_
          rintro e wd ⟨rfl, hbd⟩
          have hxz := XZ.out
          have hgw := HGw.out
          have x1 := (hbd.block w.heap.size (by omega)).trans X1.out
          have x2 := (hbd.block (w.heap.size + 1) (by omega)).trans X2.out
          have x3 := (hbd.block (w.heap.size + 2) (by omega)).trans X3.out
          have x4 := (hbd.block G (by omega)).trans X4.out
          have xb : Below w.heap.size w wd := XB.out.trans (hbd.mono XB.out.size)
          have xz : w.heap.size + 3 ≤ wd.heap.size := by have := hbd.size; omega
          have xy : ∀ j v, yc.toList[j]? = some v → wd.cell? ((⟨G, 0, none⟩ : Addr).add j) = some v := fun j v hj => by
            rw [Addr.add_lit, Nat.zero_add, cell_of_row _ _ _ _ _ _ x4]; simpa using hj
          have D1 := Lib.hid x1
          have D2 := Lib.hid x2
          have D3 := Lib.hid x3
          have DB := Lib.hid xb
          have DZ := Lib.hid xz
          have DY := Lib.hid xy
          clear hbd x1 x2 x3 x4 xb xz xy hxz hgw X1 X2 X3 X4 XB XZ XT XL XY
          by_cases hcp : 0 < c
          · have HF := Lib.hid (show st (k + 1) = some y by rw [hFz.out, if_pos hcp])
            clear hFz
            go_wp2_with (first
              | (refine wpList_load_agg rfl 42 (.tmp 9) rfl ⟨G, 0, none⟩ rfl yc _ DY.out Tryd.underlying42 rfl HYS.out ?_; go_simp)
              | (refine wpList_store_blk rfl 42 (.tmp 6) (.tmp 31) rfl (w.heap.size + 1 + 1) lc yc 42 D3.out rfl rfl HYS.out HLZ.out HYO.out ?_; intro w7 h7 hg7 hz7; go_simp))
            go_roundg g
            case measure => omega
            case rel =>
              have hxz := DZ.out
              refine ⟨k + 1, by go_num, by omega, by rw [HF.out]; rfl, Lib.hid (DB.out.grown hg7.out (by omega) (fun j hj => by cases hj; omega)), Lib.hid (by have := hg7.out.size; omega), Lib.hid ?_, Lib.hid ?_, Lib.hid ?_, HLN⟩
              · exact (hg7.out.block _ (by omega) (fun e => by have := Option.some.inj e; omega)).trans D1.out
              · exact (hg7.out.block _ (by omega) (fun e => by have := Option.some.inj e; omega)).trans D2.out
              · rw [HF.out]; show _ = some (Obj.cells y.cells.toArray _ _); rw [← HYD.out]; exact h7.out
          · have HF := Lib.hid (show st (k + 1) = some z by rw [hFz.out, if_neg hcp])
            clear hFz
            go_wp2_with fail
            go_roundg g
            case measure => omega
            case rel =>
              refine ⟨k + 1, by go_num, by omega, by rw [HF.out]; rfl, DB, DZ, D1, D2, Lib.hid ?_, HLN⟩
              rw [HF.out]; show _ = some (Obj.cells z.cells.toArray _ _); rw [← HLC2.out]; exact D3.out
      · obtain rfl : q = true := by rw [hq, beq_eq_false_iff_ne.2 hbb]; rfl
        have hF : Hid (st (k + 1) = st k) := Lib.hid (by rw [hfour.out, if_neg hbb])
        clear hbb hfour hq
        go_wp2_with fail
        go_roundg g
        case measure => omega
        case rel =>
          refine ⟨k + 1, by go_num, by omega, by rw [hF.out, ← HFB.out], XB, XZ, X1, X2, Lib.hid ?_, HLN⟩
          rw [hF.out, ← HLC.out]; exact X3.out
    · obtain rfl : k = ls.length := by omega
      have hnI : ¬ (ls.length : Int) < (ls.length : Int) := by omega
      have hls3 : ((st ls.length).getD lvZero).addr.length = 16 := by
        cases hsk : st ls.length with
        | none => rfl
        | some z => exact HL.out z hsk
      have hl3 := lSize hls3
      have hlz : Z.size = ((st ls.length).getD lvZero).cells.toArray.size := by
        rw [HZ1.out, List.size_toArray, LV.size hls3]
      have hlo := LV.one ((st ls.length).getD lvZero)
      obtain ⟨lc, hlc⟩ : ∃ lc, lc = ((st ls.length).getD lvZero).cells.toArray := ⟨_, rfl⟩
      rw [← hlc] at hl3 hlz hlo H3
      obtain ⟨fd, hfd⟩ : ∃ fd, fd = (st ls.length).isSome := ⟨_, rfl⟩
      rw [← hfd]
      have HLC := Lib.hid hlc
      have HFD := Lib.hid hfd
      have HL3 := Lib.hid hl3
      have HLZ := Lib.hid hlz
      have HLO := Lib.hid hlo
      have xl : ∀ j v, lc.toList[j]? = some v → wr.cell? ((⟨w.heap.size + 1 + 1, 0, none⟩ : Addr).add j) = some v := fun j v hj => by
        rw [Addr.add_lit, Nat.zero_add, cell_of_row _ _ _ _ _ _ H3.out]; simpa using hj
      have XL := Lib.hid xl
      have HZ2 := Lib.hid HZw.out
      clear hls3 hl3 hlz hlo hlc hfd xl
      go_wp2_with (first
        | (refine wpList_load_agg rfl 42 (.tmp 6) rfl ⟨w.heap.size + 1 + 1, 0, none⟩ rfl lc _ XL.out Tryd.underlying42 rfl HL3.out ?_; go_simp)
        | (refine wpList_store_blk rfl 42 (.tmp 4) (.tmp 33) rfl (w.heap.size + 1) Z lc 42 H2.out rfl rfl HL3.out HLZ.out HLO.out ?_; intro w7 h7 hg7 hz7; go_simp))
      refine bodyPost_ret (results_row_tmp rfl _ _ (w.heap.size + 1) 42 lc (0, 0) _ rfl h7.out Tryd.underlying42 rfl HL3.out) rfl ⟨?_, HB.out.grown hg7.out (by have := HZ2.out; omega) (fun j hj => by cases hj; omega)⟩
      rw [HEnd.out, ← HLC.out, ← HFD.out]; rfl
end Go.Proofs.YtoaedlllnkcfnaaDoor
