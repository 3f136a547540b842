/-
  The walk of resolve.Resolve. Conditions: outcomes have no records; kinds are 1 to 5; at most 1000 sources, candidates and outcomes.
-/
import Derived.Test.YtepcogbfoemcmaaDoorResNt
import Derived.Deep.LoopGhost
namespace Go.Proofs.YtepcogbfoemcmaaDoor
open Go.RowKit

theorem note_e {w : World} {g c : Nat} {A : Option Addr} {f : Fo} (x : Oc) (h : FoldAt w g A c f) (ok : f.Ok) (h1 : 1 ≤ x.k) (h5 : x.k ≤ 5) :
    Calls Tryd.prog 25 #[.pointer (some ⟨g, 0, none⟩), .agg x.cells] w (NtPost g A c (f.note x.k) w) := by
  by_cases ha : f.asks = true
  · exact note_yes x h ok h1 h5 ha
  · have e : f.note x.k = f := by unfold Fo.note; rw [if_neg ha]
    rw [e]
    exact note_no x h (by simpa using ha)
theorem results_row_tmp {P : Program} {fn : Func} {p u : Tmp} {ty : TypeId} (h : fn.results = #[.cell p ty, .tmp u]) (tmps : Array Value) (w : World) (g : Nat) (t : TypeId) (cs : Array Value) (fr : Nat × Nat) (d : TypeDesc)
    (hp : tmps.getD p undef = .pointer (some ⟨g, 0, none⟩)) (hg : w.heap[g]? = some (.cells cs t fr))
    (hu : P.underlying ty = some d) (hd : (match d with | .struct _ | .array _ _ => true | _ => false) = true) (hi : (P.info? ty).map (·.size) = some cs.size) :
    (results fn tmps).run P w = .ok (.tuple #[.agg cs, tmps.getD u undef]) w := by
  rw [results_cell_tmp h, hp]
  simp [asAddr, Result.andThen, run_loadVar_row w g t ty cs fr d hg hu hd hi]
/-- outcomes, one behind the other, where a slice says -/
def OutsAt (w : World) (A : Option Addr) (l : List Oc) : Prop :=
  0 < l.length → ∃ b o, A = some ⟨b, o, none⟩ ∧ b < w.heap.size ∧ ∀ k r, l[k]? = some r → ∀ j v, r.cells.toList[j]? = some v → w.cell? ((⟨b, o + k * 4, none⟩ : Addr).add j) = some v
theorem OutsAt.below {w w' : World} {A : Option Addr} {l : List Oc} (h : OutsAt w A l) (hb : Below w.heap.size w w') : OutsAt w' A l := fun h0 => by
  obtain ⟨b, o, rfl, hlt, hc⟩ := h h0
  exact ⟨b, o, rfl, Nat.lt_of_lt_of_le hlt hb.size, fun k r hr j v hv => (hb.cell (p := (⟨b, o + k * 4, none⟩ : Addr).add j) (by rw [Addr.add_lit]; exact hlt)).trans (hc k r hr j v hv)⟩
/-- what outcomes come to, and whether it is over just with the last one -/
def runR (f : Fo) : List Oc → Fo × Bool
  | [] => (f, !f.asks)
  | o :: l => if f.asks then runR (f.note o.k) l else (f, false)
theorem runR_no {f : Fo} {o : Oc} {l : List Oc} (h : f.asks = false) : runR f (o :: l) = (f, false) := by unfold runR; rw [if_neg (by simp [h])]
theorem runR_yes {f : Fo} {o : Oc} {l : List Oc} (h : f.asks = true) : runR f (o :: l) = runR (f.note o.k) l := by rw [runR, if_pos h]
/-- what Resolve keeps -/
structure RsAt (w : World) (g : Nat) (A : Option Addr) (c : Nat) (f : Fo) (wr : World) : Prop where
  below : Below w.heap.size w wr
  res : wr.heap[w.heap.size]? = some (.cells zO.cells 29 (0, 0))
  fold : FoldAt wr g A c f
  gt : w.heap.size < g
theorem RsAt.to {w wr wx : World} {g c : Nat} {A : Option Addr} {f : Fo} (h : RsAt w g A c f wr) (hb : Below wr.heap.size wr wx) : RsAt w g A c f wx :=
  ⟨h.below.trans (hb.mono h.below.size), (hb.block _ (heap_lt h.res)).trans h.res, h.fold.below hb, h.gt⟩
theorem RsAt.note {w wr wx : World} {g c : Nat} {A : Option Addr} {f f' : Fo} (h : RsAt w g A c f wr) (hf : FoldAt wx g A c f') (hg : wr.grownBy wx (some g)) : RsAt w g A c f' wx :=
  ⟨h.below.grown hg h.below.size (fun k e => by injection e with e; have := h.gt; omega), (hg.block _ (heap_lt h.res) (fun e => by injection e with e; have := h.gt; omega)).trans h.res, hf, h.gt⟩
structure AskAt (g : Nat) (f : Fo) (W : World) : Prop where
  ask : W.cell? ⟨g, 2, none⟩ = some (.bool f.asks)
theorem RsAt.ask {w wr : World} {g c : Nat} {A : Option Addr} {f : Fo} (h : RsAt w g A c f wr) : wr.cell? ⟨g, 2, none⟩ = some (.bool f.asks) := (cell_of_row _ g 2 _ _ _ h.fold.blk).trans rfl
def RsPost (r : Fo × Bool) (w : World) (e : Ending) (w' : World) : Prop := e = .returned (.tuple #[.agg r.1.came.cells, .bool r.2]) ∧ Below w.heap.size w w'
set_option maxRecDepth 100000 in
set_option maxHeartbeats 4000000 in
theorem resolve_e (os : List Sr) (n : Int) (v : Value) (l : List Oc) (B : Option Addr) (cb : Nat) (hos : os.length ≤ 1000) (hn : n ≤ 1000) (hl : l.length ≤ 1000) (hk : ∀ o ∈ l, 1 ≤ o.k ∧ o.k ≤ 5) (w : World) (h : RowIn 6 w v os.length (svs os)) (hB : OutsAt w B l) :
    Calls Tryd.prog 12 #[v, .int .i64 n, .slice B l.length cb] w (RsPost (runR (newF os n) l) w) := by
  have HZ := Lib.hid zeroO
  have hb0 := (Below.refl _ w).alloc (Nat.le_refl _) (.cells zO.cells 29)
  have hr0 := heap_alloc_last w (.cells zO.cells 29)
  have hN := new_e os n v hos _ (h.below hb0)
  have HB0 := Lib.hid hb0
  have HR0 := Lib.hid hr0
  have HBO := Lib.hid hB
  have HK := Lib.hid hk
  have HOk0 := Lib.hid (newF_ok os n hos hn)
  have hlI : (l.length : Int) ≤ 1000 := by omega
  obtain ⟨F0, hF0⟩ : ∃ F0, F0 = newF os n := ⟨_, rfl⟩
  unfold NwPost at hN
  rw [← hF0] at hN HOk0 ⊢
  obtain ⟨RR, hRR⟩ : ∃ RR, RR = runR F0 l := ⟨_, rfl⟩
  rw [← hRR]
  have HRR := Lib.hid hRR
  obtain ⟨Z, hZe⟩ : ∃ Z, Z = zO.cells := ⟨_, rfl⟩
  rw [← hZe] at HZ HB0 HR0 hN
  have HZe := Lib.hid hZe
  clear hF0 hb0 hr0 h hB hk hRR hZe
  go_enter Tryd.func12, Tryd.ntmps12
  go_wp2_with (first
    | (refine wpList_alloc_z rfl 29 rfl Z HZ.out ?_; go_simp))
  refine hN.mono ?_
  rintro e w1 ⟨g, A, c, rfl, hg, hf, hb1⟩
  have HA0 : Hid (RsAt w g A c F0 w1) := Lib.hid ⟨HB0.out.trans (hb1.mono HB0.out.size), (hb1.block _ (heap_lt HR0.out)).trans (by rw [← HZe.out]; exact HR0.out), hf, by simp at hg; omega⟩
  clear hN HB0 HR0 hg hf hb1
  go_wp2_with fail
  go_loopg [16, 10] l.length (fun gk i t wr => ∃ (k : Nat) (fk : Fo), i = .int .i64 k ∧ k + gk = l.length ∧ Hid (RsAt w g A c fk wr) ∧ Hid fk.Ok ∧ Hid (RR = runR fk (l.drop k)))
  case atStart => exact ⟨0, F0, rfl, by simp, HA0, HOk0, Lib.hid (by rw [HRR.out, List.drop_zero])⟩
  case round =>
    obtain ⟨k, fk, rfl, hkg, HA, HOk, HRun⟩ := hrel
    by_cases hlt : k < l.length
    · obtain ⟨gk2, rfl⟩ : ∃ gk2, gk = gk2 + 1 := ⟨gk - 1, by omega⟩
      have hltI : (k : Int) < (l.length : Int) := by omega
      obtain ⟨x, hx⟩ : ∃ x, l[k]? = some x := ⟨_, List.getElem?_eq_getElem hlt⟩
      obtain ⟨b, o, rfl, hbl, hc⟩ := HBO.out (by omega)
      have hxk := HK.out x (List.mem_of_getElem? hx)
      have HXC : Hid (∀ j v, x.cells.toList[j]? = some v → wr.cell? ((⟨b, o + k * 4, none⟩ : Addr).add j) = some v) := Lib.hid (fun j v hj => (HA.out.below.cell (p := (⟨b, o + k * 4, none⟩ : Addr).add j) (by rw [Addr.add_lit]; exact hbl)).trans (hc k x hx j v hj))
      have HXS := Lib.hid (sizeO x)
      have HX1 := Lib.hid x.one
      have HXZ : Hid (Z.size = x.cells.size) := Lib.hid (by rw [HZe.out]; rfl)
      have hd : l.drop k = x :: l.drop (k + 1) := by
        rw [List.drop_eq_getElem_cons hlt]
        congr 1
        exact Option.some.inj ((List.getElem?_eq_getElem hlt).symm.trans hx)
      have HD := Lib.hid hd
      have hA2 := HA.out.to ((Below.refl _ wr).alloc (Nat.le_refl _) (.cells x.cells 29))
      have HA2 := Lib.hid hA2
      have HXB := Lib.hid (heap_alloc_last wr (.cells x.cells 29))
      have d2 := (cell_of_row _ g 2 _ _ _ hA2.fold.blk).trans (rfl : _ = some (Value.bool fk.asks))
      have HNt : Hid (∀ W : World, FoldAt W g A c fk → Calls Tryd.prog 25 #[.pointer (some ⟨g, 0, none⟩), .agg x.cells] W (NtPost g A c (fk.note x.k) W)) := Lib.hid (fun W hW => note_e x hW HOk.out hxk.1 hxk.2)
      have HOk2 := Lib.hid (HOk.out.note hxk.1 hxk.2)
      clear hd hx hc hbl hxk hA2
      generalize hXX : x.cells = XC at HXC HXS HX1 HXZ HA2 HXB d2 HNt
      clear hXX
      by_cases ha : fk.asks = true
      · have HR2 : Hid (RR = runR (fk.note x.k) (l.drop (k + 1))) := Lib.hid (by rw [HRun.out, HD.out, runR_yes ha])
        rw [ha] at d2
        clear ha HRun HD
        go_upto_region 7 with (first
          | (refine wpList_load_agg rfl 29 (.tmp 18) rfl ⟨b, o + k * 4, none⟩ rfl XC _ HXC.out Tryd.underlying29 rfl HXS.out ?_; go_simp)
          | (refine wpList_alloc_z rfl 29 rfl Z HZ.out ?_; go_simp)
          | (refine wpList_store_new rfl 29 (.tmp 10) (.tmp 19) rfl wr.heap.size rfl Z XC 29 rfl rfl HXS.out HXZ.out HX1.out ?_; go_simp))
        generalize wr.alloc (.cells XC 29) = W5 at HA2 HXB d2 ⊢
        go_wp2_with (refine wpList_load_row rfl 29 (.tmp 10) rfl wr.heap.size rfl 29 XC (0, 0) _ HXB.out Tryd.underlying29 rfl HXS.out ?_; go_simp)
        refine (HNt.out _ HA2.out.fold).mono ?_
        rintro e w6 ⟨rfl, hf6, hg6⟩
        have HA6 := Lib.hid (HA2.out.note hf6 hg6)
        clear hf6 hg6 d2 HXB HA2 HNt HA
        go_wp2_with fail
        go_roundg gk2
        case measure => omega
        case rel => exact ⟨k + 1, fk.note x.k, by go_num, by omega, HA6, HOk2, HR2⟩
      · have ha' : fk.asks = false := by simpa using ha
        have HR2 : Hid (RR = (fk, false)) := Lib.hid (by rw [HRun.out, HD.out, runR_no ha'])
        rw [ha'] at d2
        clear ha ha' HRun HD HNt HOk2
        go_upto_region 6 with (first
          | (refine wpList_load_agg rfl 29 (.tmp 18) rfl ⟨b, o + k * 4, none⟩ rfl XC _ HXC.out Tryd.underlying29 rfl HXS.out ?_; go_simp)
          | (refine wpList_alloc_z rfl 29 rfl Z HZ.out ?_; go_simp)
          | (refine wpList_store_new rfl 29 (.tmp 10) (.tmp 19) rfl wr.heap.size rfl Z XC 29 rfl rfl HXS.out HXZ.out HX1.out ?_; go_simp))
        generalize wr.alloc (.cells XC 29) = W5 at HA2 HXB d2 ⊢
        have HSC := Lib.hid (sizeO fk.came)
        have HS1 := Lib.hid fk.came.one
        have HSZ : Hid (Z.size = fk.came.cells.size) := Lib.hid (by rw [HZe.out]; rfl)
        go_wp2_with fail
        refine (reply_e HA2.out.fold).mono ?_
        rintro e w6 ⟨rfl, hb6⟩
        have HA6 := Lib.hid (HA2.out.to hb6)
        have HCe : Hid (fk.came.cells = fk.came.cells) := Lib.hid rfl
        clear hb6 d2 HXB HA2 HA
        obtain ⟨CC, hCC⟩ : ∃ CC, CC = fk.came.cells := ⟨_, rfl⟩
        rw [← hCC] at HSC HS1 HSZ ⊢
        have HCC := Lib.hid hCC
        clear hCC HCe
        go_wp2_with (refine wpList_store_blk rfl 29 (.tmp 6) (.tmp 26) rfl w.heap.size Z CC 29 (by rw [HZe.out]; exact HA6.out.res) rfl rfl HSC.out HSZ.out HS1.out ?_; intro w9 hg9 hw9 hz9; go_simp)
        exact bodyPost_ret (results_row_tmp rfl _ w9 w.heap.size 29 CC (0, 0) _ rfl hg9.out Tryd.underlying29 rfl HSC.out) rfl ⟨by rw [HR2.out, HCC.out]; rfl, HA6.out.below.grown hw9.out HA6.out.below.size (fun k e => by injection e with e; omega)⟩
    · obtain rfl : k = l.length := by omega
      have hltI : ¬ (l.length : Int) < (l.length : Int) := by omega
      rw [List.drop_length] at HRun
      have HSC := Lib.hid (sizeO fk.came)
      have HS1 := Lib.hid fk.came.one
      have HSZ : Hid (0 + fk.came.cells.size ≤ Z.size) := Lib.hid (by rw [HZe.out]; exact Nat.le_refl _)
      have HSE : Hid ((Z.toList.take 0 ++ fk.came.cells.toList ++ Z.toList.drop (0 + fk.came.cells.size)).toArray = fk.came.cells) := Lib.hid (by rw [HZe.out]; rfl)
      have HRep : Hid (∀ W : World, RsAt w g A c fk W → Calls Tryd.prog 24 #[.pointer (some ⟨g, 0, none⟩)] W fun e w' => e = .returned (.agg fk.came.cells) ∧ Below W.heap.size W w') := Lib.hid (fun W hW => reply_e hW.fold)
      obtain ⟨CC, hCC⟩ : ∃ CC, CC = fk.came.cells := ⟨_, rfl⟩
      rw [← hCC] at HSC HS1 HSZ HSE HRep
      have HCe := Lib.hid hCC
      clear hCC
      go_upto_region 9 with fail
      refine wp_region_held_drew (S := (fun _ : World => True)) (by kernel_rfl) trivial (fun _ => ?_)
      have HM0 : Hid (RsAt w g A c fk wr.drew) := Lib.hid (HA.out.to (Below.refl _ wr).drew)
      generalize wr.drew = V0 at HM0 ⊢
      refine wpAnyH_take (i := 0) (oi := ({ dst := some 31, op := Go.Op.move (Go.Operand.tmp 8), type := 70, pos := "resolve.go:130", after := #[], guard := none } : Oper)) (v := .pointer (some ⟨g, 0, none⟩)) rfl (by kernel_rfl) (by kernel_rfl) (by kernel_rfl) (fun _ _ _ h => h) (Or.inl ⟨by rfl, fun w' _ => ?_⟩) trivial ?_
      · go_simp
      simp only [Act.put, List.setIfInBounds_toArray, List.set_cons_zero, List.set_cons_succ]
      refine wpAnyH_take (i := 2) (oi := ({ dst := some 33, op := Go.Op.move (Go.Operand.tmp 8), type := 70, pos := "resolve.go:130", after := #[{ on := 7, ground := Go.Ground.gcOnly Go.Departure.lateStores }], guard := none } : Oper)) (v := .pointer (some ⟨g, 0, none⟩)) rfl (by kernel_rfl) (by kernel_rfl) (by kernel_rfl) (fun _ _ _ h => h) (Or.inl ⟨by rfl, fun w' _ => ?_⟩) trivial ?_
      · go_simp
      simp only [Act.put, List.setIfInBounds_toArray, List.set_cons_zero, List.set_cons_succ]
      refine wpAnyH_take (i := 3) (oi := ({ dst := some 34, op := Go.Op.nilCheck (Go.Operand.tmp 33), type := 0, pos := "resolve.go:130", after := #[{ on := 2, ground := Go.Ground.data }, { on := 7, ground := Go.Ground.gcOnly Go.Departure.lateStores }], guard := none } : Oper)) (v := .pointer (some ⟨g, 0, none⟩)) rfl (by kernel_rfl) (by kernel_rfl) (by kernel_rfl) (fun _ _ _ h => h) (Or.inl ⟨by rfl, fun w' _ => ?_⟩) trivial ?_
      · go_simp
      simp only [Act.put, List.setIfInBounds_toArray, List.set_cons_zero, List.set_cons_succ]
      refine wpAnyH_take (i := 4) (oi := ({ dst := some 35, op := Go.Op.fieldAddr 73 (Go.Operand.tmp 34) 2, type := 0, pos := "resolve.go:130", after := #[{ on := 3, ground := Go.Ground.data }, { on := 7, ground := Go.Ground.gcOnly Go.Departure.lateStores }], guard := none } : Oper)) (v := .pointer (some ⟨g, 2, none⟩)) rfl (by kernel_rfl) (by kernel_rfl) (by kernel_rfl) (fun _ _ _ h => h) (Or.inl ⟨by rfl, fun w' _ => ?_⟩) trivial ?_
      · go_simp
      simp only [Act.put, List.setIfInBounds_toArray, List.set_cons_zero, List.set_cons_succ]
      refine wpAnyH_ready (rs := [1, 5]) (by kernel_rfl) (by simp) ?_
      refine (AllReadyH.cons (o := ({ dst := some 32, op := Go.Op.call { callee := Go.Callee.value (Go.Operand.func 24), args := #[Go.Operand.tmp 31], argTypes := #[70] }, type := 29, pos := "resolve.go:130", after := #[{ on := 0, ground := Go.Ground.data }], guard := none } : Oper)) rfl (fun K hK => ?_) (AllReadyH.cons (o := ({ dst := some 36, op := Go.Op.load 4 (Go.Operand.tmp 35), type := 4, pos := "resolve.go:130", after := #[{ on := 4, ground := Go.Ground.data }, { on := 7, ground := Go.Ground.gcOnly Go.Departure.lateStores }], guard := none } : Oper)) rfl (fun K hK => ?_) AllReadyH.nil))
      · go_simp
        go_at_call 24
        refine (HRep.out _ HM0.out).mono ?_
        rintro e' U1 ⟨rfl, hbm⟩
        have HM2 := Lib.hid (HM0.out.to hbm)
        refine hK.out _ _ trivial (fun _ => ?_)
        clear hK K hbm
        try simp only [Act.put, List.setIfInBounds_toArray, List.set_cons_zero, List.set_cons_succ]
        refine wpAnyH_ready (rs := [5, 7]) (by kernel_rfl) (by simp) ?_
        refine (AllReadyH.cons (o := ({ dst := some 36, op := Go.Op.load 4 (Go.Operand.tmp 35), type := 4, pos := "resolve.go:130", after := #[{ on := 4, ground := Go.Ground.data }, { on := 7, ground := Go.Ground.gcOnly Go.Departure.lateStores }], guard := none } : Oper)) rfl (fun K hK => ?_) (AllReadyH.cons (o := ({ dst := none, op := Go.Op.store 29 (Go.Operand.tmp 6) (Go.Operand.tmp 32), type := 0, pos := "resolve.go:130", after := #[{ on := 1, ground := Go.Ground.data }, { on := 1, ground := Go.Ground.chain }, { on := 0, ground := Go.Ground.phase }, { on := 1, ground := Go.Ground.phase }, { on := 2, ground := Go.Ground.textOnly Go.Departure.lateStores }, { on := 3, ground := Go.Ground.textOnly Go.Departure.lateStores }, { on := 4, ground := Go.Ground.textOnly Go.Departure.lateStores }, { on := 5, ground := Go.Ground.textOnly Go.Departure.lateStores }, { on := 6, ground := Go.Ground.textOnly Go.Departure.lateStores }], guard := none } : Oper)) rfl (fun K hK => ?_) AllReadyH.nil))
        · have hcell := HM2.out.ask
          rw [if_pos (by kernel_rfl)]
          go_simp
          refine hK.out _ _ trivial (fun _ => ?_)
          clear hK K hcell
          try simp only [Act.put, List.setIfInBounds_toArray, List.set_cons_zero, List.set_cons_succ]
          refine wpAnyH_take (i := 6) (oi := ({ dst := some 37, op := Go.Op.unOp Go.UnOp.not 4 (Go.Operand.tmp 36), type := 4, pos := "resolve.go:130", after := #[{ on := 5, ground := Go.Ground.data }, { on := 7, ground := Go.Ground.gcOnly Go.Departure.lateStores }], guard := none } : Oper)) (v := .bool (!fk.asks)) rfl (by kernel_rfl) (by kernel_rfl) (by kernel_rfl) (fun _ _ _ h => h) (Or.inl ⟨by rfl, fun w' _ => ?_⟩) trivial ?_
          · go_simp
          simp only [Act.put, List.setIfInBounds_toArray, List.set_cons_zero, List.set_cons_succ]
          refine wpAnyH_ready (rs := [7]) (by kernel_rfl) (by simp) ?_
          refine (AllReadyH.cons (o := ({ dst := none, op := Go.Op.store 29 (Go.Operand.tmp 6) (Go.Operand.tmp 32), type := 0, pos := "resolve.go:130", after := #[{ on := 1, ground := Go.Ground.data }, { on := 1, ground := Go.Ground.chain }, { on := 0, ground := Go.Ground.phase }, { on := 1, ground := Go.Ground.phase }, { on := 2, ground := Go.Ground.textOnly Go.Departure.lateStores }, { on := 3, ground := Go.Ground.textOnly Go.Departure.lateStores }, { on := 4, ground := Go.Ground.textOnly Go.Departure.lateStores }, { on := 5, ground := Go.Ground.textOnly Go.Departure.lateStores }, { on := 6, ground := Go.Ground.textOnly Go.Departure.lateStores }], guard := none } : Oper)) rfl (fun K hK => ?_) AllReadyH.nil)
          rw [if_pos (by kernel_rfl)]
          refine wp_store_sub 29 (.tmp 6) (.tmp 32) rfl w.heap.size 0 Z CC CC 29 (by rw [HZe.out]; exact HM2.out.res) rfl rfl HSC.out HSZ.out HS1.out HSE.out ?_
          have HY9 := Lib.hid (setRow_heap U1 w.heap.size Z CC 29 _ (by rw [HZe.out]; exact HM2.out.res))
          have HW9 : Hid (Below w.heap.size w (U1.setRow w.heap.size CC)) := Lib.hid (HM2.out.below.grown (show U1.grownBy (U1.setRow w.heap.size CC) (some w.heap.size) from ⟨rfl, rfl, rfl, by simp, fun k _ hk => setRow_other U1 w.heap.size k CC (fun e => hk (by rw [e]))⟩) HM2.out.below.size (fun k e => by injection e with e; omega))
          have HM4 : Hid (AskAt g fk (U1.setRow w.heap.size CC)) := Lib.hid ⟨(cell_of_row _ g 2 _ _ _ ((setRow_other U1 w.heap.size g CC (by have := HM2.out.gt; omega)).trans HM2.out.fold.blk)).trans rfl⟩
          refine hK.out _ _ trivial (fun _ => ?_)
          clear hK K
          generalize U1.setRow w.heap.size CC = U3 at HY9 HW9 HM4 ⊢
          try simp only [Act.put]
          refine wpAnyH_take (i := 8) (oi := ({ dst := some 7, op := Go.Op.assign (Go.Operand.tmp 37), type := 4, pos := "resolve.go:130", after := #[{ on := 6, ground := Go.Ground.data }, { on := 7, ground := Go.Ground.chain }, { on := 0, ground := Go.Ground.phase }, { on := 1, ground := Go.Ground.phase }, { on := 2, ground := Go.Ground.phase }, { on := 3, ground := Go.Ground.phase }, { on := 4, ground := Go.Ground.phase }, { on := 5, ground := Go.Ground.phase }, { on := 6, ground := Go.Ground.phase }, { on := 7, ground := Go.Ground.phase }], guard := none } : Oper)) (v := .bool (!fk.asks)) rfl (by kernel_rfl) (by kernel_rfl) (by kernel_rfl) (fun _ _ _ h => h) (Or.inl ⟨by rfl, fun w' _ => ?_⟩) trivial ?_
          · go_simp
          simp only [Act.put, List.setIfInBounds_toArray, List.set_cons_zero, List.set_cons_succ]
          refine wpAnyH_done (by kernel_rfl) ?_ _
          go_wp2_with fail
          exact bodyPost_ret (results_row_tmp rfl _ U3 w.heap.size 29 CC (0, 0) _ rfl HY9.out Tryd.underlying29 rfl HSC.out) rfl ⟨by rw [HRun.out, HCe.out]; rfl, HW9.out⟩
        · rw [if_pos (by kernel_rfl)]
          refine wp_store_sub 29 (.tmp 6) (.tmp 32) rfl w.heap.size 0 Z CC CC 29 (by rw [HZe.out]; exact HM2.out.res) rfl rfl HSC.out HSZ.out HS1.out HSE.out ?_
          have HY9 := Lib.hid (setRow_heap U1 w.heap.size Z CC 29 _ (by rw [HZe.out]; exact HM2.out.res))
          have HW9 : Hid (Below w.heap.size w (U1.setRow w.heap.size CC)) := Lib.hid (HM2.out.below.grown (show U1.grownBy (U1.setRow w.heap.size CC) (some w.heap.size) from ⟨rfl, rfl, rfl, by simp, fun k _ hk => setRow_other U1 w.heap.size k CC (fun e => hk (by rw [e]))⟩) HM2.out.below.size (fun k e => by injection e with e; omega))
          have HM6 : Hid (AskAt g fk (U1.setRow w.heap.size CC)) := Lib.hid ⟨(cell_of_row _ g 2 _ _ _ ((setRow_other U1 w.heap.size g CC (by have := HM2.out.gt; omega)).trans HM2.out.fold.blk)).trans rfl⟩
          refine hK.out _ _ trivial (fun _ => ?_)
          clear hK K
          generalize U1.setRow w.heap.size CC = U5 at HY9 HW9 HM6 ⊢
          try simp only [Act.put]
          refine wpAnyH_ready (rs := [5]) (by kernel_rfl) (by simp) ?_
          refine (AllReadyH.cons (o := ({ dst := some 36, op := Go.Op.load 4 (Go.Operand.tmp 35), type := 4, pos := "resolve.go:130", after := #[{ on := 4, ground := Go.Ground.data }, { on := 7, ground := Go.Ground.gcOnly Go.Departure.lateStores }], guard := none } : Oper)) rfl (fun K hK => ?_) AllReadyH.nil)
          have hcell := HM6.out.ask
          rw [if_pos (by kernel_rfl)]
          go_simp
          refine hK.out _ _ trivial (fun _ => ?_)
          clear hK K hcell
          try simp only [Act.put, List.setIfInBounds_toArray, List.set_cons_zero, List.set_cons_succ]
          refine wpAnyH_take (i := 6) (oi := ({ dst := some 37, op := Go.Op.unOp Go.UnOp.not 4 (Go.Operand.tmp 36), type := 4, pos := "resolve.go:130", after := #[{ on := 5, ground := Go.Ground.data }, { on := 7, ground := Go.Ground.gcOnly Go.Departure.lateStores }], guard := none } : Oper)) (v := .bool (!fk.asks)) rfl (by kernel_rfl) (by kernel_rfl) (by kernel_rfl) (fun _ _ _ h => h) (Or.inl ⟨by rfl, fun w' _ => ?_⟩) trivial ?_
          · go_simp
          simp only [Act.put, List.setIfInBounds_toArray, List.set_cons_zero, List.set_cons_succ]
          refine wpAnyH_take (i := 8) (oi := ({ dst := some 7, op := Go.Op.assign (Go.Operand.tmp 37), type := 4, pos := "resolve.go:130", after := #[{ on := 6, ground := Go.Ground.data }, { on := 7, ground := Go.Ground.chain }, { on := 0, ground := Go.Ground.phase }, { on := 1, ground := Go.Ground.phase }, { on := 2, ground := Go.Ground.phase }, { on := 3, ground := Go.Ground.phase }, { on := 4, ground := Go.Ground.phase }, { on := 5, ground := Go.Ground.phase }, { on := 6, ground := Go.Ground.phase }, { on := 7, ground := Go.Ground.phase }], guard := none } : Oper)) (v := .bool (!fk.asks)) rfl (by kernel_rfl) (by kernel_rfl) (by kernel_rfl) (fun _ _ _ h => h) (Or.inl ⟨by rfl, fun w' _ => ?_⟩) trivial ?_
          · go_simp
          simp only [Act.put, List.setIfInBounds_toArray, List.set_cons_zero, List.set_cons_succ]
          refine wpAnyH_done (by kernel_rfl) ?_ _
          go_wp2_with fail
          exact bodyPost_ret (results_row_tmp rfl _ U5 w.heap.size 29 CC (0, 0) _ rfl HY9.out Tryd.underlying29 rfl HSC.out) rfl ⟨by rw [HRun.out, HCe.out]; rfl, HW9.out⟩
      · have hcell := HM0.out.ask
        rw [if_pos (by kernel_rfl)]
        go_simp
        refine hK.out _ _ trivial (fun _ => ?_)
        clear hK K hcell
        try simp only [Act.put, List.setIfInBounds_toArray, List.set_cons_zero, List.set_cons_succ]
        refine wpAnyH_take (i := 6) (oi := ({ dst := some 37, op := Go.Op.unOp Go.UnOp.not 4 (Go.Operand.tmp 36), type := 4, pos := "resolve.go:130", after := #[{ on := 5, ground := Go.Ground.data }, { on := 7, ground := Go.Ground.gcOnly Go.Departure.lateStores }], guard := none } : Oper)) (v := .bool (!fk.asks)) rfl (by kernel_rfl) (by kernel_rfl) (by kernel_rfl) (fun _ _ _ h => h) (Or.inl ⟨by rfl, fun w' _ => ?_⟩) trivial ?_
        · go_simp
        simp only [Act.put, List.setIfInBounds_toArray, List.set_cons_zero, List.set_cons_succ]
        refine wpAnyH_ready (rs := [1]) (by kernel_rfl) (by simp) ?_
        refine (AllReadyH.cons (o := ({ dst := some 32, op := Go.Op.call { callee := Go.Callee.value (Go.Operand.func 24), args := #[Go.Operand.tmp 31], argTypes := #[70] }, type := 29, pos := "resolve.go:130", after := #[{ on := 0, ground := Go.Ground.data }], guard := none } : Oper)) rfl (fun K hK => ?_) AllReadyH.nil)
        go_simp
        go_at_call 24
        refine (HRep.out _ HM0.out).mono ?_
        rintro e' U7 ⟨rfl, hbm⟩
        have HM8 := Lib.hid (HM0.out.to hbm)
        refine hK.out _ _ trivial (fun _ => ?_)
        clear hK K hbm
        try simp only [Act.put, List.setIfInBounds_toArray, List.set_cons_zero, List.set_cons_succ]
        refine wpAnyH_ready (rs := [7]) (by kernel_rfl) (by simp) ?_
        refine (AllReadyH.cons (o := ({ dst := none, op := Go.Op.store 29 (Go.Operand.tmp 6) (Go.Operand.tmp 32), type := 0, pos := "resolve.go:130", after := #[{ on := 1, ground := Go.Ground.data }, { on := 1, ground := Go.Ground.chain }, { on := 0, ground := Go.Ground.phase }, { on := 1, ground := Go.Ground.phase }, { on := 2, ground := Go.Ground.textOnly Go.Departure.lateStores }, { on := 3, ground := Go.Ground.textOnly Go.Departure.lateStores }, { on := 4, ground := Go.Ground.textOnly Go.Departure.lateStores }, { on := 5, ground := Go.Ground.textOnly Go.Departure.lateStores }, { on := 6, ground := Go.Ground.textOnly Go.Departure.lateStores }], guard := none } : Oper)) rfl (fun K hK => ?_) AllReadyH.nil)
        rw [if_pos (by kernel_rfl)]
        refine wp_store_sub 29 (.tmp 6) (.tmp 32) rfl w.heap.size 0 Z CC CC 29 (by rw [HZe.out]; exact HM8.out.res) rfl rfl HSC.out HSZ.out HS1.out HSE.out ?_
        have HY9 := Lib.hid (setRow_heap U7 w.heap.size Z CC 29 _ (by rw [HZe.out]; exact HM8.out.res))
        have HW9 : Hid (Below w.heap.size w (U7.setRow w.heap.size CC)) := Lib.hid (HM8.out.below.grown (show U7.grownBy (U7.setRow w.heap.size CC) (some w.heap.size) from ⟨rfl, rfl, rfl, by simp, fun k _ hk => setRow_other U7 w.heap.size k CC (fun e => hk (by rw [e]))⟩) HM8.out.below.size (fun k e => by injection e with e; omega))
        have HM10 : Hid (AskAt g fk (U7.setRow w.heap.size CC)) := Lib.hid ⟨(cell_of_row _ g 2 _ _ _ ((setRow_other U7 w.heap.size g CC (by have := HM8.out.gt; omega)).trans HM8.out.fold.blk)).trans rfl⟩
        refine hK.out _ _ trivial (fun _ => ?_)
        clear hK K
        generalize U7.setRow w.heap.size CC = U9 at HY9 HW9 HM10 ⊢
        try simp only [Act.put]
        refine wpAnyH_take (i := 8) (oi := ({ dst := some 7, op := Go.Op.assign (Go.Operand.tmp 37), type := 4, pos := "resolve.go:130", after := #[{ on := 6, ground := Go.Ground.data }, { on := 7, ground := Go.Ground.chain }, { on := 0, ground := Go.Ground.phase }, { on := 1, ground := Go.Ground.phase }, { on := 2, ground := Go.Ground.phase }, { on := 3, ground := Go.Ground.phase }, { on := 4, ground := Go.Ground.phase }, { on := 5, ground := Go.Ground.phase }, { on := 6, ground := Go.Ground.phase }, { on := 7, ground := Go.Ground.phase }], guard := none } : Oper)) (v := .bool (!fk.asks)) rfl (by kernel_rfl) (by kernel_rfl) (by kernel_rfl) (fun _ _ _ h => h) (Or.inl ⟨by rfl, fun w' _ => ?_⟩) trivial ?_
        · go_simp
        simp only [Act.put, List.setIfInBounds_toArray, List.set_cons_zero, List.set_cons_succ]
        refine wpAnyH_done (by kernel_rfl) ?_ _
        go_wp2_with fail
        exact bodyPost_ret (results_row_tmp rfl _ U9 w.heap.size 29 CC (0, 0) _ rfl HY9.out Tryd.underlying29 rfl HSC.out) rfl ⟨by rw [HRun.out, HCe.out]; rfl, HW9.out⟩
end Go.Proofs.YtepcogbfoemcmaaDoor
