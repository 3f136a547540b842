/-
  The walk of a fold's Note. Conditions: outcomes have no records; kinds are 1 to 5; at most 1000 sources and candidates.
-/
import Derived.Test.YtepcogbfoemcmaaDoorResNote
namespace Go.Proofs.YtepcogbfoemcmaaDoor
open Go.RowKit

section
variable {P : Program}
/-- a value of several cells into a part of a block, as a step of a region -/
theorem wp_store_sub {o : Oper} {a : Act} {w : World} {K : Act → World → Prop} {Q : Exit → Act → World → Prop} (ty : TypeId) (x y : Operand) (ho : o.op = .store ty x y) (g off : Nat) (z cells z' : Array Value) (t : TypeId) (hg : w.heap[g]? = some (.cells z t (0, 0)))
    (hx : a.eval x = .pointer (some ⟨g, off, none⟩)) (hy : a.eval y = .agg cells) (hi : (P.info? ty).map (·.size) = some cells.size) (hz : off + cells.size ≤ z.size) (h1 : cells.all (·.oneCell') = true)
    (he : (z.toList.take off ++ cells.toList ++ z.toList.drop (off + cells.size)).toArray = z')
    (h : K (a.put o.dst undef) (w.setRow g z')) : o.wp P a w K Q := by
  have hst := run_storeCells_at P g off t cells.toList 0 z w hg (by simpa using hz) (fun v hv => (Array.all_eq_true_iff_forall_mem.1 h1) v (by simpa using hv))
  simp only [Nat.add_zero, Array.length_toList, he] at hst
  have hsv : (storeVar ty ⟨g, off, none⟩ (.agg cells)).run P w = .ok () (w.setRow g z') := by
    cases hq : P.info? ty with
    | none => simp [hq] at hi
    | some i =>
      have hs : cells.size = i.size := by simp [hq] at hi; omega
      simp [storeVar, sizeOf, typeInfo, hq, Value.cells, hs, hst]
  unfold Oper.wp execOp
  simp only [ho, hx, hy, Instr.storeAt, Instr.sureAddr, Sem.run_bind, Sem.run_pure, Result.andThen_ok, hsv]
  exact h
end
/-- what it came to with one outcome more -/
def Fo.cm (f : Fo) (k : Int) : Oc := if f.cand = 0 then ⟨f.src, f.cand, k⟩ else bothO f.came ⟨f.src, f.cand, k⟩
def Fo.f1 (f : Fo) (k : Int) : Fo := { f with came := f.cm k, cand := f.cand + 1 }
/-- an outcome is noted -/
def Fo.note (f : Fo) (k : Int) : Fo :=
  if f.asks then
    if k = 1 ∨ ((f.cand + 1 : Nat) : Int) = f.n then (match f.os[f.src]? with | some s => (f.f1 k).leave s | none => f.f1 k) else f.f1 k
  else f
structure Fo.Ok (f : Fo) : Prop where
  len : f.os.length ≤ 1000
  n : f.n ≤ 1000
  k1 : 1 ≤ f.came.k
  k5 : f.came.k ≤ 5
  src : f.asks = true → f.src < f.os.length
  cand : f.asks = true → (f.cand : Int) < f.n
theorem bothO_k {x y : Oc} (hx1 : 1 ≤ x.k) (hx5 : x.k ≤ 5) (hy1 : 1 ≤ y.k) (hy5 : y.k ≤ 5) : 1 ≤ (bothO x y).k ∧ (bothO x y).k ≤ 5 := by
  unfold bothO; split <;> exact ⟨by assumption, by assumption⟩
theorem Fo.Ok.cm {f : Fo} (h : f.Ok) {k : Int} (h1 : 1 ≤ k) (h5 : k ≤ 5) : 1 ≤ (f.cm k).k ∧ (f.cm k).k ≤ 5 := by
  unfold Fo.cm
  split
  · exact ⟨h1, h5⟩
  · exact bothO_k h.k1 h.k5 h1 h5
theorem Fo.Ok.note {f : Fo} (h : f.Ok) {k : Int} (h1 : 1 ≤ k) (h5 : k ≤ 5) : (f.note k).Ok := by
  unfold Fo.note
  have hc := h.cm h1 h5
  by_cases ha : f.asks = true
  · rw [if_pos ha]
    have hs := h.src ha
    have hn := h.cand ha
    by_cases hk : k = 1 ∨ ((f.cand + 1 : Nat) : Int) = f.n
    · rw [if_pos hk, List.getElem?_eq_getElem hs]
      refine ⟨h.len, h.n, hc.1, hc.2, fun e => ?_, fun e => ?_⟩
      · have e2 := (Bool.and_eq_true _ _ ▸ e : _ ∧ _).2
        exact of_decide_eq_true e2
      · show ((0 : Nat) : Int) < f.n
        omega
    · rw [if_neg hk]
      refine ⟨h.len, h.n, hc.1, hc.2, fun _ => hs, fun _ => ?_⟩
      show ((f.cand + 1 : Nat) : Int) < f.n
      have : ¬ ((f.cand + 1 : Nat) : Int) = f.n := fun e => hk (.inr e)
      omega
  · rw [if_neg ha]; exact h
theorem newF_ok (os : List Sr) (n : Int) (hl : os.length ≤ 1000) (hn : n ≤ 1000) : (newF os n).Ok := by
  refine ⟨hl, hn, (by show (1 : Int) ≤ 3; decide), (by show (3 : Int) ≤ 5; decide), fun e => ?_, fun e => ?_⟩
  · simp [newF] at e ⊢; exact e.1
  · simp [newF] at e ⊢; exact e.2
def NtPost (g : Nat) (A : Option Addr) (c : Nat) (f' : Fo) (w : World) (e : Ending) (w' : World) : Prop := e = .returned (.tuple #[]) ∧ FoldAt w' g A c f' ∧ w.grownBy w' (some g)
theorem note_no {w : World} {g c : Nat} {A : Option Addr} {f : Fo} (x : Oc) (h : FoldAt w g A c f) (ha : f.asks = false) :
    Calls Tryd.prog 25 #[.pointer (some ⟨g, 0, none⟩), .agg x.cells] w (NtPost g A c f w) := by
  have hb := (Below.refl _ w).alloc (Nat.le_refl _) (.cells x.cells 29)
  have h0 := h.below hb
  have d2 := (cell_of_row _ g 2 _ _ _ h0.blk).trans (rfl : _ = some (Value.bool f.asks))
  rw [ha] at d2
  have H0 := Lib.hid h0
  have HB := Lib.hid hb
  clear h h0 ha hb
  generalize x.cells = X at d2 H0 HB ⊢
  go_enter Tryd.func25, Tryd.ntmps25
  go_wp2_with fail
  go_end0
  exact ⟨rfl, H0.out, grown_below HB.out⟩
set_option maxRecDepth 100000 in
set_option maxHeartbeats 2000000 in
theorem note_yes {w : World} {g c : Nat} {A : Option Addr} {f : Fo} (x : Oc) (h : FoldAt w g A c f) (ok : f.Ok) (h1 : 1 ≤ x.k) (h5 : x.k ≤ 5) (ha : f.asks = true) :
    Calls Tryd.prog 25 #[.pointer (some ⟨g, 0, none⟩), .agg x.cells] w (NtPost g A c (f.note x.k) w) := by
  obtain ⟨s, hs⟩ : ∃ s, f.os[f.src]? = some s := ⟨_, List.getElem?_eq_getElem (ok.src ha)⟩
  have hb := (Below.refl _ w).alloc (Nat.le_refl _) (.cells x.cells 29)
  have h0 := h.below hb
  have hg0 := heap_alloc_last w (.cells x.cells 29)
  have hne : g ≠ w.heap.size := Nat.ne_of_lt (heap_lt h.blk)
  have HNE := Lib.hid hne
  have HB0 := Lib.hid hb
  have HG0 := Lib.hid hg0
  have HOC : Hid ((x.cells.setIfInBounds 0 (.int .i64 (f.src : Int))).setIfInBounds 1 (.int .i64 (f.cand : Int)) = Oc.cells ⟨f.src, f.cand, x.k⟩) := Lib.hid rfl
  have HW := Lib.hid h
  have HOk := Lib.hid ok
  have HS := Lib.hid hs
  have hcI : (f.cand : Int) < 1000 := by have := ok.cand ha; have := ok.n; omega
  have hc0 : (0 : Int) ≤ (f.cand : Int) := by omega
  have d2 := (cell_of_row _ g 2 _ _ _ h0.blk).trans (rfl : _ = some (Value.bool f.asks))
  rw [ha] at d2
  have d3 := (cell_of_row _ g 3 _ _ _ h0.blk).trans (rfl : _ = some (Value.int .i64 f.src))
  have d4 := (cell_of_row _ g 4 _ _ _ h0.blk).trans (rfl : _ = some (Value.int .i64 f.cand))
  have x0 := (cell_of_row _ w.heap.size 0 _ _ _ hg0).trans (rfl : _ = some (Value.int .i64 x.s))
  have x1 := (cell_of_row _ w.heap.size 1 _ _ _ hg0).trans (rfl : _ = some (Value.int .i64 x.c))
  have xf0 := frozen_of_row _ w.heap.size 0 _ _ hg0
  have xf1 := frozen_of_row _ w.heap.size 1 _ _ hg0
  clear h h0 hg0 hb hne ok hs
  generalize x.cells = X at d2 d3 d4 x0 x1 xf0 xf1 HOC HB0 HG0 ⊢
  go_enter Tryd.func25, Tryd.ntmps25
  go_upto_region 2 with fail
  generalize w.alloc (.cells X 29) = W0 at d2 d3 d4 x0 x1 xf0 xf1 HB0 HG0 ⊢
  go_region
  have HG1 : Hid ((((W0.setCell ⟨w.heap.size, 0, none⟩ (.int .i64 (f.src : Int))).setCell ⟨w.heap.size, 1, none⟩ (.int .i64 (f.cand : Int))).drew).heap[w.heap.size]? = some (.cells (Oc.cells ⟨f.src, f.cand, x.k⟩) 29 (0, 0))) := Lib.hid (by
    have g1 := heap_setCell_same W0 w.heap.size 0 _ _ (.int .i64 (f.src : Int)) HG0.out
    have g2 := heap_setCell_same _ w.heap.size 1 _ _ (.int .i64 (f.cand : Int)) g1
    rw [HOC.out] at g2
    exact g2)
  have HB1 : Hid (Below w.heap.size w (((W0.setCell ⟨w.heap.size, 0, none⟩ (.int .i64 (f.src : Int))).setCell ⟨w.heap.size, 1, none⟩ (.int .i64 (f.cand : Int))).drew)) := Lib.hid ((((HB0.out.setCell (p := ⟨w.heap.size, 0, none⟩) (Nat.le_refl _) _)).setCell (p := ⟨w.heap.size, 1, none⟩) (Nat.le_refl _) _).drew)
  clear HB0 HG0 HOC d2 d3 d4 x0 x1 xf0 xf1
  generalize (((W0.setCell ⟨w.heap.size, 0, none⟩ (.int .i64 (f.src : Int))).setCell ⟨w.heap.size, 1, none⟩ (.int .i64 (f.cand : Int))).drew) = W1 at HG1 HB1 ⊢
  have H1 := Lib.hid (HW.out.below HB1.out)
  have d4 := (cell_of_row _ g 4 _ _ _ H1.out.blk).trans (rfl : _ = some (Value.int .i64 f.cand))
  have HCMk := Lib.hid (HOk.out.cm h1 h5)
  clear HW
  obtain ⟨CM, hCM⟩ : ∃ CM, CM = f.cm x.k := ⟨_, rfl⟩
  rw [← hCM] at HCMk
  have HF1 : Hid (f.f1 x.k = { f with came := CM, cand := f.cand + 1 }) := Lib.hid (by rw [hCM]; rfl)
  have HCM := Lib.hid hCM
  clear hCM
  have HZF : Hid (W1.heap[g]? = some (.cells (f.cells A c) 73 (0, 0))) := Lib.hid H1.out.blk
  have HSC := Lib.hid (sizeO CM)
  have HSZ : Hid (5 + CM.cells.size ≤ (f.cells A c).size) := Lib.hid (by show 5 + 4 ≤ 9; omega)
  have HS1 := Lib.hid CM.one
  have HSE : Hid (((f.cells A c).toList.take 5 ++ CM.cells.toList ++ (f.cells A c).toList.drop (5 + CM.cells.size)).toArray = Fo.cells A c { f with came := CM }) := Lib.hid rfl
  have HZE : Hid (∀ W3 : World, W1.grownBy W3 (some g) → W3.heap[g]? = some (.cells (Fo.cells A c { f with came := CM }) 73 (0, 0)) → FoldAt W3 g A c { f with came := CM } ∧ W3.heap[w.heap.size]? = some (.cells (Oc.cells ⟨f.src, f.cand, x.k⟩) 29 (0, 0)) ∧ w.grownBy W3 (some g)) := Lib.hid (fun W3 hw hg => ⟨H1.out.put hw rfl hg, (hw.block _ (heap_lt HG1.out) (fun e => HNE.out (by injection e with e; exact e.symm))).trans HG1.out, grown_trans (grown_below HB1.out) hw⟩)
  by_cases hc : f.cand = 0
  · have hcB : ((f.cand : Int) == 0) = true := by simp [hc]
    have HCO : Hid (∀ W, Calls Tryd.prog 33 #[.agg CM.cells] W fun e w' => e = .returned (.agg CM.cells) ∧ Below W.heap.size W w') := Lib.hid (fun W => copied_e CM W)
    have HOe : Hid ((⟨f.src, f.cand, x.k⟩ : Oc).cells = CM.cells) := Lib.hid (by rw [HCM.out, Fo.cm, if_pos hc])
    have hLd : W1.heap[w.heap.size]? = some (.cells CM.cells 29 (0, 0)) := by rw [← HOe.out]; exact HG1.out
    have HLd := Lib.hid hLd
    clear hc HCM hLd HOe
    generalize CM.cells = CMc at HCO HLd HSC HSZ HS1 HSE
    generalize f.cells A c = ZF at HZF HSZ HSE
    generalize hZF' : Fo.cells A c { f with came := CM } = ZF' at HSE HZE
    clear hZF'
    go_upto_region 4 with fail
    go_wp2_with (refine wpList_load_row rfl 29 (.tmp 3) rfl w.heap.size rfl 29 CMc (0, 0) _ HLd.out Tryd.underlying29 rfl HSC.out ?_; go_simp)
    refine (HCO.out _).mono ?_
    rintro e w2 ⟨rfl, hb2⟩
    have HB2 := Lib.hid hb2
    clear hb2 d4 hcB
    go_upto_region 6 with (refine wpList_store_sub rfl 29 (.tmp 28) (.tmp 26) rfl g 5 ZF CMc ZF' 73 ((HB2.out.block _ (heap_lt H1.out.blk)).trans HZF.out) rfl rfl HSC.out HSZ.out HS1.out HSE.out ?_; intro W3 hg9 hw9 hz9; go_simp)
    have HT := Lib.hid (HZE.out W3 (grown_trans (grown_below HB2.out) hw9.out) hg9.out)
    clear hg9 hw9 hz9 HZE HSE HS1 HSZ HSC HZF HCO HLd HB2 H1 HB1 HG1
    have t4 := (cell_of_row _ g 4 _ _ _ HT.out.1.blk).trans (rfl : _ = some (Value.int .i64 f.cand))
    have tf := frozen_of_row W3 g 4 _ _ HT.out.1.blk
    have H4 : Hid (FoldAt (W3.setCell ⟨g, 4, none⟩ (.int .i64 ((f.cand : Int) + 1))) g A c (f.f1 x.k) ∧ (W3.setCell ⟨g, 4, none⟩ (.int .i64 ((f.cand : Int) + 1))).heap[w.heap.size]? = some (.cells (Oc.cells ⟨f.src, f.cand, x.k⟩) 29 (0, 0)) ∧ w.grownBy (W3.setCell ⟨g, 4, none⟩ (.int .i64 ((f.cand : Int) + 1))) (some g)) := Lib.hid (by
      have g1 := heap_setCell_same W3 g 4 _ _ (.int .i64 ((f.cand : Int) + 1)) HT.out.1.blk
      refine ⟨?_, (Below.heap_setCell W3 ⟨g, 4, none⟩ _ _ (by show w.heap.size ≠ g; exact fun e => HNE.out e.symm)).trans HT.out.2.1, grown_trans HT.out.2.2 (grown_set W3 g 4 _)⟩
      rw [HF1.out]
      exact HT.out.1.put (grown_set W3 g 4 _) rfl (by rw [g1]; rfl))
    go_upto_region 7 with fail
    clear t4 tf HT
    generalize W3.setCell ⟨g, 4, none⟩ (.int .i64 ((f.cand : Int) + 1)) = W4 at H4 ⊢
    have u4 := (cell_of_row _ g 4 _ _ _ H4.out.1.blk).trans (rfl : _ = some (Value.int .i64 ((f.cand : Int) + 1)))
    have u1 := (cell_of_row _ g 1 _ _ _ H4.out.1.blk).trans (rfl : _ = some (Value.int .i64 f.n))
    have u2 := (cell_of_row _ w.heap.size 2 _ _ _ H4.out.2.1).trans (rfl : _ = some (Value.int .i64 x.k))
    by_cases k1 : x.k = 1
    · have kB : (x.k == 1) = true := by simp [k1]
      have HNo : Hid (f.note x.k = (f.f1 x.k).leave s) := Lib.hid (by unfold Fo.note; rw [if_pos ha, if_pos (.inl k1), HS.out])
      clear k1
      go_quiet (fail)
      rename_i nq
      have HD : Hid (FoldAt (W4.drewN nq) g A c (f.f1 x.k) ∧ w.grownBy (W4.drewN nq) (some g)) := Lib.hid ⟨H4.out.1.below (below_drewN (Below.refl _ W4) nq), grown_trans H4.out.2.2 (grown_below (below_drewN (Below.refl _ W4) nq))⟩
      clear u4 u1 u2 H4
      generalize W4.drewN nq = W5 at HD ⊢
      go_wp2_with fail
      refine (leave_e (f := f.f1 x.k) s HD.out.1 HS.out HOk.out.len (HOk.out.cm h1 h5).1 (HOk.out.cm h1 h5).2).mono ?_
      rintro e w6 ⟨rfl, hf6, hg6⟩
      have HF6 := Lib.hid hf6
      have HG6 := Lib.hid hg6
      clear hf6 hg6
      go_wp2_with fail
      go_end0
      exact ⟨rfl, by rw [HNo.out]; exact HF6.out, grown_trans HD.out.2 HG6.out⟩
    have kB : (x.k == 1) = false := by simp [k1]
    by_cases k2 : (f.cand : Int) + 1 = f.n
    · have kN : ((f.cand : Int) + 1 == f.n) = true := by simp [k2]
      have HNo : Hid (f.note x.k = (f.f1 x.k).leave s) := Lib.hid (by unfold Fo.note; rw [if_pos ha, if_pos (.inr (by rw [← k2]; rfl)), HS.out])
      clear k1 k2
      go_quiet (fail)
      rename_i nq
      have HD : Hid (FoldAt (W4.drewN nq) g A c (f.f1 x.k) ∧ w.grownBy (W4.drewN nq) (some g)) := Lib.hid ⟨H4.out.1.below (below_drewN (Below.refl _ W4) nq), grown_trans H4.out.2.2 (grown_below (below_drewN (Below.refl _ W4) nq))⟩
      clear u4 u1 u2 H4
      generalize W4.drewN nq = W5 at HD ⊢
      go_wp2_with fail
      refine (leave_e (f := f.f1 x.k) s HD.out.1 HS.out HOk.out.len (HOk.out.cm h1 h5).1 (HOk.out.cm h1 h5).2).mono ?_
      rintro e w6 ⟨rfl, hf6, hg6⟩
      have HF6 := Lib.hid hf6
      have HG6 := Lib.hid hg6
      clear hf6 hg6
      go_wp2_with fail
      go_end0
      exact ⟨rfl, by rw [HNo.out]; exact HF6.out, grown_trans HD.out.2 HG6.out⟩
    have kN : ((f.cand : Int) + 1 == f.n) = false := by simp [k2]
    have HNo : Hid (f.note x.k = f.f1 x.k) := Lib.hid (by unfold Fo.note; rw [if_pos ha, if_neg (by rintro (h | h); exact k1 h; exact k2 (by rw [← h]; rfl))])
    clear k1 k2
    go_quiet (fail)
    rename_i nq
    have HD : Hid (FoldAt (W4.drewN nq) g A c (f.f1 x.k) ∧ w.grownBy (W4.drewN nq) (some g)) := Lib.hid ⟨H4.out.1.below (below_drewN (Below.refl _ W4) nq), grown_trans H4.out.2.2 (grown_below (below_drewN (Below.refl _ W4) nq))⟩
    clear u4 u1 u2 H4
    generalize W4.drewN nq = W5 at HD ⊢
    go_wp2_with fail
    go_end0
    exact ⟨rfl, by rw [HNo.out]; exact HD.out.1, HD.out.2⟩
  · have hcB : ((f.cand : Int) == 0) = false := by simp [hc]
    have HBO : Hid (∀ W, Calls Tryd.prog 34 #[.agg f.came.cells, .agg (Oc.cells ⟨f.src, f.cand, x.k⟩)] W fun e w' => e = .returned (.agg CM.cells) ∧ Below W.heap.size W w') := Lib.hid (fun W => by
      rw [HCM.out, Fo.cm, if_neg hc]
      exact both_e f.came ⟨f.src, f.cand, x.k⟩ HOk.out.k1 HOk.out.k5 h1 h5 W)
    have HRA : Hid (∀ W : World, Below W1.heap.size W1 W → W.rangeAt g 5 f.came.cells.toList) := Lib.hid (fun W hW j v hj => by
      have hj4 : j < 4 := (List.getElem?_eq_some_iff.1 hj).1
      refine (hW.cell (p := ⟨g, 5 + j, none⟩) (heap_lt H1.out.blk)).trans ((cell_of_row _ g (5 + j) _ _ _ H1.out.blk).trans ?_)
      rcases (show j = 0 ∨ j = 1 ∨ j = 2 ∨ j = 3 by omega) with rfl | rfl | rfl | rfl <;> exact hj)
    have HRB : Hid (∀ W : World, Below W1.heap.size W1 W → W.rangeAt w.heap.size 0 (Oc.cells ⟨f.src, f.cand, x.k⟩).toList) := Lib.hid (fun W hW j v hj => by
      rw [Nat.zero_add]
      exact (hW.cell (p := ⟨w.heap.size, j, none⟩) (heap_lt HG1.out)).trans ((cell_of_row _ w.heap.size j _ _ _ HG1.out).trans (by rw [← Array.getElem?_toList]; exact hj)))
    have HSA : Hid ((Tryd.prog.info? 29).map (·.size) = some f.came.cells.toList.length) := Lib.hid sizeO4
    have HSB : Hid ((Tryd.prog.info? 29).map (·.size) = some (Oc.cells ⟨f.src, f.cand, x.k⟩).toList.length) := Lib.hid sizeO4
    have HBO2 : Hid (∀ W, Calls Tryd.prog 34 #[.agg f.came.cells.toList.toArray, .agg (Oc.cells ⟨f.src, f.cand, x.k⟩).toList.toArray] W fun e w' => e = .returned (.agg CM.cells) ∧ Below W.heap.size W w') := Lib.hid (fun W => HBO.out W)
    clear HBO hc HCM
    have HBO := Lib.hid HBO2.out
    clear HBO2
    generalize CM.cells = CMc at HBO HSC HSZ HS1 HSE
    generalize f.came.cells.toList = CA at HBO HRA HSA
    generalize (Oc.cells ⟨f.src, f.cand, x.k⟩).toList = CB at HBO HRB HSB
    generalize f.cells A c = ZF at HZF HSZ HSE
    generalize hZF' : Fo.cells A c { f with came := CM } = ZF' at HSE HZE
    clear hZF'
    go_upto_region 5 with fail
    refine wp_region_held_drew (S := (fun _ : World => True)) (by kernel_rfl) trivial (fun _ => ?_)
    have HM0 : Hid (Below W1.heap.size W1 W1.drew) := Lib.hid (Below.refl _ W1).drew
    generalize W1.drew = V0 at HM0 ⊢
    refine wpAnyH_take (i := 0) (oi := ({ dst := some 29, op := Go.Op.move (Go.Operand.tmp 0), type := 70, pos := "resolve.go:95", after := #[], guard := none } : Oper)) (v := .pointer (some ⟨g, 0, none⟩)) rfl (by kernel_rfl) (by kernel_rfl) (by kernel_rfl) (fun _ _ _ h => h) (Or.inl ⟨by rfl, fun w' _ => ?_⟩) trivial ?_
    · go_simp
    simp only [Act.put, List.setIfInBounds_toArray, List.set_cons_zero, List.set_cons_succ]
    refine wpAnyH_take (i := 1) (oi := ({ dst := some 30, op := Go.Op.move (Go.Operand.tmp 0), type := 70, pos := "resolve.go:95", after := #[], guard := none } : Oper)) (v := .pointer (some ⟨g, 0, none⟩)) rfl (by kernel_rfl) (by kernel_rfl) (by kernel_rfl) (fun _ _ _ h => h) (Or.inl ⟨by rfl, fun w' _ => ?_⟩) trivial ?_
    · go_simp
    simp only [Act.put, List.setIfInBounds_toArray, List.set_cons_zero, List.set_cons_succ]
    refine wpAnyH_take (i := 2) (oi := ({ dst := some 31, op := Go.Op.nilCheck (Go.Operand.tmp 30), type := 0, pos := "resolve.go:95", after := #[{ on := 1, ground := Go.Ground.data }], guard := none } : Oper)) (v := .pointer (some ⟨g, 0, none⟩)) rfl (by kernel_rfl) (by kernel_rfl) (by kernel_rfl) (fun _ _ _ h => h) (Or.inl ⟨by rfl, fun w' _ => ?_⟩) trivial ?_
    · go_simp
    simp only [Act.put, List.setIfInBounds_toArray, List.set_cons_zero, List.set_cons_succ]
    refine wpAnyH_take (i := 3) (oi := ({ dst := some 32, op := Go.Op.fieldAddr 73 (Go.Operand.tmp 31) 5, type := 0, pos := "resolve.go:95", after := #[{ on := 2, ground := Go.Ground.data }], guard := none } : Oper)) (v := .pointer (some ⟨g, 5, none⟩)) rfl (by kernel_rfl) (by kernel_rfl) (by kernel_rfl) (fun _ _ _ h => h) (Or.inl ⟨by rfl, fun w' _ => ?_⟩) trivial ?_
    · go_simp
    simp only [Act.put, List.setIfInBounds_toArray, List.set_cons_zero, List.set_cons_succ]
    refine wpAnyH_ready (rs := [4, 5]) (by kernel_rfl) (by simp) ?_
    refine (AllReadyH.cons (o := ({ dst := some 33, op := Go.Op.load 29 (Go.Operand.tmp 32), type := 29, pos := "resolve.go:95", after := #[{ on := 3, ground := Go.Ground.data }], guard := none } : Oper)) rfl (fun K hK => ?_) (AllReadyH.cons (o := ({ dst := some 34, op := Go.Op.load 29 (Go.Operand.tmp 3), type := 29, pos := "resolve.go:95", after := #[], guard := none } : Oper)) rfl (fun K hK => ?_) AllReadyH.nil))
    · rw [if_pos (by kernel_rfl)]
      refine wp_load_mid 29 (.tmp 32) rfl (g) (5) rfl CA _ (HRA.out _ HM0.out) Tryd.underlying29 rfl HSA.out ?_
      refine hK.out _ _ trivial (fun _ => ?_)
      clear hK K
      try simp only [Act.put, List.setIfInBounds_toArray, List.set_cons_zero, List.set_cons_succ]
      refine wpAnyH_ready (rs := [5]) (by kernel_rfl) (by simp) ?_
      refine (AllReadyH.cons (o := ({ dst := some 34, op := Go.Op.load 29 (Go.Operand.tmp 3), type := 29, pos := "resolve.go:95", after := #[], guard := none } : Oper)) rfl (fun K hK => ?_) AllReadyH.nil)
      rw [if_pos (by kernel_rfl)]
      refine wp_load_mid 29 (.tmp 3) rfl (w.heap.size) (0) rfl CB _ (HRB.out _ HM0.out) Tryd.underlying29 rfl HSB.out ?_
      refine hK.out _ _ trivial (fun _ => ?_)
      clear hK K
      try simp only [Act.put, List.setIfInBounds_toArray, List.set_cons_zero, List.set_cons_succ]
      refine wpAnyH_ready (rs := [6]) (by kernel_rfl) (by simp) ?_
      refine (AllReadyH.cons (o := ({ dst := some 35, op := Go.Op.call { callee := Go.Callee.value (Go.Operand.func 34), args := #[Go.Operand.tmp 33, Go.Operand.tmp 34], argTypes := #[29, 29] }, type := 29, pos := "resolve.go:95", after := #[{ on := 4, ground := Go.Ground.data }, { on := 5, ground := Go.Ground.data }], guard := none } : Oper)) rfl (fun K hK => ?_) AllReadyH.nil)
      go_simp
      go_at_call 34
      refine (HBO.out _).mono ?_
      rintro e' U1 ⟨rfl, hbm⟩
      have HM2 := Lib.hid (HM0.out.trans (hbm.mono HM0.out.size))
      refine hK.out _ _ trivial (fun _ => ?_)
      clear hK K hbm
      try simp only [Act.put, List.setIfInBounds_toArray, List.set_cons_zero, List.set_cons_succ]
      refine wpAnyH_take (i := 7) (oi := ({ dst := some 36, op := Go.Op.nilCheck (Go.Operand.tmp 29), type := 0, pos := "resolve.go:95", after := #[{ on := 0, ground := Go.Ground.data }, { on := 0, ground := Go.Ground.phase }, { on := 1, ground := Go.Ground.phase }, { on := 2, ground := Go.Ground.phase }, { on := 3, ground := Go.Ground.phase }, { on := 4, ground := Go.Ground.phase }, { on := 5, ground := Go.Ground.phase }, { on := 6, ground := Go.Ground.phase }], guard := none } : Oper)) (v := .pointer (some ⟨g, 0, none⟩)) rfl (by kernel_rfl) (by kernel_rfl) (by kernel_rfl) (fun _ _ _ h => h) (Or.inl ⟨by rfl, fun w' _ => ?_⟩) trivial ?_
      · go_simp
      simp only [Act.put, List.setIfInBounds_toArray, List.set_cons_zero, List.set_cons_succ]
      refine wpAnyH_take (i := 8) (oi := ({ dst := some 37, op := Go.Op.fieldAddr 73 (Go.Operand.tmp 36) 5, type := 0, pos := "resolve.go:95", after := #[{ on := 7, ground := Go.Ground.data }, { on := 0, ground := Go.Ground.phase }, { on := 1, ground := Go.Ground.phase }, { on := 2, ground := Go.Ground.phase }, { on := 3, ground := Go.Ground.phase }, { on := 4, ground := Go.Ground.phase }, { on := 5, ground := Go.Ground.phase }, { on := 6, ground := Go.Ground.phase }], guard := none } : Oper)) (v := .pointer (some ⟨g, 5, none⟩)) rfl (by kernel_rfl) (by kernel_rfl) (by kernel_rfl) (fun _ _ _ h => h) (Or.inl ⟨by rfl, fun w' _ => ?_⟩) trivial ?_
      · go_simp
      simp only [Act.put, List.setIfInBounds_toArray, List.set_cons_zero, List.set_cons_succ]
      refine wpAnyH_ready (rs := [9]) (by kernel_rfl) (by simp) ?_
      refine (AllReadyH.cons (o := ({ dst := none, op := Go.Op.store 29 (Go.Operand.tmp 37) (Go.Operand.tmp 35), type := 0, pos := "resolve.go:95", after := #[{ on := 8, ground := Go.Ground.data }, { on := 6, ground := Go.Ground.data }, { on := 6, ground := Go.Ground.chain }, { on := 0, ground := Go.Ground.phase }, { on := 1, ground := Go.Ground.phase }, { on := 2, ground := Go.Ground.phase }, { on := 3, ground := Go.Ground.phase }, { on := 4, ground := Go.Ground.phase }, { on := 5, ground := Go.Ground.phase }, { on := 6, ground := Go.Ground.phase }], guard := none } : Oper)) rfl (fun K hK => ?_) AllReadyH.nil)
      rw [if_pos (by kernel_rfl)]
      refine wp_store_sub 29 (.tmp 37) (.tmp 35) rfl g 5 ZF CMc ZF' 73 ((HM2.out.block _ (heap_lt H1.out.blk)).trans HZF.out) rfl rfl HSC.out HSZ.out HS1.out HSE.out ?_
      have HY9 := Lib.hid (setRow_heap U1 g ZF ZF' 73 _ ((HM2.out.block _ (heap_lt H1.out.blk)).trans HZF.out))
      have HW9 : Hid (W1.grownBy (U1.setRow g ZF') (some g)) := Lib.hid (grown_trans (grown_below HM2.out) ⟨rfl, rfl, rfl, by simp, fun k _ hk => setRow_other U1 g k ZF' (fun e => hk (by rw [e]))⟩)
      refine hK.out _ _ trivial (fun _ => ?_)
      clear hK K
      generalize U1.setRow g ZF' = W3 at HY9 HW9 ⊢
      try simp only [Act.put]
      refine wpAnyH_done (by kernel_rfl) ?_ _
      have HT := Lib.hid (HZE.out W3 HW9.out HY9.out)
      clear HY9 HW9 HZE HSE HS1 HSZ HSC HZF HBO HRA HRB HSA HSB H1 HB1 HG1 d4 hcB
      go_upto_region 6 with fail
      have t4 := (cell_of_row _ g 4 _ _ _ HT.out.1.blk).trans (rfl : _ = some (Value.int .i64 f.cand))
      have tf := frozen_of_row W3 g 4 _ _ HT.out.1.blk
      have H4 : Hid (FoldAt (W3.setCell ⟨g, 4, none⟩ (.int .i64 ((f.cand : Int) + 1))) g A c (f.f1 x.k) ∧ (W3.setCell ⟨g, 4, none⟩ (.int .i64 ((f.cand : Int) + 1))).heap[w.heap.size]? = some (.cells (Oc.cells ⟨f.src, f.cand, x.k⟩) 29 (0, 0)) ∧ w.grownBy (W3.setCell ⟨g, 4, none⟩ (.int .i64 ((f.cand : Int) + 1))) (some g)) := Lib.hid (by
        have g1 := heap_setCell_same W3 g 4 _ _ (.int .i64 ((f.cand : Int) + 1)) HT.out.1.blk
        refine ⟨?_, (Below.heap_setCell W3 ⟨g, 4, none⟩ _ _ (by show w.heap.size ≠ g; exact fun e => HNE.out e.symm)).trans HT.out.2.1, grown_trans HT.out.2.2 (grown_set W3 g 4 _)⟩
        rw [HF1.out]
        exact HT.out.1.put (grown_set W3 g 4 _) rfl (by rw [g1]; rfl))
      go_upto_region 7 with fail
      clear t4 tf HT
      generalize W3.setCell ⟨g, 4, none⟩ (.int .i64 ((f.cand : Int) + 1)) = W4 at H4 ⊢
      have u4 := (cell_of_row _ g 4 _ _ _ H4.out.1.blk).trans (rfl : _ = some (Value.int .i64 ((f.cand : Int) + 1)))
      have u1 := (cell_of_row _ g 1 _ _ _ H4.out.1.blk).trans (rfl : _ = some (Value.int .i64 f.n))
      have u2 := (cell_of_row _ w.heap.size 2 _ _ _ H4.out.2.1).trans (rfl : _ = some (Value.int .i64 x.k))
      by_cases k1 : x.k = 1
      · have kB : (x.k == 1) = true := by simp [k1]
        have HNo : Hid (f.note x.k = (f.f1 x.k).leave s) := Lib.hid (by unfold Fo.note; rw [if_pos ha, if_pos (.inl k1), HS.out])
        clear k1
        go_quiet (fail)
        rename_i nq
        have HD : Hid (FoldAt (W4.drewN nq) g A c (f.f1 x.k) ∧ w.grownBy (W4.drewN nq) (some g)) := Lib.hid ⟨H4.out.1.below (below_drewN (Below.refl _ W4) nq), grown_trans H4.out.2.2 (grown_below (below_drewN (Below.refl _ W4) nq))⟩
        clear u4 u1 u2 H4
        generalize W4.drewN nq = W5 at HD ⊢
        go_wp2_with fail
        refine (leave_e (f := f.f1 x.k) s HD.out.1 HS.out HOk.out.len (HOk.out.cm h1 h5).1 (HOk.out.cm h1 h5).2).mono ?_
        rintro e w6 ⟨rfl, hf6, hg6⟩
        have HF6 := Lib.hid hf6
        have HG6 := Lib.hid hg6
        clear hf6 hg6
        go_wp2_with fail
        go_end0
        exact ⟨rfl, by rw [HNo.out]; exact HF6.out, grown_trans HD.out.2 HG6.out⟩
      have kB : (x.k == 1) = false := by simp [k1]
      by_cases k2 : (f.cand : Int) + 1 = f.n
      · have kN : ((f.cand : Int) + 1 == f.n) = true := by simp [k2]
        have HNo : Hid (f.note x.k = (f.f1 x.k).leave s) := Lib.hid (by unfold Fo.note; rw [if_pos ha, if_pos (.inr (by rw [← k2]; rfl)), HS.out])
        clear k1 k2
        go_quiet (fail)
        rename_i nq
        have HD : Hid (FoldAt (W4.drewN nq) g A c (f.f1 x.k) ∧ w.grownBy (W4.drewN nq) (some g)) := Lib.hid ⟨H4.out.1.below (below_drewN (Below.refl _ W4) nq), grown_trans H4.out.2.2 (grown_below (below_drewN (Below.refl _ W4) nq))⟩
        clear u4 u1 u2 H4
        generalize W4.drewN nq = W5 at HD ⊢
        go_wp2_with fail
        refine (leave_e (f := f.f1 x.k) s HD.out.1 HS.out HOk.out.len (HOk.out.cm h1 h5).1 (HOk.out.cm h1 h5).2).mono ?_
        rintro e w6 ⟨rfl, hf6, hg6⟩
        have HF6 := Lib.hid hf6
        have HG6 := Lib.hid hg6
        clear hf6 hg6
        go_wp2_with fail
        go_end0
        exact ⟨rfl, by rw [HNo.out]; exact HF6.out, grown_trans HD.out.2 HG6.out⟩
      have kN : ((f.cand : Int) + 1 == f.n) = false := by simp [k2]
      have HNo : Hid (f.note x.k = f.f1 x.k) := Lib.hid (by unfold Fo.note; rw [if_pos ha, if_neg (by rintro (h | h); exact k1 h; exact k2 (by rw [← h]; rfl))])
      clear k1 k2
      go_quiet (fail)
      rename_i nq
      have HD : Hid (FoldAt (W4.drewN nq) g A c (f.f1 x.k) ∧ w.grownBy (W4.drewN nq) (some g)) := Lib.hid ⟨H4.out.1.below (below_drewN (Below.refl _ W4) nq), grown_trans H4.out.2.2 (grown_below (below_drewN (Below.refl _ W4) nq))⟩
      clear u4 u1 u2 H4
      generalize W4.drewN nq = W5 at HD ⊢
      go_wp2_with fail
      go_end0
      exact ⟨rfl, by rw [HNo.out]; exact HD.out.1, HD.out.2⟩
    · rw [if_pos (by kernel_rfl)]
      refine wp_load_mid 29 (.tmp 3) rfl (w.heap.size) (0) rfl CB _ (HRB.out _ HM0.out) Tryd.underlying29 rfl HSB.out ?_
      refine hK.out _ _ trivial (fun _ => ?_)
      clear hK K
      try simp only [Act.put, List.setIfInBounds_toArray, List.set_cons_zero, List.set_cons_succ]
      refine wpAnyH_ready (rs := [4]) (by kernel_rfl) (by simp) ?_
      refine (AllReadyH.cons (o := ({ dst := some 33, op := Go.Op.load 29 (Go.Operand.tmp 32), type := 29, pos := "resolve.go:95", after := #[{ on := 3, ground := Go.Ground.data }], guard := none } : Oper)) rfl (fun K hK => ?_) AllReadyH.nil)
      rw [if_pos (by kernel_rfl)]
      refine wp_load_mid 29 (.tmp 32) rfl (g) (5) rfl CA _ (HRA.out _ HM0.out) Tryd.underlying29 rfl HSA.out ?_
      refine hK.out _ _ trivial (fun _ => ?_)
      clear hK K
      try simp only [Act.put, List.setIfInBounds_toArray, List.set_cons_zero, List.set_cons_succ]
      refine wpAnyH_ready (rs := [6]) (by kernel_rfl) (by simp) ?_
      refine (AllReadyH.cons (o := ({ dst := some 35, op := Go.Op.call { callee := Go.Callee.value (Go.Operand.func 34), args := #[Go.Operand.tmp 33, Go.Operand.tmp 34], argTypes := #[29, 29] }, type := 29, pos := "resolve.go:95", after := #[{ on := 4, ground := Go.Ground.data }, { on := 5, ground := Go.Ground.data }], guard := none } : Oper)) rfl (fun K hK => ?_) AllReadyH.nil)
      go_simp
      go_at_call 34
      refine (HBO.out _).mono ?_
      rintro e' U3 ⟨rfl, hbm⟩
      have HM4 := Lib.hid (HM0.out.trans (hbm.mono HM0.out.size))
      refine hK.out _ _ trivial (fun _ => ?_)
      clear hK K hbm
      try simp only [Act.put, List.setIfInBounds_toArray, List.set_cons_zero, List.set_cons_succ]
      refine wpAnyH_take (i := 7) (oi := ({ dst := some 36, op := Go.Op.nilCheck (Go.Operand.tmp 29), type := 0, pos := "resolve.go:95", after := #[{ on := 0, ground := Go.Ground.data }, { on := 0, ground := Go.Ground.phase }, { on := 1, ground := Go.Ground.phase }, { on := 2, ground := Go.Ground.phase }, { on := 3, ground := Go.Ground.phase }, { on := 4, ground := Go.Ground.phase }, { on := 5, ground := Go.Ground.phase }, { on := 6, ground := Go.Ground.phase }], guard := none } : Oper)) (v := .pointer (some ⟨g, 0, none⟩)) rfl (by kernel_rfl) (by kernel_rfl) (by kernel_rfl) (fun _ _ _ h => h) (Or.inl ⟨by rfl, fun w' _ => ?_⟩) trivial ?_
      · go_simp
      simp only [Act.put, List.setIfInBounds_toArray, List.set_cons_zero, List.set_cons_succ]
      refine wpAnyH_take (i := 8) (oi := ({ dst := some 37, op := Go.Op.fieldAddr 73 (Go.Operand.tmp 36) 5, type := 0, pos := "resolve.go:95", after := #[{ on := 7, ground := Go.Ground.data }, { on := 0, ground := Go.Ground.phase }, { on := 1, ground := Go.Ground.phase }, { on := 2, ground := Go.Ground.phase }, { on := 3, ground := Go.Ground.phase }, { on := 4, ground := Go.Ground.phase }, { on := 5, ground := Go.Ground.phase }, { on := 6, ground := Go.Ground.phase }], guard := none } : Oper)) (v := .pointer (some ⟨g, 5, none⟩)) rfl (by kernel_rfl) (by kernel_rfl) (by kernel_rfl) (fun _ _ _ h => h) (Or.inl ⟨by rfl, fun w' _ => ?_⟩) trivial ?_
      · go_simp
      simp only [Act.put, List.setIfInBounds_toArray, List.set_cons_zero, List.set_cons_succ]
      refine wpAnyH_ready (rs := [9]) (by kernel_rfl) (by simp) ?_
      refine (AllReadyH.cons (o := ({ dst := none, op := Go.Op.store 29 (Go.Operand.tmp 37) (Go.Operand.tmp 35), type := 0, pos := "resolve.go:95", after := #[{ on := 8, ground := Go.Ground.data }, { on := 6, ground := Go.Ground.data }, { on := 6, ground := Go.Ground.chain }, { on := 0, ground := Go.Ground.phase }, { on := 1, ground := Go.Ground.phase }, { on := 2, ground := Go.Ground.phase }, { on := 3, ground := Go.Ground.phase }, { on := 4, ground := Go.Ground.phase }, { on := 5, ground := Go.Ground.phase }, { on := 6, ground := Go.Ground.phase }], guard := none } : Oper)) rfl (fun K hK => ?_) AllReadyH.nil)
      rw [if_pos (by kernel_rfl)]
      refine wp_store_sub 29 (.tmp 37) (.tmp 35) rfl g 5 ZF CMc ZF' 73 ((HM4.out.block _ (heap_lt H1.out.blk)).trans HZF.out) rfl rfl HSC.out HSZ.out HS1.out HSE.out ?_
      have HY9 := Lib.hid (setRow_heap U3 g ZF ZF' 73 _ ((HM4.out.block _ (heap_lt H1.out.blk)).trans HZF.out))
      have HW9 : Hid (W1.grownBy (U3.setRow g ZF') (some g)) := Lib.hid (grown_trans (grown_below HM4.out) ⟨rfl, rfl, rfl, by simp, fun k _ hk => setRow_other U3 g k ZF' (fun e => hk (by rw [e]))⟩)
      refine hK.out _ _ trivial (fun _ => ?_)
      clear hK K
      generalize U3.setRow g ZF' = W3 at HY9 HW9 ⊢
      try simp only [Act.put]
      refine wpAnyH_done (by kernel_rfl) ?_ _
      have HT := Lib.hid (HZE.out W3 HW9.out HY9.out)
      clear HY9 HW9 HZE HSE HS1 HSZ HSC HZF HBO HRA HRB HSA HSB H1 HB1 HG1 d4 hcB
      go_upto_region 6 with fail
      have t4 := (cell_of_row _ g 4 _ _ _ HT.out.1.blk).trans (rfl : _ = some (Value.int .i64 f.cand))
      have tf := frozen_of_row W3 g 4 _ _ HT.out.1.blk
      have H4 : Hid (FoldAt (W3.setCell ⟨g, 4, none⟩ (.int .i64 ((f.cand : Int) + 1))) g A c (f.f1 x.k) ∧ (W3.setCell ⟨g, 4, none⟩ (.int .i64 ((f.cand : Int) + 1))).heap[w.heap.size]? = some (.cells (Oc.cells ⟨f.src, f.cand, x.k⟩) 29 (0, 0)) ∧ w.grownBy (W3.setCell ⟨g, 4, none⟩ (.int .i64 ((f.cand : Int) + 1))) (some g)) := Lib.hid (by
        have g1 := heap_setCell_same W3 g 4 _ _ (.int .i64 ((f.cand : Int) + 1)) HT.out.1.blk
        refine ⟨?_, (Below.heap_setCell W3 ⟨g, 4, none⟩ _ _ (by show w.heap.size ≠ g; exact fun e => HNE.out e.symm)).trans HT.out.2.1, grown_trans HT.out.2.2 (grown_set W3 g 4 _)⟩
        rw [HF1.out]
        exact HT.out.1.put (grown_set W3 g 4 _) rfl (by rw [g1]; rfl))
      go_upto_region 7 with fail
      clear t4 tf HT
      generalize W3.setCell ⟨g, 4, none⟩ (.int .i64 ((f.cand : Int) + 1)) = W4 at H4 ⊢
      have u4 := (cell_of_row _ g 4 _ _ _ H4.out.1.blk).trans (rfl : _ = some (Value.int .i64 ((f.cand : Int) + 1)))
      have u1 := (cell_of_row _ g 1 _ _ _ H4.out.1.blk).trans (rfl : _ = some (Value.int .i64 f.n))
      have u2 := (cell_of_row _ w.heap.size 2 _ _ _ H4.out.2.1).trans (rfl : _ = some (Value.int .i64 x.k))
      by_cases k1 : x.k = 1
      · have kB : (x.k == 1) = true := by simp [k1]
        have HNo : Hid (f.note x.k = (f.f1 x.k).leave s) := Lib.hid (by unfold Fo.note; rw [if_pos ha, if_pos (.inl k1), HS.out])
        clear k1
        go_quiet (fail)
        rename_i nq
        have HD : Hid (FoldAt (W4.drewN nq) g A c (f.f1 x.k) ∧ w.grownBy (W4.drewN nq) (some g)) := Lib.hid ⟨H4.out.1.below (below_drewN (Below.refl _ W4) nq), grown_trans H4.out.2.2 (grown_below (below_drewN (Below.refl _ W4) nq))⟩
        clear u4 u1 u2 H4
        generalize W4.drewN nq = W5 at HD ⊢
        go_wp2_with fail
        refine (leave_e (f := f.f1 x.k) s HD.out.1 HS.out HOk.out.len (HOk.out.cm h1 h5).1 (HOk.out.cm h1 h5).2).mono ?_
        rintro e w6 ⟨rfl, hf6, hg6⟩
        have HF6 := Lib.hid hf6
        have HG6 := Lib.hid hg6
        clear hf6 hg6
        go_wp2_with fail
        go_end0
        exact ⟨rfl, by rw [HNo.out]; exact HF6.out, grown_trans HD.out.2 HG6.out⟩
      have kB : (x.k == 1) = false := by simp [k1]
      by_cases k2 : (f.cand : Int) + 1 = f.n
      · have kN : ((f.cand : Int) + 1 == f.n) = true := by simp [k2]
        have HNo : Hid (f.note x.k = (f.f1 x.k).leave s) := Lib.hid (by unfold Fo.note; rw [if_pos ha, if_pos (.inr (by rw [← k2]; rfl)), HS.out])
        clear k1 k2
        go_quiet (fail)
        rename_i nq
        have HD : Hid (FoldAt (W4.drewN nq) g A c (f.f1 x.k) ∧ w.grownBy (W4.drewN nq) (some g)) := Lib.hid ⟨H4.out.1.below (below_drewN (Below.refl _ W4) nq), grown_trans H4.out.2.2 (grown_below (below_drewN (Below.refl _ W4) nq))⟩
        clear u4 u1 u2 H4
        generalize W4.drewN nq = W5 at HD ⊢
        go_wp2_with fail
        refine (leave_e (f := f.f1 x.k) s HD.out.1 HS.out HOk.out.len (HOk.out.cm h1 h5).1 (HOk.out.cm h1 h5).2).mono ?_
        rintro e w6 ⟨rfl, hf6, hg6⟩
        have HF6 := Lib.hid hf6
        have HG6 := Lib.hid hg6
        clear hf6 hg6
        go_wp2_with fail
        go_end0
        exact ⟨rfl, by rw [HNo.out]; exact HF6.out, grown_trans HD.out.2 HG6.out⟩
      have kN : ((f.cand : Int) + 1 == f.n) = false := by simp [k2]
      have HNo : Hid (f.note x.k = f.f1 x.k) := Lib.hid (by unfold Fo.note; rw [if_pos ha, if_neg (by rintro (h | h); exact k1 h; exact k2 (by rw [← h]; rfl))])
      clear k1 k2
      go_quiet (fail)
      rename_i nq
      have HD : Hid (FoldAt (W4.drewN nq) g A c (f.f1 x.k) ∧ w.grownBy (W4.drewN nq) (some g)) := Lib.hid ⟨H4.out.1.below (below_drewN (Below.refl _ W4) nq), grown_trans H4.out.2.2 (grown_below (below_drewN (Below.refl _ W4) nq))⟩
      clear u4 u1 u2 H4
      generalize W4.drewN nq = W5 at HD ⊢
      go_wp2_with fail
      go_end0
      exact ⟨rfl, by rw [HNo.out]; exact HD.out.1, HD.out.2⟩
end Go.Proofs.YtepcogbfoemcmaaDoor
