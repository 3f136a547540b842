/-
  The walk of Set. Conditions: the table is of the call's own; the link's lists lie where its slices say; the library's variable MaxLen holds some number.
-/
import Derived.Test.YtgopjgbcnjkblaaGreatDoorLinkRe
import Derived.RegionTactic
import Derived.Deep.RegionHeld3
namespace Go.Proofs.YtgopjgbcnjkblaaGreatDoor
open Go.RowKit

section
variable {P : Program} {ops : Array Oper} {o : Oper} {a : Act} {Q : Exit → Act → World → Prop}
/-- a value of several cells into a part of a block of which all is known, as a step of a region that draws its order -/
theorem step_store_sub {w : World} {K : Act → World → Prop} {E : Prop} (hgd : o.guard = none) (ty : TypeId) (x y : Operand) (ho : o.op = .store ty x y) (g off : Nat) (z cells z' : Array Value) (t : TypeId) (hg : w.heap[g]? = some (.cells z t (0, 0)))
    (hx : a.eval x = .pointer (some ⟨g, off, none⟩)) (hy : a.eval y = .agg cells) (hi : (P.info? ty).map (·.size) = some cells.size) (hz : off + cells.size ≤ z.size) (h1 : cells.all (·.oneCell') = true)
    (he : (z.toList.take off ++ cells.toList ++ z.toList.drop (off + cells.size)).toArray = z')
    (h : ∀ w', w'.heap[g]? = some (.cells z' t (0, 0)) → w.grownBy w' (some g) → w'.heap.size = w.heap.size → K (a.put o.dst undef) w') : if Region.wanted o (yielded ops a.tmps) = true then Oper.wp P o a w K Q else E := by
  have hw : Region.wanted o (yielded ops a.tmps) = true := by simp [Region.wanted, hgd]
  rw [if_pos hw]
  have hst := run_storeCells_at P g off t cells.toList 0 z w hg (by simpa using hz) (fun v hv => (Array.all_eq_true_iff_forall_mem.1 h1) v (by simpa using hv))
  simp only [Nat.add_zero, Array.length_toList, he] at hst
  have hsv : (storeVar ty ⟨g, off, none⟩ (.agg cells)).run P w = .ok () (w.setRow g z') := by
    cases hq : P.info? ty with
    | none => simp [hq] at hi
    | some i =>
      have hs : cells.size = i.size := by simp [hq] at hi; omega
      simp [storeVar, sizeOf, typeInfo, hq, Value.cells, hs, hst]
  unfold Oper.wp execOp
  simp only [ho, hx, hy, Instr.storeAt, Instr.sureAddr, Sem.run_bind, Sem.run_pure, Result.andThen_ok, hsv]
  exact h _ (setRow_heap w g z z' t _ hg) ⟨rfl, rfl, rfl, by simp, fun k _ hk => setRow_other w g k z' (fun e => hk (by rw [e]))⟩ (by simp)
end
theorem InL.inok {w : World} {s : Sl} (h : InL w s) (hr : rightL s = true) : InOk w s ∧ s.ds.length ≤ 4 ∧ s.ns ≤ 3 ∧ s.nl ≤ 4 ∧ ∀ d ∈ s.ds, d.size ≤ 300 := by
  unfold rightL at hr
  simp only [Bool.and_eq_true, decide_eq_true_eq, List.all_eq_true] at hr
  obtain ⟨⟨⟨h1, h2⟩, h3⟩, h4⟩ := hr
  exact ⟨⟨h.dom, h.srv, h.loc, by omega, by omega, by omega⟩, h1, h2, h3, fun d hd => by have := okD_size (h4 d hd); omega⟩
theorem cnew_e (w : World) : Calls Tryz.prog 21 #[.int .i64 16] w fun e w' => e = .returned (.pointer (some ⟨w.heap.size, 0, none⟩)) ∧ w' = w.alloc (.cells #[.int .i64 16, .slice none 0 0] 67) := by
  go_enter Tryz.func21, Tryz.ntmps21
  go_wp2
  go_ret
  exact ⟨rfl, rfl⟩
theorem tcells_last : ∀ (ss : List Sl) (n m : Int), (tcells ss n).set (ss.length * 8) (.int .i64 m) = tcells ss m
  | [], _, _ => rfl
  | s :: l, n, m => by
    unfold tcells
    rw [List.set_append_right _ _ (by rw [Sl.clen, List.length_cons]; omega), Sl.clen, List.length_cons, show (l.length + 1) * 8 - 8 = l.length * 8 by omega, tcells_last l n m]
theorem TAt.setLast {base T last : Nat} {w : World} {ss : List Sl} (h : TAt base w T ss last) (hf : last + 1 ≤ 4611686018427387904) : TAt base (w.setCell ⟨T, 32, none⟩ (.int .i64 ((last : Int) + 1))) T ss (last + 1) := by
  have ho : (w.setCell ⟨T, 32, none⟩ (.int .i64 ((last : Int) + 1))).heap[T]? = some (.cells (tcells ss ((last + 1 : Nat) : Int)).toArray 59 (0, 0)) := by
    rw [heap_setCell_same w T 32 _ _ _ h.obj]
    have := tcells_last ss last ((last : Int) + 1)
    rw [h.four] at this
    rw [List.setIfInBounds_toArray, this]
    rfl
  exact ⟨h.ge, by simpa using h.hb, ho, h.four, fun s hs => (h.oks s hs).kept h.obj (grown_set w T 32 _), hf⟩
theorem TAt.lastCell {base T last : Nat} {w : World} {ss : List Sl} (h : TAt base w T ss last) : w.cell? ⟨T, 32, none⟩ = some (.int .i64 (last : Int)) := by
  refine h.cell ?_
  obtain ⟨a, b, c, d, rfl⟩ := h.abcd
  rfl
/-- a link's lists do not lie in block T -/
structure FarL (T : Nat) (s : Sl) : Prop where
  dom : s.ds ≠ [] → s.dv.ownBlock ≠ some T
  srv : s.ss ≠ [] → s.sv.ownBlock ≠ some T
  loc : s.ls ≠ [] → s.lv.ownBlock ≠ some T
theorem InOk.kept {w w' : World} {s : Sl} {T : Nat} (h : InOk w s) (hf : FarL T s) (hw : w.grownBy w' (some T)) : InOk w' s :=
  ⟨h.dom.kept (fun e => hf.dom (fun e2 => e (by rw [e2]; rfl))) hw, h.srv.kept hf.srv hw, h.loc.kept hf.loc hw, h.nd, h.nsl, h.nll⟩
theorem InL.kept {w w' : World} {s : Sl} {T : Nat} (h : InL w s) (hf : FarL T s) (hw : w.grownBy w' (some T)) : InL w' s :=
  ⟨h.dom.kept (fun e => hf.dom (fun e2 => e (by rw [e2]; rfl))) hw, h.srv.kept hf.srv hw, h.loc.kept hf.loc hw, h.sz, h.nd, h.nsl, h.nll⟩
theorem Env.kept {w w' : World} {T : Nat} (h : Env w) (hw : w.grownBy w' (some T)) (hT : 0 ≠ T) : Env w' := by
  obtain ⟨h1, m, h2⟩ := h
  exact ⟨Nat.lt_of_lt_of_le h1 hw.size, m, hw.cell h2 (fun e => hT (by injection e))⟩
theorem SlOk.other {base g : Nat} {w w' : World} {s : Sl} {cs : Array Value} (h : SlOk base w s) (hg : w.heap[g]? = some (.cells cs 31 (0, 0))) (hw : w.grownBy w' (some g)) : SlOk base w' s :=
  ⟨own_other h.dom hg (by decide) hw, own_other h.srv hg (by decide) hw, own_other h.loc hg (by decide) hw, h.nd, h.nsl, h.nll, h.sz, h.ones, h.one, h.dead, fun hl => by
    obtain ⟨C, h1, h2, h3⟩ := h.alive hl
    exact ⟨C, h1, h2, Nat.lt_of_lt_of_le h3 hw.size⟩⟩
/-- a variable that holds a link is written: the table is as it was -/
theorem TAt.other {base T last g : Nat} {w w' : World} {ss : List Sl} {cs : Array Value} (h : TAt base w T ss last) (hg : w.heap[g]? = some (.cells cs 31 (0, 0))) (hw : w.grownBy w' (some g)) : TAt base w' T ss last := by
  have hne : some T ≠ some g := fun e => by
    injection e with e
    subst e
    have := h.obj.symm.trans hg
    injection this with this
    injection this with _ this
    exact absurd this (by decide)
  exact ⟨h.ge, Nat.le_trans h.hb hw.size, (hw.block T h.lt hne).trans h.obj, h.four, fun s hs => (h.oks s hs).other hg hw, h.few⟩
def SetPost (base T last k : Nat) (ss : List Sl) (s : Sl) (w : World) (e : Ending) (w' : World) : Prop :=
  ∃ s' C, e = .returned (.int .i64 0) ∧ TAt base w' T (ss.set k s') (last + 1) ∧ w.grownBy w' (some T) ∧ Env w' ∧
    s'.live = true ∧ s'.gen = ((last + 1 : Nat) : Int) ∧ s'.ds = s.ds ∧ s'.df = s.df ∧ s'.ll = s.ll ∧ s'.ns = s.ns ∧ s'.ss = s.ss ∧ s'.nl = s.nl ∧ s'.ls = s.ls ∧ s'.ca = some ⟨C, 0, none⟩ ∧
    w.heap.size ≤ C ∧ w'.heap[C]? = some (.cells #[.int .i64 16, .slice none 0 0] 67 (0, 0)) ∧ OwnL w.heap.size w' s'
theorem set_out {w : World} (T : Nat) (i : Int) (s : Sl) (h : ¬ (0 ≤ i ∧ i < 4)) : Calls Tryz.prog 10 #[.pointer (some ⟨T, 0, none⟩), .int .i64 i, .agg s.lk.toArray] w fun e w' => e = .returned (.int .i64 12) ∧ Below w.heap.size w w' := by
  have R := decide_eq_false h
  obtain ⟨live, gen, dA, dc, ds, df, ll, sA, sc, ns, ss, lA, lc, nl, ls, ca⟩ := s
  simp only [Sl.lk]
  go_enter Tryz.func10, Tryz.ntmps10
  go_wp2_with fail
  refine (there_e _ _).mono ?_; rintro e w1 ⟨rfl, rfl⟩
  rw [R]
  go_wp2
  go_ret
  exact ⟨rfl, (Below.refl _ w).alloc (Nat.le_refl _) _⟩
theorem set_bad {w : World} (T k : Nat) (hk : k < 4) {s : Sl} (h : InL w s) (he : Env w) (hr : rightL s = false) : Calls Tryz.prog 10 #[.pointer (some ⟨T, 0, none⟩), .int .i64 k, .agg s.lk.toArray] w fun e w' => e = .returned (.int .i64 13) ∧ Below w.heap.size w w' ∧ Env w' := by
  have R : decide (0 ≤ (k : Int) ∧ (k : Int) < 4) = true := decide_eq_true (by omega)
  have hb0 := ((Below.refl _ w).alloc (Nat.le_refl _) (.cells s.lk.toArray 31))
  have hri := right_e (h.below hb0) (he.below hb0)
  rw [hr] at hri
  have HB0 := Lib.hid hb0
  obtain ⟨live, gen, dA, dc, ds, df, ll, sA, sc, ns, ss, lA, lc, nl, ls, ca⟩ := s
  clear hb0 h hr he
  simp only [Sl.lk] at hri HB0 ⊢
  go_enter Tryz.func10, Tryz.ntmps10
  go_wp2_with fail
  refine (there_e _ _).mono ?_; rintro e w1 ⟨rfl, rfl⟩
  rw [R]
  go_wp2_with fail
  refine hri.mono ?_; rintro e w1 ⟨rfl, hb1, hE1⟩
  have HB1 := Lib.hid hb1
  have HE1 := Lib.hid hE1
  clear hri hb1 hE1
  go_wp2
  go_ret
  exact ⟨rfl, HB0.out.trans (HB1.out.mono HB0.out.size), HE1.out⟩
set_option maxRecDepth 100000 in
set_option maxHeartbeats 2000000 in
theorem set_good {base T last k : Nat} {w : World} {ss0 : List Sl} {s : Sl} (hT : TAt base w T ss0 last) (hk : k < 4) (h : InL w s) (hfar : FarL T s) (he : Env w) (hme : 0 < base) (hr : rightL s = true) (hf : last + 1 ≤ 4611686018427387904) :
    Calls Tryz.prog 10 #[.pointer (some ⟨T, 0, none⟩), .int .i64 k, .agg s.lk.toArray] w fun e w' => SetPost base T last k ss0 s w e w' := by
  have R : decide (0 ≤ (k : Int) ∧ (k : Int) < 4) = true := decide_eq_true (by omega)
  have hb0 := ((Below.refl _ w).alloc (Nat.le_refl _) (.cells s.lk.toArray 31))
  have hri := right_e (h.below hb0) (he.below hb0)
  rw [hr] at hri
  obtain ⟨hin, n1, n2, n3, nz⟩ := h.inok hr
  have HB0 := Lib.hid hb0
  have HT0 := Lib.hid (hT.below hb0)
  have HI0 := Lib.hid (hin.below hb0)
  have HO0 := Lib.hid (heap_alloc_last w (.cells s.lk.toArray 31))
  have HTlt := Lib.hid hT.lt
  have HHB := Lib.hid hT.hb
  have HNZ := Lib.hid nz
  have HFAR := Lib.hid hfar
  have HONS := Lib.hid (And.intro hin.srv.one hin.loc.one)
  have hne : T ≠ w.heap.size := by have := hT.lt; omega
  clear hb0 h hr he hin hT nz hfar
  obtain ⟨live, gen, dA, dc, ds, df, ll, sA, sc, ns, ss, lA, lc, nl, ls, ca⟩ := s
  simp only [Sl.lk] at hri HB0 HT0 HI0 HO0 ⊢
  simp only at n1 n2 n3
  go_enter Tryz.func10, Tryz.ntmps10
  go_wp2_with fail
  refine (there_e _ _).mono ?_; rintro e w1 ⟨rfl, rfl⟩
  rw [R]
  go_wp2_with fail
  revert hri HB0 HT0 HI0 HO0
  generalize w.alloc _ = w0
  intro hri HB0 HT0 HI0 HO0
  refine hri.mono ?_; rintro e w1 ⟨rfl, hb1, hE1⟩
  have HB1 := Lib.hid (HB0.out.trans (hb1.mono HB0.out.size))
  have HT1 := Lib.hid (HT0.out.below hb1)
  have HI1 := Lib.hid (HI0.out.below hb1)
  have HO1 := Lib.hid ((hb1.block w.heap.size (heap_ltk HO0.out)).trans HO0.out)
  have HE1 := Lib.hid hE1
  have q1 := HT1.out.lastCell
  have q2 := HT1.out.free 32
  clear hri hb1 hE1 HB0 HT0 HI0 HO0
  have q3 := cell_of_row w1 w.heap.size 0 _ _ _ HO1.out
  have q4 := cell_of_row w1 w.heap.size 1 _ _ _ HO1.out
  have q5 := cell_of_row w1 w.heap.size 2 _ _ _ HO1.out
  have q6 := cell_of_row w1 w.heap.size 3 _ _ _ HO1.out
  have q7 := cell_of_row w1 w.heap.size 4 _ _ _ HO1.out
  have q8 := cell_of_row w1 w.heap.size 5 _ _ _ HO1.out
  have q9 := cell_of_row w1 w.heap.size 6 _ _ _ HO1.out
  simp only [List.getElem?_toArray, List.getElem?_cons_succ, List.getElem?_cons_zero] at q3 q4 q5 q6 q7 q8 q9
  have hne' : w.heap.size ≠ T := fun e => hne e.symm
  go_wp2_with fail
  have hgr := Lib.hid (grown_set w1 T 32 (.int .i64 ((last : Int) + 1)))
  have HT2 := Lib.hid (HT1.out.setLast hf)
  have HI2 := Lib.hid (HI1.out.kept HFAR.out hgr.out)
  have HO2 := Lib.hid ((hgr.out.block w.heap.size (heap_ltk HO1.out) (fun e => hne' (by injection e))).trans HO1.out)
  have hTb := HT1.out.ge
  have HE2 := Lib.hid (HE1.out.kept hgr.out (by omega))
  have HG2 := Lib.hid (grown_trans (grown_of_below (some T) HB1.out) hgr.out)
  clear q1 q2 q3 q4 q5 q6 q7 q8 q9 HT1 HI1 HO1 HE1 HB1 hgr
  generalize w1.setCell ⟨T, 32, none⟩ (.int .i64 ((last : Int) + 1)) = w2 at HT2 HI2 HO2 HE2 HG2 ⊢
  refine (copied_e HI2.out).mono ?_
  rintro e w3 ⟨A1, c1, A2, c2, A3, c3, rfl, hown, hb3⟩
  have HT3 := Lib.hid (HT2.out.below hb3)
  have HO3 := Lib.hid ((hb3.block w.heap.size (heap_ltk HO2.out)).trans HO2.out)
  have HE3 := Lib.hid (HE2.out.below hb3)
  have HG3 := Lib.hid (grown_trans HG2.out (grown_of_below (some T) hb3))
  have HW3 := Lib.hid hown
  have hz2 := HG2.out.size
  clear hown hb3 HT2 HI2 HO2 HE2 HG2
  simp only [Sl.at, Sl.lk] at HW3 ⊢
  have SR := Lib.hid (sizeLk ⟨live, gen, A1, c1, ds, df, ll, A2, c2, ns, ss, A3, c3, nl, ls, ca⟩)
  have S1 := Lib.hid (oneLk ⟨live, gen, A1, c1, ds, df, ll, A2, c2, ns, ss, A3, c3, nl, ls, ca⟩)
  simp only [Sl.lk] at SR S1
  go_upto_region 7 with (first
    | (refine wpList_store_blk rfl 31 _ _ rfl w.heap.size _ _ _ HO3.out rfl rfl SR.out rfl S1.out ?_; intro w4 hg4 hw4 hs4; go_simp))
  have HT4 := Lib.hid (HT3.out.other HO3.out hw4.out)
  have HW4 := Lib.hid (HW3.out.kept HO3.out (by decide) (by decide) (by decide) hw4.out)
  have hsz3 := HG3.out.size
  have HE4 := Lib.hid (HE3.out.kept hw4.out (by have := HHB.out; omega))
  have HB3 := Lib.hid HG3.out
  have HX4 : Hid (w.grownBy w4 (some T)) := Lib.hid ⟨hw4.out.os.trans HG3.out.os, hw4.out.tape.trans HG3.out.tape, hw4.out.output.trans HG3.out.output, Nat.le_trans HG3.out.size hw4.out.size, fun j hj hne2 => (hw4.out.block j (by omega) (fun e => by injection e with e; omega)).trans (HG3.out.block j hj hne2)⟩
  clear HT3 HW3 HE3 HG3 HB3 HO3 hw4
  have q1 := HT4.out.lastCell
  have q3 := cell_of_row w4 w.heap.size 0 _ _ _ hg4.out
  have q4 := cell_of_row w4 w.heap.size 1 _ _ _ hg4.out
  have f3 := frozen_of_row w4 w.heap.size 0 _ _ hg4.out
  have f4 := frozen_of_row w4 w.heap.size 1 _ _ hg4.out
  simp only [List.getElem?_toArray, List.getElem?_cons_succ, List.getElem?_cons_zero] at q3 q4
  go_region
  have b7 := heap_setCell_same (w4.setCell ⟨w.heap.size, 0, none⟩ (.bool true)) w.heap.size 1 _ _ (.int .i64 ((last : Int) + 1)) (heap_setCell_same w4 w.heap.size 0 _ _ (.bool true) hg4.out)
  have g7 : w4.grownBy ((w4.setCell ⟨w.heap.size, 0, none⟩ (.bool true)).setCell ⟨w.heap.size, 1, none⟩ (.int .i64 ((last : Int) + 1))) (some w.heap.size) := grown_trans (grown_set _ _ _ _) (grown_set _ _ _ _)
  simp only [List.setIfInBounds_toArray, List.set_cons_zero, List.set_cons_succ] at b7
  generalize ((w4.setCell ⟨w.heap.size, 0, none⟩ (.bool true)).setCell ⟨w.heap.size, 1, none⟩ (.int .i64 ((last : Int) + 1))) = w7 at b7 g7 ⊢
  have hz4 : w.heap.size ≤ w4.heap.size := HX4.out.size
  have HT7 := Lib.hid (HT4.out.other hg4.out g7)
  have HW7 := Lib.hid (HW4.out.kept hg4.out (by decide) (by decide) (by decide) g7)
  have HE7 := Lib.hid (HE4.out.kept g7 (by have := HHB.out; omega))
  have HX7 : Hid (w.grownBy w7 (some T)) := Lib.hid ⟨g7.os.trans HX4.out.os, g7.tape.trans HX4.out.tape, g7.output.trans HX4.out.output, Nat.le_trans HX4.out.size g7.size, fun j hj hne2 => (g7.block j (by omega) (fun e => by injection e with e; omega)).trans (HX4.out.block j hj hne2)⟩
  have hs7 : w4.heap.size ≤ w7.heap.size := g7.size
  clear HT4 HW4 HE4 HX4 hg4 g7 q1 q3 q4 f3 f4 hs4 hsz3
  go_wp2_with fail
  obtain ⟨wd, hwd⟩ : ∃ wd, wd = w7.drew.drew := ⟨_, rfl⟩
  have bd : wd.heap[w.heap.size]? = some (.cells #[.bool true, .int .i64 ((last : Int) + 1), .slice A1 ds.length c1, .bool df, .bool ll, .slice A2 ns c2, .slice A3 nl c3] 31 (0, 0)) := by rw [hwd]; exact b7
  have gd : w7.grownBy wd none := by rw [hwd]; exact grown_of_below none (Below.refl w7.heap.size w7).drew.drew
  have hbd : Below w7.heap.size w7 wd := by rw [hwd]; exact (Below.refl w7.heap.size w7).drew.drew
  have HTd := Lib.hid (HT7.out.below hbd)
  have HWd := Lib.hid (HW7.out.below hbd)
  have HEd := Lib.hid (HE7.out.below hbd)
  have HXd := Lib.hid (grown_trans HX7.out (grown_of_below (some T) hbd))
  have hsd : w7.heap.size ≤ wd.heap.size := hbd.size
  clear HT7 HW7 HE7 HX7 b7 gd hbd
  obtain ⟨xc, hxc⟩ : ∃ xc, xc = [Value.bool true, .int .i64 ((last : Int) + 1), .slice A1 ds.length c1, .bool df, .bool ll, .slice A2 ns c2, .slice A3 nl c3] := ⟨_, rfl⟩
  have hSx : (Tryz.prog.info? 31).map (·.size) = some xc.length := by rw [hxc]; exact sizeLk zSl
  have hu := Tryz.underlying31
  have RX := Lib.hid (fun (W : World) (hb : wd.grownBy W (some T)) => (fun j v hj => by rw [Nat.zero_add]; exact hb.cell ((cell_of_row _ _ _ _ _ _ bd).trans (by rw [hxc] at hj; simpa using hj)) (fun e => hne' (by injection e)) : W.rangeAt w.heap.size 0 xc))
  have HXC := Lib.hid hxc
  have hki : (k : Int) < 4 := by omega
  clear hSx
  have hSx : (Tryz.prog.info? 31).map (·.size) = some xc.length := by rw [HXC.out]; exact sizeLk zSl
  obtain ⟨s', hs'⟩ : ∃ s' : Sl, s' = ⟨true, (last : Int) + 1, A1, c1, ds, df, ll, A2, c2, ns, ss, A3, c3, nl, ls, some ⟨wd.heap.size, 0, none⟩⟩ := ⟨_, rfl⟩
  obtain ⟨Z, hZ⟩ : ∃ Z, Z = s'.cells.toArray := ⟨_, rfl⟩
  have HZQ := Lib.hid (show Z = #[.bool true, .int .i64 ((last : Int) + 1), .slice A1 ds.length c1, .bool df, .bool ll, .slice A2 ns c2, .slice A3 nl c3, .pointer (some ⟨wd.heap.size, 0, none⟩)] by rw [hZ, hs']; rfl)
  have HOa := Lib.hid ((Below.heap_alloc wd (.cells #[.int .i64 16, .slice none 0 0] 67) T HTd.out.lt).trans HTd.out.obj)
  have HCa := Lib.hid (heap_alloc_last wd (.cells #[.int .i64 16, .slice none 0 0] 67))
  have HSZ := Lib.hid (show (Tryz.prog.info? 56).map (·.size) = some Z.size by rw [hZ]; exact sizeCl s')
  have H1Z := Lib.hid (show Z.all (·.oneCell') = true by rw [hZ]; exact oneCl s')
  obtain ⟨a, b, c, d, habcd⟩ := HTd.out.abcd
  have HEQ := Lib.hid (show ((tcells ss0 ((last + 1 : Nat) : Int)).toArray.toList.take (k * 8) ++ Z.toList ++ (tcells ss0 ((last + 1 : Nat) : Int)).toArray.toList.drop (k * 8 + Z.size)).toArray = (tcells (ss0.set k s') ((last + 1 : Nat) : Int)).toArray by rw [habcd, hZ]; exact tcells_set hk _)
  have HLE := Lib.hid (show k * 8 + Z.size ≤ (tcells ss0 ((last + 1 : Nat) : Int)).toArray.size by
    have e1 : (tcells ss0 ((last + 1 : Nat) : Int)).toArray.size = 33 := by rw [List.size_toArray, tcells_len, HTd.out.four]
    have e2 : Z.size = 8 := by rw [hZ]; rfl
    omega)
  have HFIN : Hid (∀ w', w'.heap[T]? = some (.cells (tcells (ss0.set k s') ((last + 1 : Nat) : Int)).toArray 59 (0, 0)) → (wd.alloc (.cells #[.int .i64 16, .slice none 0 0] 67)).grownBy w' (some T) → SetPost base T last k ss0 ⟨live, gen, dA, dc, ds, df, ll, sA, sc, ns, ss, lA, lc, nl, ls, ca⟩ w (.returned (.int .i64 0)) w') := Lib.hid (fun w' h1 h2 => by
    have ha := (Below.refl wd.heap.size wd).alloc (Nat.le_refl _) (.cells #[.int .i64 16, .slice none 0 0] 67)
    have hTa := HTd.out.below ha
    have hWa := HWd.out.below ha
    have hWb := hWa.kept hTa.obj (by decide) (by decide) (by decide) h2
    have hCT : some wd.heap.size ≠ some T := fun e => by injection e with e; have := HTd.out.lt; omega
    have hCw := (h2.block wd.heap.size (by simp) hCT).trans HCa.out
    have hbz : base ≤ wd.heap.size := HTd.out.hb
    have hb2 : base ≤ w2.heap.size := by have := HHB.out; omega
    have hok : SlOk base w' s' := by
      rw [hs']
      exact ⟨own_down hWb.dom hb2, own_down hWb.srv hb2, own_down hWb.loc hb2, n1, n2, n3, HNZ.out, HONS.out.1, HONS.out.2, (fun h => by cases h), fun _ => ⟨wd.heap.size, rfl, hbz, heap_ltk hCw⟩⟩
    have hput := hTa.put h2 h1 hok hf
    refine ⟨s', wd.heap.size, rfl, hput, grown_trans HXd.out (grown_trans (grown_of_below (some T) ha) h2), (HEd.out.below ha).kept h2 (by omega), ?_⟩
    rw [hs']
    exact ⟨rfl, rfl, rfl, rfl, rfl, rfl, rfl, rfl, rfl, rfl, by have := HXd.out.size; exact this, hCw, own_down hWb.dom hz2, own_down hWb.srv hz2, own_down hWb.loc hz2⟩)
  clear habcd hZ HCa HWd HEd
  revert HEQ HLE HFIN HOa
  generalize (tcells ss0 ((last + 1 : Nat) : Int)).toArray = C0
  generalize (tcells (ss0.set k s') ((last + 1 : Nat) : Int)).toArray = C1
  intro HOa HEQ HLE HFIN
  clear hs'
  refine wp_region_held_drew (S := (fun W : World => wd.grownBy W (some T))) (by kernel_rfl) (by rw [← hwd]; exact World.grownBy.refl wd (some T)) (fun hHeld => ?_)
  rw [← hwd] at hHeld ⊢
  clear hwd
  refine wpAnyH_take (i := 0) (oi := ({ dst := some 28, op := Go.Op.move (Go.Operand.tmp 0), type := 25, pos := "link.go:62", after := #[], guard := none } : Oper)) (v := .pointer (some ⟨T, 0, none⟩)) rfl (by kernel_rfl) (by kernel_rfl) (by kernel_rfl) (fun _ _ _ h => h) (Or.inl ⟨by rfl, fun w' _ => ?_⟩) hHeld ?_
  · go_simp
  simp only [Act.put, List.setIfInBounds_toArray, List.set_cons_zero, List.set_cons_succ]
  refine wpAnyH_take (i := 1) (oi := ({ dst := some 29, op := Go.Op.move (Go.Operand.tmp 1), type := 3, pos := "link.go:62", after := #[], guard := none } : Oper)) (v := .int .i64 k) rfl (by kernel_rfl) (by kernel_rfl) (by kernel_rfl) (fun _ _ _ h => h) (Or.inl ⟨by rfl, fun w' _ => ?_⟩) hHeld ?_
  · go_simp
  simp only [Act.put, List.setIfInBounds_toArray, List.set_cons_zero, List.set_cons_succ]
  refine wpAnyH_take (i := 2) (oi := ({ dst := some 30, op := Go.Op.load 31 (Go.Operand.tmp 5), type := 31, pos := "link.go:62", after := #[], guard := none } : Oper)) (v := .agg (xc).toArray) rfl (by kernel_rfl) (by kernel_rfl) (by kernel_rfl) (fun _ _ _ h => h) (yieldsIf_load_mid (by rfl) _ _ rfl _ _ rfl _ _ (fun W h => RX.out W h) hu rfl hSx) hHeld ?_
  simp only [Act.put, List.setIfInBounds_toArray, List.set_cons_zero, List.set_cons_succ]
  refine wpAnyH_take (i := 5) (oi := ({ dst := some 33, op := Go.Op.nilCheck (Go.Operand.tmp 28), type := 0, pos := "link.go:62", after := #[{ on := 0, ground := Go.Ground.data }], guard := none } : Oper)) (v := .pointer (some ⟨T, 0, none⟩)) rfl (by kernel_rfl) (by kernel_rfl) (by kernel_rfl) (fun _ _ _ h => h) (Or.inl ⟨by rfl, fun w' _ => ?_⟩) hHeld ?_
  · go_simp
  simp only [Act.put, List.setIfInBounds_toArray, List.set_cons_zero, List.set_cons_succ]
  refine wpAnyH_take (i := 6) (oi := ({ dst := some 34, op := Go.Op.fieldAddr 59 (Go.Operand.tmp 33) 0, type := 0, pos := "link.go:62", after := #[{ on := 5, ground := Go.Ground.data }], guard := none } : Oper)) (v := .pointer (some ⟨T, 0, none⟩)) rfl (by kernel_rfl) (by kernel_rfl) (by kernel_rfl) (fun _ _ _ h => h) (Or.inl ⟨by rfl, fun w' _ => ?_⟩) hHeld ?_
  · go_simp
  simp only [Act.put, List.setIfInBounds_toArray, List.set_cons_zero, List.set_cons_succ]
  refine wpAnyH_ready (rs := [3]) (by kernel_rfl) (by simp) ?_
  refine AllReadyH.cons (o := ({ dst := some 31, op := Go.Op.call { callee := Go.Callee.value (Go.Operand.func 21), args := #[Go.Operand.const (Go.Value.int Go.IntKind.i64 16)], argTypes := #[3] }, type := 41, pos := "link.go:62", after := #[], guard := none } : Oper)) rfl (fun K hK => ?_) AllReadyH.nil
  go_simp
  go_at_call 21
  refine (cnew_e _).mono ?_
  rintro e' wc ⟨rfl, rfl⟩
  refine hK.out _ _ (grown_trans hHeld (World.grownBy_alloc _ _ _)) (fun hHeld2 => ?_)
  clear hK K
  try simp only [Act.put, List.setIfInBounds_toArray, List.set_cons_zero, List.set_cons_succ]
  refine wpAnyH_take (i := 4) (oi := ({ dst := some 32, op := Go.Op.build 56 #[(0, Go.Operand.tmp 30), (1, Go.Operand.tmp 31)], type := 56, pos := "link.go:62", after := #[{ on := 2, ground := Go.Ground.data }, { on := 3, ground := Go.Ground.data }], guard := none } : Oper)) (v := .agg Z) rfl (by kernel_rfl) (by kernel_rfl) (by kernel_rfl) (fun _ _ _ h => h) (Or.inl ⟨by rfl, fun w' _ => ?_⟩) hHeld2 ?_
  · ((try rw [HXC.out]); rw [HZQ.out]; go_simp)
  simp only [Act.put, List.setIfInBounds_toArray, List.set_cons_zero, List.set_cons_succ]
  refine wpAnyH_take (i := 7) (oi := ({ dst := some 35, op := Go.Op.indexAddr 57 (Go.Operand.tmp 34) (Go.Operand.tmp 29), type := 0, pos := "link.go:62", after := #[{ on := 6, ground := Go.Ground.data }, { on := 1, ground := Go.Ground.data }, { on := 0, ground := Go.Ground.phase }, { on := 1, ground := Go.Ground.phase }, { on := 2, ground := Go.Ground.phase }, { on := 3, ground := Go.Ground.phase }, { on := 4, ground := Go.Ground.phase }], guard := none } : Oper)) (v := .pointer (some ⟨T, k * 8, none⟩)) rfl (by kernel_rfl) (by kernel_rfl) (by kernel_rfl) (fun _ _ _ h => h) (Or.inl ⟨by rfl, fun w' _ => ?_⟩) hHeld2 ?_
  · go_simp
  simp only [Act.put, List.setIfInBounds_toArray, List.set_cons_zero, List.set_cons_succ]
  refine wpAnyH_ready (rs := [8]) (by kernel_rfl) (by simp) ?_
  refine AllReadyH.cons (o := ({ dst := none, op := Go.Op.store 56 (Go.Operand.tmp 35) (Go.Operand.tmp 32), type := 0, pos := "link.go:62", after := #[{ on := 7, ground := Go.Ground.data }, { on := 4, ground := Go.Ground.data }, { on := 3, ground := Go.Ground.chain }, { on := 0, ground := Go.Ground.phase }, { on := 1, ground := Go.Ground.phase }, { on := 2, ground := Go.Ground.phase }, { on := 3, ground := Go.Ground.phase }, { on := 4, ground := Go.Ground.phase }], guard := none } : Oper)) rfl (fun K hK => ?_) AllReadyH.nil
  refine step_store_sub rfl 56 _ _ rfl T (k * 8) C0 Z C1 _ HOa.out rfl rfl HSZ.out HLE.out H1Z.out HEQ.out ?_
  intro w9 hg9 hw9 hs9
  refine hK.out _ _ (grown_trans hHeld2 hw9) (fun hHeld3 => ?_)
  clear hK K
  try simp only [Act.put]
  refine wpAnyH_done (by kernel_rfl) ?_ _
  go_wp2
  go_ret
  exact HFIN.out _ hg9 hw9
end Go.Proofs.YtgopjgbcnjkblaaGreatDoor
