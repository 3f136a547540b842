/-
  The walks of copied, New, cache.New and Len, and of Remove, Get and Cache of a table. Conditions: each states its own.
-/
import Derived.Test.YtgopjgbcnjkblaaGreatDoorLinkCl
import Derived.Laws.ResultCell
namespace Go.Proofs.YtgopjgbcnjkblaaGreatDoor
open Go.RowKit

/-- a link that is handed in: its lists lie where its slices say -/
structure InOk (w : World) (s : Sl) : Prop where
  dom : RowIn 1 w s.dv s.ds.length (s.ds.map .string)
  srv : RowIn 16 w s.sv s.ns s.ss
  loc : RowIn 18 w s.lv s.nl s.ls
  nd : s.ds.length ≤ 1000
  nsl : s.ns ≤ 1000
  nll : s.nl ≤ 1000
theorem InOk.below {w w' : World} {s : Sl} (h : InOk w s) (hb : Below w.heap.size w w') : InOk w' s := ⟨h.dom.below hb, h.srv.below hb, h.loc.below hb, h.nd, h.nsl, h.nll⟩
/-- the same link with lists that lie elsewhere -/
def Sl.at (s : Sl) (dA : Option Addr) (dc : Nat) (sA : Option Addr) (sc : Nat) (lA : Option Addr) (lc : Nat) : Sl := { s with dA := dA, dc := dc, sA := sA, sc := sc, lA := lA, lc := lc }
/-- a link's lists are of the call's own -/
structure OwnL (base : Nat) (w : World) (s : Sl) : Prop where
  dom : w.ownsRow base 9 1 s.dv s.ds.length (s.ds.map .string)
  srv : w.ownsRow base 83 16 s.sv s.ns s.ss
  loc : w.ownsRow base 94 18 s.lv s.nl s.ls
theorem OwnL.kept {base T : Nat} {w w' : World} {s : Sl} {cs : Array Value} {U : TypeId} (h : OwnL base w s) (hg : w.heap[T]? = some (.cells cs U (0, 0))) (h1 : 9 ≠ U) (h2 : 83 ≠ U) (h3 : 94 ≠ U) (hw : w.grownBy w' (some T)) : OwnL base w' s :=
  ⟨own_other h.dom hg h1 hw, own_other h.srv hg h2 hw, own_other h.loc hg h3 hw⟩
theorem own_below {b size n : Nat} {w w' : World} {T : TypeId} {v : Value} {xs : List Value} (h : w.ownsRow b T size v n xs) (hb : Below w.heap.size w w') : w'.ownsRow b T size v n xs := by
  refine ⟨h.1, ?_⟩
  rcases h.2 with h0 | ⟨k, cap, cur, rfl, hk, hg, r⟩
  · exact .inl h0
  · exact .inr ⟨k, cap, cur, rfl, hk, (hb.block k (heap_ltk hg)).trans hg, r⟩
theorem own_down {w : World} {b b' e size n : Nat} {v : Value} {xs : List Value} (h : w.ownsRow b e size v n xs) (hb : b' ≤ b) : w.ownsRow b' e size v n xs := by
  refine ⟨h.1, ?_⟩
  rcases h.2 with h0 | ⟨g, cap, cur, hv, hg, r⟩
  · exact .inl h0
  · exact .inr ⟨g, cap, cur, hv, Nat.le_trans hb hg, r⟩
theorem OwnL.below {base : Nat} {w w' : World} {s : Sl} (h : OwnL base w s) (hb : Below w.heap.size w w') : OwnL base w' s := ⟨own_below h.dom hb, own_below h.srv hb, own_below h.loc hb⟩
theorem grown_set (w : World) (g j : Nat) (v : Value) : w.grownBy (w.setCell ⟨g, j, none⟩ v) (some g) := ⟨rfl, rfl, rfl, by simp, fun k _ hk => Below.heap_setCell w ⟨g, j, none⟩ v k (fun e => hk (by rw [e]))⟩
theorem sizeLk (s : Sl) : (Tryz.prog.info? 31).map (·.size) = some s.lk.toArray.size := by kernel_rfl
theorem oneLk (s : Sl) : s.lk.toArray.all (·.oneCell') = true := by simp [Sl.lk, Value.oneCell']
def CopPost (s : Sl) (w : World) (e : Ending) (w' : World) : Prop := ∃ dA dc sA sc lA lc, e = .returned (.agg (s.at dA dc sA sc lA lc).lk.toArray) ∧ OwnL w.heap.size w' (s.at dA dc sA sc lA lc) ∧ Below w.heap.size w w'
set_option maxRecDepth 100000 in
set_option maxHeartbeats 2000000 in
theorem copied_e {w : World} {s : Sl} (h : InOk w s) : Calls Tryz.prog 27 #[.agg s.lk.toArray] w fun e w' => CopPost s w e w' := by
  obtain ⟨live, gen, dA, dc, ds, df, ll, sA, sc, ns, ss, lA, lc, nl, ls, ca⟩ := s
  obtain ⟨hd, hs, hl, n1, n2, n3⟩ := h
  have e1 := hd.len
  simp only [Sl.dv, Sl.sv, Sl.lv] at hd hs hl n1 n2 n3
  have HD := Lib.hid hd
  have HS := Lib.hid hs
  have HL := Lib.hid hl
  clear hd hs hl e1
  simp only [Sl.lk]
  have hb0 : Below w.heap.size w ((w.alloc (.cells #[.bool live, .int .i64 gen, .slice dA ds.length dc, .bool df, .bool ll, .slice sA ns sc, .slice lA nl lc] 31)).alloc (.cells #[.bool false, .int .i64 0, .slice none 0 0, .bool false, .bool false, .slice none 0 0, .slice none 0 0] 31)) := ((Below.refl _ w).alloc (Nat.le_refl _) _).alloc (by simp) _
  have ho0 : ((w.alloc (.cells #[.bool live, .int .i64 gen, .slice dA ds.length dc, .bool df, .bool ll, .slice sA ns sc, .slice lA nl lc] 31)).alloc (.cells #[.bool false, .int .i64 0, .slice none 0 0, .bool false, .bool false, .slice none 0 0, .slice none 0 0] 31)).heap[w.heap.size]? = some (.cells #[.bool live, .int .i64 gen, .slice dA ds.length dc, .bool df, .bool ll, .slice sA ns sc, .slice lA nl lc] 31 (0, 0)) := (Below.heap_alloc _ _ _ (by simp)).trans (heap_alloc_last w _)
  have hr0 : ((w.alloc (.cells #[.bool live, .int .i64 gen, .slice dA ds.length dc, .bool df, .bool ll, .slice sA ns sc, .slice lA nl lc] 31)).alloc (.cells #[.bool false, .int .i64 0, .slice none 0 0, .bool false, .bool false, .slice none 0 0, .slice none 0 0] 31)).heap[w.heap.size + 1]? = some (.cells #[.bool false, .int .i64 0, .slice none 0 0, .bool false, .bool false, .slice none 0 0, .slice none 0 0] 31 (0, 0)) := by
    have := heap_alloc_last (w.alloc (.cells #[.bool live, .int .i64 gen, .slice dA ds.length dc, .bool df, .bool ll, .slice sA ns sc, .slice lA nl lc] 31)) (.cells #[.bool false, .int .i64 0, .slice none 0 0, .bool false, .bool false, .slice none 0 0, .slice none 0 0] 31)
    rwa [World.size_alloc] at this
  have HB0 := Lib.hid hb0
  have HO0 := Lib.hid ho0
  have HR0 := Lib.hid hr0
  clear hb0 ho0 hr0
  go_enter Tryz.func27, Tryz.ntmps27
  go_wp2_with fail
  generalize ((w.alloc _).alloc _) = w0 at HB0 HO0 HR0 ⊢
  refine (clone_str (HD.out.below HB0.out) n1).mono ?_
  rintro e w1 ⟨v1, rfl, ho1, hb1⟩
  obtain ⟨A1, c1, rfl⟩ := own_fm ho1
  have hz0 := HB0.out.size
  have hz1 := hb1.size
  have hO1 := (hb1.block w.heap.size (heap_ltk HO0.out)).trans HO0.out
  have hR1 := (hb1.block (w.heap.size + 1) (heap_ltk HR0.out)).trans HR0.out
  have HB1 := Lib.hid ((HB0.out.trans (hb1.mono hz0)).setCell (p := ⟨w.heap.size, 2, none⟩) (Nat.le_refl _) (.slice A1 ds.length c1))
  have HO1 := Lib.hid (heap_setCell_same w1 w.heap.size 2 _ _ (.slice A1 ds.length c1) hO1)
  have HR1 := Lib.hid ((Below.heap_setCell w1 ⟨w.heap.size, 2, none⟩ (.slice A1 ds.length c1) (w.heap.size + 1) (by simp)).trans hR1)
  have HG1 := Lib.hid (own_other (own_down ho1 hz0) hO1 (by decide) (grown_set w1 w.heap.size 2 (.slice A1 ds.length c1)))
  have q1 := frozen_of_row w1 w.heap.size 2 _ _ hO1
  have q2 := cell_of_row w1 w.heap.size 2 _ _ _ hO1
  simp only [List.getElem?_toArray, List.getElem?_cons_succ, List.getElem?_cons_zero] at q2
  clear ho1 hb1 hO1 hR1 hz0 hz1 HB0 HO0 HR0
  have q3 := cell_of_row (w1.setCell ⟨w.heap.size, 2, none⟩ (.slice A1 ds.length c1)) w.heap.size 5 _ _ _ HO1.out
  simp only [List.setIfInBounds_toArray, List.set_cons_succ, List.set_cons_zero, List.getElem?_toArray, List.getElem?_cons_succ, List.getElem?_cons_zero] at q3
  rw [World.cell?_setCell_other (h := by intro e; injection e with _ e _; omega)] at q3
  go_wp2_with fail
  clear q1 q2 q3
  generalize w1.setCell ⟨w.heap.size, 2, none⟩ (.slice A1 ds.length c1) = w2 at HB1 HO1 HR1 HG1 ⊢
  refine (clone_adr (HS.out.below HB1.out) n2).mono ?_
  rintro e w3 ⟨v2, rfl, ho1, hb1⟩
  obtain ⟨A2, c2, rfl⟩ := own_fm ho1
  have hz0 := HB1.out.size
  have hO1 := (hb1.block w.heap.size (heap_ltk HO1.out)).trans HO1.out
  have hR1 := (hb1.block (w.heap.size + 1) (heap_ltk HR1.out)).trans HR1.out
  have HB3 := Lib.hid ((HB1.out.trans (hb1.mono hz0)).setCell (p := ⟨w.heap.size, 5, none⟩) (Nat.le_refl _) (.slice A2 ns c2))
  have HO3 := Lib.hid (heap_setCell_same w3 w.heap.size 5 _ _ (.slice A2 ns c2) hO1)
  have HR3 := Lib.hid ((Below.heap_setCell w3 ⟨w.heap.size, 5, none⟩ (.slice A2 ns c2) (w.heap.size + 1) (by simp)).trans hR1)
  have HG3 := Lib.hid (own_other (own_below HG1.out hb1) hO1 (by decide) (grown_set w3 w.heap.size 5 (.slice A2 ns c2)))
  have HH3 := Lib.hid (own_other (own_down ho1 hz0) hO1 (by decide) (grown_set w3 w.heap.size 5 (.slice A2 ns c2)))
  have q1 := frozen_of_row w3 w.heap.size 5 _ _ hO1
  have q2 := cell_of_row w3 w.heap.size 5 _ _ _ hO1
  simp only [List.setIfInBounds_toArray, List.set_cons_succ, List.set_cons_zero, List.getElem?_toArray, List.getElem?_cons_succ, List.getElem?_cons_zero] at q2
  clear ho1 hb1 hO1 hR1 hz0 HB1 HO1 HR1 HG1
  have q3 := cell_of_row (w3.setCell ⟨w.heap.size, 5, none⟩ (.slice A2 ns c2)) w.heap.size 6 _ _ _ HO3.out
  simp only [List.setIfInBounds_toArray, List.set_cons_succ, List.set_cons_zero, List.getElem?_toArray, List.getElem?_cons_succ, List.getElem?_cons_zero] at q3
  rw [World.cell?_setCell_other (h := by intro e; injection e with _ e _; omega)] at q3
  go_wp2_with fail
  clear q1 q2 q3
  generalize w3.setCell ⟨w.heap.size, 5, none⟩ (.slice A2 ns c2) = w4 at HB3 HO3 HR3 HG3 HH3 ⊢
  refine (clone_loc (HL.out.below HB3.out) n3).mono ?_
  rintro e w5 ⟨v3, rfl, ho1, hb1⟩
  obtain ⟨A3, c3, rfl⟩ := own_fm ho1
  have hz0 := HB3.out.size
  have hO1 := (hb1.block w.heap.size (heap_ltk HO3.out)).trans HO3.out
  have hR1 := (hb1.block (w.heap.size + 1) (heap_ltk HR3.out)).trans HR3.out
  have HB5 := Lib.hid ((HB3.out.trans (hb1.mono hz0)).setCell (p := ⟨w.heap.size, 6, none⟩) (Nat.le_refl _) (.slice A3 nl c3))
  have HO5 := Lib.hid (heap_setCell_same w5 w.heap.size 6 _ _ (.slice A3 nl c3) hO1)
  have HR5 := Lib.hid ((Below.heap_setCell w5 ⟨w.heap.size, 6, none⟩ (.slice A3 nl c3) (w.heap.size + 1) (by simp)).trans hR1)
  have HG5 := Lib.hid (own_other (own_below HG3.out hb1) hO1 (by decide) (grown_set w5 w.heap.size 6 (.slice A3 nl c3)))
  have HH5 := Lib.hid (own_other (own_below HH3.out hb1) hO1 (by decide) (grown_set w5 w.heap.size 6 (.slice A3 nl c3)))
  have HI5 := Lib.hid (own_other (own_down ho1 hz0) hO1 (by decide) (grown_set w5 w.heap.size 6 (.slice A3 nl c3)))
  have q1 := frozen_of_row w5 w.heap.size 6 _ _ hO1
  have q2 := cell_of_row w5 w.heap.size 6 _ _ _ hO1
  simp only [List.setIfInBounds_toArray, List.set_cons_succ, List.set_cons_zero, List.getElem?_toArray, List.getElem?_cons_succ, List.getElem?_cons_zero] at q2
  clear ho1 hb1 hO1 hR1 hz0 HB3 HO3 HR3 HG3 HH3
  simp only [List.setIfInBounds_toArray, List.set_cons_succ, List.set_cons_zero] at HO5
  have SR := Lib.hid (sizeLk (Sl.at ⟨live, gen, dA, dc, ds, df, ll, sA, sc, ns, ss, lA, lc, nl, ls, ca⟩ A1 c1 A2 c2 A3 c3))
  simp only [Sl.at, Sl.lk] at SR
  have S1 := Lib.hid (oneLk (Sl.at ⟨live, gen, dA, dc, ds, df, ll, sA, sc, ns, ss, lA, lc, nl, ls, ca⟩ A1 c1 A2 c2 A3 c3))
  simp only [Sl.at, Sl.lk] at S1
  go_wp2_with (first
    | (refine wpList_load_row rfl 31 _ rfl w.heap.size rfl _ _ _ _ HO5.out Tryz.underlying31 rfl SR.out ?_; go_simp)
    | (refine wpList_store_blk rfl 31 _ _ rfl (w.heap.size + 1) _ _ _ HR5.out rfl rfl SR.out rfl S1.out ?_; intro w6 hg6 hw6 hs6; go_simp))
  have hG6 := OwnL.kept (s := Sl.at ⟨live, gen, dA, dc, ds, df, ll, sA, sc, ns, ss, lA, lc, nl, ls, ca⟩ A1 c1 A2 c2 A3 c3) ⟨HG5.out, HH5.out, HI5.out⟩ HR5.out (by decide) (by decide) (by decide) hw6.out
  exact bodyPost_ret (results_cell_row rfl _ w6 (w.heap.size + 1) 31 _ (0, 0) _ rfl hg6.out Tryz.underlying31 rfl SR.out) rfl ⟨A1, c1, A2, c2, A3, c3, rfl, hG6, HB5.out.grown hw6.out HB5.out.size (fun k e => by injection e with e; omega)⟩
end Go.Proofs.YtgopjgbcnjkblaaGreatDoor
