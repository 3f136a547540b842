/-
  The walk of LinkServers. Conditions: the link came in, the text has a length that may be, and the library's variable MaxLen holds some number.
-/
import Derived.Test.YtnjcbkolniemnaaDoorLinkMapB
namespace Go.Proofs.YtnjcbkolniemnaaDoor
open Go.RowKit

theorem fold_any (n : ByteArray) : ∀ (ds : List ByteArray) (m : Int), -1 ≤ m → (ds.any (undB n) = false → ds.foldl (rstep n) m = m) ∧ (ds.any (undB n) = true → 0 ≤ ds.foldl (rstep n) m) ∧ m ≤ ds.foldl (rstep n) m
  | [], m, _ => ⟨fun _ => rfl, (fun h => by cases h), Int.le_refl _⟩
  | d :: ds, m, h => by
    rw [List.any_cons, List.foldl_cons]
    have ih := fold_any n ds (rstep n m d) (rstep_lo h)
    have hm : m ≤ rstep n m d := by unfold rstep; split <;> omega
    cases hu : undB n d
    · have e : rstep n m d = m := by unfold rstep; rw [hu]; rfl
      rw [e] at ih ⊢
      rw [Bool.false_or]
      exact ih
    · have e : 0 ≤ rstep n m d := by unfold rstep; rw [hu]; simp; omega
      rw [Bool.true_or]
      exact ⟨fun h => (by cases h), fun _ => by have := ih.2.2; omega, by have := ih.2.2; omega⟩
theorem reach_none {ds : List ByteArray} {n : ByteArray} (h : ds.any (undB n) = false) : reachL ds n = -1 := (fold_any n ds (-1) (by omega)).1 h
theorem reach_some {ds : List ByteArray} {n : ByteArray} (h : ds.any (undB n) = true) : 0 ≤ reachL ds n := (fold_any n ds (-1) (by omega)).2.1 h
theorem route_dead {s : Sl} (n : ByteArray) (h : s.ns = 0) : routeL [zSl, s, zSl, zSl] n = [] := by
  rw [route4]
  have hz : zSl.live = false := rfl
  simp [selL, asked, h, hz]
theorem route_one {s : Sl} (n : ByteArray) (hl : s.live = true) (h : s.ns = 1) : routeL [zSl, s, zSl, zSl] n = if (s.ds.any (undB n) || s.df) = true then [1] else [] := by
  rw [route4]
  have hz : zSl.live = false := rfl
  have hlo := reach_lo s.ds n
  have hm : max (-1) (reachL s.ds n) = reachL s.ds n := by omega
  simp only [mx, hz, hl, hm, if_true, Bool.false_eq_true, if_false]
  cases ha : s.ds.any (undB n)
  · have hr := reach_none ha
    cases hd : s.df <;> simp [selL, asked, hz, hl, h, hr, hd]
  · have hr := reach_some ha
    have hne : reachL s.ds n ≠ -1 := by omega
    simp [selL, asked, hz, hl, h, hne]
theorem right_as {s s' : Sl} (h : rightL s = true) (h1 : s'.ds = s.ds) (h2 : s'.nl = s.nl) (h3 : s'.ns ≤ 3) : rightL s' = true := by
  unfold rightL at h ⊢
  simp only [Bool.and_eq_true, decide_eq_true_eq] at h ⊢
  rw [h1, h2]
  exact ⟨⟨⟨h.1.1.1, h3⟩, h.1.2⟩, h.2⟩
theorem any_take {ds : List ByteArray} (p : ByteArray → Bool) {k : Nat} (hk : k < ds.length) : (ds.take (k + 1)).any p = ((ds.take k).any p || p (ds.getD k ByteArray.empty)) := by
  rw [List.take_succ_eq_append_getElem hk, List.any_append, List.getD, List.getElem?_eq_getElem hk]; simp
theorem box7 {W : World} {B : Nat} {s : Sl} (h : W.heap[B]? = some (.cells s.lk.toArray 31 (0, 0))) :
    W.cell? ⟨B, 0, none⟩ = some (.bool s.live) ∧ W.cell? ⟨B, 1, none⟩ = some (.int .i64 s.gen) ∧ W.cell? ⟨B, 2, none⟩ = some (.slice s.dA s.ds.length s.dc) ∧ W.cell? ⟨B, 3, none⟩ = some (.bool s.df) ∧ W.cell? ⟨B, 4, none⟩ = some (.bool s.ll) ∧ W.cell? ⟨B, 5, none⟩ = some (.slice s.sA s.ns s.sc) ∧ W.cell? ⟨B, 6, none⟩ = some (.slice s.lA s.nl s.lc) ∧ W.frozen? ⟨B, 5, none⟩ = false := by
  refine ⟨?_, ?_, ?_, ?_, ?_, ?_, ?_, frozen_of_row W B 5 _ _ h⟩
  all_goals rw [cell_of_row W B _ _ _ _ h]; rfl
set_option maxRecDepth 100000 in
set_option maxHeartbeats 4000000 in
theorem linkServers_walk (s : Sl) (n : ByteArray) (W : World) (he : Env W) (hs : InS W s) (hn : n.size ≤ 140737488351232) : Calls Tryd.prog 5 #[.agg s.lk.toArray, .string n] W fun e w' => e = .returned (.bool true) ∧ Below W.heap.size W w' := by
  obtain ⟨hin, _⟩ := hs
  have HIN := Lib.hid hin
  have hb0 := ((Below.refl _ W).alloc (Nat.le_refl _) (.cells s.lk.toArray 31))
  have hO0 := heap_alloc_last W (.cells s.lk.toArray 31)
  have hE0 := he.below hb0
  have hme := he.1
  obtain ⟨live, gen, dA, dc, ds, df, ll, sA, sc, ns, ss, lA, lc, nl, ls, ca⟩ := s
  simp only [Sl.lk] at hb0 hO0 hE0 ⊢
  have HB0 := Lib.hid hb0
  have HO0 := Lib.hid hO0
  have HE0 := Lib.hid hE0
  clear hin hb0 hO0 hE0 he
  go_enter Tryd.func5, Tryd.ntmps5
  go_wp2_with fail
  generalize W.alloc _ = w0 at HB0 HO0 HE0 ⊢
  refine (fit11_e w0 HE0.out).mono ?_
  rintro e w1 ⟨rfl, hb, hE1⟩
  have HB1 := Lib.hid (HB0.out.trans (hb.mono HB0.out.size))
  have HO1 := Lib.hid ((hb.block W.heap.size (heap_ltk HO0.out)).trans HO0.out)
  have HE1 := Lib.hid hE1
  clear hb hE1 HB0 HO0 HE0
  obtain ⟨q0, q1, q2, q3, q4, q5, q6, _⟩ := box7 (s := ⟨live, gen, dA, dc, ds, df, ll, sA, sc, ns, ss, lA, lc, nl, ls, ca⟩) HO1.out
  dsimp only at q0 q1 q2 q3 q4 q5 q6
  go_wp2_with fail
  refine (short_e (HIN.out.below HB1.out)).mono ?_
  rintro e w2 ⟨b, rfl, hb⟩
  clear q0 q1 q2 q3 q4 q5 q6
  have HB2 := Lib.hid (HB1.out.trans (hb.mono HB1.out.size))
  have HO2 := Lib.hid ((hb.block W.heap.size (heap_ltk HO1.out)).trans HO1.out)
  have HE2 := Lib.hid (HE1.out.below hb)
  clear hb HB1 HO1 HE1
  cases b with
  | false =>
    go_wp2
    go_ret
    exact ⟨rfl, HB2.out⟩
  | true =>
  obtain ⟨q0, q1, q2, q3, q4, q5, q6, _⟩ := box7 (s := ⟨live, gen, dA, dc, ds, df, ll, sA, sc, ns, ss, lA, lc, nl, ls, ca⟩) HO2.out
  dsimp only at q0 q1 q2 q3 q4 q5 q6
  go_wp2_with fail
  refine (lright_e (HIN.out.below HB2.out) HE2.out).mono ?_
  rintro e w3 ⟨rfl, hb, hE3⟩
  clear q0 q1 q2 q3 q4 q5 q6
  have HB3 := Lib.hid (HB2.out.trans (hb.mono HB2.out.size))
  have HO3 := Lib.hid ((hb.block W.heap.size (heap_ltk HO2.out)).trans HO2.out)
  have HE3 := Lib.hid hE3
  clear hb hE3 HB2 HO2 HE2
  cases hr : rightL ⟨live, gen, dA, dc, ds, df, ll, sA, sc, ns, ss, lA, lc, nl, ls, ca⟩ with
  | false =>
    go_wp2
    go_ret
    exact ⟨rfl, HB3.out⟩
  | true =>
  by_cases hlong : 300 < n.size
  · clear hr
    go_wp2
    go_ret
    exact ⟨rfl, HB3.out⟩
  have hn3 : n.size ≤ 300 := by omega
  have HR := Lib.hid hr
  clear hlong hr
  go_wp2_with fail
  refine (newT_e w3).mono ?_
  rintro e w4 ⟨T, rfl, hT4, hb⟩
  have HT4 := Lib.hid hT4
  have HB4 := Lib.hid (HB3.out.trans (hb.mono HB3.out.size))
  have HO4 := Lib.hid ((hb.block W.heap.size (heap_ltk HO3.out)).trans HO3.out)
  have HE4 := Lib.hid (HE3.out.below hb)
  have hz3 := HB3.out.size
  have hTb := hT4.ge
  have hbx := heap_ltk HO3.out
  clear hT4 hb HB3 HO3 HE3
  obtain ⟨q0, q1, q2, q3, q4, q5, q6, qf⟩ := box7 (s := ⟨live, gen, dA, dc, ds, df, ll, sA, sc, ns, ss, lA, lc, nl, ls, ca⟩) HO4.out
  dsimp only at q0 q1 q2 q3 q4 q5 q6
  go_wp2_with fail
  clear q0 q1 q2 q3 q4 q5 q6 qf
  have hO5 := heap_setCell_same w4 W.heap.size 5 _ _ (.slice none 0 0) HO4.out
  simp only [List.setIfInBounds_toArray, List.set_cons_succ, List.set_cons_zero] at hO5
  have HO5 := Lib.hid hO5
  have HT5 := Lib.hid (HT4.out.other HO4.out (grown_set w4 W.heap.size 5 (.slice none 0 0)))
  have HE5 := Lib.hid (HE4.out.kept (grown_set w4 W.heap.size 5 (.slice none 0 0)) (by omega))
  have HB5 := Lib.hid (HB4.out.setCell (p := ⟨W.heap.size, 5, none⟩) (Nat.le_refl _) (.slice none 0 0))
  clear hO5 HO4 HT4 HE4 HB4
  generalize w4.setCell ⟨W.heap.size, 5, none⟩ (.slice none 0 0) = w5 at HO5 HT5 HE5 HB5 ⊢
  have hi5 := HIN.out.below HB5.out
  have hf5 := HIN.out.far (T := T) (by omega)
  have hset := set_good (k := 1) (s := ⟨live, gen, dA, dc, ds, df, ll, none, 0, 0, [], lA, lc, nl, ls, ca⟩) HT5.out (by omega) ⟨hi5.dom, RowIn.nil _ _, hi5.loc, hi5.sz, hi5.nd, Nat.zero_le _, hi5.nll⟩ ⟨hf5.dom, (fun h => absurd rfl h), hf5.loc⟩ HE5.out (by omega) (right_as HR.out rfl rfl (Nat.zero_le _)) (by omega)
  refine Calls.mono hset ?_
  rintro e w6 ⟨s6, C6, rfl, hT6, hg6, hE6, _, _, _, _, _, n6, _⟩
  have HT6 := Lib.hid hT6
  have HE6 := Lib.hid hE6
  have HB6 := Lib.hid (HB5.out.grown hg6 HB5.out.size (fun k e => by injection e with e; omega))
  have HO6 := Lib.hid ((hg6.block W.heap.size (heap_ltk HO5.out) (fun e => by injection e with e; omega)).trans HO5.out)
  clear hi5 hf5 hset hT6 hg6 hE6 HT5 HE5 HB5 HO5
  go_wp2_with fail
  have hrt := route_e n w6 HT6.out hn3 HE6.out
  rw [show routeL ([zSl, zSl, zSl, zSl].set 1 s6) n = [] from route_dead n n6] at hrt
  refine Calls.mono hrt ?_
  rintro e w7 ⟨v, rfl, ho, hb⟩
  obtain ⟨vA, vc, rfl⟩ := own_fm ho
  have HT7 := Lib.hid (HT6.out.below hb)
  have HE7 := Lib.hid (HE6.out.below hb)
  have HB7 := Lib.hid (HB6.out.trans (hb.mono HB6.out.size))
  have HO7 := Lib.hid ((hb.block W.heap.size (heap_ltk HO6.out)).trans HO6.out)
  have hbx7 := heap_ltk HO7.out
  clear hrt ho hb HT6 HE6 HB6 HO6 n6
  rw [List.length_nil]
  obtain ⟨q0, q1, q2, q3, q4, q5, q6, qf⟩ := box7 (s := ⟨live, gen, dA, dc, ds, df, ll, none, 0, 0, [], lA, lc, nl, ls, ca⟩) HO7.out
  dsimp only at q0 q1 q2 q3 q4 q5 q6
  have hmk := mk_addr
  have hz7 := HB7.out.size
  go_wp2_with fail
  clear q0 q1 q2 q3 q4 q5 q6 qf hmk
  have hOs := heap_setCell_same w7 W.heap.size 5 _ _ (.slice (some ⟨w7.heap.size, 0, none⟩) 1 1) HO7.out
  simp only [List.setIfInBounds_toArray, List.set_cons_succ, List.set_cons_zero] at hOs
  have hgs := grown_set w7 W.heap.size 5 (.slice (some ⟨w7.heap.size, 0, none⟩) 1 1)
  have hTs := HT7.out.other HO7.out hgs
  have hEs := HE7.out.kept hgs (by omega)
  have hBs := HB7.out.setCell (p := ⟨W.heap.size, 5, none⟩) (Nat.le_refl _) (.slice (some ⟨w7.heap.size, 0, none⟩) 1 1)
  have hss : (w7.setCell ⟨W.heap.size, 5, none⟩ (.slice (some ⟨w7.heap.size, 0, none⟩) 1 1)).heap.size = w7.heap.size := by simp
  have hTl := HT7.out.lt
  clear hgs HT7 HE7 HB7 HO7
  generalize w7.setCell ⟨W.heap.size, 5, none⟩ (.slice (some ⟨w7.heap.size, 0, none⟩) 1 1) = ws at hOs hTs hEs hBs hss ⊢
  have hba := (Below.refl _ ws).alloc (Nat.le_refl _) (.cells z16.toArray 53)
  have HO8 := Lib.hid ((hba.block W.heap.size (heap_ltk hOs)).trans hOs)
  have HT8 := Lib.hid (hTs.below hba)
  have HE8 := Lib.hid (hEs.below hba)
  have HB8 := Lib.hid (hBs.trans (hba.mono hBs.size))
  have hGa := heap_alloc_last ws (.cells z16.toArray 53)
  rw [hss] at hGa
  have HG8 := Lib.hid hGa
  clear hba hOs hTs hEs hBs hGa
  generalize ws.alloc (.cells z16.toArray 53) = w8 at HO8 HT8 HE8 HB8 HG8 ⊢
  have hi8 := HIN.out.below HB8.out
  have hf8 := HIN.out.far (T := T) (by omega)
  have hset := set_good (k := 1) (s := ⟨live, gen, dA, dc, ds, df, ll, some ⟨w7.heap.size, 0, none⟩, 1, 1, z16, lA, lc, nl, ls, ca⟩) HT8.out (by omega) ⟨hi8.dom, RowIn.of_heap HG8.out rfl rfl (fun u (hu : u ∈ z16) => by unfold z16 at hu; rw [List.eq_of_mem_replicate hu]; rfl), hi8.loc, hi8.sz, hi8.nd, by show 1 ≤ maxLen; unfold maxLen; omega, hi8.nll⟩ ⟨hf8.dom, (fun _ e => by simp [Sl.sv, Value.ownBlock] at e; omega), hf8.loc⟩ HE8.out (by omega) (right_as HR.out rfl rfl (by show 1 ≤ 3; omega)) (by omega)
  refine Calls.mono hset ?_
  rintro e w9 ⟨s9, C9, rfl, hT9, hg9, hE9, l9, _, d9, f9, _, n9, _⟩
  have HT9 := Lib.hid hT9
  have HE9 := Lib.hid hE9
  have HB9 := Lib.hid (HB8.out.grown hg9 HB8.out.size (fun k e => by injection e with e; omega))
  have HO9 := Lib.hid ((hg9.block W.heap.size (heap_ltk HO8.out) (fun e => by injection e with e; omega)).trans HO8.out)
  dsimp only at d9 f9 n9
  have HRT := Lib.hid (route_one n l9 n9)
  rw [d9, f9] at HRT
  clear hi8 hf8 hset hT9 hg9 hE9 HT8 HE8 HB8 HO8 HG8 l9 d9 f9 n9
  obtain ⟨q0, q1, q2, q3, q4, q5, q6, qf⟩ := box7 (s := ⟨live, gen, dA, dc, ds, df, ll, some ⟨w7.heap.size, 0, none⟩, 1, 1, z16, lA, lc, nl, ls, ca⟩) HO9.out
  dsimp only at q0 q1 q2 q3 q4 q5 q6
  have HD9 := Lib.hid (HIN.out.below HB9.out).dom
  have HSZ := Lib.hid (HIN.out.inok HR.out).2.2.2.2
  simp only [Sl.dv] at HD9
  dsimp only at HSZ
  have hnd := HIN.out.nd
  unfold maxLen at hnd
  dsimp only at hnd
  go_wp2
  go_loopw [6, 43] (fun z i wr => ∃ k : Nat, k ≤ ds.length ∧ i = .int .i64 k ∧ z = .bool ((ds.take k).any (undB n)) ∧ Below w9.heap.size w9 wr ∧ Env wr) (fun _ i _ => ds.length - (intOf i).toNat)
  case atStart => exact ⟨0, Nat.zero_le _, rfl, rfl, Below.refl _ _, HE9.out⟩
  case round =>
    obtain ⟨k, hk, rfl, rfl, hb, hE⟩ := hrel
    by_cases hlt : k < ds.length
    · obtain ⟨g, o, rfl, hc⟩ := (HD9.out.below hb).txt hlt
      have hxz := HSZ.out _ (getD_mem hlt)
      have HN := Lib.hid (any_take (undB n) hlt)
      have HB := Lib.hid hb
      have HE := Lib.hid hE
      clear hb hE
      revert hc hxz HN
      generalize ds.getD k ByteArray.empty = x
      generalize (ds.take k).any (undB n) = u
      intro hc hxz HN
      cases u with
      | true =>
        go_wp2
        go_roundw
        case rel => exact ⟨k + 1, by omega, by simp, by rw [HN.out]; rfl, HB.out, HE.out⟩
        case measure => simp [intOf]; omega
      | false =>
        have hund := under_e n x wr HE.out (by omega) (by omega)
        go_wp2_with fail
        refine hund.mono ?_
        rintro e w10 ⟨rfl, hb, hE⟩
        have HB10 := Lib.hid (HB.out.trans (hb.mono HB.out.size))
        have HE10 := Lib.hid hE
        clear hund hb hE hc
        go_wp2
        go_roundw
        case rel => exact ⟨k + 1, by omega, by simp, by rw [HN.out]; rfl, HB10.out, HE10.out⟩
        case measure => simp [intOf]; omega
    · obtain rfl : k = ds.length := by omega
      rw [List.take_length]
      have hrt := route_e n wr (HT9.out.below hb) hn3 hE
      rw [show routeL (([zSl, zSl, zSl, zSl].set 1 s6).set 1 s9) n = _ from HRT.out] at hrt
      have HO := Lib.hid ((hb.block W.heap.size (heap_ltk HO9.out)).trans HO9.out)
      have HB := Lib.hid (HB9.out.trans (hb.mono HB9.out.size))
      clear hb hE q0 q1 q2 q3 q4 q5 q6 qf
      revert hrt
      generalize ds.any (undB n) = u
      intro hrt
      go_wp2_with fail
      refine Calls.mono hrt ?_
      rintro e w10 ⟨v, rfl, ho, hb⟩
      obtain ⟨vA, vc, rfl⟩ := own_fm ho
      have HO10 := Lib.hid ((hb.block W.heap.size (heap_ltk HO.out)).trans HO.out)
      have HB10 := Lib.hid (HB.out.trans (hb.mono HB.out.size))
      have hlt10 := heap_ltk HO10.out
      have hz10 := HB10.out.size
      clear hrt ho hb HO HB
      obtain ⟨q0, q1, q2, q3, q4, q5, q6, qf⟩ := box7 (s := ⟨live, gen, dA, dc, ds, df, ll, some ⟨w7.heap.size, 0, none⟩, 1, 1, z16, lA, lc, nl, ls, ca⟩) HO10.out
      dsimp only at q0 q1 q2 q3 q4 q5 q6
      have hmm := @run_makeMap Tryd.prog
      cases u
      · cases df
        · go_wp2_with (first
            | (refine wpList_insB rfl (.tmp 58) (.const (.bool true)) (.const (.int .i64 1)) rfl w10.heap.size true 1 #[] 0 rfl rfl rfl (heap_alloc_last w10 _) rfl ?_; intro w11 hs11 hb11 ho11 hB11; have HS11 := Lib.hid hs11; have HM11 := Lib.hid hb11; have HX11 := Lib.hid ho11; have HL11 := Lib.hid hB11; clear hs11 hb11 ho11 hB11; go_simp)
            | (refine wpList_insB rfl (.tmp 58) (.const (.bool false)) (.const (.int .i64 0)) rfl w10.heap.size false 0 _ 1 rfl rfl rfl HM11.out rfl ?_; intro w12 hs12 hb12 ho12 hB12; have HS12 := Lib.hid hs12; have HM12 := Lib.hid hb12; have HX12 := Lib.hid ho12; have HL12 := Lib.hid hB12; clear hs12 hb12 ho12 hB12; have hq12 : w12.cell? ⟨W.heap.size, 3, none⟩ = some (.bool false) := (World.cell?_of_block (a := ⟨W.heap.size, 3, none⟩) ((HX12.out W.heap.size (by omega)).trans ((HX11.out W.heap.size (by omega)).trans (Below.heap_alloc w10 _ W.heap.size hlt10)))).trans q3; go_simp)
            | (refine wpList_lookB rfl (.tmp 59) (.tmp 64) rfl w10.heap.size false 0 _ 2 1 rfl rfl HM12.out rfl ?_; go_simp))
          go_ret
          exact ⟨rfl, (((HB10.out.alloc hz10 _).trans (HL11.out.mono hz10)).trans (HL12.out.mono hz10))⟩
        · go_wp2_with (first
            | (refine wpList_insB rfl (.tmp 58) (.const (.bool true)) (.const (.int .i64 1)) rfl w10.heap.size true 1 #[] 0 rfl rfl rfl (heap_alloc_last w10 _) rfl ?_; intro w11 hs11 hb11 ho11 hB11; have HS11 := Lib.hid hs11; have HM11 := Lib.hid hb11; have HX11 := Lib.hid ho11; have HL11 := Lib.hid hB11; clear hs11 hb11 ho11 hB11; go_simp)
            | (refine wpList_insB rfl (.tmp 58) (.const (.bool false)) (.const (.int .i64 0)) rfl w10.heap.size false 0 _ 1 rfl rfl rfl HM11.out rfl ?_; intro w12 hs12 hb12 ho12 hB12; have HS12 := Lib.hid hs12; have HM12 := Lib.hid hb12; have HX12 := Lib.hid ho12; have HL12 := Lib.hid hB12; clear hs12 hb12 ho12 hB12; have hq12 : w12.cell? ⟨W.heap.size, 3, none⟩ = some (.bool true) := (World.cell?_of_block (a := ⟨W.heap.size, 3, none⟩) ((HX12.out W.heap.size (by omega)).trans ((HX11.out W.heap.size (by omega)).trans (Below.heap_alloc w10 _ W.heap.size hlt10)))).trans q3; go_simp)
            | (refine wpList_lookB rfl (.tmp 59) (.tmp 64) rfl w10.heap.size true 1 _ 2 0 rfl rfl HM12.out rfl ?_; go_simp))
          go_ret
          exact ⟨rfl, (((HB10.out.alloc hz10 _).trans (HL11.out.mono hz10)).trans (HL12.out.mono hz10))⟩
      · go_wp2_with (first
          | (refine wpList_insB rfl (.tmp 58) (.const (.bool true)) (.const (.int .i64 1)) rfl w10.heap.size true 1 #[] 0 rfl rfl rfl (heap_alloc_last w10 _) rfl ?_; intro w11 hs11 hb11 ho11 hB11; have HS11 := Lib.hid hs11; have HM11 := Lib.hid hb11; have HX11 := Lib.hid ho11; have HL11 := Lib.hid hB11; clear hs11 hb11 ho11 hB11; go_simp)
          | (refine wpList_insB rfl (.tmp 58) (.const (.bool false)) (.const (.int .i64 0)) rfl w10.heap.size false 0 _ 1 rfl rfl rfl HM11.out rfl ?_; intro w12 hs12 hb12 ho12 hB12; have HS12 := Lib.hid hs12; have HM12 := Lib.hid hb12; have HX12 := Lib.hid ho12; have HL12 := Lib.hid hB12; clear hs12 hb12 ho12 hB12; go_simp)
          | (refine wpList_lookB rfl (.tmp 59) (.tmp 64) rfl w10.heap.size true 1 _ 2 0 rfl rfl HM12.out rfl ?_; go_simp))
        go_ret
        exact ⟨rfl, (((HB10.out.alloc hz10 _).trans (HL11.out.mono hz10)).trans (HL12.out.mono hz10))⟩
end Go.Proofs.YtnjcbkolniemnaaDoor
