/-
  The walk of Route, whole. Conditions: the table is of the call's own; the name has at most 300 bytes; the library's variable MaxLen holds some number.
-/
import Derived.Test.YtgopjgbcnjkblaaGreatDoorLinkRoute
namespace Go.Proofs.YtgopjgbcnjkblaaGreatDoor
open Go.RowKit Go.Shelf
attribute [local go_sem] Oper.semAt_some

/-- what the longest of all their domains counts -/
def longOf {ss : List Sl} (n : ByteArray) (ys : List (El ss)) : Int := ys.foldl (fun m x => max m (reachL x.1.2.ds n)) (-1)
theorem longOf_snoc {ss : List Sl} (n : ByteArray) (ys : List (El ss)) (x : El ss) : longOf n (ys ++ [x]) = max (longOf n ys) (reachL x.1.2.ds n) := by
  unfold longOf; rw [List.foldl_append]; rfl
/-- the links that a name is asked on -/
def routeL (ss : List Sl) (n : ByteArray) : List Int := numsOf (asked (longOf n (comeTo ss 4)) n) (comeTo ss 4)
set_option maxRecDepth 100000 in
set_option maxHeartbeats 2000000 in
theorem route_in {base T last : Nat} {a b c d : Sl} (w : World) (h : TAt base w T [a, b, c, d] last) (nm : ByteArray) (hnm : nm.size ≤ 300) (he : Env w) (n : Nat) (hn : 8 ≤ n) : CallsIn Fence.wide n Tryz.prog 17 #[.pointer (some ⟨T, 0, none⟩), .string nm] w fun e w' => NumPost (routeL [a, b, c, d] nm) w e w' := by
  have h1 : 1 ≤ n := by omega
  refine callsIn_of_wp_marks Tryz.func17 rfl trivial ?_ rfl
  simp only [Tryz.ntmps17, List.size_toArray, List.length_cons, List.length_nil, Nat.reduceAdd, Nat.reduceSub, Array.replicate_succ, Array.replicate_zero, List.push_toArray, List.append_toArray, List.nil_append, List.cons_append]
  gi_wp2_with (refine ⟨trivial, ?_⟩; gi_at_call 29; refine (callsIn_wide.2 (living_e _ _)).mono ?_; rintro e w' ⟨rfl, rfl⟩)
  have bF := ((Boxed.new w 9 (.string nm)).alloc (.cells #[.int .i64 (-1)] 3)).alloc (.cells #[.pointer (some ⟨T, 0, none⟩)] 25)
  have bO := (Boxed.new (w.alloc (.cells #[.string nm] 9)) 3 (.int .i64 (-1))).alloc (.cells #[.pointer (some ⟨T, 0, none⟩)] 25)
  have bN := Boxed.new ((w.alloc (.cells #[.string nm] 9)).alloc (.cells #[.int .i64 (-1)] 3)) 25 (.pointer (some ⟨T, 0, none⟩))
  simp only [World.size_alloc] at bO bN
  have hB0 : Below w.heap.size w (((w.alloc (.cells #[.string nm] 9)).alloc (.cells #[.int .i64 (-1)] 3)).alloc (.cells #[.pointer (some ⟨T, 0, none⟩)] 25)) := (((Below.refl _ w).alloc (Nat.le_refl _) _).alloc (by simp) _).alloc (by simp; omega) _
  have hsz : (((w.alloc (.cells #[.string nm] 9)).alloc (.cells #[.int .i64 (-1)] 3)).alloc (.cells #[.pointer (some ⟨T, 0, none⟩)] 25)).heap.size = w.heap.size + 3 := by simp
  obtain ⟨W0, hW0⟩ : ∃ W0, ((w.alloc (.cells #[.string nm] 9)).alloc (.cells #[.int .i64 (-1)] 3)).alloc (.cells #[.pointer (some ⟨T, 0, none⟩)] 25) = W0 := ⟨_, rfl⟩
  rw [hW0] at bF bO bN hB0 hsz ⊢
  clear hW0
  have hT0 := h.below hB0
  refine wpIn_rangeFunc_ownH rfl h1 (gf := 47) (lb := #[.pointer (some ⟨w.heap.size + 1 + 1, 0, none⟩)]) rfl trivial (enters_of Tryz.func47 (by kernel_rfl) rfl)
    (living_stops (n - 1) (by omega) (w.heap.size + 1 + 1) T a b c d W0 (by omega) hT0.lt bN.cell hT0.cells4) belowK_t (belowK_b (Nat.zero_le _)) (Below.refl _ _) (fun _ => rfl)
    (fun pre W => (Boxed W (w.heap.size + 1) 3 (.int .i64 (longOf nm pre)) ∧ Boxed W w.heap.size 9 (.string nm)) ∧ Below w.heap.size w W)
    (fun _ _ _ => False)
    (OwnFrom.and (OwnFrom.and (Own.from (boxed_own _ _ _) _) (Own.from (boxed_own _ _ _) _)) (ownFrom_below (Nat.le_refl _) (by omega)))
    (fun _ _ _ _ _ hs _ _ => hs)
    ⟨⟨bO, bF⟩, hB0⟩
    (fun x a' W => ∃ Bx, w.heap.size + 1 < Bx ∧ LBox W Bx x.1.2 ∧ a' = { tmps := #[.pointer (some ⟨T, 0, none⟩), .string nm, undef, .pointer (some ⟨w.heap.size, 0, none⟩), .slice none 0 0, .pointer (some ⟨w.heap.size + 1, 0, none⟩), undef, .pointer (some ⟨Bx, 0, none⟩), .pointer (some ⟨T, 0, none⟩), .func (.func 47) #[] #[.pointer (some ⟨w.heap.size + 1 + 1, 0, none⟩)], .int .i64 x.1.1, .agg x.1.2.lk.toArray, undef, undef, undef, undef, undef, undef, undef, undef], defers := [] })
    (fun x a' _ X Y row hs hg hr => by obtain ⟨Bx, h1, h2, h3⟩ := hs; exact ⟨Bx, h1, LBox.own Bx x.1.2 () X Y row h2 hg (fun r e => (hr r e).2), h3⟩)
    ?assign ?body ?done ?stop
  case assign =>
    rintro l pre x W K ⟨⟨hv, hbf⟩, hB1⟩ hK
    have HV := Lib.hid hv
    have HF := Lib.hid hbf
    have HK := Lib.hid hK
    have HB := Lib.hid hB1
    clear hv hK hB1 hbf
    obtain ⟨⟨i, ⟨live, gen, dA, dc, ds, df, ll, sA, sc, ns, ss, lA, lc, nl, ls, ca⟩⟩, hx1, hx2⟩ := x
    obtain rfl : live = true := hx2
    dsimp only [encE, Sl.lk]
    gi_wp2
    exact HK.out _ _ ((KeepsOthers.alloc _ _).from _) ((Below.refl _ W).alloc (Nat.zero_le _) _) ⟨⟨HV.out.alloc _, HF.out.alloc _⟩, HB.out.alloc HB.out.size _⟩ ⟨W.heap.size, HV.out.lt, heap_alloc_last W _, rfl⟩
  case body =>
    rintro l pre x a' W hl ⟨r, hr⟩ ⟨⟨hv, hbf⟩, hB1⟩ ⟨Bx, hBx, bX, rfl⟩ hlt
    have hTW := h.below hB1
    have hso := hTW.oks _ x.mem
    have hcall := reach_e (w := W.drew) (s := x.1.2) nm ((RowIn.of_own (w := W) hso.dom (fun u hu => by obtain ⟨d, _, rfl⟩ := List.mem_map.1 hu; rfl)).below (Below.refl W.heap.size W).drew) hso.sz (by have := hso.nd; omega) hnm (he.below hB1.drew)
    have HN := Lib.hid (longOf_snoc nm pre x)
    have HRE := Lib.hid (reach_hi (n := nm) hso.sz)
    have HRL := Lib.hid (reach_lo x.1.2.ds nm)
    obtain ⟨⟨i, ⟨live, gen, dA, dc, ds, df, ll, sA, sc, ns, ss, lA, lc, nl, ls, ca⟩⟩, hx1, hx2⟩ := x
    obtain rfl : live = true := hx2
    dsimp only at HN HRE HRL hcall
    simp only [Sl.lk] at hcall
    have hq0 := cell_of_row W Bx 0 _ _ _ bX
    have hq1 := cell_of_row W Bx 1 _ _ _ bX
    have hq2 := cell_of_row W Bx 2 _ _ _ bX
    have hq3 := cell_of_row W Bx 3 _ _ _ bX
    have hq4 := cell_of_row W Bx 4 _ _ _ bX
    have hq5 := cell_of_row W Bx 5 _ _ _ bX
    have hq6 := cell_of_row W Bx 6 _ _ _ bX
    simp only [Sl.lk, List.getElem?_toArray, List.getElem?_cons_succ, List.getElem?_cons_zero] at hq0 hq1 hq2 hq3 hq4 hq5 hq6
    have hc := hv.cell
    have hcf := hbf.cell
    have HV : Hid (Boxed W.drew (w.heap.size + 1) 3 (.int .i64 (longOf nm pre))) := Lib.hid hv
    have HF : Hid (Boxed W.drew w.heap.size 9 (.string nm)) := Lib.hid hbf
    have HB : Hid (Below w.heap.size w W.drew) := Lib.hid hB1.drew
    have hsz1 : w.heap.size ≤ W.drew.heap.size := hB1.size
    have h12 : 1 ≤ n - 1 - 1 := by omega
    have hmx : Tryz.prog.follows .mixedOrders = true := by kernel_rfl
    clear hv hB1 bX hr hbf hTW hso he h
    revert hcall HN HRE HRL hc HV
    generalize reachL ds nm = r
    generalize longOf nm pre = m
    intro hcall HN HRE HRL hc HV
    gi_wp2
    gi_region_with_o (refine ⟨trivial, ?_⟩; gi_at_call 30; refine (CallsIn.inRound l (callsIn_wide.2 hcall)).mono ?_; rintro e W2 ⟨rfl, hb2, _⟩; have HV2 := Lib.hid (boxed_below HV.out hb2); have HF2 := Lib.hid (boxed_below HF.out hb2); have HB2 := Lib.hid hb2; have hc2 := HV2.out.cell; have hf2 := HV2.out.frozen; clear hb2)
    all_goals gi_wp2
    all_goals exact ⟨((KeepsOthers.drew W).trans ((keeps_below HB2.out).trans (KeepsOthers.setCell _ _ _))).from _, (((Below.refl 0 W).drew).trans (HB2.out.mono (Nat.zero_le _))).setCell (Nat.zero_le _) _, ⟨by rw [HN.out]; exact HV2.out.set _, HF2.out.other (by omega) _⟩, (HB.out.trans (HB2.out.mono hsz1)).setCell (p := ⟨w.heap.size + 1, 0, none⟩) (by show w.heap.size ≤ w.heap.size + 1; omega) _⟩
  case done =>
    rintro D ys W hD rfl ⟨⟨hv, hbf⟩, hB⟩ hK
    have hTW := h.below hB
    have hE := he.below hB
    have hth := those_r W hTW (w.heap.size + 1) w.heap.size (asked (longOf nm (comeTo [a, b, c, d] 4)) nm) (n - 1) (by omega) (fun W' s hb _ hs _ => by
      have hso := hTW.oks s hs
      exact route1_e (w.heap.size + 1) w.heap.size _ nm ((RowIn.of_own (w := W) hso.dom (fun u hu => by obtain ⟨d, _, rfl⟩ := List.mem_map.1 hu; rfl)).below hb) hso.sz (by have := hso.nd; omega) hnm (hE.below hb) (boxed_below hv hb).cell (boxed_below hbf hb).cell)
    have HB := Lib.hid hB
    have hsz2 := hB.size
    clear hB hTW hE hv hbf h he
    gi_wp2_with (refine ⟨trivial, ?_⟩; gi_at_call 31; refine hth.mono ?_; rintro e W3 ⟨v, rfl, ho, hb⟩; clear hth; obtain ⟨v0, v1, rfl⟩ := own_fm ho; have HO := Lib.hid ho; have HB3 := Lib.hid hb; clear ho hb)
    have hK3 := (HB3.out.block D (heap_ltk hK)).trans hK
    refine ⟨by simp, .inl ⟨_, _, rfl, run_takeDeferred hK3, ?_⟩⟩
    exact ⟨_, results_tmp rfl _ _ _, _, rfl, ownsRow_putObj (own_down HO.out hsz2) _ hK3 rfl, (HB.out.trans (HB3.out.mono hsz2)).trans (belowK_b (w := w) (Nat.le_refl _) W3 D _ _ (by omega) hK3 rfl rfl)⟩
  case stop =>
    rintro D c pre W _ _ h _
    exact h.elim
theorem route_e {base T last : Nat} {ss : List Sl} (nm : ByteArray) (w : World) (h : TAt base w T ss last) (hnm : nm.size ≤ 300) (he : Env w) : Calls Tryz.prog 17 #[.pointer (some ⟨T, 0, none⟩), .string nm] w fun e w' => NumPost (routeL ss nm) w e w' := by
  obtain ⟨a, b, c, d, rfl⟩ := h.abcd
  exact callsIn_wide.1 (route_in w h nm hnm he 8 (Nat.le_refl _))
theorem locals_e {base T last : Nat} {ss : List Sl} (w : World) (h : TAt base w T ss last) : Calls Tryz.prog 15 #[.pointer (some ⟨T, 0, none⟩)] w fun e w' => LocPost ss w e w' := by
  obtain ⟨a, b, c, d, rfl⟩ := h.abcd
  exact callsIn_wide.1 (locals_in w h 6 (Nat.le_refl _))
end Go.Proofs.YtgopjgbcnjkblaaGreatDoor
