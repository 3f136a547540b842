/-
  The walk of Route. Conditions: the table is of the call's own; the name has at most 300 bytes; the library's variable MaxLen holds some number.
-/
import Derived.Test.YtgopjgbcnjkblaaGreatDoorLinkNb
import Derived.Deep.RegionHeld3
namespace Go.Proofs.YtgopjgbcnjkblaaGreatDoor
open Go.RowKit Go.Shelf
attribute [local go_sem] Oper.semAt_some

set_option maxRecDepth 100000 in
set_option maxHeartbeats 2000000 in
theorem those_r {base T last : Nat} {a b c d : Sl} (w : World) (h : TAt base w T [a, b, c, d] last) (B1 B2 : Nat) (p : Sl → Bool) (n : Nat) (hn : 6 ≤ n)
    (hso : ∀ W s, Below w.heap.size w W → w.heap.size ≤ W.heap.size → s ∈ ([a, b, c, d] : List Sl) → s.live = true → Calls Tryz.prog 32 (#[.agg s.lk.toArray] ++ #[.pointer (some ⟨B1, 0, none⟩), .pointer (some ⟨B2, 0, none⟩)]) W fun e W' => e = .returned (.bool (p s)) ∧ Below W.heap.size W W') :
    CallsIn Fence.wide n Tryz.prog 31 #[.pointer (some ⟨T, 0, none⟩), .func (.func 32) #[] #[.pointer (some ⟨B1, 0, none⟩), .pointer (some ⟨B2, 0, none⟩)]] w fun e w' => ThPost p [a, b, c, d] w e w' := by
  have h1 : 1 ≤ n := by omega
  refine callsIn_of_wp_marks Tryz.func31 rfl trivial ?_ rfl
  simp only [Tryz.ntmps31, List.size_toArray, List.length_cons, List.length_nil, Nat.reduceAdd, Nat.reduceSub, Array.replicate_succ, Array.replicate_zero, List.push_toArray, List.append_toArray, List.nil_append, List.cons_append]
  have HSO := Lib.hid hso
  clear hso
  gi_wp2_with (refine ⟨trivial, ?_⟩; gi_at_call 29; refine (callsIn_wide.2 (living_e _ _)).mono ?_; rintro e w' ⟨rfl, rfl⟩)
  have bF := ((Boxed.new w 35 (.func (.func 32) #[] #[.pointer (some ⟨B1, 0, none⟩), .pointer (some ⟨B2, 0, none⟩)])).alloc (.cells #[.slice none 0 0] 46)).alloc (.cells #[.pointer (some ⟨T, 0, none⟩)] 25)
  have bO := (Boxed.new (w.alloc (.cells #[.func (.func 32) #[] #[.pointer (some ⟨B1, 0, none⟩), .pointer (some ⟨B2, 0, none⟩)]] 35)) 46 (.slice none 0 0)).alloc (.cells #[.pointer (some ⟨T, 0, none⟩)] 25)
  have bN := Boxed.new ((w.alloc (.cells #[.func (.func 32) #[] #[.pointer (some ⟨B1, 0, none⟩), .pointer (some ⟨B2, 0, none⟩)]] 35)).alloc (.cells #[.slice none 0 0] 46)) 25 (.pointer (some ⟨T, 0, none⟩))
  simp only [World.size_alloc] at bO bN
  have hB0 : Below w.heap.size w (((w.alloc (.cells #[.func (.func 32) #[] #[.pointer (some ⟨B1, 0, none⟩), .pointer (some ⟨B2, 0, none⟩)]] 35)).alloc (.cells #[.slice none 0 0] 46)).alloc (.cells #[.pointer (some ⟨T, 0, none⟩)] 25)) := (((Below.refl _ w).alloc (Nat.le_refl _) _).alloc (by simp) _).alloc (by simp; omega) _
  have hsz : (((w.alloc (.cells #[.func (.func 32) #[] #[.pointer (some ⟨B1, 0, none⟩), .pointer (some ⟨B2, 0, none⟩)]] 35)).alloc (.cells #[.slice none 0 0] 46)).alloc (.cells #[.pointer (some ⟨T, 0, none⟩)] 25)).heap.size = w.heap.size + 3 := by simp
  obtain ⟨W0, hW0⟩ : ∃ W0, ((w.alloc (.cells #[.func (.func 32) #[] #[.pointer (some ⟨B1, 0, none⟩), .pointer (some ⟨B2, 0, none⟩)]] 35)).alloc (.cells #[.slice none 0 0] 46)).alloc (.cells #[.pointer (some ⟨T, 0, none⟩)] 25) = W0 := ⟨_, rfl⟩
  rw [hW0] at bF bO bN hB0 hsz ⊢
  clear hW0
  have hT0 := h.below hB0
  refine wpIn_rangeFunc_ownH rfl h1 (gf := 47) (lb := #[.pointer (some ⟨w.heap.size + 1 + 1, 0, none⟩)]) rfl trivial (enters_of Tryz.func47 (by kernel_rfl) rfl)
    (living_stops (n - 1) (by omega) (w.heap.size + 1 + 1) T a b c d W0 (by omega) hT0.lt bN.cell hT0.cells4) belowK_t (belowK_b (Nat.zero_le _)) (Below.refl _ _) (fun _ => rfl)
    (fun pre W => (∃ v, Boxed W (w.heap.size + 1) 46 v ∧ W.ownsRow w.heap.size 3 1 v (numsOf p pre).length (ints (numsOf p pre)) ∧ Boxed W w.heap.size 35 (.func (.func 32) #[] #[.pointer (some ⟨B1, 0, none⟩), .pointer (some ⟨B2, 0, none⟩)])) ∧ Below w.heap.size w W)
    (fun _ _ _ => False)
    (OwnFrom.and (Own.from (holds2 w.heap.size (w.heap.size + 1) w.heap.size 46 3 35 1 (.func (.func 32) #[] #[.pointer (some ⟨B1, 0, none⟩), .pointer (some ⟨B2, 0, none⟩)]) (fun ys => (numsOf p ys).length) (fun ys => ints (numsOf p ys))) _) (ownFrom_below (Nat.le_refl _) (by omega)))
    (fun _ _ _ _ _ hs _ _ => hs)
    ⟨⟨_, bO, World.ownsRow_nil _ _ _ _, bF⟩, hB0⟩
    (fun x a' W => ∃ Bx, w.heap.size + 1 < Bx ∧ LBox W Bx x.1.2 ∧ a' = { tmps := #[.pointer (some ⟨T, 0, none⟩), .func (.func 32) #[] #[.pointer (some ⟨B1, 0, none⟩), .pointer (some ⟨B2, 0, none⟩)], undef, .pointer (some ⟨w.heap.size, 0, none⟩), .slice none 0 0, .pointer (some ⟨w.heap.size + 1, 0, none⟩), .int .i64 x.1.1, .pointer (some ⟨Bx, 0, none⟩), .pointer (some ⟨T, 0, none⟩), .func (.func 47) #[] #[.pointer (some ⟨w.heap.size + 1 + 1, 0, none⟩)], .int .i64 x.1.1, .agg x.1.2.lk.toArray, undef, undef, undef, undef, undef, undef, undef, undef], defers := [] })
    (fun x a' _ X Y row hs hg hr => by obtain ⟨Bx, h1, h2, h3⟩ := hs; exact ⟨Bx, h1, LBox.own Bx x.1.2 () X Y row h2 hg (fun r e => (hr r e).2), h3⟩)
    ?assign ?body ?done ?stop
  case assign =>
    rintro l pre x W K ⟨⟨v, hv, hrow, hbf⟩, hB1⟩ hK
    have HR := Lib.hid hrow
    have HV := Lib.hid hv
    have HF := Lib.hid hbf
    have HK := Lib.hid hK
    have HB := Lib.hid hB1
    clear hrow hv hK hB1 hbf
    obtain ⟨⟨i, ⟨live, gen, dA, dc, ds, df, ll, sA, sc, ns, ss, lA, lc, nl, ls, ca⟩⟩, hx1, hx2⟩ := x
    obtain rfl : live = true := hx2
    dsimp only [encE, Sl.lk]
    gi_wp2
    exact HK.out _ _ ((KeepsOthers.alloc _ _).from _) ((Below.refl _ W).alloc (Nat.zero_le _) _) ⟨⟨v, HV.out.alloc _, HR.out.alloc _, HF.out.alloc _⟩, HB.out.alloc HB.out.size _⟩ ⟨W.heap.size, HV.out.lt, heap_alloc_last W _, rfl⟩
  case body =>
    rintro l pre x a' W hl ⟨r, hr⟩ ⟨⟨v, hv, hrow, hbf⟩, hB1⟩ ⟨Bx, hBx, bX, rfl⟩ hlt
    have hTW := h.below hB1
    have hcall := HSO.out W x.1.2 hB1 hB1.size x.mem x.2.2
    have HHit := Lib.hid (fun h => numsOf_hit (p := p) pre (x := x) h)
    have HMiss := Lib.hid (fun h => numsOf_miss (p := p) pre (x := x) h)
    have hpl := numsOf_le p pre
    obtain ⟨⟨i, ⟨live, gen, dA, dc, ds, df, ll, sA, sc, ns, ss, lA, lc, nl, ls, ca⟩⟩, hx1, hx2⟩ := x
    obtain rfl : live = true := hx2
    have hc := hv.cell
    have hcf := hbf.cell
    dsimp only at HHit HMiss hcall
    simp only [Sl.lk] at hcall
    obtain ⟨i0, z, hi, hz, hzc, hs, hby⟩ := info_int
    have HI := Lib.hid hi
    have HZ := Lib.hid hz
    have HZC := Lib.hid hzc
    have HS := Lib.hid hs
    have HBY := Lib.hid hby
    clear hi hz hzc hs hby hTW h HSO
    have hq0 := cell_of_row W Bx 0 _ _ _ bX
    have hq1 := cell_of_row W Bx 1 _ _ _ bX
    have hq2 := cell_of_row W Bx 2 _ _ _ bX
    have hq3 := cell_of_row W Bx 3 _ _ _ bX
    have hq4 := cell_of_row W Bx 4 _ _ _ bX
    have hq5 := cell_of_row W Bx 5 _ _ _ bX
    have hq6 := cell_of_row W Bx 6 _ _ _ bX
    simp only [Sl.lk, List.getElem?_toArray, List.getElem?_cons_succ, List.getElem?_cons_zero] at hq0 hq1 hq2 hq3 hq4 hq5 hq6
    obtain ⟨v0, v1, rfl⟩ := own_fm hrow
    have HV := Lib.hid hv
    have HF := Lib.hid hbf
    have HR := Lib.hid hrow
    have HB := Lib.hid hB1
    have hsz1 := hB1.size
    have h12 : 1 ≤ n - 1 - 1 := by omega
    clear hv hrow hB1 bX hr hbf
    cases hp : p ⟨true, gen, dA, dc, ds, df, ll, sA, sc, ns, ss, lA, lc, nl, ls, ca⟩
    · have HM := Lib.hid (HMiss.out hp)
      rw [hp] at hcall
      clear HHit HMiss hp
      gi_wp2_with (refine ⟨trivial, ?_⟩; gi_at_call 32; refine (CallsIn.inRound l (callsIn_wide.2 hcall)).mono ?_; rintro e W2 ⟨rfl, hb2⟩; clear hcall; have HB2 := Lib.hid hb2; clear hb2)
      refine ⟨(keeps_below HB2.out).from _, HB2.out.mono (Nat.zero_le _), ⟨_, boxed_below HV.out HB2.out, ?_, boxed_below HF.out HB2.out⟩, HB.out.trans (HB2.out.mono hsz1)⟩
      rw [HM.out]
      exact own_below HR.out HB2.out
    · have HM := Lib.hid (HHit.out hp)
      rw [hp] at hcall
      clear HHit HMiss hp
      gi_wp2_with (first
        | (refine ⟨trivial, ?_⟩; gi_at_call 32; refine (CallsIn.inRound l (callsIn_wide.2 hcall)).mono ?_; rintro e W2 ⟨rfl, hb2⟩; clear hcall; have HV2 := Lib.hid (boxed_below HV.out hb2); have HR2 := Lib.hid (own_below HR.out hb2); have HF2 := Lib.hid (boxed_below HF.out hb2); have HB2 := Lib.hid hb2; have hsz2 := hb2.size; have hc2 := HV2.out.cell; clear hb2 hc hcf HV HR HF)
        | (gi_at_builtin; refine wpListIn_append_own _ rfl _ _ 46 rfl w.heap.size 3 i0 z 1 8 Tryz.underlying46 HI.out HZ.out HS.out HBY.out HZC.out (by decide) _ _ _ rfl (HR2.out.alloc _) ⟨W2.heap.size, 0, none⟩ 1 1 [.int .i64 (i : Int)] rfl rfl (cell_one_new _ _ _) (by simp [Value.oneCell']) (by unfold maxLen; omega) (by omega) (by simp; omega) ?_; intro v' w1 hown' hgrow _; obtain ⟨g', cap', rfl⟩ := ownsRow_succ hown'; obtain ⟨hv1, hv2, hr2, hk2, hb2⟩ := HV2.out.appended (by decide) HR2.out (by omega) (by omega) hown' hgrow; have hc1 := hv1.cell; have hf1 := hv1.frozen; have HF3 := Lib.hid (boxed_keep2 HF2.out (by decide) HR2.out hgrow (B' := w.heap.size + 1) (by omega) (.slice (some ⟨g', 0, none⟩) ((numsOf p pre).length + 1) cap')); have HV3 := Lib.hid hv2; have HR3 := Lib.hid hr2; have HK3 := Lib.hid hk2; have HB3 := Lib.hid hb2; clear hv1 hv2 hr2 hk2 hb2 hown' hgrow hc2; go_simp))
      refine ⟨((keeps_below HB2.out).trans HK3.out).from _, (HB2.out.mono (Nat.zero_le _)).trans (HB3.out.mono (Nat.zero_le _)), ⟨_, HV3.out, ?_, HF3.out⟩, (HB.out.trans (HB2.out.mono hsz1)).trans HB3.out⟩
      rw [HM.out]
      have := HR3.out
      simpa [ints] using this
  case done =>
    rintro D ys W hD rfl ⟨⟨v, hv, hrow, _⟩, hB⟩ hK
    have hc := hv.cell
    have HR := Lib.hid hrow
    have HB := Lib.hid hB
    clear hrow hB
    gi_wp2
    refine ⟨by simp, .inl ⟨_, _, rfl, run_takeDeferred hK, ?_⟩⟩
    exact ⟨_, results_tmp rfl _ _ _, v, rfl, ownsRow_putObj HR.out _ hK rfl, HB.out.trans (belowK_b (w := w) (Nat.le_refl _) W D _ _ (by omega) hK rfl rfl)⟩
  case stop =>
    rintro D c pre W _ _ h _
    exact h.elim
/-- is a link asked? -/
def asked (m : Int) (n : ByteArray) (s : Sl) : Bool := if s.ns = 0 then false else if m = -1 then s.df else decide (reachL s.ds n = m)
set_option maxHeartbeats 1000000 in
theorem route1_e {w : World} {s : Sl} (B1 B2 : Nat) (m : Int) (n : ByteArray) (hd : RowIn 1 w s.dv s.ds.length (s.ds.map .string)) (hz : ∀ d ∈ s.ds, d.size ≤ 300) (hl : s.ds.length ≤ 1000) (hn : n.size ≤ 300) (he : Env w)
    (h1 : w.cell? ⟨B1, 0, none⟩ = some (.int .i64 m)) (h2 : w.cell? ⟨B2, 0, none⟩ = some (.string n)) :
    Calls Tryz.prog 32 #[.agg s.lk.toArray, .pointer (some ⟨B1, 0, none⟩), .pointer (some ⟨B2, 0, none⟩)] w fun e w' => e = .returned (.bool (asked m n s)) ∧ Below w.heap.size w w' := by
  have hR : ∀ w, RowIn 1 w s.dv s.ds.length (s.ds.map .string) → Env w → Calls Tryz.prog 30 #[.agg s.lk.toArray, .string n] w fun e w' => e = .returned (.int .i64 (reachL s.ds n)) ∧ Below w.heap.size w w' ∧ Env w' := fun w h he => reach_e n h hz hl hn he
  have HRE := Lib.hid (reach_hi (n := n) hz)
  have HRL := Lib.hid (reach_lo s.ds n)
  obtain ⟨live, gen, dA, dc, ds, df, ll, sA, sc, ns, ss, lA, lc, nl, ls, ca⟩ := s
  simp only [Sl.lk, Sl.dv] at hd hR hz hl HRE HRL ⊢
  have HD := Lib.hid hd
  have HR := Lib.hid hR
  have hb0 := ((Below.refl _ w).alloc (Nat.le_refl _) (.cells #[.bool live, .int .i64 gen, .slice dA ds.length dc, .bool df, .bool ll, .slice sA ns sc, .slice lA nl lc] 31))
  have HB0 := Lib.hid hb0
  have HE0 := Lib.hid (he.below hb0)
  have HD0 := Lib.hid (HD.out.below hb0)
  clear hd hz hR hb0 he HD
  by_cases c0 : ns = 0
  · subst c0
    have HL := Lib.hid (show asked m n ⟨live, gen, dA, dc, ds, df, ll, sA, sc, 0, ss, lA, lc, nl, ls, ca⟩ = false by unfold asked; rfl)
    clear h1 h2
    go_enter Tryz.func32, Tryz.ntmps32
    go_wp2
    go_ret
    exact ⟨ret_b HL.out.symm, HB0.out⟩
  · have c0' : ((ns : Int) == 0) = false := by simpa using c0
    by_cases c1 : m = -1
    · have HL := Lib.hid (show asked m n ⟨live, gen, dA, dc, ds, df, ll, sA, sc, ns, ss, lA, lc, nl, ls, ca⟩ = df by unfold asked; rw [if_neg c0, if_pos c1])
      have c1' : (m == -1) = true := by simpa using c1
      have h1b : B1 < w.heap.size := World.block_lt_of_cell? w _ h1
      clear c0 c1
      go_enter Tryz.func32, Tryz.ntmps32
      go_wp2
      go_ret
      exact ⟨ret_b HL.out.symm, HB0.out⟩
    · have HL := Lib.hid (show asked m n ⟨live, gen, dA, dc, ds, df, ll, sA, sc, ns, ss, lA, lc, nl, ls, ca⟩ = decide (reachL ds n = m) by unfold asked; rw [if_neg c0, if_neg c1])
      have c1' : (m == -1) = false := by simpa using c1
      clear c0 c1
      have h1b : B1 < w.heap.size := World.block_lt_of_cell? w _ h1
      have h2b : B2 < w.heap.size := World.block_lt_of_cell? w _ h2
      obtain ⟨xc, hxc⟩ : ∃ xc, xc = [Value.bool live, .int .i64 gen, .slice dA ds.length dc, .bool df, .bool ll, .slice sA ns sc, .slice lA nl lc] := ⟨_, rfl⟩
      have hSx : (Tryz.prog.info? 31).map (·.size) = some xc.length := by rw [hxc]; exact sizeLk zSl
      have hu := Tryz.underlying31
      obtain ⟨w2, hw2⟩ : ∃ w2, w2 = w.alloc (.cells #[.bool live, .int .i64 gen, .slice dA ds.length dc, .bool df, .bool ll, .slice sA ns sc, .slice lA nl lc] 31) := ⟨_, rfl⟩
      have b1 : w2.heap[w.heap.size]? = some (.cells xc.toArray 31 (0, 0)) := by rw [hw2, hxc]; exact heap_alloc_last w _
      rw [← hw2] at HB0 HE0 HD0
      have hsz0 := HB0.out.size
      have RX := Lib.hid (fun (W : World) (hb : Below w2.heap.size w2 W) => (fun j v hj => by rw [Nat.zero_add, hb.cell (p := ⟨w.heap.size, j, none⟩) (heap_ltk b1), cell_of_row _ _ _ _ _ _ b1, List.getElem?_toArray]; exact hj : W.rangeAt w.heap.size 0 xc))
      have CN := Lib.hid (fun (W : World) (hb : Below w2.heap.size w2 W) => (((hb.cell (p := ⟨B2, 0, none⟩) (by show B2 < w2.heap.size; omega)).trans (HB0.out.cell (p := ⟨B2, 0, none⟩) h2b)).trans h2 : W.cell? ⟨B2, 0, none⟩ = some (.string n)))
      have CM := Lib.hid (fun (W : World) (hb : Below w2.heap.size w2 W) => (((hb.cell (p := ⟨B1, 0, none⟩) (by show B1 < w2.heap.size; omega)).trans (HB0.out.cell (p := ⟨B1, 0, none⟩) h1b)).trans h1 : W.cell? ⟨B1, 0, none⟩ = some (.int .i64 m)))
      have HRX := Lib.hid (fun (W : World) (hb : Below w2.heap.size w2 W) => (HR.out W (HD0.out.below hb) (HE0.out.below hb)).mono (R' := fun e w' => e = .returned (.int .i64 (reachL ds n)) ∧ Below W.heap.size W w') (by rintro e w' ⟨h1, h2, _⟩; exact ⟨h1, h2⟩))
      have HW2 := Lib.hid hw2
      have HXC := Lib.hid hxc
      rw [← hxc] at HRX
      clear b1 hw2 hxc HR HD0 HE0
      have h1k := Lib.hid h1
      have h2k := Lib.hid h2
      revert HL HRX
      generalize reachL ds n = r
      intro HL HRX
      go_enter Tryz.func32, Tryz.ntmps32
      go_wp2_with fail
      rw [← HW2.out]
      rw [← HXC.out]
      clear HW2 h1 h2
      refine wp_region_held_drew (S := (fun W : World => Below w2.heap.size w2 W)) (by kernel_rfl) (Below.refl _ w2).drew (fun hHeld => ?_)
      refine wpAnyH_take (i := 0) (oi := ({ dst := some 13, op := Go.Op.load 31 (Go.Operand.tmp 3), type := 31, pos := "link.go:114", after := #[], guard := none } : Oper)) (v := .agg (xc).toArray) rfl (by kernel_rfl) (by kernel_rfl) (by kernel_rfl) (fun _ _ _ h => h) (yieldsIf_load_mid (by rfl) _ _ rfl _ _ rfl _ _ (fun W h => RX.out W h) hu rfl hSx) hHeld ?_
      simp only [Act.put, List.setIfInBounds_toArray, List.set_cons_zero, List.set_cons_succ]
      refine wpAnyH_take (i := 1) (oi := ({ dst := some 14, op := Go.Op.load 9 (Go.Operand.tmp 2), type := 9, pos := "link.go:114", after := #[], guard := none } : Oper)) (v := .string n) rfl (by kernel_rfl) (by kernel_rfl) (by kernel_rfl) (fun _ _ _ h => h) (Or.inl ⟨by rfl, fun w' hS' => ?_⟩) hHeld ?_
      · have hcell := CN.out _ hS'
        go_simp
      simp only [Act.put, List.setIfInBounds_toArray, List.set_cons_zero, List.set_cons_succ]
      refine wpAnyH_take (i := 3) (oi := ({ dst := some 16, op := Go.Op.load 3 (Go.Operand.tmp 1), type := 3, pos := "link.go:114", after := #[], guard := none } : Oper)) (v := .int .i64 m) rfl (by kernel_rfl) (by kernel_rfl) (by kernel_rfl) (fun _ _ _ h => h) (Or.inl ⟨by rfl, fun w' hS' => ?_⟩) hHeld ?_
      · have hcell := CM.out _ hS'
        go_simp
      simp only [Act.put, List.setIfInBounds_toArray, List.set_cons_zero, List.set_cons_succ]
      refine wpAnyH_ready (rs := [2]) (by kernel_rfl) (by simp) ?_
      refine AllReadyH.cons (o := ({ dst := some 15, op := Go.Op.call { callee := Go.Callee.value (Go.Operand.func 30), args := #[Go.Operand.tmp 13, Go.Operand.tmp 14], argTypes := #[31, 9] }, type := 3, pos := "link.go:114", after := #[{ on := 0, ground := Go.Ground.data }, { on := 1, ground := Go.Ground.data }], guard := none } : Oper)) rfl (fun K hK => ?_) AllReadyH.nil
      go_simp
      go_at_call 30
      refine (HRX.out _ hHeld).mono ?_
      rintro e' wc ⟨rfl, hbc⟩
      refine hK.out _ _ (Below.trans hHeld (Below.mono hbc (Below.size hHeld))) (fun hHeld' => ?_)
      clear hK K hbc
      try clear hHeld
      try simp only [Act.put, List.setIfInBounds_toArray, List.set_cons_zero, List.set_cons_succ]
      refine wpAnyH_take (i := 4) (oi := ({ dst := some 17, op := Go.Op.binOp Go.BinOp.eql 3 (Go.Operand.tmp 15) (Go.Operand.tmp 16) 3, type := 4, pos := "link.go:114", after := #[{ on := 2, ground := Go.Ground.data }, { on := 3, ground := Go.Ground.data }], guard := none } : Oper)) (v := .bool (r == m)) rfl (by kernel_rfl) (by kernel_rfl) (by kernel_rfl) (fun _ _ _ h => h) (Or.inl ⟨by rfl, fun w' _ => ?_⟩) hHeld' ?_
      · go_simp
      simp only [Act.put, List.setIfInBounds_toArray, List.set_cons_zero, List.set_cons_succ]
      refine wpAnyH_take (i := 5) (oi := ({ dst := some 4, op := Go.Op.assign (Go.Operand.tmp 17), type := 4, pos := "link.go:114", after := #[{ on := 4, ground := Go.Ground.data }, { on := 2, ground := Go.Ground.chain }, { on := 0, ground := Go.Ground.phase }, { on := 1, ground := Go.Ground.phase }, { on := 2, ground := Go.Ground.phase }, { on := 3, ground := Go.Ground.phase }, { on := 4, ground := Go.Ground.phase }], guard := none } : Oper)) (v := .bool (r == m)) rfl (by kernel_rfl) (by kernel_rfl) (by kernel_rfl) (fun _ _ _ h => h) (Or.inl ⟨by rfl, fun w' _ => ?_⟩) hHeld' ?_
      · go_simp
      simp only [Act.put, List.setIfInBounds_toArray, List.set_cons_zero, List.set_cons_succ]
      refine wpAnyH_done (by kernel_rfl) ?_ _
      have HH := Lib.hid hHeld'
      clear hHeld'
      go_wp2
      go_ret
      exact ⟨ret_b (by rw [HL.out]; rfl), HB0.out.trans (HH.out.mono hsz0)⟩
end Go.Proofs.YtgopjgbcnjkblaaGreatDoor
