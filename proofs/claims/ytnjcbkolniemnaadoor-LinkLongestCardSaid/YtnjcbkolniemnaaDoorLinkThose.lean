/-
  The walks of those and Neighbours: the numbers of the links that live and are so. Conditions: the table is of the call's own; the name has at most 300 bytes; the library's variable MaxLen holds some number.
-/
import Derived.Test.YtnjcbkolniemnaaDoorLinkLocals
import Derived.Test.YtnjcbkolniemnaaDoorLinkRe
namespace Go.Proofs.YtnjcbkolniemnaaDoor
open Go.RowKit Go.Shelf
attribute [local go_sem] Oper.semAt_some

/-- the numbers of those that are so -/
def numsOf {ss : List Sl} (p : Sl → Bool) (ys : List (El ss)) : List Int := (ys.filter (fun x => p x.1.2)).map (fun x => (x.1.1 : Int))
theorem numsOf_hit {ss : List Sl} {p : Sl → Bool} (ys : List (El ss)) {x : El ss} (h : p x.1.2 = true) : numsOf p (ys ++ [x]) = numsOf p ys ++ [(x.1.1 : Int)] := by simp [numsOf, List.filter_append, h]
theorem numsOf_miss {ss : List Sl} {p : Sl → Bool} (ys : List (El ss)) {x : El ss} (h : p x.1.2 = false) : numsOf p (ys ++ [x]) = numsOf p ys := by simp [numsOf, List.filter_append, h]
theorem numsOf_le {ss : List Sl} (p : Sl → Bool) (ys : List (El ss)) : (numsOf p ys).length ≤ ys.length := by unfold numsOf; rw [List.length_map]; exact List.length_filter_le _ _
def ints (l : List Int) : List Value := l.map (.int .i64)
def ThPost (p : Sl → Bool) (ss : List Sl) (w : World) (e : Ending) (w' : World) : Prop := ∃ v, e = .returned v ∧ w'.ownsRow w.heap.size 3 1 v (numsOf p (comeTo ss 4)).length (ints (numsOf p (comeTo ss 4))) ∧ Below w.heap.size w w'
theorem info_int : ∃ (i : TypeInfo) (z : Value), Tryd.prog.info? 3 = some i ∧ i.zero = some z ∧ z.cells.size = 1 ∧ i.size = 1 ∧ i.bytes = 8 := by
  have h : (Tryd.prog.info? 3).map (fun i => (i.zero.map (·.cells.size), i.size, i.bytes)) = some (some 1, 1, 8) := by kernel_rfl
  cases hq : Tryd.prog.info? 3 with
  | none => rw [hq] at h; cases h
  | some i0 =>
    rw [hq] at h
    simp only [Option.map_some, Option.some.injEq, Prod.mk.injEq] at h
    cases hz : i0.zero with
    | none => rw [hz] at h; cases h.1
    | some z =>
      rw [hz] at h
      have h1 := h.1
      injection h1 with h1
      exact ⟨i0, z, rfl, hz, h1, h.2.1, h.2.2⟩
theorem holds2 (n₀ B B2 : Nat) (t e t2 : TypeId) (size : Nat) (u : Value) {β : Type} (k : β → Nat) (f : β → List Value) : Own (fun s W => ∃ v, Boxed W B t v ∧ W.ownsRow n₀ e size v (k s) (f s) ∧ Boxed W B2 t2 u) := by
  rintro s X Y row ⟨v, hv, hr, hG⟩ hg hrow
  obtain ⟨v', h1, h2, _⟩ := holdsRow_own n₀ B t e size k f (fun _ w => w = v) s X Y row ⟨v, hv, hr, rfl⟩ hg hrow
  exact ⟨v', h1, h2, boxed_own B2 t2 (fun (_ : Unit) => u) () X Y row hG hg hrow⟩
theorem keeps_below {W W' : World} (h : Below W.heap.size W W') : KeepsOthers W W' := ⟨h.size, fun k _ hk _ => (h.block k (heap_ltk hk)).trans hk⟩
theorem boxed_keep2 {W w1 : World} {B B' n₀ : Nat} {t e : TypeId} {size : Nat} {v u : Value} {k : Nat} {xs : List Value} {tmp : Obj} (hF : Boxed W B t u) (hte : t ≠ e) (hrow : W.ownsRow n₀ e size v k xs) (hgrow : (W.alloc tmp).grownBy w1 v.ownBlock) (hne : B ≠ B') (x : Value) : Boxed (w1.setCell ⟨B', 0, none⟩ x) B t u :=
  ((hF.alloc tmp).kept hgrow ((hF.alloc tmp).not_row hte (hrow.alloc tmp))).other hne x
theorem boxed_below {W W' : World} {B : Nat} {t : TypeId} {v : Value} (hv : Boxed W B t v) (h : Below W.heap.size W W') : Boxed W' B t v := (h.block B hv.lt).trans hv
set_option maxRecDepth 100000 in
set_option maxHeartbeats 2000000 in
theorem those_n {base T last : Nat} {a b c d : Sl} (w : World) (h : TAt base w T [a, b, c, d] last) (p : Sl → Bool) (n : Nat) (hn : 6 ≤ n)
    (hso : ∀ W s, Below w.heap.size w W → w.heap.size ≤ W.heap.size → s ∈ ([a, b, c, d] : List Sl) → s.live = true → Calls Tryd.prog 28 (#[.agg s.lk.toArray] ++ #[]) W fun e W' => e = .returned (.bool (p s)) ∧ Below W.heap.size W W') :
    CallsIn Fence.wide n Tryd.prog 27 #[.pointer (some ⟨T, 0, none⟩), .func (.func 28) #[] #[]] w fun e w' => ThPost p [a, b, c, d] w e w' := by
  have h1 : 1 ≤ n := by omega
  refine callsIn_of_wp_marks Tryd.func27 rfl trivial ?_ rfl
  simp only [Tryd.ntmps27, List.size_toArray, List.length_cons, List.length_nil, Nat.reduceAdd, Nat.reduceSub, Array.replicate_succ, Array.replicate_zero, List.push_toArray, List.append_toArray, List.nil_append, List.cons_append]
  have HSO := Lib.hid hso
  clear hso
  gi_wp2_with (refine ⟨trivial, ?_⟩; gi_at_call 31; refine (callsIn_wide.2 (living_e _ _)).mono ?_; rintro e w' ⟨rfl, rfl⟩)
  have bF := ((Boxed.new w 46 (.func (.func 28) #[] #[])).alloc (.cells #[.slice none 0 0] 36)).alloc (.cells #[.pointer (some ⟨T, 0, none⟩)] 25)
  have bO := (Boxed.new (w.alloc (.cells #[.func (.func 28) #[] #[]] 46)) 36 (.slice none 0 0)).alloc (.cells #[.pointer (some ⟨T, 0, none⟩)] 25)
  have bN := Boxed.new ((w.alloc (.cells #[.func (.func 28) #[] #[]] 46)).alloc (.cells #[.slice none 0 0] 36)) 25 (.pointer (some ⟨T, 0, none⟩))
  simp only [World.size_alloc] at bO bN
  have hB0 : Below w.heap.size w (((w.alloc (.cells #[.func (.func 28) #[] #[]] 46)).alloc (.cells #[.slice none 0 0] 36)).alloc (.cells #[.pointer (some ⟨T, 0, none⟩)] 25)) := (((Below.refl _ w).alloc (Nat.le_refl _) _).alloc (by simp) _).alloc (by simp; omega) _
  have hsz : (((w.alloc (.cells #[.func (.func 28) #[] #[]] 46)).alloc (.cells #[.slice none 0 0] 36)).alloc (.cells #[.pointer (some ⟨T, 0, none⟩)] 25)).heap.size = w.heap.size + 3 := by simp
  obtain ⟨W0, hW0⟩ : ∃ W0, ((w.alloc (.cells #[.func (.func 28) #[] #[]] 46)).alloc (.cells #[.slice none 0 0] 36)).alloc (.cells #[.pointer (some ⟨T, 0, none⟩)] 25) = W0 := ⟨_, rfl⟩
  rw [hW0] at bF bO bN hB0 hsz ⊢
  clear hW0
  have hT0 := h.below hB0
  refine wpIn_rangeFunc_ownH rfl h1 (gf := 45) (lb := #[.pointer (some ⟨w.heap.size + 1 + 1, 0, none⟩)]) rfl trivial (enters_of Tryd.func45 (by kernel_rfl) rfl)
    (living_stops (n - 1) (by omega) (w.heap.size + 1 + 1) T a b c d W0 (by omega) hT0.lt bN.cell hT0.cells4) belowK_t (belowK_b (Nat.zero_le _)) (Below.refl _ _) (fun _ => rfl)
    (fun pre W => (∃ v, Boxed W (w.heap.size + 1) 36 v ∧ W.ownsRow w.heap.size 3 1 v (numsOf p pre).length (ints (numsOf p pre)) ∧ Boxed W w.heap.size 46 (.func (.func 28) #[] #[])) ∧ Below w.heap.size w W)
    (fun _ _ _ => False)
    (OwnFrom.and (Own.from (holds2 w.heap.size (w.heap.size + 1) w.heap.size 36 3 46 1 (.func (.func 28) #[] #[]) (fun ys => (numsOf p ys).length) (fun ys => ints (numsOf p ys))) _) (ownFrom_below (Nat.le_refl _) (by omega)))
    (fun _ _ _ _ _ hs _ _ => hs)
    ⟨⟨_, bO, World.ownsRow_nil _ _ _ _, bF⟩, hB0⟩
    (fun x a' W => ∃ Bx, w.heap.size + 1 < Bx ∧ LBox W Bx x.1.2 ∧ a' = { tmps := #[.pointer (some ⟨T, 0, none⟩), .func (.func 28) #[] #[], undef, .pointer (some ⟨w.heap.size, 0, none⟩), .slice none 0 0, .pointer (some ⟨w.heap.size + 1, 0, none⟩), .int .i64 x.1.1, .pointer (some ⟨Bx, 0, none⟩), .pointer (some ⟨T, 0, none⟩), .func (.func 45) #[] #[.pointer (some ⟨w.heap.size + 1 + 1, 0, none⟩)], .int .i64 x.1.1, .agg x.1.2.lk.toArray, undef, undef, undef, undef, undef, undef, undef, undef], defers := [] })
    (fun x a' _ X Y row hs hg hr => by obtain ⟨Bx, h1, h2, h3⟩ := hs; exact ⟨Bx, h1, LBox.own Bx x.1.2 () X Y row h2 hg (fun r e => (hr r e).2), h3⟩)
    ?assign ?body ?done ?stop
  case assign =>
    rintro l pre x W K ⟨⟨v, hv, hrow, hbf⟩, hB1⟩ hK
    have HR := Lib.hid hrow
    have HV := Lib.hid hv
    have HF := Lib.hid hbf
    have HK := Lib.hid hK
    have HB := Lib.hid hB1
    clear hrow hv hK hB1 hbf
    obtain ⟨⟨i, ⟨live, gen, dA, dc, ds, df, ll, sA, sc, ns, ss, lA, lc, nl, ls, ca⟩⟩, hx1, hx2⟩ := x
    obtain rfl : live = true := hx2
    dsimp only [encE, Sl.lk]
    gi_wp2
    exact HK.out _ _ ((KeepsOthers.alloc _ _).from _) ((Below.refl _ W).alloc (Nat.zero_le _) _) ⟨⟨v, HV.out.alloc _, HR.out.alloc _, HF.out.alloc _⟩, HB.out.alloc HB.out.size _⟩ ⟨W.heap.size, HV.out.lt, heap_alloc_last W _, rfl⟩
  case body =>
    rintro l pre x a' W hl ⟨r, hr⟩ ⟨⟨v, hv, hrow, hbf⟩, hB1⟩ ⟨Bx, hBx, bX, rfl⟩ hlt
    have hTW := h.below hB1
    have hcall := HSO.out W x.1.2 hB1 hB1.size x.mem x.2.2
    have HHit := Lib.hid (fun h => numsOf_hit (p := p) pre (x := x) h)
    have HMiss := Lib.hid (fun h => numsOf_miss (p := p) pre (x := x) h)
    have hpl := numsOf_le p pre
    obtain ⟨⟨i, ⟨live, gen, dA, dc, ds, df, ll, sA, sc, ns, ss, lA, lc, nl, ls, ca⟩⟩, hx1, hx2⟩ := x
    obtain rfl : live = true := hx2
    have hc := hv.cell
    have hcf := hbf.cell
    dsimp only at HHit HMiss hcall
    simp only [Sl.lk] at hcall
    obtain ⟨i0, z, hi, hz, hzc, hs, hby⟩ := info_int
    have HI := Lib.hid hi
    have HZ := Lib.hid hz
    have HZC := Lib.hid hzc
    have HS := Lib.hid hs
    have HBY := Lib.hid hby
    clear hi hz hzc hs hby hTW h HSO
    have hq0 := cell_of_row W Bx 0 _ _ _ bX
    have hq1 := cell_of_row W Bx 1 _ _ _ bX
    have hq2 := cell_of_row W Bx 2 _ _ _ bX
    have hq3 := cell_of_row W Bx 3 _ _ _ bX
    have hq4 := cell_of_row W Bx 4 _ _ _ bX
    have hq5 := cell_of_row W Bx 5 _ _ _ bX
    have hq6 := cell_of_row W Bx 6 _ _ _ bX
    simp only [Sl.lk, List.getElem?_toArray, List.getElem?_cons_succ, List.getElem?_cons_zero] at hq0 hq1 hq2 hq3 hq4 hq5 hq6
    obtain ⟨v0, v1, rfl⟩ := own_fm hrow
    have HV := Lib.hid hv
    have HF := Lib.hid hbf
    have HR := Lib.hid hrow
    have HB := Lib.hid hB1
    have hsz1 := hB1.size
    have h12 : 1 ≤ n - 1 - 1 := by omega
    clear hv hrow hB1 bX hr hbf
    cases hp : p ⟨true, gen, dA, dc, ds, df, ll, sA, sc, ns, ss, lA, lc, nl, ls, ca⟩
    · have HM := Lib.hid (HMiss.out hp)
      rw [hp] at hcall
      clear HHit HMiss hp
      gi_wp2_with (refine ⟨trivial, ?_⟩; gi_at_call 28; refine (CallsIn.inRound l (callsIn_wide.2 hcall)).mono ?_; rintro e W2 ⟨rfl, hb2⟩; clear hcall; have HB2 := Lib.hid hb2; clear hb2)
      refine ⟨(keeps_below HB2.out).from _, HB2.out.mono (Nat.zero_le _), ⟨_, boxed_below HV.out HB2.out, ?_, boxed_below HF.out HB2.out⟩, HB.out.trans (HB2.out.mono hsz1)⟩
      rw [HM.out]
      exact own_below HR.out HB2.out
    · have HM := Lib.hid (HHit.out hp)
      rw [hp] at hcall
      clear HHit HMiss hp
      gi_wp2_with (first
        | (refine ⟨trivial, ?_⟩; gi_at_call 28; refine (CallsIn.inRound l (callsIn_wide.2 hcall)).mono ?_; rintro e W2 ⟨rfl, hb2⟩; clear hcall; have HV2 := Lib.hid (boxed_below HV.out hb2); have HR2 := Lib.hid (own_below HR.out hb2); have HF2 := Lib.hid (boxed_below HF.out hb2); have HB2 := Lib.hid hb2; have hsz2 := hb2.size; have hc2 := HV2.out.cell; clear hb2 hc hcf HV HR HF)
        | (gi_at_builtin; refine wpListIn_append_own _ rfl _ _ 36 rfl w.heap.size 3 i0 z 1 8 Tryd.underlying36 HI.out HZ.out HS.out HBY.out HZC.out (by decide) _ _ _ rfl (HR2.out.alloc _) ⟨W2.heap.size, 0, none⟩ 1 1 [.int .i64 (i : Int)] rfl rfl (cell_one_new _ _ _) (by simp [Value.oneCell']) (by unfold maxLen; omega) (by omega) (by simp; omega) ?_; intro v' w1 hown' hgrow _; obtain ⟨g', cap', rfl⟩ := ownsRow_succ hown'; obtain ⟨hv1, hv2, hr2, hk2, hb2⟩ := HV2.out.appended (by decide) HR2.out (by omega) (by omega) hown' hgrow; have hc1 := hv1.cell; have hf1 := hv1.frozen; have HF3 := Lib.hid (boxed_keep2 HF2.out (by decide) HR2.out hgrow (B' := w.heap.size + 1) (by omega) (.slice (some ⟨g', 0, none⟩) ((numsOf p pre).length + 1) cap')); have HV3 := Lib.hid hv2; have HR3 := Lib.hid hr2; have HK3 := Lib.hid hk2; have HB3 := Lib.hid hb2; clear hv1 hv2 hr2 hk2 hb2 hown' hgrow hc2; go_simp))
      refine ⟨((keeps_below HB2.out).trans HK3.out).from _, (HB2.out.mono (Nat.zero_le _)).trans (HB3.out.mono (Nat.zero_le _)), ⟨_, HV3.out, ?_, HF3.out⟩, (HB.out.trans (HB2.out.mono hsz1)).trans HB3.out⟩
      rw [HM.out]
      have := HR3.out
      simpa [ints] using this
  case done =>
    rintro D ys W hD rfl ⟨⟨v, hv, hrow, _⟩, hB⟩ hK
    have hc := hv.cell
    have HR := Lib.hid hrow
    have HB := Lib.hid hB
    clear hrow hB
    gi_wp2
    refine ⟨by simp, .inl ⟨_, _, rfl, run_takeDeferred hK, ?_⟩⟩
    exact ⟨_, results_tmp rfl _ _ _, v, rfl, ownsRow_putObj HR.out _ hK rfl, HB.out.trans (belowK_b (w := w) (Nat.le_refl _) W D _ _ (by omega) hK rfl rfl)⟩
  case stop =>
    rintro D c pre W _ _ h _
    exact h.elim
end Go.Proofs.YtnjcbkolniemnaaDoor
