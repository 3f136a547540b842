/-
  The walk of Locals: the local addresses of all links that live. Conditions: the table is of the call's own.
-/
import Derived.Laws.AppendOwnNone
import Derived.Test.YtgopjgbcnjkblaaGreatDoorLinkLiv
namespace Go.Proofs.YtgopjgbcnjkblaaGreatDoor
open Go.RowKit Go.Shelf
attribute [local go_sem] Oper.semAt_some

theorem wpListIn_append_none {F : Fence} {n : Nat} {P : Program} {w : World} {ops : Array Oper} {rest : List Oper} {o : Oper} {a : Act} {Q : Exit → Act → World → Prop} (hgd : o.guard = none) (s x : Operand) (t : TypeId)
    (ho : o.op = .call { callee := .builtin .append, args := #[s, x], argTypes := #[t, t] })
    (base : Nat) (e : TypeId) (i : TypeInfo) (size : Nat) (ht : P.underlying t = some (.slice e)) (hi : P.info? e = some i)
    (v : Value) (k : Nat) (xs : List Value) (hs : a.eval s = v) (hown : w.ownsRow base e size v k xs) (hx : a.eval x = .slice none 0 0)
    (h : wpListIn F n P ops Q rest (a.put o.dst v) w) : wpListIn F n P ops Q (o :: rest) a w := by
  refine wpListIn_plain hgd fun K hK => ?_
  have hrun := run_append_owned_none (P := P) (w := w) base t o.type e i size ht hi v k xs hown
  unfold Oper.wpIn
  refine ⟨?_, ?_⟩
  · simp [Oper.about, ho, resolve, Target.leads, Sem.run_pure]
  · rw [Oper.semAt_plain F _ _ (by rw [ho]; intro c hc'; cases hc')]
    simp [execOp, ho, resolve, invoke, builtin, hs, hx, hrun, Result.andThen]
    exact hK _ _ h
def locsOf {ss : List Sl} (ys : List (El ss)) : List Value := ys.flatMap (fun x => x.1.2.ls)
def numOf {ss : List Sl} (ys : List (El ss)) : Nat := (ys.map (fun x => x.1.2.nl)).sum
theorem locsOf_snoc {ss : List Sl} (ys : List (El ss)) (x : El ss) : locsOf (ys ++ [x]) = locsOf ys ++ x.1.2.ls := by simp [locsOf]
theorem numOf_snoc {ss : List Sl} (ys : List (El ss)) (x : El ss) : numOf (ys ++ [x]) = numOf ys + x.1.2.nl := by simp [numOf]
theorem El.mem {ss : List Sl} (x : El ss) : x.1.2 ∈ ss := List.mem_of_getElem? x.2.1
def LocPost (ss : List Sl) (w : World) (e : Ending) (w' : World) : Prop := ∃ v, e = .returned v ∧ w'.ownsRow w.heap.size 94 18 v (numOf (comeTo ss 4)) (locsOf (comeTo ss 4)) ∧ Below w.heap.size w w'
/-- a link in a variable's box -/
def LBox (W : World) (B : Nat) (s : Sl) : Prop := W.heap[B]? = some (.cells s.lk.toArray 31 (0, 0))
theorem LBox.own (B : Nat) (s : Sl) : Own (fun (_ : Unit) W => LBox W B s) := fun _ X Y row hs hg hr => by
  refine (hg.block B (heap_ltk hs) fun e => ?_).trans hs
  obtain ⟨o, ho, hc⟩ := hr B e.symm
  rw [show X.heap[B]? = _ from hs] at ho
  cases ho
  cases hc
theorem numOf_le {ss : List Sl} (h : ∀ s ∈ ss, s.nl ≤ 4) (ys : List (El ss)) : numOf ys ≤ 4 * ys.length := by
  induction ys with
  | nil => exact Nat.zero_le _
  | cons x ys ih =>
    have := h _ x.mem
    unfold numOf at ih ⊢
    rw [List.map_cons, List.sum_cons, List.length_cons]
    omega
theorem appended0 {W w1 : World} {n₀ B : Nat} {t e : TypeId} {size : Nat} {v v' : Value} {k m : Nat} {xs ys : List Value}
    (hv : Boxed W B t v) (hte : t ≠ e) (hrow : W.ownsRow n₀ e size v k xs) (hn₀ : n₀ ≤ W.heap.size) (hB : n₀ ≤ B)
    (hown' : w1.ownsRow n₀ e size v' m ys) (hgrow : W.grownBy w1 v.ownBlock) :
    Boxed w1 B t v ∧ Boxed (w1.setCell ⟨B, 0, none⟩ v') B t v' ∧ (w1.setCell ⟨B, 0, none⟩ v').ownsRow n₀ e size v' m ys ∧ KeepsOthers W (w1.setCell ⟨B, 0, none⟩ v') ∧ Below n₀ W (w1.setCell ⟨B, 0, none⟩ v') := by
  have hv1 : Boxed w1 B t v := hv.kept hgrow (hv.not_row hte hrow)
  refine ⟨hv1, hv1.set v', hown'.kept (grownBy_setCell' w1 B v') (.inr (hv1.not_row hte hown').symm), ?_, ?_⟩
  · refine (KeepsOthers.of_grownBy hgrow fun j o ej hj => ?_).trans (KeepsOthers.setCell _ _ _)
    rcases hrow.2 with ⟨rfl, _⟩ | ⟨g, cap, cur, rfl, _, hgb, _⟩
    · simp [Value.ownBlock] at ej
    · obtain rfl : g = j := by simpa [Value.ownBlock] using ej
      rw [hgb] at hj; cases hj; rfl
  · refine ((Below.refl n₀ W).grown hgrow hn₀ fun j ej => ?_).setCell (p := ⟨B, 0, none⟩) hB v'
    rcases hrow.2 with ⟨rfl, _⟩ | ⟨g, cap, cur, rfl, hb, _, _⟩
    · simp [Value.ownBlock] at ej
    · obtain rfl : g = j := by simpa [Value.ownBlock] using ej
      exact hb
set_option maxRecDepth 100000 in
set_option maxHeartbeats 2000000 in
theorem locals_in {base T last : Nat} {a b c d : Sl} (w : World) (h : TAt base w T [a, b, c, d] last) (n : Nat) (hn : 6 ≤ n) : CallsIn Fence.wide n Tryz.prog 15 #[.pointer (some ⟨T, 0, none⟩)] w fun e w' => LocPost [a, b, c, d] w e w' := by
  have h1 : 1 ≤ n := by omega
  refine callsIn_of_wp_marks Tryz.func15 rfl trivial ?_ rfl
  simp only [Tryz.ntmps15, List.size_toArray, List.length_cons, List.length_nil, Nat.reduceAdd, Nat.reduceSub, Array.replicate_succ, Array.replicate_zero, List.push_toArray, List.append_toArray, List.nil_append, List.cons_append]
  gi_wp2_with (refine ⟨trivial, ?_⟩; gi_at_call 29; refine (callsIn_wide.2 (living_e _ _)).mono ?_; rintro e w' ⟨rfl, rfl⟩)
  have bO := (Boxed.new w 29 (.slice none 0 0)).alloc (.cells #[.pointer (some ⟨T, 0, none⟩)] 25)
  have bN := Boxed.new (w.alloc (.cells #[.slice none 0 0] 29)) 25 (.pointer (some ⟨T, 0, none⟩))
  rw [World.size_alloc] at bN
  have hB0 : Below w.heap.size w ((w.alloc (.cells #[.slice none 0 0] 29)).alloc (.cells #[.pointer (some ⟨T, 0, none⟩)] 25)) := ((Below.refl _ w).alloc (Nat.le_refl _) _).alloc (by simp) _
  have hsz : ((w.alloc (.cells #[.slice none 0 0] 29)).alloc (.cells #[.pointer (some ⟨T, 0, none⟩)] 25)).heap.size = w.heap.size + 2 := by simp
  obtain ⟨W0, hW0⟩ : ∃ W0, (w.alloc (.cells #[.slice none 0 0] 29)).alloc (.cells #[.pointer (some ⟨T, 0, none⟩)] 25) = W0 := ⟨_, rfl⟩
  rw [hW0] at bO bN hB0 hsz ⊢
  clear hW0
  have hT0 := h.below hB0
  refine wpIn_rangeFunc_ownH rfl h1 (gf := 47) (lb := #[.pointer (some ⟨w.heap.size + 1, 0, none⟩)]) rfl trivial (enters_of Tryz.func47 (by kernel_rfl) rfl)
    (living_stops (n - 1) (by omega) (w.heap.size + 1) T a b c d W0 (by omega) hT0.lt bN.cell hT0.cells4) belowK_t (belowK_b (Nat.zero_le _)) (Below.refl _ _) (fun _ => rfl)
    (fun pre W => (∃ v, Boxed W w.heap.size 29 v ∧ W.ownsRow w.heap.size 94 18 v (numOf pre) (locsOf pre) ∧ True) ∧ Below w.heap.size w W)
    (fun _ _ _ => False)
    (OwnFrom.and (Own.from (holdsRow_own w.heap.size w.heap.size 29 94 18 numOf locsOf (fun _ _ => True)) _) (ownFrom_below (Nat.le_refl _) (by omega)))
    (fun _ _ _ _ _ hs _ _ => hs)
    ⟨⟨_, bO, World.ownsRow_nil _ _ _ _, trivial⟩, hB0⟩
    (fun x a' W => ∃ Bx, w.heap.size < Bx ∧ LBox W Bx x.1.2 ∧ a' = { tmps := #[.pointer (some ⟨T, 0, none⟩), undef, .slice none 0 0, .pointer (some ⟨w.heap.size, 0, none⟩), undef, .pointer (some ⟨Bx, 0, none⟩), .pointer (some ⟨T, 0, none⟩), .func (.func 47) #[] #[.pointer (some ⟨w.heap.size + 1, 0, none⟩)], .int .i64 x.1.1, .agg x.1.2.lk.toArray, undef, undef, undef, undef, undef], defers := [] })
    (fun x a' _ X Y row hs hg hr => by obtain ⟨Bx, h1, h2, h3⟩ := hs; exact ⟨Bx, h1, LBox.own Bx x.1.2 () X Y row h2 hg (fun r e => (hr r e).2), h3⟩)
    ?assign ?body ?done ?stop
  case assign =>
    rintro l pre x W K ⟨⟨v, hv, hrow, _⟩, hB1⟩ hK
    have HR := Lib.hid hrow
    have HV := Lib.hid hv
    have HK := Lib.hid hK
    have HB := Lib.hid hB1
    clear hrow hv hK hB1
    obtain ⟨⟨i, ⟨live, gen, dA, dc, ds, df, ll, sA, sc, ns, ss, lA, lc, nl, ls, ca⟩⟩, hx1, hx2⟩ := x
    obtain rfl : live = true := hx2
    dsimp only [encE, Sl.lk]
    gi_wp2
    exact HK.out _ _ ((KeepsOthers.alloc _ _).from _) ((Below.refl _ W).alloc (Nat.zero_le _) _) ⟨⟨v, HV.out.alloc _, HR.out.alloc _, trivial⟩, HB.out.alloc HB.out.size _⟩ ⟨W.heap.size, HV.out.lt, heap_alloc_last W _, rfl⟩
  case body =>
    rintro l pre x a' W hl ⟨r, hr⟩ ⟨⟨v, hv, hrow, _⟩, hB1⟩ ⟨Bx, hBx, bX, rfl⟩ hlt
    have hTW := h.below hB1
    have hS := hTW.oks _ x.mem
    have hnum := numOf_le (fun s hs => (hTW.oks s hs).nll) pre
    have HN := Lib.hid (numOf_snoc pre x)
    have HL := Lib.hid (locsOf_snoc pre x)
    obtain ⟨⟨i, ⟨live, gen, dA, dc, ds, df, ll, sA, sc, ns, ss, lA, lc, nl, ls, ca⟩⟩, hx1, hx2⟩ := x
    obtain rfl : live = true := hx2
    have hnl : nl ≤ 4 := hS.nll
    have hloc := hS.loc
    have hone := Lib.hid hS.one
    have hc := hv.cell
    have hfz := hv.frozen
    have hl6 := cell_of_row W Bx 6 _ _ _ bX
    simp only [Sl.lk, List.getElem?_toArray, List.getElem?_cons_succ, List.getElem?_cons_zero] at hl6
    dsimp only at HN HL
    obtain ⟨i0, z, hi, hz, hzc, hs, hby⟩ := info_loc
    have HI := Lib.hid hi
    have HZ := Lib.hid hz
    have HZC := Lib.hid hzc
    have HS := Lib.hid hs
    have HBY := Lib.hid hby
    clear hi hz hzc hs hby hS hTW h
    have hnum' : numOf pre ≤ 12 := by omega
    obtain ⟨v0, w0', rfl⟩ := own_fm hrow
    have HV := Lib.hid hv
    have HR := Lib.hid hrow
    have HB := Lib.hid hB1
    have hsz1 := hB1.size
    clear hv hrow hB1 hnum hlt bX hr
    rcases hloc.2 with ⟨e0, h0⟩ | ⟨g, cap, cur, e0, hgb, hgc, _⟩
    · have hls := hloc.1
      dsimp only at h0 hls
      subst h0
      obtain rfl : ls = [] := List.length_eq_zero_iff.1 (by omega)
      unfold Sl.lv at e0
      injection e0 with e1 _ e2
      dsimp only at e1 e2
      subst e1 e2
      clear hls hloc
      gi_wp2_with (first
        | (gi_at_builtin; refine wpListIn_append_none rfl _ _ 29 rfl w.heap.size 94 i0 18 Tryz.underlying29 HI.out _ _ _ rfl HR.out rfl ?_; go_simp))
      refine ⟨(KeepsOthers.setCell _ _ _).from _, (Below.refl _ W).setCell (Nat.zero_le _) _, ⟨_, HV.out.set _, ?_⟩, HB.out.setCell (p := ⟨w.heap.size, 0, none⟩) (Nat.le_refl _) _⟩
      rw [HN.out, HL.out, List.append_nil, Nat.add_zero]
      exact HR.out.kept (grownBy_setCell' W w.heap.size _) (.inr (HV.out.not_row (by decide) HR.out).symm)
    · have hcs := Lib.hid (hloc.cells (g := g) (by rw [e0]; rfl))
      have hls := Lib.hid hloc.1
      unfold Sl.lv at e0
      injection e0 with e1 _ e2
      dsimp only at e1 e2 hcs hls
      subst e1 e2
      clear hloc
      gi_wp2_with (first
        | (gi_at_builtin; refine wpListIn_append_own _ rfl _ _ 29 rfl w.heap.size 94 i0 z 18 18 Tryz.underlying29 HI.out HZ.out HS.out HBY.out HZC.out (by decide) _ _ _ rfl HR.out ⟨g, 0, none⟩ nl _ ls rfl hls.out hcs.out hone.out (by unfold maxLen; omega) (by omega) (by omega) ?_; intro v' w1 hown' hgrow _; obtain ⟨va, vc, rfl⟩ := own_fm hown'; obtain ⟨hv1, hv2, hr2, hk2, hb2⟩ := appended0 HV.out (by decide) HR.out hsz1 (Nat.le_refl _) hown' hgrow; have hc1 := hv1.cell; have hf1 := hv1.frozen; have HV2 := Lib.hid hv2; have HR2 := Lib.hid hr2; have HK2 := Lib.hid hk2; have HB2 := Lib.hid hb2; clear hv1 hv2 hr2 hk2 hb2 hown' hgrow; go_simp))
      refine ⟨HK2.out.from _, HB2.out.mono (Nat.zero_le _), ⟨_, HV2.out, ?_⟩, HB.out.trans HB2.out⟩
      rw [HN.out, HL.out]
      exact HR2.out
  case done =>
    rintro D ys W hD rfl ⟨⟨v, hv, hrow, _⟩, hB⟩ hK
    have hc := hv.cell
    have HR := Lib.hid hrow
    have HB := Lib.hid hB
    clear hrow hB
    gi_wp2
    refine ⟨by simp, .inl ⟨_, _, rfl, run_takeDeferred hK, ?_⟩⟩
    exact ⟨_, results_tmp rfl _ _ _, v, rfl, ownsRow_putObj HR.out _ hK rfl, HB.out.trans (belowK_b (w := w) (Nat.le_refl _) W D _ _ (by omega) hK rfl rfl)⟩
  case stop =>
    rintro D c pre W _ _ h _
    exact h.elim
end Go.Proofs.YtgopjgbcnjkblaaGreatDoor
