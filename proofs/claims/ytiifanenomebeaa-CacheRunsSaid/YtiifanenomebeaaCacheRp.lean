/-
  The cache and the statement's own entries side by side, where they may differ for a while. Conditions: each states its own.
-/
import Derived.Test.YtiifanenomebeaaCacheRm
namespace Go.Proofs.Ytiifanenomebeaa
open Go.RowKit Go.Lib

theorem ne_types {w : World} {a b : Nat} {cs cs' : Array Value} {T T' : TypeId} {fr fr' : Nat × Nat} (ha : w.heap[a]? = some (.cells cs T fr)) (hb : w.heap[b]? = some (.cells cs' T' fr')) (h : T ≠ T') : a ≠ b := by
  rintro rfl
  rw [ha] at hb
  injection hb with hb
  injection hb with _ hb
  exact h hb
theorem own_ne {w : World} {B e size n g : Nat} {v : Value} {xs : List Value} {cs : Array Value} {T : TypeId} {fr : Nat × Nat} (h : w.ownsRow B e size v n xs) (hg : w.heap[g]? = some (.cells cs T fr)) (hT : T ≠ e) : v.ownBlock ≠ some g := by
  intro e1
  rcases h.2 with ⟨rfl, _⟩ | ⟨g', cap, cur, rfl, _, hg', _⟩
  · cases e1
  · injection e1 with e1
    have : g' = g := e1
    subst this
    rw [hg] at hg'
    injection hg' with hg'
    injection hg' with _ hg'
    exact hT hg'
theorem own_cap {w : World} {B e size n cap : Nat} {A : Option Addr} {xs : List Value} (h : w.ownsRow B e size (.slice A n cap) n xs) : n ≤ cap := by
  rcases h.2 with ⟨h0, h1⟩ | ⟨g, cap', cur, h0, _, _, hn, _⟩
  · omega
  · injection h0 with _ _ h0
    omega
/-- the first one of those that end first, so far -/
def SPI (es : List PE) (k f : Nat) : Prop := ∀ (j : Nat) (x y : PE), j < k → es[f]? = some x → es[j]? = some y → finP x ≤ finP y ∧ (j < f → finP x < finP y)
theorem SPI.yes {es : List PE} {k f : Nat} {u x : PE} (h : SPI es k f) (hu : es[k]? = some u) (hx : es[f]? = some x) (hlt : finP u < finP x) : SPI es (k + 1) k := fun j p q hj hp hq => by
  rw [hu] at hp; injection hp with hp; subst hp
  rcases Nat.lt_or_ge j k with h1 | h1
  · have := (h j x q h1 hx hq).1
    exact ⟨by omega, fun _ => by omega⟩
  · obtain rfl : j = k := by omega
    rw [hu] at hq; injection hq with hq; subst hq
    exact ⟨Nat.le_refl _, fun h => absurd h (Nat.lt_irrefl _)⟩
theorem SPI.no {es : List PE} {k f : Nat} {u x : PE} (h : SPI es k f) (hf : f ≤ k) (hu : es[k]? = some u) (hx : es[f]? = some x) (hlt : ¬ finP u < finP x) : SPI es (k + 1) f := fun j p q hj hp hq => by
  rcases Nat.lt_or_ge j k with h1 | h1
  · exact h j p q h1 hp hq
  · obtain rfl : j = k := by omega
    rw [hx] at hp; injection hp with hp; subst hp
    rw [hu] at hq; injection hq with hq; subst hq
    exact ⟨by omega, fun h => by omega⟩
theorem mC_ones (l : List PE) : ∀ u ∈ mC l, u.oneCell' = true := fun u hu => by
  obtain ⟨p, _, hp⟩ := List.mem_flatMap.1 hu
  exact mE_one p u hp
theorem erase_cells {es : List PE} {f F : Nat} (hf : f < es.length) (hF : F = f + 1) :
    (mC (es.take f)).length = f * 5 ∧ (mC (es.drop F)).length = (es.length - F) * 5 ∧ (∀ (j : Nat) (u : Value), (mC (es.take f))[j]? = some u → (mC es)[j]? = some u) ∧ (∀ (j : Nat) (u : Value), (mC (es.drop F))[j]? = some u → (mC es)[F * 5 + j]? = some u) ∧ mC (es.take f) ++ mC (es.drop F) = mC (es.eraseIdx f) := by
  have h1 : (mC (es.take f)).length = f * 5 := by rw [mC_len, List.length_take]; congr 1; omega
  have h2 : (mC (es.take F)).length = F * 5 := by rw [mC_len, List.length_take]; congr 1; omega
  refine ⟨h1, by rw [mC_len, List.length_drop], fun j u hj => ?_, fun j u hj => ?_, ?_⟩
  · have hlt := (List.getElem?_eq_some_iff.1 hj).1
    rw [← List.take_append_drop f es, mC_append, List.getElem?_append_left hlt]
    exact hj
  · rw [← List.take_append_drop F es, mC_append, List.getElem?_append_right (by rw [h2]; omega), h2, Nat.add_sub_cancel_left]
    exact hj
  · rw [← mC_append, hF, List.eraseIdx_eq_take_drop_succ]
structure RP (w W : World) (base C s g6 g7 now : Nat) (cs ms : List PE) : Prop where
  cm : CM base W C s cs
  row : ∃ v, W.heap[g6]? = some (.cells #[v] 26 (0, 0)) ∧ W.ownsRow base 34 5 v ms.length (mC ms)
  clk : W.heap[g7]? = some (.cells #[.int .i64 now] 3 (0, 0))
  below : Below w.heap.size w W
  b6 : base ≤ g6
  b7 : base ≤ g7
  bw : w.heap.size ≤ base
section
variable {w W W' : World} {base C s g6 g7 now : Nat} {cs cs' ms ms' ps : List PE}
theorem RA.rp (h : RA w W base C s g6 g7 now ps) : RP w W base C s g6 g7 now ps ps := ⟨h.cm, h.row, h.clk, h.below, h.b6, h.b7, h.bw⟩
theorem RP.ra (h : RP w W base C s g6 g7 now ps ps) (hi : RInv now ps) : RA w W base C s g6 g7 now ps := ⟨h.cm, h.row, h.clk, h.below, hi, h.b6, h.b7, h.bw⟩
theorem RP.step (h : RP w W base C s g6 g7 now cs ms) (hb : Below W.heap.size W W') : RP w W' base C s g6 g7 now cs ms := by
  obtain ⟨v, h6, hr⟩ := h.row
  exact ⟨h.cm.below hb, ⟨v, (hb.block g6 (heap_lt h6)).trans h6, own_below hr hb⟩, (hb.block g7 (heap_lt h.clk)).trans h.clk, h.below.trans (hb.mono h.below.size), h.b6, h.b7, h.bw⟩
theorem RP.cache (h : RP w W base C s g6 g7 now cs ms) (hc : CM base W' C s cs') (hs : Step base W W') : RP w W' base C s g6 g7 now cs' ms := by
  obtain ⟨v, h6, hr⟩ := h.row
  exact ⟨hc, ⟨v, hs.keep g6 _ h6 (other_cells (by decide) (by decide)), own_step hr (by decide) (by decide) hs⟩, hs.keep g7 _ h.clk (other_cells (by decide) (by decide)), h.below.trans (hs.below.mono h.bw), h.b6, h.b7, h.bw⟩
theorem RP.live {e : Ending} (h : RP w W base C s g6 g7 now cs ms) (hl : LiveP g6 ms' W e W') : e = .returned (.tuple #[]) ∧ RP w W' base C s g6 g7 now cs ms' ∧ W.grownBy W' (some g6) := by
  obtain ⟨v0, h6, hr⟩ := h.row
  obtain ⟨v, he, h6', hr', hg⟩ := hl
  have hne := ne_types h.clk h6 (by decide)
  refine ⟨he, ⟨h.cm.keptT hg h6 (by decide) (by decide) (by decide), ⟨v, h6', own_base hr' h.cm.hb⟩, (hg.block g7 (heap_lt h.clk) (by intro e; injection e with e; exact hne e)).trans h.clk, h.below.grown hg h.below.size (fun k hk => by injection hk with hk; have := h.b6; have := h.bw; omega), h.b6, h.b7, h.bw⟩, hg⟩
theorem RP.store {v : Value} (h : RP w W base C s g6 g7 now cs ms) (hr : W.ownsRow base 34 5 v ms'.length (mC ms')) : RP w (W.setCell ⟨g6, 0, none⟩ v) base C s g6 g7 now cs ms' := by
  obtain ⟨v0, h6, _⟩ := h.row
  have hg : W.grownBy (W.setCell ⟨g6, 0, none⟩ v) (some g6) := ⟨rfl, rfl, rfl, by simp, fun k _ hk => Below.heap_setCell _ _ _ _ (fun e => hk (by rw [e]))⟩
  have hne := ne_types h.clk h6 (by decide)
  exact ⟨h.cm.keptT hg h6 (by decide) (by decide) (by decide), ⟨v, by simpa using heap_setCell_same W g6 0 _ _ v h6, hr.kept hg (.inr (own_ne hr h6 (by decide)))⟩, (heap_setCell_other _ _ _ _ hne).trans h.clk, h.below.setCell (Nat.le_trans h.bw h.b6) _, h.b6, h.b7, h.bw⟩
/-- the new entries' row, and the store of it -/
theorem fin_store {A0 : Option Addr} {q c0 : Nat} {v1 : Value} {es : List PE} {p : PE} {l : List Value} {B : Nat} (h : RP w W base C s g6 g7 now ps ms) (hB : base ≤ B) (hr : W.ownsRow B 34 5 (.slice A0 q c0) q (mC es)) (ho : W'.ownsRow B 34 5 v1 (q + 1) (mC es ++ l)) (hg : W.grownBy W' (Value.slice A0 q c0).ownBlock) (he : mE p = l) (hps : ps = es ++ [p]) :
    RP w (W'.setCell ⟨g6, 0, none⟩ v1) base C s g6 g7 now ps ps ∧ ∃ v0, W'.heap[g6]? = some (.cells #[v0] 26 (0, 0)) := by
  obtain ⟨v0, h6, hr0⟩ := h.row
  have k6 := own_ne hr h6 (by decide)
  have k7 := own_ne hr h.clk (by decide)
  have hcm : CM base W' C s ps := by
    rcases hr.2 with ⟨h0, _⟩ | ⟨g, cap, cur, h0, hb2, hg2, _⟩
    · rw [h0] at hg
      exact h.cm.below ⟨hg.os, hg.tape, hg.output, hg.size, fun k hk => hg.block k hk (by simp [Value.ownBlock])⟩
    · rw [h0] at hg
      exact h.cm.keptT hg hg2 (by decide) (by decide) (by decide)
  have h6' := (hg.block g6 (heap_lt h6) (fun e => k6 e.symm)).trans h6
  have hclk := (hg.block g7 (heap_lt h.clk) (fun e => k7 e.symm)).trans h.clk
  have hne := ne_types h.clk h6 (by decide)
  have hlen : q = es.length := by
    have h1 := hr.1
    rw [mC_len] at h1
    omega
  have hgs : W'.grownBy (W'.setCell ⟨g6, 0, none⟩ v1) (some g6) := ⟨rfl, rfl, rfl, by simp, fun k _ hk => Below.heap_setCell _ _ _ _ (fun e => hk (by rw [e]))⟩
  have hrow : W'.ownsRow base 34 5 v1 ps.length (mC ps) := by
    rw [hps, List.length_append, mC_append, mC_one, he, List.length_singleton, ← hlen]
    exact own_base ho hB
  have hbl : Below w.heap.size w W' := h.below.grown hg h.below.size (fun k hk => Nat.le_trans (Nat.le_trans h.bw hB) (hr.lt k hk).1)
  exact ⟨⟨hcm.keptT hgs h6' (by decide) (by decide) (by decide), ⟨v1, by simpa using heap_setCell_same W' g6 0 _ _ v1 h6', hrow.kept hgs (.inr (own_ne hrow h6' (by decide)))⟩, (heap_setCell_other _ _ _ _ hne).trans hclk, hbl.setCell (Nat.le_trans h.bw h.b6) _, h.b6, h.b7, h.bw⟩, v0, h6'⟩
end
section
variable {P : Program} {ops : Array Oper} {rest : List Oper} {o : Oper} {a : Act} {Q : Exit → Act → World → Prop}
/-- two values of several cells held apart from one another -/
theorem wpList_neq_agg {w : World} (hgd : o.guard = none) (t : TypeId) (x y : Operand) (s : TypeId) (ho : o.op = .binOp .neq t x y s) (xs ys : Array Value) (b : Bool) (hx : a.eval x = .agg xs) (hy : a.eval y = .agg ys)
    (hm : P.eqGuardType P.depth t = false) (hr : (Op.equalIn 10000 t (.agg xs) (.agg ys)).run P w = .ok b w)
    (h : wpList P ops Q rest (a.put o.dst (.bool (!b))) w) : wpList P ops Q (o :: rest) a w :=
  wpList_plain hgd fun _ hK => by
    have h1 := run_eqGuard_agg (P := P) w .neq t x y xs ys hm
    have h2 := run_neq_struct (P := P) w t xs ys
    rw [hr] at h2
    unfold Oper.wp execOp
    simp only [ho, hx, hy, Sem.run_bind, h1, h2, Result.andThen_ok]
    exact hK _ _ h
end
end Go.Proofs.Ytiifanenomebeaa
