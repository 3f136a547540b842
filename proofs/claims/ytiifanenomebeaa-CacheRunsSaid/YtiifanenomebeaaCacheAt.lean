/-
  A cache as it lies in memory, and the walks of New, Len, Clear, find and Expire. Conditions: each states its own.
-/
import Derived.Test.YtiifanenomebeaaCacheShort0
namespace Go.Proofs.Ytiifanenomebeaa
open Go.RowKit Go.Lib

/-- a block that no call of a cache writes -/
def Other (o : Obj) : Prop := ∀ cs T fr, o = .cells cs T fr → T ≠ 58 ∧ T ≠ 55
theorem other_cells {cs : Array Value} {T : TypeId} {fr : Nat × Nat} (h1 : T ≠ 58) (h2 : T ≠ 55) : Other (.cells cs T fr) := by
  intro cs' T' fr' e
  injection e with _ e
  rw [← e]
  exact ⟨h1, h2⟩
/-- what calls of a cache of the call's own may do -/
structure Step (base : Nat) (w w' : World) : Prop where
  below : Below base w w'
  keep : ∀ (k : Nat) (o : Obj), w.heap[k]? = some o → Other o → w'.heap[k]? = some o
theorem Step.refl (base : Nat) (w : World) : Step base w w := ⟨Below.refl _ _, fun _ _ h _ => h⟩
theorem Step.trans {base : Nat} {a b c : World} (h : Step base a b) (k : Step base b c) : Step base a c :=
  ⟨h.below.trans k.below, fun i o hi ho => k.keep i o (h.keep i o hi ho) ho⟩
theorem Step.of_below {base : Nat} {w w' : World} (h : Below w.heap.size w w') (hb : base ≤ w.heap.size) : Step base w w' :=
  ⟨h.mono hb, fun k _ hk _ => (h.block k (heap_lt hk)).trans hk⟩
theorem Step.put {base g : Nat} {w w' : World} (hg : w.grownBy w' (some g)) (hb : base ≤ g) (hbs : base ≤ w.heap.size) {cs : Array Value} {T : TypeId} {fr : Nat × Nat} (ho : w.heap[g]? = some (.cells cs T fr)) (hT : T = 58 ∨ T = 55) : Step base w w' :=
  ⟨(Below.refl base w).grown hg hbs (fun k hk => by injection hk with hk; omega), fun k o hk hoth => by
    have hne : k ≠ g := by
      rintro rfl
      rw [ho] at hk
      injection hk with hk
      have := hoth cs T fr hk.symm
      rcases hT with h | h
      · exact this.1 h
      · exact this.2 h
    exact (hg.block k (heap_lt hk) (by simpa using hne)).trans hk⟩
theorem Step.size {base : Nat} {w w' : World} (h : Step base w w') : w.heap.size ≤ w'.heap.size := h.below.size
theorem Step.cell {base : Nat} {w w' : World} (h : Step base w w') {k o : Nat} {v : Value} {cs : Array Value} {T : TypeId} {fr : Nat × Nat} (hk : w.heap[k]? = some (.cells cs T fr)) (h1 : T ≠ 58) (h2 : T ≠ 55) (hc : w.cell? ⟨k, o, none⟩ = some v) : w'.cell? ⟨k, o, none⟩ = some v :=
  (World.cell?_of_block ((h.keep k _ hk (other_cells h1 h2)).trans hk.symm)).trans hc
theorem own_step {base b size n : Nat} {w w' : World} {T : TypeId} {v : Value} {xs : List Value} (h : w.ownsRow b T size v n xs) (h1 : T ≠ 58) (h2 : T ≠ 55) (hs : Step base w w') : w'.ownsRow b T size v n xs := by
  refine ⟨h.1, ?_⟩
  rcases h.2 with h | ⟨g, cap, cur, rfl, hb, hg, r⟩
  · exact .inl h
  · exact .inr ⟨g, cap, cur, rfl, hb, hs.keep g _ hg (other_cells h1 h2), r⟩
/-- a cache of the call's own lies at C: what it holds -/
structure CAt (base : Nat) (w : World) (C size : Nat) (v : Value) (es : List En) : Prop where
  ge : base ≤ C
  obj : w.heap[C]? = some (.cells #[.int .i64 size, v] 55 (0, 0))
  own : w.ownsRow base 58 6 v es.length (flatE es)
  recs : ∀ e ∈ es, w.ownsRow base 40 21 e.rv e.rn e.recs
  fits : ∀ e ∈ es, e.Fits
  len : es.length ≤ size
  small : size ≤ 16
theorem CAt.lt {base C size : Nat} {w : World} {v : Value} {es : List En} (h : CAt base w C size v es) : C < w.heap.size := heap_lt h.obj
theorem CAt.hb {base C size : Nat} {w : World} {v : Value} {es : List En} (h : CAt base w C size v es) : base ≤ w.heap.size := by have := h.lt; have := h.ge; omega
theorem own_sl {w : World} {B e size n : Nat} {v : Value} {xs : List Value} (h : w.ownsRow B e size v n xs) : ∃ A cap, v = .slice A n cap := by
  rcases h.2 with ⟨rfl, h0⟩ | ⟨g, cap, cur, rfl, _⟩
  · exact ⟨none, 0, by rw [h0]⟩
  · exact ⟨_, cap, rfl⟩
theorem own_one {w : World} {B e size n : Nat} {v : Value} {xs : List Value} (h : w.ownsRow B e size v n xs) : v.oneCell' = true := by
  obtain ⟨A, c, rfl⟩ := own_sl h
  rfl
theorem CAt.one {base C size : Nat} {w : World} {v : Value} {es : List En} (h : CAt base w C size v es) : ∀ e ∈ es, e.rv.oneCell' = true := fun e he => own_one (h.recs e he)
theorem own_below {b size n : Nat} {w w' : World} {T : TypeId} {v : Value} {xs : List Value} (h : w.ownsRow b T size v n xs) (hb : Below w.heap.size w w') : w'.ownsRow b T size v n xs :=
  h.kept (show w.grownBy w' none from ⟨hb.os, hb.tape, hb.output, hb.size, fun k hk _ => hb.block k hk⟩) (Classical.em _)
theorem CAt.below {base C size : Nat} {w w' : World} {v : Value} {es : List En} (h : CAt base w C size v es) (hb : Below w.heap.size w w') : CAt base w' C size v es :=
  ⟨h.ge, (hb.block C h.lt).trans h.obj, own_below h.own hb, fun e he => own_below (h.recs e he) hb, h.fits, h.len, h.small⟩
/-- the entries as they lie: none, or a row -/
theorem CAt.row {base C size : Nat} {w : World} {v : Value} {es : List En} (h : CAt base w C size v es) : (v = .slice none 0 0 ∧ es = []) ∨ ∃ g cap tail, v = .slice (some ⟨g, 0, none⟩) es.length cap ∧ base ≤ g ∧ w.heap[g]? = some (.cells (flatE es ++ tail).toArray 58 (0, 0)) ∧ es.length ≤ cap ∧ cap ≤ maxLen ∧ (flatE es ++ tail).length = cap * 6 := by
  rcases h.own.2 with ⟨rfl, h0⟩ | ⟨g, cap, cur, rfl, hb, hg, hn, hc, hs, ht⟩
  · exact .inl ⟨rfl, List.length_eq_zero_iff.1 h0⟩
  · have e : cur.toList = flatE es ++ cur.toList.drop (es.length * 6) := by rw [← ht, List.take_append_drop]
    refine .inr ⟨g, cap, cur.toList.drop (es.length * 6), rfl, hb, ?_, hn, hc, ?_⟩
    · rw [← e, Array.toArray_toList]; exact hg
    · rw [← e]; exact hs
theorem CAt.ents {base C size : Nat} {w : World} {A : Option Addr} {n c : Nat} {es : List En} (h : CAt base w C size (.slice A n c) es) : EntsAt w A es := by
  rcases h.row with ⟨_, h0⟩ | ⟨g, cap, tail, hv, _, hg, _⟩
  · subst h0
    intro h; simp at h
  · injection hv with hA
    subst hA
    exact EntsAt.of_row hg
theorem row_own {base g cap : Nat} {w : World} {es : List En} {tail : List Value} (hb : base ≤ g) (hg : w.heap[g]? = some (.cells (flatE es ++ tail).toArray 58 (0, 0))) (hn : es.length ≤ cap) (hc : cap ≤ maxLen) (hs : (flatE es ++ tail).length = cap * 6) : w.ownsRow base 58 6 (.slice (some ⟨g, 0, none⟩) es.length cap) es.length (flatE es) := by
  refine ⟨flatE_len es, .inr ⟨g, cap, _, rfl, hb, hg, hn, hc, hs, ?_⟩⟩
  rw [show (flatE es ++ tail).toArray.toList = flatE es ++ tail from rfl, ← flatE_len es, List.take_left]
/-- behind slices.Delete, slices.DeleteFunc and the store into the cache -/
theorem CAt.del {base C size g cap : Nat} {w w1 w2 : World} {es es' : List En} {tail : List Value} (h : CAt base w C size (.slice (some ⟨g, 0, none⟩) es.length cap) es) (hg : w.heap[g]? = some (.cells (flatE es ++ tail).toArray 58 (0, 0))) (hbg : base ≤ g) (hc : cap ≤ maxLen) (hn : es.length ≤ cap) (hs : (flatE es ++ tail).length = cap * 6)
    (hb1 : Below w.heap.size w w1) (hd : w2.heap[g]? = some (.cells (flatE (es' ++ List.replicate (es.length - es'.length) zE) ++ tail).toArray 58 (0, 0))) (hgr : w1.grownBy w2 (some g)) (hl : es'.length ≤ es.length) (hsub : ∀ e ∈ es', e ∈ es) :
    CAt base (w2.setCell ⟨C, 1, none⟩ (.slice (some ⟨g, 0, none⟩) es'.length cap)) C size (.slice (some ⟨g, 0, none⟩) es'.length cap) es' ∧ Step base w (w2.setCell ⟨C, 1, none⟩ (.slice (some ⟨g, 0, none⟩) es'.length cap)) ∧ w2.heap[C]? = some (.cells #[.int .i64 size, .slice (some ⟨g, 0, none⟩) es.length cap] 55 (0, 0)) := by
  have hCg : C ≠ g := by
    rintro rfl
    have := h.obj
    rw [hg] at this
    injection this with this
    injection this with _ this
    exact absurd this (by decide)
  have hC1 : w1.heap[C]? = _ := (hb1.block C h.lt).trans h.obj
  have hC2 : w2.heap[C]? = some (.cells #[.int .i64 size, .slice (some ⟨g, 0, none⟩) es.length cap] 55 (0, 0)) := (hgr.block C (heap_lt hC1) (by simpa using hCg)).trans hC1
  have hC3 := heap_setCell_same w2 C 1 _ _ (.slice (some ⟨g, 0, none⟩) es'.length cap) hC2
  have hg1 : w1.heap[g]? = some (.cells (flatE es ++ tail).toArray 58 (0, 0)) := (hb1.block g (heap_lt hg)).trans hg
  have hg3 : (w2.setCell ⟨C, 1, none⟩ (.slice (some ⟨g, 0, none⟩) es'.length cap)).heap[g]? = some (.cells (flatE es' ++ (flatE (List.replicate (es.length - es'.length) zE) ++ tail)).toArray 58 (0, 0)) := by
    rw [heap_setCell_other _ _ _ _ (show g ≠ C from fun e => hCg e.symm), hd, flatE_append, List.append_assoc]
  have hst : Step base w (w2.setCell ⟨C, 1, none⟩ (.slice (some ⟨g, 0, none⟩) es'.length cap)) := by
    have s1 := Step.of_below (base := base) hb1 h.hb
    have s2 := s1.trans (Step.put (base := base) hgr hbg (Nat.le_trans h.hb s1.size) hg1 (.inl rfl))
    exact s2.trans (Step.put (g := C) ⟨rfl, rfl, rfl, by simp, fun k _ hk => Below.heap_setCell _ _ _ _ (fun e => hk (by rw [e]))⟩ h.ge (Nat.le_trans h.hb s2.size) hC2 (.inr rfl))
  refine ⟨⟨h.ge, by simpa using hC3, ?_, fun e he => own_step (h.recs e (hsub e he)) (by decide) (by decide) hst, fun e he => h.fits e (hsub e he), Nat.le_trans hl h.len, h.small⟩, hst, hC2⟩
  refine row_own hbg hg3 (Nat.le_trans hl hn) hc ?_
  rw [List.length_append, flatE_len] at hs
  rw [List.length_append, List.length_append, flatE_len, flatE_len, List.length_replicate]
  omega
end Go.Proofs.Ytiifanenomebeaa
