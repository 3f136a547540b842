/-
  What Put makes of a cache's entries, and the append behind it. Conditions: each states its own.
-/
import Derived.Test.YtiifanenomebeaaCacheCl
namespace Go.Proofs.Ytiifanenomebeaa
open Go.RowKit Go.Lib

theorem idx_eraseP {p : En → Bool} : ∀ {es : List En} {r : Int}, IdxP p es r → (r = -1 ∧ es.eraseP p = es) ∨ ∃ k : Nat, r = k ∧ k < es.length ∧ es.eraseP p = es.eraseIdx k := by
  intro es r h
  rcases h with ⟨h1, h2⟩ | ⟨k, e, h1, h2, h3, h4⟩
  · exact .inl ⟨h1, List.eraseP_of_forall_not (fun a ha => by rw [h2 a ha]; simp)⟩
  · refine .inr ⟨k, h1, (List.getElem?_eq_some_iff.1 h2).1, ?_⟩
    clear h1
    induction es generalizing k with
    | nil => simp at h2
    | cons a l ih =>
      cases k with
      | zero =>
        simp only [List.getElem?_cons_zero, Option.some.injEq] at h2
        subst h2
        rw [List.eraseP_cons_of_pos h3]; rfl
      | succ k =>
        have ha : p a = false := h4 0 a (Nat.succ_pos k) rfl
        rw [List.eraseP_cons_of_neg (by rw [ha]; simp), ih k (by simpa using h2) (fun j e' hj he => h4 (j + 1) e' (by omega) (by simpa using he))]
        rfl
/-- what is there behind a Put -/
def PutRel (size now : Nat) (es : List En) (e : En) (es' : List En) : Prop :=
  ∃ es3, es' = es3 ++ [e] ∧ ((((es.filter (cnt now)).eraseP (isQ e.nm e.ty)).length ≠ size ∧ es3 = (es.filter (cnt now)).eraseP (isQ e.nm e.ty)) ∨
    (((es.filter (cnt now)).eraseP (isQ e.nm e.ty)).length = size ∧ ∃ f, ShP ((es.filter (cnt now)).eraseP (isQ e.nm e.ty)) f ∧ es3 = ((es.filter (cnt now)).eraseP (isQ e.nm e.ty)).eraseIdx f))
def PutPost (base C size now : Nat) (es : List En) (nm : ByteArray) (ty out : Int) (n : Nat) (xs : List Value) (T : Nat) (w : World) (e : Ending) (w' : World) : Prop :=
  ∃ v rv es', e = .returned (.tuple #[]) ∧ CAt base w' C size v es' ∧ PutRel size now es ⟨nm, ty, out, rv, n, xs, now, T⟩ es' ∧ Step base w w'
theorem fill_6 {cs : List Value} (h : cs.length = 6) : Instr.fill (fun i => some (i * 6, 6)) ((Array.range (1 * 6)).map ((Value.agg zE.cells.toArray).cells[· % (Value.agg zE.cells.toArray).cells.size]!)) [(0, .agg cs.toArray)] = some cs.toArray := by
  have := Great.fill_whole (s := 6) (by decide) [Value.agg cs.toArray] ((Array.range (1 * 6)).map ((Value.agg zE.cells.toArray).cells[· % (Value.agg zE.cells.toArray).cells.size]!)) (by simp [Value.cells, h]) (by simp)
  simpa [Value.cells] using this
/-- one entry more -/
theorem CAt.app {base C size : Nat} {w w1 : World} {v v1 : Value} {es : List En} {e : En} (h : CAt base w C size v es) (ho : w1.ownsRow base 58 6 v1 (es.length + 1) (flatE es ++ e.cells)) (hg : w.grownBy w1 v.ownBlock)
    (he : w.ownsRow base 40 21 e.rv e.rn e.recs) (hf : e.Fits) (hl : es.length < size) :
    CAt base (w1.setCell ⟨C, 1, none⟩ v1) C size v1 (es ++ [e]) ∧ Step base w (w1.setCell ⟨C, 1, none⟩ v1) ∧ w1.heap[C]? = some (.cells #[.int .i64 size, v] 55 (0, 0)) ∧ Step base w w1 := by
  have hst1 : Step base w w1 := by
    rcases h.row with ⟨rfl, _⟩ | ⟨g, cap, tail, rfl, hbg, hgg, _⟩
    · refine Step.of_below ⟨hg.os, hg.tape, hg.output, hg.size, fun k hk => hg.block k hk (by simp [Value.ownBlock])⟩ h.hb
    · exact Step.put hg hbg h.hb hgg (.inl rfl)
  have hvC : v.ownBlock ≠ some C := by
    rcases h.row with ⟨rfl, _⟩ | ⟨g, cap, tail, rfl, hbg, hgg, _⟩
    · simp [Value.ownBlock]
    · intro e
      injection e with e
      have : g = C := e
      subst this
      have := h.obj
      rw [hgg] at this
      injection this with this
      injection this with _ this
      exact absurd this (by decide)
  have hv1C : v1.ownBlock ≠ some C := by
    intro e1
    rcases ho.2 with ⟨rfl, h0⟩ | ⟨g, cap, cur, rfl, _, hgg, _⟩
    · omega
    · injection e1 with e1
      have : g = C := e1
      subst this
      have := (hg.block g h.lt (fun e => hvC e.symm)).trans h.obj
      rw [hgg] at this
      injection this with this
      injection this with _ this
      exact absurd this (by decide)
  have hC1 : w1.heap[C]? = _ := (hg.block C h.lt (fun e => hvC e.symm)).trans h.obj
  have hgs : w1.grownBy (w1.setCell ⟨C, 1, none⟩ v1) (some C) := ⟨rfl, rfl, rfl, by simp, fun k _ hk => Below.heap_setCell _ _ _ _ (fun e => hk (by rw [e]))⟩
  have hst : Step base w (w1.setCell ⟨C, 1, none⟩ v1) := hst1.trans (Step.put hgs h.ge (Nat.le_trans h.hb hst1.size) hC1 (.inr rfl))
  refine ⟨⟨h.ge, by simpa using heap_setCell_same w1 C 1 _ _ v1 hC1, ?_, ?_, ?_, ?_, h.small⟩, hst, hC1, hst1⟩
  · rw [List.length_append, flatE_append, show flatE [e] = e.cells from by simp [flatE]]
    exact ho.kept hgs (.inr hv1C)
  · intro x hx
    rcases List.mem_append.1 hx with hx | hx
    · exact own_step (h.recs x hx) (by decide) (by decide) hst
    · rw [List.mem_singleton.1 hx]; exact own_step he (by decide) (by decide) hst
  · intro x hx
    rcases List.mem_append.1 hx with hx | hx
    · exact h.fits x hx
    · rw [List.mem_singleton.1 hx]; exact hf
  · rw [List.length_append]; exact hl
end Go.Proofs.Ytiifanenomebeaa
