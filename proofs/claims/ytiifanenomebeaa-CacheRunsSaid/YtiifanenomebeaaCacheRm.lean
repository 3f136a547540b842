/-
  Plain facts of CacheRuns: entries of unlike questions, what a Put leaves of them, which one is told. Conditions: each states its own.
-/
import Derived.Test.YtiifanenomebeaaCacheRn
namespace Go.Proofs.Ytiifanenomebeaa
open Go.RowKit Go.Lib

/-- entries as CacheRuns puts them, each of another question -/
structure RInv (now : Nat) (ps : List PE) : Prop where
  all : ∀ p ∈ ps, p.out = 1 ∧ p.rs = [recA p.nm p.ty p.ttl] ∧ p.frm ≤ now ∧ 1 ≤ p.ttl ∧ p.ttl ≤ 14
  apart : ps.Pairwise fun a b => ¬ (a.nm = b.nm ∧ a.ty = b.ty)
theorem RInv.nil (now : Nat) : RInv now [] := ⟨fun p hp => (by cases hp), List.Pairwise.nil⟩
theorem RInv.mono {now now' : Nat} {ps : List PE} (h : RInv now ps) (hn : now ≤ now') : RInv now' ps :=
  ⟨fun p hp => by obtain ⟨h1, h2, h3, h4⟩ := h.all p hp; exact ⟨h1, h2, by omega, h4⟩, h.apart⟩
theorem RInv.sub {now : Nat} {ps qs : List PE} (h : RInv now ps) (hs : qs.Sublist ps) : RInv now qs := ⟨fun p hp => h.all p (hs.subset hp), h.apart.sublist hs⟩
theorem RInv.filter {now : Nat} {ps : List PE} (h : RInv now ps) (f : PE → Bool) : RInv now (ps.filter f) := h.sub List.filter_sublist
theorem RInv.eraseIdx {now : Nat} {ps : List PE} (h : RInv now ps) (k : Nat) : RInv now (ps.eraseIdx k) := h.sub (List.eraseIdx_sublist ps k)
/-- of another question -/
def nQ (qn : ByteArray) (qt : Int) (p : PE) : Bool := !isP qn qt p
theorem eraseP_apart {qn : ByteArray} {qt : Int} : ∀ {ps : List PE}, (ps.Pairwise fun a b => ¬ (a.nm = b.nm ∧ a.ty = b.ty)) → ps.eraseP (isP qn qt) = ps.filter (nQ qn qt)
  | [], _ => rfl
  | p :: l, h => by
    rw [List.pairwise_cons] at h
    cases hq : isP qn qt p with
    | true =>
      have hp := of_decide_eq_true hq
      rw [List.eraseP_cons_of_pos hq, List.filter_cons_of_neg (by unfold nQ; rw [hq]; simp)]
      symm
      refine List.filter_eq_self.2 (fun a ha => ?_)
      have := h.1 a ha
      unfold nQ isP
      rw [decide_eq_false (fun e => this ⟨hp.1.trans e.1.symm, hp.2.trans e.2.symm⟩)]
      rfl
    | false =>
      rw [List.eraseP_cons_of_neg (by rw [hq]; simp), List.filter_cons_of_pos (by unfold nQ; rw [hq]; rfl), eraseP_apart h.2]
theorem ShM.unique {l : List PE} {f g : Nat} (hf : ShM l f) (hg : ShM l g) : f = g := by
  obtain ⟨x, hx⟩ : ∃ x, l[f]? = some x := ⟨_, List.getElem?_eq_getElem hf.1⟩
  obtain ⟨y, hy⟩ : ∃ y, l[g]? = some y := ⟨_, List.getElem?_eq_getElem hg.1⟩
  have h1 := hf.2 g x y hx hy
  have h2 := hg.2 f y x hy hx
  rcases Nat.lt_trichotomy f g with h | h | h
  · have := h2.2 h; omega
  · exact h
  · have := h1.2 h; omega
/-- what there is behind a Put, by the statement's own way -/
theorem put_runs {s now : Nat} {ps ps' : List PE} {p : PE} (h : RInv now ps) (hr : PutR s now ps p ps') :
    ((((ps.filter (cntP now)).filter (nQ p.nm p.ty)).length ≠ s) ∧ ps' = ((ps.filter (cntP now)).filter (nQ p.nm p.ty)) ++ [p]) ∨
    ((((ps.filter (cntP now)).filter (nQ p.nm p.ty)).length = s) ∧ ∀ f, ShM ((ps.filter (cntP now)).filter (nQ p.nm p.ty)) f → ps' = ((ps.filter (cntP now)).filter (nQ p.nm p.ty)).eraseIdx f ++ [p]) := by
  obtain ⟨l, hl, hr⟩ := hr
  rw [eraseP_apart (h.filter _).apart] at hl
  subst hl
  rcases hr with h | ⟨h1, g, hg, h2⟩
  · exact .inl h
  · exact .inr ⟨h1, fun f hf => by rw [hf.unique hg]; exact h2⟩
theorem RInv.snoc {now : Nat} {l : List PE} {p : PE} (h : RInv now l) (hp : p.out = 1 ∧ p.rs = [recA p.nm p.ty p.ttl] ∧ p.frm ≤ now ∧ 1 ≤ p.ttl ∧ p.ttl ≤ 14) (hq : ∀ a ∈ l, isP p.nm p.ty a = false) : RInv now (l ++ [p]) := by
  refine ⟨fun a ha => ?_, ?_⟩
  · rcases List.mem_append.1 ha with ha | ha
    · exact h.all a ha
    · rw [List.mem_singleton.1 ha]; exact hp
  · rw [List.pairwise_append]
    refine ⟨h.apart, List.pairwise_singleton _ _, fun a ha b hb => ?_⟩
    rw [List.mem_singleton.1 hb]
    exact of_decide_eq_false (hq a ha)
theorem nQ_mem {qn : ByteArray} {qt : Int} {l : List PE} {a : PE} (h : a ∈ l.filter (nQ qn qt)) : isP qn qt a = false := by
  have := (List.mem_filter.1 h).2
  unfold nQ at this
  simpa using this
/-- does an entry answer a question at a time? -/
def hit (now : Nat) (qn : ByteArray) (qt : Int) (p : PE) : Bool := isP qn qt p && cntP now p
theorem getO_runs {now : Nat} {qn : ByteArray} {qt : Int} : ∀ {ps : List PE}, (ps.Pairwise fun a b => ¬ (a.nm = b.nm ∧ a.ty = b.ty)) →
    (getO now qn qt ps = none ∧ ∀ p ∈ ps, hit now qn qt p = false) ∨ (∃ p, getO now qn qt ps = some p ∧ p ∈ ps ∧ hit now qn qt p = true ∧ ∀ q ∈ ps, hit now qn qt q = true → q = p)
  | [], _ => .inl ⟨rfl, fun p hp => by cases hp⟩
  | a :: l, h => by
    rw [List.pairwise_cons] at h
    cases hq : isP qn qt a with
    | false =>
      have ha : hit now qn qt a = false := by unfold hit; rw [hq]; rfl
      rw [getO_skip' hq]
      rcases getO_runs h.2 with ⟨h1, h2⟩ | ⟨p, h1, h2, h3, h4⟩
      · exact .inl ⟨h1, fun p hp => by
          rcases List.mem_cons.1 hp with hp | hp
          · rw [hp]; exact ha
          · exact h2 p hp⟩
      · refine .inr ⟨p, h1, List.mem_cons_of_mem _ h2, h3, fun q hq2 hh => ?_⟩
        rcases List.mem_cons.1 hq2 with hq2 | hq2
        · rw [hq2, ha] at hh; cases hh
        · exact h4 q hq2 hh
    | true =>
      have hp := of_decide_eq_true hq
      have hl : ∀ b ∈ l, hit now qn qt b = false := fun b hb => by
        unfold hit isP
        rw [decide_eq_false (fun e => h.1 b hb ⟨hp.1.trans e.1.symm, hp.2.trans e.2.symm⟩)]
        rfl
      have hg : getO now qn qt (a :: l) = (some a).filter (cntP now) := by unfold getO; rw [List.find?_cons_of_pos hq]
      rw [hg]
      cases hc : cntP now a with
      | false =>
        refine .inl ⟨by rw [Option.filter_some, hc]; rfl, fun p hp2 => ?_⟩
        rcases List.mem_cons.1 hp2 with hp2 | hp2
        · rw [hp2]; unfold hit; rw [hc]; simp
        · exact hl p hp2
      | true =>
        refine .inr ⟨a, by rw [Option.filter_some, hc]; rfl, List.mem_cons_self, by unfold hit; rw [hq, hc]; rfl, fun q hq2 hh => ?_⟩
        rcases List.mem_cons.1 hq2 with hq2 | hq2
        · exact hq2
        · rw [hl q hq2] at hh; cases hh
where
  getO_skip' {now : Nat} {qn : ByteArray} {qt : Int} {p : PE} {l : List PE} (h : isP qn qt p = false) : getO now qn qt (p :: l) = getO now qn qt l := by
    unfold getO
    rw [List.find?_cons_of_neg (by rw [h]; simp)]
theorem mod6 (x : Int) : ∃ i : Nat, (x.tmod 6 + 6).tmod 6 = (i : Int) ∧ i < 6 := by
  have h1 := Int.tmod_lt_of_pos x (show (0 : Int) < 6 by decide)
  have h2 := Int.lt_tmod_of_pos x (show (0 : Int) < 6 by decide)
  have h3 := Int.tmod_lt_of_pos (x.tmod 6 + 6) (show (0 : Int) < 6 by decide)
  have h4 := Int.tmod_nonneg (a := x.tmod 6 + 6) 6 (by omega)
  exact ⟨((x.tmod 6 + 6).tmod 6).toNat, by omega, by omega⟩
/-- the cache is as it was where a block of no cache is written -/
theorem CM.keptT {base C size g : Nat} {w w' : World} {ps : List PE} {cs : Array Value} {T : TypeId} {fr : Nat × Nat} (h : CM base w C size ps) (hg : w.grownBy w' (some g)) (ho : w.heap[g]? = some (.cells cs T fr)) (h1 : T ≠ 58) (h2 : T ≠ 55) (h3 : T ≠ 40) : CM base w' C size ps := by
  obtain ⟨v, es, hc, hm, hp⟩ := h
  have hne : ∀ {b e size n : Nat} {v : Value} {xs : List Value}, w.ownsRow b e size v n xs → T ≠ e → w'.ownsRow b e size v n xs := fun hr hT =>
    hr.kept hg (.inr (fun e => by
      rcases hr.2 with ⟨rfl, _⟩ | ⟨g', cap, cur, rfl, _, hg', _⟩
      · cases e
      · injection e with e
        have : g' = g := e
        subst this
        rw [ho] at hg'
        injection hg' with hg'
        injection hg' with _ hg'
        exact hT hg'))
  have hCg : C ≠ g := by
    rintro rfl
    have := hc.obj
    rw [ho] at this
    injection this with this
    injection this with _ this
    exact h2 this
  exact ⟨v, es, ⟨hc.ge, (hg.block C hc.lt (by intro e; injection e with e; exact hCg e)).trans hc.obj, hne hc.own h1, fun e he => hne (hc.recs e he) h3, hc.fits, hc.len, hc.small⟩, hm, hp⟩
/-- the world within CacheRuns' loop -/
structure RA (w wr : World) (base C s g6 g7 now : Nat) (ps : List PE) : Prop where
  cm : CM base wr C s ps
  row : ∃ v, wr.heap[g6]? = some (.cells #[v] 26 (0, 0)) ∧ wr.ownsRow base 34 5 v ps.length (mC ps)
  clk : wr.heap[g7]? = some (.cells #[.int .i64 now] 3 (0, 0))
  below : Below w.heap.size w wr
  inv : RInv now ps
  b6 : base ≤ g6
  b7 : base ≤ g7
  bw : w.heap.size ≤ base
theorem RA.step {w wr w2 : World} {base C s g6 g7 now : Nat} {ps : List PE} (h : RA w wr base C s g6 g7 now ps) (hb : Below wr.heap.size wr w2) : RA w w2 base C s g6 g7 now ps := by
  obtain ⟨v, h6, hr⟩ := h.row
  exact ⟨h.cm.below hb, ⟨v, (hb.block g6 (heap_lt h6)).trans h6, own_below hr hb⟩, (hb.block g7 (heap_lt h.clk)).trans h.clk, h.below.trans (hb.mono h.below.size), h.inv, h.b6, h.b7, h.bw⟩
/-- the clock goes on -/
theorem RA.tick {w wr : World} {base C s g6 g7 now now' : Nat} {ps : List PE} (h : RA w wr base C s g6 g7 now ps) (hn : now ≤ now') : RA w (wr.setCell ⟨g7, 0, none⟩ (.int .i64 now')) base C s g6 g7 now' ps := by
  obtain ⟨v, h6, hr⟩ := h.row
  have hg : wr.grownBy (wr.setCell ⟨g7, 0, none⟩ (.int .i64 now')) (some g7) := ⟨rfl, rfl, rfl, by simp, fun k _ hk => Below.heap_setCell _ _ _ _ (fun e => hk (by rw [e]))⟩
  have hne : g6 ≠ g7 := by
    rintro rfl
    have := h.clk
    rw [h6] at this
    injection this with this
    injection this with _ this
    exact absurd this (by decide)
  refine ⟨h.cm.keptT hg h.clk (by decide) (by decide) (by decide), ⟨v, (heap_setCell_other _ _ _ _ hne).trans h6, hr.kept hg (.inr (fun e => ?_))⟩, by simpa using heap_setCell_same wr g7 0 _ _ (.int .i64 now') h.clk, h.below.setCell (by have := h.b7; have := h.bw; exact Nat.le_trans h.bw h.b7) _, h.inv.mono hn, h.b6, h.b7, h.bw⟩
  rcases hr.2 with ⟨rfl, _⟩ | ⟨g', cap, cur, rfl, _, hg', _⟩
  · cases e
  · injection e with e
    have : g' = g7 := e
    subst this
    have := h.clk
    rw [hg'] at this
    injection this with this
    injection this with _ this
    exact absurd this (by decide)
end Go.Proofs.Ytiifanenomebeaa
