/-
  A cache's entries without where they lie, and what each call makes of them. Conditions: each states its own.
-/
import Derived.Test.YtiifanenomebeaaCacheGet
namespace Go.Proofs.Ytiifanenomebeaa
open Go.RowKit Go.Lib

theorem Rc.cells_inj {x y : Rc} (h : x.cells = y.cells) : x = y := by
  obtain ⟨a, b, t, r⟩ := x
  obtain ⟨a', b', t', r'⟩ := y
  simp only [Rc.cells, List.cons.injEq, Value.string.injEq, Value.int.injEq, true_and] at h
  obtain ⟨h1, h2, h3, h4⟩ := h
  have h3' : t = t' := by omega
  subst h1 h2 h3' h4
  rfl
theorem recsC_inj : ∀ {l m : List Rc}, (∀ x ∈ l, x.Ok) → (∀ x ∈ m, x.Ok) → recsC l = recsC m → l = m
  | [], [], _, _, _ => rfl
  | [], y :: m, _, hm, h => by
    have := congrArg List.length h
    rw [recsC_cons, List.length_append, Rc.clen (hm y List.mem_cons_self), show (recsC ([] : List Rc)).length = 0 from rfl] at this
    omega
  | x :: l, [], hl, _, h => by
    have := congrArg List.length h
    rw [recsC_cons, List.length_append, Rc.clen (hl x List.mem_cons_self), show (recsC ([] : List Rc)).length = 0 from rfl] at this
    omega
  | x :: l, y :: m, hl, hm, h => by
    rw [recsC_cons, recsC_cons] at h
    have e := List.append_inj h (by rw [Rc.clen (hl x List.mem_cons_self), Rc.clen (hm y List.mem_cons_self)])
    rw [Rc.cells_inj e.1, recsC_inj (fun z hz => hl z (List.mem_cons_of_mem _ hz)) (fun z hz => hm z (List.mem_cons_of_mem _ hz)) e.2]
/-- an entry without where its records lie -/
structure PE where
  nm : ByteArray
  ty : Int
  out : Int
  rs : List Rc
  frm : Nat
  ttl : Nat
def PE.en (p : PE) : En := ⟨p.nm, p.ty, p.out, .slice none 0 0, p.rs.length, recsC p.rs, p.frm, p.ttl⟩
def E0 (e : En) : En := { e with rv := .slice none 0 0 }
structure PE.Ok (p : PE) : Prop where
  len : p.rs.length ≤ 1000
  ok : ∀ r ∈ p.rs, r.Ok
def cntP (now : Nat) (p : PE) : Bool := decide (now < p.frm + p.ttl)
def isP (qn : ByteArray) (qt : Int) (p : PE) : Bool := decide (p.nm = qn ∧ p.ty = qt)
def finP (p : PE) : Nat := p.frm + p.ttl
/-- the first one of those that count shortest -/
def ShM (ps : List PE) (f : Nat) : Prop := f < ps.length ∧ ∀ (j : Nat) (x y : PE), ps[f]? = some x → ps[j]? = some y → finP x ≤ finP y ∧ (j < f → finP x < finP y)
theorem rel_filter {es : List En} {ps : List PE} (now : Nat) (h : es.map E0 = ps.map PE.en) : (es.filter (cnt now)).map E0 = (ps.filter (cntP now)).map PE.en := by
  have h1 : (es.map E0).filter (cnt now) = (es.filter (cnt now)).map E0 := by rw [List.filter_map]; rfl
  have h2 : (ps.map PE.en).filter (cnt now) = (ps.filter (cntP now)).map PE.en := by rw [List.filter_map]; rfl
  rw [← h1, h, h2]
theorem rel_eraseP {es : List En} {ps : List PE} (qn : ByteArray) (qt : Int) (h : es.map E0 = ps.map PE.en) : (es.eraseP (isQ qn qt)).map E0 = (ps.eraseP (isP qn qt)).map PE.en := by
  have h1 : (es.map E0).eraseP (isQ qn qt) = (es.eraseP (isQ qn qt)).map E0 := by rw [List.eraseP_map]; rfl
  have h2 : (ps.map PE.en).eraseP (isQ qn qt) = (ps.eraseP (isP qn qt)).map PE.en := by rw [List.eraseP_map]; rfl
  rw [← h1, h, h2]
theorem map_eraseIdx' {α β : Type} (f : α → β) : ∀ (l : List α) (k : Nat), (l.map f).eraseIdx k = (l.eraseIdx k).map f
  | [], _ => rfl
  | _ :: _, 0 => rfl
  | a :: l, k + 1 => by simp [map_eraseIdx' f l k]
theorem rel_eraseIdx {es : List En} {ps : List PE} (k : Nat) (h : es.map E0 = ps.map PE.en) : (es.eraseIdx k).map E0 = (ps.eraseIdx k).map PE.en := by
  rw [← map_eraseIdx', h, map_eraseIdx']
theorem rel_len {es : List En} {ps : List PE} (h : es.map E0 = ps.map PE.en) : es.length = ps.length := by
  simpa using congrArg List.length h
theorem rel_at {es : List En} {ps : List PE} {k : Nat} {p : PE} (h : es.map E0 = ps.map PE.en) (hp : ps[k]? = some p) : ∃ e, es[k]? = some e ∧ E0 e = p.en := by
  have h1 : (es.map E0)[k]? = some p.en := by rw [h, List.getElem?_map, hp]; rfl
  rw [List.getElem?_map] at h1
  cases he : es[k]? with
  | none => rw [he] at h1; cases h1
  | some e => rw [he] at h1; exact ⟨e, rfl, by injection h1⟩
theorem rel_mem {es : List En} {ps : List PE} {e : En} (h : es.map E0 = ps.map PE.en) (he : e ∈ es) : ∃ p ∈ ps, E0 e = p.en := by
  have : E0 e ∈ ps.map PE.en := by rw [← h]; exact List.mem_map_of_mem he
  obtain ⟨p, hp, hpe⟩ := List.mem_map.1 this
  exact ⟨p, hp, hpe.symm⟩
theorem rel_sh {es : List En} {ps : List PE} {f : Nat} (h : es.map E0 = ps.map PE.en) (hs : ShP es f) : ShM ps f := by
  refine ⟨by rw [← rel_len h]; exact hs.1, fun j x y hx hy => ?_⟩
  obtain ⟨x', hx', e1⟩ := rel_at h hx
  obtain ⟨y', hy', e2⟩ := rel_at h hy
  have := hs.2 j x' y' hx' hy'
  have f1 : fin x' = finP x := congrArg fin e1
  have f2 : fin y' = finP y := congrArg fin e2
  rwa [f1, f2] at this
theorem rel_find {es : List En} {ps : List PE} (qn : ByteArray) (qt : Int) (h : es.map E0 = ps.map PE.en) : (es.find? (isQ qn qt)).map E0 = (ps.find? (isP qn qt)).map PE.en := by
  have h1 : (es.map E0).find? (isQ qn qt) = (es.find? (isQ qn qt)).map E0 := by rw [List.find?_map]; rfl
  have h2 : (ps.map PE.en).find? (isQ qn qt) = (ps.find? (isP qn qt)).map PE.en := by rw [List.find?_map]; rfl
  rw [← h1, h, h2]
/-- a cache of the call's own: what it holds -/
def CM (base : Nat) (w : World) (C size : Nat) (ps : List PE) : Prop := ∃ v es, CAt base w C size v es ∧ es.map E0 = ps.map PE.en ∧ ∀ p ∈ ps, p.Ok
theorem CM.below {base C size : Nat} {w w' : World} {ps : List PE} (h : CM base w C size ps) (hb : Below w.heap.size w w') : CM base w' C size ps := by
  obtain ⟨v, es, hc, hm, hp⟩ := h
  exact ⟨v, es, hc.below hb, hm, hp⟩
theorem CM.len {base C size : Nat} {w : World} {ps : List PE} (h : CM base w C size ps) : ps.length ≤ size := by
  obtain ⟨v, es, hc, hm, hp⟩ := h
  rw [← rel_len hm]; exact hc.len
theorem CM.lt {base C size : Nat} {w : World} {ps : List PE} (h : CM base w C size ps) : C < w.heap.size := by
  obtain ⟨v, es, hc, hm, hp⟩ := h
  exact hc.lt
theorem CM.hb {base C size : Nat} {w : World} {ps : List PE} (h : CM base w C size ps) : base ≤ w.heap.size := by
  obtain ⟨v, es, hc, hm, hp⟩ := h
  exact hc.hb
theorem CM.ok {base C size : Nat} {w : World} {ps : List PE} (h : CM base w C size ps) : ∀ p ∈ ps, p.Ok := by
  obtain ⟨v, es, hc, hm, hp⟩ := h
  exact hp
/-- a block below the base is written: the cache is as it was -/
theorem CM.kept {base C size g : Nat} {w w' : World} {ps : List PE} (h : CM base w C size ps) (hg : w.grownBy w' (some g)) (hlt : g < base) : CM base w' C size ps := by
  obtain ⟨v, es, hc, hm, hp⟩ := h
  have hne : ∀ {b e size n : Nat} {v : Value} {xs : List Value}, w.ownsRow b e size v n xs → base ≤ b → w'.ownsRow b e size v n xs := fun ho hb =>
    ho.kept hg (.inr (fun e => by have := (ho.lt g e).1; omega))
  refine ⟨v, es, ⟨hc.ge, (hg.block C hc.lt (by intro e; injection e with e; have := hc.ge; omega)).trans hc.obj, hne hc.own (Nat.le_refl _), fun e he => hne (hc.recs e he) (Nat.le_refl _), hc.fits, hc.len, hc.small⟩, hm, hp⟩
def NewM (size : Nat) (w : World) (e : Ending) (w' : World) : Prop := ∃ C, w.heap.size ≤ C ∧ e = .returned (.pointer (some ⟨C, 0, none⟩)) ∧ CM w.heap.size w' C size [] ∧ Below w.heap.size w w'
theorem new_m (n : Int) (w : World) : Calls Try.prog 10 #[.int .i64 n] w fun e w' => NewM (min (max n 0) 16).toNat w e w' :=
  (new_e n w).mono (by
    rintro e w' ⟨C, hC, rfl, hc, hb⟩
    exact ⟨C, Nat.le_of_eq hC.symm, rfl, ⟨_, [], hc, rfl, fun p hp => by cases hp⟩, hb⟩)
theorem len_m {base C size : Nat} {w : World} {ps : List PE} (h : CM base w C size ps) : Calls Try.prog 15 #[.pointer (some ⟨C, 0, none⟩)] w fun e w' => e = .returned (.int .i64 ps.length) ∧ w = w' := by
  obtain ⟨v, es, hc, hm, hp⟩ := h
  rw [← rel_len hm]
  exact len_e hc
def ClrM (base C size : Nat) (ps : List PE) (w : World) (e : Ending) (w' : World) : Prop := e = .returned (.tuple #[]) ∧ CM base w' C size ps ∧ Step base w w'
theorem clear_m {base C size : Nat} {w : World} {ps : List PE} (h : CM base w C size ps) : Calls Try.prog 13 #[.pointer (some ⟨C, 0, none⟩)] w fun e w' => ClrM base C size [] w e w' := by
  obtain ⟨v, es, hc, hm, hp⟩ := h
  exact (clear_e hc).mono (by
    rintro e w' ⟨v', rfl, hc', hs⟩
    exact ⟨rfl, ⟨v', [], hc', rfl, fun p hp => by cases hp⟩, hs⟩)
theorem expire_m {base C size : Nat} {w : World} {ps : List PE} (h : CM base w C size ps) (now : Nat) (hn : now ≤ big) : Calls Try.prog 12 #[.pointer (some ⟨C, 0, none⟩), .int .i64 now] w fun e w' => ClrM base C size (ps.filter (cntP now)) w e w' := by
  obtain ⟨v, es, hc, hm, hp⟩ := h
  exact (expire_e hc now hn).mono (by
    rintro e w' ⟨v', rfl, hc', hs⟩
    exact ⟨rfl, ⟨v', _, hc', rel_filter now hm, fun p hp' => hp p (List.mem_filter.1 hp').1⟩, hs⟩)
/-- what is there behind a Put -/
def PutR (size now : Nat) (ps : List PE) (p : PE) (ps' : List PE) : Prop :=
  ∃ l, l = (ps.filter (cntP now)).eraseP (isP p.nm p.ty) ∧ ((l.length ≠ size ∧ ps' = l ++ [p]) ∨ (l.length = size ∧ ∃ f, ShM l f ∧ ps' = l.eraseIdx f ++ [p]))
def PutM (base C size now : Nat) (ps : List PE) (p : PE) (w : World) (e : Ending) (w' : World) : Prop := ∃ ps', e = .returned (.tuple #[]) ∧ CM base w' C size ps' ∧ PutR size now ps p ps' ∧ Step base w w'
theorem put_m {base C size : Nat} {w : World} {ps : List PE} (h : CM base w C size ps) (now : Nat) (hn : now ≤ big) (qn : ByteArray) (qt out : Int) {l : Value} {rs : List Rc} (hl : RecsIn w l rs.length (recsC rs)) (hr : ∀ r ∈ rs, r.Ok) (hn1 : rs.length ≤ 1000) (ttl : Int) (T : Nat) (hT : min ttl 1048576 = (T : Int)) (h1 : 1 ≤ ttl) (h0 : 0 < size) :
    Calls Try.prog 14 #[.pointer (some ⟨C, 0, none⟩), .int .i64 now, .agg #[.string qn, .int .i64 qt], .int .i64 out, l, .int .i64 ttl] w fun e w' => PutM base C size now ps ⟨qn, qt, out, rs, now, T⟩ w e w' := by
  obtain ⟨v, es, hc, hm, hp⟩ := h
  refine (put_e hc now hn qn qt out hl hn1 ttl T hT h1 h0).mono ?_
  rintro e w' ⟨v', rv, es', rfl, hc', ⟨es3, rfl, hr3⟩, hs⟩
  have hm2 := rel_eraseP qn qt (rel_filter now hm)
  have hl2 := rel_len hm2
  have hpl : ∀ p ∈ (ps.filter (cntP now)).eraseP (isP qn qt), p.Ok := fun p hp' => hp p (List.mem_filter.1 (List.mem_of_mem_eraseP hp')).1
  have hnew : (⟨qn, qt, out, rs, now, T⟩ : PE).Ok := ⟨hn1, hr⟩
  rcases hr3 with ⟨h3, rfl⟩ | ⟨h3, f, hf, rfl⟩
  · refine ⟨_, rfl, ⟨v', _, hc', ?_, ?_⟩, ⟨_, rfl, .inl ⟨by rw [← hl2]; exact h3, rfl⟩⟩, hs⟩
    · rw [List.map_append, List.map_append, hm2]; rfl
    · intro p hp'
      rcases List.mem_append.1 hp' with hp' | hp'
      · exact hpl p hp'
      · rw [List.mem_singleton.1 hp']; exact hnew
  · refine ⟨_, rfl, ⟨v', _, hc', ?_, ?_⟩, ⟨_, rfl, .inr ⟨by rw [← hl2]; exact h3, f, rel_sh hm2 hf, rfl⟩⟩, hs⟩
    · rw [List.map_append, List.map_append, rel_eraseIdx f hm2]; rfl
    · intro p hp'
      rcases List.mem_append.1 hp' with hp' | hp'
      · exact hpl p (List.mem_of_mem_eraseIdx hp')
      · rw [List.mem_singleton.1 hp']; exact hnew
theorem skip_m {base C size : Nat} {w : World} {ps : List PE} (h : CM base w C size ps) (now : Int) (qn : ByteArray) (qt out : Int) (l : Value) (ttl : Int) (hs : size = 0 ∨ ttl < 1) :
    Calls Try.prog 14 #[.pointer (some ⟨C, 0, none⟩), .int .i64 now, .agg #[.string qn, .int .i64 qt], .int .i64 out, l, .int .i64 ttl] w fun e w' => e = .returned (.tuple #[]) ∧ Below w.heap.size w w' := by
  obtain ⟨v, es, hc, hm, hp⟩ := h
  exact put_skip hc now qn qt out l ttl hs
/-- the entry that is told at a time -/
def getO (now : Nat) (qn : ByteArray) (qt : Int) (ps : List PE) : Option PE := (ps.find? (isP qn qt)).filter (cntP now)
def GetM (o : Option PE) (now : Nat) (w : World) (e : Ending) (w' : World) : Prop :=
  (o = none ∧ e = .returned (.tuple #[.int .i64 0, .slice none 0 0]) ∧ Below w.heap.size w w') ∨
  ∃ (p : PE) (lv : Value), o = some p ∧ e = .returned (.tuple #[.int .i64 p.out, lv]) ∧ w'.ownsRow w.heap.size 40 21 lv p.rs.length (recsC (aged (now - p.frm) p.rs)) ∧ (∀ r ∈ aged (now - p.frm) p.rs, r.Ok) ∧ Below w.heap.size w w'
theorem get_m {base C size : Nat} {w : World} {ps : List PE} (h : CM base w C size ps) (now : Nat) (hn : now ≤ big) (qn : ByteArray) (qt : Int) (hfr : ∀ p ∈ ps, p.frm ≤ now) :
    Calls Try.prog 16 #[.pointer (some ⟨C, 0, none⟩), .int .i64 now, .agg #[.string qn, .int .i64 qt]] w fun e w' => GetM (getO now qn qt ps) now w e w' := by
  obtain ⟨v, es, hc, hm, hp⟩ := h
  refine (get_e hc now hn qn qt (fun x hx => ?_) (fun x hx => ?_)).mono ?_
  · obtain ⟨p, hpm, he⟩ := rel_mem hm hx
    have : x.frm = p.frm := congrArg En.frm he
    rw [this]; exact hfr p hpm
  · obtain ⟨p, hpm, he⟩ := rel_mem hm hx
    exact ⟨p.rs, congrArg En.recs he, congrArg En.rn he, (hp p hpm).len, (hp p hpm).ok⟩
  · have hf := rel_find qn qt hm
    rintro e w' (⟨rfl, hb, hno⟩ | ⟨x, rs, lv, hx, hcn, hr, hok, rfl, ho, hb⟩)
    · refine .inl ⟨?_, rfl, hb⟩
      unfold getO
      cases hq : ps.find? (isP qn qt) with
      | none => rfl
      | some p =>
        rw [hq] at hf
        cases hq2 : es.find? (isQ qn qt) with
        | none => rw [hq2] at hf; cases hf
        | some x =>
          rw [hq2] at hf
          injection hf with hf
          have h1 := hno x hq2
          have h2 : cnt now x = cntP now p := congrArg (cnt now) hf
          rw [h1] at h2
          rw [Option.filter_some, if_neg (by rw [← h2]; simp)]
    · rw [hx] at hf
      cases hq : ps.find? (isP qn qt) with
      | none => rw [hq] at hf; cases hf
      | some p =>
        rw [hq] at hf
        injection hf with hf
        have h2 : cnt now x = cntP now p := congrArg (cnt now) hf
        have h3 : x.out = p.out := congrArg En.out hf
        have h4 : x.recs = recsC p.rs := congrArg En.recs hf
        have h5 : x.frm = p.frm := congrArg En.frm hf
        have hpo := hp p (List.mem_of_find?_eq_some hq)
        have hrs : rs = p.rs := recsC_inj hok hpo.ok (hr.symm.trans h4)
        refine .inr ⟨p, lv, ?_, by rw [h3], ?_, ?_, hb⟩
        · unfold getO
          rw [hq, Option.filter_some, if_pos (by rw [← h2, hcn])]
        · rw [← h5, ← hrs]; exact ho
        · intro r hr'
          obtain ⟨z, hz, rfl⟩ := List.mem_map.1 hr'
          exact age_ok (hpo.ok z hz)
end Go.Proofs.Ytiifanenomebeaa
