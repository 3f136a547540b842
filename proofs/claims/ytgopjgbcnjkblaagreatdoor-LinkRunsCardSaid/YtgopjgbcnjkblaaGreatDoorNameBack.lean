/-
  Plain facts on whole names, no program: a name that goes out is read, and goes out again, as it was. No condition.
-/
import Derived.Test.YtgopjgbcnjkblaaGreatDoorNameMath
namespace Go.Proofs.YtgopjgbcnjkblaaGreatDoor

theorem stN_lt {n : Nat} (h : stN n) : n < 128 := by unfold stN at h; omega
theorem stN_point {c : UInt8} (h : stN c.toNat) : c ≠ 46 := fun e => by
  subst e
  have : (46 : UInt8).toNat = 46 := rfl
  unfold stN at h; omega
theorem RightL.asc {l : List UInt8} (h : RightL l) : asc l := fun c hc => stN_lt (h.all c hc)
theorem RightL.no_point {l : List UInt8} (h : RightL l) : (46 : UInt8) ∉ l := fun hc => stN_point (h.all _ hc) rfl
theorem XN_asc : ∀ c ∈ XN, stN c.toNat ∧ ¬ (65 ≤ c.toNat ∧ c.toNat ≤ 90) := by
  intro c hc
  unfold XN at hc
  simp only [List.mem_cons, List.not_mem_nil, or_false] at hc
  unfold stN
  rcases hc with rfl | rfl | rfl | rfl
  · have : (120 : UInt8).toNat = 120 := rfl
    omega
  · have : (110 : UInt8).toNat = 110 := rfl
    omega
  · have : (45 : UInt8).toNat = 45 := rfl
    omega
  · have : (45 : UInt8).toNat = 45 := rfl
    omega
/-- xn-- and a Punycode of a label with runes beyond ASCII -/
theorem xn_right {l : List Nat} {P : List UInt8} (hl : NLab l) (hp : PunyW P l) (hs : P.length ≤ 59) : RightL (XN ++ P) ∧ low (XN ++ P) = XN ++ P := by
  obtain ⟨h1, h2, h3, _⟩ := hl.puny hp
  have hall : ∀ c ∈ XN ++ P, stN c.toNat ∧ ¬ (65 ≤ c.toNat ∧ c.toNat ≤ 90) := fun c hc => by
    rcases List.mem_append.1 hc with hc | hc
    · exact XN_asc c hc
    · exact h1 c hc
  refine ⟨⟨?_, ?_, fun c hc => (hall c hc).1, ?_, ?_⟩, low_same fun c hc => (hall c hc).2⟩
  · rw [List.length_append]; show 1 ≤ 4 + _; omega
  · rw [List.length_append]; show 4 + _ ≤ 63; omega
  · show some (120 : UInt8) ≠ some 45; decide
  · rw [List.getLast?_append]
    cases hq : P.getLast? with
    | none => exact absurd (List.getLast?_eq_none_iff.1 hq) h3
    | some q => rw [hq] at h2; exact h2
/-- what goes out is a label that may be, small -/
theorem Lab.right {x y : List UInt8} (h : Lab x 0 y) : RightL y ∧ low y = y := by
  cases h with
  | plain ha hr hx => exact ⟨hr, low_low x⟩
  | puny l P ha hr hx hl hp => exact ⟨hr, low_low x⟩
  | wide l P ha hx hl hp hs => exact xn_right hl hp hs
/-- .. and goes out as it is -/
theorem Lab.again {x y : List UInt8} (h : Lab x 0 y) : Lab y 0 y := by
  have hr := h.right
  cases h with
  | plain ha hr' hx =>
    have := Lab.plain (x := low x) ((asc_low x).2 ha) (by rw [low_low]; exact hr') (by rw [low_low]; exact hx)
    rwa [low_low] at this
  | puny l P ha hr' hx hl hp =>
    have := Lab.puny (x := low x) l P ((asc_low x).2 ha) (by rw [low_low]; exact hr') (by rw [low_low]; exact hx) hl hp
    rwa [low_low] at this
  | wide l P ha hx hl hp hs =>
    have := Lab.puny (x := XN ++ P) l P hr.1.asc (by rw [hr.2]; exact hr.1) hr.2 hl hp
    rwa [hr.2] at this
/-- how a label that goes out is read -/
inductive Rdl (y : List UInt8) : List UInt8 → Prop
  | plain (h : ¬ XN <+: y) : Rdl y y
  | puny (l : List Nat) (P : List UInt8) (h : y = XN ++ P) (hl : NLab l) (hp : PunyW P l) : Rdl y (utf l)
theorem Rdl.det {y z z' : List UInt8} (h : Rdl y z) (h' : Rdl y z') : z = z' := by
  cases h with
  | plain h =>
    cases h' with
    | plain => rfl
    | puny l P h' => exact absurd (h' ▸ List.prefix_append _ _) h
  | puny l P h hl hp =>
    cases h' with
    | plain h' => exact absurd (h ▸ List.prefix_append _ _) h'
    | puny l' P' h' hl' hp' =>
      have : P = P' := List.append_cancel_left (h.symm.trans h')
      subst this
      rw [hp.puny.det hp'.puny]
/-- one that is read goes out as it was -/
theorem Lab.read {x y : List UInt8} (h : Lab x 0 y) : ∃ z, Rdl y z ∧ Lab z 0 y ∧ (46 : UInt8) ∉ z ∧ z ≠ [] ∧ z.length ≤ 2 * y.length ∧ (z = y ↔ ¬ XN <+: y) := by
  have hr := h.right
  have hpunyCase : ∀ (l : List Nat) (P : List UInt8), y = XN ++ P → NLab l → PunyW P l → P.length ≤ 59 → ∃ z, Rdl y z ∧ Lab z 0 y ∧ (46 : UInt8) ∉ z ∧ z ≠ [] ∧ z.length ≤ 2 * y.length ∧ (z = y ↔ ¬ XN <+: y) := by
    intro l P hy hl hp hs
    have hlen := (hl.puny hp).2.2.2
    refine ⟨utf l, .puny l P hy hl hp, ?_, hl.no_point, utf_pos ?_, ?_, ?_⟩
    · rw [hy]; exact .wide l P hl.not_asc (low_same hl.no_caps) hl hp hs
    · rintro rfl
      obtain ⟨r, hr, _⟩ := hl.wide
      cases hr
    · have := utf_len hl.le
      rw [hy, List.length_append]
      omega
    · constructor
      · intro e
        exact absurd (e ▸ hr.1.asc) hl.not_asc
      · intro e
        exact absurd (hy ▸ List.prefix_append _ _) e
  cases h with
  | plain ha hr' hx =>
    refine ⟨low x, .plain hx, ?_, hr'.no_point, fun e => ?_, by omega, by simp [hx]⟩
    · have := Lab.plain (x := low x) ((asc_low x).2 ha) (by rw [low_low]; exact hr') (by rw [low_low]; exact hx)
      rwa [low_low] at this
    · have := hr'.pos
      rw [e] at this
      simp at this
  | puny l P ha hr' hx hl hp =>
    refine hpunyCase l P hx hl hp ?_
    have := hr'.len
    rw [hx, List.length_append] at this
    have : (XN).length = 4 := rfl
    omega
  | wide l P ha hx hl hp hs => exact hpunyCase l P rfl hl hp hs

/-- labels one behind the other: the first error, or all as they go out -/
inductive Labs : List (List UInt8) → Nat → List (List UInt8) → Prop
  | nil : Labs [] 0 []
  | err {x : List UInt8} {xs : List (List UInt8)} {e : Nat} {y : List UInt8} (h : Lab x e y) (he : e ≠ 0) : Labs (x :: xs) e []
  | next {x : List UInt8} {xs : List (List UInt8)} {y : List UInt8} {ys : List (List UInt8)} (h : Lab x 0 y) (ht : Labs xs 0 ys) : Labs (x :: xs) 0 (y :: ys)
  | later {x : List UInt8} {xs : List (List UInt8)} {y : List UInt8} {ys : List (List UInt8)} {e : Nat} (h : Lab x 0 y) (ht : Labs xs e ys) (he : e ≠ 0) : Labs (x :: xs) e []
theorem Labs.det {xs : List (List UInt8)} {e e' : Nat} {ys ys' : List (List UInt8)} (h : Labs xs e ys) (h' : Labs xs e' ys') : e = e' ∧ ys = ys' := by
  induction h generalizing e' ys' with
  | nil => cases h'; exact ⟨rfl, rfl⟩
  | err h he =>
    cases h' with
    | err h' he' => exact ⟨(h.det h').1, rfl⟩
    | next h' ht' => exact absurd (h.det h').1 he
    | later h' ht' he' => exact absurd (h.det h').1 he
  | next h ht ih =>
    cases h' with
    | err h' he' => exact absurd (h.det h').1.symm he'
    | next h' ht' =>
      have := (h.det h').2
      subst this
      rw [(ih ht').2]
      exact ⟨rfl, rfl⟩
    | later h' ht' he' => exact absurd (ih ht').1.symm he'
  | later h ht he ih =>
    cases h' with
    | err h' he' => exact absurd (h.det h').1.symm he'
    | next h' ht' => exact absurd (ih ht').1 he
    | later h' ht' he' => exact ⟨(ih ht').1, rfl⟩
theorem Labs.length {xs ys : List (List UInt8)} (h : Labs xs 0 ys) : xs.length = ys.length := by
  generalize he : 0 = e at h
  induction h with
  | nil => rfl
  | err h he' => omega
  | next h ht ih => simp [ih he]
  | later h ht he' => omega
theorem Labs.right {xs ys : List (List UInt8)} (h : Labs xs 0 ys) : ∀ y ∈ ys, RightL y ∧ low y = y := by
  generalize he : 0 = e at h
  induction h with
  | nil => intro y hy; cases hy
  | err h he' => omega
  | next h ht ih =>
    intro y hy
    rcases List.mem_cons.1 hy with rfl | hy
    · exact h.right
    · exact ih he y hy
  | later h ht he' => omega
theorem Labs.again {xs ys : List (List UInt8)} (h : Labs xs 0 ys) : Labs ys 0 ys := by
  generalize he : 0 = e at h
  induction h with
  | nil => exact .nil
  | err h he' => omega
  | next h ht ih => exact .next h.again (ih he)
  | later h ht he' => omega
/-- labels, read one by one -/
inductive Rdls : List (List UInt8) → List (List UInt8) → Prop
  | nil : Rdls [] []
  | next {y : List UInt8} {ys : List (List UInt8)} {z : List UInt8} {zs : List (List UInt8)} (h : Rdl y z) (ht : Rdls ys zs) : Rdls (y :: ys) (z :: zs)
theorem Rdls.det {ys zs zs' : List (List UInt8)} (h : Rdls ys zs) (h' : Rdls ys zs') : zs = zs' := by
  induction h generalizing zs' with
  | nil => cases h'; rfl
  | next h ht ih =>
    cases h' with
    | next h' ht' => rw [h.det h', ih ht']
theorem Rdls.length {ys zs : List (List UInt8)} (h : Rdls ys zs) : ys.length = zs.length := by
  induction h with
  | nil => rfl
  | next h ht ih => simp [ih]
theorem Labs.read {xs ys : List (List UInt8)} (h : Labs xs 0 ys) : ∃ zs, Rdls ys zs ∧ Labs zs 0 ys ∧ (∀ z ∈ zs, (46 : UInt8) ∉ z ∧ z ≠ []) ∧ (jn zs).length ≤ 2 * (jn ys).length := by
  generalize he : 0 = e at h
  induction h with
  | nil => exact ⟨[], .nil, .nil, by simp, by simp [jn]⟩
  | err h he' => omega
  | next h ht ih =>
    rename_i x xs y ys
    obtain ⟨z, r1, r2, r3, r4, r5, _⟩ := h.read
    obtain ⟨zs, q1, q2, q3, q4⟩ := ih he
    refine ⟨z :: zs, .next r1 q1, .next r2 q2, ?_, ?_⟩
    · intro u hu
      rcases List.mem_cons.1 hu with rfl | hu
      · exact ⟨r3, r4⟩
      · exact q3 u hu
    · have hl := q1.length
      cases ys with
      | nil =>
        obtain rfl : zs = [] := List.length_eq_zero_iff.1 hl.symm
        exact r5
      | cons y' ys' =>
        cases zs with
        | nil => simp at hl
        | cons z' zs' =>
          rw [jn_cons z (by simp), jn_cons y (by simp), List.length_append, List.length_append, List.length_cons, List.length_cons]
          omega
  | later h ht he' => omega

/-- a point at the end left out -/
def cutP (s : List UInt8) : List UInt8 := if s.getLast? = some 46 then s.dropLast else s
/-- a name as it goes out -/
inductive TA (s : List UInt8) : Nat → List UInt8 → Prop
  | long (h : 1012 < s.length) : TA s 2 []
  | err (h : s.length ≤ 1012) (e : Nat) (he : e ≠ 0) (hl : Labs (sp (cutP s)) e []) : TA s e []
  | big (h : s.length ≤ 1012) (ys : List (List UInt8)) (hl : Labs (sp (cutP s)) 0 ys) (hb : 253 < (jn ys).length) : TA s 2 []
  | ok (h : s.length ≤ 1012) (ys : List (List UInt8)) (hl : Labs (sp (cutP s)) 0 ys) (hb : (jn ys).length ≤ 253) : TA s 0 (jn ys)
theorem TA.det {s t t' : List UInt8} {e e' : Nat} (h : TA s e t) (h' : TA s e' t') : e = e' ∧ t = t' := by
  cases h with
  | long h =>
    cases h' with
    | long => exact ⟨rfl, rfl⟩
    | err h' => omega
    | big h' => omega
    | ok h' => omega
  | err h e he hl =>
    cases h' with
    | long => omega
    | err _ e' he' hl' => exact ⟨(hl.det hl').1, rfl⟩
    | big _ ys hl' => exact absurd (hl.det hl').1 he
    | ok _ ys hl' => exact absurd (hl.det hl').1 he
  | big h ys hl hb =>
    cases h' with
    | long => exact ⟨rfl, rfl⟩
    | err _ e' he' hl' => exact absurd (hl.det hl').1.symm he'
    | big => exact ⟨rfl, rfl⟩
    | ok _ ys' hl' hb' => have := (hl.det hl').2; subst this; omega
  | ok h ys hl hb =>
    cases h' with
    | long => omega
    | err _ e' he' hl' => exact absurd (hl.det hl').1.symm he'
    | big _ ys' hl' hb' => have := (hl.det hl').2; subst this; omega
    | ok _ ys' hl' hb' => rw [(hl.det hl').2]; exact ⟨rfl, rfl⟩
/-- a name that goes out, read -/
inductive TU (s : List UInt8) : Nat → List UInt8 → Prop
  | no (h : ¬ TA s 0 s) : TU s 1 []
  | ok (zs : List (List UInt8)) (h : TA s 0 s) (hz : Rdls (sp s) zs) : TU s 0 (jn zs)
theorem TU.det {s t t' : List UInt8} {e e' : Nat} (h : TU s e t) (h' : TU s e' t') : e = e' ∧ t = t' := by
  cases h with
  | no h =>
    cases h' with
    | no => exact ⟨rfl, rfl⟩
    | ok zs h' => exact absurd h' h
  | ok zs h hz =>
    cases h' with
    | no h' => exact absurd h h'
    | ok zs' h' hz' => rw [hz.det hz']; exact ⟨rfl, rfl⟩

theorem sp_join : ∀ (xs : List (List UInt8)), xs ≠ [] → (∀ x ∈ xs, (46 : UInt8) ∉ x) → sp (jn xs) = xs
  | [], h, _ => absurd rfl h
  | [x], _, h => by rw [show jn [x] = x from rfl, sp_plain (h x (by simp))]
  | x :: y :: t, _, h => by
    rw [jn_cons x (by simp), sp_append, sp_plain (h x (by simp)), sp_join (y :: t) (by simp) (fun z hz => h z (List.mem_cons_of_mem _ hz))]; rfl
theorem jn_last : ∀ (xs : List (List UInt8)), xs ≠ [] → (∀ x ∈ xs, (46 : UInt8) ∉ x ∧ x ≠ []) → (jn xs).getLast? ≠ some 46
  | [], h, _ => absurd rfl h
  | [x], _, h => fun e => (h x (by simp)).1 (List.mem_of_getLast? e)
  | x :: y :: t, _, h => by
    have ih := jn_last (y :: t) (by simp) (fun z hz => h z (List.mem_cons_of_mem _ hz))
    rw [jn_cons x (by simp), List.getLast?_append]
    have hne : jn (y :: t) ≠ [] := by
      have hy := (h y (by simp)).2
      cases t with
      | nil => exact hy
      | cons z t => rw [jn_cons y (by simp)]; simp
    rw [List.getLast?_cons_of_ne_nil hne]
    cases hq : (jn (y :: t)).getLast? with
    | none => exact absurd (List.getLast?_eq_none_iff.1 hq) hne
    | some q => rw [hq] at ih; exact ih
theorem cutP_jn {xs : List (List UInt8)} (h0 : xs ≠ []) (h : ∀ x ∈ xs, (46 : UInt8) ∉ x ∧ x ≠ []) : cutP (jn xs) = jn xs := by
  unfold cutP
  rw [if_neg (jn_last xs h0 h)]
theorem RightL.ne {l : List UInt8} (h : RightL l) : l ≠ [] := fun e => by
  have := h.pos
  rw [e] at this
  simp at this
theorem Labs.ne {s : List UInt8} {ys : List (List UInt8)} (h : Labs (sp s) 0 ys) : ys ≠ [] := fun e => by
  have := h.length
  rw [e] at this
  exact sp_ne s (List.length_eq_zero_iff.1 this)
/-- what goes out goes out as it is, is read, and goes out again as it was -/
theorem TA.back {s t : List UInt8} (h : TA s 0 t) : TA t 0 t ∧ ∃ u, TU t 0 u ∧ TA u 0 t ∧ u.length ≤ 506 := by
  cases h with
  | err _ _ he => exact absurd rfl he
  | ok hs ys hl hb =>
    have hne := hl.ne
    have hr := hl.right
    have hy : ∀ y ∈ ys, (46 : UInt8) ∉ y ∧ y ≠ [] := fun y hy => ⟨(hr y hy).1.no_point, (hr y hy).1.ne⟩
    have hsp : sp (jn ys) = ys := sp_join ys hne fun y h => (hy y h).1
    have h1 : TA (jn ys) 0 (jn ys) := .ok (by omega) ys (by rw [cutP_jn hne hy, hsp]; exact hl.again) hb
    obtain ⟨zs, r1, r2, r3, r4⟩ := hl.read
    have hzne : zs ≠ [] := fun e => by
      have := r1.length
      rw [e] at this
      exact hne (List.length_eq_zero_iff.1 this)
    refine ⟨h1, jn zs, .ok zs h1 (by rw [hsp]; exact r1), ?_, by omega⟩
    exact .ok (by omega) ys (by rw [cutP_jn hzne r3, sp_join zs hzne fun z hz => (r3 z hz).1]; exact r2) hb
/-- what goes out has labels that may be, small, and is not too long -/
theorem TA.right {s t : List UInt8} (h : TA s 0 t) : (∀ y ∈ sp t, RightL y) ∧ t.length ≤ 253 ∧ low t = t := by
  cases h with
  | err _ _ he => exact absurd rfl he
  | ok hs ys hl hb =>
    have hne := hl.ne
    have hr := hl.right
    have hsp : sp (jn ys) = ys := sp_join ys hne fun y h => (hr y h).1.no_point
    refine ⟨by rw [hsp]; exact fun y hy => (hr y hy).1, hb, ?_⟩
    clear hsp hb hl hs hne
    induction ys with
    | nil => rfl
    | cons y ys ih =>
      have ih := ih fun y' hy' => hr y' (List.mem_cons_of_mem _ hy')
      cases ys with
      | nil => exact (hr y (by simp)).2
      | cons y' ys' =>
        rw [jn_cons y (by simp), low_append, low_cons, (hr y (by simp)).2, ih]; rfl
theorem Lab.num {x y : List UInt8} {e : Nat} (h : Lab x e y) : e ≤ 3 ∧ (e ≠ 0 → y = []) := by
  cases h <;> simp
theorem Labs.num {xs ys : List (List UInt8)} {e : Nat} (h : Labs xs e ys) : e ≤ 3 ∧ (e ≠ 0 → ys = []) := by
  induction h with
  | nil => simp
  | err h he => exact ⟨h.num.1, fun _ => rfl⟩
  | next h ht ih => simp
  | later h ht he ih => exact ⟨ih.1, fun _ => rfl⟩
theorem TA.num {s t : List UInt8} {e : Nat} (h : TA s e t) : e ≤ 3 ∧ (e ≠ 0 → t = []) := by
  cases h with
  | long => simp
  | err _ _ he hl => exact ⟨hl.num.1, fun _ => rfl⟩
  | big => simp
  | ok => simp
end Go.Proofs.YtgopjgbcnjkblaaGreatDoor
