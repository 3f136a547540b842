/-
  Plain facts on whole names that the statements of layer 3 ask for, no program: capitals, a point at the end, parts, what is read, names of ASCII, one rune, long names. No condition.
-/
import Derived.Test.YtgopjgbcnjkblaaGreatDoorNameBack
namespace Go.Proofs.YtgopjgbcnjkblaaGreatDoor

theorem stN_low (b : UInt8) : stN (lowc b).toNat ↔ stN b.toNat := by
  have : ∀ k : Fin 256, (decide ((65 ≤ (lowc (UInt8.ofNat k.val)).toNat ∧ (lowc (UInt8.ofNat k.val)).toNat ≤ 90) ∨ (97 ≤ (lowc (UInt8.ofNat k.val)).toNat ∧ (lowc (UInt8.ofNat k.val)).toNat ≤ 122) ∨ (48 ≤ (lowc (UInt8.ofNat k.val)).toNat ∧ (lowc (UInt8.ofNat k.val)).toNat ≤ 57) ∨ (lowc (UInt8.ofNat k.val)).toNat = 45 ∨ (lowc (UInt8.ofNat k.val)).toNat = 95)) =
    decide ((65 ≤ k.val ∧ k.val ≤ 90) ∨ (97 ≤ k.val ∧ k.val ≤ 122) ∨ (48 ≤ k.val ∧ k.val ≤ 57) ∨ k.val = 45 ∨ k.val = 95) := by decide +kernel
  have := this ⟨b.toNat, b.toNat_lt⟩
  simp only [UInt8.ofNat_toNat] at this
  unfold stN
  rw [Bool.eq_iff_iff, decide_eq_true_iff, decide_eq_true_iff] at this
  exact this
theorem lowc_dash (b : UInt8) : lowc b = 45 ↔ b = 45 := by
  have h : ∀ k : Fin 256, lowc (UInt8.ofNat k.val) = 45 ↔ UInt8.ofNat k.val = 45 := by decide +kernel
  simpa using h ⟨b.toNat, b.toNat_lt⟩
theorem right_low (x : List UInt8) : RightL (low x) ↔ RightL x := by
  have hh : (low x).head? = some 45 ↔ x.head? = some 45 := by
    unfold low; rw [List.head?_map]
    cases x.head? with
    | none => simp
    | some c => simp [lowc_dash]
  have hl : (low x).getLast? = some 45 ↔ x.getLast? = some 45 := by
    unfold low; rw [List.getLast?_map]
    cases x.getLast? with
    | none => simp
    | some c => simp [lowc_dash]
  have ha : (∀ c ∈ low x, stN c.toNat) ↔ ∀ c ∈ x, stN c.toNat := by
    unfold low
    constructor
    · intro h c hc
      exact (stN_low c).1 (h _ (List.mem_map_of_mem hc))
    · intro h c hc
      obtain ⟨b, hb, rfl⟩ := List.mem_map.1 hc
      exact (stN_low b).2 (h b hb)
  constructor
  · intro h
    exact ⟨by rw [← low_length x]; exact h.pos, by rw [← low_length x]; exact h.len, ha.1 h.all, fun e => h.head (hh.2 e), fun e => h.last (hl.2 e)⟩
  · intro h
    exact ⟨by rw [low_length x]; exact h.pos, by rw [low_length x]; exact h.len, ha.2 h.all, fun e => h.head (hh.1 e), fun e => h.last (hl.1 e)⟩
/-- a label goes out by what it is in small letters -/
theorem Lab.of_low {x x' y : List UInt8} {e : Nat} (h : Lab x e y) (hl : low x' = low x) : Lab x' e y := by
  have ha : asc x' ↔ asc x := by rw [← asc_low x', ← asc_low x, hl]
  cases h with
  | plain h1 h2 h3 => rw [← hl]; exact .plain (ha.2 h1) (by rw [hl]; exact h2) (by rw [hl]; exact h3)
  | puny l P h1 h2 h3 h4 h5 => rw [← hl]; exact .puny l P (ha.2 h1) (by rw [hl]; exact h2) (by rw [hl]; exact h3) h4 h5
  | bad h1 h2 => exact .bad (ha.2 h1) (by rw [hl]; exact h2)
  | none h1 h2 h3 h4 => exact .none (ha.2 h1) (by rw [hl]; exact h2) (by rw [hl]; exact h3) (by rw [hl]; exact h4)
  | wide l P h1 h2 h3 h4 h5 => exact .wide l P (fun h => h1 (ha.1 h)) (by rw [hl]; exact h2) h3 h4 h5
  | long l h1 h2 h3 h4 => exact .long l (fun h => h1 (ha.1 h)) (by rw [hl]; exact h2) h3 h4
  | wrong h1 h2 => exact .wrong (fun h => h1 (ha.1 h)) (by rw [hl]; exact h2)
theorem Labs.of_low {xs ys : List (List UInt8)} {e : Nat} (h : Labs xs e ys) : ∀ {xs' : List (List UInt8)}, xs'.map low = xs.map low → Labs xs' e ys := by
  induction h with
  | nil =>
    intro xs' hl
    cases xs' with
    | nil => exact .nil
    | cons => simp at hl
  | err h he =>
    intro xs' hl
    cases xs' with
    | nil => simp at hl
    | cons x' xs' =>
      simp only [List.map_cons, List.cons.injEq] at hl
      exact .err (h.of_low hl.1) he
  | next h ht ih =>
    intro xs' hl
    cases xs' with
    | nil => simp at hl
    | cons x' xs' =>
      simp only [List.map_cons, List.cons.injEq] at hl
      exact .next (h.of_low hl.1) (ih hl.2)
  | later h ht he ih =>
    intro xs' hl
    cases xs' with
    | nil => simp at hl
    | cons x' xs' =>
      simp only [List.map_cons, List.cons.injEq] at hl
      exact .later (h.of_low hl.1) (ih hl.2) he
theorem sp_low (l : List UInt8) : sp (low l) = (sp l).map low := by
  induction l with
  | nil => rfl
  | cons c l ih =>
    rw [low_cons]
    by_cases hc : c = 46
    · subst hc
      rw [show lowc 46 = 46 from rfl, sp_point, sp_point, ih]; rfl
    · rcases h : sp l with _ | ⟨x, t⟩
      · exact absurd h (sp_ne l)
      · rw [sp_other hc h, sp_other (fun e => hc ((lowc_point c).1 e)) (by rw [ih, h]; rfl)]; rfl
theorem low_dropLast (l : List UInt8) : low l.dropLast = (low l).dropLast := by unfold low; exact List.map_dropLast
theorem cutP_low {s s' : List UInt8} (h : low s' = low s) : low (cutP s') = low (cutP s) := by
  have e : ∀ l : List UInt8, l.getLast? = some 46 ↔ (low l).getLast? = some 46 := fun l => by
    unfold low
    rw [List.getLast?_map]
    cases l.getLast? with
    | none => simp
    | some c => simp [lowc_point]
  unfold cutP
  by_cases h1 : s.getLast? = some 46
  · have h2 : s'.getLast? = some 46 := by rw [e, h, ← e]; exact h1
    rw [if_pos h1, if_pos h2, low_dropLast, low_dropLast, h]
  · have h2 : ¬ s'.getLast? = some 46 := by rw [e, h, ← e]; exact h1
    rw [if_neg h1, if_neg h2, h]
/-- capitals play no part -/
theorem TA.of_low {s s' t : List UInt8} {e : Nat} (h : TA s e t) (hl : low s' = low s) : TA s' e t := by
  have hlen : s'.length = s.length := by rw [← low_length s', ← low_length s, hl]
  have hsp : (sp (cutP s')).map low = (sp (cutP s)).map low := by rw [← sp_low, ← sp_low, cutP_low hl]
  cases h with
  | long h => exact .long (by omega)
  | err h e he hl' => exact .err (by omega) e he (hl'.of_low hsp)
  | big h ys hl' hb => exact .big (by omega) ys (hl'.of_low hsp) hb
  | ok h ys hl' hb => exact .ok (by omega) ys (hl'.of_low hsp) hb
/-- nor does a point at the end -/
theorem TA.point {s t : List UInt8} {e : Nat} (h : TA s e t) (hs : s.length ≤ 1011) (hl : s.getLast? ≠ some 46) : TA (s ++ [46]) e t := by
  have c1 : cutP s = s := by unfold cutP; rw [if_neg hl]
  have c2 : cutP (s ++ [46]) = s := by unfold cutP; rw [if_pos (by simp)]; simp
  have hlen : (s ++ [46]).length ≤ 1012 := by simp; omega
  cases h with
  | long h => omega
  | err h e he hl' => exact .err hlen e he (by rw [c2]; rw [c1] at hl'; exact hl')
  | big h ys hl' hb => exact .big hlen ys (by rw [c2]; rw [c1] at hl'; exact hl') hb
  | ok h ys hl' hb => exact .ok hlen ys (by rw [c2]; rw [c1] at hl'; exact hl') hb
theorem Labs.append_err {xs zs ys : List (List UInt8)} {e : Nat} (h : Labs xs e ys) (he : e ≠ 0) : Labs (xs ++ zs) e [] := by
  induction h with
  | nil => exact absurd rfl he
  | err h he' => exact .err h he'
  | next h ht ih => exact absurd rfl he
  | later h ht he' ih => exact .later h (ih he') he'
theorem Labs.append {xs ys xs' ys' : List (List UInt8)} {e : Nat} (h : Labs xs 0 ys) (h' : Labs xs' e ys') : Labs (xs ++ xs') e (if e = 0 then ys ++ ys' else []) := by
  generalize he : 0 = z at h
  induction h with
  | nil =>
    have := h'.num.2
    split
    · exact h'
    · rename_i h0
      have h1 := this h0
      subst h1
      exact h'
  | err h he' => omega
  | next h ht ih =>
    have ih := ih he
    split
    · rename_i h0
      subst h0
      rw [if_pos rfl] at ih
      exact .next h ih
    · rename_i h0
      rw [if_neg h0] at ih
      exact .later h ih h0
  | later h ht he' => omega
/-- an error of the first part's labels is that of the whole -/
theorem TA.parts_err {a b x : List UInt8} {e : Nat} (h : TA a e x) (h0 : e ≠ 0) (h2 : e ≠ 2) (hl : a.length + b.length ≤ 400) (ha : a.getLast? ≠ some 46) (hb : b.getLast? ≠ some 46) : TA (a ++ 46 :: b) e [] := by
  have ca : cutP a = a := by unfold cutP; rw [if_neg ha]
  have hlen : (a ++ 46 :: b).length ≤ 1012 := by simp; omega
  have hla : Labs (sp a) e [] := by
    cases h with
    | long h => exact absurd rfl h2
    | err h e he hl' => rw [ca] at hl'; exact hl'
    | big => exact absurd rfl h2
    | ok => exact absurd rfl h0
  by_cases hb0 : b = []
  · subst hb0
    have c2 : cutP (a ++ [46]) = a := by unfold cutP; rw [if_pos (by simp)]; simp
    exact .err hlen e h0 (by rw [c2]; exact hla)
  · have c2 : cutP (a ++ 46 :: b) = a ++ 46 :: b := by
      unfold cutP
      rw [if_neg]
      rw [List.getLast?_append, List.getLast?_cons_of_ne_nil hb0]
      cases hq : b.getLast? with
      | none => exact absurd (List.getLast?_eq_none_iff.1 hq) hb0
      | some q => rw [hq] at hb; exact hb
    exact .err hlen e h0 (by rw [c2, sp_append]; exact hla.append_err h0)
/-- parts that go out: the whole does, or is too long; an error of the second one is that of the whole -/
theorem TA.parts {a b x y : List UInt8} {f : Nat} (h : TA a 0 x) (h' : TA b f y) (h2 : f ≠ 2) (hb0 : b ≠ []) (hl : a.length + b.length ≤ 400) (ha : a.getLast? ≠ some 46) (hb : b.getLast? ≠ some 46) :
    (f ≠ 0 → TA (a ++ 46 :: b) f []) ∧ (f = 0 → (253 < x.length + 1 + y.length → TA (a ++ 46 :: b) 2 []) ∧ (x.length + 1 + y.length ≤ 253 → TA (a ++ 46 :: b) 0 (x ++ 46 :: y))) := by
  have ca : cutP a = a := by unfold cutP; rw [if_neg ha]
  have cb : cutP b = b := by unfold cutP; rw [if_neg hb]
  have hlen : (a ++ 46 :: b).length ≤ 1012 := by simp; omega
  have c2 : cutP (a ++ 46 :: b) = a ++ 46 :: b := by
    unfold cutP
    rw [if_neg]
    rw [List.getLast?_append, List.getLast?_cons_of_ne_nil hb0]
    cases hq : b.getLast? with
    | none => exact absurd (List.getLast?_eq_none_iff.1 hq) hb0
    | some q => rw [hq] at hb; exact hb
  obtain ⟨xs, hxs, hx⟩ : ∃ xs, Labs (sp a) 0 xs ∧ x = jn xs := by
    cases h with
    | err _ _ he => exact absurd rfl he
    | ok _ xs hl' => exact ⟨xs, by rw [ca] at hl'; exact hl', rfl⟩
  refine ⟨fun h0 => ?_, fun h0 => ?_⟩
  · have hlb : Labs (sp b) f [] := by
      cases h' with
      | long h => exact absurd rfl h2
      | err h e he hl' => rw [cb] at hl'; exact hl'
      | big => exact absurd rfl h2
      | ok => exact absurd rfl h0
    have := hxs.append hlb
    rw [if_neg h0] at this
    exact .err hlen f h0 (by rw [c2, sp_append]; exact this)
  · subst h0
    obtain ⟨ys, hys, hy⟩ : ∃ ys, Labs (sp b) 0 ys ∧ y = jn ys := by
      cases h' with
      | err _ _ he => exact absurd rfl he
      | ok _ ys hl' => exact ⟨ys, by rw [cb] at hl'; exact hl', rfl⟩
    have hj := hxs.append hys
    rw [if_pos rfl] at hj
    have hjn : jn (xs ++ ys) = x ++ 46 :: y := by rw [jn_append hxs.ne hys.ne, hx, hy]
    have hjl : (jn (xs ++ ys)).length = x.length + 1 + y.length := by rw [hjn]; simp; omega
    refine ⟨fun hb => .big hlen _ (by rw [c2, sp_append]; exact hj) (by omega), fun hb => ?_⟩
    rw [← hjn]
    exact .ok hlen _ (by rw [c2, sp_append]; exact hj) (by omega)
/-- what is read of a name has the same labels, those of Punycode alone turned -/
theorem TU.labels {s u : List UInt8} (h : TU s 0 u) : (sp s).length = (sp u).length ∧ ∀ (i : Nat) (y z : List UInt8), (sp s)[i]? = some y → (sp u)[i]? = some z → (y = z ↔ ¬ (4 < y.length ∧ XN <+: y)) := by
  cases h with
  | ok zs h hz =>
    obtain ⟨ys, hys, hs⟩ : ∃ ys, Labs (sp (cutP s)) 0 ys ∧ s = jn ys := by
      cases h with
      | err _ _ he => exact absurd rfl he
      | ok _ ys hl hb => exact ⟨ys, hl, rfl⟩
    have hr := hys.right
    have hsp : sp s = ys := by rw [hs]; exact sp_join ys hys.ne fun y h => (hr y h).1.no_point
    have hag := hys.again
    rw [hsp] at hz
    clear hys hs h
    have key : ∀ (ys zs : List (List UInt8)), Labs ys 0 ys → Rdls ys zs → (∀ z ∈ zs, (46 : UInt8) ∉ z) ∧ ∀ (i : Nat) (y z : List UInt8), ys[i]? = some y → zs[i]? = some z → (y = z ↔ ¬ (4 < y.length ∧ XN <+: y)) := by
      intro ys zs hl hz
      induction hz with
      | nil => exact ⟨by simp, fun i y z h => by simp at h⟩
      | next h ht ih =>
        rename_i y ys z zs
        cases hl with
        | next hl1 hl2 =>
          obtain ⟨i1, i2⟩ := ih hl2
          obtain ⟨z', q1, _, q3, _, _, q6⟩ := hl1.read
          have := h.det q1
          subst this
          refine ⟨fun w hw => ?_, fun i y' z' h1 h2 => ?_⟩
          · rcases List.mem_cons.1 hw with rfl | hw
            · exact q3
            · exact i1 w hw
          · cases i with
            | zero =>
              simp only [List.getElem?_cons_zero, Option.some.injEq] at h1 h2
              subst h1 h2
              have hr := hl1.right.1
              constructor
              · intro e h3
                exact (q6.1 e.symm) h3.2
              · intro h3
                refine (q6.2 fun hx => h3 ⟨?_, hx⟩).symm
                obtain ⟨P, hP⟩ := hx
                rcases Nat.lt_or_ge 4 y.length with h4 | h4
                · exact h4
                · exfalso
                  have hl4 := congrArg List.length hP
                  rw [List.length_append] at hl4
                  have : (XN).length = 4 := rfl
                  have hP0 : P = [] := List.length_eq_zero_iff.1 (by omega)
                  rw [hP0, List.append_nil] at hP
                  exact hr.last (by rw [← hP]; rfl)
            | succ i => exact i2 i y' z' (by simpa using h1) (by simpa using h2)
    obtain ⟨k1, k2⟩ := key ys zs hag hz
    have hzne : zs ≠ [] := fun e => by
      have := hz.length
      rw [e] at this
      have hy0 : ys = [] := List.length_eq_zero_iff.1 this
      subst hy0
      exact sp_ne s hsp
    have hspz : sp (jn zs) = zs := sp_join zs hzne k1
    rw [hsp, hspz]
    exact ⟨hz.length, k2⟩

/-- labels of ASCII, none of them of Punycode: all go out small, or an error of a name -/
theorem Labs.plain : ∀ (xs : List (List UInt8)), (∀ x ∈ xs, asc x ∧ ¬ XN <+: low x) → ((∀ x ∈ xs, RightL x) → Labs xs 0 (xs.map low)) ∧ ((¬ ∀ x ∈ xs, RightL x) → Labs xs 1 [])
  | [], _ => ⟨fun _ => .nil, fun h => absurd (by simp) h⟩
  | x :: xs, h => by
    obtain ⟨i1, i2⟩ := Labs.plain xs fun y hy => h y (List.mem_cons_of_mem _ hy)
    obtain ⟨h1, h2⟩ := h x List.mem_cons_self
    have hr : RightL (low x) ↔ RightL x := right_low x
    constructor
    · intro ha
      exact .next (.plain h1 (hr.2 (ha x List.mem_cons_self)) h2) (i1 fun y hy => ha y (List.mem_cons_of_mem _ hy))
    · intro ha
      by_cases hx : RightL x
      · exact .later (.plain h1 (hr.2 hx) h2) (i2 fun h' => ha fun y hy => by
          rcases List.mem_cons.1 hy with rfl | hy
          · exact hx
          · exact h' y hy) (by decide)
      · exact .err (.bad h1 fun h' => hx (hr.1 h')) (by decide)
theorem low_jn : ∀ (xs : List (List UInt8)), low (jn xs) = jn (xs.map low)
  | [] => rfl
  | [x] => rfl
  | x :: y :: t => by
    have := low_jn (y :: t)
    have e : jn (List.map low (x :: y :: t)) = low x ++ 46 :: jn (List.map low (y :: t)) := jn_cons (low x) (by simp)
    rw [jn_cons x (by simp), low_append, low_cons, this, e]; rfl
/-- a label behind a good rune, or another one -/
theorem Lab.rune {c : UInt8} {r : Nat} (hc : stN c.toNat) (hcap : ¬ (65 ≤ c.toNat ∧ c.toNat ≤ 90)) (hc45 : c ≠ 45) (h1 : 128 ≤ r) (h2 : okR r) : (goodN r → ∃ y, Lab (utf [c.toNat, r]) 0 y ∧ y.length ≤ 20) ∧ (¬ goodN r → Lab (utf [c.toNat, r]) 1 []) := by
  have hok : ∀ x ∈ [c.toNat, r], okR x := fun x hx => by
    rcases List.mem_cons.1 hx with rfl | hx
    · have := stN_lt hc; exact .inl (by omega)
    · rw [List.mem_singleton.1 hx]; exact h2
  have hc45' : c.toNat ≠ 45 := fun e => hc45 (UInt8.toNat_inj.1 e)
  have hna : ¬ asc (utf [c.toNat, r]) := fun ha => by
    have hh : ∃ b ∈ u8 r, 128 ≤ b.toNat := by
      unfold u8
      rw [if_neg (by omega)]
      have hle := okR_le h2
      split
      · exact ⟨_, List.mem_cons_self, by rw [nat8 (by omega)]; omega⟩
      · split
        · exact ⟨_, List.mem_cons_self, by rw [nat8 (by omega)]; omega⟩
        · exact ⟨_, List.mem_cons_self, by rw [nat8 (by omega)]; omega⟩
    obtain ⟨b, hb, hge⟩ := hh
    have := ha b (List.mem_flatMap.2 ⟨r, by simp, hb⟩)
    omega
  have hlow : low (utf [c.toNat, r]) = utf [c.toNat, r] := low_same fun b hb => by
    obtain ⟨x, hx, hb⟩ := mem_utf hb
    rcases List.mem_cons.1 hx with rfl | hx
    · rw [u8_low (stN_lt hc)] at hb
      rw [List.mem_singleton.1 hb, nat8 (by have := stN_lt hc; omega)]
      exact hcap
    · rw [List.mem_singleton.1 hx] at hb
      have hge : 128 ≤ b.toNat := by
        unfold u8 at hb
        have hle := okR_le h2
        rw [if_neg (by omega)] at hb
        split at hb
        · simp only [List.mem_cons, List.not_mem_nil, or_false] at hb
          rcases hb with rfl | rfl <;> (rw [nat8 (by omega)]; omega)
        · split at hb
          · simp only [List.mem_cons, List.not_mem_nil, or_false] at hb
            rcases hb with rfl | rfl | rfl <;> (rw [nat8 (by omega)]; omega)
          · simp only [List.mem_cons, List.not_mem_nil, or_false] at hb
            rcases hb with rfl | rfl | rfl | rfl <;> (rw [nat8 (by omega)]; omega)
      omega
  constructor
  · intro hg
    have hn : NLab [c.toNat, r] := ⟨⟨r, by simp, h1⟩, fun x hx hx1 => by
        rcases List.mem_cons.1 hx with rfl | hx
        · exact ⟨hc, hcap⟩
        · rw [List.mem_singleton.1 hx] at hx1; omega, fun x hx hx1 => by
        rcases List.mem_cons.1 hx with rfl | hx
        · have := stN_lt hc; omega
        · rw [List.mem_singleton.1 hx]; exact hg, by show some c.toNat ≠ some 45; intro e; exact hc45' (Option.some.inj e), by show some r ≠ some 45; intro e; have := Option.some.inj e; omega⟩
    have hp := one_behind (c := c) (stN_lt hc) h1 h2
    have hd : (dgs 36 72 ((r - 128) * 2 + 1)).length ≤ 5 := dgs_len 4 _ _ _ (by
      unfold goodN at hg
      show _ ≤ 11110
      omega)
    refine ⟨_, .wide _ _ hna hlow hn hp (by simp; omega), ?_⟩
    simp [XN]; omega
  · intro hg
    refine .wrong hna fun l hl hn => hg ?_
    rw [hlow] at hl
    have := utf_inj hok hn.okR hl
    subst this
    exact hn.high r (by simp) h1
end Go.Proofs.YtgopjgbcnjkblaaGreatDoor
