/-
  Plain facts on reverse names and on the texts of addresses, no program: unlike addresses have unlike reverse names; a text has groups without noughts ahead, and one gap just if there are two zeros one behind the other. No condition.
-/
import Derived.Test.YtpnlgojbmjfhhaaGreatDoorAddrOther
namespace Go.Proofs.YtpnlgojbmjfhhaaGreatDoor

def INADDR : List UInt8 := [105, 110, 45, 97, 100, 100, 114, 46, 97, 114, 112, 97]
def IP6 : List UInt8 := [105, 112, 54, 46, 97, 114, 112, 97]
def decs4 (a : List UInt8) : List (List UInt8) := (a.drop 12).map fun c => decN c.toNat
def halfL (a : List UInt8) : List (List UInt8) := a.flatMap fun c => [[hexD (c.toNat / 16)], [hexD (c.toNat % 16)]]
/-- an address's reverse name -/
def rvT (a : List UInt8) : List UInt8 := if isV4 a = true then jn ((decs4 a).reverse ++ [INADDR]) else jn ((halfL a).reverse ++ [IP6])
theorem hexD_point : ∀ k : Fin 16, hexD k.val ≠ 46 := by decide +kernel
theorem hexD_inj : ∀ k j : Fin 16, hexD k.val = hexD j.val → k = j := by decide +kernel
theorem halfL_length : ∀ a : List UInt8, (halfL a).length = 2 * a.length
  | [] => rfl
  | c :: a => by
    have := halfL_length a
    unfold halfL at this ⊢
    rw [List.flatMap_cons, List.length_append, this]
    simp; omega
theorem halfL_mem {a x : List UInt8} (h : x ∈ halfL a) : ∃ k, k < 16 ∧ x = [hexD k] := by
  unfold halfL at h
  obtain ⟨c, _, hx⟩ := List.mem_flatMap.1 h
  have := c.toNat_lt
  simp only [List.mem_cons, List.not_mem_nil, or_false] at hx
  rcases hx with rfl | rfl
  · exact ⟨_, by omega, rfl⟩
  · exact ⟨_, by omega, rfl⟩
theorem halfL_no46 {a x : List UInt8} (h : x ∈ halfL a) : (46 : UInt8) ∉ x := by
  obtain ⟨k, hk, rfl⟩ := halfL_mem h
  intro hm
  rw [List.mem_singleton] at hm
  exact hexD_point ⟨k, hk⟩ hm.symm
theorem halfL_inj : ∀ {a b : List UInt8}, halfL a = halfL b → a = b
  | [], [], _ => rfl
  | [], c :: b, h => by have := congrArg List.length h; rw [halfL_length, halfL_length] at this; simp at this
  | c :: a, [], h => by have := congrArg List.length h; rw [halfL_length, halfL_length] at this; simp at this
  | c :: a, d :: b, h => by
    unfold halfL at h
    rw [List.flatMap_cons, List.flatMap_cons] at h
    simp only [List.cons_append, List.nil_append, List.cons.injEq, and_true] at h
    obtain ⟨h1, h2, h3⟩ := h
    have hc := c.toNat_lt
    have hd := d.toNat_lt
    have e1 := hexD_inj ⟨c.toNat / 16, by omega⟩ ⟨d.toNat / 16, by omega⟩ h1
    have e2 := hexD_inj ⟨c.toNat % 16, by omega⟩ ⟨d.toNat % 16, by omega⟩ h2
    simp only [Fin.mk.injEq] at e1 e2
    rw [UInt8.toNat_inj.1 (by omega : c.toNat = d.toNat), halfL_inj (a := a) (b := b) h3]
theorem decN_inj {x y : UInt8} (h : decN x.toNat = decN y.toNat) : x = y := by
  have := rd_decN x.toNat_lt
  rw [h, rd_decN y.toNat_lt] at this
  exact UInt8.toNat_inj.1 (Option.some.inj this).symm
theorem decs_inj : ∀ {x y : List UInt8}, x.map (fun c : UInt8 => decN c.toNat) = y.map (fun c : UInt8 => decN c.toNat) → x = y
  | [], [], _ => rfl
  | [], _ :: _, h => by cases h
  | _ :: _, [], h => by cases h
  | c :: x, d :: y, h => by
    rw [List.map_cons, List.map_cons] at h
    injection h with h1 h2
    rw [decN_inj h1, decs_inj h2]
theorem jn_snoc {xs : List (List UInt8)} (h : xs ≠ []) (d : List UInt8) : jn (xs ++ [d]) = jn xs ++ 46 :: d := by rw [jn_append h (by simp)]; rfl
theorem decs4_length {a : List UInt8} (h : a.length = 16) : (decs4 a).length = 4 := by unfold decs4; rw [List.length_map, List.length_drop, h]
theorem ne_of_len {α : Type} {l : List α} {n : Nat} (h : l.length = n + 1) : l ≠ [] := by rintro rfl; cases h
/-- the labels of a reverse name -/
theorem sp_rv4 {a : List UInt8} (h : a.length = 16) (h4 : isV4 a = true) : sp (rvT a) = (decs4 a).reverse ++ [[105, 110, 45, 97, 100, 100, 114], [97, 114, 112, 97]] := by
  have hl : (decs4 a).reverse.length = 4 := by rw [List.length_reverse, decs4_length h]
  unfold rvT
  rw [if_pos h4, jn_snoc (ne_of_len hl), sp_append, sp_jn' (ne_of_len hl) (fun x hx => by
    rw [List.mem_reverse] at hx
    exact (decs x hx).no46)]
  congr 1
theorem sp_rv6 {a : List UInt8} (h : a.length = 16) (h4 : isV4 a = false) : sp (rvT a) = (halfL a).reverse ++ [[105, 112, 54], [97, 114, 112, 97]] := by
  have hl : (halfL a).reverse.length = 32 := by rw [List.length_reverse, halfL_length, h]
  unfold rvT
  rw [if_neg (by rw [h4]; decide), jn_snoc (ne_of_len hl), sp_append, sp_jn' (ne_of_len hl) (fun x hx => by
    rw [List.mem_reverse] at hx
    exact halfL_no46 hx)]
  congr 1
theorem rv_inj {a b : List UInt8} (ha : a.length = 16) (hb : b.length = 16) (h : rvT a = rvT b) : a = b := by
  have hs := congrArg sp h
  cases h4 : isV4 a <;> cases h5 : isV4 b
  · rw [sp_rv6 ha h4, sp_rv6 hb h5] at hs
    exact halfL_inj (List.reverse_inj.1 (List.append_cancel_right hs))
  · rw [sp_rv6 ha h4, sp_rv4 hb h5] at hs
    have := congrArg List.length hs
    rw [List.length_append, List.length_append, List.length_reverse, List.length_reverse, halfL_length, decs4_length hb, ha] at this
    simp at this
  · rw [sp_rv4 ha h4, sp_rv6 hb h5] at hs
    have := congrArg List.length hs
    rw [List.length_append, List.length_append, List.length_reverse, List.length_reverse, halfL_length, decs4_length ha, hb] at this
    simp at this
  · rw [sp_rv4 ha h4, sp_rv4 hb h5] at hs
    have e := decs_inj (List.reverse_inj.1 (List.append_cancel_right hs))
    rw [isV4_eq h4, isV4_eq h5, e]
theorem halfL_at : ∀ (a : List UInt8) (j : Nat), j < a.length → (halfL a)[2 * j]? = some [hexD ((a.getD j 0).toNat / 16)] ∧ (halfL a)[2 * j + 1]? = some [hexD ((a.getD j 0).toNat % 16)]
  | [], j, h => absurd h (Nat.not_lt_zero _)
  | c :: a, 0, _ => by unfold halfL; rw [List.flatMap_cons]; exact ⟨rfl, rfl⟩
  | c :: a, j + 1, h => by
    have ih := halfL_at a j (by simpa using h)
    have e : halfL (c :: a) = [hexD (c.toNat / 16)] :: [hexD (c.toNat % 16)] :: halfL a := by unfold halfL; rw [List.flatMap_cons]; rfl
    rw [e, show 2 * (j + 1) = 2 * j + 1 + 1 by omega, show 2 * j + 1 + 1 + 1 = (2 * j + 1) + 1 + 1 by omega]
    simpa using ih

/-! The texts. -/
/-- gaps: how many colons stand behind a colon (p: does a colon stand ahead?) -/
def gp : Bool → List UInt8 → Nat
  | _, [] => 0
  | p, c :: l => (if c = 58 ∧ p = true then 1 else 0) + gp (c == 58) l
/-- a nought ahead of a number's other signs -/
def nb : Bool → List UInt8 → Bool
  | _, [] => false
  | p, c :: l => (c == 48 && p && (match l with | [] => false | d :: _ => d != 58)) || nb (c == 58) l
theorem gp_plain : ∀ {x : List UInt8} (p : Bool) (r : List UInt8), x ≠ [] → (58 : UInt8) ∉ x → gp p (x ++ r) = gp false r
  | [], _, _, h, _ => absurd rfl h
  | [c], p, r, _, hn => by
    have hc : c ≠ 58 := fun e => hn (by rw [e]; exact List.mem_cons_self)
    show (if c = 58 ∧ p = true then 1 else 0) + gp (c == 58) r = _
    rw [if_neg (fun h => hc h.1), beq_eq_false_iff_ne.2 hc, Nat.zero_add]
  | c :: d :: x, p, r, _, hn => by
    have hc : c ≠ 58 := fun e => hn (by rw [e]; exact List.mem_cons_self)
    have ih := gp_plain (x := d :: x) false r (by simp) (fun h => hn (List.mem_cons_of_mem _ h))
    show (if c = 58 ∧ p = true then 1 else 0) + gp (c == 58) (d :: x ++ r) = _
    rw [if_neg (fun h => hc h.1), beq_eq_false_iff_ne.2 hc, ih, Nat.zero_add]
theorem nb_rest : ∀ {x : List UInt8} (r : List UInt8), (58 : UInt8) ∉ x → nb false (x ++ r) = nb false r
  | [], _, _ => rfl
  | c :: x, r, hn => by
    have hc : c ≠ 58 := fun e => hn (by rw [e]; exact List.mem_cons_self)
    show ((c == 48 && false && _) || nb (c == 58) (x ++ r)) = _
    rw [beq_eq_false_iff_ne.2 hc, nb_rest r (fun h => hn (List.mem_cons_of_mem _ h))]
    simp
theorem nb_num {x : List UInt8} (hx : Num x) (p : Bool) (r : List UInt8) (hr : r = [] ∨ r.head? = some 58) : nb p (x ++ r) = nb false r := by
  have hn := hx.no58
  match x, hx.ne, hx.lead with
  | c :: x, _, hl =>
    have hc : c ≠ 58 := fun e => hn (by rw [e]; exact List.mem_cons_self)
    show ((c == 48 && p && (match x ++ r with | [] => false | d :: _ => d != 58)) || nb (c == 58) (x ++ r)) = _
    rw [beq_eq_false_iff_ne.2 hc, nb_rest r (fun h => hn (List.mem_cons_of_mem _ h))]
    by_cases h0 : c = 48
    · subst h0
      have := hl x rfl
      subst this
      rcases hr with rfl | hr
      · simp
      · match r, hr with
        | d :: r, hr =>
          rw [List.head?_cons, Option.some.injEq] at hr
          subst hr
          simp
    · rw [beq_eq_false_iff_ne.2 h0]; simp
theorem gp_jq : ∀ {xs : List (List UInt8)} (p : Bool) (r : List UInt8), xs ≠ [] → (∀ x ∈ xs, Num x) → gp p (jq xs ++ r) = gp false r
  | [], _, _, h, _ => absurd rfl h
  | [x], p, r, _, h => gp_plain p r (h x List.mem_cons_self).ne (h x List.mem_cons_self).no58
  | x :: y :: t, p, r, _, h => by
    rw [jq_cons x (by simp), List.append_assoc, gp_plain p _ (h x List.mem_cons_self).ne (h x List.mem_cons_self).no58]
    show (if (58 : UInt8) = 58 ∧ false = true then 1 else 0) + gp (58 == 58) (jq (y :: t) ++ r) = _
    rw [gp_jq _ r (by simp) (fun z hz => h z (List.mem_cons_of_mem _ hz))]
    simp
theorem nb_jq : ∀ {xs : List (List UInt8)} (p : Bool) (r : List UInt8), xs ≠ [] → (∀ x ∈ xs, Num x) → (r = [] ∨ r.head? = some 58) → nb p (jq xs ++ r) = nb false r
  | [], _, _, h, _, _ => absurd rfl h
  | [x], p, r, _, h, hr => nb_num (h x List.mem_cons_self) p r hr
  | x :: y :: t, p, r, _, h, hr => by
    rw [jq_cons x (by simp), List.append_assoc, nb_num (h x List.mem_cons_self) p _ (.inr rfl)]
    show (((58 : UInt8) == 48 && false && _) || nb (58 == 58) (jq (y :: t) ++ r)) = _
    rw [nb_jq _ r (by simp) (fun z hz => h z (List.mem_cons_of_mem _ hz)) hr]
    simp
theorem cols_jq : ∀ {xs : List (List UInt8)}, xs ≠ [] → (∀ x ∈ xs, Num x) → (jq xs).count 58 + 1 = xs.length
  | [], h, _ => absurd rfl h
  | [x], _, h => by
    show x.count 58 + 1 = 1
    rw [List.count_eq_zero_of_not_mem (h x List.mem_cons_self).no58]
  | x :: y :: t, _, h => by
    have ih := cols_jq (xs := y :: t) (by simp) (fun z hz => h z (List.mem_cons_of_mem _ hz))
    rw [jq_cons x (by simp), List.count_append, List.count_eq_zero_of_not_mem (h x List.mem_cons_self).no58, List.count_cons_self, List.length_cons]
    omega
/-- two zeros one behind the other, among eight numbers -/
def twoZ (n : List Nat) : Bool := (List.range 7).any fun i => n.getD i 1 == 0 && n.getD (i + 1) 1 == 0
theorem zr_two {l : List Nat} {j : Nat} (h0 : l[j]? = some 0) (h1 : l[j + 1]? = some 0) : 2 ≤ zr (l.drop j) := by
  have a0 := (List.getElem?_eq_some_iff.1 h0).1
  have a1 := (List.getElem?_eq_some_iff.1 h1).1
  rw [List.drop_eq_getElem_cons a0, List.drop_eq_getElem_cons a1]
  have e0 : l[j] = 0 := (List.getElem?_eq_some_iff.1 h0).2
  have e1 : l[j + 1] = 0 := (List.getElem?_eq_some_iff.1 h1).2
  rw [e0, e1]
  simp [zr]
theorem twoZ_st {n : List Nat} (hl : n.length = 8) : twoZ n = decide ((st n).1 ≠ (st n).2) := by
  have hd : ∀ i, i < 8 → n.getD i 1 = n[i]?.getD 1 := fun i _ => List.getD_eq_getElem?_getD
  rcases st_cases n with ⟨h, hz⟩ | ⟨h1, h2, h3⟩
  · rw [h]
    unfold twoZ
    rw [show decide ((0, 0).1 ≠ ((0, 0) : Nat × Nat).2) = false by decide, List.any_eq_false]
    intro i hi
    rw [List.mem_range] at hi
    intro hc
    rw [Bool.and_eq_true, beq_iff_eq, beq_iff_eq] at hc
    have g0 : n[i]? = some 0 := by
      rw [List.getElem?_eq_getElem (by omega)]
      have := hc.1
      rw [List.getD_eq_getElem?_getD, List.getElem?_eq_getElem (by omega)] at this
      exact congrArg some this
    have g1 : n[i + 1]? = some 0 := by
      rw [List.getElem?_eq_getElem (by omega)]
      have := hc.2
      rw [List.getD_eq_getElem?_getD, List.getElem?_eq_getElem (by omega)] at this
      exact congrArg some this
    have := hz i (by omega)
    have := zr_two g0 g1
    omega
  · rw [decide_eq_true (by omega : (st n).1 ≠ (st n).2)]
    unfold twoZ
    rw [List.any_eq_true]
    refine ⟨(st n).1, List.mem_range.2 (by omega), ?_⟩
    rw [List.getD_eq_getElem?_getD, List.getD_eq_getElem?_getD, h3 _ (Nat.le_refl _) (by omega), h3 ((st n).1 + 1) (by omega) (by omega)]
    rfl
/-- the text of an address that is no IPv4 address -/
structure Tx6 (a s : List UInt8) : Prop where
  signs : ∀ c ∈ s, hexB c = true ∨ c = 58
  nought : nb true s = false
  gaps : gp false s = (if twoZ (grp a) = true then 1 else 0)
  cols : twoZ (grp a) = false → s.count 58 = 7
  len : s.length ≤ 39
theorem tx6 {a : List UInt8} (h : a.length = 16) (h4 : isV4 a = false) : Tx6 a (txt a) := by
  have hl := grp_length 8 a h
  have hn := grp_lt 8 a h
  have ht : txt a = txt6 (grp a) := by unfold txt; rw [if_neg (by rw [h4]; decide)]
  have htz := twoZ_st hl
  have hlen := txt_len h
  rw [ht] at hlen ⊢
  have hN : ∀ {l : List Nat}, (∀ v ∈ l, v < 65536) → ∀ x ∈ l.map hexN, Num x := fun h => nums h
  rcases st_cases (grp a) with ⟨h0, _⟩ | ⟨h1, h2, h3⟩
  · have e : txt6 (grp a) = jq ((grp a).map hexN) := by unfold txt6; rw [h0]; rfl
    have hne : (grp a).map hexN ≠ [] := ne_of_len (n := 7) (by rw [List.length_map, hl])
    rw [h0] at htz
    have htz' : twoZ (grp a) = false := htz
    rw [e] at hlen ⊢
    refine ⟨jq_signs (.inr rfl) (fun x hx c hc => .inl ((nums hn x hx).hex c hc)), ?_, ?_, fun _ => ?_, hlen⟩
    · have := nb_jq true [] hne (nums hn) (.inl rfl)
      rwa [List.append_nil] at this
    · have := gp_jq false [] hne (nums hn)
      rw [List.append_nil] at this
      rw [this, htz']; rfl
    · have := cols_jq hne (nums hn)
      rw [List.length_map, hl] at this
      omega
  · have e : txt6 (grp a) = jq (((grp a).take (st (grp a)).1).map hexN) ++ 58 :: 58 :: jq (((grp a).drop (st (grp a)).2).map hexN) := by unfold txt6; rw [if_neg (by omega)]
    rw [decide_eq_true (by omega : (st (grp a)).1 ≠ (st (grp a)).2)] at htz
    have hf := nums (gs := (grp a).take (st (grp a)).1) (fun v hv => hn v (List.mem_of_mem_take hv))
    have hd := nums (gs := (grp a).drop (st (grp a)).2) (fun v hv => hn v (List.mem_of_mem_drop hv))
    rw [e] at hlen ⊢
    generalize ((grp a).take (st (grp a)).1).map hexN = F at *
    generalize ((grp a).drop (st (grp a)).2).map hexN = T at *
    have hgT : ∀ p, gp p (jq T) = 0 := fun p => by
      by_cases hT : T = []
      · subst hT; rfl
      · have := gp_jq p [] hT hd
        rw [List.append_nil] at this
        rw [this]; rfl
    have hnT : ∀ p, nb p (jq T) = false := fun p => by
      by_cases hT : T = []
      · subst hT; rfl
      · have := nb_jq p [] hT hd (.inl rfl)
        rw [List.append_nil] at this
        rw [this]; rfl
    have g1 : gp false (58 :: 58 :: jq T) = 1 := by
      show (if (58 : UInt8) = 58 ∧ false = true then 1 else 0) + ((if (58 : UInt8) = 58 ∧ (58 == 58) = true then 1 else 0) + gp (58 == 58) (jq T)) = 1
      rw [hgT]; rfl
    have n1 : ∀ p, nb p (58 :: 58 :: jq T) = false := fun p => by
      show (((58 : UInt8) == 48 && p && _) || (((58 : UInt8) == 48 && (58 == 58) && _) || nb (58 == 58) (jq T))) = false
      rw [hnT]; simp
    refine ⟨?_, ?_, ?_, fun hc => (by rw [htz] at hc; cases hc), hlen⟩
    · intro c hc
      rcases List.mem_append.1 hc with hc | hc
      · exact jq_signs (P := fun c => hexB c = true ∨ c = 58) (.inr rfl) (fun x hx c hc => .inl ((hf x hx).hex c hc)) c hc
      · rcases List.mem_cons.1 hc with hc | hc
        · exact .inr hc
        · rcases List.mem_cons.1 hc with hc | hc
          · exact .inr hc
          · exact jq_signs (P := fun c => hexB c = true ∨ c = 58) (.inr rfl) (fun x hx c hc => .inl ((hd x hx).hex c hc)) c hc
    · by_cases hF : F = []
      · subst hF; exact n1 _
      · rw [nb_jq true _ hF hf (.inr rfl), n1]
    · rw [htz]
      by_cases hF : F = []
      · subst hF; exact g1
      · rw [gp_jq false _ hF hf, g1]; rfl
/-- the text of an IPv4 address: four numbers and three points -/
theorem tx4 {a : List UInt8} (h : a.length = 16) (h4 : isV4 a = true) : (txt a).count 46 = 3 ∧ (txt a).countP digB + 3 = (txt a).length ∧ 7 ≤ (txt a).length ∧ a.getD 10 0 = 255 ∧ a.getD 11 0 = 255 := by
  obtain ⟨x, y, z, u, hd⟩ := four_rest h
  have ht : txt a = jn ([x, y, z, u].map fun c => decN c.toNat) := by unfold txt; rw [if_pos h4]; unfold txt4; rw [hd]
  have hk : ∀ {g : List UInt8}, DecT g → g.count 46 = 0 ∧ g.countP digB = g.length ∧ 1 ≤ g.length := fun hg =>
    ⟨List.count_eq_zero_of_not_mem hg.no46, List.countP_eq_length.2 hg.dig, List.length_pos_iff.2 hg.ne⟩
  obtain ⟨x1, x2, x3⟩ := hk (decN_dec x.toNat_lt)
  obtain ⟨y1, y2, y3⟩ := hk (decN_dec y.toNat_lt)
  obtain ⟨z1, z2, z3⟩ := hk (decN_dec z.toNat_lt)
  obtain ⟨u1, u2, u3⟩ := hk (decN_dec u.toNat_lt)
  have h46 : digB 46 = false := by decide
  rw [ht]
  simp only [List.map_cons, List.map_nil, jn, List.count_append, List.count_cons, List.countP_append, List.countP_cons, List.length_append, List.length_cons, x1, y1, z1, u1, x2, y2, z2, u2, h46]
  have he := isV4_eq h4
  refine ⟨by simp, by simp; omega, by omega, ?_, ?_⟩
  · rw [he]; rfl
  · rw [he]; rfl
end Go.Proofs.YtpnlgojbmjfhhaaGreatDoor
