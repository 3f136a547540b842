/-
  Plain facts on texts that are no addresses' texts, no program. No condition.
-/
import Derived.Test.YtpnlgojbmjfhhaaGreatDoorAddrMath
namespace Go.Proofs.YtpnlgojbmjfhhaaGreatDoor

theorem readA_other {a t : List UInt8} (ht : readA t = none ∨ (readA t = some a ∧ txt a ≠ t)) : parseA t = none := by
  unfold parseA
  split
  · rfl
  · rcases ht with h | ⟨h, hn⟩
    · rw [h]
    · rw [h]; exact if_neg hn
theorem rdN_bad {b M : Nat} {c : UInt8} (hc : dv c = none) : ∀ {l : List UInt8} {acc : Nat}, c ∈ l → rdN b M acc l = none
  | [], _, h => by cases h
  | x :: l, acc, h => by
    rw [rdN]
    rcases List.mem_cons.1 h with rfl | h
    · rw [hc]
    · split
      · rfl
      · split
        · exact rdN_bad hc h
        · rfl
theorem rdAll_bad {b M : Nat} : ∀ {xs : List (List UInt8)} {x : List UInt8}, x ∈ xs → rdT b M x = none → rdAll b M xs = none
  | [], _, h, _ => by cases h
  | y :: l, x, h, hx => by
    rw [rdAll]
    rcases List.mem_cons.1 h with rfl | h
    · rw [hx]
    · split
      · rfl
      · rw [rdAll_bad h hx]; rfl
theorem rdAll_len0 {b M : Nat} : ∀ {xs : List (List UInt8)} {vs : List Nat}, rdAll b M xs = some vs → vs.length = xs.length
  | [], vs, e => by rw [rdAll] at e; injection e with e; subst e; rfl
  | x :: l, vs, e => by
    rw [rdAll] at e
    split at e
    · cases e
    · cases hl : rdAll b M l with
      | none => rw [hl] at e; cases e
      | some us =>
        rw [hl, Option.map_some] at e
        injection e with e
        subst e
        rw [List.length_cons, List.length_cons, rdAll_len0 hl]
theorem mem_jq {c : UInt8} (hc : c ≠ 58) : ∀ {xs : List (List UInt8)}, c ∈ jq xs → ∃ x ∈ xs, c ∈ x
  | [], h => by cases h
  | [x], h => ⟨x, List.mem_cons_self, h⟩
  | x :: y :: t, h => by
    rw [jq_cons x (by simp)] at h
    rcases List.mem_append.1 h with h | h
    · exact ⟨x, List.mem_cons_self, h⟩
    · rcases List.mem_cons.1 h with h | h
      · exact absurd h hc
      · obtain ⟨z, hz, hm⟩ := mem_jq hc h
        exact ⟨z, List.mem_cons_of_mem _ hz, hm⟩
/-- a point in a group -/
theorem read16_dot {s : List UInt8} (h : (46 : UInt8) ∈ s) : read16 s = none := by
  unfold read16
  rw [if_neg (fun e => by rw [e] at h; cases h)]
  rw [← jq_sq s] at h
  obtain ⟨x, hx, hm⟩ := mem_jq (by decide) h
  refine rdAll_bad hx ?_
  unfold rdT
  rw [if_neg (fun e => by rw [e] at hm; cases hm)]
  exact rdN_bad (by decide) hm
theorem read16_end (s : List UInt8) : read16 (s ++ [58]) = none := by
  unfold read16
  rw [if_neg (by simp), sq_append s [], show sq [] = [[]] from rfl]
  exact rdAll_bad (x := []) (by simp) (by unfold rdT; rw [if_pos rfl])
theorem read16_start (s : List UInt8) : read16 (58 :: s) = none := by
  unfold read16
  rw [if_neg (by simp), sq_point]
  exact rdAll_bad (x := []) List.mem_cons_self (by unfold rdT; rw [if_pos rfl])
theorem read6_left {s : List UInt8} (h : read16 (Go.Lib.cut s [58, 58]).1 = none) : read6 s = none := by
  unfold read6; rw [h]
theorem read6_right {s : List UInt8} (h : read16 (Go.Lib.cut s [58, 58]).2.1 = none) : read6 s = none := by
  unfold read6; rw [h]
  split <;> simp_all
theorem cut_at {x y : List UInt8} {k : Nat} (hi : Go.Lib.index (x ++ 58 :: 58 :: y) [58, 58] = k) (hk : k = x.length) : Go.Lib.cut (x ++ 58 :: 58 :: y) [58, 58] = (x, y, true) := by
  unfold Go.Lib.cut
  rw [hi, if_pos (by omega), Int.toNat_natCast, hk, List.take_left]
  rw [show x.length + [(58 : UInt8), 58].length = x.length + 2 from rfl, ← List.drop_drop, List.drop_left]; rfl
theorem cut_none {x : List UInt8} (hi : Go.Lib.index x [58, 58] = -1) : Go.Lib.cut x [58, 58] = (x, [], false) := by
  unfold Go.Lib.cut
  rw [hi, if_neg (by omega)]
/-- an address's text in base 16: how it is cut -/
theorem txt6_form {n : List Nat} (hn : ∀ v ∈ n, v < 65536) (hl : n.length = 8) :
    (∃ xs : List (List UInt8), (∀ x ∈ xs, Num x) ∧ xs ≠ [] ∧ txt6 n = jq xs) ∨ (∃ xs ys : List (List UInt8), (∀ x ∈ xs, Num x) ∧ (∀ x ∈ ys, Num x) ∧ txt6 n = jq xs ++ 58 :: 58 :: jq ys) := by
  unfold txt6
  rcases st_cases n with ⟨h, _⟩ | ⟨h1, h2, h3⟩
  · rw [h, if_pos rfl]
    exact .inl ⟨n.map hexN, nums hn, (fun e => by rw [List.map_eq_nil_iff] at e; rw [e] at hl; cases hl), rfl⟩
  · rw [if_neg (by omega)]
    exact .inr ⟨_, _, nums (fun v hv => hn v (List.mem_of_mem_take hv)), nums (fun v hv => hn v (List.mem_of_mem_drop hv)), rfl⟩
theorem idx_no_gap_end : ∀ {xs : List (List UInt8)}, (∀ x ∈ xs, Num x) → xs ≠ [] → Go.Lib.index (jq xs ++ [58]) [58, 58] = -1
  | [], _, h => absurd rfl h
  | [x], h, _ => idx_none (h x List.mem_cons_self).no58 (by decide)
  | x :: y :: t, h, _ => by
    have ih := idx_no_gap_end (xs := y :: t) (fun z hz => h z (List.mem_cons_of_mem _ hz)) (by simp)
    rw [jq_cons x (by simp), List.append_assoc, List.cons_append]
    refine idx_none (h x List.mem_cons_self).no58 ?_
    rw [idx_skip (fun e => jq_head (fun z hz => h z (List.mem_cons_of_mem _ hz)) (by simp) _ e.2), ih, if_pos rfl]
theorem cut_mem {s : List UInt8} {c : UInt8} (hc : c ≠ 58) (h : c ∈ s) : c ∈ (Go.Lib.cut s [58, 58]).1 ∨ c ∈ (Go.Lib.cut s [58, 58]).2.1 := by
  rcases Go.Lib.index_spec s [58, 58] with ⟨hm, _⟩ | ⟨i, hi, hile, hocc, _⟩
  · rw [cut_none hm]; exact .inl h
  · have hd : s.drop i = 58 :: 58 :: s.drop (i + 2) := by
      unfold Go.Lib.occAt at hocc
      rcases hx : s.drop i with _ | ⟨p, _ | ⟨q, r⟩⟩
      · rw [hx] at hocc; simp [List.isPrefixOf] at hocc
      · rw [hx] at hocc; simp [List.isPrefixOf] at hocc
      · rw [hx] at hocc
        simp only [List.isPrefixOf, Bool.and_eq_true, beq_iff_eq, and_true] at hocc
        rw [← List.drop_drop, hx, ← hocc.1, ← hocc.2]; rfl
    have hs : s = s.take i ++ 58 :: 58 :: s.drop (i + 2) := by rw [← hd, List.take_append_drop]
    have hcut : Go.Lib.cut s [58, 58] = (s.take i, s.drop (i + 2), true) := by
      unfold Go.Lib.cut
      rw [hi, if_pos (by omega)]; rfl
    rw [hcut]
    rw [hs] at h
    rcases List.mem_append.1 h with h | h
    · exact .inl h
    · rcases List.mem_cons.1 h with h | h
      · exact absurd h hc
      · rcases List.mem_cons.1 h with h | h
        · exact absurd h hc
        · exact .inr h
theorem read6_dot {s : List UInt8} (h : (46 : UInt8) ∈ s) : read6 s = none := by
  rcases cut_mem (c := 46) (by decide) h with h | h
  · exact read6_left (read16_dot h)
  · exact read6_right (read16_dot h)
theorem txt4_parts {a : List UInt8} (h : a.length = 16) : sp (txt4 a) = (a.drop 12).map (fun c => decN c.toNat) := by
  obtain ⟨x, y, z, u, hd⟩ := four_rest h
  unfold txt4
  rw [hd]
  exact sp_jn' (by simp) (fun g hg => (decs g hg).no46)
theorem has58 {s : List UInt8} (h : (58 : UInt8) ∈ s) : readA s = read6 s := by
  unfold readA; rw [if_pos (by rw [List.contains_iff_mem]; exact h)]
theorem no58 {s : List UInt8} (h : (58 : UInt8) ∉ s) : readA s = read4 s := by
  unfold readA; rw [if_neg (by rw [List.contains_iff_mem]; exact h)]
theorem mem46_txt4 {a : List UInt8} (h : a.length = 16) : (46 : UInt8) ∈ txt4 a := by
  obtain ⟨x, y, z, u, hd⟩ := four_rest h
  unfold txt4
  rw [hd]
  simp only [List.map_cons, List.map_nil, jn]
  simp
/-- a colon behind an address's text -/
theorem other_colon {a : List UInt8} (h : a.length = 16) : parseA (txt a ++ [58]) = none := by
  refine readA_other (a := a) (.inl ?_)
  rw [has58 (by simp)]
  by_cases h4 : isV4 a = true
  · refine read6_dot (List.mem_append_left _ ?_)
    unfold txt; rw [if_pos h4]; exact mem46_txt4 h
  · unfold txt; rw [if_neg h4]
    rcases txt6_form (grp_lt 8 a h) (grp_length 8 a h) with ⟨xs, hx, hne, e⟩ | ⟨xs, ys, hx, hy, e⟩
    · rw [e]
      refine read6_left ?_
      rw [cut_none (idx_no_gap_end hx hne)]
      exact read16_end _
    · rw [e]
      refine read6_right ?_
      rw [List.append_assoc, List.cons_append, List.cons_append, cut_at (idx_gap (jq ys ++ [58]) hx) rfl]
      exact read16_end _
/-- a point and a one behind it -/
theorem other_point {a : List UInt8} (h : a.length = 16) : parseA (txt a ++ [46, 49]) = none := by
  refine readA_other (a := a) (.inl ?_)
  by_cases h4 : isV4 a = true
  · have e : txt a = txt4 a := by unfold txt; rw [if_pos h4]
    rw [e, no58 (by
      intro hm
      rcases List.mem_append.1 hm with hm | hm
      · exact txt4_no58 a hm
      · simp at hm)]
    have hs : sp (txt4 a ++ [46, 49]) = sp (txt4 a) ++ [[49]] := sp_append (txt4 a) [49]
    unfold read4
    rw [hs]
    cases hr : rdAll 10 255 (sp (txt4 a) ++ [[49]]) with
    | none => rfl
    | some vs =>
      have hlen : vs.length = 5 := by
        rw [rdAll_len0 hr, List.length_append, txt4_parts h, List.length_map, List.length_drop, h]; rfl
      match vs, hlen with
      | [_, _, _, _, _], _ => rfl
  · rw [has58 (List.mem_append_left _ (by unfold txt; rw [if_neg h4]; exact txt6_colon (grp_length 8 a h)))]
    exact read6_dot (by simp)
theorem other_empty : parseA [] = none := by decide +kernel
/-- how an address's text begins -/
theorem txt_first {a : List UInt8} (h : a.length = 16) : ∃ g T : List UInt8, txt a = g ++ T ∧ ((g = [] ∧ T.head? = some 58) ∨ (g ≠ [] ∧ (∀ c ∈ g, hexB c = true) ∧ (∀ r, g = 48 :: r → r = []) ∧ (T = [] ∨ T.head? = some 46 ∨ T.head? = some 58))) := by
  by_cases h4 : isV4 a = true
  · obtain ⟨x, y, z, u, hd⟩ := four_rest h
    have hx := decN_dec x.toNat_lt
    refine ⟨decN x.toNat, 46 :: jn ([y, z, u].map fun c => decN c.toNat), ?_, .inr ⟨hx.ne, fun c hc => ?_, hx.lead, .inr (.inl rfl)⟩⟩
    · unfold txt; rw [if_pos h4]; unfold txt4; rw [hd]; rfl
    · unfold hexB; rw [hx.dig c hc]; rfl
  · unfold txt; rw [if_neg h4]
    rcases txt6_form (grp_lt 8 a h) (grp_length 8 a h) with ⟨xs, hx, hne, e⟩ | ⟨xs, ys, hx, hy, e⟩
    · rw [e]
      match xs, hx, hne with
      | [], _, hne => exact absurd rfl hne
      | [x], hx, _ =>
        have hn := hx x List.mem_cons_self
        exact ⟨x, [], by rw [List.append_nil]; rfl, .inr ⟨hn.ne, hn.hex, hn.lead, .inl rfl⟩⟩
      | x :: y :: t, hx, _ =>
        have hn := hx x List.mem_cons_self
        exact ⟨x, _, jq_cons x (by simp), .inr ⟨hn.ne, hn.hex, hn.lead, .inr (.inr rfl)⟩⟩
    · rw [e]
      match xs, hx with
      | [], _ => exact ⟨[], _, rfl, .inl ⟨rfl, rfl⟩⟩
      | [x], hx =>
        have hn := hx x List.mem_cons_self
        exact ⟨x, _, rfl, .inr ⟨hn.ne, hn.hex, hn.lead, .inr (.inr rfl)⟩⟩
      | x :: y :: t, hx =>
        have hn := hx x List.mem_cons_self
        exact ⟨x, _, by rw [jq_cons x (by simp), List.append_assoc, List.cons_append], .inr ⟨hn.ne, hn.hex, hn.lead, .inr (.inr rfl)⟩⟩
/-- the signs of an address's text -/
theorem jq_signs {P : UInt8 → Prop} (hP : P 58) : ∀ {xs : List (List UInt8)}, (∀ x ∈ xs, ∀ c ∈ x, P c) → ∀ c ∈ jq xs, P c := by
  intro xs hx c hc
  by_cases h : c = 58
  · rw [h]; exact hP
  · obtain ⟨x, hm, hcx⟩ := mem_jq h hc
    exact hx x hm c hcx
theorem txt_signs {a : List UInt8} (h : a.length = 16) : ∀ c ∈ txt a, hexB c = true ∨ c = 46 ∨ c = 58 := by
  intro c hc
  by_cases h4 : isV4 a = true
  · obtain ⟨x, y, z, u, hd⟩ := four_rest h
    have e : txt a = txt4 a := by unfold txt; rw [if_pos h4]
    rw [e] at hc
    unfold txt4 at hc
    rw [hd] at hc
    have D : ∀ v : UInt8, c ∈ decN v.toNat → hexB c = true := fun v hv => by unfold hexB; rw [(decN_dec v.toNat_lt).dig c hv]; rfl
    simp only [List.map_cons, List.map_nil, jn, List.mem_append, List.mem_cons] at hc
    rcases hc with hc | hc | hc | hc | hc | hc | hc
    · exact .inl (D _ hc)
    · exact .inr (.inl hc)
    · exact .inl (D _ hc)
    · exact .inr (.inl hc)
    · exact .inl (D _ hc)
    · exact .inr (.inl hc)
    · exact .inl (D _ hc)
  · have e : txt a = txt6 (grp a) := by unfold txt; rw [if_neg h4]
    rw [e] at hc
    rcases txt6_form (grp_lt 8 a h) (grp_length 8 a h) with ⟨xs, hx, _, e⟩ | ⟨xs, ys, hx, hy, e⟩
    · rw [e] at hc
      exact jq_signs (P := fun c => hexB c = true ∨ c = 46 ∨ c = 58) (.inr (.inr rfl)) (fun x hm d hd => .inl ((hx x hm).hex d hd)) c hc
    · rw [e] at hc
      rcases List.mem_append.1 hc with hc | hc
      · exact jq_signs (P := fun c => hexB c = true ∨ c = 46 ∨ c = 58) (.inr (.inr rfl)) (fun x hm d hd => .inl ((hx x hm).hex d hd)) c hc
      · rcases List.mem_cons.1 hc with hc | hc
        · exact .inr (.inr hc)
        · rcases List.mem_cons.1 hc with hc | hc
          · exact .inr (.inr hc)
          · exact jq_signs (P := fun c => hexB c = true ∨ c = 46 ∨ c = 58) (.inr (.inr rfl)) (fun x hm d hd => .inl ((hy x hm).hex d hd)) c hc
theorem parseA_none {t : List UInt8} (h : ∀ b : List UInt8, b.length = 16 → txt b ≠ t) : parseA t = none := by
  cases e : parseA t with
  | none => rfl
  | some b => exact absurd (parseA_some e).1 (h b (parseA_some e).2)
/-- a nought ahead of an address's text that begins with a sign -/
theorem other_nought {a : List UInt8} (h : a.length = 16) (hc : (txt a).head? ≠ some 58) : parseA (48 :: txt a) = none := by
  refine parseA_none fun b hb e => ?_
  obtain ⟨g, T, ea, ha⟩ := txt_first h
  obtain ⟨g', T', eb, hb'⟩ := txt_first hb
  rcases ha with ⟨hg, hT⟩ | ⟨hg, hex, _, _⟩
  · rw [ea, hg] at hc; exact hc hT
  · rcases hb' with ⟨hg', hT'⟩ | ⟨hg', _, hl, hT'⟩
    · rw [eb, hg', List.nil_append] at e
      rw [e] at hT'
      exact absurd hT' (by simp)
    · rw [eb] at e
      match g', hg' with
      | c :: r, _ =>
        rw [List.cons_append] at e
        injection e with e1 e2
        rw [e1] at hl
        have hr := hl r rfl
        rw [hr, List.nil_append] at e2
        rw [ea] at e2
        match g, hg with
        | d :: w, _ =>
          have hd := hexB_no (hex d List.mem_cons_self)
          rw [e2] at hT'
          rcases hT' with hT' | hT' | hT'
          · cases hT'
          · rw [List.cons_append, List.head?_cons] at hT'; injection hT' with hT'; exact hd.1 hT'
          · rw [List.cons_append, List.head?_cons] at hT'; injection hT' with hT'; exact hd.2 hT'
/-- a nought and a colon ahead of an address's text that begins with colons -/
theorem other_gap {a : List UInt8} (h : a.length = 16) (hc : (txt a).head? = some 58) : parseA (48 :: 58 :: txt a) = none := by
  refine readA_other (a := a) (.inl ?_)
  rw [has58 (by simp)]
  have h4 : isV4 a ≠ true := fun h4 => by
    have e : txt a = txt4 a := by unfold txt; rw [if_pos h4]
    rw [e] at hc
    exact txt4_no58 a (List.mem_of_mem_head? hc)
  unfold txt at hc ⊢
  rw [if_neg h4] at hc ⊢
  rcases txt6_form (grp_lt 8 a h) (grp_length 8 a h) with ⟨xs, hx, hne, e⟩ | ⟨xs, ys, hx, hy, e⟩
  · rw [e] at hc
    exact absurd hc (by have := jq_head hx hne []; rwa [List.append_nil] at this)
  · have hxs : xs = [] := Classical.byContradiction fun hne => by
      rw [e] at hc
      exact jq_head hx hne _ hc
    rw [e, hxs]
    refine read6_right ?_
    have hn : ∀ x ∈ [[(48 : UInt8)]], Num x := by
      intro x hm
      rw [List.mem_singleton] at hm
      subst hm
      exact ⟨by decide, by decide, fun r e => by injection e with _ e; exact e.symm, by decide⟩
    have hi := idx_gap (58 :: jq ys) hn
    have hcut := cut_at (x := [48]) (y := 58 :: jq ys) hi rfl
    show read16 (Go.Lib.cut ([48] ++ 58 :: 58 :: (58 :: jq ys)) [58, 58]).2.1 = none
    rw [hcut]
    exact read16_start _
/-- a letter of base 16 as a capital -/
def cap (c : UInt8) : UInt8 := if 97 ≤ c.toNat ∧ c.toNat ≤ 102 then c - 32 else c
def lowH (c : UInt8) : Bool := decide (97 ≤ c.toNat ∧ c.toNat ≤ 102)
theorem cap_keep {c : UInt8} (h : lowH c = false) : cap c = c := by
  unfold cap lowH at *
  simp only [decide_eq_false_iff_not] at h
  rw [if_neg h]
theorem cap_bad : ∀ c : UInt8, lowH c = true → ¬ (hexB (cap c) = true ∨ cap c = 46 ∨ cap c = 58) := by
  have H : ∀ k : Fin 256, lowH (UInt8.ofNat k.val) = true → ¬ (hexB (cap (UInt8.ofNat k.val)) = true ∨ cap (UInt8.ofNat k.val) = 46 ∨ cap (UInt8.ofNat k.val) = 58) := by decide +kernel
  intro c hc
  have := H ⟨c.toNat, c.toNat_lt⟩
  rw [UInt8.ofNat_toNat] at this
  exact this hc
theorem map_cap_keep : ∀ {s : List UInt8}, s.any lowH = false → s.map cap = s
  | [], _ => rfl
  | c :: t, h => by
    rw [List.any_cons, Bool.or_eq_false_iff] at h
    rw [List.map_cons, cap_keep h.1, map_cap_keep h.2]
/-- capitals in an address's text -/
theorem other_caps {a : List UInt8} (h : a.length = 16) : parseA ((txt a).map cap) = if (txt a).any lowH = true then none else some a := by
  by_cases hl : (txt a).any lowH = true
  · rw [if_pos hl]
    refine parseA_none fun b hb e => ?_
    obtain ⟨c, hc, hlow⟩ := List.any_eq_true.1 hl
    exact cap_bad c hlow (txt_signs hb (cap c) (by rw [e]; exact List.mem_map_of_mem hc))
  · rw [if_neg hl, map_cap_keep (by simpa using hl)]
    exact parseA_txt h
theorem txt_ne {a : List UInt8} (h : a.length = 16) : txt a ≠ [] := by
  obtain ⟨g, T, e, hg | hg⟩ := txt_first h
  · rw [e, hg.1]; intro e2; rw [List.nil_append] at e2; rw [e2] at hg; cases hg.2
  · rw [e]; intro e2; exact hg.1 (List.append_eq_nil_iff.1 e2).1
end Go.Proofs.YtpnlgojbmjfhhaaGreatDoor
