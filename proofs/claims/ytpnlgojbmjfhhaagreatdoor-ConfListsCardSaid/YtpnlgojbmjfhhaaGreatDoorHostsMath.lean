/-
  Plain facts on the hosts text, no program: the words of a line, the lines that tell something, what they are told as, and what is found in them. No condition.
-/
import Derived.Test.YtpnlgojbmjfhhaaGreatDoorNameFacts
import Derived.Test.YtpnlgojbmjfhhaaGreatDoorAddrRevMath
namespace Go.Proofs.YtpnlgojbmjfhhaaGreatDoor

/-! Words. -/
def spc (c : UInt8) : Bool := c == 32 || c == 9
/-- the words of what comes, behind the word that stands so far -/
def fw : List UInt8 → List UInt8 → List (List UInt8)
  | cur, [] => if cur = [] then [] else [cur]
  | cur, c :: l => if spc c = true then (if cur = [] then fw [] l else cur :: fw [] l) else fw (cur ++ [c]) l
/-- what stands up to a # -/
def toldL : List UInt8 → List UInt8
  | [] => []
  | c :: l => if c = 35 then [] else c :: toldL l
def wordsL (s : List UInt8) : List (List UInt8) := fw [] (toldL s)
theorem fw_plain : ∀ (x cur r : List UInt8), (∀ c ∈ x, spc c = false) → fw cur (x ++ r) = fw (cur ++ x) r
  | [], cur, r, _ => by rw [List.nil_append, List.append_nil]
  | c :: x, cur, r, h => by
    rw [List.cons_append, fw, if_neg (by rw [h c List.mem_cons_self]; decide), fw_plain x _ r (fun d hd => h d (List.mem_cons_of_mem _ hd)), List.append_assoc]; rfl
theorem fw_space {c : UInt8} (hc : spc c = true) (cur l : List UInt8) : fw cur (c :: l) = (if cur = [] then [] else [cur]) ++ fw [] l := by
  rw [fw, if_pos hc]
  split <;> rfl
theorem toldL_plain : ∀ {s : List UInt8}, (35 : UInt8) ∉ s → toldL s = s
  | [], _ => rfl
  | c :: l, h => by
    rw [toldL, if_neg (fun e => h (by rw [e]; exact List.mem_cons_self)), toldL_plain (fun hm => h (List.mem_cons_of_mem _ hm))]
theorem toldL_cut : ∀ s : List UInt8, toldL s = (Go.Lib.cut s [35]).1
  | [] => rfl
  | c :: l => by
    have ih := toldL_cut l
    unfold Go.Lib.cut at ih ⊢
    by_cases hc : c = 35
    · subst hc
      rw [toldL, if_pos rfl, Go.Lib.index, if_pos (by simp [List.isPrefixOf])]
      rfl
    · have hi : Go.Lib.index (c :: l) [35] = if Go.Lib.index l [35] = -1 then -1 else Go.Lib.index l [35] + 1 := by
        rw [Go.Lib.index, if_neg]
        · simp only [beq_iff_eq]
        · simp [List.isPrefixOf, Ne.symm hc]
      rw [toldL, if_neg hc, ih, hi]
      have hge := Go.Lib.index_ge l [35]
      by_cases h1 : Go.Lib.index l [35] = -1
      · rw [if_neg (by omega), if_pos h1, if_neg (by omega)]
      · rw [if_pos (by omega), if_neg h1, if_pos (by omega)]
        simp only
        rw [show (Go.Lib.index l [35] + 1).toNat = (Go.Lib.index l [35]).toNat + 1 by omega, List.take_succ_cons]
theorem fw_len : ∀ (l cur : List UInt8), ∀ x ∈ fw cur l, x.length ≤ cur.length + l.length
  | [], cur, x, h => by
    rw [fw] at h
    split at h
    · cases h
    · rw [List.mem_singleton] at h; subst h; simp
  | c :: l, cur, x, h => by
    rw [fw] at h
    split at h
    · split at h
      · have := fw_len l [] x h; simp only [List.length_nil, List.length_cons] at this ⊢; omega
      · rcases List.mem_cons.1 h with rfl | h
        · omega
        · have := fw_len l [] x h; simp only [List.length_nil, List.length_cons] at this ⊢; omega
    · have := fw_len l _ x h
      simp only [List.length_append, List.length_cons, List.length_nil] at this ⊢; omega
theorem fw_count : ∀ (l cur : List UInt8), (fw cur l).length ≤ l.length + 1
  | [], cur => by rw [fw]; split <;> simp
  | c :: l, cur => by
    rw [fw]
    split
    · split
      · have := fw_count l []; simp only [List.length_cons]; omega
      · have := fw_count l []; simp only [List.length_cons]; omega
    · have := fw_count l (cur ++ [c]); simp only [List.length_cons]; omega
theorem toldL_len : ∀ s : List UInt8, (toldL s).length ≤ s.length
  | [] => Nat.le_refl _
  | c :: l => by rw [toldL]; split <;> simp [toldL_len l]
theorem words_len {s x : List UInt8} (h : x ∈ wordsL s) : x.length ≤ s.length := by
  have := fw_len _ _ x h
  have := toldL_len s
  simp only [List.length_nil] at *; omega

/-! Lines. -/
/-- the lines of a text, parted by newlines -/
def nl : List UInt8 → List (List UInt8)
  | [] => [[]]
  | c :: l => if c = 10 then [] :: nl l else match nl l with
    | x :: t => (c :: x) :: t
    | [] => [[c]]
theorem nl_ne (l : List UInt8) : nl l ≠ [] := by
  cases l with
  | nil => simp [nl]
  | cons c l =>
    rw [nl]
    split
    · simp
    · split <;> simp
theorem nl_other {c : UInt8} (hc : ¬ c = 10) {l x : List UInt8} {t : List (List UInt8)} (h : nl l = x :: t) : nl (c :: l) = (c :: x) :: t := by rw [nl, if_neg hc, h]
theorem nl_append (a b : List UInt8) : nl (a ++ 10 :: b) = nl a ++ nl b := by
  induction a with
  | nil =>
    show (if (10 : UInt8) = 10 then [] :: nl b else _) = _
    rw [if_pos rfl]; rfl
  | cons c a ih =>
    rw [List.cons_append]
    by_cases hc : c = 10
    · rw [nl, if_pos hc, nl, if_pos hc, ih]; rfl
    · cases h : nl a with
      | nil => exact absurd h (nl_ne a)
      | cons x t =>
        rw [nl_other hc h, nl_other hc (x := x) (t := t ++ nl b) (by rw [ih, h]; rfl)]; rfl
theorem nl_plain {a : List UInt8} (h : (10 : UInt8) ∉ a) : nl a = [a] := by
  induction a with
  | nil => rfl
  | cons c a ih => exact nl_other (fun e => h (by rw [e]; exact List.mem_cons_self)) (ih fun hm => h (List.mem_cons_of_mem _ hm))
theorem nl_none {l : List UInt8} (h : Go.Lib.index l [10] = -1) : nl l = [l] := by
  apply nl_plain
  induction l with
  | nil => simp
  | cons c l ih =>
    rw [Go.Lib.index] at h
    by_cases hc : c = 10
    · subst hc
      rw [if_pos (by simp [List.isPrefixOf])] at h
      omega
    · rw [if_neg (by simp [List.isPrefixOf, Ne.symm hc])] at h
      have hge := Go.Lib.index_ge l [10]
      simp only [beq_iff_eq] at h
      split at h
      · rename_i h1
        intro hm
        rcases List.mem_cons.1 hm with hm | hm
        · exact hc hm.symm
        · exact ih h1 hm
      · omega
theorem nl_some : ∀ {l : List UInt8}, 0 ≤ Go.Lib.index l [10] → nl l = (Go.Lib.cut l [10]).1 :: nl (Go.Lib.cut l [10]).2.1
  | [], h => by exact absurd h (by decide)
  | c :: l, h => by
    by_cases hc : c = 10
    · subst hc
      have hi : Go.Lib.index (10 :: l) [10] = 0 := by rw [Go.Lib.index, if_pos (by simp [List.isPrefixOf])]
      unfold Go.Lib.cut
      rw [hi, if_pos (by omega), nl, if_pos rfl]
      rfl
    · have hi : Go.Lib.index (c :: l) [10] = if Go.Lib.index l [10] = -1 then -1 else Go.Lib.index l [10] + 1 := by
        rw [Go.Lib.index, if_neg (by simp [List.isPrefixOf, Ne.symm hc])]
        simp only [beq_iff_eq]
      have hge := Go.Lib.index_ge l [10]
      rw [hi] at h
      split at h
      · omega
      · rename_i h1
        have ih := nl_some (l := l) (by omega)
        rw [nl_other hc ih]
        unfold Go.Lib.cut
        rw [hi, if_neg h1, if_pos (by omega), if_pos (by omega)]
        simp only
        rw [show (Go.Lib.index l [10] + 1).toNat = (Go.Lib.index l [10]).toNat + 1 by omega]
        simp only [List.take_succ_cons, List.length_cons, List.length_nil]
        rw [show (Go.Lib.index l [10]).toNat + 1 + (0 + 1) = (Go.Lib.index l [10]).toNat + (0 + 1) + 1 by omega, List.drop_succ_cons]

/-- a line that tells something -/
structure HostM where
  addr : List UInt8
  names : List (List UInt8)
/-- names as they go out; none, if one doesn't -/
inductive NamesR : List (List UInt8) → Option (List (List UInt8)) → Prop
  | nil : NamesR [] (some [])
  | bad {x t : List UInt8} {l : List (List UInt8)} {e : Nat} (h : TA x e t) (he : e ≠ 0) : NamesR (x :: l) none
  | ok {x t : List UInt8} {l ts : List (List UInt8)} (h : TA x 0 t) (hl : NamesR l (some ts)) : NamesR (x :: l) (some (t :: ts))
  | later {x t : List UInt8} {l : List (List UInt8)} (h : TA x 0 t) (hl : NamesR l none) : NamesR (x :: l) none
theorem NamesR.det : ∀ {l : List (List UInt8)} {r r' : Option (List (List UInt8))}, NamesR l r → NamesR l r' → r = r'
  | [], _, _, h, h' => by cases h; cases h'; rfl
  | x :: l, _, _, h, h' => by
    cases h with
    | bad h he =>
      cases h' with
      | bad => rfl
      | ok h2 => exact absurd (h.det h2).1 he
      | later => rfl
    | ok h hl =>
      cases h' with
      | bad h2 he => exact absurd (h2.det h).1 he
      | ok h2 hl2 =>
        have e1 := (h.det h2).2
        have e2 := hl.det hl2
        injection e2 with e2
        rw [e1, e2]
      | later h2 hl2 => have := hl.det hl2; cases this
    | later h hl =>
      cases h' with
      | bad => rfl
      | ok h2 hl2 => have := hl.det hl2; cases this
      | later => rfl
theorem NamesR.length {l ts : List (List UInt8)} (h : NamesR l (some ts)) : ts.length = l.length := by
  induction l generalizing ts with
  | nil => cases h; rfl
  | cons x l ih => cases h with | ok h hl => rw [List.length_cons, List.length_cons, ih hl]
theorem NamesR.out {l ts : List (List UInt8)} (h : NamesR l (some ts)) : ∀ t ∈ ts, TA t 0 t := by
  induction l generalizing ts with
  | nil => cases h; simp
  | cons x l ih =>
    cases h with
    | ok h hl =>
      intro t ht
      rcases List.mem_cons.1 ht with rfl | ht
      · exact h.back.1
      · exact ih hl t ht
/-- names of which the first are as they are, and one may not be -/
theorem NamesR.fail : ∀ {l : List (List UInt8)} {k : Nat} {ts : List (List UInt8)} {x t : List UInt8} {e : Nat}, NamesR (l.take k) (some ts) → l[k]? = some x → TA x e t → e ≠ 0 → NamesR l none
  | [], k, _, _, _, _, _, h, _, _ => by simp at h
  | y :: l, 0, _, x, t, e, _, h, ht, he => by
    rw [List.getElem?_cons_zero, Option.some.injEq] at h
    subst h
    exact .bad ht he
  | y :: l, k + 1, ts, x, t, e, hn, h, ht, he => by
    rw [List.take_succ_cons] at hn
    cases hn with
    | ok h2 hl => exact .later h2 (hl.fail (by simpa using h) ht he)
theorem NamesR.snoc : ∀ {l ts : List (List UInt8)} {x t : List UInt8}, NamesR l (some ts) → TA x 0 t → NamesR (l ++ [x]) (some (ts ++ [t]))
  | [], _, x, t, h, ht => by cases h; exact .ok ht .nil
  | y :: l, _, x, t, h, ht => by
    cases h with
    | ok h2 hl => exact .ok h2 (hl.snoc ht)
/-- a line -/
inductive LineR (x : List UInt8) : Option HostM → Prop
  | short (h : (wordsL x).length < 2) : LineR x none
  | noaddr {a : List UInt8} {l : List (List UInt8)} (hw : wordsL x = a :: l) (ha : parseA a = none) : LineR x none
  | noname {a b : List UInt8} {l : List (List UInt8)} (hw : wordsL x = a :: l) (hl : l ≠ []) (ha : parseA a = some b) (hn : NamesR l none) : LineR x none
  | ok {a b : List UInt8} {l ns : List (List UInt8)} (hw : wordsL x = a :: l) (hl : l ≠ []) (ha : parseA a = some b) (hn : NamesR l (some ns)) : LineR x (some ⟨b, ns⟩)
theorem LineR.det {x : List UInt8} {r r' : Option HostM} (h : LineR x r) (h' : LineR x r') : r = r' := by
  cases h with
  | short h =>
    cases h' with
    | short => rfl
    | noaddr => rfl
    | noname => rfl
    | ok hw hl => rw [hw] at h; exact absurd (List.length_pos_iff.2 hl) (by simp only [List.length_cons] at h; omega)
  | noaddr hw ha =>
    cases h' with
    | short => rfl
    | noaddr => rfl
    | noname => rfl
    | ok hw' _ ha' => rw [hw] at hw'; injection hw' with e _; rw [e, ha'] at ha; cases ha
  | noname hw hl ha hn =>
    cases h' with
    | short => rfl
    | noaddr => rfl
    | noname => rfl
    | ok hw' _ ha' hn' => rw [hw] at hw'; injection hw' with _ e; rw [e] at hn; have := hn.det hn'; cases this
  | ok hw hl ha hn =>
    cases h' with
    | short h' => rw [hw] at h'; exact absurd (List.length_pos_iff.2 hl) (by simp only [List.length_cons] at h'; omega)
    | noaddr hw' ha' => rw [hw] at hw'; injection hw' with e _; rw [e, ha'] at ha; cases ha
    | noname hw' _ _ hn' => rw [hw] at hw'; injection hw' with _ e; rw [e] at hn; have := hn.det hn'; cases this
    | ok hw' _ ha' hn' =>
      rw [hw] at hw'
      injection hw' with e1 e2
      rw [e1, ha'] at ha
      rw [e2] at hn
      injection ha with ha
      have e := hn.det hn'
      injection e with e
      rw [ha, e]
/-- a host that may stand in a list that was read -/
structure Good (h : HostM) : Prop where
  len : h.addr.length = 16
  ne : h.names ≠ []
  out : ∀ t ∈ h.names, TA t 0 t
theorem LineR.good {x : List UInt8} {h : HostM} (hr : LineR x (some h)) : Good h := by
  cases hr with
  | ok hw hl ha hn =>
    refine ⟨(parseA_some ha).2, fun e => hl ?_, hn.out⟩
    have hl2 := hn.length
    simp only at e
    rw [e] at hl2
    exact List.length_eq_zero_iff.1 hl2.symm
/-- the first lines that tell something, k at most -/
inductive Pd : Nat → List (List UInt8) → List HostM → Prop
  | full {ls : List (List UInt8)} : Pd 0 ls []
  | done {k : Nat} : Pd (k + 1) [] []
  | skip {k : Nat} {x : List UInt8} {ls : List (List UInt8)} {l : List HostM} (h : LineR x none) (hp : Pd (k + 1) ls l) : Pd (k + 1) (x :: ls) l
  | take {k : Nat} {x : List UInt8} {ls : List (List UInt8)} {a : HostM} {l : List HostM} (h : LineR x (some a)) (hp : Pd k ls l) : Pd (k + 1) (x :: ls) (a :: l)
theorem Pd.det : ∀ {ls : List (List UInt8)} {k : Nat} {l l' : List HostM}, Pd k ls l → Pd k ls l' → l = l'
  | _, 0, _, _, h, h' => by cases h; cases h'; rfl
  | [], k + 1, _, _, h, h' => by cases h; cases h'; rfl
  | x :: ls, k + 1, _, _, h, h' => by
    cases h with
    | skip h hp =>
      cases h' with
      | skip h2 hp2 => exact hp.det hp2
      | take h2 hp2 => have := h.det h2; cases this
    | take h hp =>
      cases h' with
      | skip h2 hp2 => have := h.det h2; cases this
      | take h2 hp2 =>
        have e := h.det h2
        injection e with e
        rw [e, hp.det hp2]
theorem Pd.len : ∀ {ls : List (List UInt8)} {k : Nat} {l : List HostM}, Pd k ls l → l.length ≤ k
  | _, 0, _, h => by cases h; exact Nat.le_refl _
  | [], k + 1, _, h => by cases h; exact Nat.zero_le _
  | x :: ls, k + 1, _, h => by
    cases h with
    | skip h hp => exact hp.len
    | take h hp => have := hp.len; simp only [List.length_cons]; omega
theorem Pd.good : ∀ {ls : List (List UInt8)} {k : Nat} {l : List HostM}, Pd k ls l → ∀ h ∈ l, Good h
  | _, 0, _, h => by cases h; simp
  | [], k + 1, _, h => by cases h; simp
  | x :: ls, k + 1, _, h => by
    cases h with
    | skip h hp => exact hp.good
    | take h hp =>
      intro g hg
      rcases List.mem_cons.1 hg with rfl | hg
      · exact h.good
      · exact hp.good g hg
/-- fewer lines: the first ones -/
theorem Pd.fewer : ∀ {ls : List (List UInt8)} {k m : Nat} {l : List HostM}, Pd k ls l → m ≤ k → Pd m ls (l.take m)
  | _, k, 0, l, _, _ => by rw [List.take_zero]; exact .full
  | _, 0, m + 1, _, _, hm => absurd hm (by omega)
  | [], k + 1, m + 1, _, h, _ => by cases h; exact .done
  | x :: ls, k + 1, m + 1, _, h, hm => by
    cases h with
    | skip h hp => exact .skip h (hp.fewer hm)
    | take h hp => rw [List.take_succ_cons]; exact .take h (hp.fewer (by omega))
/-- lines behind others -/
theorem Pd.append : ∀ {ls ms : List (List UInt8)} {k : Nat} {l m : List HostM}, Pd k ls l → Pd (k - l.length) ms m → Pd k (ls ++ ms) (l ++ m)
  | ls, ms, 0, _, m, h, h' => by
    cases h
    have : m = [] := by cases h'; rfl
    subst this
    exact .full
  | [], ms, k + 1, _, m, h, h' => by cases h; exact h'
  | x :: ls, ms, k + 1, _, m, h, h' => by
    cases h with
    | skip h hp => exact .skip h (hp.append h')
    | take h hp =>
      refine .take h (hp.append ?_)
      rw [List.length_cons, Nat.add_sub_add_right] at h'
      exact h'
theorem pd_lines {a b : List UInt8} {x y z : List HostM} (hx : Pd 64 (nl a) x) (hy : Pd 64 (nl b) y) (hz : Pd 64 (nl (a ++ 10 :: b)) z) : z = (x ++ y).take 64 := by
  rw [nl_append] at hz
  have h := hx.append (hy.fewer (m := 64 - x.length) (by omega))
  rw [hz.det h, List.take_append, List.take_of_length_le hx.len]

/-! What is told is read again. -/
def nmT (ns : List (List UInt8)) : List UInt8 := ns.flatMap fun n => 32 :: n
def lineT (h : HostM) : List UInt8 := txt h.addr ++ nmT h.names
def printL (l : List HostM) : List UInt8 := l.flatMap fun h => lineT h ++ [10]
theorem jn_sign {P : UInt8 → Prop} (hP : P 46) : ∀ {xs : List (List UInt8)}, (∀ x ∈ xs, ∀ c ∈ x, P c) → ∀ c ∈ jn xs, P c
  | [], _, c, hc => by cases hc
  | [x], h, c, hc => h x List.mem_cons_self c hc
  | x :: y :: t, h, c, hc => by
    rw [jn_cons x (by simp)] at hc
    rcases List.mem_append.1 hc with hc | hc
    · exact h x List.mem_cons_self c hc
    · rcases List.mem_cons.1 hc with hc | hc
      · rw [hc]; exact hP
      · exact jn_sign hP (fun z hz => h z (List.mem_cons_of_mem _ hz)) c hc
/-- a sign that parts nothing -/
def inW (c : UInt8) : Prop := spc c = false ∧ c ≠ 35 ∧ c ≠ 10
theorem stN_inW {c : UInt8} (h : stN c.toNat) : inW c := by
  refine ⟨?_, ?_, ?_⟩
  · unfold spc
    rw [Bool.or_eq_false_iff, beq_eq_false_iff_ne, beq_eq_false_iff_ne]
    exact ⟨fun e => by subst e; exact absurd h (by unfold stN; decide), fun e => by subst e; exact absurd h (by unfold stN; decide)⟩
  · rintro rfl; exact absurd h (by unfold stN; decide)
  · rintro rfl; exact absurd h (by unfold stN; decide)
theorem out_signs {t : List UInt8} (h : TA t 0 t) : t ≠ [] ∧ ∀ c ∈ t, inW c := by
  obtain ⟨h1, _, _⟩ := h.right
  have hj := jn_sp t
  refine ⟨?_, fun c hc => ?_⟩
  · rintro rfl
    exact (h1 [] (by decide)).ne rfl
  · rw [← hj] at hc
    exact jn_sign (P := inW) (by unfold inW; decide) (fun x hx c hc => stN_inW ((h1 x hx).all c hc)) c hc
theorem hexB_inW : ∀ c : UInt8, (hexB c = true ∨ c = 46 ∨ c = 58) → inW c := by
  have h : ∀ k : Fin 256, (hexB (UInt8.ofNat k.val) = true ∨ UInt8.ofNat k.val = 46 ∨ UInt8.ofNat k.val = 58) → (spc (UInt8.ofNat k.val) = false ∧ UInt8.ofNat k.val ≠ 35 ∧ UInt8.ofNat k.val ≠ 10) := by decide +kernel
  intro c
  have := h ⟨c.toNat, c.toNat_lt⟩
  simpa [inW] using this
theorem fw_names : ∀ {ts : List (List UInt8)} {cur : List UInt8}, (∀ t ∈ ts, t ≠ [] ∧ ∀ c ∈ t, spc c = false) → cur ≠ [] → fw cur (nmT ts) = cur :: ts
  | [], cur, _, hc => by
    show fw cur [] = _
    rw [fw, if_neg hc]
  | n :: ns, cur, h, hc => by
    have e : nmT (n :: ns) = 32 :: (n ++ nmT ns) := by unfold nmT; rw [List.flatMap_cons]; rfl
    obtain ⟨h1, h2⟩ := h n List.mem_cons_self
    rw [e, fw_space (by decide), if_neg hc, fw_plain n [] _ h2, List.nil_append, fw_names (fun t ht => h t (List.mem_cons_of_mem _ ht)) h1]
    rfl
theorem nmT_signs {ts : List (List UInt8)} (h : ∀ t ∈ ts, ∀ c ∈ t, inW c) {c : UInt8} (hc : c ∈ nmT ts) : c = 32 ∨ inW c := by
  unfold nmT at hc
  obtain ⟨t, ht, hc⟩ := List.mem_flatMap.1 hc
  rcases List.mem_cons.1 hc with hc | hc
  · exact .inl hc
  · exact .inr (h t ht c hc)
theorem line_signs {h : HostM} (hg : Good h) {c : UInt8} (hc : c ∈ lineT h) : c ≠ 35 ∧ c ≠ 10 := by
  unfold lineT at hc
  rcases List.mem_append.1 hc with hc | hc
  · exact (hexB_inW c (txt_signs hg.len c hc)).2
  · rcases nmT_signs (fun t ht => (out_signs (hg.out t ht)).2) hc with rfl | hc
    · decide
    · exact hc.2
theorem words_line {h : HostM} (hg : Good h) : wordsL (lineT h) = txt h.addr :: h.names := by
  unfold wordsL
  rw [toldL_plain (fun hm => (line_signs hg hm).1 rfl)]
  unfold lineT
  rw [fw_plain _ _ _ (fun c hc => (hexB_inW c (txt_signs hg.len c hc)).1), List.nil_append]
  exact fw_names (fun t ht => ⟨(out_signs (hg.out t ht)).1, fun c hc => ((out_signs (hg.out t ht)).2 c hc).1⟩) (txt_ne hg.len)
theorem names_back : ∀ {ts : List (List UInt8)}, (∀ t ∈ ts, TA t 0 t) → NamesR ts (some ts)
  | [], _ => .nil
  | n :: _, h => .ok (h n List.mem_cons_self) (names_back fun t ht => h t (List.mem_cons_of_mem _ ht))
theorem line_back {h : HostM} (hg : Good h) : LineR (lineT h) (some h) :=
  .ok (words_line hg) hg.ne (parseA_txt hg.len) (names_back hg.out)
theorem nl_print : ∀ {l : List HostM}, (∀ h ∈ l, Good h) → nl (printL l) = l.map lineT ++ [[]]
  | [], _ => rfl
  | h :: l, hg => by
    have e : printL (h :: l) = lineT h ++ 10 :: printL l := by unfold printL; rw [List.flatMap_cons, List.append_assoc]; rfl
    rw [e, nl_append, nl_plain (fun hm => (line_signs (hg h List.mem_cons_self) hm).2 rfl), nl_print (fun g hg' => hg g (List.mem_cons_of_mem _ hg'))]
    rfl
theorem pd_back : ∀ {l : List HostM} (k : Nat), (∀ h ∈ l, Good h) → Pd k (l.map lineT ++ [[]]) (l.take k)
  | l, 0, _ => by rw [List.take_zero]; exact .full
  | [], k + 1, _ => .skip (.short (by decide)) .done
  | h :: l, k + 1, hg => by
    rw [List.take_succ_cons]
    exact .take (line_back (hg h List.mem_cons_self)) (pd_back k fun g hg' => hg g (List.mem_cons_of_mem _ hg'))
/-- what was told is read as it was -/
theorem pd_print {l m : List HostM} (hg : ∀ h ∈ l, Good h) (h : Pd 64 (nl (printL l)) m) : m = l.take 64 := by
  rw [nl_print hg] at h
  exact h.det (pd_back 64 hg)

/-! What is found. -/
structure RecM where
  addr : List UInt8
  text : List UInt8
def zero16' : List UInt8 := List.replicate 16 0
def famOf (a : List UInt8) : Int := if isV4 a = true then 1 else 28
def hitH (n : List UInt8) (h : HostM) : Bool := rvT h.addr == n || h.names.contains n
def recH (n : List UInt8) (kind : Int) (h : HostM) : Option RecM :=
  if rvT h.addr = n then (if kind = 12 ∧ h.names ≠ [] then some ⟨zero16', h.names.headD []⟩ else none)
  else if h.names.contains n = true ∧ kind = famOf h.addr then some ⟨h.addr, []⟩ else none
def findL (l : List HostM) (n : List UInt8) (kind : Int) : List RecM := (l.filterMap (recH n kind)).take 32
theorem rec_rev {l : List HostM} {h : HostM} (hg : ∀ g ∈ l, Good g) (hh : Good h) :
    l.filterMap (recH (rvT h.addr) 12) = (l.filter fun g => g.addr == h.addr).map fun g => ⟨zero16', g.names.headD []⟩ := by
  induction l with
  | nil => rfl
  | cons g l ih =>
    have ih := ih fun x hx => hg x (List.mem_cons_of_mem _ hx)
    have hgg := hg g List.mem_cons_self
    by_cases he : g.addr = h.addr
    · have e : recH (rvT h.addr) 12 g = some ⟨zero16', g.names.headD []⟩ := by
        unfold recH
        rw [if_pos (by rw [he]), if_pos ⟨rfl, hgg.ne⟩]
      rw [List.filterMap_cons_some e, List.filter_cons, if_pos (by rw [he]; exact beq_self_eq_true _), List.map_cons, ih]
    · have hf : ¬ (12 : Int) = famOf g.addr := by unfold famOf; split <;> decide
      have e : recH (rvT h.addr) 12 g = none := by
        unfold recH
        rw [if_neg (fun e => he (rv_inj hgg.len hh.len e)), if_neg (fun e => hf e.2)]
      rw [List.filterMap_cons_none e, List.filter_cons, if_neg (by rw [beq_eq_false_iff_ne.2 he]; decide), ih]
end Go.Proofs.YtpnlgojbmjfhhaaGreatDoor
