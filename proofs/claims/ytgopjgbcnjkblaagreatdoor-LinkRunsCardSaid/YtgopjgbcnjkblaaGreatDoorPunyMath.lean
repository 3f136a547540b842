/-
  Plain facts on Punycode, no program: the digits of a number, how runes come out of digits, that no two rows of digits lead to the same runes, and how runes are gone through when they are written. No condition.
-/
import Derived.Lib.Split
namespace Go.Proofs.YtgopjgbcnjkblaaGreatDoor

/-- a rune that may be -/
def okR (r : Nat) : Prop := r < 55296 ∨ (57343 < r ∧ r ≤ 1114111)
theorem okR_le {r : Nat} (h : okR r) : r ≤ 1114111 := by unfold okR at h; omega
def thr (k b : Nat) : Nat := min (max (k - b) 1) 26
theorem thr_bd (k b : Nat) : 1 ≤ thr k b ∧ thr k b ≤ 26 := by unfold thr; omega

def adl (d k : Nat) : Nat := if 455 < d then adl (d / 35) (k + 36) else k + 36 * d / (d + 38)
termination_by d
decreasing_by omega
def ad0 (delta count : Nat) (first : Bool) : Nat := (if first then delta / 700 else delta / 2) + (if first then delta / 700 else delta / 2) / count
def adp (delta count : Nat) (first : Bool) : Nat := adl (ad0 delta count first) 0
theorem adl_go {d : Nat} (k : Nat) (h : 455 < d) : adl d k = adl (d / 35) (k + 36) := by rw [adl, if_pos h]
theorem adl_end {d : Nat} (k : Nat) (h : ¬ 455 < d) : adl d k = k + 36 * d / (d + 38) := by rw [adl, if_neg h]
theorem adl_le : ∀ (m d k : Nat), d ≤ m → adl d k ≤ k + 36 * d + 36 := by
  intro m
  induction m with
  | zero => intro d k h; obtain rfl : d = 0 := by omega
            rw [adl_end k (by omega)]; simp
  | succ m ih =>
    intro d k h
    by_cases h1 : 455 < d
    · rw [adl_go k h1]
      have := ih (d / 35) (k + 36) (by omega)
      omega
    · rw [adl_end k h1]
      have h2 : 36 * d / (d + 38) ≤ 36 * d := Nat.div_le_self _ _
      omega
theorem adp_le (delta count : Nat) (first : Bool) : adp delta count first ≤ 36 * delta + 36 := by
  unfold adp
  have h1 := adl_le _ (ad0 delta count first) 0 (Nat.le_refl _)
  have h2 : ad0 delta count first ≤ delta := by
    unfold ad0
    have h3 : ∀ x : Nat, x / count ≤ x := fun x => Nat.div_le_self _ _
    split
    · have := h3 (delta / 700); omega
    · have := h3 (delta / 2); omega
  omega

/-- the digits of a number -/
def dgs (k b n : Nat) : List Nat :=
  if n < thr k b then [n] else (thr k b + (n - thr k b) % (36 - thr k b)) :: dgs (k + 36) b ((n - thr k b) / (36 - thr k b))
termination_by n
decreasing_by
  have := thr_bd k b
  have h1 : (n - thr k b) / (36 - thr k b) ≤ n - thr k b := Nat.div_le_self _ _
  omega
theorem wr_end {k b n : Nat} (h : n < thr k b) : dgs k b n = [n] := by rw [dgs, if_pos h]
theorem wr_go {k b n : Nat} (h : ¬ n < thr k b) : dgs k b n = (thr k b + (n - thr k b) % (36 - thr k b)) :: dgs (k + 36) b ((n - thr k b) / (36 - thr k b)) := by rw [dgs, if_neg h]
/-- a number read, and what is behind it -/
def rd (k b : Nat) : List Nat → Option (Nat × List Nat)
  | [] => none
  | d :: ds => if d < thr k b then some (d, ds) else (rd (k + 36) b ds).map fun x => (d + (36 - thr k b) * x.1, x.2)
theorem wr_lt : ∀ (m n k b : Nat), n ≤ m → ∀ d ∈ dgs k b n, d < 36 := by
  intro m
  induction m with
  | zero =>
    intro n k b h d hd
    have := thr_bd k b
    rw [wr_end (by omega)] at hd
    simp at hd; omega
  | succ m ih =>
    intro n k b h d hd
    have ht := thr_bd k b
    by_cases h1 : n < thr k b
    · rw [wr_end h1] at hd; simp at hd; omega
    · rw [wr_go h1] at hd
      rcases List.mem_cons.1 hd with rfl | hd
      · have := Nat.mod_lt (n - thr k b) (show 36 - thr k b > 0 by omega); omega
      · have h2 : (n - thr k b) / (36 - thr k b) ≤ n - thr k b := Nat.div_le_self _ _
        exact ih _ _ _ (by omega) d hd
theorem rd_wr : ∀ (m n k b : Nat) (r : List Nat), n ≤ m → rd k b (dgs k b n ++ r) = some (n, r) := by
  intro m
  induction m with
  | zero =>
    intro n k b r h
    have := thr_bd k b
    rw [wr_end (by omega)]
    simp only [List.singleton_append, rd]
    rw [if_pos (by omega)]
  | succ m ih =>
    intro n k b r h
    have ht := thr_bd k b
    by_cases h1 : n < thr k b
    · rw [wr_end h1]
      simp only [List.singleton_append, rd]
      rw [if_pos h1]
    · rw [wr_go h1]
      have h2 : (n - thr k b) / (36 - thr k b) ≤ n - thr k b := Nat.div_le_self _ _
      simp only [List.cons_append, rd]
      rw [if_neg (by omega), ih _ _ _ _ (by omega)]
      simp only [Option.map_some, Option.some.injEq, Prod.mk.injEq, and_true]
      have h3 := Nat.mod_add_div (n - thr k b) (36 - thr k b)
      omega
theorem wr_rd : ∀ (ds : List Nat) (k b n : Nat) (r : List Nat), (∀ d ∈ ds, d < 36) → rd k b ds = some (n, r) → ds = dgs k b n ++ r
  | [], k, b, n, r, _, h => by simp [rd] at h
  | d :: ds, k, b, n, r, hd, h => by
    have ht := thr_bd k b
    have h36 := hd d List.mem_cons_self
    simp only [rd] at h
    by_cases h1 : d < thr k b
    · rw [if_pos h1] at h
      simp only [Option.some.injEq, Prod.mk.injEq] at h
      obtain ⟨rfl, rfl⟩ := h
      rw [wr_end h1]; rfl
    · rw [if_neg h1] at h
      rcases hx : rd (k + 36) b ds with _ | ⟨m, r'⟩
      · rw [hx] at h; cases h
      · rw [hx] at h
        simp only [Option.map_some, Option.some.injEq, Prod.mk.injEq] at h
        obtain ⟨rfl, rfl⟩ := h
        have := wr_rd ds (k + 36) b m r' (fun x hx => hd x (List.mem_cons_of_mem _ hx)) hx
        have e1 : d + (36 - thr k b) * m - thr k b = (d - thr k b) + (36 - thr k b) * m := by omega
        have e2 : (d - thr k b) < 36 - thr k b := by omega
        rw [wr_go (by omega), e1, Nat.add_mul_mod_self_left, Nat.mod_eq_of_lt e2, Nat.add_mul_div_left _ _ (by omega), Nat.div_eq_of_lt e2, Nat.zero_add, ← show d = thr k b + (d - thr k b) by omega]
        rw [List.cons_append, ← this]
theorem rd_len : ∀ (ds : List Nat) (k b n : Nat) (r : List Nat), rd k b ds = some (n, r) → r.length < ds.length
  | [], k, b, n, r, h => by simp [rd] at h
  | d :: ds, k, b, n, r, h => by
    simp only [rd] at h
    split at h
    · simp only [Option.some.injEq, Prod.mk.injEq] at h
      rw [← h.2]; simp
    · rcases hx : rd (k + 36) b ds with _ | ⟨m, r'⟩
      · rw [hx] at h; cases h
      · rw [hx] at h
        simp only [Option.map_some, Option.some.injEq, Prod.mk.injEq] at h
        have := rd_len ds (k + 36) b m r' hx
        rw [← h.2]; simp; omega
theorem rd_suffix : ∀ (ds : List Nat) (k b n : Nat) (r : List Nat), rd k b ds = some (n, r) → r <:+ ds
  | [], k, b, n, r, h => by simp [rd] at h
  | d :: ds, k, b, n, r, h => by
    simp only [rd] at h
    split at h
    · simp only [Option.some.injEq, Prod.mk.injEq] at h
      rw [← h.2]; exact List.suffix_cons _ _
    · rcases hx : rd (k + 36) b ds with _ | ⟨m, r'⟩
      · rw [hx] at h; cases h
      · rw [hx] at h
        simp only [Option.map_some, Option.some.injEq, Prod.mk.injEq] at h
        rw [← h.2]
        exact (rd_suffix ds (k + 36) b m r' hx).trans (List.suffix_cons _ _)

/-- a rune put in at a place -/
def ins (p a : Nat) (cur : List Nat) : List Nat := cur.take p ++ a :: cur.drop p
theorem ins_length {p a : Nat} {cur : List Nat} (h : p ≤ cur.length) : (ins p a cur).length = cur.length + 1 := by
  unfold ins; simp; omega
theorem ins_take {p a : Nat} {cur : List Nat} (h : p ≤ cur.length) : (ins p a cur).take (p + 1) = cur.take p ++ [a] := by
  unfold ins
  have e : (cur.take p).length = p := by simp; omega
  rw [List.take_append, e, show p + 1 - p = 1 by omega, List.take_take, Nat.min_eq_right (by omega)]; rfl
theorem ins_drop {p a : Nat} {cur : List Nat} (h : p ≤ cur.length) : (ins p a cur).drop (p + 1) = cur.drop p := by
  unfold ins
  have e : (cur.take p).length = p := by simp; omega
  rw [List.drop_append, e, show p + 1 - p = 1 by omega, List.drop_of_length_le (by omega)]; rfl
theorem mem_ins {p a x : Nat} {cur : List Nat} : x ∈ ins p a cur ↔ x = a ∨ x ∈ cur := by
  unfold ins
  conv => rhs; rw [← List.take_append_drop p cur]
  simp only [List.mem_append, List.mem_cons]
  constructor
  · rintro (h | h | h)
    · exact .inr (.inl h)
    · exact .inl h
    · exact .inr (.inr h)
  · rintro (h | h | h)
    · exact .inr (.inl h)
    · exact .inl h
    · exact .inr (.inr h)
theorem ins_filter {p a v : Nat} {cur : List Nat} (h : v ≤ a) : (ins p a cur).filter (· < v) = cur.filter (· < v) := by
  unfold ins
  conv => rhs; rw [← List.take_append_drop p cur]
  rw [List.filter_append, List.filter_append, List.filter_cons, if_neg (by simp; omega)]

/-- from runes, the last one's number, its place's next, and a bias, digits lead to runes -/
inductive Dec (f : Nat) : List Nat → Nat → Nat → Nat → List Nat → List Nat → Prop
  | stop (cur : List Nat) (a p b : Nat) : Dec f cur a p b [] cur
  | step (cur : List Nat) (a p b delta : Nat) (ds rest l : List Nat) (h : rd 36 b ds = some (delta, rest)) (hv : okR (a + (p + delta) / (cur.length + 1)))
      (ht : Dec f (ins ((p + delta) % (cur.length + 1)) (a + (p + delta) / (cur.length + 1)) cur) (a + (p + delta) / (cur.length + 1)) ((p + delta) % (cur.length + 1) + 1) (adp delta (cur.length + 1) (cur.length == f)) rest l) : Dec f cur a p b ds l

theorem pl_le (q : Nat) (cur : List Nat) : q % (cur.length + 1) ≤ cur.length := by
  have := Nat.mod_lt q (show cur.length + 1 > 0 by omega); omega
theorem Dec.length {f : Nat} {cur : List Nat} {a p b : Nat} {ds l : List Nat} (h : Dec f cur a p b ds l) : cur.length ≤ l.length ∧ l.length ≤ cur.length + ds.length := by
  induction h with
  | stop => simp
  | step cur a p b delta ds rest l h hv ht ih =>
    rw [ins_length (pl_le _ _)] at ih
    have := rd_len _ _ _ _ _ h
    omega
theorem Dec.more {f : Nat} {cur : List Nat} {a p b : Nat} {ds l : List Nat} (h : Dec f cur a p b ds l) (hd : ds ≠ []) : cur.length < l.length := by
  cases h with
  | stop => exact absurd rfl hd
  | step _ _ _ _ delta _ rest _ h hv ht =>
    have := ht.length.1
    rw [ins_length (pl_le _ _)] at this
    omega
theorem Dec.valid {f : Nat} {cur : List Nat} {a p b : Nat} {ds l : List Nat} (h : Dec f cur a p b ds l) (hc : ∀ r ∈ cur, okR r) : ∀ r ∈ l, okR r := by
  induction h with
  | stop => exact hc
  | step cur a p b delta ds rest l h hv ht ih =>
    apply ih
    intro r hr
    rcases mem_ins.1 hr with rfl | hr
    · exact hv
    · exact hc r hr
theorem Dec.det {f : Nat} {cur : List Nat} {a p b : Nat} {ds l l' : List Nat} (h : Dec f cur a p b ds l) (h' : Dec f cur a p b ds l') : l = l' := by
  induction h generalizing l' with
  | stop =>
    cases h' with
    | stop => rfl
    | step _ _ _ _ _ _ _ _ h => simp [rd] at h
  | step cur a p b delta ds rest l h hv ht ih =>
    cases h' with
    | stop => simp [rd] at h
    | step _ _ _ _ delta' _ rest' _ h' hv' ht' =>
      rw [h] at h'
      simp only [Option.some.injEq, Prod.mk.injEq] at h'
      obtain ⟨rfl, rfl⟩ := h'
      exact ih ht'
theorem Dec.low {f : Nat} {cur : List Nat} {a p b : Nat} {ds l : List Nat} (h : Dec f cur a p b ds l) : ∀ v, v ≤ a → l.filter (· < v) = cur.filter (· < v) := by
  induction h with
  | stop => intro v _; rfl
  | step cur a p b delta ds rest l h hv ht ih =>
    intro v hva
    rw [ih v (Nat.le_trans hva (Nat.le_add_right _ _)), ins_filter (Nat.le_trans hva (Nat.le_add_right _ _))]
/-- how the runes stand to the last one's number and place -/
structure Ok (cur : List Nat) (a p : Nat) : Prop where
  le : p ≤ cur.length
  all : ∀ r ∈ cur, r ≤ a
  rest : ∀ r ∈ cur.drop p, r < a
theorem div_zero_iff {q c : Nat} (h : q / (c + 1) = 0) : q % (c + 1) = q := by
  have := Nat.mod_add_div q (c + 1)
  rw [h] at this; omega
theorem Ok.next {cur : List Nat} {a p : Nat} (h : Ok cur a p) (delta : Nat) : Ok (ins ((p + delta) % (cur.length + 1)) (a + (p + delta) / (cur.length + 1)) cur) (a + (p + delta) / (cur.length + 1)) ((p + delta) % (cur.length + 1) + 1) := by
  refine ⟨?_, ?_, ?_⟩
  · rw [ins_length (pl_le _ _)]; have := pl_le (p + delta) cur; omega
  · intro r hr
    rcases mem_ins.1 hr with rfl | hr
    · exact Nat.le_refl _
    · exact Nat.le_trans (h.all r hr) (Nat.le_add_right _ _)
  · intro r hr
    rw [ins_drop (pl_le _ _)] at hr
    rcases Nat.eq_zero_or_pos ((p + delta) / (cur.length + 1)) with h0 | h0
    · rw [div_zero_iff h0] at hr
      have hr' : r ∈ cur.drop p := by
        rw [Nat.add_comm, ← List.drop_drop] at hr
        rw [show cur.drop p = cur.drop p from rfl]
        first
          | exact List.mem_of_mem_drop hr
          | (rw [List.drop_drop, Nat.add_comm, ← List.drop_drop] at hr; exact List.mem_of_mem_drop hr)
      have := h.rest r hr'
      omega
    · have := h.all r (List.mem_of_mem_drop hr)
      omega
theorem filter_all {cur : List Nat} {v : Nat} (h : ∀ r ∈ cur, r < v) : cur.filter (· < v) = cur := List.filter_eq_self.2 (by simpa using h)
theorem Dec.front {f : Nat} {cur : List Nat} {a p b : Nat} {ds l : List Nat} (h : Dec f cur a p b ds l) (ho : Ok cur a p) : cur.take p <+: l.filter (· < a + 1) := by
  induction h with
  | stop cur a p b =>
    rw [filter_all (fun r hr => Nat.lt_succ_of_le (ho.all r hr))]
    exact List.take_prefix _ _
  | step cur a p b delta ds rest l h hv ht ih =>
    have ih := ih (ho.next delta)
    rcases Nat.eq_zero_or_pos ((p + delta) / (cur.length + 1)) with h0 | h0
    · rw [ins_take (pl_le _ _), h0, div_zero_iff h0] at ih
      refine List.IsPrefix.trans ?_ ih
      refine List.IsPrefix.trans ?_ (List.prefix_append _ _)
      exact List.take_prefix_take_left (by omega)
    · rw [ht.low (a + 1) (by omega), ins_filter (by omega), filter_all (fun r hr => Nat.lt_succ_of_le (ho.all r hr))]
      exact List.take_prefix _ _
theorem not_there {cur : List Nat} {a p : Nat} (ho : Ok cur a p) (delta : Nat) : ¬ (a + (p + delta) / (cur.length + 1)) ∈ cur.drop ((p + delta) % (cur.length + 1)) := by
  intro hr
  rcases Nat.eq_zero_or_pos ((p + delta) / (cur.length + 1)) with h0 | h0
  · have h1 := ((ho.next delta).rest (a + (p + delta) / (cur.length + 1)) (by rw [ins_drop (pl_le _ _)]; exact hr))
    omega
  · have := ho.all _ (List.mem_of_mem_drop hr)
    omega
theorem drop_of_front {cur X : List Nat} {p a : Nat} (h : cur.take p ++ [a] <+: X) (hx : X <+: cur) : a ∈ cur.drop p := by
  obtain ⟨u, hu⟩ := h
  obtain ⟨v, hv⟩ := hx
  have e : cur = cur.take p ++ (a :: (u ++ v)) := by rw [← hv, ← hu] ; conv => lhs; rw [← hv, ← hu]
                                                     simp
  have e2 : cur.drop p = a :: (u ++ v) := by
    have h1 : cur.take p ++ cur.drop p = cur.take p ++ (a :: (u ++ v)) := by rw [List.take_append_drop]; exact e
    exact List.append_cancel_left h1
  rw [e2]; exact List.mem_cons_self
/-- no two rows of digits lead to the same runes -/
theorem Dec.inj {f : Nat} {cur : List Nat} {a p b : Nat} {ds l : List Nat} (h : Dec f cur a p b ds l) : ∀ {ds' : List Nat}, Ok cur a p → (∀ d ∈ ds, d < 36) → (∀ d ∈ ds', d < 36) → Dec f cur a p b ds' l → ds = ds' := by
  induction h with
  | stop cur a p b =>
    intro ds' _ _ _ h'
    rcases Classical.em (ds' = []) with e | e
    · exact e.symm
    · exact absurd (h'.more e) (Nat.lt_irrefl _)
  | step cur a p b delta ds rest l h hv ht ih =>
    intro ds' ho hd hd' h'
    cases h' with
    | stop =>
      have := ht.length.1
      rw [ins_length (pl_le _ _)] at this
      omega
    | step _ _ _ _ delta' _ rest' _ h' hv' ht' =>
      have key : ∀ (d1 d2 : Nat) (r1 r2 : List Nat), (a + (p + d1) / (cur.length + 1) < a + (p + d2) / (cur.length + 1) ∨ a + (p + d1) / (cur.length + 1) = a + (p + d2) / (cur.length + 1) ∧ (p + d1) % (cur.length + 1) < (p + d2) % (cur.length + 1)) →
          Dec f (ins ((p + d1) % (cur.length + 1)) (a + (p + d1) / (cur.length + 1)) cur) (a + (p + d1) / (cur.length + 1)) ((p + d1) % (cur.length + 1) + 1) (adp d1 (cur.length + 1) (cur.length == f)) r1 l →
          Dec f (ins ((p + d2) % (cur.length + 1)) (a + (p + d2) / (cur.length + 1)) cur) (a + (p + d2) / (cur.length + 1)) ((p + d2) % (cur.length + 1) + 1) (adp d2 (cur.length + 1) (cur.length == f)) r2 l → False := by
        intro d1 d2 r1 r2 hlt h1 h2
        have f1 := h1.front (ho.next d1)
        rw [ins_take (pl_le _ _)] at f1
        apply not_there ho d1
        rcases hlt with hlt | ⟨he, hlt⟩
        · refine drop_of_front f1 ?_
          rw [h2.low _ (Nat.succ_le_of_lt hlt), ins_filter (Nat.succ_le_of_lt hlt)]
          rw [filter_all (fun r hr => Nat.lt_succ_of_le (Nat.le_trans (ho.all r hr) (Nat.le_add_right _ _)))]
          exact List.prefix_refl _
        · have f2 := h2.front (ho.next d2)
          rw [ins_take (pl_le _ _), ← he] at f2
          have l1 : (cur.take ((p + d1) % (cur.length + 1)) ++ [a + (p + d1) / (cur.length + 1)]).length ≤ (cur.take ((p + d2) % (cur.length + 1))).length := by
            have := pl_le (p + d2) cur
            simp; omega
          have f3 := (List.prefix_append (cur.take ((p + d2) % (cur.length + 1))) [a + (p + d1) / (cur.length + 1)]).trans f2
          have f4 := List.prefix_of_prefix_length_le f1 f3 l1
          exact drop_of_front f4 (List.take_prefix _ _)
      have e1 : p + delta = p + delta' := by
        have m1 := Nat.mod_add_div (p + delta) (cur.length + 1)
        have m2 := Nat.mod_add_div (p + delta') (cur.length + 1)
        rcases Nat.lt_trichotomy ((p + delta) / (cur.length + 1)) ((p + delta') / (cur.length + 1)) with h1 | h1 | h1
        · exact (key _ _ _ _ (.inl (by omega)) ht ht').elim
        · rcases Nat.lt_trichotomy ((p + delta) % (cur.length + 1)) ((p + delta') % (cur.length + 1)) with h2 | h2 | h2
          · exact (key _ _ _ _ (.inr ⟨by omega, h2⟩) ht ht').elim
          · rw [← m1, ← m2, h1, h2]
          · exact (key _ _ _ _ (.inr ⟨by omega, h2⟩) ht' ht).elim
        · exact (key _ _ _ _ (.inl (by omega)) ht' ht).elim
      obtain rfl : delta = delta' := by omega
      have s1 := rd_suffix _ _ _ _ _ h
      have s2 := rd_suffix _ _ _ _ _ h'
      have := ih (ho.next delta) (fun d hx => hd d (s1.subset hx)) (fun d hx => hd' d (s2.subset hx)) ht'
      subst this
      rw [wr_rd ds 36 b delta rest hd h, wr_rd ds' 36 b delta rest hd' h']

/-- the runes below a, and of those that are a the ones ahead of place j -/
def sel (l : List Nat) (a j : Nat) : List Nat := (l.take j).filter (· < a + 1) ++ (l.drop j).filter (· < a)
def selP (l : List Nat) (a j : Nat) : Nat := ((l.take j).filter (· < a + 1)).length
theorem selP_le (l : List Nat) (a j : Nat) : selP l a j ≤ (sel l a j).length := by unfold selP sel; simp
theorem sel_zero (l : List Nat) (a : Nat) : sel l a 0 = l.filter (· < a) := by unfold sel; simp
theorem selP_zero (l : List Nat) (a : Nat) : selP l a 0 = 0 := by unfold selP; simp
theorem sel_end (l : List Nat) (a : Nat) : sel l a l.length = l.filter (· < a + 1) := by unfold sel; simp
theorem selP_end (l : List Nat) (a : Nat) : selP l a l.length = (sel l a l.length).length := by unfold selP sel; simp
theorem take_next {l : List Nat} {j : Nat} (h : j < l.length) : l.take (j + 1) = l.take j ++ [l[j]] := List.take_succ_eq_append_getElem h
theorem sel_less {l : List Nat} {a j : Nat} (h : j < l.length) (ha : l[j] < a) : sel l a (j + 1) = sel l a j ∧ selP l a (j + 1) = selP l a j + 1 := by
  unfold sel selP
  have q1 : decide (l[j] < a + 1) = true := decide_eq_true (by omega)
  have q2 : decide (l[j] < a) = true := decide_eq_true ha
  rw [List.drop_eq_getElem_cons h, take_next h]
  generalize l.take j = A, l.drop (j + 1) = B
  revert q1 q2
  generalize l[j] = x
  intro q1 q2
  simp [q1, q2]
theorem sel_more {l : List Nat} {a j : Nat} (h : j < l.length) (ha : a < l[j]) : sel l a (j + 1) = sel l a j ∧ selP l a (j + 1) = selP l a j := by
  unfold sel selP
  have q1 : decide (l[j] < a + 1) = false := decide_eq_false (by omega)
  have q2 : decide (l[j] < a) = false := decide_eq_false (by omega)
  rw [List.drop_eq_getElem_cons h, take_next h]
  generalize l.take j = A, l.drop (j + 1) = B
  revert q1 q2
  generalize l[j] = x
  intro q1 q2
  simp [q1, q2]
theorem sel_same {l : List Nat} {a j : Nat} (h : j < l.length) (ha : l[j] = a) : sel l a (j + 1) = ins (selP l a j) a (sel l a j) ∧ selP l a (j + 1) = selP l a j + 1 := by
  unfold sel selP ins
  have q1 : decide (l[j] < a + 1) = true := decide_eq_true (by omega)
  have q2 : decide (l[j] < a) = false := decide_eq_false (by omega)
  rw [List.drop_eq_getElem_cons h, take_next h]
  generalize l.take j = A, l.drop (j + 1) = B
  revert q1 q2 ha
  generalize l[j] = x
  intro ha q1 q2
  subst ha
  simp

/-- how writing stands: from the start on, what was written and what will be leads where what will be leads from here on -/
structure Enc (l : List Nat) (a j delta b : Nat) (ws : List Nat) : Prop where
  dig : ∀ d ∈ ws, d < 36
  lead : ∃ ad pd, ad ≤ a ∧ pd + delta = (a - ad) * ((sel l a j).length + 1) + selP l a j ∧
    ∀ rest x, (∀ d ∈ rest, d < 36) → Dec (l.filter (· < 128)).length (sel l a j) ad pd b rest x → Dec (l.filter (· < 128)).length (l.filter (· < 128)) 128 0 72 (ws ++ rest) x
theorem Enc.start (l : List Nat) : Enc l 128 0 0 72 [] :=
  ⟨by simp, 128, 0, Nat.le_refl _, by rw [selP_zero]; simp, fun rest x _ h => by rw [sel_zero] at h; exact h⟩
theorem Enc.bound {l : List Nat} {a j delta b : Nat} {ws : List Nat} (h : Enc l a j delta b ws) (hl : l.length ≤ 63) : delta ≤ a * 64 + 63 := by
  obtain ⟨ad, pd, h1, h2, _⟩ := h.lead
  have h3 : (sel l a j).length ≤ l.length := by
    unfold sel
    conv => rhs; rw [← List.take_append_drop j l]
    simp only [List.length_append]
    have := List.length_filter_le (· < a + 1) (l.take j)
    have := List.length_filter_le (· < a) (l.drop j)
    omega
  have h4 := selP_le l a j
  have h5 : (a - ad) * ((sel l a j).length + 1) ≤ a * 64 := Nat.mul_le_mul (by omega) (by omega)
  omega
theorem Enc.less {l : List Nat} {a j delta b : Nat} {ws : List Nat} (h : Enc l a j delta b ws) (hj : j < l.length) (ha : l[j] < a) : Enc l a (j + 1) (delta + 1) b ws := by
  obtain ⟨ad, pd, h1, h2, h3⟩ := h.lead
  obtain ⟨e1, e2⟩ := sel_less hj ha
  exact ⟨h.dig, ad, pd, h1, by rw [e1, e2]; omega, by rw [e1]; exact h3⟩
theorem Enc.more {l : List Nat} {a j delta b : Nat} {ws : List Nat} (h : Enc l a j delta b ws) (hj : j < l.length) (ha : a < l[j]) : Enc l a (j + 1) delta b ws := by
  obtain ⟨ad, pd, h1, h2, h3⟩ := h.lead
  obtain ⟨e1, e2⟩ := sel_more hj ha
  exact ⟨h.dig, ad, pd, h1, by rw [e1, e2]; exact h2, by rw [e1]; exact h3⟩
theorem Enc.same {l : List Nat} {a j delta b : Nat} {ws : List Nat} (h : Enc l a j delta b ws) (hj : j < l.length) (ha : l[j] = a) (hv : okR a) :
    Enc l a (j + 1) 0 (adp delta ((sel l a j).length + 1) ((sel l a j).length == (l.filter (· < 128)).length)) (ws ++ dgs 36 b delta) := by
  obtain ⟨ad, pd, h1, h2, h3⟩ := h.lead
  obtain ⟨e1, e2⟩ := sel_same hj ha
  have hp := selP_le l a j
  have d1 : (pd + delta) / ((sel l a j).length + 1) = a - ad := by
    rw [h2, Nat.mul_comm, Nat.mul_add_div (by omega), Nat.div_eq_of_lt (by omega), Nat.add_zero]
  have d2 : (pd + delta) % ((sel l a j).length + 1) = selP l a j := by
    rw [h2, Nat.mul_comm, Nat.mul_add_mod, Nat.mod_eq_of_lt (by omega)]
  have d3 : ad + (pd + delta) / ((sel l a j).length + 1) = a := by omega
  refine ⟨?_, a, selP l a j + 1, Nat.le_refl _, by rw [e2]; simp, fun rest x hr hx => ?_⟩
  · intro d hd
    rcases List.mem_append.1 hd with hd | hd
    · exact h.dig d hd
    · exact wr_lt _ _ _ _ (Nat.le_refl _) d hd
  · rw [List.append_assoc]
    refine h3 _ _ (fun d hd => ?_) ?_
    · rcases List.mem_append.1 hd with hd | hd
      · exact wr_lt _ _ _ _ (Nat.le_refl _) d hd
      · exact hr d hd
    · refine .step _ _ _ _ delta _ rest _ (rd_wr _ _ _ _ _ (Nat.le_refl _)) (by rw [d3]; exact hv) ?_
      rw [d3, d2, ← e1]
      exact hx
theorem Enc.next {l : List Nat} {a delta b : Nat} {ws : List Nat} (h : Enc l a l.length delta b ws) : Enc l (a + 1) 0 (delta + 1) b ws := by
  obtain ⟨ad, pd, h1, h2, h3⟩ := h.lead
  have e1 : sel l (a + 1) 0 = sel l a l.length := by rw [sel_zero, sel_end]
  refine ⟨h.dig, ad, pd, by omega, ?_, by rw [e1]; exact h3⟩
  rw [e1, selP_zero]
  rw [selP_end] at h2
  have e2 : (a + 1 - ad) * ((sel l a l.length).length + 1) = (a - ad) * ((sel l a l.length).length + 1) + ((sel l a l.length).length + 1) := by
    rw [show a + 1 - ad = (a - ad) + 1 by omega, Nat.add_mul, Nat.one_mul]
  omega
/-- the least rune from a on -/
def lst (l : List Nat) (a : Nat) : Nat := (l.filter (fun r => decide (a ≤ r))).foldl min 1114111
theorem foldl_min_le : ∀ (l : List Nat) (m : Nat), l.foldl min m ≤ m ∧ ∀ r ∈ l, l.foldl min m ≤ r
  | [], m => ⟨Nat.le_refl _, by simp⟩
  | x :: l, m => by
    have h := foldl_min_le l (min m x)
    simp only [List.foldl_cons]
    refine ⟨by omega, fun r hr => ?_⟩
    rcases List.mem_cons.1 hr with rfl | hr
    · omega
    · exact h.2 r hr
theorem foldl_min_mem : ∀ (l : List Nat) (m : Nat), l.foldl min m = m ∨ l.foldl min m ∈ l
  | [], m => .inl rfl
  | x :: l, m => by
    simp only [List.foldl_cons]
    rcases foldl_min_mem l (min m x) with h | h
    · rw [h]
      rcases Nat.le_total m x with h' | h'
      · left; omega
      · right; rw [Nat.min_eq_right h']; exact List.mem_cons_self
    · right; exact List.mem_cons_of_mem _ h
theorem lst_le (l : List Nat) (a : Nat) : lst l a ≤ 1114111 := (foldl_min_le _ _).1
theorem lst_ge {l : List Nat} {a : Nat} (ha : a ≤ 1114111) : a ≤ lst l a := by
  unfold lst
  rcases foldl_min_mem (l.filter (fun r => decide (a ≤ r))) 1114111 with h | h
  · rw [h]; exact ha
  · simpa using (List.mem_filter.1 h).2
theorem lst_gap {l : List Nat} {a r : Nat} (hr : r ∈ l) (h : r < lst l a) : r < a := by
  rcases Nat.lt_or_ge r a with h' | h'
  · exact h'
  · have := (foldl_min_le (l.filter (fun r => decide (a ≤ r))) 1114111).2 r (List.mem_filter.2 ⟨hr, by simpa using h'⟩)
    unfold lst at h
    omega
theorem Enc.jump {l : List Nat} {a delta b : Nat} {ws : List Nat} (h : Enc l a 0 delta b ws) (ha : a ≤ 1114111) : Enc l (lst l a) 0 (delta + (lst l a - a) * ((l.filter (· < a)).length + 1)) b ws ∧ l.filter (· < lst l a) = l.filter (· < a) := by
  have hge := lst_ge (l := l) ha
  have e0 : l.filter (· < lst l a) = l.filter (· < a) := List.filter_congr fun r hr => by
    rw [Bool.eq_iff_iff]
    simp only [decide_eq_true_eq]
    exact ⟨lst_gap hr, fun h => by omega⟩
  obtain ⟨ad, pd, h1, h2, h3⟩ := h.lead
  refine ⟨⟨h.dig, ad, pd, by omega, ?_, ?_⟩, e0⟩
  · rw [sel_zero, selP_zero] at h2 ⊢
    rw [e0]
    have e2 : (lst l a - ad) * ((l.filter (· < a)).length + 1) = (a - ad) * ((l.filter (· < a)).length + 1) + (lst l a - a) * ((l.filter (· < a)).length + 1) := by
      rw [← Nat.add_mul]; congr 1; omega
    omega
  · rw [sel_zero] at h3 ⊢
    rw [e0]; exact h3
theorem filter_len {l : List Nat} {a : Nat} (h : (l.filter (· < a)).length = l.length) : l.filter (· < a) = l := List.Sublist.eq_of_length List.filter_sublist h
theorem Enc.done {l : List Nat} {a delta b : Nat} {ws : List Nat} (h : Enc l a 0 delta b ws) (hl : (l.filter (· < a)).length = l.length) : Dec (l.filter (· < 128)).length (l.filter (· < 128)) 128 0 72 ws l := by
  obtain ⟨ad, pd, h1, h2, h3⟩ := h.lead
  have := h3 [] l (by simp) (by rw [sel_zero, filter_len hl]; exact .stop _ _ _ _)
  rwa [List.append_nil] at this
theorem exists_ge {l : List Nat} {a : Nat} (h : (l.filter (· < a)).length < l.length) : ∃ r ∈ l, a ≤ r := by
  rcases Classical.em (∃ r ∈ l, a ≤ r) with h' | h'
  · exact h'
  · exfalso
    have : l.filter (· < a) = l := filter_all fun r hr => by
      rcases Nat.lt_or_ge r a with h1 | h1
      · exact h1
      · exact absurd ⟨r, hr, h1⟩ h'
    rw [this] at h; omega

/-- what a sign counts; 36: it is no digit -/
def dgN (c : Nat) : Nat := if 97 ≤ c ∧ c ≤ 122 then c - 97 else if 65 ≤ c ∧ c ≤ 90 then c - 65 else if 48 ≤ c ∧ c ≤ 57 then c - 48 + 26 else 36
def dg (c : UInt8) : Nat := dgN c.toNat
/-- a digit's sign -/
def sg (d : Nat) : UInt8 := if d < 26 then UInt8.ofNat (97 + d) else UInt8.ofNat (22 + d)
theorem dg_sg {d : Nat} (h : d < 36) : dg (sg d) = d := by
  have : ∀ k : Fin 36, dg (sg k.val) = k.val := by decide +kernel
  exact this ⟨d, h⟩
theorem sg_ne {d : Nat} (h : d < 36) : sg d ≠ 45 := by
  have : ∀ k : Fin 36, sg k.val ≠ 45 := by decide +kernel
  exact this ⟨d, h⟩
theorem dg_dash : dg 45 = 36 := by decide
/-- small, where it is a digit -/
theorem dg_same {c d : UInt8} (h : dg c = dg d) (hc : dg c < 36) : c = d ∨ (c ||| 32 = d ||| 32 ∧ 97 ≤ (d ||| 32) ∧ (d ||| 32) ≤ 122) := by
  have : ∀ i j : Fin 256, dg (UInt8.ofNat i.val) = dg (UInt8.ofNat j.val) → dg (UInt8.ofNat i.val) < 36 → UInt8.ofNat i.val = UInt8.ofNat j.val ∨ (UInt8.ofNat i.val ||| 32 = UInt8.ofNat j.val ||| 32 ∧ 97 ≤ (UInt8.ofNat j.val ||| 32) ∧ (UInt8.ofNat j.val ||| 32) ≤ 122) := by decide +kernel
  have := this ⟨c.toNat, c.toNat_lt⟩ ⟨d.toNat, d.toNat_lt⟩
  simpa using this (by simpa using h) (by simpa using hc)

/-- the signs of a Punycode: what stands as it is, a - behind it if it is anything, and digits -/
def shp (bs ds : List UInt8) : List UInt8 := if bs = [] then ds else bs ++ 45 :: ds
/-- s is a Punycode of l -/
def Puny (s : List UInt8) (l : List Nat) : Prop := ∃ bs ds, s = shp bs ds ∧ (∀ c ∈ ds, dg c < 36) ∧ (∀ c ∈ bs, c.toNat < 128) ∧ Dec bs.length (bs.map (·.toNat)) 128 0 72 (ds.map dg) l
/-- .. the one that is written: its digits are small -/
def PunyW (s : List UInt8) (l : List Nat) : Prop := ∃ bs ds, s = shp bs (ds.map sg) ∧ (∀ d ∈ ds, d < 36) ∧ (∀ c ∈ bs, c.toNat < 128) ∧ Dec bs.length (bs.map (·.toNat)) 128 0 72 ds l
theorem map_dg_sg {ds : List Nat} (h : ∀ d ∈ ds, d < 36) : (ds.map sg).map dg = ds := by
  rw [List.map_map]
  conv => rhs; rw [← List.map_id ds]
  exact List.map_congr_left fun d hd => dg_sg (h d hd)
theorem PunyW.puny {s : List UInt8} {l : List Nat} (h : PunyW s l) : Puny s l := by
  obtain ⟨bs, ds, h1, h2, h3, h4⟩ := h
  refine ⟨bs, ds.map sg, h1, fun c hc => ?_, h3, by rw [map_dg_sg h2]; exact h4⟩
  obtain ⟨d, hd, rfl⟩ := List.mem_map.1 hc
  rw [dg_sg (h2 d hd)]; exact h2 d hd
theorem dash_free {ds : List UInt8} (h : ∀ c ∈ ds, dg c < 36) : (45 : UInt8) ∉ ds := fun hm => by
  have := h 45 hm
  rw [dg_dash] at this; omega
theorem tail_inj : ∀ {a b x y : List UInt8}, (45 : UInt8) ∉ x → (45 : UInt8) ∉ y → a ++ 45 :: x = b ++ 45 :: y → a = b ∧ x = y
  | [], [], x, y, _, _, h => ⟨rfl, by simpa using h⟩
  | [], c :: b, x, y, hx, _, h => by
    simp only [List.nil_append, List.cons_append, List.cons.injEq] at h
    exact absurd (h.2 ▸ List.mem_append_right _ List.mem_cons_self) hx
  | c :: a, [], x, y, _, hy, h => by
    simp only [List.nil_append, List.cons_append, List.cons.injEq] at h
    exact absurd (h.2 ▸ List.mem_append_right _ List.mem_cons_self) hy
  | c :: a, d :: b, x, y, hx, hy, h => by
    simp only [List.cons_append, List.cons.injEq] at h
    obtain ⟨h1, h2⟩ := tail_inj hx hy h.2
    exact ⟨by rw [h.1, h1], h2⟩
theorem shp_inj {a b x y : List UInt8} (hx : (45 : UInt8) ∉ x) (hy : (45 : UInt8) ∉ y) (h : shp a x = shp b y) : a = b ∧ x = y := by
  unfold shp at h
  split at h <;> split at h
  · rename_i h1 h2; exact ⟨by rw [h1, h2], h⟩
  · exact absurd (h ▸ List.mem_append_right _ List.mem_cons_self) hx
  · exact absurd (h.symm ▸ List.mem_append_right _ List.mem_cons_self) hy
  · exact tail_inj hx hy h
/-- a Punycode is that of one row of runes alone -/
theorem Puny.det {s : List UInt8} {l k : List Nat} (h : Puny s l) (h' : Puny s k) : l = k := by
  obtain ⟨bs, ds, h1, h2, h3, h4⟩ := h
  obtain ⟨cs, es, g1, g2, g3, g4⟩ := h'
  obtain ⟨rfl, rfl⟩ := shp_inj (dash_free h2) (dash_free g2) (h1.symm.trans g1)
  exact h4.det g4
theorem ok_start {bs : List UInt8} (h : ∀ c ∈ bs, c.toNat < 128) : Ok (bs.map (·.toNat)) 128 0 :=
  ⟨Nat.zero_le _, fun r hr => by obtain ⟨c, hc, rfl⟩ := List.mem_map.1 hr; have := h c hc; omega, fun r hr => by rw [List.drop_zero] at hr; obtain ⟨c, hc, rfl⟩ := List.mem_map.1 hr; exact h c hc⟩
theorem bytes_of_nat {a b : List UInt8} (h : a.map (·.toNat) = b.map (·.toNat)) : a = b := by
  exact (List.map_inj_right (fun x y e => UInt8.toNat_inj.1 e)).1 h
/-- runes have one row of digits alone, behind one row of what stands as it is -/
theorem puny_parts {bs cs : List UInt8} {ds es : List Nat} {l : List Nat} (h2 : ∀ d ∈ ds, d < 36) (h3 : ∀ c ∈ bs, c.toNat < 128) (h4 : Dec bs.length (bs.map (·.toNat)) 128 0 72 ds l)
    (g2 : ∀ d ∈ es, d < 36) (g3 : ∀ c ∈ cs, c.toNat < 128) (g4 : Dec cs.length (cs.map (·.toNat)) 128 0 72 es l) : bs = cs ∧ ds = es := by
  have e1 := h4.low 128 (Nat.le_refl _)
  have e2 := g4.low 128 (Nat.le_refl _)
  have f : ∀ {x : List UInt8}, (∀ c ∈ x, c.toNat < 128) → (x.map (·.toNat)).filter (· < 128) = x.map (·.toNat) := fun hx => filter_all fun r hr => by
    obtain ⟨c, hc, rfl⟩ := List.mem_map.1 hr; exact hx c hc
  rw [f h3] at e1
  rw [f g3] at e2
  have e3 := bytes_of_nat (e1.symm.trans e2)
  subst e3
  exact ⟨rfl, h4.inj (ok_start h3) h2 g2 g4⟩
theorem PunyW.one {s t : List UInt8} {l : List Nat} (h : PunyW s l) (h' : PunyW t l) : s = t := by
  obtain ⟨bs, ds, h1, h2, h3, h4⟩ := h
  obtain ⟨cs, es, g1, g2, g3, g4⟩ := h'
  obtain ⟨rfl, rfl⟩ := puny_parts h2 h3 h4 g2 g3 g4
  rw [h1, g1]
/-- two bytes alike but for a letter's case -/
def alike (a b : UInt8) : Prop := a = b ∨ (a ||| 32 = b ||| 32 ∧ 97 ≤ (b ||| 32) ∧ (b ||| 32) ≤ 122)
theorem alike_rows : ∀ {a b : List UInt8}, a.map dg = b.map dg → (∀ c ∈ a, dg c < 36) → a.length = b.length ∧ ∀ (i : Nat) (x y : UInt8), a[i]? = some x → b[i]? = some y → alike x y
  | [], [], _, _ => ⟨rfl, fun i x y h => by simp at h⟩
  | [], _ :: _, h, _ => by simp at h
  | _ :: _, [], h, _ => by simp at h
  | c :: a, d :: b, h, hc => by
    simp only [List.map_cons, List.cons.injEq] at h
    obtain ⟨h1, h2⟩ := alike_rows h.2 fun c hc' => hc c (List.mem_cons_of_mem _ hc')
    refine ⟨by simp [h1], fun i x y hx hy => ?_⟩
    cases i with
    | zero =>
      simp only [List.getElem?_cons_zero, Option.some.injEq] at hx hy
      subst hx; subst hy
      exact dg_same h.1 (hc _ List.mem_cons_self)
    | succ i => exact h2 i x y (by simpa using hx) (by simpa using hy)
/-- a Punycode of some runes is what they are written as, but for capitals among the digits -/
theorem Puny.written {s t : List UInt8} {l : List Nat} (h : Puny s l) (h' : PunyW t l) : s.length = t.length ∧ ∀ (i : Nat) (x y : UInt8), s[i]? = some x → t[i]? = some y → alike x y := by
  obtain ⟨bs, ds, h1, h2, h3, h4⟩ := h
  obtain ⟨cs, es, g1, g2, g3, g4⟩ := h'
  have h2' : ∀ d ∈ ds.map dg, d < 36 := fun d hd => by obtain ⟨c, hc, rfl⟩ := List.mem_map.1 hd; exact h2 c hc
  obtain ⟨rfl, e⟩ := puny_parts h2' h3 h4 g2 g3 g4
  have e2 : ds.map dg = (es.map sg).map dg := by rw [map_dg_sg g2]; exact e
  obtain ⟨a1, a2⟩ := alike_rows e2 h2
  subst h1 g1
  unfold shp
  split
  · exact ⟨a1, a2⟩
  · refine ⟨by simp [show ds.length = es.length by simpa using a1], fun i x y hx hy => ?_⟩
    rcases Nat.lt_or_ge i bs.length with hi | hi
    · rw [List.getElem?_append_left hi] at hx hy
      rw [hx] at hy
      exact .inl (Option.some.inj hy)
    · rw [List.getElem?_append_right hi] at hx hy
      rcases i' : i - bs.length with _ | j
      · rw [i'] at hx hy
        simp only [List.getElem?_cons_zero, Option.some.injEq] at hx hy
        exact .inl (hx.symm.trans hy)
      · rw [i'] at hx hy
        exact a2 j x y (by simpa using hx) (by simpa using hy)
theorem Puny.low {s : List UInt8} {l : List Nat} (h : Puny s l) (hs : ∀ c ∈ s, ¬ (65 ≤ c.toNat ∧ c.toNat ≤ 90)) : PunyW s l := by
  obtain ⟨bs, ds, h1, h2, h3, h4⟩ := h
  refine ⟨bs, ds.map dg, ?_, fun d hd => by obtain ⟨c, hc, rfl⟩ := List.mem_map.1 hd; exact h2 c hc, h3, h4⟩
  rw [h1]
  congr 1
  rw [List.map_map]
  conv => lhs; rw [← List.map_id ds]
  refine List.map_congr_left fun c hc => ?_
  have hcs : c ∈ s := by
    rw [h1]; unfold shp
    split
    · exact hc
    · exact List.mem_append_right _ (List.mem_cons_of_mem _ hc)
  have k := hs c hcs
  have k2 := h2 c hc
  have : ∀ i : Fin 256, dg (UInt8.ofNat i.val) < 36 → ¬ (65 ≤ i.val ∧ i.val ≤ 90) → UInt8.ofNat i.val = sg (dg (UInt8.ofNat i.val)) := by decide +kernel
  have := this ⟨c.toNat, c.toNat_lt⟩
  simp only [UInt8.ofNat_toNat] at this
  exact this k2 k
theorem Puny.length {s : List UInt8} {l : List Nat} (h : Puny s l) : l.length ≤ s.length := by
  obtain ⟨bs, ds, h1, h2, h3, h4⟩ := h
  have := h4.length.2
  rw [List.length_map, List.length_map] at this
  rw [h1]; unfold shp
  split
  · rename_i e; subst e; simpa using this
  · simp; omega
theorem Puny.valid {s : List UInt8} {l : List Nat} (h : Puny s l) : ∀ r ∈ l, okR r := by
  obtain ⟨bs, ds, h1, h2, h3, h4⟩ := h
  refine h4.valid fun r hr => ?_
  obtain ⟨c, hc, rfl⟩ := List.mem_map.1 hr
  have := h3 c hc
  exact .inl (by omega)
/-- what is written for runes, by the way of writing -/
theorem punyW_of {l : List Nat} {ws : List Nat} (hw : ∀ d ∈ ws, d < 36) (h : Dec (l.filter (· < 128)).length (l.filter (· < 128)) 128 0 72 ws l) : PunyW (shp ((l.filter (· < 128)).map UInt8.ofNat) (ws.map sg)) l := by
  have e : ((l.filter (· < 128)).map UInt8.ofNat).map (·.toNat) = l.filter (· < 128) := by
    rw [List.map_map]
    conv => rhs; rw [← List.map_id (l.filter (· < 128))]
    refine List.map_congr_left fun r hr => ?_
    have := (List.mem_filter.1 hr).2
    simp only [decide_eq_true_eq] at this
    show (UInt8.ofNat r).toNat = r
    rw [UInt8.toNat_ofNat']; omega
  refine ⟨_, ws, rfl, hw, fun c hc => ?_, ?_⟩
  · obtain ⟨r, hr, rfl⟩ := List.mem_map.1 hc
    have := (List.mem_filter.1 hr).2
    simp only [decide_eq_true_eq] at this
    rw [UInt8.toNat_ofNat']; omega
  · rw [e, List.length_map]; exact h
end Go.Proofs.YtgopjgbcnjkblaaGreatDoor
