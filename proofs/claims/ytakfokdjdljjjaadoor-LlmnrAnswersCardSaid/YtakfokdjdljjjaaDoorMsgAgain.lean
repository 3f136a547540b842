/-
  Plain facts: what is told of a message is read as it was, whatever stands behind it. No condition.
  What msg.Decode answers for the bytes that Encode tells of a message, whatever stands behind them; and for any bytes, the same each time. Conditions: the library's variable MaxLen holds some number; the bytes lie in memory.
  Same of two messages that say the same: it answers true. Condition: their lists' records lie in memory.
-/
import Derived.Test.YtakfokdjdljjjaaDoorMsgPl
import Derived.Test.YtakfokdjdljjjaaDoorMsgData
import Derived.Test.YtakfokdjdljjjaaDoorMsgRF
import Derived.Test.YtakfokdjdljjjaaDoorMsgAny
namespace Go.Proofs.YtakfokdjdljjjaaDoor
open Go.RowKit

/-- bytes stand at a place -/
def Atb (b : List UInt8) (p : Nat) (s : List UInt8) : Prop := ∀ i c, s[i]? = some c → b[p + i]? = some c
section
variable {b s t : List UInt8} {p : Nat}
theorem Atb.left (h : Atb b p (s ++ t)) : Atb b p s := fun i c hc => h i c (by
  rw [List.getElem?_append_left (List.getElem?_eq_some_iff.1 hc).1]; exact hc)
theorem Atb.right (h : Atb b p (s ++ t)) : Atb b (p + s.length) t := fun i c hc => by
  have := h (s.length + i) c (by rw [List.getElem?_append_right (by omega), Nat.add_sub_cancel_left]; exact hc)
  rwa [← Nat.add_assoc] at this
theorem Atb.len (h : Atb b p s) (h0 : 0 < s.length) : p + s.length ≤ b.length := by
  have := (List.getElem?_eq_some_iff.1 (h (s.length - 1) _ (List.getElem?_eq_getElem (by omega)))).1
  omega
theorem Atb.cut (h : Atb b p s) : cutB b p s.length = s := by
  unfold cutB
  refine List.ext_getElem? fun i => ?_
  by_cases hi : i < s.length
  · rw [List.getElem?_take_of_lt hi, List.getElem?_drop, h i _ (List.getElem?_eq_getElem hi), List.getElem?_eq_getElem hi]
  · rw [List.getElem?_eq_none (by rw [List.length_take]; omega), List.getElem?_eq_none (by omega)]
theorem Atb.self (a s t : List UInt8) : Atb (a ++ (s ++ t)) a.length s := fun i c hc => by
  rw [List.getElem?_append_right (by omega), Nat.add_sub_cancel_left, List.getElem?_append_left (List.getElem?_eq_some_iff.1 hc).1]
  exact hc
end
theorem num_be2s {n : Nat} (h : n ≤ 65535) : num (be2 n) = n := by
  unfold num be2
  simp only [List.foldl_cons, List.foldl_nil, UInt8.toNat_ofNat']
  omega
theorem num_b1 {n : Nat} (h : n ≤ 255) : num [0, UInt8.ofNat n] = n := by
  have e : be2 n = [0, UInt8.ofNat n] := by
    unfold be2
    rw [show n / 256 = 0 by omega]
    rfl
  rw [← e]
  exact num_be2s (by omega)
theorem num_be4s {n : Nat} (h : n ≤ 4294967295) : num (be2 (n / 65536) ++ be2 n) = n := by
  unfold num be2
  simp only [List.cons_append, List.nil_append, List.foldl_cons, List.foldl_nil, UInt8.toNat_ofNat']
  omega
theorem numF_at {b s : List UInt8} {p k : Nat} (h : Atb b p s) (hk : s.length = k) (h0 : 0 < k) : numF b p k = some (num s, p + k) := by
  subst hk
  unfold numF
  rw [if_pos (h.len h0), h.cut]
theorem sp_jnE : ∀ {xs : List (List UInt8)}, xs ≠ [] → (∀ x ∈ xs, (46 : UInt8) ∉ x) → sp (jn xs) = xs
  | [], h, _ => absurd rfl h
  | [x], _, h => by
    show sp x = [x]
    exact sp_plain (h x (by simp))
  | x :: y :: t, _, h => by
    rw [jn_cons x (by simp), sp_append, sp_plain (h x (by simp)), sp_jnE (xs := y :: t) (by simp) (fun z hz => h z (List.mem_cons_of_mem _ hz))]
    rfl
theorem rt_lens {x : List UInt8} (h : Rt x = true) : 1 ≤ x.length ∧ x.length ≤ 63 := by
  unfold Rt rightB at h
  simp only [Bool.and_eq_true] at h
  exact ⟨of_decide_eq_true h.1.1.1.1, of_decide_eq_true h.1.1.1.2⟩
theorem low_sameE {l : List UInt8} (h : ∀ c ∈ l, lowc c = c) : low l = l := by
  unfold low
  induction l with
  | nil => rfl
  | cons a l ih => rw [List.map_cons, h a (by simp), ih (fun c hc => h c (List.mem_cons_of_mem _ hc))]
theorem low_capsE {s : List UInt8} {c : UInt8} (h : c ∈ low s) : lowc c = c := by
  unfold low at h
  obtain ⟨d, _, rfl⟩ := List.mem_map.1 h
  exact lowc_lowc d
theorem jn_memE {c : UInt8} {x : List UInt8} : ∀ {l : List (List UInt8)}, x ∈ l → c ∈ x → c ∈ jn l
  | [], h, _ => by cases h
  | [y], h, hc => by
    rw [List.mem_singleton] at h
    subst h
    exact hc
  | y :: z :: t, h, hc => by
    rw [jn_cons y (by simp)]
    rcases List.mem_cons.1 h with rfl | h
    · exact List.mem_append_left _ hc
    · exact List.mem_append_right _ (List.mem_cons_of_mem _ (jn_memE h hc))
theorem encN_len1 : ∀ (l : List (List UInt8)) (pos : Nat) (st : St), (∀ x ∈ l, 1 ≤ x.length) → (encN pos st l).1.length ≤ (l.map (·.length)).sum + l.length + 1
  | [], _, _, _ => by unfold encN; simp
  | x :: l, pos, st, h => by
    have hx := h x (by simp)
    unfold encN
    rw [List.map_cons, List.sum_cons, List.length_cons]
    cases st (jn (x :: l)) with
    | some p => show (be2 _).length ≤ _; show 2 ≤ _; omega
    | none =>
      simp only
      have := encN_len1 l (pos + 1 + x.length) (if pos < 16384 then st.put (jn (x :: l)) pos else st) (fun y hy => h y (List.mem_cons_of_mem _ hy))
      rw [List.length_append, List.length_cons]
      omega
/-- may it be a label that is told? -/
structure LabOk (x : List UInt8) : Prop where
  h1 : 1 ≤ x.length
  h63 : x.length ≤ 63
  rt : Rt x = true
  lo : low x = x
  np : (46 : UInt8) ∉ x
/-- labels stand at a place: told by so many places, and what is behind them there -/
inductive Std (b : List UInt8) : Nat → List (List UInt8) → Nat → Nat → Prop
  | done {p : Nat} (h : b[p]? = some 0) : Std b p [] 0 (p + 1)
  | lab {p d e : Nat} {x : List UInt8} {l : List (List UInt8)} (hx : LabOk x) (h : Atb b p (UInt8.ofNat x.length :: x)) (g : Std b (p + 1 + x.length) l d e) : Std b p (x :: l) d e
  | ptr {p q d e : Nat} {l : List (List UInt8)} (hq : q < p) (hq2 : q < 16384) (h : Atb b p (be2 (49152 + q))) (g : Std b q l d e) : Std b p l (d + 1) (p + 2)
theorem Std.run {b : List UInt8} {p d e : Nat} {l : List (List UInt8)} (h : Std b p l d e) : ∀ (acc : List (List UInt8)) (sg td bh : Nat), td + d ≤ 16 → sg + ((l.map (·.length)).sum + l.length) ≤ 254 →
    NRun b ⟨p, acc, sg, td, bh⟩ (some (jn (acc ++ l), if td = 0 then e else bh)) := by
  induction h with
  | @done p h =>
    intro acc sg td bh h1 h2
    refine .done ?_
    unfold nstep
    simp only [h]
    rw [if_pos (by rfl), List.append_nil]
  | @lab p d e x l hx h g ih =>
    intro acc sg td bh h1 h2
    have hs : (List.map (·.length) (x :: l)).sum + (x :: l).length = (x.length + 1) + ((l.map (·.length)).sum + l.length) := by
      rw [List.map_cons, List.sum_cons, List.length_cons]; omega
    rw [hs] at h2
    have h63 := hx.h63
    have h11 := hx.h1
    have hc : b[p]? = some (UInt8.ofNat x.length) := h 0 _ rfl
    have hn : (UInt8.ofNat x.length).toNat = x.length := by rw [UInt8.toNat_ofNat']; omega
    have hx2 : Atb b (p + 1) x := h.right (s := [UInt8.ofNat x.length])
    have hl := hx2.len (by omega)
    refine .next (y := ⟨p + 1 + x.length, acc ++ [x], sg + x.length + 1, td, bh⟩) ?_ ?_
    · unfold nstep
      simp only [hc, hn]
      rw [if_neg (by omega), if_pos (by omega), hx2.cut, hx.lo, if_pos ⟨hl, hx.rt, by omega⟩]
    · have := ih (acc ++ [x]) (sg + x.length + 1) td bh h1 (by omega)
      rwa [List.append_assoc] at this
  | @ptr p q d e l hq hq2 h g ih =>
    intro acc sg td bh h1 h2
    have hc : b[p]? = some (UInt8.ofNat ((49152 + q) / 256)) := h 0 _ rfl
    have hd : b[p + 1]? = some (UInt8.ofNat (49152 + q)) := h 1 _ rfl
    have hn : (UInt8.ofNat ((49152 + q) / 256)).toNat = 192 + q / 256 := by rw [UInt8.toNat_ofNat']; omega
    have hm : (UInt8.ofNat (49152 + q)).toNat = q % 256 := by rw [UInt8.toNat_ofNat']; omega
    have hq3 : (192 + q / 256 - 192) * 256 + q % 256 = q := by omega
    refine .next (y := ⟨q, acc, sg, td + 1, if td = 0 then p + 2 else bh⟩) ?_ ?_
    · unfold nstep
      simp only [hc, hd, hn, hm]
      rw [if_neg (by omega), if_neg (by omega), if_pos (by omega), hq3, if_pos ⟨by omega, hq⟩]
    · have := ih acc sg (td + 1) (if td = 0 then p + 2 else bh) (by omega) h2
      rw [if_neg (show ¬ td + 1 = 0 by omega)] at this
      exact this
theorem Std.name {b : List UInt8} {p d e : Nat} {l : List (List UInt8)} (h : Std b p l d e) (hd : d ≤ 16) (hs : (l.map (·.length)).sum + l.length ≤ 254) : nameF b p = some (jn l, e) := by
  have := h.run [] 0 0 0 (by omega) (by omega)
  exact nameF_eq this
/-- what the table tells stands there -/
def TabN (b : List UInt8) (pos : Nat) (st : St) (n : Nat) : Prop :=
  ∀ (l : List (List UInt8)) (p : Nat), l ≠ [] → l.length ≤ n → (∀ x ∈ l, LabOk x) → st (jn l) = some p → p < pos ∧ p < 16384 ∧ ∃ d e, d + 1 ≤ l.length ∧ Std b p l d e
def Tab (b : List UInt8) (pos : Nat) (st : St) : Prop := ∀ n, TabN b pos st n
theorem Tab.mono {b : List UInt8} {pos pos' : Nat} {st : St} (h : Tab b pos st) (hp : pos ≤ pos') : Tab b pos' st := fun n l p h0 hn hx hs => by
  obtain ⟨h1, h2, h3⟩ := h n l p h0 hn hx hs
  exact ⟨by omega, h2, h3⟩
theorem Tab.nil (b : List UInt8) (pos : Nat) : Tab b pos (fun _ => none) := fun _ _ _ _ _ _ hs => by cases hs
theorem jn_labs {l l' : List (List UInt8)} (h0 : l ≠ []) (h0' : l' ≠ []) (h : ∀ x ∈ l, LabOk x) (h' : ∀ x ∈ l', LabOk x) (e : jn l = jn l') : l = l' := by
  have h1 := congrArg sp e
  rwa [sp_jnE h0 (fun x hx => (h x hx).np), sp_jnE h0' (fun x hx => (h' x hx).np)] at h1
theorem encN_std {b : List UInt8} : ∀ (l : List (List UInt8)) (pos : Nat) (st : St), (∀ x ∈ l, LabOk x) → Atb b pos (encN pos st l).1 → TabN b pos st l.length →
    ∃ d, d ≤ l.length ∧ Std b pos l d (pos + (encN pos st l).1.length) ∧ (st (jn l) = none → l ≠ [] → d + 1 ≤ l.length)
  | [], pos, st, _, hA, _ => ⟨0, Nat.le_refl _, .done (hA 0 0 rfl), fun _ h => absurd rfl h⟩
  | x :: l, pos, st, hx, hA, hT => by
    unfold encN at hA ⊢
    cases hst : st (jn (x :: l)) with
    | some p =>
      rw [hst] at hA
      simp only at hA ⊢
      obtain ⟨h1, h2, d, e, hd, hs⟩ := hT (x :: l) p (by simp) (Nat.le_refl _) hx hst
      exact ⟨d + 1, hd, .ptr h1 h2 hA hs, fun h => by cases h⟩
    | none =>
      rw [hst] at hA
      simp only at hA ⊢
      have hr := hA.right
      have e1 : pos + (UInt8.ofNat x.length :: x).length = pos + 1 + x.length := by rw [List.length_cons]; omega
      rw [e1] at hr
      obtain ⟨d, hd, hs, _⟩ := encN_std l _ _ (fun y hy => hx y (List.mem_cons_of_mem _ hy)) hr (fun l' p h0 hn hx' hp => by
        have hp' : st (jn l') = some p := by
          by_cases h16 : pos < 16384
          · rw [if_pos h16] at hp
            unfold St.put at hp
            by_cases hj : jn l' = jn (x :: l)
            · have := jn_labs h0 (by simp) hx' hx hj
              rw [this, List.length_cons] at hn
              omega
            · rwa [if_neg hj] at hp
          · rwa [if_neg h16] at hp
        obtain ⟨h1, h2, h3⟩ := hT l' p h0 (by rw [List.length_cons]; omega) hx' hp'
        exact ⟨by omega, h2, h3⟩)
      refine ⟨d, by rw [List.length_cons]; omega, ?_, fun _ _ => by rw [List.length_cons]; omega⟩
      have hs' := Std.lab (hx x (by simp)) hA.left hs
      rw [List.length_append, List.length_cons]
      have e2 : pos + (x.length + 1 + (encN (pos + 1 + x.length) (if pos < 16384 then st.put (jn (x :: l)) pos else st) l).1.length) = pos + 1 + x.length + (encN (pos + 1 + x.length) (if pos < 16384 then st.put (jn (x :: l)) pos else st) l).1.length := by omega
      rw [e2]
      exact hs'
theorem encN_tab {b : List UInt8} : ∀ (l : List (List UInt8)) (pos : Nat) (st : St), (∀ x ∈ l, LabOk x) → Atb b pos (encN pos st l).1 → Tab b pos st → Tab b (pos + (encN pos st l).1.length) (encN pos st l).2
  | [], pos, st, _, _, hT => hT.mono (by omega)
  | x :: l, pos, st, hx, hA, hT => by
    have hS := encN_std (x :: l) pos st hx hA (hT _)
    unfold encN at hA hS ⊢
    cases hst : st (jn (x :: l)) with
    | some p => simp only; exact hT.mono (by omega)
    | none =>
      rw [hst] at hA hS
      simp only at hA hS ⊢
      have hr := hA.right
      have e1 : pos + (UInt8.ofNat x.length :: x).length = pos + 1 + x.length := by rw [List.length_cons]; omega
      rw [e1] at hr
      obtain ⟨d, _, hs, hd⟩ := hS
      have hd := hd trivial (by simp)
      have h := encN_tab l _ _ (fun y hy => hx y (List.mem_cons_of_mem _ hy)) hr (fun n l' p h0 hn hx' hp => by
        by_cases h16 : pos < 16384
        · rw [if_pos h16] at hp
          unfold St.put at hp
          by_cases hj : jn l' = jn (x :: l)
          · have hl := jn_labs h0 (by simp) hx' hx hj
            rw [if_pos hj] at hp
            injection hp with hp
            subst hp
            subst hl
            exact ⟨by omega, h16, d, _, hd, hs⟩
          · rw [if_neg hj] at hp
            obtain ⟨h1, h2, h3⟩ := hT n l' p h0 hn hx' hp
            exact ⟨by omega, h2, h3⟩
        · rw [if_neg h16] at hp
          obtain ⟨h1, h2, h3⟩ := hT n l' p h0 hn hx' hp
          exact ⟨by omega, h2, h3⟩)
      rw [List.length_append, List.length_cons]
      have e2 : pos + (x.length + 1 + (encN (pos + 1 + x.length) (if pos < 16384 then st.put (jn (x :: l)) pos else st) l).1.length) = pos + 1 + x.length + (encN (pos + 1 + x.length) (if pos < 16384 then st.put (jn (x :: l)) pos else st) l).1.length := by omega
      rw [e2]
      exact h
/-- may it be a name that is told and read again? -/
def NmR (s : List UInt8) : Prop := nmOk s = true ∧ (sp s).length ≤ 16
theorem labs_of {s : List UInt8} (h : nmOk s = true) : ∀ x ∈ sp s, LabOk x := fun x hx => by
  unfold nmOk at h
  simp only [Bool.and_eq_true, decide_eq_true_eq, List.all_eq_true] at h
  obtain ⟨⟨_, hl⟩, hr⟩ := h
  have hrt := hr x hx
  have hR := rt_lens hrt
  refine ⟨hR.1, hR.2, hrt, ?_, sp_no_point s x hx⟩
  refine low_sameE (fun c hc => ?_)
  have : c ∈ s := by rw [← jn_sp s]; exact jn_memE hx hc
  rw [← hl] at this
  exact low_capsE this
theorem name_read {b : List UInt8} {pos : Nat} {st : St} {nm : List UInt8} (hn : NmR nm) (hA : Atb b pos (encN pos st (sp nm)).1) (hT : Tab b pos st) :
    nameF b pos = some (nm, pos + (encN pos st (sp nm)).1.length) ∧ Tab b (pos + (encN pos st (sp nm)).1.length) (encN pos st (sp nm)).2 := by
  obtain ⟨d, hd, hs, _⟩ := encN_std (sp nm) pos st (labs_of hn.1) hA (hT _)
  have h1 := hs.name (by have := hn.2; omega) (by
    rw [jn_sum _ (sp_ne nm), jn_sp]
    have h := hn.1
    unfold nmOk at h
    simp only [Bool.and_eq_true, decide_eq_true_eq] at h
    have := h.1.1
    omega)
  rw [jn_sp] at h1
  exact ⟨h1, encN_tab (sp nm) pos st (labs_of hn.1) hA hT⟩
theorem ques_read {b : List UInt8} {pos ty : Nat} {st : St} {nm : List UInt8} (hn : NmR nm) (ht : ty ≤ 65535) (hA : Atb b pos (encQ pos st nm ty).1) (hT : Tab b pos st) :
    qF b pos = some ((nm, ty), pos + (encQ pos st nm ty).1.length) ∧ Tab b (pos + (encQ pos st nm ty).1.length) (encQ pos st nm ty).2 := by
  unfold encQ at hA ⊢
  simp only at hA ⊢
  obtain ⟨h1, h2⟩ := name_read hn hA.left hT
  have h3 := numF_at (k := 2) hA.right.left rfl (by omega)
  have h4 := numF_at (k := 2) (hA.right.right (s := be2 ty)) rfl (by omega)
  rw [num_be2s ht] at h3
  rw [num_be2s (by omega), show (be2 ty).length = 2 from rfl] at h4
  have hL : pos + ((encN pos st (sp nm)).1 ++ (be2 ty ++ be2 1)).length = pos + (encN pos st (sp nm)).1.length + 4 := by
    rw [List.length_append, List.length_append, show (be2 ty).length = 2 from rfl, show (be2 1).length = 2 from rfl]; omega
  rw [hL]
  refine ⟨?_, h2.mono (by omega)⟩
  unfold qF
  rw [h1, Option.bind_some]
  simp only
  rw [h3, Option.bind_some]
  simp only
  rw [h4, Option.bind_some]
  rfl
/-- may it be a record that is told and read again? -/
structure RecR (r : Rec) : Prop where
  ok : recOk r = true
  ad : r.ad.length = 16
  nm : (sp r.nm).length ≤ 16
  tx : (sp r.tx).length ≤ 16
theorem pre4_of {ad : List UInt8} (h : ad.take 12 = pre4) : pre4 ++ ad.drop 12 = ad := by rw [← h, List.take_append_drop]
theorem emp_of {l : List UInt8} (h : l.isEmpty = true) : l = [] := List.isEmpty_iff.1 h
theorem rec_read {b : List UInt8} {pos : Nat} {st : St} {r : Rec} (hr : RecR r) (hA : Atb b pos (encR pos st r).1) (hT : Tab b pos st) :
    recF b pos = some (r, pos + (encR pos st r).1.length) ∧ Tab b (pos + (encR pos st r).1.length) (encR pos st r).2 := by
  have hok := hr.ok
  unfold recOk at hok
  simp only [Bool.and_eq_true, decide_eq_true_eq] at hok
  obtain ⟨⟨⟨⟨hnm, hty1⟩, hty⟩, httl⟩, hdo⟩ := hok
  obtain ⟨nm, ty, ttl, ad, tx, da⟩ := r
  simp only at hnm hty1 hty httl
  have had : ad.length = 16 := hr.ad
  obtain ⟨hq, hTq⟩ := ques_read (ty := ty) ⟨hnm, hr.nm⟩ hty (show Atb b pos (encQ pos st nm ty).1 from hA.left) hT
  unfold encR at hA ⊢
  simp only at hA ⊢
  have e0 : posD pos st ⟨nm, ty, ttl, ad, tx, da⟩ = pos + (encQ pos st nm ty).1.length + 6 := rfl
  rw [e0] at hA ⊢
  generalize encQ pos st nm ty = Q at hq hTq hA ⊢
  obtain ⟨qb, st2⟩ := Q
  simp only at hq hTq hA ⊢
  generalize hP : pos + qb.length = P at hq hTq hA ⊢
  have hB := hA.right
  rw [hP] at hB
  have hB4 := hB.left.left
  have hBz := hB.left.right (s := be2 (ttl / 65536) ++ be2 ttl)
  have hBd := hB.right
  have l4 : (be2 (ttl / 65536) ++ be2 ttl).length = 4 := rfl
  have n4 := numF_at (k := 4) hB4 l4 (by omega)
  rw [num_be4s (by omega)] at n4
  rw [l4] at hBz
  -- the data's length, and what is read of them
  have key : ∀ (D : List UInt8 × St), encD (P + 6) st2 ⟨nm, ty, ttl, ad, tx, da⟩ = D → Atb b (P + 6) D.1 → D.1.length ≤ 255 →
      (if ty = 2 ∨ ty = 5 ∨ ty = 12 then (nameF b (P + 6)).bind fun x => if x.2 = P + 6 + D.1.length then some (⟨nm, ty, ttl, zero16, x.1, []⟩, x.2) else none
      else if P + 6 + D.1.length ≤ b.length then some (withD nm ty ttl (cutB b (P + 6) D.1.length), P + 6 + D.1.length) else none) = some ((⟨nm, ty, ttl, ad, tx, da⟩ : Rec), P + 6 + D.1.length) → Tab b (P + 6 + D.1.length) D.2 →
      Atb b (P + 4) [0, UInt8.ofNat D.1.length] →
      recF b pos = some ((⟨nm, ty, ttl, ad, tx, da⟩ : Rec), P + 6 + D.1.length) ∧ Tab b (P + 6 + D.1.length) D.2 := fun D _ hD hl hres hTD hz => by
    refine ⟨?_, hTD⟩
    have n2 := numF_at (k := 2) hz rfl (by omega)
    have hnum : num [0, UInt8.ofNat D.1.length] = D.1.length := num_b1 hl
    rw [hnum] at n2
    unfold recF
    rw [hq, Option.bind_some]
    simp only
    rw [n4, Option.bind_some]
    simp only
    rw [n2, Option.bind_some]
    simp only
    rw [show min ttl 1048576 = ttl by omega]
    rw [show P + 4 + 2 = P + 6 by omega]
    exact hres
  have hBd' : Atb b (P + 6) (encD (P + 6) st2 ⟨nm, ty, ttl, ad, tx, da⟩).1 := by
    rw [List.length_append, l4] at hBd
    exact hBd
  have hlen : pos + (qb ++ (be2 (ttl / 65536) ++ be2 ttl ++ [0, UInt8.ofNat (encD (P + 6) st2 ⟨nm, ty, ttl, ad, tx, da⟩).1.length] ++ (encD (P + 6) st2 ⟨nm, ty, ttl, ad, tx, da⟩).1)).length = P + 6 + (encD (P + 6) st2 ⟨nm, ty, ttl, ad, tx, da⟩).1.length := by
    rw [List.length_append, List.length_append, List.length_append, l4, ← hP]
    show pos + (qb.length + (4 + 2 + _)) = _
    omega
  rw [hlen]
  clear hlen hBd hB4 hB hA
  unfold dataOk at hdo
  simp only at hdo
  by_cases h1 : ty = 1
  · subst h1
    rw [if_pos rfl] at hdo
    simp only [Bool.and_eq_true, decide_eq_true_eq] at hdo
    obtain ⟨⟨h4, htx⟩, hda⟩ := hdo
    have htx := emp_of htx
    have hda := emp_of hda
    subst htx hda
    have hl4 : (ad.drop 12).length = 4 := by rw [List.length_drop, had]
    have hE : encD (P + 6) st2 ⟨nm, 1, ttl, ad, [], []⟩ = (ad.drop 12, st2) := rfl
    rw [hE] at hBd' hBz ⊢
    refine key _ hE hBd' (by show (ad.drop 12).length ≤ 255; omega) ?_ (hTq.mono (by omega)) hBz
    rw [if_neg (by omega), if_pos (hBd'.len (by show 0 < (ad.drop 12).length; omega)), hBd'.cut]
    unfold withD
    rw [if_pos ⟨rfl, hl4⟩, pre4_of h4]
  · rw [if_neg h1] at hdo
    by_cases h28 : ty = 28
    · subst h28
      rw [if_pos rfl] at hdo
      simp only [Bool.and_eq_true] at hdo
      obtain ⟨htx, hda⟩ := hdo
      have htx := emp_of htx
      have hda := emp_of hda
      subst htx hda
      have hE : encD (P + 6) st2 ⟨nm, 28, ttl, ad, [], []⟩ = (ad, st2) := rfl
      rw [hE] at hBd' hBz ⊢
      refine key _ hE hBd' (by show ad.length ≤ 255; omega) ?_ (hTq.mono (by omega)) hBz
      rw [if_neg (by omega), if_pos (hBd'.len (by show 0 < ad.length; omega)), hBd'.cut]
      unfold withD
      rw [if_neg (by omega), if_pos ⟨rfl, had⟩]
    · rw [if_neg h28] at hdo
      by_cases hn : ty = 2 ∨ ty = 5 ∨ ty = 12
      · rw [if_pos hn] at hdo
        simp only [Bool.and_eq_true, decide_eq_true_eq] at hdo
        obtain ⟨⟨htx, hz⟩, hda⟩ := hdo
        have hda := emp_of hda
        subst hda hz
        have hE : encD (P + 6) st2 ⟨nm, ty, ttl, zero16, tx, []⟩ = encN (P + 6) st2 (sp tx) := by
          unfold encD
          simp only
          rw [if_neg h1, if_neg h28, if_pos hn]
        rw [hE] at hBd' hBz ⊢
        obtain ⟨x1, x2⟩ := name_read (st := st2) (pos := P + 6) ⟨htx, hr.tx⟩ hBd' (hTq.mono (by omega))
        refine key _ hE hBd' ?_ ?_ x2 hBz
        · have h := htx
          unfold nmOk at h
          simp only [Bool.and_eq_true, decide_eq_true_eq] at h
          have h1 := encN_len1 (sp tx) (P + 6) st2 (fun x hx => (labs_of htx x hx).h1)
          rw [jn_sum _ (sp_ne tx), jn_sp] at h1
          have := h.1.1
          omega
        · rw [if_pos hn, x1, Option.bind_some]
          exact if_pos rfl
      · rw [if_neg hn] at hdo
        simp only [Bool.and_eq_true, decide_eq_true_eq] at hdo
        obtain ⟨⟨hl, hz⟩, htx⟩ := hdo
        have htx := emp_of htx
        subst htx hz
        have hE : encD (P + 6) st2 ⟨nm, ty, ttl, zero16, [], da⟩ = (da, st2) := by
          unfold encD
          simp only
          rw [if_neg h1, if_neg h28, if_neg hn]
        rw [hE] at hBd' hBz ⊢
        refine key _ hE hBd' hl ?_ (hTq.mono (by omega)) hBz
        have hfit : P + 6 + da.length ≤ b.length := by
          by_cases h0 : 0 < da.length
          · exact hBd'.len h0
          · have := hBz.len (by show 0 < 2; omega)
            simp only [List.length_cons, List.length_nil] at this
            omega
        rw [if_neg hn, if_pos hfit, hBd'.cut]
        unfold withD
        rw [if_neg (by omega), if_neg (by omega)]
theorem recs_read {b : List UInt8} : ∀ (l : List Rec) (pos : Nat) (st : St), (∀ r ∈ l, RecR r) → Atb b pos (encRs pos st l).1 → Tab b pos st →
    recsF b pos l.length = some (l, pos + (encRs pos st l).1.length) ∧ Tab b (pos + (encRs pos st l).1.length) (encRs pos st l).2
  | [], pos, st, _, _, hT => ⟨rfl, hT⟩
  | r :: l, pos, st, hr, hA, hT => by
    unfold encRs at hA ⊢
    simp only at hA ⊢
    obtain ⟨h1, h2⟩ := rec_read (hr r (by simp)) hA.left hT
    obtain ⟨h3, h4⟩ := recs_read l _ _ (fun x hx => hr x (List.mem_cons_of_mem _ hx)) hA.right h2
    rw [List.length_append, ← Nat.add_assoc]
    refine ⟨?_, h4⟩
    rw [List.length_cons]
    unfold recsF
    rw [h1, Option.bind_some]
    simp only
    rw [h3, Option.bind_some]
theorem recsF_two {b : List UInt8} : ∀ {n m p p' p'' : Nat} {l l' : List Rec}, recsF b p n = some (l, p') → recsF b p' m = some (l', p'') → recsF b p (n + m) = some (l ++ l', p'')
  | 0, m, p, p', p'', l, l', h, h' => by
    unfold recsF at h
    injection h with h
    injection h with h1 h2
    subst h1 h2
    rw [Nat.zero_add]
    exact h'
  | n + 1, m, p, p', p'', l, l', h, h' => by
    rw [show n + 1 + m = (n + m) + 1 by omega]
    unfold recsF at h ⊢
    cases hr : recF b p with
    | none => rw [hr] at h; cases h
    | some x =>
      rw [hr, Option.bind_some] at h
      rw [Option.bind_some]
      cases hl : recsF b x.2 n with
      | none => rw [hl] at h; cases h
      | some y =>
        rw [hl, Option.bind_some] at h
        injection h with h
        injection h with h1 h2
        subst h1
        obtain ⟨y1, y2⟩ := y
        simp only at h2
        subst h2
        rw [recsF_two hl h', Option.bind_some]
        rfl
/-- may it be a message that is told and read again? -/
structure MsgR (m : Msg) : Prop where
  id : m.id ≤ 65535
  bt : bitsN m ≤ 65535
  qn : NmR m.qn
  qt : m.qt ≤ 65535
  an : ∀ r ∈ m.an, RecR r
  au : ∀ r ∈ m.au, RecR r
  la : m.an.length ≤ 32
  lu : m.au.length ≤ 32
theorem head_len (m : Msg) : (headB m).length = 12 := rfl
theorem hd_enc {m : Msg} (h : MsgR m) (more : List UInt8) : hd (enc m ++ more) 0 = m.id ∧ hd (enc m ++ more) 1 = bitsN m ∧ hd (enc m ++ more) 2 = 1 ∧ hd (enc m ++ more) 3 = m.an.length ∧ hd (enc m ++ more) 4 = m.au.length := by
  have h0 := h.id
  have h1 := h.bt
  have h3 := h.la
  have h4 := h.lu
  refine ⟨(num_be2s h0 : num (be2 m.id) = m.id), (num_be2s h1 : num (be2 (bitsN m)) = bitsN m), (num_be2s (by omega) : num (be2 1) = 1), (num_be2s (by omega) : num (be2 m.an.length) = m.an.length), (num_be2s (by omega) : num (be2 m.au.length) = m.au.length)⟩
theorem enc_read {m : Msg} (h : MsgR m) (more : List UInt8) : 12 ≤ (enc m ++ more).length ∧ ∃ p q, qF (enc m ++ more) 12 = some ((m.qn, m.qt), p) ∧ recsF (enc m ++ more) p (m.an.length + m.au.length) = some (m.an ++ m.au, q) := by
  have e : enc m ++ more = headB m ++ ((encA m).1 ++ ((encB m).1 ++ ((encC m).1 ++ more))) := by unfold enc; simp only [List.append_assoc]
  have hA : Atb (enc m ++ more) 12 ((encA m).1 ++ ((encB m).1 ++ (encC m).1)) := fun i c hc => by
    have e2 : enc m ++ more = headB m ++ (((encA m).1 ++ ((encB m).1 ++ (encC m).1)) ++ more) := by unfold enc; simp only [List.append_assoc]
    rw [e2]
    exact Atb.self (headB m) _ more i c hc
  refine ⟨by rw [e, List.length_append, head_len]; omega, ?_⟩
  obtain ⟨h1, t1⟩ := ques_read (ty := m.qt) (st := fun _ => none) (pos := 12) h.qn h.qt hA.left (Tab.nil _ _)
  obtain ⟨h2, t2⟩ := recs_read m.an (12 + (encA m).1.length) (encA m).2 h.an hA.right.left t1
  obtain ⟨h3, _⟩ := recs_read m.au (12 + (encA m).1.length + (encB m).1.length) (encB m).2 h.au hA.right.right t2
  exact ⟨_, _, h1, recsF_two h2 h3⟩
end Go.Proofs.YtakfokdjdljjjaaDoor
namespace Go.Proofs.YtakfokdjdljjjaaDoor
open Go.RowKit

/-- what a message says, wherever its lists lie -/
def MV.nrm (m : MV) : MV := ⟨m.id, m.rp, m.tr, m.rc, m.code, m.qn, m.qt, none, 0, m.an, none, 0, m.au⟩
theorem nrm_ok {m m' : MV} (h : m.nrm = m'.nrm) : mvOk m = mvOk m' := by
  have e : mvOk m.nrm = mvOk m'.nrm := by rw [h]
  exact e
def lb16 (s : ByteArray) : Prop := (sp s.data.toList).length ≤ 16
/-- may it be a message that comes back from its bytes? -/
structure MV.Again (m : MV) : Prop where
  ok : mvOk m = true
  fits : m.Fits
  qn : lb16 m.qn
  an : ∀ r ∈ m.an, lb16 r.nm ∧ lb16 r.tx
  au : ∀ r ∈ m.au, lb16 r.nm ∧ lb16 r.tx
theorem emp_data {s : ByteArray} (h : (s.toList == emp.toList) = true) : s.data.toList = [] := by
  rw [Lib.toList_data, Lib.toList_data] at h
  exact eq_of_beq h
theorem recR_of {r : RV} (h16 : r.ad.length = 16) (h : rvOk r = true) (hn : lb16 r.nm) (ht : lb16 r.tx) : RecR r.rec_ := by
  refine ⟨?_, h16, hn, ht⟩
  unfold rvOk btw at h
  simp only [Bool.and_eq_true, decide_eq_true_eq] at h
  obtain ⟨⟨⟨h1, h2⟩, h3⟩, h4⟩ := h
  unfold recOk
  simp only [Bool.and_eq_true, decide_eq_true_eq]
  have hty : ((r.ty.toNat : Nat) : Int) = r.ty := by omega
  refine ⟨⟨⟨⟨h1, by show 1 ≤ r.ty.toNat; omega⟩, by show r.ty.toNat ≤ 65535; omega⟩, by show r.ttl.toNat ≤ 1048576; omega⟩, ?_⟩
  unfold dataOk
  show (if r.ty.toNat = 1 then _ else if r.ty.toNat = 28 then _ else if r.ty.toNat = 2 ∨ r.ty.toNat = 5 ∨ r.ty.toNat = 12 then _ else _) = true
  by_cases k1 : r.ty = 1
  · rw [if_pos k1] at h4
    rw [if_pos (by omega)]
    unfold RV.eqB at h4
    simp only [Bool.and_eq_true] at h4 ⊢
    obtain ⟨ha, ⟨_, htx⟩, hda⟩ := h4
    have ha := eq_of_beq ha
    refine ⟨⟨decide_eq_true ?_, List.isEmpty_iff.2 (emp_data htx)⟩, List.isEmpty_iff.2 (emp_data hda)⟩
    show r.ad.take 12 = pre4
    rw [ha]
    rfl
  · rw [if_neg k1] at h4
    rw [if_neg (by omega)]
    by_cases k28 : r.ty = 28
    · rw [if_pos k28] at h4
      rw [if_pos (by omega)]
      unfold RV.eqB at h4
      simp only [Bool.and_eq_true] at h4 ⊢
      obtain ⟨⟨_, htx⟩, hda⟩ := h4
      exact ⟨List.isEmpty_iff.2 (emp_data htx), List.isEmpty_iff.2 (emp_data hda)⟩
    · rw [if_neg k28] at h4
      rw [if_neg (by omega)]
      by_cases kn : r.ty = 2 ∨ r.ty = 5 ∨ r.ty = 12
      · rw [if_pos kn] at h4
        rw [if_pos (by omega)]
        unfold RV.eqB at h4
        simp only [Bool.and_eq_true] at h4 ⊢
        obtain ⟨hg, ⟨⟨_, had⟩, _⟩, hda⟩ := h4
        exact ⟨⟨hg, decide_eq_true (eq_of_beq had)⟩, List.isEmpty_iff.2 (emp_data hda)⟩
      · rw [if_neg kn] at h4
        rw [if_neg (by omega)]
        unfold RV.eqB at h4
        simp only [Bool.and_eq_true, decide_eq_true_eq] at h4 ⊢
        obtain ⟨hl, ⟨⟨_, had⟩, htx⟩, _⟩ := h4
        exact ⟨⟨hl, eq_of_beq had⟩, List.isEmpty_iff.2 (emp_data htx)⟩
theorem ofRec_rec {r : RV} (h1 : 0 ≤ r.ty) (h2 : 0 ≤ r.ttl) : RV.ofRec r.rec_ = r := by
  obtain ⟨nm, ty, ttl, ad, tx, da⟩ := r
  simp only at h1 h2
  show (⟨nm, (ty.toNat : Nat), (ttl.toNat : Nat), ad, tx, da⟩ : RV) = _
  rw [show ((ty.toNat : Nat) : Int) = ty by omega, show ((ttl.toNat : Nat) : Int) = ttl by omega]
theorem ofRec_all {l : List RV} (h : ∀ r ∈ l, rvOk r = true) : (l.map RV.rec_).map RV.ofRec = l := by
  rw [List.map_map]
  induction l with
  | nil => rfl
  | cons a l ih =>
    rw [List.map_cons, ih (fun r hr => h r (List.mem_cons_of_mem _ hr))]
    have ha := h a (by simp)
    unfold rvOk btw at ha
    simp only [Bool.and_eq_true, decide_eq_true_eq] at ha
    rw [show (RV.ofRec ∘ RV.rec_) a = a from ofRec_rec (by omega) (by omega)]
theorem bits_tab : ∀ (rp tr rc : Bool) (c : Fin 16), (bits BinOp.and .i64 (((if rp then 32768 else 0) + (if tr then 512 else 0) + (if rc then 256 else 0) + c.val : Nat) : Int) 30720 = 0 ∧
    (bits BinOp.and .i64 (((if rp then 32768 else 0) + (if tr then 512 else 0) + (if rc then 256 else 0) + c.val : Nat) : Int) 32768 != 0) = rp ∧ (bits BinOp.and .i64 (((if rp then 32768 else 0) + (if tr then 512 else 0) + (if rc then 256 else 0) + c.val : Nat) : Int) 512 != 0) = tr ∧
    (bits BinOp.and .i64 (((if rp then 32768 else 0) + (if tr then 512 else 0) + (if rc then 256 else 0) + c.val : Nat) : Int) 256 != 0) = rc ∧ bits BinOp.and .i64 (((if rp then 32768 else 0) + (if tr then 512 else 0) + (if rc then 256 else 0) + c.val : Nat) : Int) 15 = (c.val : Int)) := by decide +kernel
structure MvParts (m : MV) : Prop where
  id0 : 0 ≤ m.id
  id1 : m.id ≤ 65535
  c0 : 0 ≤ m.code
  c1 : m.code ≤ 15
  qn : gosB m.qn = true
  q0 : 1 ≤ m.qt
  q1 : m.qt ≤ 65535
  la : m.an.length ≤ 32
  an : ∀ r ∈ m.an, rvOk r = true
  lu : m.au.length ≤ 32
  au : ∀ r ∈ m.au, rvOk r = true
theorem mv_parts {m : MV} (h : mvOk m = true) : MvParts m := by
  unfold mvOk allB btw at h
  simp only [Bool.and_eq_true, decide_eq_true_eq, List.all_eq_true] at h
  obtain ⟨⟨a, b⟩, ⟨c, d⟩, e, ⟨f, g⟩, ⟨i, j⟩, k, l⟩ := h
  exact ⟨a, b, c, d, e, f, g, i, j, k, l⟩
theorem msgR_of {m : MV} (h : m.Again) : MsgR m.msg := by
  have p := mv_parts h.ok
  have p1 := p.id0
  have p2 := p.id1
  have p3 := p.c0
  have p4 := p.c1
  have p5 := p.q1
  refine ⟨by show m.id.toNat ≤ 65535; omega, ?_, ⟨p.qn, h.qn⟩, by show m.qt.toNat ≤ 65535; omega, fun r hr => ?_, fun r hr => ?_, ?_, ?_⟩
  · unfold bitsN
    show (if m.rp then 32768 else 0) + (if m.tr then 512 else 0) + (if m.rc then 256 else 0) + m.code.toNat ≤ 65535
    cases m.rp <;> cases m.tr <;> cases m.rc <;> simp <;> omega
  · obtain ⟨x, hx, rfl⟩ := List.mem_map.1 hr
    exact recR_of (h.fits.an x hx).ad (p.an x hx) (h.an x hx).1 (h.an x hx).2
  · obtain ⟨x, hx, rfl⟩ := List.mem_map.1 hr
    exact recR_of (h.fits.au x hx).ad (p.au x hx) (h.au x hx).1 (h.au x hx).2
  · show (m.an.map RV.rec_).length ≤ 32
    rw [List.length_map]; exact p.la
  · show (m.au.map RV.rec_).length ≤ 32
    rw [List.length_map]; exact p.lu
/-- what Decode answers where it answers a message that says what o says, or none -/
def DecN (o : Option MV) (w : World) (e : Ending) (w' : World) : Prop :=
  Below w.heap.size w w' ∧ ((o = none ∧ e = .returned (.tuple #[.agg zMsg, .int .i64 4])) ∨ ∃ m : MV, o = some m.nrm ∧ mvOk m = true ∧ m.Fits ∧ m.Lies w' ∧ e = .returned (.tuple #[.agg m.cells, .int .i64 0]))
def gdM (b : List UInt8) (q : (List UInt8 × Nat) × Nat) (l : List Rec × Nat) : MV :=
  ⟨(hd b 0 : Nat), bits BinOp.and .i64 (hd b 1 : Nat) 32768 != 0, bits BinOp.and .i64 (hd b 1 : Nat) 512 != 0, bits BinOp.and .i64 (hd b 1 : Nat) 256 != 0, bits BinOp.and .i64 (hd b 1 : Nat) 15, bs q.1.1, (q.1.2 : Nat), none, 0, (l.1.take (hd b 3)).map RV.ofRec, none, 0, (l.1.drop (hd b 3)).map RV.ofRec⟩
theorem decode_gd {A : Option Addr} {c : Nat} {b : List UInt8} {w : World} (he : Env w) (hin : InB w w.heap.size A b) (hc : b.length ≤ c) (hl : b.length ≤ 140737488351232) (hn : A = none → c = 0)
    (h12 : 12 ≤ b.length) (hop : bits BinOp.and .i64 (hd b 1 : Nat) 30720 = 0) (hq1 : hd b 2 = 1) (hmx : max (hd b 3) (hd b 4) ≤ 32)
    {q : (List UInt8 × Nat) × Nat} {l : List Rec × Nat} (hq : qF b 12 = some q) (hr : recsF b q.2 (hd b 3 + hd b 4) = some l) :
    Calls Tryd.prog 10 #[.slice A b.length c] w (DecN (if mvOk (gdM b q l) = true then some (gdM b q l) else none) w) := by
  have HR := fun (W : World) (base g' : Nat) (o' : Option Nat) (hE : Env W) (hB : 0 < base) (h : RSt base W g' A c b o') => recordP base g' c A b o' W hE hB h
  refine (decode_good A c b w he hin hc hl hn h12 hop hq1 hmx HR hq hr).mono ?_
  rintro e w' ⟨hb, m, h1, h2, h3, h4, h5, h6, h7, h8, h9, h10, hk⟩
  have hm : m.nrm = gdM b q l := by
    obtain ⟨id, rp, tr, rc, code, qn, qt, A, ca, an, U, cu, au⟩ := m
    simp only at h1 h2 h3 h4 h5 h7 h8 h9 h10
    subst h1 h2 h3 h4 h5 h7 h8 h9 h10
    rfl
  have hok : mvOk m = mvOk (gdM b q l) := by rw [← hm]; rfl
  refine ⟨hb, ?_⟩
  rcases hk with ⟨hk, rfl, hs⟩ | ⟨hk, rfl⟩
  · rw [← hok, if_pos hk]
    exact .inr ⟨m, by rw [hm], hk, h6, hs, rfl⟩
  · rw [← hok, hk]
    exact .inl ⟨rfl, rfl⟩
theorem decode_anyN (b : List UInt8) (hl : b.length ≤ 140737488351232) : ∃ o : Option MV, ∀ (A : Option Addr) (c : Nat) (w : World), Env w → InB w w.heap.size A b → b.length ≤ c → (A = none → c = 0) →
    Calls Tryd.prog 10 #[.slice A b.length c] w (DecN o w) := by
  by_cases hbad : 12 ≤ b.length → bits BinOp.and .i64 (hd b 1 : Nat) 30720 ≠ 0 ∨ hd b 2 ≠ 1 ∨ 32 < max (hd b 3) (hd b 4)
  · exact ⟨none, fun A c w he hin hc hn => (decode_head A c b w he hin hc hl hn hbad).mono fun e w' h => ⟨h.2, .inl ⟨rfl, h.1⟩⟩⟩
  · have h12 : 12 ≤ b.length := Classical.byContradiction fun h => hbad fun h' => absurd h' h
    have h3 : ¬ (bits BinOp.and .i64 (hd b 1 : Nat) 30720 ≠ 0 ∨ hd b 2 ≠ 1 ∨ 32 < max (hd b 3) (hd b 4)) := fun h => hbad fun _ => h
    rw [not_or, not_or] at h3
    obtain ⟨h4, h5, h6⟩ := h3
    have hop := Classical.not_not.1 h4
    have hq1 := Classical.not_not.1 h5
    cases hq : qF b 12 with
    | none => exact ⟨none, fun A c w he hin hc hn => (decode_bad A c b w he hin hc hl hn h12 hop hq1 (by omega) (fun (W : World) (base g' : Nat) (o' : Option Nat) (hE : Env W) (hB : 0 < base) (h : RSt base W g' A c b o') => recordP base g' c A b o' W hE hB h) (by rw [hq]; rfl)).mono fun e w' h => ⟨h.2, .inl ⟨rfl, h.1⟩⟩⟩
    | some q =>
      cases hr : recsF b q.2 (hd b 3 + hd b 4) with
      | none => exact ⟨none, fun A c w he hin hc hn => (decode_bad A c b w he hin hc hl hn h12 hop hq1 (by omega) (fun (W : World) (base g' : Nat) (o' : Option Nat) (hE : Env W) (hB : 0 < base) (h : RSt base W g' A c b o') => recordP base g' c A b o' W hE hB h) (by rw [hq]; exact hr)).mono fun e w' h => ⟨h.2, .inl ⟨rfl, h.1⟩⟩⟩
      | some l => exact ⟨_, fun A c w he hin hc hn => decode_gd he hin hc hl hn h12 hop hq1 (by omega) hq hr⟩
theorem decode_enc (m : MV) (h : m.Again) (more : List UInt8) (gb cap L : Nat) (hL : L = (enc m.msg ++ more).length) (W : World) (hW : Env W) (hcap : L ≤ cap) (hL2 : L ≤ 140737488351232) (hin : InB W W.heap.size (some ⟨gb, 0, none⟩) (enc m.msg ++ more)) :
    Calls Tryd.prog 10 #[.slice (some ⟨gb, 0, none⟩) L cap] W fun e w' => Below W.heap.size W w' ∧ ∃ m' : MV, m'.nrm = m.nrm ∧ m'.Fits ∧ m'.Lies w' ∧ e = .returned (.tuple #[.agg m'.cells, .int .i64 0]) := by
  subst hL
  have p := mv_parts h.ok
  have hR := msgR_of h
  obtain ⟨g0, g1, g2, g3, g4⟩ := hd_enc hR more
  obtain ⟨h12, P, Q, hq, hr⟩ := enc_read hR more
  have p1 := p.id0
  have p3 := p.c0
  have p4 := p.c1
  have p5 := p.q0
  have la := p.la
  have lu := p.lu
  have e3 : m.msg.an.length = m.an.length := List.length_map ..
  have e4 : m.msg.au.length = m.au.length := List.length_map ..
  obtain ⟨b1, b2, b3, b4, b5⟩ := bits_tab m.rp m.tr m.rc ⟨m.code.toNat, by omega⟩
  have eb : bitsN m.msg = (if m.rp then 32768 else 0) + (if m.tr then 512 else 0) + (if m.rc then 256 else 0) + m.code.toNat := rfl
  simp only at b1 b2 b3 b4 b5
  rw [← eb] at b1 b2 b3 b4 b5
  have hm : gdM (enc m.msg ++ more) ((m.msg.qn, m.msg.qt), P) (m.msg.an ++ m.msg.au, Q) = m.nrm := by
    unfold gdM MV.nrm
    rw [g0, g1, g3, b2, b3, b4, b5]
    show (⟨(m.id.toNat : Nat), m.rp, m.tr, m.rc, (m.code.toNat : Nat), m.qn, (m.qt.toNat : Nat), none, 0, ((m.msg.an ++ m.msg.au).take m.msg.an.length).map RV.ofRec, none, 0, ((m.msg.an ++ m.msg.au).drop m.msg.an.length).map RV.ofRec⟩ : MV) = _
    rw [List.take_left, List.drop_left]
    have x1 : m.msg.an.map RV.ofRec = m.an := ofRec_all p.an
    have x2 : m.msg.au.map RV.ofRec = m.au := ofRec_all p.au
    rw [x1, x2, show ((m.id.toNat : Nat) : Int) = m.id by omega, show ((m.code.toNat : Nat) : Int) = m.code by omega, show ((m.qt.toNat : Nat) : Int) = m.qt by omega]
  have hok : mvOk (gdM (enc m.msg ++ more) ((m.msg.qn, m.msg.qt), P) (m.msg.an ++ m.msg.au, Q)) = true := by rw [hm]; exact h.ok
  refine (decode_gd (A := some ⟨gb, 0, none⟩) hW hin hcap hL2 (fun h => by cases h) h12 (by rw [g1]; exact b1) g2 (by rw [g3, g4, e3, e4]; omega) hq (by rw [g3, g4]; exact hr)).mono ?_
  rintro e w' ⟨hb, hk⟩
  rw [if_pos hok, hm] at hk
  rcases hk with ⟨h0, _⟩ | ⟨m', h0, _, h1, h2, rfl⟩
  · cases h0
  · injection h0 with h0
    exact ⟨hb, m', h0.symm, h1, h2, rfl⟩
end Go.Proofs.YtakfokdjdljjjaaDoor
namespace Go.Proofs.YtakfokdjdljjjaaDoor
open Go.RowKit

theorem RV.eqB_self (r : RV) : r.eqB r = true := by unfold RV.eqB; simp
theorem neq_agg_wp {P : Program} {o : Oper} {a : Act} {t : TypeId} {x y : Operand} {s : TypeId} {xs : Array Value} {w : World} {Q : Act → World → Prop} {QE : Exit → Act → World → Prop} (ho : o.op = .binOp .neq t x y s) (hx : a.eval x = .agg xs) (hy : a.eval y = .agg xs)
    (hm : P.eqGuardType P.depth t = false) (hr : (Op.equalIn 10000 t (.agg xs) (.agg xs)).run P w = .ok true w) (h : Q (a.put o.dst (.bool false)) w) : Oper.wp P o a w Q QE := by
  have h1 := run_eqGuard_agg (P := P) w .neq t x y xs xs hm
  have h2 := run_neq_struct (P := P) w t xs xs
  rw [hr] at h2
  unfold Oper.wp execOp
  simp only [ho, hx, hy, Sem.run_bind, h1, h2, Result.andThen_ok]
  exact h
set_option maxRecDepth 100000 in
set_option maxHeartbeats 8000000 in
theorem same_e (m1 m2 : MV) (hm : m1.nrm = m2.nrm) (hf : m1.Fits) (w : World) (hl1 : m1.Lies w) (hl2 : m2.Lies w) : Calls Tryd.prog 12 #[.agg m1.cells, .agg m2.cells] w fun e w' => e = .returned (.bool true) ∧ Below w.heap.size w w' := by
  obtain ⟨id, rp, tr, rc, code, qn, qt, A1, c1, an, U1, k1, au⟩ := m1
  obtain ⟨id', rp', tr', rc', code', qn', qt', A2, c2, an', U2, k2, au'⟩ := m2
  unfold MV.nrm at hm
  simp only [MV.mk.injEq] at hm
  obtain ⟨rfl, rfl, rfl, rfl, rfl, rfl, rfl, _, _, rfl, _, _, rfl⟩ := hm
  have HFA : Hid (∀ r ∈ an, r.ad.length = 16) := Lib.hid (fun r hr => (hf.an r hr).ad)
  have HFU : Hid (∀ r ∈ au, r.ad.length = 16) := Lib.hid (fun r hr => (hf.au r hr).ad)
  have la := hf.la
  have lu := hf.lu
  simp only at la lu
  have la : (an.length : Int) ≤ 9223372036854775807 := by omega
  have lu : (au.length : Int) ≤ 9223372036854775807 := by omega
  obtain ⟨W0, hW0⟩ : ∃ W0, W0 = (w.alloc (.cells (MV.cells ⟨id, rp, tr, rc, code, qn, qt, A1, c1, an, U1, k1, au⟩) 31)).alloc (.cells (MV.cells ⟨id, rp, tr, rc, code, qn, qt, A2, c2, an, U2, k2, au⟩) 31) := ⟨_, rfl⟩
  have hB0 : Below w.heap.size w W0 := by rw [hW0]; exact ((Below.refl _ w).alloc (Nat.le_refl _) _).alloc (by simp) _
  have hG1 : W0.heap[w.heap.size]? = some (.cells (MV.cells ⟨id, rp, tr, rc, code, qn, qt, A1, c1, an, U1, k1, au⟩) 31 (0, 0)) := by rw [hW0]; exact heap_two w _ _
  have hG2 : W0.heap[w.heap.size + 1]? = some (.cells (MV.cells ⟨id, rp, tr, rc, code, qn, qt, A2, c2, an, U2, k2, au⟩) 31 (0, 0)) := by
    rw [hW0]
    have := heap_alloc_last (w.alloc (.cells (MV.cells ⟨id, rp, tr, rc, code, qn, qt, A1, c1, an, U1, k1, au⟩) 31)) (.cells (MV.cells ⟨id, rp, tr, rc, code, qn, qt, A2, c2, an, U2, k2, au⟩) 31)
    rwa [World.size_alloc] at this
  have HAc1 : Hid (∀ W, Below W0.heap.size W0 W → W.cell? ⟨w.heap.size, 7, none⟩ = some (.slice A1 an.length c1)) := Lib.hid (fun W h => (h.cell (p := ⟨w.heap.size, 7, none⟩) (heap_lt hG1)).trans ((cell_of_row _ _ 7 _ _ _ hG1).trans rfl))
  have HAc2 : Hid (∀ W, Below W0.heap.size W0 W → W.cell? ⟨w.heap.size + 1, 7, none⟩ = some (.slice A2 an.length c2)) := Lib.hid (fun W h => (h.cell (p := ⟨w.heap.size + 1, 7, none⟩) (heap_lt hG2)).trans ((cell_of_row _ _ 7 _ _ _ hG2).trans rfl))
  have HUc1 : Hid (∀ W, Below W0.heap.size W0 W → W.cell? ⟨w.heap.size, 8, none⟩ = some (.slice U1 au.length k1)) := Lib.hid (fun W h => (h.cell (p := ⟨w.heap.size, 8, none⟩) (heap_lt hG1)).trans ((cell_of_row _ _ 8 _ _ _ hG1).trans rfl))
  have HUc2 : Hid (∀ W, Below W0.heap.size W0 W → W.cell? ⟨w.heap.size + 1, 8, none⟩ = some (.slice U2 au.length k2)) := Lib.hid (fun W h => (h.cell (p := ⟨w.heap.size + 1, 8, none⟩) (heap_lt hG2)).trans ((cell_of_row _ _ 8 _ _ _ hG2).trans rfl))
  have HCA := HAc1
  have HCU := HUc1
  have HBS : Hid (Hid (Below W0.heap.size W0 W0)) := Lib.hid (Lib.hid (Below.refl _ W0))
  have HBW := Lib.hid hB0
  have HLA1 := Lib.hid (hl1.an.below hB0)
  have HLA2 := Lib.hid (hl2.an.below hB0)
  have HLU1 := Lib.hid (hl1.au.below hB0)
  have HLU2 := Lib.hid (hl2.au.below hB0)
  clear hl1 hl2 hf hB0 hG1 hG2
  unfold MV.cells at hW0 ⊢
  have HW0 := Lib.hid hW0
  clear hW0
  go_enter Tryd.func12, Tryd.ntmps12
  go_wp2_with fail
  rw [← HW0.out]
  go_loopw [68, 5] (fun i _ wr => ∃ k : Nat, k ≤ an.length ∧ i = .int .i64 k ∧ Hid (Below W0.heap.size W0 wr)) (fun i _ _ => an.length - (intOf i).toNat)
  case atStart => exact ⟨0, by omega, rfl, HBS.out⟩
  case round =>
    obtain ⟨k, hk, rfl, HB⟩ := hrel
    have dL := HCA.out wr HB.out
    by_cases hlt : k < an.length
    · have hkI : (k : Int) < (an.length : Int) := by omega
      obtain ⟨r, hr⟩ : ∃ r, an[k]? = some r := ⟨_, List.getElem?_eq_getElem hlt⟩
      obtain ⟨b1, o1, hA1, hb1, hc1⟩ := HLA1.out (by omega)
      obtain ⟨b2, o2, hA2, hb2, hc2⟩ := HLA2.out (by omega)
      have had := HFA.out r (List.mem_of_getElem? hr)
      have HR1 : Hid (∀ W, Below wr.heap.size wr W → W.rangeAt b1 (o1 + k * 21) r.cells.toList) := Lib.hid (fun W h j v hv => by
        have := hc1 k r hr j v hv
        rw [Addr.add_lit] at this
        exact ((HB.out.trans (h.mono HB.out.size)).cell (p := ⟨b1, o1 + k * 21 + j, none⟩) hb1).trans this)
      have HR2 : Hid (∀ W, Below wr.heap.size wr W → W.rangeAt b2 (o2 + k * 21) r.cells.toList) := Lib.hid (fun W h j v hv => by
        have := hc2 k r hr j v hv
        rw [Addr.add_lit] at this
        exact ((HB.out.trans (h.mono HB.out.size)).cell (p := ⟨b2, o2 + k * 21 + j, none⟩) hb2).trans this)
      have HC1 : Hid (∀ W, Below wr.heap.size wr W → W.cell? ⟨w.heap.size, 7, none⟩ = some (.slice (some ⟨b1, o1, none⟩) an.length c1)) := Lib.hid (fun W h => by
        have := HAc1.out W (HB.out.trans (h.mono HB.out.size))
        rw [hA1] at this
        exact this)
      have HC2 : Hid (∀ W, Below wr.heap.size wr W → W.cell? ⟨w.heap.size + 1, 7, none⟩ = some (.slice (some ⟨b2, o2, none⟩) an.length c2)) := Lib.hid (fun W h => by
        have := HAc2.out W (HB.out.trans (h.mono HB.out.size))
        rw [hA2] at this
        exact this)
      have Zc : Hid ((Tryd.prog.info? 45).map (·.size) = some r.cells.toList.length) := Lib.hid (by rw [Array.length_toList, RV.size had]; exact sizeRec)
      have HQ := fun W => (eq_recs W had had).trans (by rw [RV.eqB_self])
      clear hA1 hA2 hc1 hc2 hb1 hb2 hr had hk dL
      revert HR1 HR2 Zc HQ
      generalize r.cells = cs
      intro HR1 HR2 Zc HQ
      have HQ' : ∀ W, (Op.equalIn 10000 45 (.agg cs.toList.toArray) (.agg cs.toList.toArray)).run Tryd.prog W = .ok true W := fun W => by rw [Array.toArray_toList]; exact HQ W
      clear HQ
      go_upto_region 6 with fail
      refine wp_region_held_drew (S := (fun W : World => Below wr.heap.size wr W)) (by kernel_rfl) (Below.refl _ wr).drew (fun hHeld => ?_)
      refine wpAnyH_take (i := 0) (oi := ({ dst := some 71, op := Go.Op.fieldAddr 31 (Go.Operand.tmp 2) 6, type := 0, pos := "law.go:74", after := #[], guard := none } : Oper)) (v := .pointer (some ⟨w.heap.size, 7, none⟩)) rfl (by kernel_rfl) (by kernel_rfl) (by kernel_rfl) (fun _ _ _ h => h) (Or.inl ⟨by rfl, fun w' _ => ?_⟩) hHeld ?_
      · go_simp
      simp only [Act.put, List.setIfInBounds_toArray, List.set_cons_zero, List.set_cons_succ]
      refine wpAnyH_take (i := 1) (oi := ({ dst := some 72, op := Go.Op.load 29 (Go.Operand.tmp 71), type := 29, pos := "law.go:74", after := #[{ on := 0, ground := Go.Ground.data }], guard := none } : Oper)) (v := .slice (some ⟨b1, o1, none⟩) an.length c1) rfl (by kernel_rfl) (by kernel_rfl) (by kernel_rfl) (fun _ _ _ h => h) (Or.inl ⟨by rfl, fun w' hS' => ?_⟩) hHeld ?_
      · have hcell := HC1.out _ hS'
        go_simp
      simp only [Act.put, List.setIfInBounds_toArray, List.set_cons_zero, List.set_cons_succ]
      refine wpAnyH_take (i := 2) (oi := ({ dst := some 73, op := Go.Op.move (Go.Operand.tmp 5), type := 3, pos := "law.go:74", after := #[], guard := none } : Oper)) (v := .int .i64 (k : Nat)) rfl (by kernel_rfl) (by kernel_rfl) (by kernel_rfl) (fun _ _ _ h => h) (Or.inl ⟨by rfl, fun w' _ => ?_⟩) hHeld ?_
      · go_simp
      simp only [Act.put, List.setIfInBounds_toArray, List.set_cons_zero, List.set_cons_succ]
      refine wpAnyH_take (i := 3) (oi := ({ dst := some 74, op := Go.Op.indexAddr 29 (Go.Operand.tmp 72) (Go.Operand.tmp 73), type := 0, pos := "law.go:74", after := #[{ on := 1, ground := Go.Ground.data }, { on := 2, ground := Go.Ground.data }], guard := none } : Oper)) (v := .pointer (some ⟨b1, o1 + k * 21, none⟩)) rfl (by kernel_rfl) (by kernel_rfl) (by kernel_rfl) (fun _ _ _ h => h) (Or.inl ⟨by rfl, fun w' _ => ?_⟩) hHeld ?_
      · go_simp
      simp only [Act.put, List.setIfInBounds_toArray, List.set_cons_zero, List.set_cons_succ]
      refine wpAnyH_take (i := 4) (oi := ({ dst := some 75, op := Go.Op.load 45 (Go.Operand.tmp 74), type := 45, pos := "law.go:74", after := #[{ on := 3, ground := Go.Ground.data }], guard := none } : Oper)) (v := .agg (cs.toList).toArray) rfl (by kernel_rfl) (by kernel_rfl) (by kernel_rfl) (fun _ _ _ h => h) (yieldsIf_load_mid (by rfl) _ _ rfl _ _ rfl _ _ (fun W h => HR1.out W h) Tryd.underlying45 rfl Zc.out) hHeld ?_
      simp only [Act.put, List.setIfInBounds_toArray, List.set_cons_zero, List.set_cons_succ]
      refine wpAnyH_take (i := 5) (oi := ({ dst := some 76, op := Go.Op.fieldAddr 31 (Go.Operand.tmp 3) 6, type := 0, pos := "law.go:74", after := #[], guard := none } : Oper)) (v := .pointer (some ⟨w.heap.size + 1, 7, none⟩)) rfl (by kernel_rfl) (by kernel_rfl) (by kernel_rfl) (fun _ _ _ h => h) (Or.inl ⟨by rfl, fun w' _ => ?_⟩) hHeld ?_
      · go_simp
      simp only [Act.put, List.setIfInBounds_toArray, List.set_cons_zero, List.set_cons_succ]
      refine wpAnyH_take (i := 6) (oi := ({ dst := some 77, op := Go.Op.load 29 (Go.Operand.tmp 76), type := 29, pos := "law.go:74", after := #[{ on := 5, ground := Go.Ground.data }], guard := none } : Oper)) (v := .slice (some ⟨b2, o2, none⟩) an.length c2) rfl (by kernel_rfl) (by kernel_rfl) (by kernel_rfl) (fun _ _ _ h => h) (Or.inl ⟨by rfl, fun w' hS' => ?_⟩) hHeld ?_
      · have hcell := HC2.out _ hS'
        go_simp
      simp only [Act.put, List.setIfInBounds_toArray, List.set_cons_zero, List.set_cons_succ]
      refine wpAnyH_take (i := 7) (oi := ({ dst := some 78, op := Go.Op.move (Go.Operand.tmp 5), type := 3, pos := "law.go:74", after := #[], guard := none } : Oper)) (v := .int .i64 (k : Nat)) rfl (by kernel_rfl) (by kernel_rfl) (by kernel_rfl) (fun _ _ _ h => h) (Or.inl ⟨by rfl, fun w' _ => ?_⟩) hHeld ?_
      · go_simp
      simp only [Act.put, List.setIfInBounds_toArray, List.set_cons_zero, List.set_cons_succ]
      refine wpAnyH_take (i := 8) (oi := ({ dst := some 79, op := Go.Op.indexAddr 29 (Go.Operand.tmp 77) (Go.Operand.tmp 78), type := 0, pos := "law.go:74", after := #[{ on := 6, ground := Go.Ground.data }, { on := 7, ground := Go.Ground.data }], guard := none } : Oper)) (v := .pointer (some ⟨b2, o2 + k * 21, none⟩)) rfl (by kernel_rfl) (by kernel_rfl) (by kernel_rfl) (fun _ _ _ h => h) (Or.inl ⟨by rfl, fun w' _ => ?_⟩) hHeld ?_
      · go_simp
      simp only [Act.put, List.setIfInBounds_toArray, List.set_cons_zero, List.set_cons_succ]
      refine wpAnyH_take (i := 9) (oi := ({ dst := some 80, op := Go.Op.load 45 (Go.Operand.tmp 79), type := 45, pos := "law.go:74", after := #[{ on := 8, ground := Go.Ground.data }], guard := none } : Oper)) (v := .agg (cs.toList).toArray) rfl (by kernel_rfl) (by kernel_rfl) (by kernel_rfl) (fun _ _ _ h => h) (yieldsIf_load_mid (by rfl) _ _ rfl _ _ rfl _ _ (fun W h => HR2.out W h) Tryd.underlying45 rfl Zc.out) hHeld ?_
      simp only [Act.put, List.setIfInBounds_toArray, List.set_cons_zero, List.set_cons_succ]
      refine wpAnyH_take (i := 10) (oi := ({ dst := some 81, op := Go.Op.binOp Go.BinOp.neq 45 (Go.Operand.tmp 75) (Go.Operand.tmp 80) 45, type := 4, pos := "law.go:74", after := #[{ on := 4, ground := Go.Ground.data }, { on := 9, ground := Go.Ground.data }], guard := none } : Oper)) (v := .bool false) rfl (by kernel_rfl) (by kernel_rfl) (by kernel_rfl) (fun _ _ _ h => h) (Or.inl ⟨by rfl, fun w' _ => ?_⟩) hHeld ?_
      · go_simp
      simp only [Act.put, List.setIfInBounds_toArray, List.set_cons_zero, List.set_cons_succ]
      refine wpAnyH_done (by kernel_rfl) ?_ _
      go_wp2_with fail
      go_roundw
      case rel => exact ⟨k + 1, by omega, by go_num, Lib.hid HB.out.drew⟩
      case measure => simp [intOf]; omega
    · obtain rfl : k = an.length := by omega
      have dU := HCU.out wr HB.out
      go_wp2_with fail
      have HBS : Hid (Hid (Below W0.heap.size W0 wr)) := Lib.hid HB
      clear dL dU hlt hk HB
      generalize wr = w9 at *
      go_loopw [86, 6] (fun i _ wr => ∃ k : Nat, k ≤ au.length ∧ i = .int .i64 k ∧ Hid (Below W0.heap.size W0 wr)) (fun i _ _ => au.length - (intOf i).toNat)
      case atStart => exact ⟨0, by omega, rfl, HBS.out⟩
      case round =>
        obtain ⟨k, hk, rfl, HB⟩ := hrel
        have dL := HCU.out wr HB.out
        by_cases hlt : k < au.length
        · have hkI : (k : Int) < (au.length : Int) := by omega
          obtain ⟨r, hr⟩ : ∃ r, au[k]? = some r := ⟨_, List.getElem?_eq_getElem hlt⟩
          obtain ⟨b1, o1, hA1, hb1, hc1⟩ := HLU1.out (by omega)
          obtain ⟨b2, o2, hA2, hb2, hc2⟩ := HLU2.out (by omega)
          have had := HFU.out r (List.mem_of_getElem? hr)
          have HR1 : Hid (∀ W, Below wr.heap.size wr W → W.rangeAt b1 (o1 + k * 21) r.cells.toList) := Lib.hid (fun W h j v hv => by
            have := hc1 k r hr j v hv
            rw [Addr.add_lit] at this
            exact ((HB.out.trans (h.mono HB.out.size)).cell (p := ⟨b1, o1 + k * 21 + j, none⟩) hb1).trans this)
          have HR2 : Hid (∀ W, Below wr.heap.size wr W → W.rangeAt b2 (o2 + k * 21) r.cells.toList) := Lib.hid (fun W h j v hv => by
            have := hc2 k r hr j v hv
            rw [Addr.add_lit] at this
            exact ((HB.out.trans (h.mono HB.out.size)).cell (p := ⟨b2, o2 + k * 21 + j, none⟩) hb2).trans this)
          have HC1 : Hid (∀ W, Below wr.heap.size wr W → W.cell? ⟨w.heap.size, 8, none⟩ = some (.slice (some ⟨b1, o1, none⟩) au.length k1)) := Lib.hid (fun W h => by
            have := HUc1.out W (HB.out.trans (h.mono HB.out.size))
            rw [hA1] at this
            exact this)
          have HC2 : Hid (∀ W, Below wr.heap.size wr W → W.cell? ⟨w.heap.size + 1, 8, none⟩ = some (.slice (some ⟨b2, o2, none⟩) au.length k2)) := Lib.hid (fun W h => by
            have := HUc2.out W (HB.out.trans (h.mono HB.out.size))
            rw [hA2] at this
            exact this)
          have Zc : Hid ((Tryd.prog.info? 45).map (·.size) = some r.cells.toList.length) := Lib.hid (by rw [Array.length_toList, RV.size had]; exact sizeRec)
          have HQ := fun W => (eq_recs W had had).trans (by rw [RV.eqB_self])
          clear hA1 hA2 hc1 hc2 hb1 hb2 hr had hk dL
          revert HR1 HR2 Zc HQ
          generalize r.cells = cs
          intro HR1 HR2 Zc HQ
          have HQ' : ∀ W, (Op.equalIn 10000 45 (.agg cs.toList.toArray) (.agg cs.toList.toArray)).run Tryd.prog W = .ok true W := fun W => by rw [Array.toArray_toList]; exact HQ W
          clear HQ
          go_upto_region 12 with fail
          refine wp_region_held_drew (S := (fun W : World => Below wr.heap.size wr W)) (by kernel_rfl) (Below.refl _ wr).drew (fun hHeld => ?_)
          refine wpAnyH_take (i := 0) (oi := ({ dst := some 89, op := Go.Op.fieldAddr 31 (Go.Operand.tmp 2) 7, type := 0, pos := "law.go:79", after := #[], guard := none } : Oper)) (v := .pointer (some ⟨w.heap.size, 8, none⟩)) rfl (by kernel_rfl) (by kernel_rfl) (by kernel_rfl) (fun _ _ _ h => h) (Or.inl ⟨by rfl, fun w' _ => ?_⟩) hHeld ?_
          · go_simp
          simp only [Act.put, List.setIfInBounds_toArray, List.set_cons_zero, List.set_cons_succ]
          refine wpAnyH_take (i := 1) (oi := ({ dst := some 90, op := Go.Op.load 29 (Go.Operand.tmp 89), type := 29, pos := "law.go:79", after := #[{ on := 0, ground := Go.Ground.data }], guard := none } : Oper)) (v := .slice (some ⟨b1, o1, none⟩) au.length k1) rfl (by kernel_rfl) (by kernel_rfl) (by kernel_rfl) (fun _ _ _ h => h) (Or.inl ⟨by rfl, fun w' hS' => ?_⟩) hHeld ?_
          · have hcell := HC1.out _ hS'
            go_simp
          simp only [Act.put, List.setIfInBounds_toArray, List.set_cons_zero, List.set_cons_succ]
          refine wpAnyH_take (i := 2) (oi := ({ dst := some 91, op := Go.Op.move (Go.Operand.tmp 6), type := 3, pos := "law.go:79", after := #[], guard := none } : Oper)) (v := .int .i64 (k : Nat)) rfl (by kernel_rfl) (by kernel_rfl) (by kernel_rfl) (fun _ _ _ h => h) (Or.inl ⟨by rfl, fun w' _ => ?_⟩) hHeld ?_
          · go_simp
          simp only [Act.put, List.setIfInBounds_toArray, List.set_cons_zero, List.set_cons_succ]
          refine wpAnyH_take (i := 3) (oi := ({ dst := some 92, op := Go.Op.indexAddr 29 (Go.Operand.tmp 90) (Go.Operand.tmp 91), type := 0, pos := "law.go:79", after := #[{ on := 1, ground := Go.Ground.data }, { on := 2, ground := Go.Ground.data }], guard := none } : Oper)) (v := .pointer (some ⟨b1, o1 + k * 21, none⟩)) rfl (by kernel_rfl) (by kernel_rfl) (by kernel_rfl) (fun _ _ _ h => h) (Or.inl ⟨by rfl, fun w' _ => ?_⟩) hHeld ?_
          · go_simp
          simp only [Act.put, List.setIfInBounds_toArray, List.set_cons_zero, List.set_cons_succ]
          refine wpAnyH_take (i := 4) (oi := ({ dst := some 93, op := Go.Op.load 45 (Go.Operand.tmp 92), type := 45, pos := "law.go:79", after := #[{ on := 3, ground := Go.Ground.data }], guard := none } : Oper)) (v := .agg (cs.toList).toArray) rfl (by kernel_rfl) (by kernel_rfl) (by kernel_rfl) (fun _ _ _ h => h) (yieldsIf_load_mid (by rfl) _ _ rfl _ _ rfl _ _ (fun W h => HR1.out W h) Tryd.underlying45 rfl Zc.out) hHeld ?_
          simp only [Act.put, List.setIfInBounds_toArray, List.set_cons_zero, List.set_cons_succ]
          refine wpAnyH_take (i := 5) (oi := ({ dst := some 94, op := Go.Op.fieldAddr 31 (Go.Operand.tmp 3) 7, type := 0, pos := "law.go:79", after := #[], guard := none } : Oper)) (v := .pointer (some ⟨w.heap.size + 1, 8, none⟩)) rfl (by kernel_rfl) (by kernel_rfl) (by kernel_rfl) (fun _ _ _ h => h) (Or.inl ⟨by rfl, fun w' _ => ?_⟩) hHeld ?_
          · go_simp
          simp only [Act.put, List.setIfInBounds_toArray, List.set_cons_zero, List.set_cons_succ]
          refine wpAnyH_take (i := 6) (oi := ({ dst := some 95, op := Go.Op.load 29 (Go.Operand.tmp 94), type := 29, pos := "law.go:79", after := #[{ on := 5, ground := Go.Ground.data }], guard := none } : Oper)) (v := .slice (some ⟨b2, o2, none⟩) au.length k2) rfl (by kernel_rfl) (by kernel_rfl) (by kernel_rfl) (fun _ _ _ h => h) (Or.inl ⟨by rfl, fun w' hS' => ?_⟩) hHeld ?_
          · have hcell := HC2.out _ hS'
            go_simp
          simp only [Act.put, List.setIfInBounds_toArray, List.set_cons_zero, List.set_cons_succ]
          refine wpAnyH_take (i := 7) (oi := ({ dst := some 96, op := Go.Op.move (Go.Operand.tmp 6), type := 3, pos := "law.go:79", after := #[], guard := none } : Oper)) (v := .int .i64 (k : Nat)) rfl (by kernel_rfl) (by kernel_rfl) (by kernel_rfl) (fun _ _ _ h => h) (Or.inl ⟨by rfl, fun w' _ => ?_⟩) hHeld ?_
          · go_simp
          simp only [Act.put, List.setIfInBounds_toArray, List.set_cons_zero, List.set_cons_succ]
          refine wpAnyH_take (i := 8) (oi := ({ dst := some 97, op := Go.Op.indexAddr 29 (Go.Operand.tmp 95) (Go.Operand.tmp 96), type := 0, pos := "law.go:79", after := #[{ on := 6, ground := Go.Ground.data }, { on := 7, ground := Go.Ground.data }], guard := none } : Oper)) (v := .pointer (some ⟨b2, o2 + k * 21, none⟩)) rfl (by kernel_rfl) (by kernel_rfl) (by kernel_rfl) (fun _ _ _ h => h) (Or.inl ⟨by rfl, fun w' _ => ?_⟩) hHeld ?_
          · go_simp
          simp only [Act.put, List.setIfInBounds_toArray, List.set_cons_zero, List.set_cons_succ]
          refine wpAnyH_take (i := 9) (oi := ({ dst := some 98, op := Go.Op.load 45 (Go.Operand.tmp 97), type := 45, pos := "law.go:79", after := #[{ on := 8, ground := Go.Ground.data }], guard := none } : Oper)) (v := .agg (cs.toList).toArray) rfl (by kernel_rfl) (by kernel_rfl) (by kernel_rfl) (fun _ _ _ h => h) (yieldsIf_load_mid (by rfl) _ _ rfl _ _ rfl _ _ (fun W h => HR2.out W h) Tryd.underlying45 rfl Zc.out) hHeld ?_
          simp only [Act.put, List.setIfInBounds_toArray, List.set_cons_zero, List.set_cons_succ]
          refine wpAnyH_take (i := 10) (oi := ({ dst := some 99, op := Go.Op.binOp Go.BinOp.neq 45 (Go.Operand.tmp 93) (Go.Operand.tmp 98) 45, type := 4, pos := "law.go:79", after := #[{ on := 4, ground := Go.Ground.data }, { on := 9, ground := Go.Ground.data }], guard := none } : Oper)) (v := .bool false) rfl (by kernel_rfl) (by kernel_rfl) (by kernel_rfl) (fun _ _ _ h => h) (Or.inl ⟨by rfl, fun w' _ => ?_⟩) hHeld ?_
          · go_simp
          simp only [Act.put, List.setIfInBounds_toArray, List.set_cons_zero, List.set_cons_succ]
          refine wpAnyH_done (by kernel_rfl) ?_ _
          go_wp2_with fail
          go_roundw
          case rel => exact ⟨k + 1, by omega, by go_num, Lib.hid HB.out.drew⟩
          case measure => simp [intOf]; omega
        · obtain rfl : k = au.length := by omega
          go_wp2_with fail
          go_ret
          exact ⟨rfl, HBW.out.trans (HB.out.mono HBW.out.size)⟩
end Go.Proofs.YtakfokdjdljjjaaDoor
