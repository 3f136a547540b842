/-
  Plain facts on records that are read: their texts are no longer than the bytes; a row of records as slices of it. Conditions: each states its own.
-/
import Derived.Test.YtakfokdjdljjjaaDoorMsgBad
namespace Go.Proofs.YtakfokdjdljjjaaDoor
open Go.RowKit

theorem nrun_len {b : List UInt8} {x : NS} {r : Option (List UInt8 × Nat)} (h : NRun b x r) : (jn x.acc).length ≤ x.sg → x.sg ≤ 254 → ∀ n, r = some n → n.1.length ≤ 254 := by
  induction h with
  | @done x r h =>
    intro h1 h2 n hn
    subst hn
    unfold nstep at h
    split at h
    · cases h
    · split at h
      · injection h with h
        injection h with h
        rw [← h]
        show (jn x.acc).length ≤ 254
        omega
      · split at h
        · split at h
          · cases h
          · cases h
        · split at h
          · split at h
            · cases h
            · split at h
              · cases h
              · cases h
          · cases h
  | @next x y r h _ ih =>
    intro h1 h2
    apply ih
    · unfold nstep at h
      split at h
      · cases h
      · split at h
        · cases h
        · split at h
          · split at h
            · rename_i hc
              injection h with h
              subst h
              show (jn (x.acc ++ [low (cutB b (x.at_ + 1) _)])).length ≤ _
              refine Nat.le_trans (jn_snoc _ _) ?_
              have hl : (low (cutB b (x.at_ + 1) (UInt8.toNat ‹UInt8›))).length ≤ UInt8.toNat ‹UInt8› := by
                rw [low_length]
                unfold cutB
                rw [List.length_take]; omega
              show _ ≤ x.sg + _ + 1
              omega
            · cases h
          · split at h
            · split at h
              · cases h
              · split at h
                · injection h with h
                  subst h
                  exact h1
                · cases h
            · cases h
    · unfold nstep at h
      split at h
      · cases h
      · split at h
        · cases h
        · split at h
          · split at h
            · rename_i hc
              injection h with h
              subst h
              exact hc.2.2
            · cases h
          · split at h
            · split at h
              · cases h
              · split at h
                · injection h with h
                  subst h
                  exact h2
                · cases h
            · cases h
theorem nameF_len {b : List UInt8} {p : Nat} {n : List UInt8 × Nat} (h : nameF b p = some n) : n.1.length ≤ 254 := by
  unfold nameF at h
  split at h
  · rename_i hex
    exact nrun_len (Exists.choose_spec hex) (by show (jn []).length ≤ 0; exact Nat.le_refl _) (by show 0 ≤ 254; omega) n h
  · cases h
theorem qF_len {b : List UInt8} {p : Nat} {q : (List UInt8 × Nat) × Nat} (h : qF b p = some q) : q.1.1.length ≤ 254 := by
  unfold qF at h
  cases hn : nameF b p with
  | none => rw [hn] at h; cases h
  | some n =>
    rw [hn, Option.bind_some] at h
    cases ht : numF b n.2 2 with
    | none => rw [ht] at h; cases h
    | some t =>
      rw [ht, Option.bind_some] at h
      cases hc : numF b t.2 2 with
      | none => rw [hc] at h; cases h
      | some c =>
        rw [hc, Option.bind_some] at h
        split at h
        · injection h with h
          subst h
          exact (show n.1.length ≤ 254 from nameF_len hn)
        · cases h
theorem cutB_le (b : List UInt8) (p n : Nat) : (cutB b p n).length ≤ b.length := by
  unfold cutB
  rw [List.length_take, List.length_drop]; omega
theorem recF_fits {b : List UInt8} {p : Nat} {x : Rec × Nat} (hb : b.length ≤ 140737488351232) (h : recF b p = some x) : (RV.ofRec x.1).Fits := by
  unfold recF at h
  cases hq : qF b p with
  | none => rw [hq] at h; cases h
  | some q =>
    have hql := qF_len hq
    rw [hq, Option.bind_some] at h
    cases ht : numF b q.2 4 with
    | none => rw [ht] at h; cases h
    | some t =>
      rw [ht, Option.bind_some] at h
      cases hz : numF b t.2 2 with
      | none => rw [hz] at h; cases h
      | some z =>
        rw [hz, Option.bind_some] at h
        split at h
        · cases hn : nameF b z.2 with
          | none => rw [hn] at h; cases h
          | some n =>
            have hnl := nameF_len hn
            rw [hn, Option.bind_some] at h
            split at h
            · injection h with h
              subst h
              exact ⟨rfl, by show (bs q.1.1).size ≤ _; rw [bs_size]; unfold maxLen; omega, by show (bs n.1).size ≤ _; rw [bs_size]; unfold maxLen; omega, by show (bs []).size ≤ _; rw [bs_size]; exact Nat.zero_le _⟩
            · cases h
        · split at h
          · injection h with h
            subst h
            have hc := cutB_le b z.2 z.1
            show (RV.ofRec (withD q.1.1 q.1.2 (min t.1 1048576) (cutB b z.2 z.1))).Fits
            generalize cutB b z.2 z.1 = d at hc
            refine ⟨withD_ad _ _ _ _, ?_, ?_, ?_⟩
            · have : (withD q.1.1 q.1.2 (min t.1 1048576) d).nm = q.1.1 := by unfold withD; split <;> (try rfl); split <;> rfl
              show (bs (withD q.1.1 q.1.2 (min t.1 1048576) d).nm).size ≤ _
              rw [this, bs_size]; unfold maxLen; omega
            · have : (withD q.1.1 q.1.2 (min t.1 1048576) d).tx = [] := by unfold withD; split <;> (try rfl); split <;> rfl
              show (bs (withD q.1.1 q.1.2 (min t.1 1048576) d).tx).size ≤ _
              rw [this, bs_size]; exact Nat.zero_le _
            · have : (withD q.1.1 q.1.2 (min t.1 1048576) d).da.length ≤ d.length := by unfold withD; split <;> (try exact Nat.zero_le _); split <;> (try exact Nat.zero_le _); exact Nat.le_refl _
              show (bs (withD q.1.1 q.1.2 (min t.1 1048576) d).da).size ≤ _
              rw [bs_size]; unfold maxLen; omega
          · cases h
theorem recsF_fits {b : List UInt8} (hb : b.length ≤ 140737488351232) : ∀ {n p : Nat} {x : List Rec × Nat}, recsF b p n = some x → (∀ r ∈ x.1.map RV.ofRec, r.Fits) ∧ x.1.length = n
  | 0, p, x, h => by
    have h : some (([] : List Rec), p) = some x := h
    injection h with h
    subst h
    exact ⟨fun r hr => (by cases hr), rfl⟩
  | n + 1, p, x, h => by
    have h : ((recF b p).bind fun r => (recsF b r.2 n).bind fun l => some (r.1 :: l.1, l.2)) = some x := h
    cases hr : recF b p with
    | none => rw [hr] at h; cases h
    | some r =>
      rw [hr, Option.bind_some] at h
      cases hl : recsF b r.2 n with
      | none => rw [hl] at h; cases h
      | some l =>
        rw [hl, Option.bind_some] at h
        injection h with h
        subst h
        have ih := recsF_fits hb hl
        refine ⟨fun y hy => ?_, by show (r.1 :: l.1).length = _; rw [List.length_cons, ih.2]⟩
        rcases List.mem_cons.1 hy with rfl | hy
        · exact recF_fits hb hr
        · exact ih.1 y hy
theorem rcs_at : ∀ {rs : List RV} {i : Nat} {r : RV} {j : Nat} {v : Value}, (∀ r ∈ rs, r.ad.length = 16) → rs[i]? = some r → r.cells.toList[j]? = some v → (rcs rs)[i * 21 + j]? = some v
  | [], i, r, j, v, _, h, _ => by simp at h
  | t :: rs, 0, r, j, v, hl, h, hj => by
    rw [List.getElem?_cons_zero, Option.some.injEq] at h
    subst h
    have hj' : j < t.cells.toList.length := (List.getElem?_eq_some_iff.1 hj).1
    unfold rcs
    rw [List.flatMap_cons, Nat.zero_mul, Nat.zero_add, List.getElem?_append_left hj']
    exact hj
  | t :: rs, i + 1, r, j, v, hl, h, hj => by
    have ih := rcs_at (rs := rs) (i := i) (r := r) (j := j) (v := v) (fun x hx => hl x (List.mem_cons_of_mem _ hx)) (by simpa using h) hj
    have h21 : t.cells.toList.length = 21 := by rw [Array.length_toList, RV.size (hl t List.mem_cons_self)]
    unfold rcs at ih ⊢
    rw [List.flatMap_cons, List.getElem?_append_right (by rw [h21]; omega), h21, show (i + 1) * 21 + j - 21 = i * 21 + j by omega]
    exact ih
/-- a part of a row of records that lies in block g2 -/
theorem recs_part {w : World} {g2 k : Nat} {rs : List RV} (hc : ∀ i u, (rcs rs)[i]? = some u → w.cell? ⟨g2, i, none⟩ = some u) (hl : g2 < w.heap.size) (had : ∀ r ∈ rs, r.ad.length = 16) (a : Nat) (xs : List RV) (hx : ∀ i r, xs[i]? = some r → rs[a + i]? = some r) (ha : k = a * 21) : RecsAt w (some ⟨g2, k, none⟩) xs := fun _ => by
  subst ha
  refine ⟨g2, a * 21, rfl, hl, fun i r hr j v hv => ?_⟩
  rw [Addr.add_lit]
  show w.cell? ⟨g2, a * 21 + i * 21 + j, none⟩ = some v
  rw [show a * 21 + i * 21 + j = (a + i) * 21 + j by omega]
  exact hc _ _ (rcs_at had (hx i r hr) hv)
end Go.Proofs.YtakfokdjdljjjaaDoor
