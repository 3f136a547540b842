/-
  Plain facts on lists of bytes, no program: what stands between colons. No condition.
-/
import Derived.Test.YtpnlgojbmjfhhaaGreatDoorMath
namespace Go.Proofs.YtpnlgojbmjfhhaaGreatDoor

/-- what stands between colons -/
def sq : List UInt8 → List (List UInt8)
  | [] => [[]]
  | c :: l => if c = 58 then [] :: sq l else match sq l with | [] => [[c]] | h :: t => (c :: h) :: t
theorem sq_ne (l : List UInt8) : sq l ≠ [] := by
  cases l with
  | nil => simp [sq]
  | cons c l =>
    unfold sq
    split
    · simp
    · split <;> simp
theorem sq_point (l : List UInt8) : sq (58 :: l) = [] :: sq l := by rw [sq]; exact if_pos rfl
theorem sq_other {c : UInt8} (hc : ¬ c = 58) {l x : List UInt8} {t : List (List UInt8)} (h : sq l = x :: t) : sq (c :: l) = (c :: x) :: t := by
  rw [sq, if_neg hc, h]
/-- with colons between -/
def jq : List (List UInt8) → List UInt8
  | [] => []
  | [x] => x
  | x :: y :: t => x ++ 58 :: jq (y :: t)
theorem jq_cons (x : List UInt8) {t : List (List UInt8)} (h : t ≠ []) : jq (x :: t) = x ++ 58 :: jq t := by
  cases t with
  | nil => exact absurd rfl h
  | cons y t => rfl
theorem jq_append {a b : List (List UInt8)} (ha : a ≠ []) (hb : b ≠ []) : jq (a ++ b) = jq a ++ 58 :: jq b := by
  induction a with
  | nil => exact absurd rfl ha
  | cons x a ih =>
    cases a with
    | nil => rw [List.singleton_append, jq_cons x hb]; rfl
    | cons y a =>
      rw [List.cons_append, jq_cons x (by simp), ih (by simp), jq_cons x (by simp)]
      simp
theorem jq_sq (l : List UInt8) : jq (sq l) = l := by
  induction l with
  | nil => rfl
  | cons c l ih =>
    unfold sq
    split
    · subst c; rw [jq_cons _ (sq_ne l), ih]; rfl
    · rcases h : sq l with _ | ⟨x, t⟩
      · exact absurd h (sq_ne l)
      · rw [h] at ih
        cases t with
        | nil => show c :: x = c :: l; rw [show x = l from ih]
        | cons y t =>
          rw [jq_cons x (by simp)] at ih
          show jq ((c :: x) :: y :: t) = c :: l
          rw [jq_cons _ (by simp), ← ih]; rfl
theorem sq_inj {a b : List UInt8} (h : sq a = sq b) : a = b := by rw [← jq_sq a, ← jq_sq b, h]
theorem sq_append (a b : List UInt8) : sq (a ++ 58 :: b) = sq a ++ sq b := by
  induction a with
  | nil => simp [sq]
  | cons c a ih =>
    rw [List.cons_append]
    by_cases hc : c = 58
    · subst hc; rw [sq_point, sq_point, ih]; rfl
    · rcases h : sq a with _ | ⟨x, t⟩
      · exact absurd h (sq_ne a)
      · rw [sq_other hc h, sq_other hc (by rw [ih, h]; rfl)]; rfl
theorem sq_plain {a : List UInt8} (h : (58 : UInt8) ∉ a) : sq a = [a] := by
  induction a with
  | nil => rfl
  | cons c a ih =>
    have hc : ¬ c = 58 := fun e => h (by rw [e]; exact List.mem_cons_self)
    unfold sq
    rw [if_neg hc, ih (fun e => h (List.mem_cons_of_mem _ e))]
theorem sq_colons (a : List UInt8) : (sq a).length = a.count 58 + 1 := by
  induction a with
  | nil => rfl
  | cons c a ih =>
    unfold sq
    by_cases hc : c = 58
    · subst hc; rw [if_pos rfl, List.length_cons, ih, List.count_cons_self]
    · rw [if_neg hc, List.count_cons_of_ne (by simpa using hc)]
      rcases h : sq a with _ | ⟨x, t⟩
      · exact absurd h (sq_ne a)
      · rw [h] at ih; exact ih
theorem sq_no_point (a : List UInt8) : ∀ x ∈ sq a, (58 : UInt8) ∉ x := by
  induction a with
  | nil => simp [sq]
  | cons c a ih =>
    unfold sq
    split
    · intro x hx
      rcases List.mem_cons.1 hx with rfl | hx
      · simp
      · exact ih x hx
    · rename_i hc
      rcases h : sq a with _ | ⟨y, t⟩
      · exact absurd h (sq_ne a)
      · rw [h] at ih
        intro x hx
        rcases List.mem_cons.1 hx with rfl | hx
        · intro e
          rcases List.mem_cons.1 e with e | e
          · exact hc e.symm
          · exact ih y List.mem_cons_self e
        · exact ih x (List.mem_cons_of_mem _ hx)
/-- the library's splitting, at a colon, is this -/
theorem splitK_sq : ∀ (k : Nat) (l : List UInt8), l.length ≤ k → Go.Lib.splitK [58] 0 (Go.Lib.count l [58]) l = sq l := by
  intro k
  induction k with
  | zero =>
    intro l hl
    have : l = [] := List.length_eq_zero_iff.1 (by omega)
    subst this
    rfl
  | succ k ih =>
    intro l hl
    rcases Go.Lib.index_spec l [58] with ⟨hm, hno⟩ | ⟨i, hi, hile, hocc, hnone⟩
    · rw [Go.Lib.count_miss hm]
      show [l] = sq l
      rw [sq_plain]
      intro hmem
      obtain ⟨j, hj, e⟩ := List.getElem_of_mem hmem
      have := hno j (by omega)
      rw [Go.Lib.occAt_iff_take _ _ _ (by simp; omega)] at this
      rw [List.drop_eq_getElem_cons hj, e] at this
      simp at this
    · have hroom := Go.Lib.occAt_room hocc
      have hil : i < l.length := by
        rcases hroom with h | h
        · simp at h; omega
        · simp at h
      rw [Go.Lib.count_hit (by simp) hi, Nat.add_comm 1]
      have hne : ¬ (Go.Lib.index l [58] == -1) = true := by rw [hi]; simp
      unfold Go.Lib.splitK
      rw [if_neg hne, hi]
      simp only [Int.toNat_natCast, Nat.add_zero, List.length_singleton]
      rw [ih _ (by simp; omega)]
      have e46 : l[i] = 58 := by
        have := Go.Lib.occAt_head rfl hocc
        rw [List.getElem?_eq_getElem hil] at this
        exact Option.some.inj this
      have hsplit : l = l.take i ++ 58 :: l.drop (i + 1) := by
        conv => lhs; rw [← List.take_append_drop i l, List.drop_eq_getElem_cons hil, e46]
      have hpl : (58 : UInt8) ∉ l.take i := by
        intro hmem
        obtain ⟨j, hj, e⟩ := List.getElem_of_mem hmem
        simp only [List.length_take] at hj
        have := hnone j (by omega)
        rw [Go.Lib.occAt_iff_take _ _ _ (by simp; omega)] at this
        rw [List.getElem_take] at e
        rw [List.drop_eq_getElem_cons (by omega), e] at this
        simp at this
      conv => rhs; rw [hsplit]
      rw [sq_append, sq_plain hpl]; rfl

/-- the piecesC of a string, as byte arrays -/
def piecesC (s : ByteArray) : List ByteArray := Go.Lib.splitB ⟨#[58]⟩ 0 (Go.Lib.countB s ⟨#[58]⟩) s
theorem piecesC_data (s : ByteArray) : (piecesC s).map (·.data.toList) = sq s.data.toList := by
  unfold piecesC
  rw [Go.Lib.splitB_data]
  exact splitK_sq _ _ (Nat.le_refl _)
theorem piecesC_length (s : ByteArray) : (piecesC s).length = (sq s.data.toList).length := by rw [← piecesC_data]; simp
theorem piecesC_count (s : ByteArray) : (piecesC s).length = Go.Lib.countB s ⟨#[58]⟩ + 1 := by
  rw [piecesC_length]
  have h1 := splitK_sq _ s.data.toList (Nat.le_refl _)
  have : ∀ (k : Nat) (l : List UInt8), l.length ≤ k → (sq l).length = Go.Lib.count l [58] + 1 := by
    intro k
    induction k with
    | zero =>
      intro l hl
      have : l = [] := List.length_eq_zero_iff.1 (by omega)
      subst this
      rfl
    | succ k ih =>
      intro l hl
      rw [← splitK_sq _ l (Nat.le_refl _)]
      rcases Go.Lib.index_spec l [58] with ⟨hm, _⟩ | ⟨i, hi, _, hocc, _⟩
      · rw [Go.Lib.count_miss hm]; rfl
      · have hroom := Go.Lib.occAt_room hocc
        have hil : i < l.length := by
          rcases hroom with h | h
          · simp at h; omega
          · simp at h
        rw [Go.Lib.count_hit (by simp) hi, Nat.add_comm 1]
        have hne : ¬ (Go.Lib.index l [58] == -1) = true := by rw [hi]; simp
        unfold Go.Lib.splitK
        rw [if_neg hne, hi]
        simp only [Int.toNat_natCast, Nat.add_zero, List.length_cons]
        rw [splitK_sq _ _ (Nat.le_refl _), ih _ (by simp; omega)]
  exact this _ _ (Nat.le_refl _)

theorem sq_jq : ∀ {xs : List (List UInt8)}, xs ≠ [] → (∀ x ∈ xs, (58 : UInt8) ∉ x) → sq (jq xs) = xs
  | [], h, _ => absurd rfl h
  | [x], _, h => sq_plain (h x List.mem_cons_self)
  | x :: y :: t, _, h => by
    rw [jq_cons x (by simp), sq_append, sq_plain (h x List.mem_cons_self), sq_jq (by simp) (fun z hz => h z (List.mem_cons_of_mem _ hz))]; rfl
theorem sp_jn' : ∀ {xs : List (List UInt8)}, xs ≠ [] → (∀ x ∈ xs, (46 : UInt8) ∉ x) → sp (jn xs) = xs
  | [], h, _ => absurd rfl h
  | [x], _, h => sp_plain (h x List.mem_cons_self)
  | x :: y :: t, _, h => by
    rw [jn_cons x (by simp), sp_append, sp_plain (h x List.mem_cons_self), sp_jn' (by simp) (fun z hz => h z (List.mem_cons_of_mem _ hz))]; rfl
end Go.Proofs.YtpnlgojbmjfhhaaGreatDoor
