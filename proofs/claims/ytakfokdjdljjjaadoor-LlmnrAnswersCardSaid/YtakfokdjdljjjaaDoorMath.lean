/-
  Plain facts on lists of bytes, no program: small letters, what stands between points, what is under what. No condition.
-/
import Derived.Lib.Split
import Derived.Lib.IndexBytes
namespace Go.Proofs.YtakfokdjdljjjaaDoor

/-- one byte, a capital turned small -/
def lowc (b : UInt8) : UInt8 := if 65 ≤ b && b ≤ 90 then b + 32 else b
def low (l : List UInt8) : List UInt8 := l.map lowc
def lowB (s : ByteArray) : ByteArray := ⟨(low s.data.toList).toArray⟩

theorem lowc_lowc (b : UInt8) : lowc (lowc b) = lowc b := by
  have h : ∀ k : Fin 256, lowc (lowc (UInt8.ofNat k.val)) = lowc (UInt8.ofNat k.val) := by decide +kernel
  simpa using h ⟨b.toNat, b.toNat_lt⟩
theorem lowc_point (b : UInt8) : lowc b = 46 ↔ b = 46 := by
  have h : ∀ k : Fin 256, lowc (UInt8.ofNat k.val) = 46 ↔ UInt8.ofNat k.val = 46 := by decide +kernel
  simpa using h ⟨b.toNat, b.toNat_lt⟩
theorem low_low (l : List UInt8) : low (low l) = low l := by
  unfold low; rw [List.map_map]; exact List.map_congr_left fun b _ => lowc_lowc b
theorem low_append (a b : List UInt8) : low (a ++ b) = low a ++ low b := by unfold low; exact List.map_append
theorem low_cons (c : UInt8) (b : List UInt8) : low (c :: b) = lowc c :: low b := rfl
theorem low_length (l : List UInt8) : (low l).length = l.length := by unfold low; simp
theorem lowB_data (s : ByteArray) : (lowB s).data.toList = low s.data.toList := rfl
theorem lowB_size (s : ByteArray) : (lowB s).size = s.size := by
  rw [Go.Lib.size_eq, lowB_data, low_length, ← Go.Lib.size_eq]

/-- what stands between points -/
def sp : List UInt8 → List (List UInt8)
  | [] => [[]]
  | c :: l => if c = 46 then [] :: sp l else match sp l with | [] => [[c]] | h :: t => (c :: h) :: t
theorem sp_ne (l : List UInt8) : sp l ≠ [] := by
  cases l with
  | nil => simp [sp]
  | cons c l =>
    unfold sp
    split
    · simp
    · split <;> simp
theorem sp_point (l : List UInt8) : sp (46 :: l) = [] :: sp l := by rw [sp]; exact if_pos rfl
theorem sp_other {c : UInt8} (hc : ¬ c = 46) {l x : List UInt8} {t : List (List UInt8)} (h : sp l = x :: t) : sp (c :: l) = (c :: x) :: t := by
  rw [sp, if_neg hc, h]
/-- with points between -/
def jn : List (List UInt8) → List UInt8
  | [] => []
  | [x] => x
  | x :: y :: t => x ++ 46 :: jn (y :: t)
theorem jn_cons (x : List UInt8) {t : List (List UInt8)} (h : t ≠ []) : jn (x :: t) = x ++ 46 :: jn t := by
  cases t with
  | nil => exact absurd rfl h
  | cons y t => rfl
theorem jn_append {a b : List (List UInt8)} (ha : a ≠ []) (hb : b ≠ []) : jn (a ++ b) = jn a ++ 46 :: jn b := by
  induction a with
  | nil => exact absurd rfl ha
  | cons x a ih =>
    cases a with
    | nil => rw [List.singleton_append, jn_cons x hb]; rfl
    | cons y a =>
      rw [List.cons_append, jn_cons x (by simp), ih (by simp), jn_cons x (by simp)]
      simp
theorem jn_sp (l : List UInt8) : jn (sp l) = l := by
  induction l with
  | nil => rfl
  | cons c l ih =>
    unfold sp
    split
    · subst c; rw [jn_cons _ (sp_ne l), ih]; rfl
    · rcases h : sp l with _ | ⟨x, t⟩
      · exact absurd h (sp_ne l)
      · rw [h] at ih
        cases t with
        | nil => show c :: x = c :: l; rw [show x = l from ih]
        | cons y t =>
          rw [jn_cons x (by simp)] at ih
          show jn ((c :: x) :: y :: t) = c :: l
          rw [jn_cons _ (by simp), ← ih]; rfl
theorem sp_inj {a b : List UInt8} (h : sp a = sp b) : a = b := by rw [← jn_sp a, ← jn_sp b, h]
theorem sp_append (a b : List UInt8) : sp (a ++ 46 :: b) = sp a ++ sp b := by
  induction a with
  | nil => simp [sp]
  | cons c a ih =>
    rw [List.cons_append]
    by_cases hc : c = 46
    · subst hc; rw [sp_point, sp_point, ih]; rfl
    · rcases h : sp a with _ | ⟨x, t⟩
      · exact absurd h (sp_ne a)
      · rw [sp_other hc h, sp_other hc (by rw [ih, h]; rfl)]; rfl
theorem sp_plain {a : List UInt8} (h : (46 : UInt8) ∉ a) : sp a = [a] := by
  induction a with
  | nil => rfl
  | cons c a ih =>
    have hc : ¬ c = 46 := fun e => h (by rw [e]; exact List.mem_cons_self)
    unfold sp
    rw [if_neg hc, ih (fun e => h (List.mem_cons_of_mem _ e))]
theorem sp_points (a : List UInt8) : (sp a).length = a.count 46 + 1 := by
  induction a with
  | nil => rfl
  | cons c a ih =>
    unfold sp
    by_cases hc : c = 46
    · subst hc; rw [if_pos rfl, List.length_cons, ih, List.count_cons_self]
    · rw [if_neg hc, List.count_cons_of_ne (by simpa using hc)]
      rcases h : sp a with _ | ⟨x, t⟩
      · exact absurd h (sp_ne a)
      · rw [h] at ih; exact ih
theorem sp_no_point (a : List UInt8) : ∀ x ∈ sp a, (46 : UInt8) ∉ x := by
  induction a with
  | nil => simp [sp]
  | cons c a ih =>
    unfold sp
    split
    · intro x hx
      rcases List.mem_cons.1 hx with rfl | hx
      · simp
      · exact ih x hx
    · rename_i hc
      rcases h : sp a with _ | ⟨y, t⟩
      · exact absurd h (sp_ne a)
      · rw [h] at ih
        intro x hx
        rcases List.mem_cons.1 hx with rfl | hx
        · intro e
          rcases List.mem_cons.1 e with e | e
          · exact hc e.symm
          · exact ih y List.mem_cons_self e
        · exact ih x (List.mem_cons_of_mem _ hx)
theorem sp_suffix (x y : List UInt8) : sp y <:+ sp x ↔ x = y ∨ (46 :: y) <:+ x := by
  constructor
  · rintro ⟨a, ha⟩
    cases a with
    | nil => exact .inl (sp_inj ha.symm)
    | cons z a =>
      right
      refine ⟨jn (z :: a), ?_⟩
      rw [← jn_sp x, ← ha, jn_append (by simp) (sp_ne y), jn_sp]
  · rintro (rfl | ⟨a, rfl⟩)
    · exact List.suffix_refl _
    · rw [sp_append]; exact List.suffix_append _ _

/-- the library's splitting, at a point, is this -/
theorem splitK_sp : ∀ (k : Nat) (l : List UInt8), l.length ≤ k → Go.Lib.splitK [46] 0 (Go.Lib.count l [46]) l = sp l := by
  intro k
  induction k with
  | zero =>
    intro l hl
    have : l = [] := List.length_eq_zero_iff.1 (by omega)
    subst this
    rfl
  | succ k ih =>
    intro l hl
    rcases Go.Lib.index_spec l [46] with ⟨hm, hno⟩ | ⟨i, hi, hile, hocc, hnone⟩
    · rw [Go.Lib.count_miss hm]
      show [l] = sp l
      rw [sp_plain]
      intro hmem
      obtain ⟨j, hj, e⟩ := List.getElem_of_mem hmem
      have := hno j (by omega)
      rw [Go.Lib.occAt_iff_take _ _ _ (by simp; omega)] at this
      rw [List.drop_eq_getElem_cons hj, e] at this
      simp at this
    · have hroom := Go.Lib.occAt_room hocc
      have hil : i < l.length := by
        rcases hroom with h | h
        · simp at h; omega
        · simp at h
      rw [Go.Lib.count_hit (by simp) hi, Nat.add_comm 1]
      have hne : ¬ (Go.Lib.index l [46] == -1) = true := by rw [hi]; simp
      unfold Go.Lib.splitK
      rw [if_neg hne, hi]
      simp only [Int.toNat_natCast, Nat.add_zero, List.length_singleton]
      rw [ih _ (by simp; omega)]
      have e46 : l[i] = 46 := by
        have := Go.Lib.occAt_head rfl hocc
        rw [List.getElem?_eq_getElem hil] at this
        exact Option.some.inj this
      have hsplit : l = l.take i ++ 46 :: l.drop (i + 1) := by
        conv => lhs; rw [← List.take_append_drop i l, List.drop_eq_getElem_cons hil, e46]
      have hpl : (46 : UInt8) ∉ l.take i := by
        intro hmem
        obtain ⟨j, hj, e⟩ := List.getElem_of_mem hmem
        simp only [List.length_take] at hj
        have := hnone j (by omega)
        rw [Go.Lib.occAt_iff_take _ _ _ (by simp; omega)] at this
        rw [List.getElem_take] at e
        rw [List.drop_eq_getElem_cons (by omega), e] at this
        simp at this
      conv => rhs; rw [hsplit]
      rw [sp_append, sp_plain hpl]; rfl

/-- the pieces of a string, as byte arrays -/
def pieces (s : ByteArray) : List ByteArray := Go.Lib.splitB ⟨#[46]⟩ 0 (Go.Lib.countB s ⟨#[46]⟩) s
theorem pieces_data (s : ByteArray) : (pieces s).map (·.data.toList) = sp s.data.toList := by
  unfold pieces
  rw [Go.Lib.splitB_data]
  exact splitK_sp _ _ (Nat.le_refl _)
theorem pieces_length (s : ByteArray) : (pieces s).length = (sp s.data.toList).length := by rw [← pieces_data]; simp
theorem pieces_count (s : ByteArray) : (pieces s).length = Go.Lib.countB s ⟨#[46]⟩ + 1 := by
  rw [pieces_length]
  have h1 := splitK_sp _ s.data.toList (Nat.le_refl _)
  have : ∀ (k : Nat) (l : List UInt8), l.length ≤ k → (sp l).length = Go.Lib.count l [46] + 1 := by
    intro k
    induction k with
    | zero =>
      intro l hl
      have : l = [] := List.length_eq_zero_iff.1 (by omega)
      subst this
      rfl
    | succ k ih =>
      intro l hl
      rw [← splitK_sp _ l (Nat.le_refl _)]
      rcases Go.Lib.index_spec l [46] with ⟨hm, _⟩ | ⟨i, hi, _, hocc, _⟩
      · rw [Go.Lib.count_miss hm]; rfl
      · have hroom := Go.Lib.occAt_room hocc
        have hil : i < l.length := by
          rcases hroom with h | h
          · simp at h; omega
          · simp at h
        rw [Go.Lib.count_hit (by simp) hi, Nat.add_comm 1]
        have hne : ¬ (Go.Lib.index l [46] == -1) = true := by rw [hi]; simp
        unfold Go.Lib.splitK
        rw [if_neg hne, hi]
        simp only [Int.toNat_natCast, Nat.add_zero, List.length_cons]
        rw [splitK_sp _ _ (Nat.le_refl _), ih _ (by simp; omega)]
  exact this _ _ (Nat.le_refl _)
theorem bytes_inj {a b : ByteArray} (h : a.data.toList = b.data.toList) : a = b := by
  apply ByteArray.ext
  exact Array.toList_inj.1 h
theorem map_data_inj : ∀ {a b : List ByteArray}, a.map (·.data.toList) = b.map (·.data.toList) → a = b
  | [], [], _ => rfl
  | [], _ :: _, h => by simp at h
  | _ :: _, [], h => by simp at h
  | x :: a, y :: b, h => by
    simp only [List.map_cons, List.cons.injEq] at h
    rw [bytes_inj h.1, map_data_inj h.2]

/-- what is under what, in the document's words: the last labels are the domain's -/
def undB (s d : ByteArray) : Bool := (d.data.toList == [46]) || (low s.data.toList == low d.data.toList) || (46 :: low d.data.toList).isSuffixOf (low s.data.toList)
def tailB (s d : ByteArray) : Bool := decide ((pieces d).length ≤ (pieces s).length) && decide ((pieces s).drop ((pieces s).length - (pieces d).length) = pieces d)
theorem tailB_eq (s d : ByteArray) : tailB s d = ((s.data.toList == d.data.toList) || (46 :: d.data.toList).isSuffixOf s.data.toList) := by
  rw [Bool.eq_iff_iff]
  have h : tailB s d = true ↔ sp d.data.toList <:+ sp s.data.toList := by
    unfold tailB
    rw [Bool.and_eq_true, decide_eq_true_iff, decide_eq_true_iff, ← pieces_data, ← pieces_data]
    constructor
    · rintro ⟨_, h2⟩
      rw [← h2]
      simp only [List.map_drop]
      exact List.drop_suffix _ _
    · rintro ⟨a, ha⟩
      have hl := congrArg List.length ha
      simp only [List.length_append, List.length_map] at hl
      refine ⟨by omega, map_data_inj ?_⟩
      rw [List.map_drop, ← ha, show (pieces s).length - (pieces d).length = a.length by omega, List.drop_left]
  rw [h, sp_suffix, Bool.or_eq_true, beq_iff_eq, List.isSuffixOf_iff_suffix]
theorem undB_eq (s d : ByteArray) : undB s d = ((d.data.toList == [46]) || tailB (lowB s) (lowB d)) := by
  rw [tailB_eq]; unfold undB; rw [lowB_data, lowB_data, Bool.or_assoc]

end Go.Proofs.YtakfokdjdljjjaaDoor
