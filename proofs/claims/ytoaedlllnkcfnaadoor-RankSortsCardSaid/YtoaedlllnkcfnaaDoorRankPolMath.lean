/-
  Plain facts: what the tables of policies and scopes say, byte by byte. No program.
-/
import Derived.Test.YtoaedlllnkcfnaaDoorRankFit
namespace Go.Proofs.YtoaedlllnkcfnaaDoor

theorem bitLen_byte : ∀ k : Fin 256, k.val ≠ 0 → 1 ≤ Lib.bitLen k.val := by decide +kernel
theorem part8_lt' {x y : UInt8} (h : x ≠ y) : part8 x y < 8 := by
  have hx : x.toNat ^^^ y.toNat ≠ 0 := fun e => h (UInt8.toNat_inj.1 (by
    have := congrArg (fun z => z ^^^ y.toNat) e
    simpa [Nat.xor_assoc] using this))
  unfold part8
  have := bitLen_byte ⟨_, (xor8 x.toNat y.toNat x.toNat_lt y.toNat_lt).2⟩ hx
  simp only at this
  omega
theorem sh_full : ∀ a b : List UInt8, a.length = b.length → (8 * a.length ≤ sh a b ↔ a = b)
  | [], [], _ => by simp
  | x :: a, y :: b, h => by
    have ih := sh_full a b (by simpa using h)
    rw [sh, List.length_cons]
    by_cases e : x = y
    · rw [if_pos e]
      constructor
      · intro h1; rw [e, ih.1 (by omega)]
      · intro h1
        have : a = b := by injection h1
        have := ih.2 this
        omega
    · rw [if_neg e]
      have := part8_lt' e
      constructor
      · intro h1; omega
      · intro h1; injection h1 with h1; exact absurd h1 e
/-- so many first bits are the same just if the bytes before are, and the next one's first bits are -/
theorem sh_ge : ∀ (k r : Nat) (a b : List UInt8), r < 8 → k < a.length → k < b.length → (8 * k + r ≤ sh a b ↔ (∀ j, j < k → a.getD j 0 = b.getD j 0) ∧ (a.getD k 0 = b.getD k 0 ∨ r ≤ part8 (a.getD k 0) (b.getD k 0)))
  | 0, r, x :: a, y :: b, hr, _, _ => by
    rw [sh]
    simp only [List.getD_cons_zero]
    by_cases h : x = y
    · rw [if_pos h]
      exact ⟨fun _ => ⟨fun j hj => absurd hj (Nat.not_lt_zero _), Or.inl h⟩, fun _ => by omega⟩
    · rw [if_neg h]
      exact ⟨fun h1 => ⟨fun j hj => absurd hj (Nat.not_lt_zero _), Or.inr (by omega)⟩, fun h1 => by rcases h1.2 with h2 | h2; exact absurd h2 h; omega⟩
  | k + 1, r, x :: a, y :: b, hr, ha, hb => by
    have ih := sh_ge k r a b hr (by simpa using ha) (by simpa using hb)
    rw [sh]
    simp only [List.getD_cons_succ]
    by_cases h : x = y
    · rw [if_pos h]
      constructor
      · intro h1
        obtain ⟨h2, h3⟩ := ih.1 (by omega)
        refine ⟨fun j hj => ?_, h3⟩
        cases j with
        | zero => simpa using h
        | succ j => simpa using h2 j (by omega)
      · rintro ⟨h2, h3⟩
        have := ih.2 ⟨fun j hj => by simpa using h2 (j + 1) (by omega), h3⟩
        omega
    · rw [if_neg h]
      have := part8_lt' h
      constructor
      · intro h1; omega
      · rintro ⟨h2, _⟩
        exact absurd (by simpa using h2 0 (Nat.succ_pos k)) h
  | _, _, [], _, _, h, _ => absurd h (Nat.not_lt_zero _)
  | _, _, _ :: _, [], _, _, h => absurd h (Nat.not_lt_zero _)
theorem part_252 (x : UInt8) : (x = 252 ∨ 7 ≤ part8 x 252) ↔ x.toNat = 252 ∨ x.toNat = 253 := by
  have h : ∀ z : Fin 256, (UInt8.ofNat z.val = 252 ∨ 7 ≤ part8 (UInt8.ofNat z.val) 252) ↔ (UInt8.ofNat z.val).toNat = 252 ∨ (UInt8.ofNat z.val).toNat = 253 := by decide +kernel
  have := h ⟨x.toNat, x.toNat_lt⟩
  simpa using this
theorem part_192 (x : UInt8) : (x = 192 ∨ 2 ≤ part8 x 192) ↔ 192 ≤ x.toNat := by
  have h : ∀ z : Fin 256, (UInt8.ofNat z.val = 192 ∨ 2 ≤ part8 (UInt8.ofNat z.val) 192) ↔ 192 ≤ (UInt8.ofNat z.val).toNat := by decide +kernel
  have := h ⟨x.toNat, x.toNat_lt⟩
  simpa using this
theorem part_128 (x : UInt8) : (x = 128 ∨ 2 ≤ part8 x 128) ↔ 128 ≤ x.toNat ∧ x.toNat < 192 := by
  have h : ∀ z : Fin 256, (UInt8.ofNat z.val = 128 ∨ 2 ≤ part8 (UInt8.ofNat z.val) 128) ↔ 128 ≤ (UInt8.ofNat z.val).toNat ∧ (UInt8.ofNat z.val).toNat < 192 := by decide +kernel
  have := h ⟨x.toNat, x.toNat_lt⟩
  simpa using this
/-- are the first bytes zeros? -/
def allZ (a : List UInt8) : Nat → Bool
  | 0 => true
  | k + 1 => allZ a k && (a.getD k 0 == 0)
def polA (a : List UInt8) : Nat × Nat :=
  if allZ a 12 = true ∧ a = one6 then (50, 0) else if isV4 a = true then (35, 4) else if allZ a 12 = true then (1, 3)
  else if (a.getD 0 0).toNat = 32 ∧ (a.getD 1 0).toNat = 1 ∧ (a.getD 2 0).toNat = 0 ∧ (a.getD 3 0).toNat = 0 then (5, 5)
  else if (a.getD 0 0).toNat = 32 ∧ (a.getD 1 0).toNat = 2 then (30, 2)
  else if (a.getD 0 0).toNat = 63 ∧ (a.getD 1 0).toNat = 254 then (1, 12)
  else if (a.getD 0 0).toNat = 254 ∧ 192 ≤ (a.getD 1 0).toNat then (1, 11)
  else if (a.getD 0 0).toNat = 252 ∨ (a.getD 0 0).toNat = 253 then (3, 13) else (40, 1)
def scA (a : List UInt8) : Nat :=
  if isV4 a = true ∧ ((a.getD 12 0).toNat = 127 ∨ ((a.getD 12 0).toNat = 169 ∧ (a.getD 13 0).toNat = 254)) then 2 else if isV4 a = true then 14
  else if (a.getD 0 0).toNat = 255 then (a.getD 1 0).toNat % 16
  else if a = one6 ∨ ((a.getD 0 0).toNat = 254 ∧ 128 ≤ (a.getD 1 0).toNat ∧ (a.getD 1 0).toNat < 192) then 2
  else if (a.getD 0 0).toNat = 254 ∧ 192 ≤ (a.getD 1 0).toNat then 5 else 14
/-- the best row, by whether each row is an address's -/
def bestI (h : Nat → Bool) : Nat → PRow
  | 0 => pZero
  | k + 1 => if h k = true ∧ (bestI h k).bits ≤ (pRow k).bits then pRow k else bestI h k
theorem best_I (a : List UInt8) : ∀ k, bestP a k = bestI (fun k => decide ((pRow k).bits ≤ sh a (pRow k).addr)) k
  | 0 => rfl
  | k + 1 => by rw [bestP, bestI, ← best_I a k]; simp
theorem bestI_congr (h h' : Nat → Bool) : ∀ k, (∀ j, j < k → h j = h' j) → bestI h k = bestI h' k
  | 0, _ => rfl
  | k + 1, e => by rw [bestI, bestI, bestI_congr h h' k (fun j hj => e j (by omega)), e k (by omega)]
theorem u8_nat {x : UInt8} {n : Nat} (hn : n < 256) : x = UInt8.ofNat n ↔ x.toNat = n := by
  constructor
  · rintro rfl; rw [UInt8.toNat_ofNat']; exact Nat.mod_eq_of_lt hn
  · rintro rfl; simp
theorem allZ_iff (a : List UInt8) : ∀ k, allZ a k = true ↔ ∀ j, j < k → a.getD j 0 = 0
  | 0 => by simp [allZ]
  | k + 1 => by
    rw [allZ, Bool.and_eq_true, allZ_iff a k, beq_iff_eq]
    constructor
    · rintro ⟨h1, h2⟩ j hj
      rcases Nat.lt_or_ge j k with h | h
      · exact h1 j h
      · obtain rfl : j = k := by omega
        exact h2
    · intro h
      exact ⟨fun j hj => h j (by omega), h k (by omega)⟩
theorem isV4_iff {a : List UInt8} (ha : a.length = 16) : isV4 a = true ↔ ∀ j, j < 12 → a.getD j 0 = four12.getD j 0 := by
  obtain ⟨x0, x1, x2, x3, x4, x5, x6, x7, x8, x9, xa, xb, xc, xd, xe, xf, rfl⟩ := list16 ha
  unfold isV4 four12
  simp only [List.drop_succ_cons, List.drop_zero, List.cons_append, List.nil_append, beq_iff_eq, List.cons.injEq, and_true]
  constructor
  · rintro ⟨rfl, rfl, rfl, rfl, rfl, rfl, rfl, rfl, rfl, rfl, rfl, rfl⟩ j hj
    obtain rfl | rfl | rfl | rfl | rfl | rfl | rfl | rfl | rfl | rfl | rfl | rfl : j = 0 ∨ j = 1 ∨ j = 2 ∨ j = 3 ∨ j = 4 ∨ j = 5 ∨ j = 6 ∨ j = 7 ∨ j = 8 ∨ j = 9 ∨ j = 10 ∨ j = 11 := by omega
    all_goals rfl
  · intro h
    exact ⟨h 0 (by decide), h 1 (by decide), h 2 (by decide), h 3 (by decide), h 4 (by decide), h 5 (by decide), h 6 (by decide), h 7 (by decide), h 8 (by decide), h 9 (by decide), h 10 (by decide), h 11 (by decide)⟩
theorem row_0 {a : List UInt8} (ha : a.length = 16) : 128 ≤ sh a one6 ↔ a = one6 := by
  have := sh_full a one6 (by rw [ha]; rfl)
  rwa [ha] at this
theorem row_2 {a : List UInt8} (ha : a.length = 16) (b : List UInt8) (hb : b.length = 16) (he : ∀ j, j < 12 → b.getD j 0 = four12.getD j 0) : 96 ≤ sh a b ↔ isV4 a = true := by
  have := sh_ge 12 0 a b (by decide) (by omega) (by omega)
  rw [show 96 = 8 * 12 + 0 by rfl, this, isV4_iff ha]
  exact ⟨fun h j hj => (h.1 j hj).trans (he j hj), fun h => ⟨fun j hj => (h j hj).trans (he j hj).symm, Or.inr (Nat.zero_le _)⟩⟩
theorem row_6 {a : List UInt8} (ha : a.length = 16) : 96 ≤ sh a zero16 ↔ allZ a 12 = true := by
  have := sh_ge 12 0 a zero16 (by decide) (by omega) (by decide)
  rw [show 96 = 8 * 12 + 0 by rfl, this, allZ_iff]
  have hz : ∀ j, j < 12 → zero16.getD j 0 = 0 := by decide
  exact ⟨fun h j hj => (h.1 j hj).trans (hz j hj), fun h => ⟨fun j hj => (h j hj).trans (hz j hj).symm, Or.inr (Nat.zero_le _)⟩⟩
theorem two_iff {P : Nat → Prop} : (∀ j, j < 2 → P j) ↔ P 0 ∧ P 1 :=
  ⟨fun h => ⟨h 0 (by decide), h 1 (by decide)⟩, fun h j hj => by
    obtain rfl | rfl : j = 0 ∨ j = 1 := by omega
    · exact h.1
    · exact h.2⟩
theorem row_16 {a : List UInt8} (ha : a.length = 16) (b : List UInt8) (hb : b.length = 16) : 16 ≤ sh a b ↔ (a.getD 0 0).toNat = (b.getD 0 0).toNat ∧ (a.getD 1 0).toNat = (b.getD 1 0).toNat := by
  have := sh_ge 2 0 a b (by decide) (by omega) (by omega)
  rw [show 16 = 8 * 2 + 0 by rfl, this, two_iff, UInt8.toNat_inj, UInt8.toNat_inj]
  exact ⟨fun h => h.1, fun h => ⟨h, Or.inr (Nat.zero_le _)⟩⟩
theorem row_32 {a : List UInt8} (ha : a.length = 16) (b : List UInt8) (hb : b.length = 16) : 32 ≤ sh a b ↔ (a.getD 0 0).toNat = (b.getD 0 0).toNat ∧ (a.getD 1 0).toNat = (b.getD 1 0).toNat ∧ (a.getD 2 0).toNat = (b.getD 2 0).toNat ∧ (a.getD 3 0).toNat = (b.getD 3 0).toNat := by
  have := sh_ge 4 0 a b (by decide) (by omega) (by omega)
  rw [show 32 = 8 * 4 + 0 by rfl, this, UInt8.toNat_inj, UInt8.toNat_inj, UInt8.toNat_inj, UInt8.toNat_inj]
  constructor
  · rintro ⟨h, _⟩
    exact ⟨h 0 (by decide), h 1 (by decide), h 2 (by decide), h 3 (by decide)⟩
  · rintro ⟨h0, h1, h2, h3⟩
    refine ⟨fun j hj => ?_, Or.inr (Nat.zero_le _)⟩
    obtain rfl | rfl | rfl | rfl : j = 0 ∨ j = 1 ∨ j = 2 ∨ j = 3 := by omega
    · exact h0
    · exact h1
    · exact h2
    · exact h3
theorem row_7 {a : List UInt8} (ha : a.length = 16) (b : List UInt8) (hb : b.length = 16) (h0 : b.getD 0 0 = 252) : 7 ≤ sh a b ↔ (a.getD 0 0).toNat = 252 ∨ (a.getD 0 0).toNat = 253 := by
  have := sh_ge 0 7 a b (by decide) (by omega) (by omega)
  rw [show 7 = 8 * 0 + 7 by rfl, this, h0, ← part_252]
  exact ⟨fun h => h.2, fun h => ⟨fun j hj => absurd hj (Nat.not_lt_zero _), h⟩⟩
theorem one_iff {P : Nat → Prop} : (∀ j, j < 1 → P j) ↔ P 0 :=
  ⟨fun h => h 0 (by decide), fun h j hj => by
    obtain rfl : j = 0 := by omega
    exact h⟩
theorem row_10a {a : List UInt8} (ha : a.length = 16) (b : List UInt8) (hb : b.length = 16) (h0 : b.getD 0 0 = 254) (h1 : b.getD 1 0 = 192) : 10 ≤ sh a b ↔ (a.getD 0 0).toNat = 254 ∧ 192 ≤ (a.getD 1 0).toNat := by
  have := sh_ge 1 2 a b (by decide) (by omega) (by omega)
  rw [show 10 = 8 * 1 + 2 by rfl, this, one_iff, h0, h1, part_192]
  rw [show (a.getD 0 0 = 254) ↔ (a.getD 0 0).toNat = 254 from u8_nat (n := 254) (by decide)]
theorem row_10b {a : List UInt8} (ha : a.length = 16) (b : List UInt8) (hb : b.length = 16) (h0 : b.getD 0 0 = 254) (h1 : b.getD 1 0 = 128) : 10 ≤ sh a b ↔ (a.getD 0 0).toNat = 254 ∧ 128 ≤ (a.getD 1 0).toNat ∧ (a.getD 1 0).toNat < 192 := by
  have := sh_ge 1 2 a b (by decide) (by omega) (by omega)
  rw [show 10 = 8 * 1 + 2 by rfl, this, one_iff, h0, h1, part_128]
  rw [show (a.getD 0 0 = 254) ↔ (a.getD 0 0).toNat = 254 from u8_nat (n := 254) (by decide)]
theorem row_104 {a : List UInt8} (ha : a.length = 16) (b : List UInt8) (hb : b.length = 16) (he : ∀ j, j < 12 → b.getD j 0 = four12.getD j 0) : 104 ≤ sh a b ↔ isV4 a = true ∧ (a.getD 12 0).toNat = (b.getD 12 0).toNat := by
  have := sh_ge 13 0 a b (by decide) (by omega) (by omega)
  rw [show 104 = 8 * 13 + 0 by rfl, this, isV4_iff ha, UInt8.toNat_inj]
  constructor
  · rintro ⟨h, _⟩
    exact ⟨fun j hj => (h j (by omega)).trans (he j hj), h 12 (by decide)⟩
  · rintro ⟨h, h2⟩
    refine ⟨fun j hj => ?_, Or.inr (Nat.zero_le _)⟩
    rcases Nat.lt_or_ge j 12 with h' | h'
    · exact (h j h').trans (he j h').symm
    · obtain rfl : j = 12 := by omega
      exact h2
theorem row_112 {a : List UInt8} (ha : a.length = 16) (b : List UInt8) (hb : b.length = 16) (he : ∀ j, j < 12 → b.getD j 0 = four12.getD j 0) : 112 ≤ sh a b ↔ isV4 a = true ∧ (a.getD 12 0).toNat = (b.getD 12 0).toNat ∧ (a.getD 13 0).toNat = (b.getD 13 0).toNat := by
  have := sh_ge 14 0 a b (by decide) (by omega) (by omega)
  rw [show 112 = 8 * 14 + 0 by rfl, this, isV4_iff ha, UInt8.toNat_inj, UInt8.toNat_inj]
  constructor
  · rintro ⟨h, _⟩
    exact ⟨fun j hj => (h j (by omega)).trans (he j hj), h 12 (by decide), h 13 (by decide)⟩
  · rintro ⟨h, h2, h3⟩
    refine ⟨fun j hj => ?_, Or.inr (Nat.zero_le _)⟩
    rcases Nat.lt_or_ge j 12 with h' | h'
    · exact (h j h').trans (he j h').symm
    · obtain rfl | rfl : j = 12 ∨ j = 13 := by omega
      · exact h2
      · exact h3
end Go.Proofs.YtoaedlllnkcfnaaDoor
