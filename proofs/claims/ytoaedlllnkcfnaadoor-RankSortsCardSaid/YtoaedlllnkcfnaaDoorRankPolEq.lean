/-
  Plain facts: the tables' answers are those of the document's words. No program.
-/
import Derived.Test.YtoaedlllnkcfnaaDoorRankPolMath
namespace Go.Proofs.YtoaedlllnkcfnaaDoor

theorem best_key {a : List UInt8} (ha : a.length = 16) (b0 b2 b3 b4 b5 b6 b7 b8 : Bool) (h0 : a = one6 ↔ b0 = true) (h2 : isV4 a = true ↔ b2 = true)
    (h3 : ((a.getD 0 0).toNat = 32 ∧ (a.getD 1 0).toNat = 2) ↔ b3 = true) (h4 : ((a.getD 0 0).toNat = 32 ∧ (a.getD 1 0).toNat = 1 ∧ (a.getD 2 0).toNat = 0 ∧ (a.getD 3 0).toNat = 0) ↔ b4 = true)
    (h5 : ((a.getD 0 0).toNat = 252 ∨ (a.getD 0 0).toNat = 253) ↔ b5 = true) (h6 : allZ a 12 = true ↔ b6 = true) (h7 : ((a.getD 0 0).toNat = 254 ∧ 192 ≤ (a.getD 1 0).toNat) ↔ b7 = true) (h8 : ((a.getD 0 0).toNat = 63 ∧ (a.getD 1 0).toNat = 254) ↔ b8 = true) :
    bestP a 9 = bestI (fun k => [b0, true, b2, b3, b4, b5, b6, b7, b8].getD k false) 9 := by
  rw [best_I]
  refine bestI_congr _ _ 9 (fun j hj => ?_)
  have hd : ∀ (p : Prop) [Decidable p] (b : Bool), (p ↔ b = true) → decide p = b := fun p _ b h => by
    cases b with
    | true => exact decide_eq_true (h.2 rfl)
    | false => exact decide_eq_false (fun hp => by cases h.1 hp)
  obtain rfl | rfl | rfl | rfl | rfl | rfl | rfl | rfl | rfl : j = 0 ∨ j = 1 ∨ j = 2 ∨ j = 3 ∨ j = 4 ∨ j = 5 ∨ j = 6 ∨ j = 7 ∨ j = 8 := by omega
  · exact hd _ b0 ((row_0 ha).trans h0)
  · exact decide_eq_true (Nat.zero_le _)
  · exact hd _ b2 ((row_2 ha _ rfl (by decide)).trans h2)
  · exact hd _ b3 ((row_16 ha _ rfl).trans h3)
  · exact hd _ b4 ((row_32 ha _ rfl).trans h4)
  · exact hd _ b5 ((row_7 ha _ rfl rfl).trans h5)
  · exact hd _ b6 ((row_6 ha).trans h6)
  · exact hd _ b7 ((row_10a ha _ rfl rfl rfl).trans h7)
  · exact hd _ b8 ((row_16 ha _ rfl).trans h8)
theorem z_first {a : List UInt8} (h : allZ a 12 = true) : (a.getD 0 0).toNat = 0 := by
  rw [(allZ_iff a 12).1 h 0 (by decide)]; rfl
theorem four_first {a : List UInt8} (ha : a.length = 16) (h : isV4 a = true) : (a.getD 0 0).toNat = 0 ∧ allZ a 12 = false ∧ a ≠ one6 := by
  have h1 := (isV4_iff ha).1 h
  refine ⟨by rw [h1 0 (by decide)]; rfl, ?_, ?_⟩
  · rw [Bool.eq_false_iff]
    intro e
    have h2 := (allZ_iff a 12).1 e 10 (by decide)
    rw [h1 10 (by decide)] at h2
    revert h2; decide
  · rintro rfl
    revert h; decide
theorem pol_eq {a : List UInt8} (ha : a.length = 16) : ((bestP a 9).prec, (bestP a 9).lab) = polA a := by
  have hz6 : allZ one6 12 = true := by decide
  by_cases h0 : a = one6
  · subst h0; decide +kernel
  have hn0 : (a = one6 ↔ false = true) := ⟨fun h => absurd h h0, fun h => by cases h⟩
  unfold polA
  rw [if_neg (fun h => h0 h.2)]
  by_cases h2 : isV4 a = true
  · obtain ⟨f0, f1, _⟩ := four_first ha h2
    rw [if_pos h2, best_key ha false true false false false false false false hn0 ⟨fun _ => rfl, fun _ => h2⟩ ⟨fun h => by omega, fun h => by cases h⟩ ⟨fun h => by omega, fun h => by cases h⟩ ⟨fun h => by omega, fun h => by cases h⟩ (by rw [f1]) ⟨fun h => by omega, fun h => by cases h⟩ ⟨fun h => by omega, fun h => by cases h⟩]
    rfl
  have hn2 : (isV4 a = true ↔ false = true) := ⟨fun h => absurd h h2, fun h => by cases h⟩
  rw [if_neg h2]
  by_cases h6 : allZ a 12 = true
  · have f0 := z_first h6
    rw [if_pos h6, best_key ha false false false false false true false false hn0 hn2 ⟨fun h => by omega, fun h => by cases h⟩ ⟨fun h => by omega, fun h => by cases h⟩ ⟨fun h => by omega, fun h => by cases h⟩ ⟨fun _ => rfl, fun _ => h6⟩ ⟨fun h => by omega, fun h => by cases h⟩ ⟨fun h => by omega, fun h => by cases h⟩]
    rfl
  have hn6 : (allZ a 12 = true ↔ false = true) := ⟨fun h => absurd h h6, fun h => by cases h⟩
  rw [if_neg h6]
  by_cases h4 : (a.getD 0 0).toNat = 32 ∧ (a.getD 1 0).toNat = 1 ∧ (a.getD 2 0).toNat = 0 ∧ (a.getD 3 0).toNat = 0
  · rw [if_pos h4, best_key ha false false false true false false false false hn0 hn2 ⟨fun h => by omega, fun h => by cases h⟩ ⟨fun _ => rfl, fun _ => h4⟩ ⟨fun h => by omega, fun h => by cases h⟩ hn6 ⟨fun h => by omega, fun h => by cases h⟩ ⟨fun h => by omega, fun h => by cases h⟩]
    rfl
  have hn4 : (((a.getD 0 0).toNat = 32 ∧ (a.getD 1 0).toNat = 1 ∧ (a.getD 2 0).toNat = 0 ∧ (a.getD 3 0).toNat = 0) ↔ false = true) := ⟨fun h => absurd h h4, fun h => by cases h⟩
  rw [if_neg h4]
  by_cases h3 : (a.getD 0 0).toNat = 32 ∧ (a.getD 1 0).toNat = 2
  · rw [if_pos h3, best_key ha false false true false false false false false hn0 hn2 ⟨fun _ => rfl, fun _ => h3⟩ hn4 ⟨fun h => by omega, fun h => by cases h⟩ hn6 ⟨fun h => by omega, fun h => by cases h⟩ ⟨fun h => by omega, fun h => by cases h⟩]
    rfl
  have hn3 : (((a.getD 0 0).toNat = 32 ∧ (a.getD 1 0).toNat = 2) ↔ false = true) := ⟨fun h => absurd h h3, fun h => by cases h⟩
  rw [if_neg h3]
  by_cases h8 : (a.getD 0 0).toNat = 63 ∧ (a.getD 1 0).toNat = 254
  · rw [if_pos h8, best_key ha false false false false false false false true hn0 hn2 hn3 hn4 ⟨fun h => by omega, fun h => by cases h⟩ hn6 ⟨fun h => by omega, fun h => by cases h⟩ ⟨fun _ => rfl, fun _ => h8⟩]
    rfl
  have hn8 : (((a.getD 0 0).toNat = 63 ∧ (a.getD 1 0).toNat = 254) ↔ false = true) := ⟨fun h => absurd h h8, fun h => by cases h⟩
  rw [if_neg h8]
  by_cases h7 : (a.getD 0 0).toNat = 254 ∧ 192 ≤ (a.getD 1 0).toNat
  · rw [if_pos h7, best_key ha false false false false false false true false hn0 hn2 hn3 hn4 ⟨fun h => by omega, fun h => by cases h⟩ hn6 ⟨fun _ => rfl, fun _ => h7⟩ hn8]
    rfl
  have hn7 : (((a.getD 0 0).toNat = 254 ∧ 192 ≤ (a.getD 1 0).toNat) ↔ false = true) := ⟨fun h => absurd h h7, fun h => by cases h⟩
  rw [if_neg h7]
  by_cases h5 : (a.getD 0 0).toNat = 252 ∨ (a.getD 0 0).toNat = 253
  · rw [if_pos h5, best_key ha false false false false true false false false hn0 hn2 hn3 hn4 ⟨fun _ => rfl, fun _ => h5⟩ hn6 hn7 hn8]
    rfl
  · rw [if_neg h5, best_key ha false false false false false false false false hn0 hn2 hn3 hn4 ⟨fun h => absurd h h5, fun h => by cases h⟩ hn6 hn7 hn8]
    rfl
theorem scope_eq {a : List UInt8} (ha : a.length = 16) : scopeR a = scA a := by
  have e0 : (10 ≤ sh a (sRow 0).addr) ↔ _ := row_10b ha _ rfl rfl rfl
  have e1 : (128 ≤ sh a (sRow 1).addr) ↔ _ := row_0 ha
  have e2 : (104 ≤ sh a (sRow 2).addr) ↔ (isV4 a = true ∧ (a.getD 12 0).toNat = 127) := row_104 ha _ rfl (by decide)
  have e3 : (112 ≤ sh a (sRow 3).addr) ↔ (isV4 a = true ∧ (a.getD 12 0).toNat = 169 ∧ (a.getD 13 0).toNat = 254) := row_112 ha _ rfl (by decide)
  have e4 : (10 ≤ sh a (sRow 4).addr) ↔ _ := row_10a ha _ rfl rfl rfl
  have hff : (a.getD 0 0 = 255) ↔ (a.getD 0 0).toNat = 255 := u8_nat (n := 255) (by decide)
  unfold scopeR scA
  have hs : scopeFrom a 0 5 = if 10 ≤ sh a (sRow 0).addr then 2 else if 128 ≤ sh a (sRow 1).addr then 2 else if 104 ≤ sh a (sRow 2).addr then 2 else if 112 ≤ sh a (sRow 3).addr then 2 else if 10 ≤ sh a (sRow 4).addr then 5 else 14 := rfl
  rw [hs]
  by_cases h2 : isV4 a = true
  · obtain ⟨f0, f1, f2⟩ := four_first ha h2
    rw [if_neg (fun h => by have := hff.1 h; omega), if_neg (fun h => by have := e0.1 h; omega), if_neg (fun h => f2 (e1.1 h))]
    by_cases h3 : (a.getD 12 0).toNat = 127 ∨ ((a.getD 12 0).toNat = 169 ∧ (a.getD 13 0).toNat = 254)
    · rw [if_pos (c := isV4 a = true ∧ _) ⟨h2, h3⟩]
      rcases h3 with h3 | h3
      · rw [if_pos (e2.2 ⟨h2, h3⟩)]
      · by_cases h4 : 104 ≤ sh a (sRow 2).addr
        · rw [if_pos h4]
        · rw [if_neg h4, if_pos (e3.2 ⟨h2, h3⟩)]
    · rw [if_neg (c := isV4 a = true ∧ _) (fun h => h3 h.2), if_pos (c := isV4 a = true) h2, if_neg (fun h => h3 (Or.inl (e2.1 h).2)), if_neg (fun h => h3 (Or.inr (e3.1 h).2)), if_neg (fun h => by have := e4.1 h; omega)]
  · rw [if_neg (c := isV4 a = true ∧ _) (fun h => h2 h.1), if_neg (c := isV4 a = true) h2]
    by_cases h5 : (a.getD 0 0).toNat = 255
    · rw [if_pos (hff.2 h5), if_pos h5]
    · rw [if_neg (fun h => h5 (hff.1 h)), if_neg h5]
      by_cases h6 : a = one6
      · subst h6
        decide +kernel
      · by_cases h7 : (a.getD 0 0).toNat = 254 ∧ 128 ≤ (a.getD 1 0).toNat ∧ (a.getD 1 0).toNat < 192
        · rw [if_pos (e0.2 h7), if_pos (Or.inr h7)]
        · rw [if_neg (fun h => h7 (e0.1 h)), if_neg (fun h => h6 (e1.1 h)), if_neg (fun h => h2 (e2.1 h).1), if_neg (fun h => h2 (e3.1 h).1), if_neg (c := a = one6 ∨ _) (fun h => h.elim h6 h7)]
          by_cases h8 : (a.getD 0 0).toNat = 254 ∧ 192 ≤ (a.getD 1 0).toNat
          · rw [if_pos (e4.2 h8), if_pos h8]
          · rw [if_neg (fun h => h8 (e4.1 h)), if_neg h8]
end Go.Proofs.YtoaedlllnkcfnaaDoor
