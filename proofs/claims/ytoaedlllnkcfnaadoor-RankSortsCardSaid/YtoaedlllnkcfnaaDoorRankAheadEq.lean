/-
  The document's Ahead is the order of the program's keys. No walk. Condition: sixteen bytes.
-/
import Derived.Test.YtoaedlllnkcfnaaDoorRankAhead
import Derived.Test.YtoaedlllnkcfnaaDoorRankKey
namespace Go.Proofs.YtoaedlllnkcfnaaDoor
open Go.RowKit

theorem cI_self (a : Int) : Lib.compareInt a a = 0 := by unfold Lib.compareInt; rw [if_neg (by omega), if_neg (by omega)]
theorem cI_lt {a b : Int} (h : a < b) : Lib.compareInt a b = -1 := by unfold Lib.compareInt; rw [if_pos h]
theorem cI_gt {a b : Int} (h : b < a) : Lib.compareInt a b = 1 := by unfold Lib.compareInt; rw [if_neg (by omega), if_pos h]
theorem cK_eq (a : Int) (xs ys : List Int) : cmpK (a :: xs) (a :: ys) = cmpK xs ys := by rw [cmpK, if_pos (cI_self a)]
theorem cK_lt {a b : Int} (h : a < b) (xs ys : List Int) : cmpK (a :: xs) (b :: ys) = -1 := by rw [cmpK, cI_lt h, if_neg (by decide)]
theorem cK_gt {a b : Int} (h : b < a) (xs ys : List Int) : cmpK (a :: xs) (b :: ys) = 1 := by rw [cmpK, cI_gt h, if_neg (by decide)]
theorem cK_bool (p q : Bool) (xs ys : List Int) : decide (0 < cmpK (b2i p :: xs) (b2i q :: ys)) = if (!(p == q)) = true then p else decide (0 < cmpK xs ys) := by
  cases p <;> cases q
  · rw [cK_eq]; rfl
  · rw [show b2i false = 0 from rfl, show b2i true = 1 from rfl, cK_lt (by omega)]; rfl
  · rw [show b2i false = 0 from rfl, show b2i true = 1 from rfl, cK_gt (by omega)]; rfl
  · rw [cK_eq]; rfl
theorem cK_tail (qa qb sa sb : Nat) (ha hb : Int) : decide (0 < cmpK [(qa : Int), -(sa : Int), ha] [(qb : Int), -(sb : Int), hb]) = if qa ≠ qb then decide (qb < qa) else if sa ≠ sb then decide (sa < sb) else decide (hb < ha) := by
  rcases Nat.lt_trichotomy qa qb with h | h | h
  · rw [cK_lt (by omega), if_pos (by omega), decide_eq_false (by omega), decide_eq_false (by omega)]
  · subst h
    rw [cK_eq, if_neg (by omega)]
    rcases Nat.lt_trichotomy sa sb with h | h | h
    · rw [cK_gt (by omega), if_pos (by omega), decide_eq_true (by omega), decide_eq_true (by omega)]
    · subst h
      rw [cK_eq, if_neg (by omega)]
      by_cases h1 : hb < ha
      · rw [cK_gt h1, decide_eq_true h1, decide_eq_true (by omega)]
      · by_cases h2 : ha < hb
        · rw [cK_lt h2, decide_eq_false h1, decide_eq_false (by omega)]
        · obtain rfl : ha = hb := by omega
          rw [cK_eq, decide_eq_false h1]; rfl
    · rw [cK_lt (by omega), if_pos (by omega), decide_eq_false (by omega), decide_eq_false (by omega)]
  · rw [cK_gt (by omega), if_pos (by omega), decide_eq_true (by omega), decide_eq_true (by omega)]
theorem pp_eq {a : List UInt8} (ha : a.length = 16) : PP a = (polA a).1 := congrArg Prod.fst (pol_eq ha)
theorem ahead_key (ls : List LV) (hls : ∀ x ∈ ls, x.addr.length = 16) (a b : List UInt8) (ha : a.length = 16) (hb : b.length = 16) : aheadB ls a b = decide (0 < cmpK (keyA ls a) (keyA ls b)) := by
  unfold aheadB keyA
  have hx := srcA_len (t := a) hls
  have hy := srcA_len (t := b) hls
  rw [pp_eq ha, pp_eq hb, scope_eq ha, scope_eq hb]
  generalize srcA ls a = x at *
  generalize srcA ls b = y at *
  cases x with
  | none =>
    cases y with
    | none =>
      simp only [cK_eq, cK_tail, Option.isSome_none, beq_self_eq_true, Bool.not_true, Bool.false_eq_true, if_false, aheadT, Bool.false_and, Int.lt_irrefl, decide_false]
    | some y =>
      simp only [cK_lt (show (0 : Int) < 1 by omega)]
      simp
  | some x =>
    cases y with
    | none =>
      simp only [cK_gt (show (0 : Int) < 1 by omega)]
      simp
    | some y =>
      have hx := hx x rfl
      have hy := hy y rfl
      simp only [cK_eq, Option.isSome_some, Option.getD_some, beq_self_eq_true, Bool.not_true, Bool.false_eq_true, if_false, if_true, eq_decI]
      rw [cK_bool, cK_bool, cK_bool, cK_bool, cK_tail, scope_eq hx, scope_eq hy, pl_eq hx, pl_eq hy, pl_eq ha, pl_eq hb]
      unfold aheadT
      cases x.dep <;> cases y.dep <;> simp
end Go.Proofs.YtoaedlllnkcfnaaDoor
