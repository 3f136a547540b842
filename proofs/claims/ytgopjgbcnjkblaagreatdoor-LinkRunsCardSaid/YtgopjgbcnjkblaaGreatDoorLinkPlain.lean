/-
  Plain facts for the statements on links: texts of small letters go out as they are; the links that a name is asked on, written out for four links. No condition.
-/
import Derived.Test.YtgopjgbcnjkblaaGreatDoorLinkRoute2
namespace Go.Proofs.YtgopjgbcnjkblaaGreatDoor
open Go.RowKit

/-- a label of small letters -/
def labB (x : List UInt8) : Bool := decide (1 ≤ x.length) && decide (x.length ≤ 63) && x.all (fun c => decide (97 ≤ c.toNat) && decide (c.toNat ≤ 122))
theorem labB_lab {x : List UInt8} (h : labB x = true) : Lab x 0 x := by
  unfold labB at h
  simp only [Bool.and_eq_true, decide_eq_true_eq, List.all_eq_true] at h
  obtain ⟨⟨h1, h2⟩, h3⟩ := h
  have hl : low x = x := low_same fun c hc => by have := h3 c hc; omega
  have h45 : ∀ c ∈ x, c ≠ 45 := fun c hc e => by
    have := h3 c hc
    rw [e] at this
    have e2 : (45 : UInt8).toNat = 45 := rfl
    omega
  have hr : RightL x := ⟨h1, h2, fun c hc => by have := h3 c hc; unfold stN; omega, fun e => h45 45 (List.mem_of_mem_head? (by rw [e]; rfl)) rfl, fun e => h45 45 (List.mem_of_mem_getLast? (by rw [e]; rfl)) rfl⟩
  have := Lab.plain (x := x) (fun c hc => by have := h3 c hc; omega) (by rw [hl]; exact hr) (by
    rw [hl]
    intro hx
    obtain ⟨t, ht⟩ := hx
    exact h45 45 (by rw [← ht]; simp [XN]) rfl)
  rwa [hl] at this
theorem labs_plain : ∀ {xs : List (List UInt8)}, xs.all labB = true → Labs xs 0 xs
  | [], _ => .nil
  | x :: xs, h => by
    rw [List.all_cons, Bool.and_eq_true] at h
    exact .next (labB_lab h.1) (labs_plain h.2)
def plainB (s : List UInt8) : Bool := decide (s.length ≤ 253) && (sp (cutP s)).all labB && (jn (sp (cutP s)) == s)
theorem okD_plain {d : ByteArray} (h : plainB d.data.toList = true) : okD d = true := by
  unfold plainB at h
  simp only [Bool.and_eq_true, decide_eq_true_eq, beq_iff_eq] at h
  obtain ⟨⟨h1, h2⟩, h3⟩ := h
  unfold okD
  rw [taB_yes, Bool.or_true]
  have := TA.ok (s := d.data.toList) (by omega) _ (labs_plain h2) (by rw [h3]; exact h1)
  rwa [h3] at this
theorem okD_dot {d : ByteArray} (h : d.data.toList = [46]) : okD d = true := by
  unfold okD
  rw [Lib.toList_data, h]; rfl
theorem cntB_data (d : ByteArray) : cntB d = if d.data.toList = [46] then 0 else (sp d.data.toList).length := by
  unfold cntB
  rw [Lib.toList_data, ← pieces_data, List.length_map]
  by_cases h : d.data.toList = [46]
  · rw [h]; rfl
  · rw [if_neg h, if_neg (by simpa using h)]
/-- the step of reach by what can be reckoned -/
def rstepC (n : List UInt8) (m : Int) (d : List UInt8) : Int := if ((d == [46]) || (low n == low d) || (46 :: low d).isSuffixOf (low n)) then max m (if d = [46] then 0 else ((sp d).length : Nat) : Nat) else m
theorem reachL_data (ds : List ByteArray) (n : ByteArray) : reachL ds n = (ds.map (·.data.toList)).foldl (rstepC n.data.toList) (-1) := by
  unfold reachL
  rw [List.foldl_map]
  congr 1
  funext m d
  unfold rstep rstepC undB
  rw [cntB_data]
def selL (p : Sl → Bool) (k : Int) (s : Sl) : List Int := if (s.live && p s) = true then [k] else []
def mx (n : ByteArray) (m : Int) (s : Sl) : Int := if s.live = true then max m (reachL s.ds n) else m
theorem nums_step {ss : List Sl} {k : Nat} {s : Sl} (p : Sl → Bool) (h : ss[k]? = some s) : numsOf p (comeTo ss (k + 1)) = numsOf p (comeTo ss k) ++ selL p k s := by
  cases hl : s.live
  · rw [comeTo_miss h hl]; unfold selL; rw [hl]; simp
  · rw [comeTo_hit h hl]
    cases hp : p s
    · rw [numsOf_miss _ (x := ⟨(k, s), h, hl⟩) hp]; unfold selL; simp [hl, hp]
    · rw [numsOf_hit _ (x := ⟨(k, s), h, hl⟩) hp]; unfold selL; simp only [hl, hp, Bool.and_self, if_true]
theorem long_step {ss : List Sl} {k : Nat} {s : Sl} (n : ByteArray) (h : ss[k]? = some s) : longOf n (comeTo ss (k + 1)) = mx n (longOf n (comeTo ss k)) s := by
  cases hl : s.live
  · rw [comeTo_miss h hl]; unfold mx; rw [hl]; simp
  · rw [comeTo_hit h hl, longOf_snoc]; unfold mx; simp only [hl, if_true]
theorem nums4 (p : Sl → Bool) (a b c d : Sl) : numsOf p (comeTo [a, b, c, d] 4) = selL p 0 a ++ selL p 1 b ++ selL p 2 c ++ selL p 3 d := by
  rw [nums_step (k := 3) (s := d) p rfl, nums_step (k := 2) (s := c) p rfl, nums_step (k := 1) (s := b) p rfl, nums_step (k := 0) (s := a) p rfl]
  rfl
theorem long4 (n : ByteArray) (a b c d : Sl) : longOf n (comeTo [a, b, c, d] 4) = mx n (mx n (mx n (mx n (-1) a) b) c) d := by
  rw [long_step (k := 3) (s := d) n rfl, long_step (k := 2) (s := c) n rfl, long_step (k := 1) (s := b) n rfl, long_step (k := 0) (s := a) n rfl]
  rfl
theorem route4 (n : ByteArray) (a b c d : Sl) : routeL [a, b, c, d] n = selL (asked (mx n (mx n (mx n (mx n (-1) a) b) c) d) n) 0 a ++ selL (asked (mx n (mx n (mx n (mx n (-1) a) b) c) d) n) 1 b ++ selL (asked (mx n (mx n (mx n (mx n (-1) a) b) c) d) n) 2 c ++ selL (asked (mx n (mx n (mx n (mx n (-1) a) b) c) d) n) 3 d := by
  unfold routeL
  rw [nums4, long4]
end Go.Proofs.YtgopjgbcnjkblaaGreatDoor
