/-
  Facts on LinkLongest's four domains and seven names. No condition.
-/
import Derived.Test.YtnjcbkolniemnaaDoorLinkFit
import Derived.Test.YtnjcbkolniemnaaDoorLinkMapS
namespace Go.Proofs.YtnjcbkolniemnaaDoor
open Go.RowKit

/-- the four domains -/
def domN (q : Nat) : ByteArray := if q = 0 then ⟨#[46]⟩ else if q = 1 then ⟨#[110, 101, 116]⟩ else if q = 2 then ⟨#[98, 46, 110, 101, 116]⟩ else ⟨#[97, 46, 98, 46, 110, 101, 116]⟩
theorem domN_ok (q : Nat) : okD (domN q) = true := by
  unfold domN
  split
  · exact okD_dot rfl
  · split
    · exact okD_plain (by decide)
    · split <;> exact okD_plain (by decide)
/-- what the domains of the four links count of a name, by what can be reckoned -/
def reachC (m j : Nat) (n : List UInt8) : Int := [(domN ((j + m) % 4)).data.toList].foldl (rstepC n) (-1)
def maxC (ls : List (Bool × Int)) : Int := ls.foldl (fun m p => if p.1 then max m p.2 else m) (-1)
def oneC (df : Bool) (mm : Int) (k : Int) (p : Bool × Int) : List Int := if (p.1 && (if mm = -1 then df else decide (p.2 = mm))) = true then [k] else []
def pickC (df : Bool) (mm : Int) : Int → List (Bool × Int) → List Int
  | _, [] => []
  | k, p :: ls => oneC df mm k p ++ pickC df mm (k + 1) ls
def routeC (df : Bool) (ls : List (Bool × Int)) : List Int := pickC df (maxC ls) 0 ls
/-- a link of LinkLongest's -/
def IsL (m : Nat) (df : Bool) (j : Nat) (s : Sl) : Prop := s.live = true ∧ s.ds = [domN ((j + m) % 4)] ∧ s.df = df ∧ s.ns = 1
theorem routeC_e {n : ByteArray} {df : Bool} {a b c d : Sl} {la lb lc ld : Bool} {ra rb rc rd : Int} (ha : a.live = la ∧ (la = true → reachL a.ds n = ra ∧ a.df = df ∧ a.ns = 1)) (hb : b.live = lb ∧ (lb = true → reachL b.ds n = rb ∧ b.df = df ∧ b.ns = 1)) (hc : c.live = lc ∧ (lc = true → reachL c.ds n = rc ∧ c.df = df ∧ c.ns = 1)) (hd : d.live = ld ∧ (ld = true → reachL d.ds n = rd ∧ d.df = df ∧ d.ns = 1)) :
    routeL [a, b, c, d] n = routeC df [(la, ra), (lb, rb), (lc, rc), (ld, rd)] := by
  rw [route4]
  have hmx : ∀ {s : Sl} {l : Bool} {r : Int} (m : Int), s.live = l ∧ (l = true → reachL s.ds n = r ∧ s.df = df ∧ s.ns = 1) → mx n m s = if l then max m r else m := fun m h => by
    unfold mx
    rw [h.1]
    split
    · rename_i hl; rw [(h.2 hl).1]
    · rfl
  have hM : mx n (mx n (mx n (mx n (-1) a) b) c) d = maxC [(la, ra), (lb, rb), (lc, rc), (ld, rd)] := by
    rw [hmx _ hd, hmx _ hc, hmx _ hb, hmx _ ha]
    rfl
  rw [hM]
  unfold routeC
  generalize maxC _ = mm
  have hs : ∀ {s : Sl} {l : Bool} {r : Int} (k : Int), s.live = l ∧ (l = true → reachL s.ds n = r ∧ s.df = df ∧ s.ns = 1) → selL (asked mm n) k s = oneC df mm k (l, r) := fun {s l r} k h => by
    unfold selL asked oneC
    rw [h.1]
    cases l
    · rfl
    · obtain ⟨h1, h2, h3⟩ := h.2 rfl
      simp [h1, h2, h3]
  rw [hs _ ha, hs _ hb, hs _ hc, hs _ hd]
  simp [pickC, List.append_assoc]
theorem IsL.reach {m j : Nat} {df : Bool} {s : Sl} (h : IsL m df j s) (n : ByteArray) : s.live = true ∧ (true = true → reachL s.ds n = reachC m j n.data.toList ∧ s.df = df ∧ s.ns = 1) :=
  ⟨h.1, fun _ => ⟨by rw [h.2.1, reachL_data]; rfl, h.2.2.1, h.2.2.2⟩⟩
theorem z_reach {n : ByteArray} {df : Bool} {r : Int} : zSl.live = false ∧ (false = true → reachL zSl.ds n = r ∧ zSl.df = df ∧ zSl.ns = 1) := ⟨rfl, fun h => by cases h⟩
theorem seven_dec : ∀ m : Fin 4, ∀ df : Bool, (sevenL.all fun p => decide (p.1.length ≤ 300 ∧ routeC df [(true, reachC m.val 0 p.1), (true, reachC m.val 1 p.1), (true, reachC m.val 2 p.1), (true, reachC m.val 3 p.1)] = [bits .and .i64 (IntKind.wrap .i64 (p.2 - (m.val : Int))) 3])) = true := by decide +kernel
theorem seven_route {m : Nat} {df : Bool} {a b c d : Sl} {s : ByteArray} {k : Int} (hm : m < 4) (ha : IsL m df 0 a) (hb : IsL m df 1 b) (hc : IsL m df 2 c) (hd : IsL m df 3 d) (h : (s.data.toList, k) ∈ sevenL) :
    s.size ≤ 300 ∧ routeL [a, b, c, d] s = [bits .and .i64 (IntKind.wrap .i64 (k - (m : Int))) 3] := by
  have h2 := List.all_eq_true.1 (seven_dec ⟨m, hm⟩ df) _ h
  obtain ⟨h3, h4⟩ := of_decide_eq_true h2
  refine ⟨?_, ?_⟩
  · rw [Array.length_toList] at h3; exact h3
  · rw [routeC_e (ha.reach s) (hb.reach s) (hc.reach s) (hd.reach s)]; exact h4
def xT : ByteArray := ⟨#[120]⟩
theorem gone_dec : ∀ m : Fin 4, ∀ df : Bool, decide (routeC df [(decide ((4 - m.val) % 4 ≠ 0), reachC m.val 0 [120]), (decide ((4 - m.val) % 4 ≠ 1), reachC m.val 1 [120]), (decide ((4 - m.val) % 4 ≠ 2), reachC m.val 2 [120]), (decide ((4 - m.val) % 4 ≠ 3), reachC m.val 3 [120])] = if df then [0, 1, 2, 3].filter (fun j => decide (j ≠ (((4 - m.val) % 4 : Nat) : Int))) else []) = true := by decide +kernel
theorem gone_route {m : Nat} {df : Bool} {a b c d : Sl} (hm : m < 4) (ha : IsL m df 0 a) (hb : IsL m df 1 b) (hc : IsL m df 2 c) (hd : IsL m df 3 d) : (routeL (([a, b, c, d] : List Sl).set ((4 - m) % 4) zSl) xT).length = if df then 3 else 0 := by
  have A := ha.reach xT
  have B := hb.reach xT
  have C := hc.reach xT
  have D := hd.reach xT
  have hx : xT.data.toList = [120] := rfl
  rw [hx] at A B C D
  have G := fun M : Fin 4 => of_decide_eq_true (gone_dec M df)
  match m, hm with
  | 0, _ => rw [show ([a, b, c, d] : List Sl).set ((4 - 0) % 4) zSl = [zSl, b, c, d] from rfl, routeC_e (z_reach (r := reachC 0 0 [120])) B C D]; have := G 0; simp only [Fin.val_zero] at this; erw [this]; cases df <;> rfl
  | 1, _ => rw [show ([a, b, c, d] : List Sl).set ((4 - 1) % 4) zSl = [a, b, c, zSl] from rfl, routeC_e A B C (z_reach (r := reachC 1 3 [120]))]; erw [G 1]; cases df <;> rfl
  | 2, _ => rw [show ([a, b, c, d] : List Sl).set ((4 - 2) % 4) zSl = [a, b, zSl, d] from rfl, routeC_e A B (z_reach (r := reachC 2 2 [120])) D]; erw [G 2]; cases df <;> rfl
  | 3, _ => rw [show ([a, b, c, d] : List Sl).set ((4 - 3) % 4) zSl = [a, zSl, c, d] from rfl, routeC_e A (z_reach (r := reachC 3 1 [120])) C D]; erw [G 3]; cases df <;> rfl
/-- bits of small numbers -/
theorem and3 (n : Int) : ∃ m : Nat, m < 4 ∧ bits BinOp.and IntKind.i64 n 3 = (m : Int) := by
  have hle : (BitVec.ofInt 64 n &&& BitVec.ofInt 64 (3 : Nat)).toNat ≤ 3 := by
    rw [BitVec.toNat_and]
    refine Nat.le_trans Nat.and_le_right ?_
    rw [BitVec.ofInt_natCast, BitVec.toNat_ofNat]
    exact Nat.mod_le _ _
  refine ⟨(BitVec.ofInt 64 n &&& BitVec.ofInt 64 (3 : Nat)).toNat, by omega, ?_⟩
  show IntKind.i64.wrap ((BitVec.ofInt 64 n &&& BitVec.ofInt 64 (3 : Nat)).toNat : Int) = _
  exact IntWalk.i64_in _ (by omega)
theorem add3_dec : ∀ k m : Fin 4, bits BinOp.and IntKind.i64 (IntKind.wrap .i64 ((k.val : Int) + (m.val : Int))) 3 = (((k.val + m.val) % 4 : Nat) : Int) := by decide +kernel
theorem neg3_dec : ∀ m : Fin 4, bits BinOp.and IntKind.i64 (IntKind.wrap .i64 (-(m.val : Int))) 3 = (((4 - m.val) % 4 : Nat) : Int) := by decide +kernel
theorem sevenK {s : List UInt8} {k : Int} (h : (s, k) ∈ sevenL) : 0 ≤ k ∧ k < 4 := by
  have := List.all_eq_true.1 (show (sevenL.all fun p => decide (0 ≤ p.2 ∧ p.2 < 4)) = true by decide) _ h
  exact of_decide_eq_true this
end Go.Proofs.YtnjcbkolniemnaaDoor
