/-
  Plain facts for AddrFours, no program: when an address is one of four bytes. Condition: sixteen bytes.
-/
import Derived.Test.YtclfmokdjmnjcaaDoorAddrMath
namespace Go.Proofs.YtclfmokdjmnjcaaDoor

def wantTo (a : List UInt8) (k : Nat) : Bool := (a.getD 10 0 == 255 && a.getD 11 0 == 255) && (a.take k).all (· == 0)
theorem want_none (a : List UInt8) : wantTo a 0 = (a.getD 10 0 == 255 && a.getD 11 0 == 255) := by
  unfold wantTo; rw [List.take_zero, List.all_nil, Bool.and_true]
theorem want_step {a : List UInt8} {k : Nat} (hk : k < a.length) : wantTo a (k + 1) = (wantTo a k && a.getD k 0 == 0) := by
  have e : a.getD k 0 = a[k] := by rw [List.getD_eq_getElem?_getD, List.getElem?_eq_getElem hk]; rfl
  rw [e]
  unfold wantTo
  rw [List.take_add_one, List.getElem?_eq_getElem hk, List.all_append]
  simp [Bool.and_assoc]
theorem want_all {a : List UInt8} (h : a.length = 16) : wantTo a 10 = isV4 a := by
  match a, h with
  | [a0, a1, a2, a3, a4, a5, a6, a7, a8, a9, a10, a11, a12, a13, a14, a15], _ =>
    unfold wantTo isV4 four12
    rw [Bool.eq_iff_iff]
    simp only [List.getD_cons_succ, List.getD_cons_zero, List.take_succ_cons, List.take_zero, List.all_cons, List.all_nil, Bool.and_eq_true, beq_iff_eq, Bool.and_true, List.drop_succ_cons, List.drop_zero, List.cons_append, List.nil_append, List.cons.injEq, and_true]
    constructor
    · rintro ⟨⟨h1, h2⟩, h3, h4, h5, h6, h7, h8, h9, h10, h11, h12⟩
      exact ⟨h3, h4, h5, h6, h7, h8, h9, h10, h11, h12, h1, h2⟩
    · rintro ⟨h3, h4, h5, h6, h7, h8, h9, h10, h11, h12, h1, h2⟩
      exact ⟨⟨h1, h2⟩, h3, h4, h5, h6, h7, h8, h9, h10, h11, h12⟩
theorem isV4_four (x y z u : UInt8) : isV4 (four12 ++ [x, y, z, u]) = true := by
  unfold isV4
  rw [show (four12 ++ [x, y, z, u]).drop 12 = [x, y, z, u] from rfl]
  exact beq_self_eq_true _
theorem four_back {a : List UInt8} (h : a.length = 16) (h4 : isV4 a = true) : four12 ++ [a.getD 12 0, a.getD 13 0, a.getD 14 0, a.getD 15 0] = a := by
  have e := isV4_eq h4
  match a, h, e with
  | [a0, a1, a2, a3, a4, a5, a6, a7, a8, a9, a10, a11, a12, a13, a14, a15], _, e => exact e.symm
end Go.Proofs.YtclfmokdjmnjcaaDoor
