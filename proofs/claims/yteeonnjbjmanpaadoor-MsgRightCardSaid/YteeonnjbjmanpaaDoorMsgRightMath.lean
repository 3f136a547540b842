/-
  Plain facts: which records may be, in the law's own words. No condition.
-/
import Derived.Test.YteeonnjbjmanpaaDoorMsgAllM
namespace Go.Proofs.YteeonnjbjmanpaaDoor
open Go.RowKit

/-- is it an IPv4 address, in the law's words? -/
def v4L (ad : List UInt8) : Bool := ((ad.getD 10 0 == 255) && (ad.getD 11 0 == 255)) && (ad.take 10).all (· == 0)
theorem v4L_eq {ad : List UInt8} (h : ad.length = 16) : v4L ad = (ad == pre4 ++ ad.drop 12) := by
  match ad, h with
  | [a0, a1, a2, a3, a4, a5, a6, a7, a8, a9, a10, a11, a12, a13, a14, a15], _ =>
    unfold v4L pre4
    rw [Bool.eq_iff_iff]
    simp
    constructor
    · rintro ⟨⟨h1, h2⟩, h3⟩; simp_all
    · intro h; simp_all
/-- may the record be, in the law's words? -/
def baseR (r : RV) : Bool := gosB r.nm && decide (0 ≤ r.ttl) && decide (r.ttl ≤ 1048576)
def eB (s : ByteArray) : Bool := s.toList == []
def wantR (r : RV) : Bool :=
  if r.ty = 1 then ((baseR r && v4L r.ad) && eB r.tx) && eB r.da
  else if r.ty = 28 then (baseR r && eB r.tx) && eB r.da
  else if r.ty = 2 ∨ r.ty = 5 ∨ r.ty = 12 then ((baseR r && eB r.da) && (r.ad == zero16)) && gosB r.tx
  else ((((baseR r && decide (0 < r.ty)) && decide (r.ty ≤ 65535)) && eB r.tx) && (r.ad == zero16)) && decide (r.da.size ≤ 255)
theorem btw_two (a b c : Int) : btw a b c = (decide (a ≤ b) && decide (b ≤ c)) := by unfold btw; exact Bool.decide_and _ _
theorem emp_list : emp.toList = [] := by rw [Lib.toList_data]; rfl
theorem want_rv {r : RV} (h : r.ad.length = 16) : rvOk r = wantR r := by
  unfold rvOk wantR baseR eB RV.eqB
  rw [v4L_eq h, btw_two, btw_two, emp_list]
  simp only [beq_self_eq_true, Bool.true_and, Bool.and_true]
  by_cases h1 : r.ty = 1
  · simp only [h1, if_true]
    generalize gosB r.nm = a
    generalize decide (0 ≤ r.ttl) = b
    generalize decide (r.ttl ≤ 1048576) = c
    generalize (r.ad == pre4 ++ r.ad.drop 12) = d
    generalize (r.tx.toList == []) = e
    generalize (r.da.toList == []) = f
    revert a b c d e f; decide
  · simp only [h1, if_false]
    by_cases h2 : r.ty = 28
    · simp only [h2, if_true]
      generalize gosB r.nm = a
      generalize decide (0 ≤ r.ttl) = b
      generalize decide (r.ttl ≤ 1048576) = c
      generalize (r.tx.toList == []) = e
      generalize (r.da.toList == []) = f
      revert a b c e f; decide
    · simp only [h2, if_false]
      by_cases h3 : r.ty = 2 ∨ r.ty = 5 ∨ r.ty = 12
      · have g1 : decide (1 ≤ r.ty) = true := decide_eq_true (by omega)
        have g2 : decide (r.ty ≤ 65535) = true := decide_eq_true (by omega)
        rw [if_pos h3, if_pos h3, g1, g2]
        generalize gosB r.nm = a
        generalize decide (0 ≤ r.ttl) = b
        generalize decide (r.ttl ≤ 1048576) = c
        generalize (r.ad == zero16) = d
        generalize gosB r.tx = e
        generalize (r.da.toList == []) = f
        revert a b c d e f; decide
      · have g1 : decide (1 ≤ r.ty) = decide (0 < r.ty) := decide_eq_decide.2 ⟨fun h => by omega, fun h => by omega⟩
        rw [if_neg h3, if_neg h3, g1]
        generalize gosB r.nm = a
        generalize decide (0 ≤ r.ttl) = b
        generalize decide (r.ttl ≤ 1048576) = c
        generalize (r.ad == zero16) = d
        generalize decide (0 < r.ty) = e
        generalize decide (r.ty ≤ 65535) = f
        generalize (r.tx.toList == []) = g
        generalize decide (r.da.size ≤ 255) = k
        revert a b c d e f g k; decide
/-- may the message be, in the law's words? -/
def wantM (id code : Int) (qn : ByteArray) (qt : Int) : Bool := (((((decide (0 ≤ id) && decide (id ≤ 65535)) && decide (0 ≤ code)) && decide (code ≤ 15)) && gosB qn) && decide (1 ≤ qt)) && decide (qt ≤ 65535)
theorem allB_nil : allB [] = true := rfl
theorem allB_one (r : RV) : allB [r] = rvOk r := by unfold allB; simp
theorem want_mv (m : MV) (h1 : m.an = []) (h2 : m.au = []) : mvOk m = wantM m.id m.code m.qn m.qt := by
  unfold mvOk wantM
  rw [h1, h2, allB_nil, btw_two, btw_two, btw_two]
  generalize decide (0 ≤ m.id) = a
  generalize decide (m.id ≤ 65535) = b
  generalize decide (0 ≤ m.code) = c
  generalize decide (m.code ≤ 15) = d
  generalize gosB m.qn = e
  generalize decide (1 ≤ m.qt) = f
  generalize decide (m.qt ≤ 65535) = g
  revert a b c d e f g; decide
theorem want_mv1 (m : MV) (r : RV) (h1 : m.an = [r]) (h2 : m.au = []) : mvOk m = (wantM m.id m.code m.qn m.qt && rvOk r) := by
  unfold mvOk wantM
  rw [h1, h2, allB_nil, allB_one, btw_two, btw_two, btw_two]
  generalize decide (0 ≤ m.id) = a
  generalize decide (m.id ≤ 65535) = b
  generalize decide (0 ≤ m.code) = c
  generalize decide (m.code ≤ 15) = d
  generalize gosB m.qn = e
  generalize decide (1 ≤ m.qt) = f
  generalize decide (m.qt ≤ 65535) = g
  generalize rvOk r = k
  revert a b c d e f g k; decide
end Go.Proofs.YteeonnjbjmanpaaDoor
