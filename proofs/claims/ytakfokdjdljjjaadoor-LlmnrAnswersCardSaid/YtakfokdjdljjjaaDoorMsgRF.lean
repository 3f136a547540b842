/-
  A record that is read, told by the parts that are read one behind the other. No condition.
-/
import Derived.Test.YtakfokdjdljjjaaDoorMsgWd
namespace Go.Proofs.YtakfokdjdljjjaaDoor
open Go.RowKit

/-- a record as the program holds it -/
def RV.ofRec (x : Rec) : RV := ⟨bs x.nm, x.ty, x.ttl, x.ad, bs x.tx, bs x.da⟩
theorem withR_ofRec (nm : List UInt8) (ty ttl : Nat) (d : List UInt8) : withR (bs nm) ty ttl d = RV.ofRec (withD nm ty ttl d) := by
  unfold withR withD RV.ofRec
  by_cases h1 : ty = 1 ∧ d.length = 4
  · rw [if_pos h1, if_pos ⟨by have := h1.1; omega, h1.2⟩]; rfl
  · rw [if_neg h1, if_neg (fun h => h1 ⟨by have := h.1; omega, h.2⟩)]
    by_cases h2 : ty = 28 ∧ d.length = 16
    · rw [if_pos h2, if_pos ⟨by have := h2.1; omega, h2.2⟩]; rfl
    · rw [if_neg h2, if_neg (fun h => h2 ⟨by have := h.1; omega, h.2⟩)]; rfl
theorem withD_ad (nm : List UInt8) (ty ttl : Nat) (d : List UInt8) : (withD nm ty ttl d).ad.length = 16 := by
  unfold withD
  by_cases h1 : ty = 1 ∧ d.length = 4
  · rw [if_pos h1]; show (pre4 ++ d).length = 16; rw [List.length_append, h1.2]; rfl
  · rw [if_neg h1]
    by_cases h2 : ty = 28 ∧ d.length = 16
    · rw [if_pos h2]; exact h2.2
    · rw [if_neg h2]; rfl
theorem withR_ad (nm : ByteArray) (ty ttl : Int) (d : List UInt8) : (withR nm ty ttl d).ad.length = 16 := by
  unfold withR
  by_cases h1 : ty = 1 ∧ d.length = 4
  · rw [if_pos h1]; show (pre4 ++ d).length = 16; rw [List.length_append, h1.2]; rfl
  · rw [if_neg h1]
    by_cases h2 : ty = 28 ∧ d.length = 16
    · rw [if_pos h2]; exact h2.2
    · rw [if_neg h2]; rfl
section
variable {b : List UInt8} {o : Option Nat} {q : Option ((List UInt8 × Nat) × Nat)} {t z : Option (Nat × Nat)}
/-- what is read ahead of a record's data; the rest is read from the place behind -/
theorem recF_none (hq : o.bind (qF b) = q) (ht : (q.map (·.2)).bind (fun p => numF b p 4) = t) (hz : (t.map (·.2)).bind (fun p => numF b p 2) = z) (h : z = none) : o.bind (recF b) = none := by
  subst h
  cases o with
  | none => rfl
  | some p =>
    simp only [Option.bind_some] at hq ⊢
    unfold recF
    rw [hq]
    cases q with
    | none => rfl
    | some x =>
      simp only [Option.map_some, Option.bind_some] at ht ⊢
      rw [ht]
      cases t with
      | none => rfl
      | some y =>
        simp only [Option.map_some, Option.bind_some] at hz ⊢
        rw [hz]; rfl
theorem recF_some (hq : o.bind (qF b) = q) (ht : (q.map (·.2)).bind (fun p => numF b p 4) = t) (hz : (t.map (·.2)).bind (fun p => numF b p 2) = z) {v : Nat × Nat} (h : z = some v) : ∃ x y, q = some x ∧ t = some y ∧
    o.bind (recF b) = if x.1.2 = 2 ∨ x.1.2 = 5 ∨ x.1.2 = 12 then (nameF b v.2).bind fun n => if n.2 = v.2 + v.1 then some (⟨x.1.1, x.1.2, min y.1 1048576, zero16, n.1, []⟩, n.2) else none
      else if v.2 + v.1 ≤ b.length then some (withD x.1.1 x.1.2 (min y.1 1048576) (cutB b v.2 v.1), v.2 + v.1) else none := by
  subst h
  cases t with
  | none => cases hz
  | some y =>
    cases q with
    | none => cases ht
    | some x =>
      cases o with
      | none => cases hq
      | some p =>
        refine ⟨x, y, rfl, rfl, ?_⟩
        simp only [Option.bind_some, Option.map_some] at hq ht hz ⊢
        unfold recF
        rw [hq, Option.bind_some, ht, Option.bind_some, hz, Option.bind_some]
/-- what record answers -/
def RecP (base : Nat) (w : World) (g : Nat) (A : Option Addr) (c : Nat) (b : List UInt8) (r : Option (Rec × Nat)) (e : Ending) (w' : World) : Prop :=
  ∃ s : RV, e = .returned (.agg s.cells) ∧ s.ad.length = 16 ∧ (∀ x, r = some x → s = RV.ofRec x.1) ∧ RSt base w' g A c b (r.map (·.2)) ∧ w.grownBy w' (some g)
end
end Go.Proofs.YtakfokdjdljjjaaDoor
