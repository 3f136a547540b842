/-
  Plain facts on names of ASCII, for NamePlain: how a name goes out whose labels are ASCII and none of them Punycode's. No condition.
-/
import Derived.Test.YtiaijbklpkapmaaDoorNamePartsLib
import Derived.Test.YtiaijbklpkapmaaDoorTxts
namespace Go.Proofs.YtiaijbklpkapmaaDoor
open Go.RowKit

/-- what the law asks of each label before it goes on -/
structure PlainL (x : ByteArray) : Prop where
  size : x.size ≤ 100
  asc : asc x.data.toList
  point : (46 : UInt8) ∉ x.data.toList
  mark : ¬ XN <+: low x.data.toList
/-- the labels' lengths, one more each -/
def tk : List ByteArray → Nat
  | [] => 0
  | x :: t => x.size + 1 + tk t
theorem tk_append (a b : List ByteArray) : tk (a ++ b) = tk a + tk b := by
  induction a with
  | nil => simp [tk]
  | cons x a ih => simp only [List.cons_append, tk, ih]; omega
theorem tk_next (xs : List ByteArray) (k : Nat) (h : k < xs.length) : tk (xs.take (k + 1)) = tk (xs.take k) + ((xs.getD k ByteArray.empty).size + 1) := by
  rw [List.take_succ_eq_append_getElem h, tk_append]
  simp [tk, List.getD, List.getElem?_eq_getElem h]
theorem tk_le : ∀ (xs : List ByteArray), (∀ x ∈ xs, x.size ≤ 100) → tk xs ≤ 101 * xs.length
  | [], _ => by simp [tk]
  | x :: t, h => by
    have h1 := h x (by simp)
    have h2 := tk_le t fun y hy => h y (List.mem_cons_of_mem _ hy)
    simp only [tk, List.length_cons]
    omega
theorem tk_jn : ∀ (xs : List ByteArray), xs ≠ [] → tk xs = (jn (xs.map (·.data.toList))).length + 1
  | [], h => absurd rfl h
  | [x], _ => by simp only [tk, List.map_cons, List.map_nil]; rw [Lib.size_eq]; rfl
  | x :: y :: t, _ => by
    have ih := tk_jn (y :: t) (by simp)
    have e : (x :: y :: t).map (fun (z : ByteArray) => z.data.toList) = x.data.toList :: (y :: t).map (fun (z : ByteArray) => z.data.toList) := rfl
    rw [e, jn_cons _ (by simp), List.length_append, List.length_cons, ← Lib.size_eq]
    have e2 : tk (x :: y :: t) = x.size + 1 + tk (y :: t) := rfl
    rw [e2, ih]; omega
theorem jn_last2 : ∀ (xs : List (List UInt8)), xs ≠ [] → (∀ x ∈ xs, (46 : UInt8) ∉ x) → xs.getLast? ≠ some [] → (jn xs).getLast? ≠ some 46
  | [], h, _, _ => absurd rfl h
  | [x], _, h, _ => fun e => h x (by simp) (List.mem_of_getLast? e)
  | x :: y :: t, _, h, hl => by
    have ih := jn_last2 (y :: t) (by simp) (fun z hz => h z (List.mem_cons_of_mem _ hz)) (by rw [List.getLast?_cons_cons] at hl; exact hl)
    rw [jn_cons x (by simp), List.getLast?_append]
    have hne : jn (y :: t) ≠ [] := by
      cases t with
      | nil => intro e; exact hl (by rw [show jn [y] = y from rfl] at e; rw [e]; rfl)
      | cons z t => rw [jn_cons y (by simp)]; simp
    rw [List.getLast?_cons_of_ne_nil hne]
    cases hq : (jn (y :: t)).getLast? with
    | none => exact absurd (List.getLast?_eq_none_iff.1 hq) hne
    | some q => rw [hq] at ih; exact ih
/-- a name of such labels: how it goes out, with a point at its end and without -/
theorem plain_ta {ls : List ByteArray} (h : ∀ x ∈ ls, PlainL x) (h0 : ls ≠ []) (h10 : ls.length ≤ 10) (hlast : ls.getLast? ≠ some ⟨#[]⟩) (pt : Bool) :
    let J := jn (ls.map (·.data.toList))
    let S := if pt then J ++ [46] else J
    J.length + 1 ≤ 1010 ∧ ((¬ ∀ x ∈ ls, RightL x.data.toList) → TA S 1 []) ∧ ((∀ x ∈ ls, RightL x.data.toList) → 253 < J.length → TA S 2 []) ∧ ((∀ x ∈ ls, RightL x.data.toList) → J.length ≤ 253 → TA S 0 (low J)) := by
  intro J S
  have hlen : J.length + 1 ≤ 1010 := by
    have h1 := tk_jn ls h0
    have h2 := tk_le ls fun x hx => (h x hx).size
    have h3 : J.length = (jn (ls.map (·.data.toList))).length := rfl
    omega
  have hm0 : ls.map (fun (z : ByteArray) => z.data.toList) ≠ [] := fun e => h0 (List.map_eq_nil_iff.1 e)
  have hpt : ∀ x ∈ ls.map (fun (z : ByteArray) => z.data.toList), (46 : UInt8) ∉ x := fun x hx => by
    obtain ⟨y, hy, rfl⟩ := List.mem_map.1 hx
    exact (h y hy).point
  have hcut : cutP S = J := by
    show cutP (if pt then J ++ [46] else J) = J
    cases pt with
    | true => show cutP (J ++ [46]) = J; unfold cutP; rw [if_pos (by simp)]; simp
    | false =>
      have hl : J.getLast? ≠ some 46 := jn_last2 _ hm0 hpt (by
        rw [List.getLast?_map]
        cases hq : ls.getLast? with
        | none => simp
        | some q =>
          rw [hq] at hlast
          simp only [Option.map_some, ne_eq, Option.some.injEq]
          exact fun e => hlast (by rw [bytes_inj (a := q) (b := ⟨#[]⟩) e]))
      show cutP J = J
      unfold cutP
      rw [if_neg hl]
  have hS : S.length ≤ 1012 := by
    show (if pt then J ++ [46] else J).length ≤ 1012
    cases pt with
    | true => rw [if_pos rfl, List.length_append]; show J.length + 1 ≤ 1012; omega
    | false => rw [if_neg (by simp)]; omega
  have hsp : sp (cutP S) = ls.map (fun (z : ByteArray) => z.data.toList) := by rw [hcut]; exact sp_join _ hm0 hpt
  obtain ⟨P1, P2⟩ := Labs.plain (ls.map (fun (z : ByteArray) => z.data.toList)) fun x hx => by
    obtain ⟨y, hy, rfl⟩ := List.mem_map.1 hx
    exact ⟨(h y hy).asc, (h y hy).mark⟩
  have hall : (∀ x ∈ ls, RightL x.data.toList) ↔ ∀ x ∈ ls.map (fun (z : ByteArray) => z.data.toList), RightL x := by
    constructor
    · intro hr x hx
      obtain ⟨y, hy, rfl⟩ := List.mem_map.1 hx
      exact hr y hy
    · intro hr x hx
      exact hr _ (List.mem_map_of_mem hx)
  have hlow : low J = jn ((ls.map (fun (z : ByteArray) => z.data.toList)).map low) := low_jn _
  have hll : (low J).length = J.length := low_length J
  refine ⟨hlen, fun hb => .err hS 1 (by decide) (by rw [hsp]; exact P2 fun hr => hb (hall.2 hr)), fun hr hb => .big hS _ (by rw [hsp]; exact P1 (hall.1 hr)) (by rw [← hlow]; omega), fun hr hb => ?_⟩
  rw [hlow]
  exact .ok hS _ (by rw [hsp]; exact P1 (hall.1 hr)) (by rw [← hlow]; omega)
end Go.Proofs.YtiaijbklpkapmaaDoor
