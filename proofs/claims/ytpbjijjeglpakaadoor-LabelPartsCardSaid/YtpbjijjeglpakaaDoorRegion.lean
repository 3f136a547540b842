/-
  A rule for a region that draws its order, whatever the program: what holds ahead of it and is kept by each operation that may come next holds behind it. Conditions: each states its own.
-/
import Derived.WalkKit
import Derived.RegionTactic
namespace Go.Proofs.YtpbjijjeglpakaaDoor
open Go.RowKit

/-- how many operations are still to come -/
def todo (l : List Bool) : Nat := (l.filter (!·)).length
theorem todo_set : ∀ (l : List Bool) (i : Nat), l[i]? = some false → todo (l.set i true) + 1 = todo l
  | [], i, h => by simp at h
  | b :: t, 0, h => by
    simp only [List.getElem?_cons_zero, Option.some.injEq] at h
    subst h
    simp [todo]
  | b :: t, i + 1, h => by
    simp only [List.getElem?_cons_succ] at h
    have ih := todo_set t i h
    unfold todo at ih ⊢
    rw [List.set_cons_succ, List.filter_cons, List.filter_cons]
    cases b <;> simp <;> omega
theorem todo_zero {l : List Bool} (h : todo l = 0) (i : Nat) : l[i]? ≠ some false := fun e => by
  have := todo_set l i e
  omega
theorem getD_false {listed : Array Bool} {i : Nat} (h : listed.getD i true = false) : listed.toList[i]? = some false := by
  rw [Array.getElem?_toList]
  rw [Array.getD_eq_getD_getElem?] at h
  cases e : listed[i]? with
  | none => rw [e] at h; cases h
  | some b => rw [e] at h; simp at h; rw [h]

section
variable {P : Program} {md : Region.Mode} {ops : Array Oper} {Q : Exit → Act → World → Prop}
theorem wpAny_inv (Inv : Array Bool → Act → World → Prop)
    (hend : ∀ listed a w, Inv listed a w → Region.ready md ops listed = [] → Q .normal a w)
    (hstep : ∀ listed a w i, Inv listed a w → i ∈ Region.ready md ops listed → wpOp P ops Q i (Inv (listed.setIfInBounds i true)) a w) :
    ∀ (fuel : Nat) (listed : Array Bool) (a : Act) (w : World), todo listed.toList ≤ fuel → Inv listed a w → wpAny P md ops Q fuel listed a w := by
  intro fuel
  induction fuel with
  | zero =>
    intro listed a w ht hI
    have hr : Region.ready md ops listed = [] := by
      apply List.eq_nil_iff_forall_not_mem.2
      intro j hj
      exact todo_zero (by omega) j (getD_false (mem_ready.1 hj).1)
    exact ⟨hr, hend listed a w hI hr⟩
  | succ fuel ih =>
    intro listed a w ht hI
    refine ⟨fun hr => hend listed a w hI hr, fun i hi => wpOp_mono (fun a w hK => ih _ a w ?_ hK) (hstep listed a w i hI hi)⟩
    have h1 := todo_set _ _ (getD_false (mem_ready.1 hi).1)
    rw [Array.toList_setIfInBounds]
    omega
theorem wp_region_inv {id : Nat} {a : Act} {w : World} (ops' : Array Oper) (he : ops = ops') (hm : P.follows .mixedOrders = true) (Inv : Array Bool → Act → World → Prop)
    (hend : ∀ listed a w, Inv listed a w → Region.ready .any ops' listed = [] → Q .normal a w)
    (hstep : ∀ listed a w i, Inv listed a w → i ∈ Region.ready .any ops' listed → wpOp P ops' Q i (Inv (listed.setIfInBounds i true)) a w)
    (h0 : Inv (Array.replicate ops'.size false) a w.drew) : (Code.region id ops true).wp P Q a w := by
  subst he
  exact wp_region_any hm (wpAny_inv Inv hend hstep _ _ _ _ (by unfold todo; rw [Array.toList_replicate, List.filter_replicate]; simp) h0)

/-- an operation of which it is known what it leaves -/
theorem wp_value {o : Oper} {a : Act} {w w' : World} {K : Act → World → Prop} {v : Value} (h : (execOp a.eval o).run P w = .ok (.value v) w') (hK : K (a.put o.dst v) w') : o.wp P a w K Q := by
  unfold Oper.wp; rw [h]; exact hK
theorem wp_skip {o : Oper} {a : Act} {w w' : World} {K : Act → World → Prop} (h : (execOp a.eval o).run P w = .ok .skip w') (hK : K (a.put o.dst undef) w') : o.wp P a w K Q := by
  unfold Oper.wp; rw [h]; exact hK
theorem wp_enter {o : Oper} {a : Act} {w : World} {K : Act → World → Prop} {f : FuncId} {args : Array Value} {post : Ending → World → Prop} (h : (execOp a.eval o).run P w = .ok (.enter f args) w) (hc : Calls P f args w post)
    (hK : ∀ e w', post e w' → ∃ v, e = .returned v ∧ K (a.put o.dst v) w') : o.wp P a w K Q := by
  unfold Oper.wp; rw [h]
  refine hc.mono fun e w' hp => ?_
  obtain ⟨v, rfl, hk⟩ := hK e w' hp
  exact hk
theorem slot_put {a : Act} {d : Nat} {v : Value} (k : Nat) : (a.put (some d) v).tmps.getD k undef = if k = d ∧ d < a.tmps.size then v else a.tmps.getD k undef := by
  show (a.tmps.setIfInBounds d v).getD k undef = _
  rw [Array.getD_eq_getD_getElem?, Array.getD_eq_getD_getElem?, Array.getElem?_setIfInBounds]
  by_cases hd : d = k
  · subst hd
    by_cases hs : d < a.tmps.size
    · rw [if_pos rfl, if_pos hs, if_pos ⟨rfl, hs⟩]; rfl
    · rw [if_pos rfl, if_neg hs, if_neg (fun h => hs h.2), Array.getElem?_eq_none (by omega)]
  · rw [if_neg hd, if_neg (fun h => hd h.1.symm)]
theorem size_put {a : Act} {d : Option Tmp} {v : Value} : (a.put d v).tmps.size = a.tmps.size := by
  cases d with
  | none => rfl
  | some d => show (a.tmps.setIfInBounds d v).size = _; rw [Array.size_setIfInBounds]
theorem defers_put {a : Act} {d : Option Tmp} {v : Value} : (a.put d v).defers = a.defers := by
  cases d with
  | none => rfl
  | some d => rfl
end

/-- the operations of region number n, as they lie in a function's text -/
def opsOf (n : Nat) : Code → Option (Array Oper)
  | .region id ops _ => if id = n then some ops else none
  | .seq a b => (opsOf n a).or (opsOf n b)
  | .cond _ a b => (opsOf n a).or (opsOf n b)
  | .block _ b => opsOf n b
  | .loop b => opsOf n b
  | .rangeFunc _ _ a b => (opsOf n a).or (opsOf n b)
  | _ => none
/-- which operations one of them waits for -/
def needsOf (o : Oper) : List Nat := (o.after.toList.filter (Region.binds .any)).map (·.on)
theorem needs_of {ops : Array Oper} {listed : Array Bool} {i : Nat} {o : Oper} (hi : i ∈ Region.ready .any ops listed) (ho : ops[i]? = some o) : ∀ j ∈ needsOf o, listed.getD j false = true := by
  obtain ⟨_, o', ho', h⟩ := mem_ready.1 hi
  rw [ho] at ho'
  injection ho' with ho'
  subst ho'
  intro j hj
  obtain ⟨e, he, rfl⟩ := List.mem_map.1 hj
  obtain ⟨h1, h2⟩ := List.mem_filter.1 he
  exact h e (by simpa using h1) h2
end Go.Proofs.YtpbjijjeglpakaaDoor
