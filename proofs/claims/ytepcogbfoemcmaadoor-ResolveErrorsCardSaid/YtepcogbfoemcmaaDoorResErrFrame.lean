/-
  What every claim of this seat begins with: the tables that the rows list (the handle of the type 'error' among them), and what the library's variables hold in every world in which a call begins. Conditions: each states its own.
-/
import Derived.Test.YtepcogbfoemcmaaDoorCards
import Derived.Test.YtepcogbfoemcmaaDoorTie
import Derived.Test.YtepcogbfoemcmaaDoorResErr
import Derived.LaidHandle
import Derived.LaidSub
import Derived.WalkKit
import Derived.ProofKit
import Derived.OpenShut
import Derived.Lay
import Derived.Deep.DeepHandedRow
import Derived.SevenTiedAt
import Derived.Stop.LaidErr
namespace Go.Proofs.YtepcogbfoemcmaaDoor
open Go.ChangeShapes Go.WideShapes Go.ChangeAt Go.RowKit

theorem own : ownKnob Tryd.prog.godebug = none := by kernel_rfl
def tables : List (String × DataW Unit) := Rows.resolveErrorsRow.laid
def tablesD : List (String × DataW Unit) := tables.filter fun x => x.2.handleName?.isNone
theorem rt_et : Tryd.prog.globalNamed "errors.errorType" = some 0 := by kernel_rfl
theorem rt_rt : (Tryd.prog.cutTypes.find? (·.1 == "internal/reflectlite.rtype")).map (·.2) = some 84 := by kernel_rfl
theorem rt_size : Tryd.prog.types.size = 161 := by kernel_rfl
theorem rt_one : ((List.range 161).filter fun t => Tryd.prog.rowNamed t [101, 114, 114, 111, 114]) = [25] := by kernel_rfl
/-- what the condition gives a walk: the variable's one cell -/
theorem ety_of {W : World} (h : laidMetH Tryd.prog tables W) : ETy W := by
  obtain ⟨name, u, ty, e1, e2, e3, e4, e5⟩ := (laidMetH_iff.1 h).2 ("errors.errorType", Rows.laid_errors_errorType) (by
    refine List.mem_filter.2 ⟨?_, rfl⟩
    show _ ∈ Rows.resolveErrorsRow.laid
    simp [Rows.resolveErrorsRow])
  have en : name = [101, 114, 114, 111, 114] := (Option.some.inj e1).symm
  subst en
  obtain rfl := Option.some.inj (rt_rt.symm.trans e2)
  have hm : ty ∈ (List.range 161).filter fun t => Tryd.prog.rowNamed t [101, 114, 114, 111, 114] := List.mem_filter.2 ⟨List.mem_range.2 (by rw [← rt_size]; exact e3), e4⟩
  rw [rt_one] at hm
  obtain rfl := List.mem_singleton.1 hm
  have hh : typeHandle Tryd.prog 25 = .pointer (some ⟨4, 25, none⟩) := by kernel_rfl
  rw [hh] at e5
  simpa [ETy] using World.var?_cell rt_et e5 0
/-- a world that meets the condition -/
noncomputable def handW (os : Os) : World :=
  let w0 := World.holding Tryd.prog os ⟨#[], #[], []⟩
  { w0 with heap := w0.heap.modify 0 fun
      | .cells _ t frozen => .cells #[.iface 84 (.agg #[.pointer (some ⟨4, 25, none⟩)])] t frozen
      | o => o }
noncomputable def laidW (os : Os) : World := (handW os).layVars Tryd.prog tablesD
theorem laidW_os (os : Os) : (laidW os).os = os := World.layVars_os _ _ _
theorem laidW_data (os : Os) (args : Array Value) : laidMet Tryd.prog tablesD ((laidW os).forCall (fun _ _ => 0) ⟨#[], args, []⟩).memory := by
  have e1 : (tablesD.filter fun x => (tablesD.map (·.1)).contains x.1) = tablesD := List.filter_eq_self.2 fun x hx => List.contains_iff_mem.2 (List.mem_map.2 ⟨x, hx, rfl⟩)
  have e2 : (tablesD.filter fun x => !(tablesD.map (·.1)).contains x.1) = [] := List.filter_eq_nil_iff.2 fun x hx => by rw [List.contains_iff_mem.2 (List.mem_map.2 ⟨x, hx, rfl⟩)]; simp
  have h : laidMet Tryd.prog tablesD (laidW os) := laidMet_layVars (w0 := handW os) (tablesD.map (·.1)) [] (by rw [e1]; rfl) (by rw [e1]; kernel_rfl) (by rw [e1]; kernel_rfl) (by rw [e2]; exact LaidIn.none)
  exact h.of_heap (by simp [World.memory, World.forCall, Input.heap])
theorem laidW_met (os : Os) (args : Array Value) : laidMetH Tryd.prog tables ((laidW os).forCall (fun _ _ => 0) ⟨#[], args, []⟩).memory :=
  laidMetH_of_parts (laidW_data os args) (by kernel_rfl)
end Go.Proofs.YtepcogbfoemcmaaDoor
