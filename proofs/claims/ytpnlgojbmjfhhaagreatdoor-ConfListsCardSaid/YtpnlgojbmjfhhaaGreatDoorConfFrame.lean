/-
  What every claim of this seat begins with: the tables that the rows list (the handle of the type 'error' among them), and what the library's variables hold in every world in which a call begins. Conditions: each states its own.
-/
import Derived.Test.YtpnlgojbmjfhhaaGreatDoorCards
import Derived.Test.YtpnlgojbmjfhhaaGreatDoorTie
import Derived.Test.YtpnlgojbmjfhhaaGreatDoorConfErr
import Derived.LaidHandle
import Derived.LaidSub
import Derived.WalkKit
import Derived.ProofKit
import Derived.OpenShut
import Derived.Lay
import Derived.Deep.DeepHandedRow
import Derived.Shelf.Vars
import Derived.SevenTiedAt
import Derived.Stop.LaidErr
import Derived.Lib.LaidTab
import Derived.Lib.TrailingZeros
namespace Go.Proofs.YtpnlgojbmjfhhaaGreatDoor
open Go.ChangeShapes Go.WideShapes Go.ChangeAt Go.RowKit

theorem own : ownKnob Tryz.prog.godebug = none := by kernel_rfl
def tables : List (String × DataW Unit) := Rows.confBackRow.laid
def tablesD : List (String × DataW Unit) := tables.filter fun x => x.2.handleName?.isNone
theorem env_of_shape {W : World} (h : W.ShapedOpen Tryz.prog) : Env W := by
  obtain ⟨m, hm⟩ := cell_of_shapedOpen_int (k := .i64) (t := 3) (zero := #[.int .i64 0]) (g := 1) h (by decide +kernel) (by kernel_rfl) rfl (by kernel_rfl) (by kernel_rfl) Tryz.underlying3
  exact ⟨cell_lt hm, m, hm⟩
theorem star : "*" ++ "errors.errorString" = "*errors.errorString" := by decide
theorem errRow (u : TypeId) (h : Tryz.prog.typeName? 3 u = some "*errors.errorString") : u = 198 :=
  typeName_ptr_named (nm := "errors.errorString") (by rw [star]; kernel_rfl) (by kernel_rfl) (by decide) u (by rw [star]; exact h)
def bruZ : List Int := Lib.deBruijn64tab.map fun (k : Nat) => (k : Int)
theorem laid_forms : tablesD = ("math/bits.deBruijn32tab", Rows.laid_math_bits_deBruijn32tab) :: ("math/bits.deBruijn64tab", Lib.tabData .u8 bruZ) :: ("internal/strconv.uint64pow10", Lib.tabData .u64 Lib.pow10Tab) :: ("unicode/utf8.acceptRanges", Rows.laid_unicode_utf8_acceptRanges)
    :: ("strconv.ErrRange", .iface "*errors.errorString" (.ptr (.agg [.lit (.string [118, 97, 108, 117, 101, 32, 111, 117, 116, 32, 111, 102, 32, 114, 97, 110, 103, 101])])))
    :: ("strconv.ErrSyntax", .iface "*errors.errorString" (.ptr (.agg [.lit (.string [105, 110, 118, 97, 108, 105, 100, 32, 115, 121, 110, 116, 97, 120])])))
    :: ("unicode/utf8.first", Rows.laid_unicode_utf8_first) :: [] := by rfl
theorem cellsU8 : Tryz.prog.cellsOf 5 = 1 := by kernel_rfl
theorem cellsStr1 : Tryz.prog.cellsOf 9 = 1 := by kernel_rfl
theorem cellsErr : Tryz.prog.cellsOf 200 = 1 := by kernel_rfl
theorem errField : ∃ f : Field, Tryz.prog.underlying 200 = some (.struct #[f]) ∧ f.type = 9 ∧ f.offset = 0 :=
  ⟨(Tryz.prog.fieldsOf 200)[0]!, by kernel_rfl, by kernel_rfl, by kernel_rfl⟩
theorem aenv_of {W : World} (hsh : W.ShapedOpen Tryz.prog) (hLH : laidMetH Tryz.prog tables W) : AEnv W := by
  have hL : laidMet Tryz.prog tablesD W := (laidMetH_iff.1 hLH).1
  rw [laid_forms] at hL
  obtain ⟨f, hf, hft, hfo⟩ := errField
  have h1 := hL.tail
  have h2 := h1.tail
  have h4 := h2.tail.tail
  have hbru : Lib.TabIs Tryz.prog W "math/bits.deBruijn64tab" .u8 bruZ := Lib.tabIs_of_head (g := 4) (by kernel_rfl) (by kernel_rfl) Tryz.underlying181 Tryz.underlying5 cellsU8 (by kernel_rfl) h1
  have hpow := Lib.tabIs_of_head (g := 2) (by kernel_rfl) (by kernel_rfl) Tryz.underlying154 Tryz.underlying125 (by kernel_rfl) (by kernel_rfl) h2
  obtain ⟨a0, s0, hv0, _⟩ := laid_sentinel (g := 8) h4 (by kernel_rfl) (by kernel_rfl) Tryz.underlying28 errRow Tryz.underlying198 hf hft hfo Tryz.underlying9 cellsErr cellsStr1
  obtain ⟨a1, s1, hv1, _⟩ := laid_sentinel (g := 7) h4.tail (by kernel_rfl) (by kernel_rfl) Tryz.underlying28 errRow Tryz.underlying198 hf hft hfo Tryz.underlying9 cellsErr cellsStr1
  refine ⟨env_of_shape hsh, hpow, ?_, ⟨_, _, by simpa using World.var?_cell (g := 7) (by kernel_rfl) hv1 0⟩, ⟨_, _, by simpa using World.var?_cell (g := 8) (by kernel_rfl) hv0 0⟩⟩
  exact hbru.cell (by kernel_rfl) 15 (by decide)

theorem rt_et : Tryz.prog.globalNamed "errors.errorType" = some 0 := by kernel_rfl
theorem rt_rt : (Tryz.prog.cutTypes.find? (·.1 == "internal/reflectlite.rtype")).map (·.2) = some 103 := by kernel_rfl
theorem rt_size : Tryz.prog.types.size = 236 := by kernel_rfl
theorem rt_one : ((List.range 236).filter fun t => Tryz.prog.rowNamed t [101, 114, 114, 111, 114]) = [28] := by kernel_rfl
/-- what the condition gives a walk: the variable's one cell -/
theorem ety_of {W : World} (h : laidMetH Tryz.prog tables W) : ETy W := by
  obtain ⟨name, u, ty, e1, e2, e3, e4, e5⟩ := (laidMetH_iff.1 h).2 ("errors.errorType", Rows.laid_errors_errorType) (by
    refine List.mem_filter.2 ⟨?_, rfl⟩
    show _ ∈ Rows.confBackRow.laid
    simp [Rows.confBackRow])
  have en : name = [101, 114, 114, 111, 114] := (Option.some.inj e1).symm
  subst en
  obtain rfl := Option.some.inj (rt_rt.symm.trans e2)
  have hm : ty ∈ (List.range 236).filter fun t => Tryz.prog.rowNamed t [101, 114, 114, 111, 114] := List.mem_filter.2 ⟨List.mem_range.2 (by rw [← rt_size]; exact e3), e4⟩
  rw [rt_one] at hm
  obtain rfl := List.mem_singleton.1 hm
  have hh : typeHandle Tryz.prog 28 = .pointer (some ⟨14, 28, none⟩) := by kernel_rfl
  rw [hh] at e5
  simpa [ETy] using World.var?_cell rt_et e5 0
/-- a world that meets the condition -/
noncomputable def handW (os : Os) : World :=
  let w0 := World.holding Tryz.prog os ⟨#[], #[], []⟩
  { w0 with heap := w0.heap.modify 0 fun
      | .cells _ t frozen => .cells #[.iface 103 (.agg #[.pointer (some ⟨14, 28, none⟩)])] t frozen
      | o => o }
noncomputable def laidW (os : Os) : World := (handW os).layVars Tryz.prog tablesD
theorem laidW_os (os : Os) : (laidW os).os = os := World.layVars_os _ _ _
theorem laidW_data (os : Os) (args : Array Value) : laidMet Tryz.prog tablesD ((laidW os).forCall (fun _ _ => 0) ⟨#[], args, []⟩).memory := by
  have e1 : (tablesD.filter fun x => (tablesD.map (·.1)).contains x.1) = tablesD := List.filter_eq_self.2 fun x hx => List.contains_iff_mem.2 (List.mem_map.2 ⟨x, hx, rfl⟩)
  have e2 : (tablesD.filter fun x => !(tablesD.map (·.1)).contains x.1) = [] := List.filter_eq_nil_iff.2 fun x hx => by rw [List.contains_iff_mem.2 (List.mem_map.2 ⟨x, hx, rfl⟩)]; simp
  have h : laidMet Tryz.prog tablesD (laidW os) := laidMet_layVars (w0 := handW os) (tablesD.map (·.1)) [] (by rw [e1]; rfl) (by rw [e1]; kernel_rfl) (by rw [e1]; kernel_rfl) (by rw [e2]; exact LaidIn.none)
  exact h.of_heap (by simp [World.memory, World.forCall, Input.heap])
theorem laidW_met (os : Os) (args : Array Value) : laidMetH Tryz.prog tables ((laidW os).forCall (fun _ _ => 0) ⟨#[], args, []⟩).memory :=
  laidMetH_of_parts (laidW_data os args) (by kernel_rfl)
end Go.Proofs.YtpnlgojbmjfhhaaGreatDoor
