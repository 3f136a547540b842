/-
  What every claim of this seat begins with: the tables that the rows list, and that the library's variable MaxLen holds some number in every world in which a call begins. No condition.
-/
import Derived.Test.YtmijoidogjablaaDoorCards
import Derived.Test.YtmijoidogjablaaDoorTie
import Derived.Test.YtmijoidogjablaaDoorSplit
import Derived.WalkKit
import Derived.ProofKit
import Derived.OpenShut
import Derived.Lay
import Derived.Deep.DeepHandedRow
import Derived.Shelf.Vars
import Derived.SevenTiedAt
namespace Go.Proofs.YtmijoidogjablaaDoor
open Go.ChangeShapes Go.WideShapes Go.ChangeAt Go.RowKit

theorem own : ownKnob Tryd.prog.godebug = none := by kernel_rfl
def tables : List (String × DataW Unit) := Rows.msgBackRow.laid
theorem env_of_shape {W : World} (h : W.ShapedOpen Tryd.prog) : Env W := by
  obtain ⟨m, hm⟩ := cell_of_shapedOpen_int (k := .i64) (t := 3) (zero := #[.int .i64 0]) (g := 0) h (by decide +kernel) (by kernel_rfl) rfl (by kernel_rfl) (by kernel_rfl) Tryd.underlying3
  refine ⟨?_, m, hm⟩
  rcases Nat.lt_or_ge 0 W.heap.size with h' | h'
  · exact h'
  · exfalso
    unfold World.cell? at hm
    rw [Array.getElem?_eq_none h'] at hm
    simp at hm
end Go.Proofs.YtmijoidogjablaaDoor
