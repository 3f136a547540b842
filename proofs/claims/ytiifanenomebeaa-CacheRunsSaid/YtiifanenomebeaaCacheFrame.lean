/-
  What every claim of this seat begins with. No condition.
-/
import Derived.Test.YtiifanenomebeaaRows
import Derived.WalkKit
import Derived.ProofKit
namespace Go.Proofs.Ytiifanenomebeaa
open Go.RowKit

theorem ownS : ownKnob Try.prog.godebug = none := by kernel_rfl
end Go.Proofs.Ytiifanenomebeaa
