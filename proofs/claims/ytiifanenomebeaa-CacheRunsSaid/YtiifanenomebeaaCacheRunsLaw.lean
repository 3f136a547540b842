/- The walk of CacheRuns, out of its parts. -/
import Derived.Test.YtiifanenomebeaaCacheRunsS
import Derived.Test.YtiifanenomebeaaCacheRunsY
import Derived.Deep.CutRange
import Derived.Deep.CutBlock
import Derived.Deep.LoopGhost
namespace Go.Proofs.Ytiifanenomebeaa
open Go.RowKit Go.Lib
theorem cacheRuns_walk (s0 : Int) (A : Option Addr) (n c : Nat) (ls : List Cl) (w : World) (hn : ls.length = n) (hls : CallsIn w A ls) : Calls Try.prog 3 #[.int .i64 s0, .slice A n c] w fun e w' => e = .returned (.bool true) ∧ Below w.heap.size w w' :=
  cacheRuns_pack.2.2 (Lib.hid (cacheRuns_packF.2 (Lib.hid (cacheRuns_packG.2 (Lib.hid cacheRuns_yes))))) (Lib.hid (cacheRuns_packR.2 (Lib.hid cacheRuns_some))) s0 A n c ls w hn hls
end Go.Proofs.Ytiifanenomebeaa
