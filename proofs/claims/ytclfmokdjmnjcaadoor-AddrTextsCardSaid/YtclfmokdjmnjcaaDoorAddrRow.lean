/-
  An address that lies in a block of its own; two addresses held against one another. Conditions: sixteen bytes.
-/
import Derived.Test.YtclfmokdjmnjcaaDoorAddrV4
namespace Go.Proofs.YtclfmokdjmnjcaaDoor
open Go.RowKit

/-- block g holds this address -/
def Row (w : World) (g : Nat) (cs : Array Value) : Prop := w.heap[g]? = some (.cells cs 23 (0, 0))
theorem Row.below {w w' : World} {g : Nat} {cs : Array Value} (h : Row w g cs) (hb : Below w.heap.size w w') : Row w' g cs := (hb.block g (heap_lt h)).trans h
theorem Row.alloc {w : World} {g : Nat} {cs : Array Value} (h : Row w g cs) (o : Obj) : Row (w.alloc o) g cs := h.below ((Below.refl _ w).alloc (Nat.le_refl _) o)
theorem Row.new (w : World) (cs : Array Value) : Row (w.alloc (.cells cs 23)) w.heap.size cs := heap_alloc_last w _
theorem run_eq_addr (W : World) {x y : List UInt8} (hx : x.length = 16) (hy : y.length = 16) : (Op.equalIn 10000 23 (.agg (bvs x).toArray) (.agg (bvs y).toArray)).run Tryd.prog W = .ok (x == y) W := eq_addr 9998 W hx hy
end Go.Proofs.YtclfmokdjmnjcaaDoor
