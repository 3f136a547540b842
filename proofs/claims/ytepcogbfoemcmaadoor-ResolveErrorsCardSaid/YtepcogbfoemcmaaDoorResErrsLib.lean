/-
  What ResolveErrors' walk goes by: Number at errors that are known, and what stays of a Why. Conditions: each states its own.
-/
import Derived.Test.YtepcogbfoemcmaaDoorResErr
import Derived.Test.YtepcogbfoemcmaaDoorResIs
import Derived.Test.YtepcogbfoemcmaaDoorResTxt
import Derived.Test.YtepcogbfoemcmaaDoorResNum
import Derived.Test.YtepcogbfoemcmaaDoorResEf
namespace Go.Proofs.YtepcogbfoemcmaaDoor
open Go.RowKit

/-- a Why and its error, in a later world -/
structure Rw (w : World) (p : Nat) (s : ByteArray) (e : Int) (W : World) : Prop where
  below : Below w.heap.size w W
  h0 : W.cell? ⟨p, 0, none⟩ = some (.string s)
  h1 : W.cell? ⟨p, 1, none⟩ = some (.iface 30 (.int .i64 e))
theorem Rw.first {w w1 w2 : World} {p : Nat} {s : ByteArray} {e : Int} (h : Below w.heap.size w w1) (hb : Below w1.heap.size w1 w2) (hp : w2.heap[p]? = some (.cells #[.string s, .iface 30 (.int .i64 e)] 38 (0, 0))) : Rw w p s e w2 :=
  ⟨h.trans (hb.mono h.size), (cell_of_row _ p 0 _ _ _ hp).trans rfl, (cell_of_row _ p 1 _ _ _ hp).trans rfl⟩
theorem Rw.to {w W W' : World} {p : Nat} {s : ByteArray} {e : Int} (h : Rw w p s e W) (hb : Below W.heap.size W W') : Rw w p s e W' :=
  ⟨h.below.trans (hb.mono h.below.size), (hb.cell (cell_lt h.h0)).trans h.h0, (hb.cell (cell_lt h.h1)).trans h.h1⟩
theorem Rw.alloc {w W : World} {p : Nat} {s : ByteArray} {e : Int} (h : Rw w p s e W) (o : Obj) : Rw w p s e (W.alloc o) := h.to ((Below.refl _ W).alloc (Nat.le_refl _) o)
theorem Rw.set {w W : World} {p B : Nat} {s : ByteArray} {e : Int} (h : Rw w p s e W) (hB : w.heap.size ≤ B) (hne : p ≠ B) (v : Value) : Rw w p s e (W.setCell ⟨B, 0, none⟩ v) :=
  ⟨h.below.setCell (p := ⟨B, 0, none⟩) hB _, (World.cell?_setCell_other W _ _ _ (fun e => hne (by injection e with e; exact e.symm))).trans h.h0, (World.cell?_setCell_other W _ _ _ (fun e => hne (by injection e with e; exact e.symm))).trans h.h1⟩
theorem xl_mErr (v : Value) (w : World) : (Go.method 261 33 v "Error").run Tryd.prog w = .ok (68, v) w := by kernel_rfl
theorem why_text (e : Int) (he : OnN e) (p : Nat) (s : ByteArray) (w : World) (h0 : w.cell? ⟨p, 0, none⟩ = some (.string s)) (h1 : w.cell? ⟨p, 1, none⟩ = some (.iface 30 (.int .i64 e))) (hs : s.size ≤ 300) :
    Calls Tryd.prog 68 #[.pointer (some ⟨p, 0, none⟩)] w fun ev w' => ev = .returned (.string (s ++ ⟨#[58, 32]⟩ ++ errT e)) ∧ Below w.heap.size w w' :=
  whyE p (.int .i64 e) s (errT e) w h0 h1 hs (by have := errT_size e; omega) (fun W => textE (.int .i64 e) (errT e) W (fun W' => errno_e e he W'))
end Go.Proofs.YtepcogbfoemcmaaDoor
