/-
  What ResolveErrors' walk goes by: Number at errors that are known, and what stays of a Why. Conditions: each states its own.
-/
import Derived.Test.YtocmanmogfedoaaDoorResErr
import Derived.Test.YtocmanmogfedoaaDoorResIs
import Derived.Test.YtocmanmogfedoaaDoorResTxt
import Derived.Test.YtocmanmogfedoaaDoorResNum
import Derived.Test.YtocmanmogfedoaaDoorResEf
import Derived.Test.YtocmanmogfedoaaDoorResFnds
namespace Go.Proofs.YtocmanmogfedoaaDoor
open Go.RowKit

theorem number0 (e : Int) (W : World) : Calls Tryd.prog 7 #[.iface 30 (.int .i64 e)] W fun ev W' => ev = .returned (.int .i64 e) ∧ Below W.heap.size W W' :=
  num_of _ _ e W (fun W' _ hg => find0_e W.heap.size 0 e W' hg)
theorem number1 (p : Nat) (e : Int) (W : World) (hc : W.cell? ⟨p, 1, none⟩ = some (.iface 30 (.int .i64 e))) :
    Calls Tryd.prog 7 #[.iface 33 (.pointer (some ⟨p, 0, none⟩))] W fun ev W' => ev = .returned (.int .i64 e) ∧ Below W.heap.size W W' :=
  num_of _ _ e W (fun W' hb hg => callsIn_wide.1 (find1_in W.heap.size p 0 e W' hg ((hb.cell (cell_lt hc)).trans hc) 6 (Nat.le_refl _)))
theorem number2 (q p : Nat) (e : Int) (W : World) (hq : W.cell? ⟨q, 1, none⟩ = some (.iface 33 (.pointer (some ⟨p, 0, none⟩)))) (hc : W.cell? ⟨p, 1, none⟩ = some (.iface 30 (.int .i64 e))) :
    Calls Tryd.prog 7 #[.iface 33 (.pointer (some ⟨q, 0, none⟩))] W fun ev W' => ev = .returned (.int .i64 e) ∧ Below W.heap.size W W' :=
  num_of _ _ e W (fun W' hb hg => callsIn_wide.1 (find2_in W.heap.size q p 0 e W' hg ((hb.cell (cell_lt hq)).trans hq) ((hb.cell (cell_lt hc)).trans hc) 6 (Nat.le_refl _)))
/-- a Why and its error, in a later world -/
structure Rw (w : World) (p : Nat) (s : ByteArray) (e : Int) (W : World) : Prop where
  below : Below w.heap.size w W
  h0 : W.cell? ⟨p, 0, none⟩ = some (.string s)
  h1 : W.cell? ⟨p, 1, none⟩ = some (.iface 30 (.int .i64 e))
theorem Rw.first {w w1 w2 : World} {p : Nat} {s : ByteArray} {e : Int} (h : Below w.heap.size w w1) (hb : Below w1.heap.size w1 w2) (hp : w2.heap[p]? = some (.cells #[.string s, .iface 30 (.int .i64 e)] 38 (0, 0))) : Rw w p s e w2 :=
  ⟨h.trans (hb.mono h.size), (cell_of_row _ p 0 _ _ _ hp).trans rfl, (cell_of_row _ p 1 _ _ _ hp).trans rfl⟩
theorem Rw.to {w W W' : World} {p : Nat} {s : ByteArray} {e : Int} (h : Rw w p s e W) (hb : Below W.heap.size W W') : Rw w p s e W' :=
  ⟨h.below.trans (hb.mono h.below.size), (hb.cell (cell_lt h.h0)).trans h.h0, (hb.cell (cell_lt h.h1)).trans h.h1⟩
theorem Rw.alloc {w W : World} {p : Nat} {s : ByteArray} {e : Int} (h : Rw w p s e W) (o : Obj) : Rw w p s e (W.alloc o) := h.to ((Below.refl _ W).alloc (Nat.le_refl _) o)
theorem Rw.set {w W : World} {p B : Nat} {s : ByteArray} {e : Int} (h : Rw w p s e W) (hB : w.heap.size ≤ B) (hne : p ≠ B) (v : Value) : Rw w p s e (W.setCell ⟨B, 0, none⟩ v) :=
  ⟨h.below.setCell (p := ⟨B, 0, none⟩) hB _, (World.cell?_setCell_other W _ _ _ (fun e => hne (by injection e with e; exact e.symm))).trans h.h0, (World.cell?_setCell_other W _ _ _ (fun e => hne (by injection e with e; exact e.symm))).trans h.h1⟩
theorem xl_mErr (v : Value) (w : World) : (Go.method 252 33 v "Error").run Tryd.prog w = .ok (69, v) w := by kernel_rfl
theorem why_text (e : Int) (he : OnN e) (p : Nat) (s : ByteArray) (w : World) (h0 : w.cell? ⟨p, 0, none⟩ = some (.string s)) (h1 : w.cell? ⟨p, 1, none⟩ = some (.iface 30 (.int .i64 e))) (hs : s.size ≤ 300) :
    Calls Tryd.prog 69 #[.pointer (some ⟨p, 0, none⟩)] w fun ev w' => ev = .returned (.string (s ++ ⟨#[58, 32]⟩ ++ errT e)) ∧ Below w.heap.size w w' :=
  whyE p (.int .i64 e) s (errT e) w h0 h1 hs (by have := errT_size e; omega) (fun W => textE (.int .i64 e) (errT e) W (fun W' => errno_e e he W'))
end Go.Proofs.YtocmanmogfedoaaDoor
