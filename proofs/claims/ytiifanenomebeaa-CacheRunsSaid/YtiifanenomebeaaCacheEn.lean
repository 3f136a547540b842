/-
  A cache's entry: its cells, and the walks of counts, left and less. Conditions: times up to 2^40.
-/
import Derived.Test.YtiifanenomebeaaProg
import Derived.WalkKit
import Derived.Below
import Derived.WalkMore
import Derived.Lib.Hide
import Derived.Lib.Strings
import Derived.Lib.SmallJoins
import Derived.Deep.LoopGhost
import Derived.Deep.WholeRow
import Derived.Deep.AppendLies
import Derived.Deep.Heap
import Derived.Great.BuildSlice
import Derived.Lib.SlKept
import Derived.BigQuiet
namespace Go.Proofs.Ytiifanenomebeaa
open Go.RowKit

theorem ret_bool {a b : Bool} (h : a = b) : Ending.returned (.bool a) = .returned (.bool b) := by rw [h]
theorem ret_int {k : IntKind} {a b : Int} (h : a = b) : Ending.returned (.int k a) = .returned (.int k b) := by rw [h]
/-- an entry: its question, outcome, records (as a value, and what lies there), from when on and how long it counts -/
structure En where
  nm : ByteArray
  ty : Int
  out : Int
  rv : Value
  rn : Nat
  recs : List Value
  frm : Nat
  ttl : Nat
def En.cells (e : En) : List Value := [.string e.nm, .int .i64 e.ty, .int .i64 e.out, e.rv, .int .i64 e.frm, .int .i64 e.ttl]
def zE : En := ⟨⟨#[]⟩, 0, 0, .slice none 0 0, 0, [], 0, 0⟩
instance : Inhabited En := ⟨zE⟩
theorem En.len (e : En) : e.cells.length = 6 := rfl
def big : Nat := 1099511627776
/-- does it count at a time? -/
def cnt (now : Nat) (e : En) : Bool := decide (now < e.frm + e.ttl)
structure En.Fits (e : En) : Prop where
  frm : e.frm ≤ big
  ttl : e.ttl ≤ big
  one : ∀ u ∈ e.recs, u.oneCell' = true
theorem counts_e (nm : ByteArray) (ty out : Int) (rv : Value) (frm ttl now : Nat) (w : World) (h1 : frm ≤ big) (h2 : ttl ≤ big) (h3 : now ≤ big) :
    Calls Try.prog 21 #[.agg #[.string nm, .int .i64 ty, .int .i64 out, rv, .int .i64 frm, .int .i64 ttl], .int .i64 now] w fun e w' => e = .returned (.bool (decide (now < frm + ttl))) ∧ Below w.heap.size w w' := by
  unfold big at h1 h2 h3
  have HB : Hid (Below w.heap.size w (w.alloc (.cells #[.string nm, .int .i64 ty, .int .i64 out, rv, .int .i64 frm, .int .i64 ttl] 58))) := Lib.hid ((Below.refl _ w).alloc (Nat.le_refl _) _)
  by_cases c1 : now < frm
  · have HR : Hid (decide (now < frm + ttl) = true) := Lib.hid (decide_eq_true (by omega))
    go_enter Try.func21, Try.ntmps21
    go_wp2
    go_ret
    exact ⟨ret_bool HR.out.symm, HB.out⟩
  · obtain ⟨d, rfl⟩ : ∃ d, now = frm + d := ⟨now - frm, by omega⟩
    have hd : frm ≤ frm + d := by omega
    have HR : Hid ((decide ((frm : Int) + (d : Int) < (frm : Int)) || decide ((frm : Int) + (d : Int) - (frm : Int) < (ttl : Int))) = decide (frm + d < frm + ttl)) := Lib.hid (by rw [Bool.eq_iff_iff]; simp; omega)
    go_enter Try.func21, Try.ntmps21
    go_wp2
    go_ret
    exact ⟨ret_bool HR.out, HB.out⟩
theorem left_e (nm : ByteArray) (ty out : Int) (rv : Value) (frm ttl now : Nat) (w : World) (h1 : frm ≤ big) (h2 : ttl ≤ big) (h3 : now ≤ frm + ttl) :
    Calls Try.prog 29 #[.agg #[.string nm, .int .i64 ty, .int .i64 out, rv, .int .i64 frm, .int .i64 ttl], .int .i64 now] w fun e w' => e = .returned (.int .u64 ((frm + ttl - now : Nat) : Int)) ∧ Below w.heap.size w w' := by
  unfold big at h1 h2
  have HB : Hid (Below w.heap.size w (w.alloc (.cells #[.string nm, .int .i64 ty, .int .i64 out, rv, .int .i64 frm, .int .i64 ttl] 58))) := Lib.hid ((Below.refl _ w).alloc (Nat.le_refl _) _)
  have HR : Hid (((frm + ttl - now : Nat) : Int) = (frm : Int) + (ttl : Int) - (now : Int)) := Lib.hid (by omega)
  have h3' : (now : Int) ≤ (frm : Int) + (ttl : Int) := by omega
  go_enter Try.func29, Try.ntmps29
  go_wp2
  go_ret
  exact ⟨ret_int HR.out.symm, HB.out⟩
theorem less_e (ttl : Int) (ago : Nat) (w : World) (h0 : 0 ≤ ttl) (h1 : ttl ≤ big) (h2 : ago ≤ big) :
    Calls Try.prog 26 #[.int .i64 ttl, .int .i64 ago] w fun e w' => e = .returned (.int .i64 (max 0 (ttl - ago))) ∧ w = w' := by
  have h1' : ttl ≤ 1099511627776 := h1
  unfold big at h2
  clear h1
  by_cases c : ttl ≤ (ago : Int)
  · have HR : Hid (max 0 (ttl - (ago : Int)) = 0) := Lib.hid (by omega)
    go_enter Try.func26, Try.ntmps26
    go_wp2
    go_ret
    exact ⟨ret_int HR.out.symm, rfl⟩
  · have HR : Hid (max 0 (ttl - (ago : Int)) = ttl - (ago : Int)) := Lib.hid (by omega)
    have c' : (ago : Int) ≤ ttl := by omega
    go_enter Try.func26, Try.ntmps26
    go_wp2
    go_ret
    exact ⟨ret_int HR.out.symm, rfl⟩
end Go.Proofs.Ytiifanenomebeaa
