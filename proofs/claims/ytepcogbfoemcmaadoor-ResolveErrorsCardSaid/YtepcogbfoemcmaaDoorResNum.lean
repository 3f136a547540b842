/-
  The walk of resolve.Number at nil, at an error's number, and at one or two Whys around it. Conditions: each states its own.
-/
import Derived.Test.YtepcogbfoemcmaaDoorResDown
import Derived.Recover
import Derived.Defers
namespace Go.Proofs.YtepcogbfoemcmaaDoor
open Go.RowKit

theorem ncatch_e (p : Addr) (w : World) :
    CallsD Tryd.prog 14 #[.pointer (some p)] .returning w fun e u' w' => e = .returned (.tuple #[]) ∧ u' = .returning ∧ w' = w := by
  refine callsD_of_wpS Tryd.func14 rfl fun c₀ cs hu => ?_
  apply wpS_seq
  apply wpS_region
  simp [wpOpsS, go_sem, recoverD, hu, Tryd.ntmps14, Exit.thenS]
  refine wpS_cond (t := false) (by simp [Act.eval, Array.replicate]) ?_
  simp only [Bool.false_eq_true, if_false]
  refine wpS_of_wp (wp_skip ?_)
  cases c₀
  simp_all [bodyPostS, results, Tryd.results14]
set_option maxRecDepth 100000 in
theorem num_nil (w : World) : Calls Tryd.prog 7 #[.nilIface] w fun e w' => e = .returned (.int .i64 0) ∧ Below w.heap.size w w' := by
  have hmf : ∀ (fn : Fn) (first cap : Array Value) (w : World), (Instr.makeFunc fn first cap).run Tryd.prog w = .ok (.func fn first cap) w := fun _ _ _ _ => rfl
  go_enter_defers Tryd.func7, Tryd.ntmps7
  go_wp2
  refine leaves_cons (f := 14) (args := #[.pointer (some ⟨w.heap.size, 0, none⟩)]) (by simp) (by simp [go_sem]) ?_
  refine (ncatch_e ⟨w.heap.size, 0, none⟩ _).mono ?_
  rintro e u' w'' ⟨rfl, rfl, rfl⟩
  have HB9 : Below w.heap.size w (w.alloc (.cells #[.int .i64 0] 30)) := (Below.refl _ w).alloc (Nat.le_refl _) _
  simp [Leaves, settle, results, Tryd.results7, go_sem]
  exact HB9
set_option maxRecDepth 100000 in
set_option maxHeartbeats 2000000 in
theorem num_of (ty : TypeId) (x : Value) (n : Int) (w : World)
    (hf : ∀ W : World, Below w.heap.size w W → W.heap[w.heap.size]? = some (.cells #[.int .i64 0] 30 (0, 0)) → W.heap[w.heap.size + 1]? = some (.cells #[.slice none 0 0, .int .i64 2147483647, .int .i64 134217728, .int .i64 8388608] 51 (0, 0)) → Calls Tryd.prog 15 #[.pointer (some ⟨w.heap.size + 1, 0, none⟩), .iface ty x, .pointer (some ⟨w.heap.size, 0, none⟩)] W (FdsPost w.heap.size (w.heap.size + 1) n W)) :
    Calls Tryd.prog 7 #[.iface ty x] w fun e w' => e = .returned (.int .i64 n) ∧ Below w.heap.size w w' := by
  have hmf : ∀ (fn : Fn) (first cap : Array Value) (w : World), (Instr.makeFunc fn first cap).run Tryd.prog w = .ok (.func fn first cap) w := fun _ _ _ _ => rfl
  have hb0 : Below w.heap.size w ((w.alloc (.cells #[.int .i64 0] 30)).alloc (.cells #[.slice none 0 0, .int .i64 2147483647, .int .i64 134217728, .int .i64 8388608] 51)) := ((Below.refl _ w).alloc (Nat.le_refl _) _).alloc (by simp) _
  have ho1 : ((w.alloc (.cells #[.int .i64 0] 30)).alloc (.cells #[.slice none 0 0, .int .i64 2147483647, .int .i64 134217728, .int .i64 8388608] 51)).heap[w.heap.size + 1]? = some (.cells #[.slice none 0 0, .int .i64 2147483647, .int .i64 134217728, .int .i64 8388608] 51 (0, 0)) := by
    have := heap_alloc_last (w.alloc (.cells #[.int .i64 0] 30)) (.cells #[.slice none 0 0, .int .i64 2147483647, .int .i64 134217728, .int .i64 8388608] 51)
    rwa [World.size_alloc] at this
  have ho0 : ((w.alloc (.cells #[.int .i64 0] 30)).alloc (.cells #[.slice none 0 0, .int .i64 2147483647, .int .i64 134217728, .int .i64 8388608] 51)).heap[w.heap.size]? = some (.cells #[.int .i64 0] 30 (0, 0)) :=
    (Below.heap_alloc _ _ _ (by simp)).trans (heap_alloc_last w _)
  have hcall := hf _ hb0 ho0 ho1
  have HB0 := Lib.hid hb0
  clear hf hb0 ho0 ho1
  go_enter_defers Tryd.func7, Tryd.ntmps7
  go_wp2_with fail
  refine hcall.mono ?_
  rintro e w3 ⟨rfl, hg3, hw3⟩
  have HB3 := Lib.hid (HB0.out.trans ⟨hw3.os, hw3.tape, hw3.output, hw3.size, fun k hk => hw3.block k (by have := HB0.out.size; omega) (by omega) (by omega)⟩)
  have HG3 := Lib.hid hg3
  have c3 := (cell_of_row _ w.heap.size 0 _ _ _ hg3).trans (rfl : _ = some (Value.int .i64 n))
  have f3 := frozen_of_row w3 w.heap.size 0 _ _ hg3
  clear hcall hg3 hw3 HB0
  go_wp2_with fail
  refine leaves_cons (f := 14) (args := #[.pointer (some ⟨w.heap.size, 0, none⟩)]) (by simp) (by simp [go_sem]) ?_
  refine (ncatch_e ⟨w.heap.size, 0, none⟩ _).mono ?_
  rintro e u' w'' ⟨rfl, rfl, rfl⟩
  have hc9 : (w3.setCell ⟨w.heap.size, 0, none⟩ (.int .i64 n)).cell? ⟨w.heap.size, 0, none⟩ = some (.int .i64 n) := World.cell?_setCell_same w3 _ _ c3
  have HB9 : Below w.heap.size w (w3.setCell ⟨w.heap.size, 0, none⟩ (.int .i64 n)) := HB3.out.setCell (p := ⟨w.heap.size, 0, none⟩) (Nat.le_refl _) _
  simp [Leaves, settle, results, Tryd.results7, go_sem, hc9]
  exact HB9
theorem cell_lt8 {w : World} {p : Addr} {v : Value} (h : w.cell? p = some v) : p.block < w.heap.size := World.block_lt_of_cell? w _ h
theorem number0 (e : Int) (W : World) : Calls Tryd.prog 7 #[.iface 30 (.int .i64 e)] W fun ev W' => ev = .returned (.int .i64 e) ∧ Below W.heap.size W W' :=
  num_of _ _ e W (fun W' _ ha hS => sfind0_e W.heap.size (W.heap.size + 1) (by omega) _ _ _ _ 0 e (by omega) (by omega) W' ha hS)
theorem number1 (p : Nat) (e : Int) (W : World) (hc : W.cell? ⟨p, 1, none⟩ = some (.iface 30 (.int .i64 e))) :
    Calls Tryd.prog 7 #[.iface 33 (.pointer (some ⟨p, 0, none⟩))] W fun ev W' => ev = .returned (.int .i64 e) ∧ Below W.heap.size W W' :=
  num_of _ _ e W (fun W' hb ha hS => sfind1_e W.heap.size (W.heap.size + 1) p (by omega) _ _ _ _ 0 e (by omega) (by omega) W' ha hS ((hb.cell (cell_lt8 hc)).trans hc) (by have := cell_lt8 hc; simp only at this; omega))
theorem number2 (q p : Nat) (e : Int) (W : World) (hq : W.cell? ⟨q, 1, none⟩ = some (.iface 33 (.pointer (some ⟨p, 0, none⟩)))) (hc : W.cell? ⟨p, 1, none⟩ = some (.iface 30 (.int .i64 e))) :
    Calls Tryd.prog 7 #[.iface 33 (.pointer (some ⟨q, 0, none⟩))] W fun ev W' => ev = .returned (.int .i64 e) ∧ Below W.heap.size W W' :=
  num_of _ _ e W (fun W' hb ha hS => sfind2_e W.heap.size (W.heap.size + 1) q p (by omega) _ _ _ _ 0 e (by omega) (by omega) W' ha hS ((hb.cell (cell_lt8 hq)).trans hq) (by have := cell_lt8 hq; simp only at this; omega) ((hb.cell (cell_lt8 hc)).trans hc) (by have := cell_lt8 hc; simp only at this; omega))
end Go.Proofs.YtepcogbfoemcmaaDoor
