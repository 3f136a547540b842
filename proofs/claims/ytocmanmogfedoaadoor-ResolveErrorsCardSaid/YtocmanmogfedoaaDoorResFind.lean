/-
  The walks of resolve.is, resolve.within and slices.Backward at errors, and of resolve.find at an error's number and at one or two Whys around it. Conditions: the cells that each states.
-/
import Derived.RangeFuncNested
import Derived.RangeFuncBound
import Derived.RangeFuncBox
import Derived.RangeFuncCalls
import Derived.RangeFuncLeaves
import Derived.Shelf.Abstract
import Derived.Shelf.RegionOpen
import Derived.OwnWalkIn
import Derived.TacticsInMore
import Derived.LoopNIn
import Derived.LoopIn
import Derived.Maps.AppendAt
import Derived.Stop.Asserts
import Derived.Test.YtocmanmogfedoaaDoorResFit
namespace Go.Proofs.YtocmanmogfedoaaDoor
open Go.RowKit Go.Shelf Go.Stop Go.Extern.Stop Go.Extern
attribute [local go_sem] Oper.semAt_some

theorem xf_mUnw (v : Value) (w : World) : (Go.method 252 33 v "Unwrap").run Tryd.prog w = .ok (11, v) w := by kernel_rfl
theorem xf_noAs (v : Value) (xT : TypeId) (w : World) : (Instr.typeAssert (.iface 33 v) xT 89 true).run Tryd.prog w = .ok (.tuple #[.nilIface, .bool false]) w := run_typeAssert_lacksB Tryd.underlying89 (by kernel_rfl) (by kernel_rfl) v xT w
theorem xf_hasUnw (v : Value) (xT : TypeId) (w : World) : (Instr.typeAssert (.iface 33 v) xT 84 true).run Tryd.prog w = .ok (.tuple #[.iface 33 v, .bool true]) w := run_typeAssert_hasB Tryd.underlying84 (by kernel_rfl) v xT w
theorem xf_isErrno (n : Int) (xT : TypeId) (w : World) : (Instr.typeAssert (.iface 30 (.int .i64 n)) xT 30 true).run Tryd.prog w = .ok (.tuple #[.int .i64 n, .bool true]) w := by kernel_rfl
theorem xf_noErrno (v : Value) (xT : TypeId) (w : World) : (Instr.typeAssert (.iface 33 v) xT 30 true).run Tryd.prog w = .ok (.tuple #[.int .i64 0, .bool false]) w := by kernel_rfl
theorem isf_yes (n : Int) (t : Addr) (old : Value) (w : World) (ht : w.cell? t = some old) (hf : w.frozen? t = false) : Calls Tryd.prog 26 #[.iface 30 (.int .i64 n), .pointer (some t)] w fun e w' => e = .returned (.bool true) ∧ w' = w.setCell t (.int .i64 n) := by
  have z0 := xf_isErrno
  go_enter Tryd.func26, Tryd.ntmps26
  go_wp2
  go_ret
  exact ⟨rfl, rfl⟩
theorem isf_no (p : Nat) (t : Addr) (w : World) : Calls Tryd.prog 26 #[.iface 33 (.pointer (some ⟨p, 0, none⟩)), .pointer (some t)] w fun e w' => e = .returned (.bool false) ∧ w = w' := by
  have z0 := xf_noErrno
  have z1 := xf_noAs
  go_enter Tryd.func26, Tryd.ntmps26
  go_wp2
  go_ret
  exact ⟨rfl, rfl⟩
set_option maxRecDepth 100000 in
theorem within_e (p : Nat) (ty : TypeId) (x : Value) (w : World) (hp : w.cell? ⟨p, 1, none⟩ = some (.iface ty x)) : Calls Tryd.prog 27 #[.iface 33 (.pointer (some ⟨p, 0, none⟩))] w fun e w' => e = .returned (.slice (some ⟨w.heap.size, 0, none⟩) 1 1) ∧ w' = w.alloc (.cells #[.iface ty x] 25) := by
  have z0 := xf_mUnw
  have z1 := xf_hasUnw
  go_enter Tryd.func27, Tryd.ntmps27
  go_wp2
  go_ret
  exact ⟨rfl, rfl⟩
/-- slices.Backward of one error, as it is ranged over: that one -/
def encB (ty : TypeId) (x : Value) : Unit → Array Value := fun _ => #[.int .i64 0, .iface ty x]
set_option maxRecDepth 100000 in
set_option maxHeartbeats 2000000 in
theorem back1_in (n : Nat) (hn : 1 ≤ n) (l Bs b : Nat) (ty : TypeId) (x : Value) (J Jx : List Unit → World → Prop) (W : World)
    (hY : ∀ pre u W1, J pre W1 → pre.length < 1 → YieldAt Fence.wide (n - 1) Tryd.prog l (encB ty x u) W1 fun e W' =>
      (e = .returned (.bool true) ∧ J (pre ++ [u]) W' ∧ Below 0 W1 W') ∨ (e = .returned (.bool false) ∧ Jx (pre ++ [u]) W'))
    (hBs : W.cell? ⟨Bs, 0, none⟩ = some (.slice (some ⟨b, 0, none⟩) 1 1)) (hc : W.cell? ⟨b, 0, none⟩ = some (.iface ty x)) (h0 : J [] W) :
    CallsIn Fence.wide n Tryd.prog 36 #[.func (.yield l) #[] #[], .pointer (some ⟨Bs, 0, none⟩)] W fun e W' => (∃ v, e = .returned v) ∧
      ((∃ ys, ys = [()] ∧ J ys W') ∨ (∃ pre, pre = [()] ∧ Jx pre W')) := by
  have HY := Lib.hid hY
  have HJ0 := Lib.hid h0
  have HBS := Lib.hid hBs
  have HC := Lib.hid hc
  clear hY h0 hc
  refine callsIn_of_wp Tryd.func36 rfl trivial ?_ rfl
  simp only [Tryd.ntmps36, List.size_toArray, List.length_cons, List.length_nil, Nat.reduceAdd, Nat.reduceSub, Array.replicate_succ, Array.replicate_zero, List.push_toArray, List.append_toArray, List.nil_append, List.cons_append]
  gi_wp2
  clear hBs
  gi_loopw [3] (fun i wr => (i = .int .i64 0 ∧ Hid (J [] wr ∧ wr = W)) ∨ (i = .int .i64 (-1) ∧ Hid (J [()] wr))) (fun i _ => (intOf i + 1).toNat)
  case atStart => exact .inl ⟨rfl, Lib.hid ⟨HJ0.out, rfl⟩⟩
  case round =>
    rcases hrel with ⟨rfl, HJ⟩ | ⟨rfl, HJ⟩
    · obtain ⟨hj, rfl⟩ := HJ.out
      obtain ⟨fn, tmps, assign, body, hy, hR⟩ := HY.out _ () _ hj (by simp)
      dsimp only [encB] at hy
      have hBs := HBS.out
      have hc := HC.out
      clear hj HJ HJ0
      gi_wp2
      refine hR.mono ?_
      rintro e W3 (⟨rfl, hJ3, hk3⟩ | ⟨rfl, hJx3⟩)
      · have HJ3 := Lib.hid hJ3
        clear hJ3 hBs hc
        gi_wp2
        go_roundw
        case rel => exact .inr ⟨rfl, HJ3⟩
        case measure => simp [intOf]
      · have HJ3 := Lib.hid hJx3
        clear hJx3
        gi_wp2
        refine bodyPost_ret (results_none rfl _ _ _) rfl ?_
        exact ⟨⟨_, rfl⟩, .inr ⟨_, rfl, HJ3.out⟩⟩
    · gi_wp2
      go_end0
      exact ⟨⟨_, rfl⟩, .inl ⟨_, rfl, HJ.out⟩⟩
theorem back_e (A : Option Addr) (n c : Nat) (w : World) : Calls Tryd.prog 28 #[.slice A n c] w fun e w' => e = .returned (.func (.func 36) #[] #[.pointer (some ⟨w.heap.size, 0, none⟩)]) ∧ w' = w.alloc (.cells #[.slice A n c] 73) := by
  go_enter Tryd.func28, Tryd.ntmps28
  go_wp2
  go_ret
  exact ⟨rfl, rfl⟩
theorem back_stops (n : Nat) (hn : 1 ≤ n) (Bs b : Nat) (ty : TypeId) (x : Value) (w : World) (hlt : Bs < w.heap.size) (hbl : b < w.heap.size)
    (hBs : w.cell? ⟨Bs, 0, none⟩ = some (.slice (some ⟨b, 0, none⟩) 1 1)) (hc : w.cell? ⟨b, 0, none⟩ = some (.iface ty x)) :
    SeqStopsK Fence.wide n Tryd.prog 36 #[.pointer (some ⟨Bs, 0, none⟩)] (encB ty x) (Below 0) (fun ys => ys = [()]) (fun pre => pre = [()]) 1 w := fun l J Jx W hW _ _ hY h0 =>
  back1_in n hn l Bs b ty x J Jx W hY ((hW.cell (p := ⟨Bs, 0, none⟩) hlt).trans hBs) ((hW.cell (p := ⟨b, 0, none⟩) hbl).trans hc) h0
end Go.Proofs.YtocmanmogfedoaaDoor
