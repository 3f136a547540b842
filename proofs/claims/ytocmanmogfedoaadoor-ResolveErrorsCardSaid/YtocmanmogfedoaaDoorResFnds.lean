/-
  The walks of resolve.find at one and at two Whys around an error's number. Conditions: the block that it writes is an Errno's.
-/
import Derived.Test.YtocmanmogfedoaaDoorResRnd
namespace Go.Proofs.YtocmanmogfedoaaDoor
open Go.RowKit Go.Shelf Go.Stop Go.Extern.Stop Go.Extern
attribute [local go_sem] Oper.semAt_some

set_option maxRecDepth 100000 in
set_option maxHeartbeats 8000000 in
theorem find1_in (a p0 : Nat) (old n : Int) (w : World) (ha : w.heap[a]? = some (.cells #[.int .i64 old] 30 (0, 0))) (hp0 : w.cell? ⟨p0, 1, none⟩ = some (.iface 30 (.int .i64 n))) (N : Nat) (hN : 6 ≤ N) :
    CallsIn Fence.wide N Tryd.prog 15 #[.iface 33 (.pointer (some ⟨p0, 0, none⟩)), .pointer (some ⟨a, 0, none⟩)] w (FnPost a n w) := by
  have h1 : 1 ≤ N := by omega
  refine callsIn_of_wp_marks Tryd.func15 rfl trivial ?_ rfl
  simp only [Tryd.ntmps15, List.size_toArray, List.length_cons, List.length_nil, Nat.reduceAdd, Nat.reduceSub, Array.replicate_succ, Array.replicate_zero, List.push_toArray, List.append_toArray, List.nil_append, List.cons_append]
  have HR0 := Lib.hid (RwE.first w 33 (.pointer (some ⟨p0, 0, none⟩)))
  have HA := Lib.hid ha
  have HP := Lib.hid (And.intro True.intro (show w.cell? ⟨p0, 1, none⟩ = some (.iface 30 (.int .i64 n)) from hp0))
  clear ha hp0
  gi_wp2
  generalize (w.alloc (.cells #[.iface 33 (.pointer (some ⟨p0, 0, none⟩))] 25)).alloc (.cells #[.slice (some ⟨w.heap.size, 0, none⟩) 1 1] 73) = W0 at HR0 ⊢
  obtain ⟨Br, hBr⟩ : ∃ Br, Br = w.heap.size + 1 := ⟨_, rfl⟩
  obtain ⟨b0, hb0⟩ : ∃ b0, b0 = w.heap.size := ⟨_, rfl⟩
  rw [← hBr] at HR0 ⊢
  rw [← hb0] at HR0 ⊢
  have hBr : w.heap.size ≤ Br := by omega
  clear hb0
  refine wpIn_loop_rounds 2 ?_
  rw [roundsIn_succ]
  refine why_round N hN _ a p0 Br _ _ (4194304) [] _ 30 (.int .i64 n) _ _ _ _ _ _ _ _ _ _ _ _ _ _ _ _ _ _ _ _ _ _ _ _ _ _ _ _ _ _ _ _ _ w _ (by omega) (by omega) HP.out.2 hBr HR0.out (fun m hm => by cases hm) ?_
  intro W1 b1 c1 D0 u0_0 u0_1 u0_2 u0_3 u0_4 u0_5 u0_6 u0_7 u0_8 u0_9 u0_10 u0_11 u0_12 u0_13 u0_14 u0_15 u0_16 u0_17 u0_18 u0_19 u0_20 u0_21 u0_22 u0_23 u0_24 u0_25 u0_26 u0_27 u0_28 u0_29 u0_30 u0_31 u0_32 hD0 hlt0 hR1 hM1
  have HR1 := Lib.hid hR1
  clear hR1
  show Code.roundsIn _ _ _ _ _ 1 _ _
  rw [roundsIn_succ]
  refine num_round N hN _ a Br _ _ (4194304 - 1) n old [D0] _ _ _ _ _ _ _ _ _ _ _ _ _ _ _ _ _ _ _ _ _ _ _ _ _ _ _ _ _ _ _ _ _ _ w _ (by omega) HA.out hBr HR1.out hM1 ?_
  intro Y t ht hF hMs
  have HAL := heap_lt HA.out
  refine ⟨by simp, .inl ⟨_, _, rfl, run_takeDeferred (hMs D0 (by simp)), ?_⟩⟩
  exact ⟨_, results_tmp (fn := Tryd.f15) (t := 4) rfl _ _ _, by rw [ht]; exact hF.put hD0 HAL⟩
set_option maxRecDepth 100000 in
set_option maxHeartbeats 8000000 in
theorem find2_in (a p0 p1 : Nat) (old n : Int) (w : World) (ha : w.heap[a]? = some (.cells #[.int .i64 old] 30 (0, 0))) (hp0 : w.cell? ⟨p0, 1, none⟩ = some (.iface 33 (.pointer (some ⟨p1, 0, none⟩)))) (hp1 : w.cell? ⟨p1, 1, none⟩ = some (.iface 30 (.int .i64 n))) (N : Nat) (hN : 6 ≤ N) :
    CallsIn Fence.wide N Tryd.prog 15 #[.iface 33 (.pointer (some ⟨p0, 0, none⟩)), .pointer (some ⟨a, 0, none⟩)] w (FnPost a n w) := by
  have h1 : 1 ≤ N := by omega
  refine callsIn_of_wp_marks Tryd.func15 rfl trivial ?_ rfl
  simp only [Tryd.ntmps15, List.size_toArray, List.length_cons, List.length_nil, Nat.reduceAdd, Nat.reduceSub, Array.replicate_succ, Array.replicate_zero, List.push_toArray, List.append_toArray, List.nil_append, List.cons_append]
  have HR0 := Lib.hid (RwE.first w 33 (.pointer (some ⟨p0, 0, none⟩)))
  have HA := Lib.hid ha
  have HP := Lib.hid (And.intro True.intro (show w.cell? ⟨p0, 1, none⟩ = some (.iface 33 (.pointer (some ⟨p1, 0, none⟩))) ∧ w.cell? ⟨p1, 1, none⟩ = some (.iface 30 (.int .i64 n)) from ⟨hp0, hp1⟩))
  clear ha hp0 hp1
  gi_wp2
  generalize (w.alloc (.cells #[.iface 33 (.pointer (some ⟨p0, 0, none⟩))] 25)).alloc (.cells #[.slice (some ⟨w.heap.size, 0, none⟩) 1 1] 73) = W0 at HR0 ⊢
  obtain ⟨Br, hBr⟩ : ∃ Br, Br = w.heap.size + 1 := ⟨_, rfl⟩
  obtain ⟨b0, hb0⟩ : ∃ b0, b0 = w.heap.size := ⟨_, rfl⟩
  rw [← hBr] at HR0 ⊢
  rw [← hb0] at HR0 ⊢
  have hBr : w.heap.size ≤ Br := by omega
  clear hb0
  refine wpIn_loop_rounds 3 ?_
  rw [roundsIn_succ]
  refine why_round N hN _ a p0 Br _ _ (4194304) [] _ 33 (.pointer (some ⟨p1, 0, none⟩)) _ _ _ _ _ _ _ _ _ _ _ _ _ _ _ _ _ _ _ _ _ _ _ _ _ _ _ _ _ _ _ _ _ w _ (by omega) (by omega) HP.out.2.1 hBr HR0.out (fun m hm => by cases hm) ?_
  intro W1 b1 c1 D0 u0_0 u0_1 u0_2 u0_3 u0_4 u0_5 u0_6 u0_7 u0_8 u0_9 u0_10 u0_11 u0_12 u0_13 u0_14 u0_15 u0_16 u0_17 u0_18 u0_19 u0_20 u0_21 u0_22 u0_23 u0_24 u0_25 u0_26 u0_27 u0_28 u0_29 u0_30 u0_31 u0_32 hD0 hlt0 hR1 hM1
  have HR1 := Lib.hid hR1
  clear hR1
  show Code.roundsIn _ _ _ _ _ 2 _ _
  rw [roundsIn_succ]
  refine why_round N hN _ a p1 Br _ _ (4194304 - 1) [D0] _ 30 (.int .i64 n) _ _ _ _ _ _ _ _ _ _ _ _ _ _ _ _ _ _ _ _ _ _ _ _ _ _ _ _ _ _ _ _ _ w _ (by omega) (by omega) HP.out.2.2 hBr HR1.out hM1 ?_
  intro W2 b2 c2 D1 u1_0 u1_1 u1_2 u1_3 u1_4 u1_5 u1_6 u1_7 u1_8 u1_9 u1_10 u1_11 u1_12 u1_13 u1_14 u1_15 u1_16 u1_17 u1_18 u1_19 u1_20 u1_21 u1_22 u1_23 u1_24 u1_25 u1_26 u1_27 u1_28 u1_29 u1_30 u1_31 u1_32 hD1 hlt1 hR2 hM2
  have HR2 := Lib.hid hR2
  clear hR2
  show Code.roundsIn _ _ _ _ _ 1 _ _
  rw [roundsIn_succ]
  refine num_round N hN _ a Br _ _ (4194304 - 1 - 1) n old [D1, D0] _ _ _ _ _ _ _ _ _ _ _ _ _ _ _ _ _ _ _ _ _ _ _ _ _ _ _ _ _ _ _ _ _ _ w _ (by omega) HA.out hBr HR2.out hM2 ?_
  intro Y t ht hF hMs
  have HAL := heap_lt HA.out
  refine ⟨by simp, .inl ⟨_, _, rfl, run_takeDeferred (hMs D1 (by simp)), ?_⟩⟩
  refine ⟨by simp, .inl ⟨_, _, rfl, run_takeDeferred ((World.putObj_heap_other (by have := hlt1 D0 (by simp); omega)).trans (hMs D0 (by simp))), ?_⟩⟩
  exact ⟨_, results_tmp (fn := Tryd.f15) (t := 4) rfl _ _ _, by rw [ht]; exact (hF.put hD1 HAL).put hD0 HAL⟩
end Go.Proofs.YtocmanmogfedoaaDoor
