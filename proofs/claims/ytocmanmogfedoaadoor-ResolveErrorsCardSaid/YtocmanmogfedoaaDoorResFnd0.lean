/-
  The walk of resolve.find at an error's number. Conditions: the block that it writes is an Errno's.
-/
import Derived.Test.YtocmanmogfedoaaDoorResFind
namespace Go.Proofs.YtocmanmogfedoaaDoor
open Go.RowKit Go.Shelf Go.Stop Go.Extern.Stop Go.Extern
attribute [local go_sem] Oper.semAt_some

def FnPost (a : Nat) (n : Int) (w : World) (e : Ending) (w' : World) : Prop := e = .returned (.bool true) ∧ w'.heap[a]? = some (.cells #[.int .i64 n] 30 (0, 0)) ∧ w.grownBy w' (some a)
set_option maxRecDepth 100000 in
set_option maxHeartbeats 2000000 in
theorem find0_e (a : Nat) (old n : Int) (w : World) (ha : w.heap[a]? = some (.cells #[.int .i64 old] 30 (0, 0))) :
    Calls Tryd.prog 15 #[.iface 30 (.int .i64 n), .pointer (some ⟨a, 0, none⟩)] w (FnPost a n w) := by
  have HA := Lib.hid ha
  have halt := heap_lt ha
  have HAL := Lib.hid halt
  clear ha halt
  go_enter Tryd.func15, Tryd.ntmps15
  go_wp2
  refine wp_loop_rounds 1 ?_
  rw [rounds_succ]
  go_upto_region 5 with fail
  go_region
  have hb1 := (((Below.refl _ w).alloc (Nat.le_refl _) (.cells #[.iface 30 (.int .i64 n)] 25)).alloc (by simp) (.cells #[.slice (some ⟨w.heap.size, 0, none⟩) 0 1] 73)).drew
  have HB1 := Lib.hid hb1
  generalize ((w.alloc (.cells #[.iface 30 (.int .i64 n)] 25)).alloc (.cells #[.slice (some ⟨w.heap.size, 0, none⟩) 0 1] 73)).drew = W1 at HB1 ⊢
  clear hb1
  have HA1 := Lib.hid ((HB1.out.block _ HAL.out).trans HA.out)
  have hC : Calls Tryd.prog 26 #[.iface 30 (.int .i64 n), .pointer (some ⟨a, 0, none⟩)] W1 fun e w' => e = .returned (.bool true) ∧ w' = W1.setCell ⟨a, 0, none⟩ (.int .i64 n) :=
    isf_yes n ⟨a, 0, none⟩ (.int .i64 old) W1 ((cell_of_row _ a 0 _ _ _ HA1.out).trans rfl) (frozen_of_row W1 a 0 _ _ HA1.out)
  have HF : Hid (FnPost a n w (.returned (.bool true)) (W1.setCell ⟨a, 0, none⟩ (.int .i64 n))) := Lib.hid ⟨rfl, heap_setCell_same W1 a 0 _ _ (.int .i64 n) HA1.out, grown_trans (grown_below HB1.out) (grown_set W1 a 0 _)⟩
  clear HA1 HB1
  go_wp2_with fail
  refine hC.mono ?_
  rintro e w2 ⟨rfl, rfl⟩
  clear hC
  go_wp2_with fail
  go_ret
  exact HF.out
end Go.Proofs.YtocmanmogfedoaaDoor
