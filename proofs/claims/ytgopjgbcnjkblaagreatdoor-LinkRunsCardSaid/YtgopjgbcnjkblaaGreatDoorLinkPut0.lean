/-
  What a Put into a cache without entries calls: IndexFunc, DeleteFunc, Clone, Expire, find; and Len, and the table's Cache. Conditions: each states its own.
-/
import Derived.Test.YtgopjgbcnjkblaaGreatDoorLinkFit
import Derived.Deep.RegionHeld3
import Derived.Laws.OwnMore
namespace Go.Proofs.YtgopjgbcnjkblaaGreatDoor
open Go.RowKit Go.Lib

set_option maxRecDepth 100000 in
theorem index0_e (f : Value) (w : World) : Calls Tryz.prog 53 #[.slice none 0 0, f] w fun e w' => e = .returned (.int .i64 (-1)) ∧ w = w' := by
  go_enter Tryz.func53, Tryz.ntmps53
  go_wp2
  refine wp_loop_rounds 1 ?_
  rw [rounds_succ]
  go_wp2
  go_ret
  exact ⟨rfl, rfl⟩
set_option maxRecDepth 100000 in
theorem delete0_e (f : Value) (w : World) : Calls Tryz.prog 50 #[.slice none 0 0, f] w fun e w' => e = .returned (.slice none 0 0) ∧ w = w' := by
  go_enter Tryz.func50, Tryz.ntmps50
  go_wp2_with fail
  refine (index0_e _ _).mono ?_; rintro e w1 ⟨rfl, rfl⟩
  go_wp2
  go_ret
  exact ⟨rfl, rfl⟩
set_option maxRecDepth 100000 in
theorem cloneR0_e (w : World) : Calls Tryz.prog 38 #[.slice none 0 0] w fun e w' => e = .returned (.slice none 0 0) ∧ w = w' := by
  have q41 : ∀ (w : World) (a : Option Addr) (n c n' c' : Nat), (binOp .eql 74 (.slice a n c) (.slice none n' c')).run Tryz.prog w = .ok (.bool a.isNone) w := fun w a n c n' c' => Lib.run_eql_slice_nil w _ _ a n c n' c' Tryz.underlying74
  go_enter Tryz.func38, Tryz.ntmps38
  go_wp2
  go_ret
  exact ⟨rfl, rfl⟩
/-- a cache of 16 without entries -/
abbrev C16 (w : World) (C : Nat) : Prop := w.heap[C]? = some (.cells #[.int .i64 16, .slice none 0 0] 67 (0, 0))
set_option maxRecDepth 100000 in
theorem find0_e {C : Nat} {w : World} (h : C16 w C) (qn : ByteArray) (qt : Int) : Calls Tryz.prog 35 #[.pointer (some ⟨C, 0, none⟩), .agg #[.string qn, .int .i64 qt]] w fun e w' => e = .returned (.int .i64 (-1)) ∧ Below w.heap.size w w' := by
  have hb : Below w.heap.size w (w.alloc (.cells #[.string qn, .int .i64 qt] 52)) := (Below.refl _ w).alloc (Nat.le_refl _) _
  have hc := cell_of_row _ C 1 _ _ _ ((hb.block C (heap_ltk h)).trans h)
  simp only [List.getElem?_toArray, List.getElem?_cons_succ, List.getElem?_cons_zero] at hc
  have HB := Lib.hid hb
  clear hb
  go_enter Tryz.func35, Tryz.ntmps35
  go_wp2_with fail
  refine (index0_e _ _).mono ?_; rintro e w1 ⟨rfl, rfl⟩
  go_wp2
  go_ret
  exact ⟨rfl, HB.out⟩
set_option maxRecDepth 100000 in
theorem expire0_e {C : Nat} {w : World} (h : C16 w C) (now : Int) : Calls Tryz.prog 34 #[.pointer (some ⟨C, 0, none⟩), .int .i64 now] w fun e w' => e = .returned (.tuple #[]) ∧ w.grownBy w' (some C) ∧ C16 w' C := by
  have hb : Below w.heap.size w (w.alloc (.cells #[.int .i64 now] 3)) := (Below.refl _ w).alloc (Nat.le_refl _) _
  have ho := (hb.block C (heap_ltk h)).trans h
  have hc := cell_of_row _ C 1 _ _ _ ho
  have hf := frozen_of_row _ C 1 _ _ ho
  simp only [List.getElem?_toArray, List.getElem?_cons_succ, List.getElem?_cons_zero] at hc
  have HG := Lib.hid (grown_trans (grown_of_below (some C) hb) (grown_set (w.alloc (.cells #[.int .i64 now] 3)) C 1 (.slice none 0 0)))
  have HO : Hid (C16 ((w.alloc (.cells #[.int .i64 now] 3)).setCell ⟨C, 1, none⟩ (.slice none 0 0)) C) := Lib.hid (by simpa using heap_setCell_same _ C 1 _ _ (.slice none 0 0) ho)
  clear hb ho
  go_enter Tryz.func34, Tryz.ntmps34
  go_wp2_with fail
  refine (delete0_e _ _).mono ?_; rintro e w1 ⟨rfl, rfl⟩
  go_wp2
  go_end0
  exact ⟨rfl, HG.out, HO.out⟩
set_option maxRecDepth 100000 in
theorem len1_e {C : Nat} {w : World} {A : Option Addr} {n c : Nat} (h : w.heap[C]? = some (.cells #[.int .i64 16, .slice A n c] 67 (0, 0))) : Calls Tryz.prog 14 #[.pointer (some ⟨C, 0, none⟩)] w fun e w' => e = .returned (.int .i64 n) ∧ w = w' := by
  have hc := cell_of_row w C 1 _ _ _ h
  simp only [List.getElem?_toArray, List.getElem?_cons_succ, List.getElem?_cons_zero] at hc
  clear h
  go_enter Tryz.func14, Tryz.ntmps14
  go_wp2
  go_ret
  exact ⟨rfl, rfl⟩
set_option maxRecDepth 100000 in
theorem cache_yes {base T last k : Nat} {w : World} {ss : List Sl} {s : Sl} (h : TAt base w T ss last) (hk : ss[k]? = some s) (hl : s.live = true) : Calls Tryz.prog 13 #[.pointer (some ⟨T, 0, none⟩), .int .i64 k] w fun e w' => e = .returned (.pointer s.ca) ∧ w = w' := by
  have hk4 : k < 4 := by have := (List.getElem?_eq_some_iff.1 hk).1; rw [h.four] at this; exact this
  have hlv := lives_in T k true w hk4 (by have := h.slot hk (j := 0) (v := .bool s.live) rfl; rw [hl] at this; exact this)
  have hc := h.slot hk (j := 7) (v := .pointer s.ca) rfl
  clear h
  go_enter Tryz.func13, Tryz.ntmps13
  go_wp2_with fail
  refine hlv.mono ?_; rintro e w1 ⟨rfl, rfl⟩
  clear hlv
  go_wp2
  go_ret
  exact ⟨rfl, rfl⟩
end Go.Proofs.YtgopjgbcnjkblaaGreatDoor
