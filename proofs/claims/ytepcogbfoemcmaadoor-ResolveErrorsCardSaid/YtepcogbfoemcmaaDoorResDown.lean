/-
  The walks of a search's down and find at an error's number, and at one or two Whys around it. Conditions: the blocks that they write are a search's and an Errno's.
-/
import Derived.Stop.Asserts
import Derived.Test.YtepcogbfoemcmaaDoorResFit
namespace Go.Proofs.YtepcogbfoemcmaaDoor
open Go.RowKit Go.Stop Go.Extern.Stop Go.Extern

theorem xf_mUnw (v : Value) (w : World) : (Go.method 261 33 v "Unwrap").run Tryd.prog w = .ok (11, v) w := by kernel_rfl
theorem xf_isErrno (n : Int) (xT : TypeId) (w : World) : (Instr.typeAssert (.iface 30 (.int .i64 n)) xT 30 true).run Tryd.prog w = .ok (.tuple #[.int .i64 n, .bool true]) w := by kernel_rfl
theorem xf_noErrno (v : Value) (xT : TypeId) (w : World) : (Instr.typeAssert (.iface 33 v) xT 30 true).run Tryd.prog w = .ok (.tuple #[.int .i64 0, .bool false]) w := by kernel_rfl
theorem xf_noSa (v : Value) (xT : TypeId) (w : World) : (Instr.typeAssert (.iface 33 v) xT 102 true).run Tryd.prog w = .ok (.tuple #[.nilIface, .bool false]) w := run_typeAssert_lacksB Tryd.underlying102 (by kernel_rfl) (by kernel_rfl) v xT w
theorem xf_noSs (v : Value) (xT : TypeId) (w : World) : (Instr.typeAssert (.iface 33 v) xT 104 true).run Tryd.prog w = .ok (.tuple #[.nilIface, .bool false]) w := run_typeAssert_lacksB Tryd.underlying104 (by kernel_rfl) (by kernel_rfl) v xT w
theorem xf_hasAr (v : Value) (xT : TypeId) (w : World) : (Instr.typeAssert (.iface 33 v) xT 105 true).run Tryd.prog w = .ok (.tuple #[.iface 33 v, .bool true]) w := run_typeAssert_hasB Tryd.underlying105 (by kernel_rfl) v xT w
/-- two blocks alone may be written -/
structure Two (a S : Nat) (w w' : World) : Prop where
  os : w'.os = w.os
  tape : w'.tape = w.tape
  output : w'.output = w.output
  size : w.heap.size ≤ w'.heap.size
  block : ∀ k, k < w.heap.size → k ≠ a → k ≠ S → w'.heap[k]? = w.heap[k]?
theorem Two.refl (a S : Nat) (w : World) : Two a S w w := ⟨rfl, rfl, rfl, Nat.le_refl _, fun _ _ _ _ => rfl⟩
theorem Two.set {a S : Nat} {w w' : World} (h : Two a S w w') (g i : Nat) (v : Value) (hg : g = a ∨ g = S) : Two a S w (w'.setCell ⟨g, i, none⟩ v) :=
  ⟨h.os, h.tape, h.output, by rw [World.size_setCell]; exact h.size, fun k hk h1 h2 => (Below.heap_setCell _ _ _ _ (fun e => by rcases hg with rfl | rfl <;> contradiction)).trans (h.block k hk h1 h2)⟩
theorem Two.drew {a S : Nat} {w w' : World} (h : Two a S w w') : Two a S w w'.drew := ⟨h.os, h.tape, h.output, h.size, h.block⟩
def DnPost (a S : Nat) (n : Int) (w : World) (e : Ending) (w' : World) : Prop := e = .returned (.tuple #[.slice none 0 0, .bool true]) ∧ w'.heap[a]? = some (.cells #[.int .i64 n] 30 (0, 0)) ∧ Two a S w w'
/-- an error's number, behind some Whys -/
inductive Deep (w : World) (n : Int) : Nat → Value → Prop
  | here : Deep w n 0 (.iface 30 (.int .i64 n))
  | why {k p : Nat} {x : Value} (hp : w.cell? ⟨p, 1, none⟩ = some x) (h : Deep w n k x) : Deep w n (k + 1) (.iface 33 (.pointer (some ⟨p, 0, none⟩)))
theorem sr_cell {w : World} {S : Nat} {l v2 v3 : Value} {k : Int} (h : w.heap[S]? = some (.cells #[l, .int .i64 k, v2, v3] 51 (0, 0))) : w.cell? ⟨S, 1, none⟩ = some (.int .i64 k) := (cell_of_row _ S 1 _ _ _ h).trans rfl
theorem sr_set {w : World} {S : Nat} {l v2 v3 : Value} {k j : Int} (h : w.heap[S]? = some (.cells #[l, .int .i64 k, v2, v3] 51 (0, 0))) : (w.setCell ⟨S, 1, none⟩ (.int .i64 j)).heap[S]? = some (.cells #[l, .int .i64 j, v2, v3] 51 (0, 0)) := heap_setCell_same w S 1 _ _ _ h
set_option maxRecDepth 100000 in
set_option maxHeartbeats 4000000 in
theorem down0_e (a S : Nat) (hne : a ≠ S) (l v2 v3 : Value) (k old n : Int) (h0 : 0 < k) (h1 : k ≤ 2147483647) (w : World)
    (ha : w.heap[a]? = some (.cells #[.int .i64 old] 30 (0, 0))) (hS : w.heap[S]? = some (.cells #[l, .int .i64 k, v2, v3] 51 (0, 0))) :
    Calls Tryd.prog 26 #[.pointer (some ⟨S, 0, none⟩), .iface 30 (.int .i64 n), .pointer (some ⟨a, 0, none⟩)] w (DnPost a S n w) := by
  have c1 := sr_cell hS
  have f1 := frozen_of_row w S 1 _ _ hS
  have ha2 : (w.setCell ⟨S, 1, none⟩ (.int .i64 (k - 1))).heap[a]? = some (.cells #[.int .i64 old] 30 (0, 0)) := (Below.heap_setCell _ _ _ _ hne).trans ha
  have HP : Hid (DnPost a S n w (.returned (.tuple #[.slice none 0 0, .bool true])) ((w.setCell ⟨S, 1, none⟩ (.int .i64 (k - 1))).setCell ⟨a, 0, none⟩ (.int .i64 n))) :=
    Lib.hid ⟨rfl, heap_setCell_same _ a 0 _ _ (.int .i64 n) ha2, ((Two.refl a S w).set S 1 _ (.inr rfl)).set a 0 _ (.inl rfl)⟩
  have c2 := (cell_of_row _ a 0 _ _ _ ha2).trans (rfl : _ = some (Value.int .i64 old))
  have f2 := frozen_of_row _ a 0 _ _ ha2
  have z0 := xf_isErrno
  clear ha hS ha2
  go_enter Tryd.func26, Tryd.ntmps26
  go_wp2
  refine wp_loop_rounds 1 ?_
  rw [rounds_succ]
  go_wp2
  go_ret2
  exact HP.out
set_option maxRecDepth 100000 in
set_option maxHeartbeats 4000000 in
theorem down1_e (a S p0 : Nat) (hne : a ≠ S) (l v2 v3 : Value) (k old n : Int) (h0 : 1 < k) (h1 : k ≤ 2147483647) (w : World)
    (ha : w.heap[a]? = some (.cells #[.int .i64 old] 30 (0, 0))) (hS : w.heap[S]? = some (.cells #[l, .int .i64 k, v2, v3] 51 (0, 0))) (hp0 : w.cell? ⟨p0, 1, none⟩ = some (.iface 30 (.int .i64 n))) (np0 : p0 ≠ S) :
    Calls Tryd.prog 26 #[.pointer (some ⟨S, 0, none⟩), .iface 33 (.pointer (some ⟨p0, 0, none⟩)), .pointer (some ⟨a, 0, none⟩)] w (DnPost a S n w) := by
  have hS0 := hS
  have c0 := sr_cell hS0
  have f0 := frozen_of_row _ S 1 _ _ hS0
  have hS1 := sr_set (j := k - 1) hS0
  have c1 := sr_cell hS1
  have f1 := frozen_of_row _ S 1 _ _ hS1
  have hS2 := sr_set (j := k - 1 - 1) hS1
  have q0 : (w.setCell ⟨S, 1, none⟩ (.int .i64 (k - 1))).cell? ⟨p0, 1, none⟩ = _ := (World.cell?_setCell_other _ _ _ _ (fun e => np0 (by injection e with e; first | exact e | exact e.symm))).trans (hp0)
  have ha2 : ((w.setCell ⟨S, 1, none⟩ (.int .i64 (k - 1))).setCell ⟨S, 1, none⟩ (.int .i64 (k - 1 - 1))).heap[a]? = some (.cells #[.int .i64 old] 30 (0, 0)) := (Below.heap_setCell _ _ _ _ hne).trans ((Below.heap_setCell _ _ _ _ hne).trans (ha))
  have HP : Hid (DnPost a S n w (.returned (.tuple #[.slice none 0 0, .bool true])) (((w.setCell ⟨S, 1, none⟩ (.int .i64 (k - 1))).setCell ⟨S, 1, none⟩ (.int .i64 (k - 1 - 1))).setCell ⟨a, 0, none⟩ (.int .i64 n))) :=
    Lib.hid ⟨rfl, heap_setCell_same _ a 0 _ _ (.int .i64 n) ha2, (((Two.refl a S w).set S 1 _ (.inr rfl)).set S 1 _ (.inr rfl)).set a 0 _ (.inl rfl)⟩
  have ca := (cell_of_row _ a 0 _ _ _ ha2).trans (rfl : _ = some (Value.int .i64 old))
  have fa := frozen_of_row _ a 0 _ _ ha2
  have z0 := xf_isErrno
  have z1 := xf_noErrno
  have z2 := xf_noSa
  have z3 := xf_noSs
  have z4 := xf_hasAr
  have z5 := xf_mUnw
  clear ha hS ha2 hS0 hS1 hS2 hp0 np0
  go_enter Tryd.func26, Tryd.ntmps26
  go_wp2
  refine wp_loop_rounds 2 ?_
  rw [rounds_succ]
  go_wp2
  rw [rounds_succ]
  go_wp2
  go_ret2
  exact HP.out
set_option maxRecDepth 100000 in
set_option maxHeartbeats 4000000 in
theorem down2_e (a S p0 p1 : Nat) (hne : a ≠ S) (l v2 v3 : Value) (k old n : Int) (h0 : 2 < k) (h1 : k ≤ 2147483647) (w : World)
    (ha : w.heap[a]? = some (.cells #[.int .i64 old] 30 (0, 0))) (hS : w.heap[S]? = some (.cells #[l, .int .i64 k, v2, v3] 51 (0, 0))) (hp0 : w.cell? ⟨p0, 1, none⟩ = some (.iface 33 (.pointer (some ⟨p1, 0, none⟩)))) (np0 : p0 ≠ S) (hp1 : w.cell? ⟨p1, 1, none⟩ = some (.iface 30 (.int .i64 n))) (np1 : p1 ≠ S) :
    Calls Tryd.prog 26 #[.pointer (some ⟨S, 0, none⟩), .iface 33 (.pointer (some ⟨p0, 0, none⟩)), .pointer (some ⟨a, 0, none⟩)] w (DnPost a S n w) := by
  have hS0 := hS
  have c0 := sr_cell hS0
  have f0 := frozen_of_row _ S 1 _ _ hS0
  have hS1 := sr_set (j := k - 1) hS0
  have c1 := sr_cell hS1
  have f1 := frozen_of_row _ S 1 _ _ hS1
  have hS2 := sr_set (j := k - 1 - 1) hS1
  have c2 := sr_cell hS2
  have f2 := frozen_of_row _ S 1 _ _ hS2
  have hS3 := sr_set (j := k - 1 - 1 - 1) hS2
  have q0 : (w.setCell ⟨S, 1, none⟩ (.int .i64 (k - 1))).cell? ⟨p0, 1, none⟩ = _ := (World.cell?_setCell_other _ _ _ _ (fun e => np0 (by injection e with e; first | exact e | exact e.symm))).trans (hp0)
  have q1 : ((w.setCell ⟨S, 1, none⟩ (.int .i64 (k - 1))).setCell ⟨S, 1, none⟩ (.int .i64 (k - 1 - 1))).cell? ⟨p1, 1, none⟩ = _ := (World.cell?_setCell_other _ _ _ _ (fun e => np1 (by injection e with e; first | exact e | exact e.symm))).trans ((World.cell?_setCell_other _ _ _ _ (fun e => np1 (by injection e with e; first | exact e | exact e.symm))).trans (hp1))
  have ha2 : (((w.setCell ⟨S, 1, none⟩ (.int .i64 (k - 1))).setCell ⟨S, 1, none⟩ (.int .i64 (k - 1 - 1))).setCell ⟨S, 1, none⟩ (.int .i64 (k - 1 - 1 - 1))).heap[a]? = some (.cells #[.int .i64 old] 30 (0, 0)) := (Below.heap_setCell _ _ _ _ hne).trans ((Below.heap_setCell _ _ _ _ hne).trans ((Below.heap_setCell _ _ _ _ hne).trans (ha)))
  have HP : Hid (DnPost a S n w (.returned (.tuple #[.slice none 0 0, .bool true])) ((((w.setCell ⟨S, 1, none⟩ (.int .i64 (k - 1))).setCell ⟨S, 1, none⟩ (.int .i64 (k - 1 - 1))).setCell ⟨S, 1, none⟩ (.int .i64 (k - 1 - 1 - 1))).setCell ⟨a, 0, none⟩ (.int .i64 n))) :=
    Lib.hid ⟨rfl, heap_setCell_same _ a 0 _ _ (.int .i64 n) ha2, ((((Two.refl a S w).set S 1 _ (.inr rfl)).set S 1 _ (.inr rfl)).set S 1 _ (.inr rfl)).set a 0 _ (.inl rfl)⟩
  have ca := (cell_of_row _ a 0 _ _ _ ha2).trans (rfl : _ = some (Value.int .i64 old))
  have fa := frozen_of_row _ a 0 _ _ ha2
  have z0 := xf_isErrno
  have z1 := xf_noErrno
  have z2 := xf_noSa
  have z3 := xf_noSs
  have z4 := xf_hasAr
  have z5 := xf_mUnw
  clear ha hS ha2 hS0 hS1 hS2 hS3 hp0 np0 hp1 np1
  go_enter Tryd.func26, Tryd.ntmps26
  go_wp2
  refine wp_loop_rounds 3 ?_
  rw [rounds_succ]
  go_wp2
  rw [rounds_succ]
  go_wp2
  rw [rounds_succ]
  go_wp2
  go_ret2
  exact HP.out
def FdsPost (a S : Nat) (n : Int) (w : World) (e : Ending) (w' : World) : Prop := e = .returned (.bool true) ∧ w'.heap[a]? = some (.cells #[.int .i64 n] 30 (0, 0)) ∧ Two a S w w'
set_option maxRecDepth 100000 in
set_option maxHeartbeats 4000000 in
theorem sfind0_e (a S  : Nat) (hne : a ≠ S) (l v2 v3 : Value) (k old n : Int) (h0 : 0 < k) (h1 : k ≤ 2147483647) (w : World)
    (ha : w.heap[a]? = some (.cells #[.int .i64 old] 30 (0, 0))) (hS : w.heap[S]? = some (.cells #[l, .int .i64 k, v2, v3] 51 (0, 0))) :
    Calls Tryd.prog 15 #[.pointer (some ⟨S, 0, none⟩), .iface 30 (.int .i64 n), .pointer (some ⟨a, 0, none⟩)] w (FdsPost a S n w) := by
  have hd := down0_e a S  hne l v2 v3 k old n h0 h1 w ha hS
  have c0 := sr_cell hS
  have hk0 : 0 < k := by omega
  clear ha hS h0
  go_enter Tryd.func15, Tryd.ntmps15
  go_wp2
  refine wp_loop_rounds 1 ?_
  rw [rounds_succ]
  go_wp2_with fail
  refine hd.mono ?_
  rintro e w1 ⟨rfl, h2, h3⟩
  have HA := Lib.hid h2
  have HT := Lib.hid h3
  clear hd h2 h3 c0
  go_wp2_with fail
  go_ret
  exact ⟨rfl, HA.out, HT.out⟩
set_option maxRecDepth 100000 in
set_option maxHeartbeats 4000000 in
theorem sfind1_e (a S p0 : Nat) (hne : a ≠ S) (l v2 v3 : Value) (k old n : Int) (h0 : 1 < k) (h1 : k ≤ 2147483647) (w : World)
    (ha : w.heap[a]? = some (.cells #[.int .i64 old] 30 (0, 0))) (hS : w.heap[S]? = some (.cells #[l, .int .i64 k, v2, v3] 51 (0, 0))) (hp0 : w.cell? ⟨p0, 1, none⟩ = some (.iface 30 (.int .i64 n))) (np0 : p0 ≠ S) :
    Calls Tryd.prog 15 #[.pointer (some ⟨S, 0, none⟩), .iface 33 (.pointer (some ⟨p0, 0, none⟩)), .pointer (some ⟨a, 0, none⟩)] w (FdsPost a S n w) := by
  have hd := down1_e a S p0 hne l v2 v3 k old n h0 h1 w ha hS hp0 np0
  have c0 := sr_cell hS
  have hk0 : 0 < k := by omega
  clear ha hS h0 hp0 np0
  go_enter Tryd.func15, Tryd.ntmps15
  go_wp2
  refine wp_loop_rounds 1 ?_
  rw [rounds_succ]
  go_wp2_with fail
  refine hd.mono ?_
  rintro e w1 ⟨rfl, h2, h3⟩
  have HA := Lib.hid h2
  have HT := Lib.hid h3
  clear hd h2 h3 c0
  go_wp2_with fail
  go_ret
  exact ⟨rfl, HA.out, HT.out⟩
set_option maxRecDepth 100000 in
set_option maxHeartbeats 4000000 in
theorem sfind2_e (a S p0 p1 : Nat) (hne : a ≠ S) (l v2 v3 : Value) (k old n : Int) (h0 : 2 < k) (h1 : k ≤ 2147483647) (w : World)
    (ha : w.heap[a]? = some (.cells #[.int .i64 old] 30 (0, 0))) (hS : w.heap[S]? = some (.cells #[l, .int .i64 k, v2, v3] 51 (0, 0))) (hp0 : w.cell? ⟨p0, 1, none⟩ = some (.iface 33 (.pointer (some ⟨p1, 0, none⟩)))) (np0 : p0 ≠ S) (hp1 : w.cell? ⟨p1, 1, none⟩ = some (.iface 30 (.int .i64 n))) (np1 : p1 ≠ S) :
    Calls Tryd.prog 15 #[.pointer (some ⟨S, 0, none⟩), .iface 33 (.pointer (some ⟨p0, 0, none⟩)), .pointer (some ⟨a, 0, none⟩)] w (FdsPost a S n w) := by
  have hd := down2_e a S p0 p1 hne l v2 v3 k old n h0 h1 w ha hS hp0 np0 hp1 np1
  have c0 := sr_cell hS
  have hk0 : 0 < k := by omega
  clear ha hS h0 hp0 np0 hp1 np1
  go_enter Tryd.func15, Tryd.ntmps15
  go_wp2
  refine wp_loop_rounds 1 ?_
  rw [rounds_succ]
  go_wp2_with fail
  refine hd.mono ?_
  rintro e w1 ⟨rfl, h2, h3⟩
  have HA := Lib.hid h2
  have HT := Lib.hid h3
  clear hd h2 h3 c0
  go_wp2_with fail
  go_ret
  exact ⟨rfl, HA.out, HT.out⟩
end Go.Proofs.YtepcogbfoemcmaaDoor
