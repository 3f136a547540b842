/-
  The walk of msg.Right, the other types, and all in one: what it answers for every record. Conditions: its texts are no longer than the model lets a text be, and the library's variable MaxLen holds some number.
-/
import Derived.Test.YtakfokdjdljjjaaDoorMsgRight2
namespace Go.Proofs.YtakfokdjdljjjaaDoor
open Go.RowKit

section
variable {nm tx da : ByteArray} {ty ttl : Int} {ad : List UInt8} {w : World}
set_option maxRecDepth 100000 in
set_option maxHeartbeats 4000000 in
theorem right_nm_no (h16 : ad.length = 16) (he : Env w) (hs1 : nm.size ≤ maxLen) (hs2 : tx.size ≤ maxLen) (h0 : gosB nm = true) (h2 : btw 0 ttl 1048576 = true) (hty : ty = 2 ∨ ty = 5 ∨ ty = 12) (h4 : gosB tx = false) :
    Calls Tryd.prog 42 #[.agg (RV.cells ⟨nm, ty, ttl, ad, tx, da⟩)] w fun e w' => e = .returned (.bool false) ∧ Below w.heap.size w w' ∧ Env w' := by
  have HC1 := Lib.hid (RV.c1 ⟨nm, ty, ttl, ad, tx, da⟩)
  have HC2 := Lib.hid (RV.c2 ⟨nm, ty, ttl, ad, tx, da⟩)
  have HC19 := Lib.hid (RV.c19 (r := ⟨nm, ty, ttl, ad, tx, da⟩) h16)
  have c0 := RV.c0 ⟨nm, ty, ttl, ad, tx, da⟩
  have C := goesOut_any nm (w.alloc (.cells (RV.cells ⟨nm, ty, ttl, ad, tx, da⟩) 45)) (he.alloc _) hs1
  rw [h0] at C
  have D1 : ∀ W, Calls Tryd.prog 24 #[.int .i64 1, .int .i64 ty, .int .i64 65535] W fun e w' => e = .returned (.bool true) ∧ W = w' := fun W => by
    have := between_any 1 ty 65535 W
    rw [show btw 1 ty 65535 = true by unfold btw; rw [decide_eq_true_iff]; omega] at this
    exact this
  have D2 := fun (W : World) => between_any 0 ttl 1048576 W
  rw [h2] at D2
  have G := fun (W : World) (hE : Env W) => goesOut_any tx W hE hs2
  rw [h4] at G
  have BU := Lib.hid (builtRec nm ty ttl)
  have ZR := Lib.hid zeroRec
  have Z1 := Lib.hid (sizeRv (r := ⟨nm, ty, ttl, zero16, emp, emp⟩) rfl)
  have O1 := Lib.hid (RV.one ⟨nm, ty, ttl, zero16, emp, emp⟩)
  have ZZ : Hid ((RV.cells ⟨emp, 0, 0, zero16, emp, emp⟩).size = (RV.cells ⟨nm, ty, ttl, zero16, emp, emp⟩).size) := Lib.hid rfl
  revert HC1 HC2 HC19 c0 C BU ZR Z1 O1 ZZ
  generalize RV.cells ⟨nm, ty, ttl, ad, tx, da⟩ = cs
  generalize RV.cells ⟨nm, ty, ttl, zero16, emp, emp⟩ = ms
  generalize RV.cells ⟨emp, 0, 0, zero16, emp, emp⟩ = zs
  intro HC1 HC2 HC19 c0 C BU ZR Z1 O1 ZZ
  have HG := Lib.hid G
  clear G h0 h2 h4 h16
  rcases hty with rfl | rfl | rfl
  all_goals
    go_enter Tryd.func42, Tryd.ntmps42
    go_wp2_with fail
    refine C.mono ?_; rintro e w1 ⟨rfl, hb1, he1⟩
    have hg1 := heap_keep hb1
    have d0 := (cell_of_row w1 _ 0 _ _ _ hg1).trans c0
    have d1 := (cell_of_row w1 _ 1 _ _ _ hg1).trans HC1.out
    have d2 := (cell_of_row w1 _ 2 _ _ _ hg1).trans HC2.out
    have d19 := (cell_of_row w1 _ 19 _ _ _ hg1).trans HC19.out
    have hl1 := heap_lt hg1
    have HG1 := Lib.hid hg1
    have HB1 := Lib.hid (((Below.refl _ w).alloc (Nat.le_refl _) _).trans (hb1.mono (by simp)))
    have HE1 := Lib.hid he1
    clear hg1 hb1 he1 C c0
    go_wp2_with fail
    refine (D1 _).mono ?_; rintro e w' ⟨rfl, rfl⟩
    go_wp2_with fail
    refine (D2 _).mono ?_; rintro e w' ⟨rfl, rfl⟩
    clear D1 D2
    go_wp2_with (first
      | (refine wpList_build_v rfl 45 #[(0, .tmp 21), (1, .tmp 23), (2, .tmp 25)] rfl [(0, .string nm), (1, .int .i64 _), (2, .int .i64 ttl)] ms BU.out rfl ?_; go_simp)
      | (refine wpList_alloc_z rfl 45 rfl zs ZR.out ?_; go_simp)
      | (refine wpList_store_new rfl 45 (.tmp 3) (.tmp 26) rfl w1.heap.size rfl zs ms 45 rfl rfl Z1.out ZZ.out O1.out ?_; go_simp))
    refine (HG.out _ (HE1.out.alloc _)).mono ?_; rintro e w2 ⟨rfl, hb2, he2⟩
    have HB2 := HB1.out.alloc (Nat.le_of_lt hl1) (.cells ms 45)
    have HB3 := HB2.trans (hb2.mono (by rw [World.size_alloc]; omega))
    clear hb2 HB2 he2
    go_wp2_with fail
    go_ret
    exact ⟨rfl, HB3, he.below HB3⟩
set_option maxRecDepth 100000 in
set_option maxHeartbeats 4000000 in
theorem right_ot (h16 : ad.length = 16) (he : Env w) (hs1 : nm.size ≤ maxLen) (h0 : gosB nm = true) (h2 : btw 0 ttl 1048576 = true) (h1 : btw 1 ty 65535 = true) (n1 : ty ≠ 1) (n28 : ty ≠ 28) (n2 : ty ≠ 2) (n5 : ty ≠ 5) (n12 : ty ≠ 12) (hda : da.size ≤ 255) :
    Calls Tryd.prog 42 #[.agg (RV.cells ⟨nm, ty, ttl, ad, tx, da⟩)] w fun e w' => e = .returned (.bool (RV.eqB ⟨nm, ty, ttl, ad, tx, da⟩ ⟨nm, ty, ttl, zero16, emp, da⟩)) ∧ Below w.heap.size w w' ∧ Env w' := by
  have HC1 := Lib.hid (RV.c1 ⟨nm, ty, ttl, ad, tx, da⟩)
  have HC2 := Lib.hid (RV.c2 ⟨nm, ty, ttl, ad, tx, da⟩)
  have HC20 := Lib.hid (RV.c20 (r := ⟨nm, ty, ttl, ad, tx, da⟩) h16)
  have c0 := RV.c0 ⟨nm, ty, ttl, ad, tx, da⟩
  have C := goesOut_any nm (w.alloc (.cells (RV.cells ⟨nm, ty, ttl, ad, tx, da⟩) 45)) (he.alloc _) hs1
  rw [h0] at C
  have D1 := fun (W : World) => between_any 1 ty 65535 W
  rw [h1] at D1
  have t1 : (ty == 1) = false := by simpa using n1
  have t28 : (ty == 28) = false := by simpa using n28
  have t2 : (ty == 2) = false := by simpa using n2
  have t5 : (ty == 5) = false := by simpa using n5
  have t12 : (ty == 12) = false := by simpa using n12
  have D2 := fun (W : World) => between_any 0 ttl 1048576 W
  rw [h2] at D2
  have EQ := fun (W : World) => eq_recs W (r := ⟨nm, ty, ttl, ad, tx, da⟩) (s := ⟨nm, ty, ttl, zero16, emp, da⟩) h16 rfl
  have BU := Lib.hid (builtRec nm ty ttl)
  have ZR := Lib.hid zeroRec
  have S20 : Hid ((RV.cells ⟨nm, ty, ttl, zero16, emp, emp⟩).setIfInBounds 20 (.string da) = RV.cells ⟨nm, ty, ttl, zero16, emp, da⟩) := Lib.hid (RV.set20 (r := ⟨nm, ty, ttl, zero16, emp, emp⟩) rfl da)
  have M20 : Hid ((RV.cells ⟨nm, ty, ttl, zero16, emp, emp⟩)[20]? = some (.string emp)) := Lib.hid (RV.c20 (r := ⟨nm, ty, ttl, zero16, emp, emp⟩) rfl)
  have Z1 := Lib.hid (sizeRv (r := ⟨nm, ty, ttl, zero16, emp, emp⟩) rfl)
  have Z2 := Lib.hid (sizeRv (r := ⟨nm, ty, ttl, ad, tx, da⟩) h16)
  have Z3 := Lib.hid (sizeRv (r := ⟨nm, ty, ttl, zero16, emp, da⟩) rfl)
  have O1 := Lib.hid (RV.one ⟨nm, ty, ttl, zero16, emp, emp⟩)
  have ZZ : Hid ((RV.cells ⟨emp, 0, 0, zero16, emp, emp⟩).size = (RV.cells ⟨nm, ty, ttl, zero16, emp, emp⟩).size) := Lib.hid rfl
  revert HC1 HC2 HC20 c0 C EQ BU ZR S20 M20 Z1 Z2 Z3 O1 ZZ
  generalize RV.eqB ⟨nm, ty, ttl, ad, tx, da⟩ ⟨nm, ty, ttl, zero16, emp, da⟩ = res
  generalize RV.cells ⟨nm, ty, ttl, ad, tx, da⟩ = cs
  generalize RV.cells ⟨nm, ty, ttl, zero16, emp, emp⟩ = ms
  generalize RV.cells ⟨nm, ty, ttl, zero16, emp, da⟩ = ns
  generalize RV.cells ⟨emp, 0, 0, zero16, emp, emp⟩ = zs
  intro HC1 HC2 HC20 c0 C EQ BU ZR S20 M20 Z1 Z2 Z3 O1 ZZ
  have HEQ := Lib.hid EQ
  clear EQ h0 h1 h2 h16 n1 n28 n2 n5 n12
  go_enter Tryd.func42, Tryd.ntmps42
  go_wp2_with fail
  refine C.mono ?_; rintro e w1 ⟨rfl, hb1, he1⟩
  have hg1 := heap_keep hb1
  have d0 := (cell_of_row w1 _ 0 _ _ _ hg1).trans c0
  have d1 := (cell_of_row w1 _ 1 _ _ _ hg1).trans HC1.out
  have d2 := (cell_of_row w1 _ 2 _ _ _ hg1).trans HC2.out
  have d20 := (cell_of_row w1 _ 20 _ _ _ hg1).trans HC20.out
  have hl1 := heap_lt hg1
  have HG1 := Lib.hid hg1
  have HB1 := Lib.hid (((Below.refl _ w).alloc (Nat.le_refl _) _).trans (hb1.mono (by simp)))
  have HE1 := Lib.hid he1
  clear hg1 hb1 he1 C c0
  go_wp2_with fail
  refine (D1 _).mono ?_; rintro e w' ⟨rfl, rfl⟩
  go_wp2_with fail
  refine (D2 _).mono ?_; rintro e w' ⟨rfl, rfl⟩
  clear D1 D2
  have m20 := M20.out
  go_wp2_with (first
    | (refine wpList_build_v rfl 45 #[(0, .tmp 21), (1, .tmp 23), (2, .tmp 25)] rfl [(0, .string nm), (1, .int .i64 ty), (2, .int .i64 ttl)] ms BU.out rfl ?_; go_simp)
    | (refine wpList_alloc_z rfl 45 rfl zs ZR.out ?_; go_simp)
    | (refine wpList_store_new rfl 45 (.tmp 3) (.tmp 26) rfl w1.heap.size rfl zs ms 45 rfl rfl Z1.out ZZ.out O1.out ?_; go_simp)
    | (refine wpList_load_row rfl 45 (.tmp 1) rfl w.heap.size rfl 45 cs (0, 0) _ ((Below.heap_alloc w1 _ _ hl1).trans HG1.out) Tryd.underlying45 rfl Z2.out ?_; go_simp)
    | (refine wpList_load_row rfl 45 (.tmp 3) rfl w1.heap.size rfl 45 ns (0, 0) _ ((heap_alloc_last w1 _).trans (congrArg (fun z => some (Obj.cells z 45 (0, 0))) S20.out)) Tryd.underlying45 rfl Z3.out ?_; go_simp)
    | (refine wpList_eql_agg rfl 45 (.tmp 58) (.tmp 59) 45 rfl cs ns res rfl rfl eqGuardRec (HEQ.out _) ?_; go_simp))
  have HB3 := HB1.out.alloc (Nat.le_of_lt hl1) (.cells (ms.setIfInBounds 20 (.string da)) 45)
  go_ret
  exact ⟨rfl, HB3, he.below HB3⟩
set_option maxRecDepth 100000 in
set_option maxHeartbeats 4000000 in
theorem right_ot_no (h16 : ad.length = 16) (he : Env w) (hs1 : nm.size ≤ maxLen) (h0 : gosB nm = true) (h2 : btw 0 ttl 1048576 = true) (h1 : btw 1 ty 65535 = true) (n1 : ty ≠ 1) (n28 : ty ≠ 28) (n2 : ty ≠ 2) (n5 : ty ≠ 5) (n12 : ty ≠ 12) (hda : 255 < da.size) (hda' : da.size ≤ maxLen) :
    Calls Tryd.prog 42 #[.agg (RV.cells ⟨nm, ty, ttl, ad, tx, da⟩)] w fun e w' => e = .returned (.bool false) ∧ Below w.heap.size w w' ∧ Env w' := by
  have HC1 := Lib.hid (RV.c1 ⟨nm, ty, ttl, ad, tx, da⟩)
  have HC2 := Lib.hid (RV.c2 ⟨nm, ty, ttl, ad, tx, da⟩)
  have HC20 := Lib.hid (RV.c20 (r := ⟨nm, ty, ttl, ad, tx, da⟩) h16)
  have c0 := RV.c0 ⟨nm, ty, ttl, ad, tx, da⟩
  have C := goesOut_any nm (w.alloc (.cells (RV.cells ⟨nm, ty, ttl, ad, tx, da⟩) 45)) (he.alloc _) hs1
  rw [h0] at C
  have D1 := fun (W : World) => between_any 1 ty 65535 W
  rw [h1] at D1
  have t1 : (ty == 1) = false := by simpa using n1
  have t28 : (ty == 28) = false := by simpa using n28
  have t2 : (ty == 2) = false := by simpa using n2
  have t5 : (ty == 5) = false := by simpa using n5
  have t12 : (ty == 12) = false := by simpa using n12
  have D2 := fun (W : World) => between_any 0 ttl 1048576 W
  rw [h2] at D2
  have BU := Lib.hid (builtRec nm ty ttl)
  have ZR := Lib.hid zeroRec
  have Z1 := Lib.hid (sizeRv (r := ⟨nm, ty, ttl, zero16, emp, emp⟩) rfl)
  have O1 := Lib.hid (RV.one ⟨nm, ty, ttl, zero16, emp, emp⟩)
  have ZZ : Hid ((RV.cells ⟨emp, 0, 0, zero16, emp, emp⟩).size = (RV.cells ⟨nm, ty, ttl, zero16, emp, emp⟩).size) := Lib.hid rfl
  revert HC1 HC2 HC20 c0 C BU ZR Z1 O1 ZZ
  generalize RV.cells ⟨nm, ty, ttl, ad, tx, da⟩ = cs
  generalize RV.cells ⟨nm, ty, ttl, zero16, emp, emp⟩ = ms
  generalize RV.cells ⟨emp, 0, 0, zero16, emp, emp⟩ = zs
  intro HC1 HC2 HC20 c0 C BU ZR Z1 O1 ZZ
  unfold maxLen at hda'
  clear h0 h1 h2 h16 n1 n28 n2 n5 n12
  go_enter Tryd.func42, Tryd.ntmps42
  go_wp2_with fail
  refine C.mono ?_; rintro e w1 ⟨rfl, hb1, he1⟩
  have hg1 := heap_keep hb1
  have d0 := (cell_of_row w1 _ 0 _ _ _ hg1).trans c0
  have d1 := (cell_of_row w1 _ 1 _ _ _ hg1).trans HC1.out
  have d2 := (cell_of_row w1 _ 2 _ _ _ hg1).trans HC2.out
  have d20 := (cell_of_row w1 _ 20 _ _ _ hg1).trans HC20.out
  have hl1 := heap_lt hg1
  have HG1 := Lib.hid hg1
  have HB1 := Lib.hid (((Below.refl _ w).alloc (Nat.le_refl _) _).trans (hb1.mono (by simp)))
  have HE1 := Lib.hid he1
  clear hg1 hb1 he1 C c0
  go_wp2_with fail
  refine (D1 _).mono ?_; rintro e w' ⟨rfl, rfl⟩
  go_wp2_with fail
  refine (D2 _).mono ?_; rintro e w' ⟨rfl, rfl⟩
  clear D1 D2
  go_wp2_with (first
    | (refine wpList_build_v rfl 45 #[(0, .tmp 21), (1, .tmp 23), (2, .tmp 25)] rfl [(0, .string nm), (1, .int .i64 ty), (2, .int .i64 ttl)] ms BU.out rfl ?_; go_simp)
    | (refine wpList_alloc_z rfl 45 rfl zs ZR.out ?_; go_simp)
    | (refine wpList_store_new rfl 45 (.tmp 3) (.tmp 26) rfl w1.heap.size rfl zs ms 45 rfl rfl Z1.out ZZ.out O1.out ?_; go_simp))
  have HB3 := HB1.out.alloc (Nat.le_of_lt hl1) (.cells ms 45)
  go_ret
  exact ⟨rfl, HB3, he.below HB3⟩
end
end Go.Proofs.YtakfokdjdljjjaaDoor
