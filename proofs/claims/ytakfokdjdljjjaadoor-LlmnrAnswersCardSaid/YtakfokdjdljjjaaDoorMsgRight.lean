/-
  The walk of msg.Right: what it answers for every record. Conditions: its texts are no longer than the model lets a text be, and the library's variable MaxLen holds some number.
-/
import Derived.Test.YtakfokdjdljjjaaDoorMsgV4
namespace Go.Proofs.YtakfokdjdljjjaaDoor
open Go.RowKit

def emp : ByteArray := ⟨#[]⟩
theorem builtRec (nm : ByteArray) (ty ttl : Int) : Tryd.prog.built 45 [(0, .string nm), (1, .int .i64 ty), (2, .int .i64 ttl)] = some (RV.cells ⟨nm, ty, ttl, zero16, emp, emp⟩) := by kernel_rfl
theorem zeroRec : (Tryd.prog.info? 45).map (·.zero) = some (some (.agg (RV.cells ⟨emp, 0, 0, zero16, emp, emp⟩))) := by kernel_rfl
theorem sizeRv {r : RV} (h : r.ad.length = 16) : (Tryd.prog.info? 45).map (·.size) = some r.cells.size := by rw [sizeRec, RV.size h]

/-- a value built of parts, under a name, the parts' values told apart -/
theorem wpList_build_v {P : Program} {ops : Array Oper} {rest : List Oper} {o : Oper} {a : Act} {Q : Exit → Act → World → Prop} {w : World} (hgd : o.guard = none) (t : TypeId) (parts : Array (Nat × Operand)) (ho : o.op = .build t parts)
    (vals : List (Nat × Value)) (cs : Array Value) (hf : P.built t vals = some cs) (hv : parts.toList.map (fun (i, x) => (i, a.eval x)) = vals)
    (h : wpList P ops Q rest (a.put o.dst (.agg cs)) w) : wpList P ops Q (o :: rest) a w := by
  subst hv
  exact wpList_build_z hgd t parts ho cs hf h

/-- may it be a record? -/
def rvOk (r : RV) : Bool :=
  gosB r.nm && btw 1 r.ty 65535 && btw 0 r.ttl 1048576 &&
    (if r.ty = 1 then (r.ad == pre4 ++ r.ad.drop 12) && r.eqB ⟨r.nm, r.ty, r.ttl, r.ad, emp, emp⟩
    else if r.ty = 28 then r.eqB ⟨r.nm, r.ty, r.ttl, r.ad, emp, emp⟩
    else if r.ty = 2 ∨ r.ty = 5 ∨ r.ty = 12 then gosB r.tx && r.eqB ⟨r.nm, r.ty, r.ttl, zero16, r.tx, emp⟩
    else decide (r.da.size ≤ 255) && r.eqB ⟨r.nm, r.ty, r.ttl, zero16, emp, r.da⟩)

theorem heap_keep {w w1 : World} {o : Obj} (hb : Below (w.alloc o).heap.size (w.alloc o) w1) : w1.heap[w.heap.size]? = some o := (hb.block w.heap.size (by simp)).trans (heap_alloc_last w o)
theorem Env.alloc {w : World} (he : Env w) (o : Obj) : Env (w.alloc o) := he.below ((Below.refl _ w).alloc (Nat.le_refl _) _)

section
variable {nm tx da : ByteArray} {ty ttl : Int} {ad : List UInt8} {w : World}
theorem right_no1 (he : Env w) (hs1 : nm.size ≤ maxLen) (h0 : gosB nm = false) :
    Calls Tryd.prog 42 #[.agg (RV.cells ⟨nm, ty, ttl, ad, tx, da⟩)] w fun e w' => e = .returned (.bool false) ∧ Below w.heap.size w w' ∧ Env w' := by
  have c0 := RV.c0 ⟨nm, ty, ttl, ad, tx, da⟩
  have C := goesOut_any nm (w.alloc (.cells (RV.cells ⟨nm, ty, ttl, ad, tx, da⟩) 45)) (he.alloc _) hs1
  rw [h0] at C
  revert c0 C
  generalize RV.cells ⟨nm, ty, ttl, ad, tx, da⟩ = cs
  intro c0 C
  go_enter Tryd.func42, Tryd.ntmps42
  go_wp2_with fail
  refine C.mono ?_; rintro e w1 ⟨rfl, hb1, he1⟩
  go_wp2_with fail
  go_ret
  exact ⟨rfl, ((Below.refl _ w).alloc (Nat.le_refl _) _).trans (hb1.mono (by simp)), he1⟩
set_option maxRecDepth 100000 in
set_option maxHeartbeats 1000000 in
theorem right_no2 (he : Env w) (hs1 : nm.size ≤ maxLen) (h0 : gosB nm = true) (h1 : (btw 1 ty 65535 && btw 0 ttl 1048576) = false) :
    Calls Tryd.prog 42 #[.agg (RV.cells ⟨nm, ty, ttl, ad, tx, da⟩)] w fun e w' => e = .returned (.bool false) ∧ Below w.heap.size w w' ∧ Env w' := by
  have c0 := RV.c0 ⟨nm, ty, ttl, ad, tx, da⟩
  have c1 := RV.c1 ⟨nm, ty, ttl, ad, tx, da⟩
  have c2 := RV.c2 ⟨nm, ty, ttl, ad, tx, da⟩
  have C := goesOut_any nm (w.alloc (.cells (RV.cells ⟨nm, ty, ttl, ad, tx, da⟩) 45)) (he.alloc _) hs1
  rw [h0] at C
  revert c0 c1 c2 C
  generalize RV.cells ⟨nm, ty, ttl, ad, tx, da⟩ = cs
  intro c0 c1 c2 C
  have D1 := fun (W : World) => between_any 1 ty 65535 W
  have D2 := fun (W : World) => between_any 0 ttl 1048576 W
  have HC1 := Lib.hid c1
  have HC2 := Lib.hid c2
  clear c1 c2
  cases hb : btw 1 ty 65535 with
  | false =>
    rw [hb] at D1
    go_enter Tryd.func42, Tryd.ntmps42
    go_wp2_with fail
    refine C.mono ?_; rintro e w1 ⟨rfl, hb1, he1⟩
    have d1 := (cell_of_row w1 _ 1 _ _ _ (heap_keep hb1)).trans HC1.out
    go_wp2_with (go_at_call 24; refine (D1 _).mono ?_; rintro e w' ⟨rfl, rfl⟩)
    go_ret
    exact ⟨rfl, ((Below.refl _ w).alloc (Nat.le_refl _) _).trans (hb1.mono (by simp)), he1⟩
  | true =>
    rw [hb, Bool.true_and] at h1
    rw [hb] at D1
    rw [h1] at D2
    clear hb h1 h0
    go_enter Tryd.func42, Tryd.ntmps42
    go_wp2_with fail
    refine C.mono ?_; rintro e w1 ⟨rfl, hb1, he1⟩
    have d1 := (cell_of_row w1 _ 1 _ _ _ (heap_keep hb1)).trans HC1.out
    have d2 := (cell_of_row w1 _ 2 _ _ _ (heap_keep hb1)).trans HC2.out
    go_wp2_with fail
    refine (D1 _).mono ?_; rintro e w' ⟨rfl, rfl⟩
    go_wp2_with fail
    refine (D2 _).mono ?_; rintro e w' ⟨rfl, rfl⟩
    go_wp2_with fail
    go_ret
    exact ⟨rfl, ((Below.refl _ w).alloc (Nat.le_refl _) _).trans (hb1.mono (by simp)), he1⟩

set_option maxRecDepth 100000 in
set_option maxHeartbeats 2000000 in
theorem right_a (h16 : ad.length = 16) (he : Env w) (hs1 : nm.size ≤ maxLen) (h0 : gosB nm = true) (h2 : btw 0 ttl 1048576 = true) (h4 : (ad == pre4 ++ ad.drop 12) = true) :
    Calls Tryd.prog 42 #[.agg (RV.cells ⟨nm, 1, ttl, ad, tx, da⟩)] w fun e w' => e = .returned (.bool (RV.eqB ⟨nm, 1, ttl, ad, tx, da⟩ ⟨nm, 1, ttl, ad, emp, emp⟩)) ∧ Below w.heap.size w w' ∧ Env w' := by
  have HC1 := Lib.hid (RV.c1 ⟨nm, 1, ttl, ad, tx, da⟩)
  have HC2 := Lib.hid (RV.c2 ⟨nm, 1, ttl, ad, tx, da⟩)
  have HSU : Hid (∀ j v, (bvs ad).toArray.toList[j]? = some v → (RV.cells ⟨nm, 1, ttl, ad, tx, da⟩)[3 + j]? = some v) := Lib.hid (RV.sub3 (r := ⟨nm, 1, ttl, ad, tx, da⟩) h16)
  have c0 := RV.c0 ⟨nm, 1, ttl, ad, tx, da⟩
  have C := goesOut_any nm (w.alloc (.cells (RV.cells ⟨nm, 1, ttl, ad, tx, da⟩) 45)) (he.alloc _) hs1
  rw [h0] at C
  have D1 : ∀ W, Calls Tryd.prog 24 #[.int .i64 1, .int .i64 1, .int .i64 65535] W fun e w' => e = .returned (.bool true) ∧ W = w' := fun W => between_any 1 1 65535 W
  have D2 := fun (W : World) => between_any 0 ttl 1048576 W
  rw [h2] at D2
  have I4 := fun (W : World) => is4_any ad h16 W
  rw [h4] at I4
  have EQ := fun (W : World) => eq_recs W (r := ⟨nm, 1, ttl, ad, tx, da⟩) (s := ⟨nm, 1, ttl, ad, emp, emp⟩) h16 h16
  have BU := Lib.hid (builtRec nm 1 ttl)
  have ZR := Lib.hid zeroRec
  have S3 : Hid (((RV.cells ⟨nm, 1, ttl, zero16, emp, emp⟩).toList.take 3 ++ (bvs ad).toArray.toList ++ (RV.cells ⟨nm, 1, ttl, zero16, emp, emp⟩).toList.drop (3 + (bvs ad).toArray.size)).toArray = RV.cells ⟨nm, 1, ttl, ad, emp, emp⟩) := Lib.hid (RV.set3 (r := ⟨nm, 1, ttl, zero16, emp, emp⟩) rfl h16)
  have Z1 := Lib.hid (sizeRv (r := ⟨nm, 1, ttl, zero16, emp, emp⟩) rfl)
  have Z2 := Lib.hid (sizeRv (r := ⟨nm, 1, ttl, ad, tx, da⟩) h16)
  have Z3 := Lib.hid (sizeRv (r := ⟨nm, 1, ttl, ad, emp, emp⟩) h16)
  have Z4 := Lib.hid (sizeBv h16)
  have O1 := Lib.hid (RV.one ⟨nm, 1, ttl, zero16, emp, emp⟩)
  have O2 := Lib.hid (oneBv ad)
  have ZZ : Hid ((RV.cells ⟨emp, 0, 0, zero16, emp, emp⟩).size = (RV.cells ⟨nm, 1, ttl, zero16, emp, emp⟩).size) := Lib.hid rfl
  have ZW : Hid (3 + (bvs ad).toArray.size ≤ (RV.cells ⟨nm, 1, ttl, zero16, emp, emp⟩).size) := Lib.hid (by rw [List.size_toArray, bvs_length, h16, RV.size rfl]; omega)
  revert HC1 HC2 HSU c0 C I4 EQ BU ZR S3 Z1 Z2 Z3 Z4 O1 O2 ZZ ZW
  generalize RV.eqB ⟨nm, 1, ttl, ad, tx, da⟩ ⟨nm, 1, ttl, ad, emp, emp⟩ = res
  generalize RV.cells ⟨nm, 1, ttl, ad, tx, da⟩ = cs
  generalize RV.cells ⟨nm, 1, ttl, zero16, emp, emp⟩ = ms
  generalize RV.cells ⟨nm, 1, ttl, ad, emp, emp⟩ = ns
  generalize RV.cells ⟨emp, 0, 0, zero16, emp, emp⟩ = zs
  generalize (bvs ad).toArray = A
  intro HC1 HC2 HSU c0 C I4 EQ BU ZR S3 Z1 Z2 Z3 Z4 O1 O2 ZZ ZW
  have HEQ := Lib.hid EQ
  clear EQ h0 h2 h4 h16
  go_enter Tryd.func42, Tryd.ntmps42
  go_wp2_with fail
  refine C.mono ?_; rintro e w1 ⟨rfl, hb1, he1⟩
  have hg1 := heap_keep hb1
  have d0 := (cell_of_row w1 _ 0 _ _ _ hg1).trans c0
  have d1 := (cell_of_row w1 _ 1 _ _ _ hg1).trans HC1.out
  have d2 := (cell_of_row w1 _ 2 _ _ _ hg1).trans HC2.out
  have hl1 := heap_lt hg1
  have HG1 := Lib.hid hg1
  have HB1 := Lib.hid (((Below.refl _ w).alloc (Nat.le_refl _) _).trans (hb1.mono (by simp)))
  have HE1 := Lib.hid he1
  clear hg1 hb1 he1 C c0
  go_wp2_with fail
  refine (D1 _).mono ?_; rintro e w' ⟨rfl, rfl⟩
  go_wp2_with fail
  refine (D2 _).mono ?_; rintro e w' ⟨rfl, rfl⟩
  clear D1 D2
  go_wp2_with (first
    | (refine wpList_build_v rfl 45 #[(0, .tmp 21), (1, .tmp 23), (2, .tmp 25)] rfl [(0, .string nm), (1, .int .i64 1), (2, .int .i64 ttl)] ms BU.out rfl ?_; go_simp)
    | (refine wpList_alloc_z rfl 45 rfl zs ZR.out ?_; go_simp)
    | (refine wpList_store_new rfl 45 (.tmp 3) (.tmp 26) rfl w1.heap.size rfl zs ms 45 rfl rfl Z1.out ZZ.out O1.out ?_; go_simp)
    | (refine wpList_load_agg rfl 40 (.tmp 37) rfl ⟨w.heap.size, 3, none⟩ rfl A _ (cells_sub ((Below.heap_alloc w1 _ _ hl1).trans HG1.out) HSU.out) Tryd.underlying40 rfl Z4.out ?_; go_simp))
  refine (I4 _).mono ?_; rintro e w2 ⟨rfl, hb2⟩
  have hb2' : Below (w1.heap.size + 1) (w1.alloc (.cells ms 45)) w2 := by have := hb2; rw [World.size_alloc] at this; exact this
  have hg2 := (hb2'.block w.heap.size (by omega)).trans ((Below.heap_alloc w1 _ _ hl1).trans HG1.out)
  have hm2 := (hb2'.block w1.heap.size (by omega)).trans (heap_alloc_last w1 _)
  have HG2 := Lib.hid hg2
  have HM2 := Lib.hid hm2
  have HB2 := Lib.hid ((HB1.out.alloc (by omega) _).trans (hb2'.mono (by omega)))
  have HE2 := Lib.hid ((HE1.out.alloc _).below (hb2'.mono (by simp)))
  clear hb2 hb2' hg2 hm2 I4 d0 d1 d2
  go_wp2_with (first
    | (refine wpList_load_agg rfl 40 (.tmp 41) rfl ⟨w.heap.size, 3, none⟩ rfl A _ (cells_sub HG2.out HSU.out) Tryd.underlying40 rfl Z4.out ?_; go_simp)
    | (refine wpList_store_sub rfl 40 (.tmp 43) (.tmp 42) rfl w1.heap.size 3 ms A ns 45 HM2.out rfl rfl Z4.out ZW.out O2.out S3.out ?_; intro w3 hm3 hw3 hz3; go_simp)
    | (refine wpList_load_row rfl 45 (.tmp 1) rfl w.heap.size rfl 45 cs (0, 0) _ ((hw3.out.block _ (heap_lt HG2.out) (by simp; omega)).trans HG2.out) Tryd.underlying45 rfl Z2.out ?_; go_simp)
    | (refine wpList_load_row rfl 45 (.tmp 3) rfl w1.heap.size rfl 45 ns (0, 0) _ hm3.out Tryd.underlying45 rfl Z3.out ?_; go_simp)
    | (refine wpList_eql_agg rfl 45 (.tmp 58) (.tmp 59) 45 rfl cs ns res rfl rfl eqGuardRec (HEQ.out _) ?_; go_simp))
  have HB3 := HB2.out.grown hw3.out HB2.out.size (fun k e => by injection e with e; omega)
  go_ret
  exact ⟨rfl, HB3, he.below HB3⟩

set_option maxRecDepth 100000 in
set_option maxHeartbeats 2000000 in
theorem right_a_no (h16 : ad.length = 16) (he : Env w) (hs1 : nm.size ≤ maxLen) (h0 : gosB nm = true) (h2 : btw 0 ttl 1048576 = true) (h4 : (ad == pre4 ++ ad.drop 12) = false) :
    Calls Tryd.prog 42 #[.agg (RV.cells ⟨nm, 1, ttl, ad, tx, da⟩)] w fun e w' => e = .returned (.bool false) ∧ Below w.heap.size w w' ∧ Env w' := by
  have HC1 := Lib.hid (RV.c1 ⟨nm, 1, ttl, ad, tx, da⟩)
  have HC2 := Lib.hid (RV.c2 ⟨nm, 1, ttl, ad, tx, da⟩)
  have HSU : Hid (∀ j v, (bvs ad).toArray.toList[j]? = some v → (RV.cells ⟨nm, 1, ttl, ad, tx, da⟩)[3 + j]? = some v) := Lib.hid (RV.sub3 (r := ⟨nm, 1, ttl, ad, tx, da⟩) h16)
  have c0 := RV.c0 ⟨nm, 1, ttl, ad, tx, da⟩
  have C := goesOut_any nm (w.alloc (.cells (RV.cells ⟨nm, 1, ttl, ad, tx, da⟩) 45)) (he.alloc _) hs1
  rw [h0] at C
  have D1 : ∀ W, Calls Tryd.prog 24 #[.int .i64 1, .int .i64 1, .int .i64 65535] W fun e w' => e = .returned (.bool true) ∧ W = w' := fun W => between_any 1 1 65535 W
  have D2 := fun (W : World) => between_any 0 ttl 1048576 W
  rw [h2] at D2
  have I4 := fun (W : World) => is4_any ad h16 W
  rw [h4] at I4
  have BU := Lib.hid (builtRec nm 1 ttl)
  have ZR := Lib.hid zeroRec
  have Z1 := Lib.hid (sizeRv (r := ⟨nm, 1, ttl, zero16, emp, emp⟩) rfl)
  have Z4 := Lib.hid (sizeBv h16)
  have O1 := Lib.hid (RV.one ⟨nm, 1, ttl, zero16, emp, emp⟩)
  have ZZ : Hid ((RV.cells ⟨emp, 0, 0, zero16, emp, emp⟩).size = (RV.cells ⟨nm, 1, ttl, zero16, emp, emp⟩).size) := Lib.hid rfl
  revert HC1 HC2 HSU c0 C I4 BU ZR Z1 Z4 O1 ZZ
  generalize RV.cells ⟨nm, 1, ttl, ad, tx, da⟩ = cs
  generalize RV.cells ⟨nm, 1, ttl, zero16, emp, emp⟩ = ms
  generalize RV.cells ⟨emp, 0, 0, zero16, emp, emp⟩ = zs
  generalize (bvs ad).toArray = A
  intro HC1 HC2 HSU c0 C I4 BU ZR Z1 Z4 O1 ZZ
  clear h0 h2 h4 h16
  go_enter Tryd.func42, Tryd.ntmps42
  go_wp2_with fail
  refine C.mono ?_; rintro e w1 ⟨rfl, hb1, he1⟩
  have hg1 := heap_keep hb1
  have d0 := (cell_of_row w1 _ 0 _ _ _ hg1).trans c0
  have d1 := (cell_of_row w1 _ 1 _ _ _ hg1).trans HC1.out
  have d2 := (cell_of_row w1 _ 2 _ _ _ hg1).trans HC2.out
  have hl1 := heap_lt hg1
  have HG1 := Lib.hid hg1
  have HB1 := Lib.hid (((Below.refl _ w).alloc (Nat.le_refl _) _).trans (hb1.mono (by simp)))
  have HE1 := Lib.hid he1
  clear hg1 hb1 he1 C c0
  go_wp2_with fail
  refine (D1 _).mono ?_; rintro e w' ⟨rfl, rfl⟩
  go_wp2_with fail
  refine (D2 _).mono ?_; rintro e w' ⟨rfl, rfl⟩
  clear D1 D2
  go_wp2_with (first
    | (refine wpList_build_v rfl 45 #[(0, .tmp 21), (1, .tmp 23), (2, .tmp 25)] rfl [(0, .string nm), (1, .int .i64 1), (2, .int .i64 ttl)] ms BU.out rfl ?_; go_simp)
    | (refine wpList_alloc_z rfl 45 rfl zs ZR.out ?_; go_simp)
    | (refine wpList_store_new rfl 45 (.tmp 3) (.tmp 26) rfl w1.heap.size rfl zs ms 45 rfl rfl Z1.out ZZ.out O1.out ?_; go_simp)
    | (refine wpList_load_agg rfl 40 (.tmp 37) rfl ⟨w.heap.size, 3, none⟩ rfl A _ (cells_sub ((Below.heap_alloc w1 _ _ hl1).trans HG1.out) HSU.out) Tryd.underlying40 rfl Z4.out ?_; go_simp))
  refine (I4 _).mono ?_; rintro e w2 ⟨rfl, hb2⟩
  have HB2 := HB1.out.alloc (Nat.le_of_lt hl1) (.cells ms 45)
  have HB3 := HB2.trans (hb2.mono (by rw [World.size_alloc]; omega))
  clear hb2 HB2
  go_wp2_with fail
  go_ret
  exact ⟨rfl, HB3, he.below HB3⟩

set_option maxRecDepth 100000 in
set_option maxHeartbeats 2000000 in
theorem right_aaaa (h16 : ad.length = 16) (he : Env w) (hs1 : nm.size ≤ maxLen) (h0 : gosB nm = true) (h2 : btw 0 ttl 1048576 = true) :
    Calls Tryd.prog 42 #[.agg (RV.cells ⟨nm, 28, ttl, ad, tx, da⟩)] w fun e w' => e = .returned (.bool (RV.eqB ⟨nm, 28, ttl, ad, tx, da⟩ ⟨nm, 28, ttl, ad, emp, emp⟩)) ∧ Below w.heap.size w w' ∧ Env w' := by
  have HC1 := Lib.hid (RV.c1 ⟨nm, 28, ttl, ad, tx, da⟩)
  have HC2 := Lib.hid (RV.c2 ⟨nm, 28, ttl, ad, tx, da⟩)
  have HSU : Hid (∀ j v, (bvs ad).toArray.toList[j]? = some v → (RV.cells ⟨nm, 28, ttl, ad, tx, da⟩)[3 + j]? = some v) := Lib.hid (RV.sub3 (r := ⟨nm, 28, ttl, ad, tx, da⟩) h16)
  have c0 := RV.c0 ⟨nm, 28, ttl, ad, tx, da⟩
  have C := goesOut_any nm (w.alloc (.cells (RV.cells ⟨nm, 28, ttl, ad, tx, da⟩) 45)) (he.alloc _) hs1
  rw [h0] at C
  have D1 : ∀ W, Calls Tryd.prog 24 #[.int .i64 1, .int .i64 28, .int .i64 65535] W fun e w' => e = .returned (.bool true) ∧ W = w' := fun W => between_any 1 28 65535 W
  have D2 := fun (W : World) => between_any 0 ttl 1048576 W
  rw [h2] at D2
  have EQ := fun (W : World) => eq_recs W (r := ⟨nm, 28, ttl, ad, tx, da⟩) (s := ⟨nm, 28, ttl, ad, emp, emp⟩) h16 h16
  have BU := Lib.hid (builtRec nm 28 ttl)
  have ZR := Lib.hid zeroRec
  have S3 : Hid (((RV.cells ⟨nm, 28, ttl, zero16, emp, emp⟩).toList.take 3 ++ (bvs ad).toArray.toList ++ (RV.cells ⟨nm, 28, ttl, zero16, emp, emp⟩).toList.drop (3 + (bvs ad).toArray.size)).toArray = RV.cells ⟨nm, 28, ttl, ad, emp, emp⟩) := Lib.hid (RV.set3 (r := ⟨nm, 28, ttl, zero16, emp, emp⟩) rfl h16)
  have Z1 := Lib.hid (sizeRv (r := ⟨nm, 28, ttl, zero16, emp, emp⟩) rfl)
  have Z2 := Lib.hid (sizeRv (r := ⟨nm, 28, ttl, ad, tx, da⟩) h16)
  have Z3 := Lib.hid (sizeRv (r := ⟨nm, 28, ttl, ad, emp, emp⟩) h16)
  have Z4 := Lib.hid (sizeBv h16)
  have O1 := Lib.hid (RV.one ⟨nm, 28, ttl, zero16, emp, emp⟩)
  have O2 := Lib.hid (oneBv ad)
  have ZZ : Hid ((RV.cells ⟨emp, 0, 0, zero16, emp, emp⟩).size = (RV.cells ⟨nm, 28, ttl, zero16, emp, emp⟩).size) := Lib.hid rfl
  have ZW : Hid (3 + (bvs ad).toArray.size ≤ (RV.cells ⟨nm, 28, ttl, zero16, emp, emp⟩).size) := Lib.hid (by rw [List.size_toArray, bvs_length, h16, RV.size rfl]; omega)
  revert HC1 HC2 HSU c0 C EQ BU ZR S3 Z1 Z2 Z3 Z4 O1 O2 ZZ ZW
  generalize RV.eqB ⟨nm, 28, ttl, ad, tx, da⟩ ⟨nm, 28, ttl, ad, emp, emp⟩ = res
  generalize RV.cells ⟨nm, 28, ttl, ad, tx, da⟩ = cs
  generalize RV.cells ⟨nm, 28, ttl, zero16, emp, emp⟩ = ms
  generalize RV.cells ⟨nm, 28, ttl, ad, emp, emp⟩ = ns
  generalize RV.cells ⟨emp, 0, 0, zero16, emp, emp⟩ = zs
  generalize (bvs ad).toArray = A
  intro HC1 HC2 HSU c0 C EQ BU ZR S3 Z1 Z2 Z3 Z4 O1 O2 ZZ ZW
  have HEQ := Lib.hid EQ
  clear EQ h0 h2 h16
  go_enter Tryd.func42, Tryd.ntmps42
  go_wp2_with fail
  refine C.mono ?_; rintro e w1 ⟨rfl, hb1, he1⟩
  have hg1 := heap_keep hb1
  have d0 := (cell_of_row w1 _ 0 _ _ _ hg1).trans c0
  have d1 := (cell_of_row w1 _ 1 _ _ _ hg1).trans HC1.out
  have d2 := (cell_of_row w1 _ 2 _ _ _ hg1).trans HC2.out
  have hl1 := heap_lt hg1
  have HG1 := Lib.hid hg1
  have HB1 := Lib.hid (((Below.refl _ w).alloc (Nat.le_refl _) _).trans (hb1.mono (by simp)))
  have HE1 := Lib.hid he1
  clear hg1 hb1 he1 C c0
  go_wp2_with fail
  refine (D1 _).mono ?_; rintro e w' ⟨rfl, rfl⟩
  go_wp2_with fail
  refine (D2 _).mono ?_; rintro e w' ⟨rfl, rfl⟩
  clear D1 D2
  have hgk := Lib.hid ((Below.heap_alloc w1 (.cells ms 45) _ hl1).trans HG1.out)
  go_wp2_with (first
    | (refine wpList_build_v rfl 45 #[(0, .tmp 21), (1, .tmp 23), (2, .tmp 25)] rfl [(0, .string nm), (1, .int .i64 28), (2, .int .i64 ttl)] ms BU.out rfl ?_; go_simp)
    | (refine wpList_alloc_z rfl 45 rfl zs ZR.out ?_; go_simp)
    | (refine wpList_store_new rfl 45 (.tmp 3) (.tmp 26) rfl w1.heap.size rfl zs ms 45 rfl rfl Z1.out ZZ.out O1.out ?_; go_simp)
    | (refine wpList_load_agg rfl 40 (.tmp 41) rfl ⟨w.heap.size, 3, none⟩ rfl A _ (cells_sub (hgk.out) HSU.out) Tryd.underlying40 rfl Z4.out ?_; go_simp)
    | (refine wpList_store_sub rfl 40 (.tmp 43) (.tmp 42) rfl w1.heap.size 3 ms A ns 45 (heap_alloc_last w1 _) rfl rfl Z4.out ZW.out O2.out S3.out ?_; intro w3 hm3 hw3 hz3; go_simp)
    | (refine wpList_load_row rfl 45 (.tmp 1) rfl w.heap.size rfl 45 cs (0, 0) _ ((hw3.out.block _ (heap_lt hgk.out) (by simp; omega)).trans (hgk.out)) Tryd.underlying45 rfl Z2.out ?_; go_simp)
    | (refine wpList_load_row rfl 45 (.tmp 3) rfl w1.heap.size rfl 45 ns (0, 0) _ hm3.out Tryd.underlying45 rfl Z3.out ?_; go_simp)
    | (refine wpList_eql_agg rfl 45 (.tmp 58) (.tmp 59) 45 rfl cs ns res rfl rfl eqGuardRec (HEQ.out _) ?_; go_simp))
  have HB2 := HB1.out.alloc (Nat.le_of_lt hl1) (.cells ms 45)
  have HB3 := HB2.grown hw3.out HB2.size (fun k e => by injection e with e; omega)
  go_ret
  exact ⟨rfl, HB3, he.below HB3⟩
end
end Go.Proofs.YtakfokdjdljjjaaDoor
