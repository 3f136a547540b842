/-
  Outcomes, sources and folds as they lie in memory; the walks of slices.Clone, resolve.weight, resolve.copied and resolve.Both. Conditions: outcomes have no records; kinds are 1 to 5; at most 1000 sources.
-/
import Derived.Test.YtepcogbfoemcmaaDoorProg
import Derived.WalkKit
import Derived.ProofKit
import Derived.Outline
import Derived.WalkLawsBesides
import Derived.WalkSpells
import Derived.Lib.Hide
import Derived.Lib.SlBytesRow
import Derived.Lib.SliceRun
import Derived.BigQuiet
import Derived.Laws.CopyOwn
import Derived.Laws.ResultCell
import Derived.Deep.WholeRow
import Derived.Deep.AppendLies
import Derived.Laws.OwnMore
import Derived.Laws.BitsAllLaws
import Derived.Deep.QuietTactic
import Derived.ChangeSlices
import Derived.OpenShut
import Derived.OwnWalk
import Derived.StillTailTactics
import Derived.Deep.RegionLaw
import Derived.RegionTactic
import Derived.Deep.RegionHeld3
import Derived.Lib.OwnKind
import Derived.Deep.Heap
import Derived.Deep.MidRow
import Derived.Great.BuildSlice
import Derived.Deep.CutRange
import Derived.Laws.CopyRow
namespace Go.Proofs.YtepcogbfoemcmaaDoor
open Go.RowKit

theorem heap_lt {w : World} {g : Nat} {o : Obj} (h : w.heap[g]? = some o) : g < w.heap.size := (Array.getElem?_eq_some_iff.1 h).1
theorem ret_bool {a b : Bool} (h : a = b) : Ending.returned (.bool a) = .returned (.bool b) := by rw [h]
theorem ret_int {k : IntKind} {a b : Int} (h : a = b) : Ending.returned (.int k a) = .returned (.int k b) := by rw [h]
theorem grown_set (w : World) (g i : Nat) (v : Value) : w.grownBy (w.setCell ⟨g, i, none⟩ v) (some g) := ⟨rfl, rfl, rfl, by simp, fun k _ hk => Below.heap_setCell _ _ _ _ (fun e => hk (by rw [e]))⟩
theorem grown_trans {a b c : World} {g : Nat} (h : a.grownBy b (some g)) (k : b.grownBy c (some g)) : a.grownBy c (some g) :=
  ⟨k.os.trans h.os, k.tape.trans h.tape, k.output.trans h.output, Nat.le_trans h.size k.size, fun i hi hne => (k.block i (Nat.lt_of_lt_of_le hi h.size) hne).trans (h.block i hi hne)⟩
theorem grown_below {a b : World} {g : Nat} (h : Below a.heap.size a b) : a.grownBy b (some g) := ⟨h.os, h.tape, h.output, h.size, fun k hk _ => h.block k hk⟩
section
variable {P : Program} {ops : Array Oper} {rest : List Oper} {o : Oper} {a : Act} {Q : Exit → Act → World → Prop}
/-- a whole value of several cells, from wherever -/
theorem wpList_load_agg {w : World} (hgd : o.guard = none) (ty : TypeId) (x : Operand) (ho : o.op = .load ty x) (p : Addr) (hx : a.eval x = .pointer (some p)) (cs : Array Value) (d : TypeDesc)
    (hc : ∀ j v, cs.toList[j]? = some v → w.cell? (p.add j) = some v)
    (hu : P.underlying ty = some d) (hd : (match d with | .struct _ | .array _ _ => true | _ => false) = true) (hi : (P.info? ty).map (·.size) = some cs.size)
    (h : wpList P ops Q rest (a.put o.dst (.agg cs)) w) : wpList P ops Q (o :: rest) a w :=
  wpList_plain hgd fun _ hK => by
    have hl := run_loadCells_list (P := P) w p cs.toList hc
    cases hq : P.info? ty with
    | none => simp [hq] at hi
    | some i =>
      have hs : i.size = cs.size := by simpa [hq] using hi
      have hagg : (isAgg ty).run P w = .ok true w := by
        unfold isAgg
        rw [Sem.run_bind, run_underlying hu w]
        cases d <;> simp_all
      have hlv : (loadVar ty p).run P w = .ok (.agg cs) w := by
        simp only [Array.length_toList, Array.toArray_toList] at hl
        simp [loadVar, Sem.run_bind, hagg, sizeOf, typeInfo, hq, hs, hl]
      unfold Oper.wp execOp
      simp only [ho, hx, Instr.loadAt, Instr.sureAddr, Sem.run_bind, Sem.run_pure, Result.andThen_ok, hlv]
      exact hK _ _ h
/-- a whole value into the block that was made last -/
theorem wpList_store_new {W : World} (hgd : o.guard = none) (ty : TypeId) (x y : Operand) (ho : o.op = .store ty x y) (g : Nat) (hg : W.heap.size = g) (z cells : Array Value) (t : TypeId)
    (hx : a.eval x = .pointer (some ⟨g, 0, none⟩)) (hy : a.eval y = .agg cells) (hi : (P.info? ty).map (·.size) = some cells.size) (hz : z.size = cells.size) (h1 : cells.all (·.oneCell') = true)
    (h : wpList P ops Q rest (a.put o.dst undef) (W.alloc (.cells cells t))) : wpList P ops Q (o :: rest) a (W.alloc (.cells z t)) := by
  subst hg
  exact wpList_store_row hgd ty x y ho W.heap.size cells hx hy t z (heap_alloc_last W _) hi hz h1 (by rw [World.setRow_alloc_new]; exact h)
/-- a whole value into a block of which all is known -/
theorem wpList_store_blk {w : World} (hgd : o.guard = none) (ty : TypeId) (x y : Operand) (ho : o.op = .store ty x y) (g : Nat) (z cells : Array Value) (t : TypeId) (hg : w.heap[g]? = some (.cells z t (0, 0)))
    (hx : a.eval x = .pointer (some ⟨g, 0, none⟩)) (hy : a.eval y = .agg cells) (hi : (P.info? ty).map (·.size) = some cells.size) (hz : z.size = cells.size) (h1 : cells.all (·.oneCell') = true)
    (h : ∀ w', Hid (w'.heap[g]? = some (.cells cells t (0, 0))) → Hid (w.grownBy w' (some g)) → w'.heap.size = w.heap.size → wpList P ops Q rest (a.put o.dst undef) w') : wpList P ops Q (o :: rest) a w :=
  wpList_store_row hgd ty x y ho g cells hx hy t z hg hi hz h1
    (h _ (setRow_heap w g z cells t _ hg) ⟨rfl, rfl, rfl, by simp, fun k _ hk => setRow_other w g k cells (fun e => hk (by rw [e]))⟩ (by simp))
/-- a value of several cells into a part of a block of which all is known -/
theorem wpList_store_sub {w : World} (hgd : o.guard = none) (ty : TypeId) (x y : Operand) (ho : o.op = .store ty x y) (g off : Nat) (z cells z' : Array Value) (t : TypeId) (hg : w.heap[g]? = some (.cells z t (0, 0)))
    (hx : a.eval x = .pointer (some ⟨g, off, none⟩)) (hy : a.eval y = .agg cells) (hi : (P.info? ty).map (·.size) = some cells.size) (hz : off + cells.size ≤ z.size) (h1 : cells.all (·.oneCell') = true)
    (he : (z.toList.take off ++ cells.toList ++ z.toList.drop (off + cells.size)).toArray = z')
    (h : ∀ w', Hid (w'.heap[g]? = some (.cells z' t (0, 0))) → Hid (w.grownBy w' (some g)) → w'.heap.size = w.heap.size → wpList P ops Q rest (a.put o.dst undef) w') : wpList P ops Q (o :: rest) a w :=
  wpList_plain hgd fun _ hK => by
    have hst := run_storeCells_at P g off t cells.toList 0 z w hg (by simpa using hz) (fun v hv => (Array.all_eq_true_iff_forall_mem.1 h1) v (by simpa using hv))
    simp only [Nat.add_zero, Array.length_toList, he] at hst
    have hsv : (storeVar ty ⟨g, off, none⟩ (.agg cells)).run P w = .ok () (w.setRow g z') := by
      cases hq : P.info? ty with
      | none => simp [hq] at hi
      | some i =>
        have hs : cells.size = i.size := by simp [hq] at hi; omega
        simp [storeVar, sizeOf, typeInfo, hq, Value.cells, hs, hst]
    unfold Oper.wp execOp
    simp only [ho, hx, hy, Instr.storeAt, Instr.sureAddr, Sem.run_bind, Sem.run_pure, Result.andThen_ok, hsv]
    exact hK _ _ (h _ (setRow_heap w g z z' t _ hg) ⟨rfl, rfl, rfl, by simp, fun k _ hk => setRow_other w g k z' (fun e => hk (by rw [e]))⟩ (by simp))
/-- a new variable, what it holds under a name -/
theorem wpList_alloc_z {w : World} (hgd : o.guard = none) (ty : TypeId) (ho : o.op = .alloc ty) (z : Array Value) (hz : (P.info? ty).map (·.zero) = some (some (.agg z)))
    (h : wpList P ops Q rest (a.put o.dst (.pointer (some ⟨w.heap.size, 0, none⟩))) (w.alloc (.cells z ty))) : wpList P ops Q (o :: rest) a w :=
  wpList_plain hgd fun _ hK => by
    have hzr : (zeroValue ty).run P w = .ok (.agg z) w := by
      cases hq : P.info? ty with
      | none => simp [hq] at hz
      | some i =>
        have : i.zero = some (.agg z) := by simpa [hq] using hz
        simp [zeroValue, typeInfo, hq, this]
    unfold Oper.wp execOp
    simp only [ho, Instr.alloc, newVar, newRow, Sem.run_bind, hzr, Result.andThen_ok, run_newObj_alloc, Sem.run_pure, Value.cells]
    exact hK _ _ h
/-- a value built of parts, under a name -/
theorem wpList_build_z {w : World} (hgd : o.guard = none) (t : TypeId) (parts : Array (Nat × Operand)) (ho : o.op = .build t parts) (cs : Array Value) (hf : P.built t (parts.toList.map fun (i, x) => (i, a.eval x)) = some cs)
    (h : wpList P ops Q rest (a.put o.dst (.agg cs)) w) : wpList P ops Q (o :: rest) a w := by
  have hf' : P.built t (parts.map fun (i, x) => (i, a.eval x)).toList = some cs := by rw [Array.toList_map]; exact hf
  exact wpList_build hgd t parts ho (by rw [hf']; rfl) (by rw [hf']; exact h)
end
/-- these elements' cells lie where a slice says: elements of k cells each -/
structure RowIn (k : Nat) (w : World) (v : Value) (n : Nat) (xs : List Value) : Prop where
  len : xs.length = n * k
  one : ∀ u ∈ xs, u.oneCell' = true
  at' : (v = .slice none 0 0 ∧ n = 0) ∨ ∃ (a : Addr) (c : Nat), v = .slice (some a) n c ∧ n ≤ c ∧ ∀ j u, xs[j]? = some u → w.cell? (a.add j) = some u
theorem RowIn.nil (k : Nat) (w : World) : RowIn k w (.slice none 0 0) 0 [] := ⟨by simp, (fun u hu => by cases hu), .inl ⟨rfl, rfl⟩⟩
theorem RowIn.of_own {t : TypeId} {k : Nat} {w : World} {b n : Nat} {v : Value} {xs : List Value} (h : w.ownsRow b t k v n xs) (h1 : ∀ u ∈ xs, u.oneCell' = true) : RowIn k w v n xs := by
  refine ⟨h.1, h1, ?_⟩
  rcases h.2 with h0 | ⟨g, cap, cur, rfl, hb, hg, hcap, hcm, hcs, hx⟩
  · exact .inl h0
  · exact .inr ⟨⟨g, 0, none⟩, cap, rfl, hcap, World.ownsRow.cells (w := w) (base := b) (e := t) (size := k) (v := .slice (some ⟨g, 0, none⟩) n cap) (n := n) (xs := xs) ⟨h.1, .inr ⟨g, cap, cur, rfl, hb, hg, hcap, hcm, hcs, hx⟩⟩ (g := g) rfl⟩
theorem RowIn.below {k : Nat} {w w' : World} {v : Value} {n : Nat} {xs : List Value} (h : RowIn k w v n xs) (hb : Below w.heap.size w w') : RowIn k w' v n xs := by
  refine ⟨h.len, h.one, ?_⟩
  rcases h.at' with h0 | ⟨a, c, rfl, hc0, hc⟩
  · exact .inl h0
  · exact .inr ⟨a, c, rfl, hc0, fun j u hj => by
      have := hc j u hj
      exact (hb.cell (World.block_lt_of_cell? w _ this)).trans this⟩
/-- block T alone is written, and that is not where they lie -/
theorem RowIn.kept {k T : Nat} {w w' : World} {v : Value} {n : Nat} {xs : List Value} (h : RowIn k w v n xs) (hne : xs ≠ [] → v.ownBlock ≠ some T) (hw : w.grownBy w' (some T)) : RowIn k w' v n xs := by
  refine ⟨h.len, h.one, ?_⟩
  rcases h.at' with h0 | ⟨a, c, rfl, hc0, hc⟩
  · exact .inl h0
  · exact .inr ⟨a, c, rfl, hc0, fun j u hj => by
      have := hc j u hj
      have hn := hne (fun e => by rw [e] at hj; cases hj)
      exact hw.cell this (fun e => hn (by
        obtain ⟨b, o, s⟩ := a
        unfold Addr.add at e
        show some b = some T
        split at e <;> exact e))⟩
theorem RowIn.form {k : Nat} {w : World} {v : Value} {n : Nat} {xs : List Value} (h : RowIn k w v n xs) : ∃ A c, v = .slice A n c := by
  rcases h.at' with ⟨rfl, rfl⟩ | ⟨a, c, rfl, _⟩
  · exact ⟨_, _, rfl⟩
  · exact ⟨_, _, rfl⟩
def ClPost (t : TypeId) (k n : Nat) (xs : List Value) (w : World) (e : Ending) (w' : World) : Prop := ∃ v, e = .returned v ∧ w'.ownsRow w.heap.size t k v n xs ∧ Below w.heap.size w w'
theorem info_src : ∃ (i : TypeInfo) (z : Value), Tryd.prog.info? 44 = some i ∧ i.zero = some z ∧ z.cells.size = 6 ∧ i.size = 6 ∧ i.bytes = 16 := by
  have h : (Tryd.prog.info? 44).map (fun i => (i.zero.map (·.cells.size), i.size, i.bytes)) = some (some 6, 6, 16) := by kernel_rfl
  cases hq : Tryd.prog.info? 44 with
  | none => rw [hq] at h; cases h
  | some i0 =>
    rw [hq] at h
    simp only [Option.map_some, Option.some.injEq, Prod.mk.injEq] at h
    cases hz : i0.zero with
    | none => rw [hz] at h; cases h.1
    | some z =>
      rw [hz] at h
      have h1 := h.1
      injection h1 with h1
      exact ⟨i0, z, rfl, hz, h1, h.2.1, h.2.2⟩
set_option maxRecDepth 100000 in
theorem clone_src {w : World} {v : Value} {n : Nat} {xs : List Value} (h : RowIn 6 w v n xs) (hn : n ≤ 1000) : Calls Tryd.prog 32 #[v] w fun e w' => ClPost 44 6 n xs w e w' := by
  obtain ⟨hl, h1, h0 | ⟨a, c, rfl, hc0, hc⟩⟩ := h
  · obtain ⟨rfl, rfl⟩ := h0
    obtain rfl : xs = [] := List.length_eq_zero_iff.1 (by omega)
    clear h1
    have q41 : ∀ (w : World) (a : Option Addr) (n c n' c' : Nat), (binOp .eql 45 (.slice a n c) (.slice none n' c')).run Tryd.prog w = .ok (.bool a.isNone) w := fun w a n c n' c' => Lib.run_eql_slice_nil w _ _ a n c n' c' Tryd.underlying45
    go_enter Tryd.func32, Tryd.ntmps32
    go_wp2
    go_ret
    exact ⟨_, rfl, World.ownsRow_nil _ _ _ _, Below.refl _ _⟩
  · obtain ⟨i0, z, hi, hz, hzc, hs, hb⟩ := info_src
    have HL := Lib.hid hl
    have H1 := Lib.hid h1
    have HC := Lib.hid hc
    have HI := Lib.hid hi
    have HZ := Lib.hid hz
    have HZC := Lib.hid hzc
    have HS := Lib.hid hs
    have HBY := Lib.hid hb
    clear hl h1 hc hi hz hzc hs hb hc0
    have q41 : ∀ (w : World) (a : Option Addr) (n c n' c' : Nat), (binOp .eql 45 (.slice a n c) (.slice none n' c')).run Tryd.prog w = .ok (.bool a.isNone) w := fun w a n c n' c' => Lib.run_eql_slice_nil w _ _ a n c n' c' Tryd.underlying45
    go_enter Tryd.func32, Tryd.ntmps32
    go_wp2_with (first
      | (at_builtin; refine wpList_append_own _ rfl _ _ 45 rfl w.heap.size 44 i0 z 6 16 Tryd.underlying45 HI.out HZ.out HS.out HBY.out HZC.out (by decide) _ _ _ rfl (World.ownsRow_made w #[] 0 (Nat.le_refl _) (Nat.zero_le _) (by simp)) a n c xs rfl HL.out (fun j u hj => Lib.cell?_alloc_some _ (HC.out j u hj)) H1.out (by unfold maxLen; omega) (by omega) (by simp) ?_; intro v1 w1 ho hg hnil; clear hnil; have HO := Lib.hid ho; have HB := Lib.hid (((Below.refl _ w).alloc (Nat.le_refl _) (.cells #[] 44)).grown hg (by simp) (fun k hk => Nat.le_of_eq (Option.some.inj hk))); clear ho hg; go_simp))
    go_ret
    exact ⟨_, rfl, by have := HO.out; simpa using this, HB.out⟩
/-- slices.Clone of no records -/
theorem clone_rec0 (w : World) : Calls Tryd.prog 37 #[.slice none 0 0] w fun e w' => e = .returned (.slice none 0 0) ∧ w = w' := by
  have q41 : ∀ (w : World) (a : Option Addr) (n c n' c' : Nat), (binOp .eql 27 (.slice a n c) (.slice none n' c')).run Tryd.prog w = .ok (.bool a.isNone) w := fun w a n c n' c' => Lib.run_eql_slice_nil w _ _ a n c n' c' Tryd.underlying27
  go_enter Tryd.func37, Tryd.ntmps37
  go_wp2
  go_ret
  exact ⟨rfl, rfl⟩
/-- how much an outcome of a kind tells -/
def wt (k : Int) : Int := if k = 1 then 5 else if k = 4 then 4 else if k = 5 then 3 else if k = 2 then 2 else if k = 3 then 1 else 0
theorem weight_e (k : Int) (h1 : 1 ≤ k) (h5 : k ≤ 5) (w : World) : Calls Tryd.prog 38 #[.int .i64 k] w fun e w' => e = .returned (.int .i64 (wt k)) ∧ w = w' := by
  rcases (show k = 1 ∨ k = 2 ∨ k = 3 ∨ k = 4 ∨ k = 5 by omega) with rfl | rfl | rfl | rfl | rfl
  all_goals
    clear h1 h5
    go_enter Tryd.func38, Tryd.ntmps38
    go_wp2
    go_ret
    exact ⟨rfl, rfl⟩
/-- an outcome without records -/
structure Oc where
  s : Int
  c : Int
  k : Int
def Oc.cells (o : Oc) : Array Value := #[.int .i64 o.s, .int .i64 o.c, .int .i64 o.k, .slice none 0 0]
def zO : Oc := ⟨0, 0, 0⟩
theorem zeroO : (Tryd.prog.info? 29).map (·.zero) = some (some (.agg zO.cells)) := by kernel_rfl
theorem sizeO4 : (Tryd.prog.info? 29).map (·.size) = some 4 := by kernel_rfl
theorem sizeO (o : Oc) : (Tryd.prog.info? 29).map (·.size) = some o.cells.size := sizeO4
theorem Oc.one (o : Oc) : o.cells.all (·.oneCell') = true := by simp [Oc.cells, Value.oneCell']
theorem Oc.setR (o : Oc) : o.cells.setIfInBounds 3 (.slice none 0 0) = o.cells := rfl
set_option maxRecDepth 100000 in
theorem copied_e (o : Oc) (w : World) : Calls Tryd.prog 33 #[.agg o.cells] w fun e w' => e = .returned (.agg o.cells) ∧ Below w.heap.size w w' := by
  have HZ := Lib.hid zeroO
  have HS := Lib.hid (sizeO o)
  have HE : Hid (zO.cells.size = o.cells.size) := Lib.hid rfl
  have H1 := Lib.hid o.one
  have HC3 : Hid (o.cells[3]? = some (.slice none 0 0)) := Lib.hid rfl
  have HSet := Lib.hid o.setR
  generalize o.cells = C at HS HE H1 HC3 HSet ⊢
  generalize zO.cells = Z at HZ HE
  have b1 := heap_alloc_last w (.cells C 29)
  have b2 := heap_alloc_last (w.alloc (.cells C 29)) (.cells Z 29)
  have l1 := (Below.refl _ w).alloc (Nat.le_refl _) (.cells C 29)
  have l2 := (Below.refl _ (w.alloc (.cells C 29))).alloc (Nat.le_refl _) (.cells Z 29)
  simp only [World.size_alloc] at b2
  have b1' := (l2.block w.heap.size (by simp only [World.size_alloc]; omega)).trans b1
  have HB := Lib.hid (l1.trans (l2.mono l1.size))
  have HM1 := Lib.hid b1'
  have HM2 := Lib.hid b2
  clear b1 b2 l1 l2 b1'
  go_enter Tryd.func33, Tryd.ntmps33
  go_upto_region 1 with (first
    | (refine wpList_alloc_z rfl 29 rfl Z HZ.out ?_; go_simp))
  clear HZ
  generalize (w.alloc (.cells C 29)).alloc (.cells Z 29) = W0 at HB HM1 HM2 ⊢
  have d3 := (cell_of_row _ w.heap.size 3 _ _ _ HM1.out).trans HC3.out
  have f3 := frozen_of_row W0 w.heap.size 3 _ _ HM1.out
  have HN1 : Hid ((W0.setCell ⟨w.heap.size, 3, none⟩ (.slice none 0 0)).heap[w.heap.size]? = some (.cells C 29 (0, 0))) := Lib.hid (by
    have := heap_setCell_same W0 w.heap.size 3 _ _ (.slice none 0 0) HM1.out
    rwa [HSet.out] at this)
  have HN2 : Hid ((W0.setCell ⟨w.heap.size, 3, none⟩ (.slice none 0 0)).heap[w.heap.size + 1]? = some (.cells Z 29 (0, 0))) := Lib.hid ((Below.heap_setCell W0 ⟨w.heap.size, 3, none⟩ _ _ (by show w.heap.size + 1 ≠ w.heap.size; omega)).trans HM2.out)
  have HNB : Hid (Below w.heap.size w (W0.setCell ⟨w.heap.size, 3, none⟩ (.slice none 0 0))) := Lib.hid (HB.out.setCell (p := ⟨w.heap.size, 3, none⟩) (Nat.le_refl _) _)
  clear HB HM1 HM2 HC3 HSet
  go_upto_region 2 with (first
    | (go_at_call 37; refine (clone_rec0 _).mono ?_; rintro e w2 ⟨rfl, rfl⟩))
  generalize W0.setCell ⟨w.heap.size, 3, none⟩ (.slice none 0 0) = W1 at HN1 HN2 HNB ⊢
  clear d3 f3
  go_wp2_with (first
    | (refine wpList_load_row rfl 29 (.tmp 1) rfl w.heap.size rfl 29 C (0, 0) _ HN1.out Tryd.underlying29 rfl HS.out ?_; go_simp)
    | (refine wpList_store_blk rfl 29 (.tmp 2) (.tmp 7) rfl (w.heap.size + 1) Z C 29 HN2.out rfl rfl HS.out HE.out H1.out ?_; intro w9 hg9 hw9 hz9; go_simp))
  exact bodyPost_ret (results_cell_row rfl _ w9 (w.heap.size + 1) 29 C (0, 0) _ rfl hg9.out Tryd.underlying29 rfl HS.out) rfl ⟨rfl, HNB.out.grown hw9.out HNB.out.size (fun k e => by injection e with e; omega)⟩
end Go.Proofs.YtepcogbfoemcmaaDoor
