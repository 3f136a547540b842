/-
  What the walk of LabelParts leans on: label.Join and label.Count by contract, a map of two entries, and that no part has a point. Conditions: each states its own.
-/
import Derived.Test.YtpbjijjeglpakaaDoorLaw
import Derived.Lib.Join
import Derived.Maps.OwnOps
import Derived.Maps.Keyed
import Derived.WideMake
import Derived.IntWalk
import Derived.Deep.RegionWith
namespace Go.Proofs.YtpbjijjeglpakaaDoor
open Go.RowKit

theorem join_jn (xs : List (List UInt8)) : Lib.join xs [46] = jn xs := by
  induction xs with
  | nil => rfl
  | cons x t ih =>
    cases t with
    | nil => rw [Lib.join_one]; rfl
    | cons y t =>
      rw [jn_cons x (by simp), ← ih]
      unfold Lib.join
      simp [List.intercalate]

set_option maxHeartbeats 400000 in
theorem join_e (b c : Nat) (xs : List ByteArray) (w : World) (he : Env w) (h : Strs w b xs) (hc : xs.length ≤ c) (h0 : xs.length ≤ 140737488355328) (hl : (jn (xs.map (·.data.toList))).length ≤ 140737488355328) :
    Calls Tryd.prog 14 #[.slice (some ⟨b, 0, none⟩) xs.length c] w fun e w' => e = .returned (.string ⟨(jn (xs.map (·.data.toList))).toArray⟩) ∧ Below w.heap.size w w' ∧ Env w' := by
  have hj := Tryd.strings_Join b 0 c xs ⟨#[46]⟩ w (fun j x hx => by
    have hj : j < xs.length := by
      rcases Nat.lt_or_ge j xs.length with h' | h'
      · exact h'
      · rw [List.getElem?_eq_none h'] at hx; cases hx
    rw [h.2 j hj]
    simp [List.getD, hx]) h.1 h0 hc (by rw [show (ByteArray.mk #[46]).data.toList = [46] from rfl, join_jn]; exact hl)
  rw [show (ByteArray.mk #[46]).data.toList = [46] from rfl, join_jn] at hj
  go_enter Tryd.func14, Tryd.ntmps14
  go_wp2_with fail
  refine hj.mono ?_; rintro e w' ⟨rfl, hb⟩
  have he' := he.below hb
  go_wp2
  go_ret
  exact ⟨rfl, hb, he'⟩

/-- how many labels a domain has -/
def cntB (s : ByteArray) : Nat := if s.toList == [46] then 0 else (pieces s).length
set_option maxHeartbeats 400000 in
theorem count_e (s : ByteArray) (w : World) (he : Env w) (hs : s.size < 4294967281) :
    Calls Tryd.prog 15 #[.string s] w fun e w' => e = .returned (.int .i64 (cntB s)) ∧ Below w.heap.size w w' ∧ Env w' := by
  cases hd : (s.toList == [46])
  · have HD := Lib.hid (show cntB s = (pieces s).length by unfold cntB; rw [hd]; rfl)
    go_enter Tryd.func15, Tryd.ntmps15
    go_wp2_with fail
    refine (split_e s w he hs).mono ?_; rintro e w1 ⟨b, rfl, hb1, he1, hs1, hg1⟩
    go_wp2
    go_ret
    exact ⟨by rw [HD.out]; rfl, hb1, he1⟩
  · have HD := Lib.hid (show cntB s = 0 by unfold cntB; rw [hd]; rfl)
    go_enter Tryd.func15, Tryd.ntmps15
    go_wp2
    go_ret
    exact ⟨by rw [HD.out]; rfl, Below.refl _ _, he⟩

theorem count_next (s : ByteArray) (k : Nat) (h : k < s.size) : (s.data.toList.take (k + 1)).count 46 = (s.data.toList.take k).count 46 + if s[k] = 46 then 1 else 0 := by
  rw [take_snoc s k h, List.count_append]
  simp [List.count_cons]
theorem jn_part : ∀ (xs : List (List UInt8)) (x : List UInt8), x ∈ xs → x.length ≤ (jn xs).length
  | [], x, h => by cases h
  | [y], x, h => by
    rw [List.mem_singleton] at h; subst h; exact Nat.le_refl _
  | y :: z :: t, x, h => by
    rw [jn_cons y (by simp), List.length_append, List.length_cons]
    rcases List.mem_cons.1 h with rfl | h
    · omega
    · have := jn_part (z :: t) x h; omega
theorem piece_size (s : ByteArray) (k : Nat) (h : k < (pieces s).length) : ((pieces s).getD k ByteArray.empty).size ≤ s.size := by
  have hmem : (pieces s).getD k ByteArray.empty ∈ pieces s := by
    rw [List.getD, List.getElem?_eq_getElem h]; exact List.getElem_mem h
  have h1 : ((pieces s).getD k ByteArray.empty).data.toList ∈ sp s.data.toList := by
    rw [← pieces_data]; exact List.mem_map_of_mem hmem
  have := jn_part _ _ h1
  rw [jn_sp, ← Lib.size_eq, ← Lib.size_eq] at this
  exact this
theorem byte_eq46 (b : UInt8) : ((b.toNat : Int) == 46) = decide (b = 46) := by
  rw [Bool.eq_iff_iff, beq_iff_eq, decide_eq_true_iff]
  constructor
  · intro h; apply UInt8.toNat_inj.1; show b.toNat = 46; omega
  · rintro rfl; rfl
theorem piece_no_point (s : ByteArray) (k : Nat) (h : k < (pieces s).length) (m : Nat) (hm : m < ((pieces s).getD k ByteArray.empty).size) : ((((pieces s).getD k ByteArray.empty)[m].toNat : Int) == 46) = false := by
  rw [byte_eq46, decide_eq_false_iff_not]
  intro e
  have hmem : (pieces s).getD k ByteArray.empty ∈ pieces s := by
    rw [List.getD, List.getElem?_eq_getElem h]; exact List.getElem_mem h
  have h1 : ((pieces s).getD k ByteArray.empty).data.toList ∈ sp s.data.toList := by
    rw [← pieces_data]; exact List.mem_map_of_mem hmem
  apply sp_no_point _ _ h1
  have := Lib.data_getElem? _ m hm
  rw [e] at this
  exact List.mem_of_getElem? this

/-- the map that the law writes out: what it holds behind one store, and behind two -/
def ent1 : Array MapEntry := #[{ key := .bool true, val := .int .i64 0, born := 0 }]
def ent2 (n : Int) : Array MapEntry := #[{ key := .bool true, val := .int .i64 0, born := 0 }, { key := .bool false, val := .int .i64 n, born := 1 }]
theorem map_first (w : World) (b : Nat) (hb : w.heap[b]? = some (.map #[] 0)) :
    (Instr.mapUpdate 31 (.map (some b)) (.bool true) (.int .i64 0)).run Tryd.prog w = .ok () (ChangeMaps.setBlock w b (.map ent1 1)) := by
  have hf : Instr.findNow .bool (.bool true) ([] : List MapEntry) 0 = some none := rfl
  have hc : (Instr.checkKey false 10000 4 (.bool true)).run Tryd.prog w = .ok () w := MapKept.run_checkKey (k := .bool true) Tryd.underlying4 (by simp [MapKept.IsKey]) false 9999
  simp [Instr.mapUpdate, run_underlying Tryd.underlying31, MapKept.run_getObj_map hb, hc, MapKept.run_findKey Tryd.underlying4 hf, MapKept.run_setObj_map _ hb, Result.andThen, ChangeMaps.setBlock, ent1]
theorem map_second (w : World) (b : Nat) (n : Int) (hb : w.heap[b]? = some (.map ent1 1)) :
    (Instr.mapUpdate 31 (.map (some b)) (.bool false) (.int .i64 n)).run Tryd.prog w = .ok () (ChangeMaps.setBlock w b (.map (ent2 n) 2)) := by
  have hf : Instr.findNow .bool (.bool false) [{ key := .bool true, val := .int .i64 0, born := 0 }] 0 = some none := rfl
  have hc : (Instr.checkKey false 10000 4 (.bool false)).run Tryd.prog w = .ok () w := MapKept.run_checkKey (k := .bool false) Tryd.underlying4 (by simp [MapKept.IsKey]) false 9999
  simp [Instr.mapUpdate, run_underlying Tryd.underlying31, MapKept.run_getObj_map hb, hc, MapKept.run_findKey Tryd.underlying4 hf, MapKept.run_setObj_map _ hb, Result.andThen, ChangeMaps.setBlock, ent1, ent2]
def entF (n : Int) : Array MapEntry := #[{ key := .bool false, val := .int .i64 n, born := 0 }]
def ent2' (n : Int) : Array MapEntry := #[{ key := .bool false, val := .int .i64 n, born := 0 }, { key := .bool true, val := .int .i64 0, born := 1 }]
theorem map_first' (w : World) (b : Nat) (n : Int) (hb : w.heap[b]? = some (.map #[] 0)) :
    (Instr.mapUpdate 31 (.map (some b)) (.bool false) (.int .i64 n)).run Tryd.prog w = .ok () (ChangeMaps.setBlock w b (.map (entF n) 1)) := by
  have hf : Instr.findNow .bool (.bool false) ([] : List MapEntry) 0 = some none := rfl
  have hc : (Instr.checkKey false 10000 4 (.bool false)).run Tryd.prog w = .ok () w := MapKept.run_checkKey (k := .bool false) Tryd.underlying4 (by simp [MapKept.IsKey]) false 9999
  simp [Instr.mapUpdate, run_underlying Tryd.underlying31, MapKept.run_getObj_map hb, hc, MapKept.run_findKey Tryd.underlying4 hf, MapKept.run_setObj_map _ hb, Result.andThen, ChangeMaps.setBlock, entF]
theorem map_second' (w : World) (b : Nat) (n : Int) (hb : w.heap[b]? = some (.map (entF n) 1)) :
    (Instr.mapUpdate 31 (.map (some b)) (.bool true) (.int .i64 0)).run Tryd.prog w = .ok () (ChangeMaps.setBlock w b (.map (ent2' n) 2)) := by
  have hf : Instr.findNow .bool (.bool true) [{ key := .bool false, val := .int .i64 n, born := 0 }] 0 = some none := rfl
  have hc : (Instr.checkKey false 10000 4 (.bool true)).run Tryd.prog w = .ok () w := MapKept.run_checkKey (k := .bool true) Tryd.underlying4 (by simp [MapKept.IsKey]) false 9999
  simp [Instr.mapUpdate, run_underlying Tryd.underlying31, MapKept.run_getObj_map hb, hc, MapKept.run_findKey Tryd.underlying4 hf, MapKept.run_setObj_map _ hb, Result.andThen, ChangeMaps.setBlock, entF, ent2']
theorem map_look' (w : World) (b : Nat) (n : Int) (x : Bool) (hb : w.heap[b]? = some (.map (ent2' n) 2)) :
    (Instr.lookup 31 (.map (some b)) (.bool x) false).run Tryd.prog w = .ok (.int .i64 (if x then 0 else n)) w := by
  have hc : ∀ em, (Instr.checkKey em 10000 4 (.bool x)).run Tryd.prog w = .ok () w := fun em => MapKept.run_checkKey (k := .bool x) Tryd.underlying4 (by simp [MapKept.IsKey]) em 9999
  cases x
  · have hf : Instr.findNow .bool (.bool false) (ent2' n).toList 0 = some (some (0, .int .i64 n)) := rfl
    simp [Instr.lookup, run_underlying Tryd.underlying31, MapKept.run_getObj_map hb, hc, MapKept.run_findKey Tryd.underlying4 hf, Result.andThen]
  · have hf : Instr.findNow .bool (.bool true) (ent2' n).toList 0 = some (some (1, .int .i64 0)) := rfl
    simp [Instr.lookup, run_underlying Tryd.underlying31, MapKept.run_getObj_map hb, hc, MapKept.run_findKey Tryd.underlying4 hf, Result.andThen]
theorem map_look (w : World) (b : Nat) (n : Int) (x : Bool) (hb : w.heap[b]? = some (.map (ent2 n) 2)) :
    (Instr.lookup 31 (.map (some b)) (.bool x) false).run Tryd.prog w = .ok (.int .i64 (if x then 0 else n)) w := by
  have hc : ∀ em, (Instr.checkKey em 10000 4 (.bool x)).run Tryd.prog w = .ok () w := fun em => MapKept.run_checkKey (k := .bool x) Tryd.underlying4 (by simp [MapKept.IsKey]) em 9999
  cases x
  · have hf : Instr.findNow .bool (.bool false) (ent2 n).toList 0 = some (some (1, .int .i64 n)) := rfl
    simp [Instr.lookup, run_underlying Tryd.underlying31, MapKept.run_getObj_map hb, hc, MapKept.run_findKey Tryd.underlying4 hf, Result.andThen]
  · have hf : Instr.findNow .bool (.bool true) (ent2 n).toList 0 = some (some (0, .int .i64 0)) := rfl
    simp [Instr.lookup, run_underlying Tryd.underlying31, MapKept.run_getObj_map hb, hc, MapKept.run_findKey Tryd.underlying4 hf, Result.andThen]

/-- what has been done since w0 leaves w0's memory as it was -/
def Good (w0 w : World) : Prop := Env w ∧ Below w0.heap.size w0 w
theorem Good.le {w0 w : World} (h : Good w0 w) : w0.heap.size ≤ w.heap.size := h.2.size
theorem Good.drew {w0 w : World} (h : Good w0 w) : Good w0 w.drew := ⟨h.1, h.2.drew⟩
theorem Good.alloc {w0 w : World} (h : Good w0 w) (o : Obj) : Good w0 (w.alloc o) := ⟨h.1.below ((Below.refl _ w).alloc (Nat.le_refl _) o), h.2.alloc h.le o⟩
theorem Good.setB {w0 w : World} (h : Good w0 w) (h0 : Env w0) {b : Nat} (hb : w0.heap.size ≤ b) (o : Obj) : Good w0 (ChangeMaps.setBlock w b o) := by
  have hother : ∀ k, k < w0.heap.size → (ChangeMaps.setBlock w b o).heap[k]? = w.heap[k]? := fun k hk => by
    show (w.heap.setIfInBounds b o)[k]? = _
    rw [Array.getElem?_setIfInBounds_ne (by omega)]
  have hB : Below w0.heap.size w0 (ChangeMaps.setBlock w b o) := ⟨h.2.os, h.2.tape, h.2.output, by show _ ≤ (w.heap.setIfInBounds b o).size; rw [Array.size_setIfInBounds]; exact h.2.size, fun k hk => (hother k hk).trans (h.2.block k hk)⟩
  exact ⟨h0.below hB, hB⟩
theorem Strs.drew {w : World} {b : Nat} {xs : List ByteArray} (h : Strs w b xs) : Strs w.drew b xs := h
theorem join_g (w0 : World) (s : ByteArray) (b : Nat) (w : World) (hg : Good w0 w) (h : Strs w b (pieces s)) (hs : s.size ≤ 600) :
    Calls Tryd.prog 14 #[.slice (some ⟨b, 0, none⟩) (pieces s).length (pieces s).length] w fun e w' => e = .returned (.string s) ∧ Good w0 w' := by
  have hd : (pieces s).map (·.data.toList) = sp s.data.toList := pieces_data s
  have hj := join_e b (pieces s).length (pieces s) w hg.1 h (Nat.le_refl _) (by have := pieces_le s; omega) (by rw [hd, jn_sp, ← Lib.size_eq]; omega)
  rw [hd, jn_sp] at hj
  exact hj.mono fun _ _ ⟨he, hb, hE⟩ => ⟨he, hE, hg.2.trans (hb.mono hg.le)⟩
theorem count_g (w0 : World) (s : ByteArray) (w : World) (hg : Good w0 w) (hs : s.size < 4294967281) :
    Calls Tryd.prog 15 #[.string s] w fun e w' => e = .returned (.int .i64 (cntB s)) ∧ Good w0 w' ∧ (∀ k, k < w.heap.size → w'.heap[k]? = w.heap[k]?) ∧ (∀ k, k < w.heap.size → k < w'.heap.size) :=
  (count_e s w hg.1 hs).mono fun _ _ ⟨he, hb, hE⟩ => ⟨he, ⟨hE, hg.2.trans (hb.mono hg.le)⟩, hb.block, fun _ hk => Nat.lt_of_lt_of_le hk hb.size⟩

end Go.Proofs.YtpbjijjeglpakaaDoor
