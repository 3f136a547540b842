/-
  Inserts into a map of the call's own with bool keys, and look-ups, as steps of a walk. Conditions: each states its own.
-/
import Derived.Test.YtclfmokdjmnjcaaGreatDoorHostsAll
import Derived.Maps.OwnOps
import Derived.Maps.Keyed
import Derived.WideMake
namespace Go.Proofs.YtclfmokdjmnjcaaGreatDoor
open Go.RowKit

theorem set_below (w : World) (b : Nat) (o : Obj) : Below b w (ChangeMaps.setBlock w b o) ∧ (ChangeMaps.setBlock w b o).heap.size = w.heap.size ∧ (∀ k, k ≠ b → (ChangeMaps.setBlock w b o).heap[k]? = w.heap[k]?) := by
  have ho : ∀ k, k ≠ b → (ChangeMaps.setBlock w b o).heap[k]? = w.heap[k]? := fun k hk => by
    unfold ChangeMaps.setBlock
    show (w.heap.setIfInBounds b o)[k]? = _
    rw [Array.getElem?_setIfInBounds, if_neg (fun e => hk e.symm)]
  have hs : (ChangeMaps.setBlock w b o).heap.size = w.heap.size := by
    unfold ChangeMaps.setBlock
    show (w.heap.setIfInBounds b o).size = _
    rw [Array.size_setIfInBounds]
  exact ⟨⟨rfl, rfl, rfl, by rw [hs]; exact Nat.le_refl _, fun k hk => ho k (by omega)⟩, hs, ho⟩
theorem set_same {w : World} {b : Nat} {o o' : Obj} (h : w.heap[b]? = some o') : (ChangeMaps.setBlock w b o).heap[b]? = some o := by
  have hlt := (Array.getElem?_eq_some_iff.1 h).1
  unfold ChangeMaps.setBlock
  show (w.heap.setIfInBounds b o)[b]? = _
  rw [Array.getElem?_setIfInBounds, if_pos rfl, if_pos hlt]
theorem ins_run {w : World} {b c : Nat} {kb : Bool} {vi : Int} {es : Array MapEntry} (hb : w.heap[b]? = some (.map es c)) (hf : Instr.findNow .bool (.bool kb) es.toList 0 = some none) :
    (Instr.mapUpdate 35 (.map (some b)) (.bool kb) (.int .i64 vi)).run Tryz.prog w = .ok () (ChangeMaps.setBlock w b (.map (es.push { key := .bool kb, val := .int .i64 vi, born := c }) (c + 1))) := by
  have hc : (Instr.checkKey false 10000 4 (.bool kb)).run Tryz.prog w = .ok () w := MapKept.run_checkKey (k := .bool kb) Tryz.underlying4 (by simp [MapKept.IsKey]) false 9999
  simp [Instr.mapUpdate, run_underlying Tryz.underlying35, MapKept.run_getObj_map hb, hc, MapKept.run_findKey Tryz.underlying4 hf, MapKept.run_setObj_map _ hb, Result.andThen, ChangeMaps.setBlock]
theorem look_run {w : World} {b c p : Nat} {kb : Bool} {vi : Int} {es : Array MapEntry} (hb : w.heap[b]? = some (.map es c)) (hf : Instr.findNow .bool (.bool kb) es.toList 0 = some (some (p, .int .i64 vi))) :
    (Instr.lookup 35 (.map (some b)) (.bool kb) false).run Tryz.prog w = .ok (.int .i64 vi) w := by
  have hc : ∀ em, (Instr.checkKey em 10000 4 (.bool kb)).run Tryz.prog w = .ok () w := fun em => MapKept.run_checkKey (k := .bool kb) Tryz.underlying4 (by simp [MapKept.IsKey]) em 9999
  simp [Instr.lookup, run_underlying Tryz.underlying35, MapKept.run_getObj_map hb, hc, MapKept.run_findKey Tryz.underlying4 hf, Result.andThen]
theorem wpList_insB {ops : Array Oper} {rest : List Oper} {o : Oper} {a : Act} {Q : Exit → Act → World → Prop} {w : World} (hgd : o.guard = none) (m k v : Operand) (ho : o.op = .insert 35 m k v) (b : Nat) (kb : Bool) (vi : Int) (es : Array MapEntry) (c : Nat)
    (hm : a.eval m = .map (some b)) (hk : a.eval k = .bool kb) (hv : a.eval v = .int .i64 vi) (hb : w.heap[b]? = some (.map es c)) (hf : Instr.findNow .bool (.bool kb) es.toList 0 = some none)
    (h : ∀ w', w'.heap.size = w.heap.size → w'.heap[b]? = some (.map (es.push { key := .bool kb, val := .int .i64 vi, born := c }) (c + 1)) → (∀ k, k ≠ b → w'.heap[k]? = w.heap[k]?) → Below b w w' → wpList Tryz.prog ops Q rest (a.put o.dst undef) w') : wpList Tryz.prog ops Q (o :: rest) a w := by
  refine wpList_plain hgd fun K hK => ?_
  obtain ⟨h1, h2, h3⟩ := set_below w b (.map (es.push { key := .bool kb, val := .int .i64 vi, born := c }) (c + 1))
  have hk2 := hK _ _ (h _ h2 (set_same hb) h3 h1)
  unfold Oper.wp execOp
  simp [ho, hm, hk, hv, ins_run hb hf, Result.andThen]
  first
    | exact hk2
    | (unfold Oper.upon; exact hk2)
    | (simp only [Oper.upon]; exact hk2)
theorem wpList_lookB {ops : Array Oper} {rest : List Oper} {o : Oper} {a : Act} {Q : Exit → Act → World → Prop} {w : World} (hgd : o.guard = none) (m k : Operand) (ho : o.op = .lookup 35 m k false) (b : Nat) (kb : Bool) (vi : Int) (es : Array MapEntry) (c p : Nat)
    (hm : a.eval m = .map (some b)) (hk : a.eval k = .bool kb) (hb : w.heap[b]? = some (.map es c)) (hf : Instr.findNow .bool (.bool kb) es.toList 0 = some (some (p, .int .i64 vi)))
    (h : wpList Tryz.prog ops Q rest (a.put o.dst (.int .i64 vi)) w) : wpList Tryz.prog ops Q (o :: rest) a w := by
  refine wpList_plain hgd fun K hK => ?_
  have hk2 := hK _ _ h
  unfold Oper.wp execOp
  simp [ho, hm, hk, look_run hb hf, Result.andThen]
  exact hk2
end Go.Proofs.YtclfmokdjmnjcaaGreatDoor
namespace Go.Proofs.YtclfmokdjmnjcaaGreatDoor
open Go.RowKit

def HOST : List UInt8 := [104, 111, 115, 116]
def hostI (i : Nat) : HostM := ⟨four12 ++ [10, 0, 0, UInt8.ofNat i], [HOST]⟩
theorem host_line : ∀ i : Fin 128, lineT (hostI i.val) ++ [10] = [49, 48, 46, 48, 46, 48, 46] ++ decN i.val ++ [32, 104, 111, 115, 116, 10] := by decide +kernel
theorem ta_host : TA HOST 0 HOST := ta_small (by decide +kernel) (by decide) (by decide) (by decide +kernel)
theorem host_good (i : Nat) : Good (hostI i) := ⟨rfl, by simp [hostI], fun t ht => by
  rw [List.mem_singleton.1 ht]; exact ta_host⟩
theorem host_rv : ∀ i : Fin 128, rvT (hostI i.val).addr ≠ HOST := by decide +kernel
theorem host_fam : ∀ i : Fin 128, famOf (hostI i.val).addr = 1 := by decide +kernel
def manyL (n : Nat) : List HostM := (List.range n).map hostI
def manyT (n : Nat) : List UInt8 := printL (manyL n)
theorem many_next {k : Nat} (h : k < 128) : manyT (k + 1) = manyT k ++ ([49, 48, 46, 48, 46, 48, 46] ++ decN k ++ [32, 104, 111, 115, 116, 10]) := by
  unfold manyT manyL printL
  rw [List.range_succ, List.map_append, List.flatMap_append, ← host_line ⟨k, h⟩]
  simp
theorem many_good (n : Nat) : ∀ h ∈ manyL n, Good h := fun h hh => by
  obtain ⟨i, _, rfl⟩ := List.mem_map.1 hh
  exact host_good i
theorem many_pd (n : Nat) : Pd 64 (nl (manyT n)) ((manyL n).take 64) := by
  unfold manyT
  rw [nl_print (many_good n)]
  exact pd_back 64 (many_good n)
theorem many_len (n : Nat) : ((manyL n).take 64).length = min n 64 := by
  unfold manyL
  rw [List.length_take, List.length_map, List.length_range]; omega
theorem host_rec {i : Nat} (h : i < 128) : recH HOST 1 (hostI i) = some ⟨(hostI i).addr, []⟩ := by
  have h1 := host_rv ⟨i, h⟩
  have h2 := host_fam ⟨i, h⟩
  unfold recH
  rw [if_neg h1, if_pos ⟨by show [HOST].contains HOST = true; decide +kernel, h2.symm⟩]
theorem many_recs : ∀ (l : List Nat), (∀ i ∈ l, i < 128) → (l.map hostI).filterMap (recH HOST 1) = l.map fun i => (⟨(hostI i).addr, []⟩ : RecM)
  | [], _ => rfl
  | i :: l, h => by
    rw [List.map_cons, List.map_cons, List.filterMap_cons_some (host_rec (h i List.mem_cons_self)), many_recs l fun j hj => h j (List.mem_cons_of_mem _ hj)]
theorem many_find {n : Nat} (hn : n < 128) : findL ((manyL n).take 64) HOST 1 = (((List.range n).take 64).map fun i => (⟨(hostI i).addr, []⟩ : RecM)).take 32 := by
  unfold findL manyL
  rw [← List.map_take, many_recs _ fun i hi => by have := List.mem_range.1 (List.mem_of_mem_take hi); omega]
theorem many_find_len {n : Nat} (hn : n < 128) : (findL ((manyL n).take 64) HOST 1).length = min n 32 := by
  rw [many_find hn, List.length_take, List.length_map, List.length_take, List.length_range]; omega
theorem many_first {n : Nat} (hn : n < 128) (h0 : 0 < n) : (findL ((manyL n).take 64) HOST 1)[0]? = some ⟨four12 ++ [10, 0, 0, 0], []⟩ := by
  obtain ⟨m, rfl⟩ : ∃ m, n = m + 1 := ⟨n - 1, by omega⟩
  rw [many_find hn, List.range_succ_eq_map]; rfl
theorem many_second {n : Nat} (h1 : 1 < n) : ((manyL n).take 64)[1]? = some (hostI 1) := by
  obtain ⟨m, rfl⟩ : ∃ m, n = m + 2 := ⟨n - 2, by omega⟩
  unfold manyL
  rw [List.getElem?_take_of_lt (by omega), List.getElem?_map, List.getElem?_range (by omega)]; rfl
theorem many_any {n : Nat} (hn : n < 128) : ((manyL n).take 64).any (hitH HOST) = decide (0 < n) := by
  rw [Bool.eq_iff_iff, List.any_eq_true, decide_eq_true_iff]
  refine ⟨fun ⟨x, hx, _⟩ => ?_, fun h => ⟨hostI 0, ?_, hit_of_rec (host_rec (by omega))⟩⟩
  · have := List.mem_of_mem_take hx
    unfold manyL at this
    obtain ⟨i, hi, _⟩ := List.mem_map.1 this
    have := List.mem_range.1 hi; omega
  · obtain ⟨m, rfl⟩ : ∃ m, n = m + 1 := ⟨n - 1, by omega⟩
    unfold manyL
    rw [List.range_succ_eq_map]
    exact List.mem_cons_self
end Go.Proofs.YtclfmokdjmnjcaaGreatDoor
