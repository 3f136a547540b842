/-
  Inserts into a map of the call's own with bool keys, and look-ups, as steps of a walk. Conditions: each states its own.
-/
import Derived.Test.YtgbijhinihchgaaChLib
import Derived.Maps.OwnOps
import Derived.Maps.Keyed
import Derived.WideMake
namespace Go.Proofs.Ytgbijhinihchgaa
open Go.RowKit

theorem set_below (w : World) (b : Nat) (o : Obj) : Below b w (ChangeMaps.setBlock w b o) ∧ (ChangeMaps.setBlock w b o).heap.size = w.heap.size ∧ (∀ k, k ≠ b → (ChangeMaps.setBlock w b o).heap[k]? = w.heap[k]?) := by
  have ho : ∀ k, k ≠ b → (ChangeMaps.setBlock w b o).heap[k]? = w.heap[k]? := fun k hk => by
    unfold ChangeMaps.setBlock
    show (w.heap.setIfInBounds b o)[k]? = _
    rw [Array.getElem?_setIfInBounds, if_neg (fun e => hk e.symm)]
  have hs : (ChangeMaps.setBlock w b o).heap.size = w.heap.size := by
    unfold ChangeMaps.setBlock
    show (w.heap.setIfInBounds b o).size = _
    rw [Array.size_setIfInBounds]
  exact ⟨⟨rfl, rfl, rfl, by rw [hs]; exact Nat.le_refl _, fun k hk => ho k (by omega)⟩, hs, ho⟩
theorem set_same {w : World} {b : Nat} {o o' : Obj} (h : w.heap[b]? = some o') : (ChangeMaps.setBlock w b o).heap[b]? = some o := by
  have hlt := (Array.getElem?_eq_some_iff.1 h).1
  unfold ChangeMaps.setBlock
  show (w.heap.setIfInBounds b o)[b]? = _
  rw [Array.getElem?_setIfInBounds, if_pos rfl, if_pos hlt]
theorem ins_run {w : World} {b c : Nat} {kb : Bool} {vi : Int} {es : Array MapEntry} (hb : w.heap[b]? = some (.map es c)) (hf : Instr.findNow .bool (.bool kb) es.toList 0 = some none) :
    (Instr.mapUpdate 46 (.map (some b)) (.bool kb) (.int .i64 vi)).run Try.prog w = .ok () (ChangeMaps.setBlock w b (.map (es.push { key := .bool kb, val := .int .i64 vi, born := c }) (c + 1))) := by
  have hc : (Instr.checkKey false 10000 4 (.bool kb)).run Try.prog w = .ok () w := MapKept.run_checkKey (k := .bool kb) Try.underlying4 (by simp [MapKept.IsKey]) false 9999
  simp [Instr.mapUpdate, run_underlying Try.underlying46, MapKept.run_getObj_map hb, hc, MapKept.run_findKey Try.underlying4 hf, MapKept.run_setObj_map _ hb, Result.andThen, ChangeMaps.setBlock]
theorem look_run {w : World} {b c p : Nat} {kb : Bool} {vi : Int} {es : Array MapEntry} (hb : w.heap[b]? = some (.map es c)) (hf : Instr.findNow .bool (.bool kb) es.toList 0 = some (some (p, .int .i64 vi))) :
    (Instr.lookup 46 (.map (some b)) (.bool kb) false).run Try.prog w = .ok (.int .i64 vi) w := by
  have hc : ∀ em, (Instr.checkKey em 10000 4 (.bool kb)).run Try.prog w = .ok () w := fun em => MapKept.run_checkKey (k := .bool kb) Try.underlying4 (by simp [MapKept.IsKey]) em 9999
  simp [Instr.lookup, run_underlying Try.underlying46, MapKept.run_getObj_map hb, hc, MapKept.run_findKey Try.underlying4 hf, Result.andThen]
theorem wpList_insB {ops : Array Oper} {rest : List Oper} {o : Oper} {a : Act} {Q : Exit → Act → World → Prop} {w : World} (hgd : o.guard = none) (m k v : Operand) (ho : o.op = .insert 46 m k v) (b : Nat) (kb : Bool) (vi : Int) (es : Array MapEntry) (c : Nat)
    (hm : a.eval m = .map (some b)) (hk : a.eval k = .bool kb) (hv : a.eval v = .int .i64 vi) (hb : w.heap[b]? = some (.map es c)) (hf : Instr.findNow .bool (.bool kb) es.toList 0 = some none)
    (h : ∀ w', w'.heap.size = w.heap.size → w'.heap[b]? = some (.map (es.push { key := .bool kb, val := .int .i64 vi, born := c }) (c + 1)) → (∀ k, k ≠ b → w'.heap[k]? = w.heap[k]?) → Below b w w' → wpList Try.prog ops Q rest (a.put o.dst undef) w') : wpList Try.prog ops Q (o :: rest) a w := by
  refine wpList_plain hgd fun K hK => ?_
  obtain ⟨h1, h2, h3⟩ := set_below w b (.map (es.push { key := .bool kb, val := .int .i64 vi, born := c }) (c + 1))
  have hk2 := hK _ _ (h _ h2 (set_same hb) h3 h1)
  unfold Oper.wp execOp
  simp [ho, hm, hk, hv, ins_run hb hf, Result.andThen]
  first
    | exact hk2
    | (unfold Oper.upon; exact hk2)
    | (simp only [Oper.upon]; exact hk2)
theorem wpList_lookB {ops : Array Oper} {rest : List Oper} {o : Oper} {a : Act} {Q : Exit → Act → World → Prop} {w : World} (hgd : o.guard = none) (m k : Operand) (ho : o.op = .lookup 46 m k false) (b : Nat) (kb : Bool) (vi : Int) (es : Array MapEntry) (c p : Nat)
    (hm : a.eval m = .map (some b)) (hk : a.eval k = .bool kb) (hb : w.heap[b]? = some (.map es c)) (hf : Instr.findNow .bool (.bool kb) es.toList 0 = some (some (p, .int .i64 vi)))
    (h : wpList Try.prog ops Q rest (a.put o.dst (.int .i64 vi)) w) : wpList Try.prog ops Q (o :: rest) a w := by
  refine wpList_plain hgd fun K hK => ?_
  have hk2 := hK _ _ h
  unfold Oper.wp execOp
  simp [ho, hm, hk, look_run hb hf, Result.andThen]
  exact hk2
end Go.Proofs.Ytgbijhinihchgaa
