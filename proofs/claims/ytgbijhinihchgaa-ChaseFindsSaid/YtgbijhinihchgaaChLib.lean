/-
  Numbers that came in as a list; a message of the call's own, of which one list grows. Conditions: each states its own.
-/
import Derived.Test.YtgbijhinihchgaaChFit
namespace Go.Proofs.Ytgbijhinihchgaa
open Go.RowKit

/-- numbers that stand in a slice -/
def IntsIn (w : World) (A : Option Addr) (l : List Int) : Prop := l ≠ [] → ∃ b o, A = some ⟨b, o, none⟩ ∧ b < w.heap.size ∧ ∀ j, j < l.length → w.cell? ⟨b, o + j, none⟩ = some (.int .i64 (l.getD j 0))
theorem IntsIn.below {w w' : World} {A : Option Addr} {l : List Int} (h : IntsIn w A l) (hb : Below w.heap.size w w') : IntsIn w' A l := fun hl => by
  obtain ⟨b, o, e, h1, h2⟩ := h hl
  exact ⟨b, o, e, Nat.lt_of_lt_of_le h1 hb.size, fun j hj => (hb.cell (p := ⟨b, o + j, none⟩) h1).trans (h2 j hj)⟩
/-- a message of the call's own, so far: its block gw, of which cell ix is the list that grows -/
structure WaAt (base : Nat) (Ub U : World) (gw : Nat) (C : Value → Array Value) (rs : List RV) (v : Value) : Prop where
  ws : U.heap[gw]? = some (.cells (C v) 32 (0, 0))
  own : U.ownsRow base 41 21 v rs.length (rcs rs)
  below : Below Ub.heap.size Ub U
  hgw : gw < base
  hub : Ub.heap.size ≤ gw
  hb : base ≤ U.heap.size
theorem WaAt.to {base gw : Nat} {Ub U U' : World} {C : Value → Array Value} {rs : List RV} {v : Value} (h : WaAt base Ub U gw C rs v) (hb : Below U.heap.size U U') : WaAt base Ub U' gw C rs v :=
  ⟨(hb.block gw (heap_lt h.ws)).trans h.ws, h.own.kept (show U.grownBy U' none from ⟨hb.os, hb.tape, hb.output, hb.size, fun k hk _ => hb.block k hk⟩) (Classical.em _), h.below.trans (hb.mono h.below.size), h.hgw, h.hub, Nat.le_trans h.hb hb.size⟩
theorem WaAt.app {ix base gw : Nat} {Ub U w1 : World} {C : Value → Array Value} (hC : ∀ v v1, (C v).setIfInBounds ix v1 = C v1) {rs : List RV} {v v1 : Value} {r : RV} (h : WaAt base Ub U gw C rs v) (ho : w1.ownsRow base 41 21 v1 (rs.length + 1) (rcs rs ++ r.cells.toList)) (hg : U.grownBy w1 v.ownBlock) :
    w1.heap[gw]? = some (.cells (C v) 32 (0, 0)) ∧ WaAt base Ub (w1.setCell ⟨gw, ix, none⟩ v1) gw C (rs ++ [r]) v1 := by
  have h1 : w1.heap[gw]? = some (.cells (C v) 32 (0, 0)) := (hg.block gw (heap_lt h.ws) (fun e => by have := (h.own.lt gw e.symm).1; have := h.hgw; omega)).trans h.ws
  refine ⟨h1, ?_, ?_, ?_, h.hgw, h.hub, by have := hg.size; have := h.hb; simp; omega⟩
  · rw [← hC v v1]
    exact heap_setCell_same w1 gw ix _ _ v1 h1
  · rw [List.length_append, rcs_snoc]
    exact ho.kept (grown_set w1 gw ix v1) (.inr (fun e => by have := (ho.lt gw e).1; have := h.hgw; omega))
  · exact (h.below.grown hg h.below.size (fun j hj => by have := (h.own.lt j hj).1; have := h.hgw; have := h.hub; omega)).setCell (p := ⟨gw, ix, none⟩) h.hub _
theorem soaT_skip {rs : List RV} {r : RV} (h : soaB r = false) : soaT (rs ++ [r]) = soaT rs := by
  unfold soaT
  rw [List.find?_append, List.find?_cons, h]
  cases rs.find? soaB <;> rfl
theorem soaT_keep {rs : List RV} {r x : RV} (h : rs.find? soaB = some x) : soaT (rs ++ [r]) = soaT rs := by
  unfold soaT
  rw [List.find?_append, h]; rfl
theorem soaT_new {rs : List RV} {r : RV} (h : rs.find? soaB = none) (hr : soaB r = true) : soaT (rs ++ [r]) = r.ttl := by
  unfold soaT
  rw [List.find?_append, h, List.find?_cons, hr]; rfl
theorem RV.setTy (r : RV) (v : Int) : r.cells.setIfInBounds 1 (.int .i64 v) = RV.cells { r with ty := v } := by unfold RV.cells; simp
def ngR (i : Nat) (x : Int) : RV := ⟨⟨#[122]⟩, if i % 2 = 1 then 6 else 16, (bN x 4095 : Nat), zero16, ⟨#[]⟩, ⟨#[113]⟩⟩
def ngL (l : List Int) : List RV := l.mapIdx ngR
theorem ngL_snoc {l : List Int} {k : Nat} {x : Int} (h : l[k]? = some x) : ngL (l.take (k + 1)) = ngL (l.take k) ++ [ngR k x] := by
  have hk : k < l.length := (List.getElem?_eq_some_iff.1 h).1
  unfold ngL
  rw [List.take_add_one, h, Option.toList_some, List.mapIdx_append, List.length_take, Nat.min_eq_left (by omega)]
  simp
theorem ngL_len (l : List Int) : (ngL l).length = l.length := by unfold ngL; rw [List.length_mapIdx]
theorem ngL_ad {l : List Int} : ∀ r ∈ ngL l, r.ad.length = 16 := fun r hr => by
  unfold ngL at hr
  obtain ⟨i, hi, rfl⟩ := List.mem_mapIdx.1 hr
  rfl
theorem soaB_ng (i : Nat) (x : Int) : soaB (ngR i x) = decide (i % 2 = 1) := by
  unfold soaB ngR
  by_cases h : i % 2 = 1 <;> simp [h]
theorem ngL_none {l : List Int} {k : Nat} (hk : k ≤ 1) (hl : k ≤ l.length) : (ngL (l.take k)).find? soaB = none := by
  rcases (show k = 0 ∨ k = 1 by omega) with rfl | rfl
  · rfl
  · obtain ⟨x, hx⟩ : ∃ x, l[0]? = some x := ⟨_, List.getElem?_eq_getElem (by omega)⟩
    rw [ngL_snoc hx]
    simp [ngL, soaB_ng]
theorem ngL_some {l : List Int} {k : Nat} (hk : 2 ≤ k) (hl : k ≤ l.length) : ∃ x, (ngL (l.take k)).find? soaB = some x := by
  cases h : (ngL (l.take k)).find? soaB with
  | some x => exact ⟨x, rfl⟩
  | none =>
    exfalso
    rw [List.find?_eq_none] at h
    obtain ⟨x, hx⟩ : ∃ x, (l.take k)[1]? = some x := ⟨_, List.getElem?_eq_getElem (by rw [List.length_take]; omega)⟩
    have h1 : ngR 1 x ∈ ngL (l.take k) := by
      unfold ngL
      refine List.mem_of_getElem? (i := 1) ?_
      rw [List.getElem?_mapIdx, hx]; rfl
    have := h _ h1
    rw [soaB_ng] at this
    simp at this
/-- the TTL that is told behind k numbers, and what the next one makes of it -/
theorem ngT_even {l : List Int} {k : Nat} {x : Int} (h : l[k]? = some x) (he : k % 2 = 0) : soaT (ngL (l.take (k + 1))) = soaT (ngL (l.take k)) := by
  rw [ngL_snoc h, soaT_skip (by rw [soaB_ng, decide_eq_false (by omega)])]
theorem ngT_one {l : List Int} {x : Int} (h : l[1]? = some x) : soaT (ngL (l.take 2)) = (bN x 4095 : Nat) := by
  have hk : 1 < l.length := (List.getElem?_eq_some_iff.1 h).1
  rw [ngL_snoc h, soaT_new (ngL_none (Nat.le_refl 1) (by omega)) (by rw [soaB_ng]; rfl)]; rfl
theorem ngT_odd {l : List Int} {k : Nat} {x : Int} (h : l[k]? = some x) (he : 2 ≤ k) : soaT (ngL (l.take (k + 1))) = soaT (ngL (l.take k)) := by
  have hk : k < l.length := (List.getElem?_eq_some_iff.1 h).1
  obtain ⟨y, hy⟩ := ngL_some he (show k ≤ l.length by omega)
  rw [ngL_snoc h, soaT_keep hy]
theorem bit_k : ∀ i : Fin 21, bN (i.val : Int) 1 = i.val % 2 := by decide +kernel
theorem bit_e {k : Nat} (h : k ≤ 20) : bits BinOp.and IntKind.i64 (k : Nat) 1 = ((k % 2 : Nat) : Int) := by
  have h1 := (bN_e (k : Int) 1 (by omega)).1
  have h2 := bit_k ⟨k, by omega⟩
  simp only at h2
  rw [h2] at h1
  exact h1
/-- what is told where there are no answers -/
theorem of_none (b : Nat) (hb : b ≤ 1) (au : List RV) : ofF ((b * 3 : Nat) : Int) nmA 1 [] au = ⟨if b = 1 then 2 else 5, [], ⟨#[]⟩, soaT au⟩ := by
  rw [ofD_eq]
  rcases (show b = 0 ∨ b = 1 by omega) with rfl | rfl
  · rfl
  · rfl
end Go.Proofs.Ytgbijhinihchgaa
