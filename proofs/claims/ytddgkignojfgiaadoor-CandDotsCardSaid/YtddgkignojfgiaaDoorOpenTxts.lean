/-
  What a list of texts that came in is: its texts, each in its cell, none longer than the reach. Conditions: each states its own.
-/
import Derived.Test.YtddgkignojfgiaaDoorTxts
import Derived.WalkKit
import Derived.ProofKit
import Derived.OpenShut
import Derived.SliceStrings
import Derived.Carry
namespace Go.Proofs.YtddgkignojfgiaaDoor
open Go.ChangeShapes Go.WideShapes Go.ChangeAt Go.ChangeMaps Go.RowKit

theorem laidOut : laidOutB Tryd.prog = true := by kernel_rfl
theorem cellsStr : Tryd.prog.cellsOf 9 = 1 := by kernel_rfl
theorem bytesStr : Tryd.prog.bytesOf 9 = 16 := by kernel_rfl

/-- what a list of texts that came in is: its texts, each in its cell, none longer than the reach -/
theorem open_txts {H : Type} {enc : TypeId × Value → H} {W : World} {fuel : Nat} {A : Option Addr} {len cap : Nat} {x : DataW H × List MemPlace}
    (h : DataW.trod enc Tryd.prog W 0 (fun _ => true) true fuel 22 (Value.slice A len cap).cells.toList = some x) (hw : ∀ n ∈ x.1.weights Tryd.prog 22, n ≤ 140737488351232) :
    ∃ ls : List ByteArray, ls.length = len ∧ Txts W A ls ∧ (A = none → cap = 0) ∧ len ≤ cap ∧ len ≤ 140737488351232 ∧ (len ≤ 20 → tot ls ≤ 9223372036854775807) := by
  rcases open_strings Tryd.underlying22 Tryd.underlying9 cellsStr h with ⟨hcs, _⟩ | ⟨a, len', cap', ss, hcs, _, hl, _, hz, hx, hcell, _⟩
  · simp [Value.cells] at hcs
    obtain ⟨rfl, rfl, rfl⟩ := hcs
    exact ⟨[], rfl, fun h0 => absurd h0 (by simp), fun _ => rfl, Nat.le_refl _, by omega, fun _ => by simp [tot]⟩
  · simp [Value.cells] at hcs
    obtain ⟨rfl, rfl, rfl⟩ := hcs
    simp only [if_true] at hz
    have hw0 := hw ((ss.take len).length * 16 + (ss.drop len).length * 16) (by rw [hx]; simp [DataW.weights, Tryd.underlying22, bytesStr, strs, Nat.add_mul])
    have htl : (ss.take len).length = len := by simp; omega
    rw [htl] at hw0
    have heach : ∀ y ∈ ss.take len, y.size ≤ 140737488351232 := fun y hy => by
      have hmem : ∀ (l : List ByteArray), y ∈ l → y.size ∈ DataW.weightsAll (H := H) Tryd.prog 9 (strs l) := fun l => by
        induction l with
        | nil => intro h; cases h
        | cons z t ih =>
          intro h
          show _ ∈ DataW.weights _ _ _ ++ DataW.weightsAll _ _ (strs t)
          rcases List.mem_cons.1 h with rfl | h
          · exact List.mem_append_left _ (by simp [DataW.weights])
          · exact List.mem_append_right _ (ih h)
      exact hw y.size (by
        rw [hx]
        simp only [DataW.weights, Tryd.underlying22]
        exact List.mem_cons_of_mem _ (List.mem_append_left _ (hmem _ hy)))
    have htot : ∀ (l : List ByteArray), (∀ y ∈ l, y.size ≤ 140737488351232) → tot l ≤ l.length * 140737488351232 := fun l => by
      induction l with
      | nil => intro _; simp [tot]
      | cons z t ih =>
        intro h
        have h1 := h z (by simp)
        have h2 := ih (fun y hy => h y (List.mem_cons_of_mem _ hy))
        simp only [tot, List.length_cons, Nat.add_mul]
        omega
    refine ⟨ss.take len, htl, fun h0 => ?_, fun e => (by cases e), hl, by omega, fun h20 => ?_⟩
    · rw [htl] at h0
      have hss : 0 < ss.length := by omega
      obtain ⟨b, off, spot⟩ := a
      have hspot : spot = none := by simpa [Addr.add] using World.cell?_spot (hcell 0 hss)
      subst hspot
      refine ⟨b, off, rfl, ?_, fun j hj => ?_⟩
      · have h1 := hcell 0 hss
        rw [Addr.add_lit] at h1
        rcases Nat.lt_or_ge b W.heap.size with h' | h'
        · exact h'
        · exfalso
          unfold World.cell? at h1
          rw [Array.getElem?_eq_none h'] at h1
          simp at h1
      · rw [htl] at hj
        have h1 := hcell j (by omega)
        rw [Addr.add_lit] at h1
        rw [h1]
        simp [List.getD, hj]
    · have := htot _ heach
      rw [htl] at this
      have : len * 140737488351232 ≤ 20 * 140737488351232 := Nat.mul_le_mul_right _ h20
      omega
end Go.Proofs.YtddgkignojfgiaaDoor
