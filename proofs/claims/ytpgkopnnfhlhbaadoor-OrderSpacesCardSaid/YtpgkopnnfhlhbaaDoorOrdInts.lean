/-
  Numbers that came in as a list: each in its cell; what a number says of a word. Conditions: each states its own.
-/
import Derived.Test.YtpgkopnnfhlhbaaDoorOrdFit
import Derived.ChangeSlices
import Derived.OpenShut
namespace Go.Proofs.YtpgkopnnfhlhbaaDoor
open Go.ChangeShapes Go.WideShapes Go.ChangeAt Go.ChangeMaps Go.RowKit

/-- numbers that stand in a slice -/
def IntsIn (w : World) (A : Option Addr) (l : List Int) : Prop := l ≠ [] → ∃ b o, A = some ⟨b, o, none⟩ ∧ b < w.heap.size ∧ ∀ j, j < l.length → w.cell? ⟨b, o + j, none⟩ = some (.int .i64 (l.getD j 0))
theorem IntsIn.below {w w' : World} {A : Option Addr} {l : List Int} (h : IntsIn w A l) (hb : Below w.heap.size w w') : IntsIn w' A l := fun hl => by
  obtain ⟨b, o, e, h1, h2⟩ := h hl
  exact ⟨b, o, e, Nat.lt_of_lt_of_le h1 hb.size, fun j hj => (hb.cell (p := ⟨b, o + j, none⟩) h1).trans (h2 j hj)⟩
theorem laidOut : laidOutB Tryd.prog = true := by kernel_rfl
theorem cellsInt : Tryd.prog.cellsOf 3 = 1 := by kernel_rfl
/-- what a list of numbers that came in is -/
theorem open_numbers {H : Type} {enc : TypeId × Value → H} {W : World} {fuel : Nat} {A : Option Addr} {len cap : Nat} {x : DataW H × List MemPlace}
    (h : DataW.trod enc Tryd.prog W 0 (fun _ => true) true fuel 36 (Value.slice A len cap).cells.toList = some x) :
    ∃ ls : List Int, ls.length = len ∧ IntsIn W A ls := by
  rcases open_ints Tryd.underlying36 Tryd.underlying3 cellsInt h with ⟨hcs, _⟩ | ⟨a, len', cap', zs, hcs, _, hl, _, hz, hx, hcell, _⟩
  · simp [Value.cells] at hcs
    obtain ⟨rfl, rfl, rfl⟩ := hcs
    exact ⟨[], rfl, fun h0 => absurd rfl h0⟩
  · simp [Value.cells] at hcs
    obtain ⟨rfl, rfl, rfl⟩ := hcs
    simp only [if_true] at hz
    have htl : (zs.take len).length = len := by simp; omega
    refine ⟨zs.take len, htl, fun h0 => ?_⟩
    have hl0 : 0 < len := by
      rcases Nat.eq_zero_or_pos len with e | e
      · subst e; exact absurd (List.take_zero) h0
      · exact e
    have hss : 0 < zs.length := by omega
    obtain ⟨b, off, rfl, hc⟩ := ints_at hcell hss
    refine ⟨b, off, rfl, ?_, fun j hj => ?_⟩
    · have h1 := hc 0 hss
      rcases Nat.lt_or_ge b W.heap.size with h' | h'
      · exact h'
      · exfalso
        unfold World.cell? at h1
        rw [Array.getElem?_eq_none h'] at h1
        simp at h1
    · rw [htl] at hj
      rw [hc j (by omega)]
      simp [List.getD, hj]
theorem mod3 (x : Int) : ∃ i : Nat, (x.tmod 3 + 3).tmod 3 = (i : Int) ∧ i < 3 := by
  have h1 := Int.tmod_lt_of_pos x (show (0 : Int) < 3 by decide)
  have h2 := Int.lt_tmod_of_pos x (show (0 : Int) < 3 by decide)
  have h3 := Int.tmod_lt_of_pos (x.tmod 3 + 3) (show (0 : Int) < 3 by decide)
  have h4 := Int.tmod_nonneg (a := x.tmod 3 + 3) 3 (by omega)
  exact ⟨((x.tmod 3 + 3).tmod 3).toNat, by omega, by omega⟩
/-- the kind that a number means -/
def kdI (x : Int) : Nat := ((x.tmod 3 + 3).tmod 3).toNat + 1
theorem kdI_in (x : Int) : kdI x = 1 ∨ kdI x = 2 ∨ kdI x = 3 := by
  obtain ⟨i, h, h3⟩ := mod3 x
  unfold kdI
  rw [h, Int.toNat_natCast]; omega
theorem plT_snoc (ks : List Nat) (k : Nat) : plT (ks ++ [k]) = plT ks ++ 32 :: nameK k := by unfold plT; rw [List.flatMap_append]; simp
theorem plT_size : ∀ {ks : List Nat}, (plT ks).length ≤ 10 * ks.length
  | [] => Nat.le_refl _
  | k :: ks => by
    have ih := plT_size (ks := ks)
    have hk : (nameK k).length ≤ 5 := by unfold nameK; split <;> decide
    unfold plT at ih ⊢
    rw [List.flatMap_cons, List.length_append, List.length_cons, List.length_cons]; omega
/-- the words of sources, in a block -/
def WsIn (w : World) (g : Nat) : Prop := g < w.heap.size ∧ ∀ j, j < 3 → w.cell? ⟨g, j, none⟩ = some (.string (tb (nameK (j + 1))))
theorem WsIn.below {w w' : World} {g : Nat} (h : WsIn w g) (hb : Below w.heap.size w w') : WsIn w' g := ⟨Nat.lt_of_lt_of_le h.1 hb.size, fun j hj => (hb.cell (p := ⟨g, j, none⟩) h.1).trans (h.2 j hj)⟩
theorem WsIn.new (w : World) : WsIn (w.alloc (.cells #[.string (tb (nameK 1)), .string (tb (nameK 2)), .string (tb (nameK 3))] 9)) w.heap.size :=
  ⟨by rw [World.size_alloc]; omega, fun j hj => by
    rw [World.cell?_alloc_mark]
    have : j = 0 ∨ j = 1 ∨ j = 2 := by omega
    rcases this with rfl | rfl | rfl <;> rfl⟩
end Go.Proofs.YtpgkopnnfhlhbaaDoor
