/-
  An array of seven Booleans that came in. No condition.
-/
import Derived.Test.YtmijoidogjablaaDoorTrTm
import Derived.ChangeSlices
import Derived.OpenShut
namespace Go.Proofs.YtmijoidogjablaaDoor
open Go.ChangeShapes Go.WideShapes Go.ChangeAt Go.ChangeMaps Go.RowKit

theorem cellsBool : Tryd.prog.cellsOf 4 = 1 := by kernel_rfl
theorem cellsB7 : Tryd.prog.cellsOf 44 = 7 := by kernel_rfl
set_option maxRecDepth 100000 in
theorem open_b7 {H : Type} {enc : TypeId × Value → H} {W : World} {base : Nat} {sp : Nat → Bool} {held : Bool} {r : Reach} {b0 : Nat} {v : Value} {d : DataW H} {ps : List MemPlace}
    (hval : Value.okWide Tryd.prog W r b0 44 v) (hd : DataW.Trod enc Tryd.prog W base sp held 44 v d ps) : ∃ a0 a1 a2 a3 a4 a5 a6 : Bool, v = .agg (ofC a0 a1 a2 a3 a4 a5 a6) := by
  obtain ⟨cs, rfl, hsz⟩ : ∃ cs, v = .agg cs ∧ cs.size = Tryd.prog.cellsOf 44 := by
    cases v <;> simp [Value.okWide, Tryd.underlying44] at hval
    exact ⟨_, rfl, hval.1⟩
  obtain ⟨l⟩ := cs
  obtain ⟨fuel, hf⟩ := hd
  obtain ⟨xs, m, _, hx, hl, hxl, hat⟩ := DataW.trod_array Tryd.underlying44 hf
  rw [cellsB7] at hl
  simp only [Value.cells] at hat hl
  have hat' : ∀ i, i < 7 → ∃ b : Bool, l[i]? = some (.bool b) := fun i hi => by
    have h := hat i hi
    rw [cellsBool, Nat.mul_one, List.getElem?_eq_getElem (by omega)] at h
    obtain ⟨b, hb, _⟩ := DataW.trod_bool Tryd.underlying4 h
    refine ⟨b, ?_⟩
    have := congrArg (·[0]?) hb
    simpa [List.getElem?_take, List.getElem?_drop] using this
  obtain ⟨a0, h0⟩ := hat' 0 (by omega)
  obtain ⟨a1, h1⟩ := hat' 1 (by omega)
  obtain ⟨a2, h2⟩ := hat' 2 (by omega)
  obtain ⟨a3, h3⟩ := hat' 3 (by omega)
  obtain ⟨a4, h4⟩ := hat' 4 (by omega)
  obtain ⟨a5, h5⟩ := hat' 5 (by omega)
  obtain ⟨a6, h6⟩ := hat' 6 (by omega)
  refine ⟨a0, a1, a2, a3, a4, a5, a6, ?_⟩
  have e : l = [.bool a0, .bool a1, .bool a2, .bool a3, .bool a4, .bool a5, .bool a6] := by
    have hl7 : l.length = 7 := hl
    refine List.ext_getElem? fun i => ?_
    rcases Nat.lt_or_ge i 7 with hi | hi
    · rcases (show i = 0 ∨ i = 1 ∨ i = 2 ∨ i = 3 ∨ i = 4 ∨ i = 5 ∨ i = 6 by omega) with rfl | rfl | rfl | rfl | rfl | rfl | rfl
      · exact h0
      · exact h1
      · exact h2
      · exact h3
      · exact h4
      · exact h5
      · exact h6
    · rw [List.getElem?_eq_none (by omega), List.getElem?_eq_none (by show 7 ≤ i; omega)]
  rw [e]
  rfl
end Go.Proofs.YtmijoidogjablaaDoor
