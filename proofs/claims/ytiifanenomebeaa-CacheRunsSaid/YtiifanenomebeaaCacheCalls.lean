/-
  Calls that came in as a list: four numbers each. Conditions: each states its own.
-/
import Derived.Test.YtiifanenomebeaaCacheRunsLaw
import Derived.ChangeSlices
import Derived.OpenShut
namespace Go.Proofs.Ytiifanenomebeaa
open Go.ChangeShapes Go.WideShapes Go.ChangeAt Go.ChangeMaps Go.RowKit

theorem cellsCall : Try.prog.cellsOf 28 = 4 := by kernel_rfl
theorem call_of {H : Type} {enc : TypeId × Value → H} {W : World} {base : Nat} {sp : Nat → Bool} {held : Bool} {n : Nat} {l : List Value} {x : DataW H × List MemPlace} (h : DataW.trod enc Try.prog W base sp held n 28 l = some x) : ∃ c : Cl, l = c.cells := by
  obtain ⟨xs, m, _, _, hl, hxl, hat⟩ := DataW.trod_struct Try.underlying28 h
  rw [cellsCall] at hl
  have hxl : xs.length = 4 := hxl
  have c1 : Try.prog.cellsOf 3 = 1 := by kernel_rfl
  have h0 : DataW.trod enc Try.prog W base sp held m 3 ((l.drop 0).take (Try.prog.cellsOf 3)) = xs[0]? := hat 0 _ rfl
  rw [c1, List.getElem?_eq_getElem (by omega)] at h0
  have h1 : DataW.trod enc Try.prog W base sp held m 3 ((l.drop 1).take (Try.prog.cellsOf 3)) = xs[1]? := hat 1 _ rfl
  rw [c1, List.getElem?_eq_getElem (by omega)] at h1
  have h2 : DataW.trod enc Try.prog W base sp held m 3 ((l.drop 2).take (Try.prog.cellsOf 3)) = xs[2]? := hat 2 _ rfl
  rw [c1, List.getElem?_eq_getElem (by omega)] at h2
  have h3 : DataW.trod enc Try.prog W base sp held m 3 ((l.drop 3).take (Try.prog.cellsOf 3)) = xs[3]? := hat 3 _ rfl
  rw [c1, List.getElem?_eq_getElem (by omega)] at h3
  obtain ⟨a, e0, _⟩ := DataW.trod_int Try.underlying3 h0
  obtain ⟨b, e1, _⟩ := DataW.trod_int Try.underlying3 h1
  obtain ⟨c, e2, _⟩ := DataW.trod_int Try.underlying3 h2
  obtain ⟨d, e3, _⟩ := DataW.trod_int Try.underlying3 h3
  refine ⟨⟨a, b, c, d⟩, ?_⟩
  unfold Cl.cells
  have e : l = (l.drop 0).take 1 ++ ((l.drop 1).take 1 ++ ((l.drop 2).take 1 ++ (l.drop 3).take 1)) := by
    have hd3 : (l.drop 3).take 1 = l.drop 3 := List.take_of_length_le (by rw [List.length_drop]; omega)
    have g : ∀ (p q : Nat) (r : List Value), r = l.drop (p + q) → (l.drop p).take q ++ r = l.drop p := fun p q r hr => by
      rw [hr, ← List.drop_drop, List.take_append_drop]
    rw [hd3, g 2 1 _ rfl, g 1 1 _ rfl, g 0 1 _ rfl]
    rfl
  rw [e, e0, e1, e2, e3]
  simp
/-- what a list of calls that came in is -/
theorem open_calls {H : Type} {enc : TypeId × Value → H} {W : World} {fuel : Nat} {A : Option Addr} {len cap : Nat} {x : DataW H × List MemPlace}
    (h : DataW.trod enc Try.prog W 0 (fun _ => true) true fuel 22 (Value.slice A len cap).cells.toList = some x) :
    ∃ ls : List Cl, ls.length = len ∧ CallsIn W A ls := by
  rcases DataW.trod_slice Try.underlying22 h with ⟨hcs, _⟩ | ⟨a, len', cap', elems, rest, n, _, hcs, _, _, hl, _, hel, hat, _⟩
  · simp [Value.cells] at hcs
    obtain ⟨rfl, rfl, rfl⟩ := hcs
    exact ⟨[], rfl, fun h0 => absurd rfl h0⟩
  · simp [Value.cells] at hcs
    obtain ⟨rfl, rfl, rfl⟩ := hcs
    rw [cellsCall] at hat
    have hat' : ∀ i, i < len → ∃ s : Cl, W.cells? 0 (a.add (i * 4)) 4 = some s.cells := fun i hi => by
      have h := hat i hi
      rw [List.getElem?_eq_getElem (by omega)] at h
      obtain ⟨cs, h1, h2⟩ := Option.bind_eq_some_iff.1 h
      obtain ⟨s, rfl⟩ := call_of h2
      exact ⟨s, h1⟩
    have hch : ∃ f : Nat → Cl, ∀ i, i < len → W.cells? 0 (a.add (i * 4)) 4 = some (f i).cells :=
      ⟨fun i => if hi : i < len then (hat' i hi).choose else ⟨0, 0, 0, 0⟩, fun i hi => by
        simp only [dif_pos hi]
        exact (hat' i hi).choose_spec⟩
    obtain ⟨f, hf⟩ := hch
    refine ⟨(List.range len).map f, by simp, fun h0 => ?_⟩
    have hl0 : 0 < len := by
      rcases Nat.eq_zero_or_pos len with e | e
      · subst e; exact absurd rfl h0
      · exact e
    have hc : ∀ i, i < len → ∀ j v, (f i).cells[j]? = some v → W.cell? ((a.add (i * 4)).add j) = some v := fun i hi j v hj => by
      have hj4 : j < 4 := (List.getElem?_eq_some_iff.1 hj).1
      rw [(World.cells?_some (hf i hi)).2.2 j hj4]
      exact hj
    have hc0 := hc 0 hl0 0 (.int .i64 (f 0).a) rfl
    obtain ⟨b, off, spot⟩ := a
    have hspot : spot = none := by simpa [Addr.add] using World.cell?_spot hc0
    subst hspot
    refine ⟨b, off, rfl, ?_, fun k s hk j v hj => ?_⟩
    · rcases Nat.lt_or_ge b W.heap.size with h' | h'
      · exact h'
      · exfalso
        have h1 := hc0
        unfold World.cell? at h1
        rw [show ((⟨b, off, none⟩ : Addr).add (0 * 4)).add 0 = ⟨b, off + 0 * 4 + 0, none⟩ by rw [Addr.add_lit, Addr.add_lit], Array.getElem?_eq_none h'] at h1
        simp at h1
    · have hkl : k < len := by
        have := (List.getElem?_eq_some_iff.1 hk).1
        simpa using this
      have e : s = f k := by
        rw [List.getElem?_map, List.getElem?_range hkl] at hk
        simpa using hk.symm
      subst e
      have h1 := hc k hkl j v hj
      rw [Addr.add_lit, Addr.add_lit] at h1
      exact h1
end Go.Proofs.Ytiifanenomebeaa
