/-
  Seeds: as they lie in memory, what a list of them that came in is, and what light answers. Conditions: each states its own.
-/
import Derived.Test.YtmijoidogjablaaDoorMsgOctets
import Derived.Test.YtmijoidogjablaaDoorMsgRF
import Derived.Test.YtmijoidogjablaaDoorMsgAllM
namespace Go.Proofs.YtmijoidogjablaaDoor
open Go.ChangeShapes Go.WideShapes Go.ChangeAt Go.ChangeMaps Go.RowKit

/-- a record's seed -/
structure SV where
  n : Int
  k : Int
  t : Int
  ad : List UInt8
  da : ByteArray
def SV.cells (s : SV) : Array Value := (.int .i64 s.n :: .int .i64 s.k :: .int .i64 s.t :: (bvs s.ad ++ [.string s.da])).toArray
structure SV.Fits (s : SV) : Prop where
  ad : s.ad.length = 16
  da : s.da.size ≤ maxLen
theorem SV.size {s : SV} (h : s.ad.length = 16) : s.cells.size = 20 := by unfold SV.cells; simp [bvs_length, h]
theorem SV.one (s : SV) : s.cells.all (·.oneCell') = true := by
  unfold SV.cells
  simp [Value.oneCell', bvs, List.all_map]
def SeedsAt (w : World) (A : Option Addr) (l : List SV) : Prop :=
  0 < l.length → ∃ b o, A = some ⟨b, o, none⟩ ∧ b < w.heap.size ∧ ∀ k s, l[k]? = some s → ∀ j v, s.cells.toList[j]? = some v → w.cell? ((⟨b, o + k * 20, none⟩ : Addr).add j) = some v
theorem SeedsAt.below {w w' : World} {A : Option Addr} {l : List SV} (h : SeedsAt w A l) (hb : Below w.heap.size w w') : SeedsAt w' A l := fun h0 => by
  obtain ⟨b, o, rfl, hlt, hc⟩ := h h0
  exact ⟨b, o, rfl, Nat.lt_of_lt_of_le hlt hb.size, fun k s hs j v hv => (hb.cell (p := (⟨b, o + k * 20, none⟩ : Addr).add j) (by rw [Addr.add_lit]; exact hlt)).trans (hc k s hs j v hv)⟩
theorem cellsSeed : Tryd.prog.cellsOf 34 = 20 := by kernel_rfl
theorem cellsAddr : Tryd.prog.cellsOf 32 = 16 := by kernel_rfl
/-- the bytes of an array that came in -/
theorem octets_of {H : Type} {enc : TypeId × Value → H} {W : World} {base fuel : Nat} {sp : Nat → Bool} {held : Bool} {l : List Value} {y : DataW H × List MemPlace} (h : DataW.trod enc Tryd.prog W base sp held fuel 32 l = some y) : ∃ x : List UInt8, x.length = 16 ∧ l = bvs x := by
  obtain ⟨xs, m, _, _, hl, hxl, hat⟩ := DataW.trod_array Tryd.underlying32 h
  rw [cellsAddr] at hl
  have hat' : ∀ i, i < 16 → ∃ z : Int, l[i]? = some (.int .u8 z) ∧ 0 ≤ z ∧ z < 256 := fun i hi => by
    have h := hat i hi
    rw [cellsU8, Nat.mul_one, List.getElem?_eq_getElem (by omega)] at h
    obtain ⟨z, hz, _, hw⟩ := DataW.trod_int Tryd.underlying5 h
    refine ⟨z, ?_, octet_of_wf hw⟩
    have := congrArg (·[0]?) hz
    simpa [List.getElem?_take, List.getElem?_drop] using this
  refine ⟨l.map (fun v => match v with | .int _ z => UInt8.ofNat z.toNat | _ => 0), by rw [List.length_map]; exact hl, ?_⟩
  unfold bvs
  rw [List.map_map]
  refine List.ext_getElem? (fun i => ?_)
  rcases Nat.lt_or_ge i 16 with hi | hi
  · obtain ⟨z, h1, h3, h4⟩ := hat' i hi
    rw [List.getElem?_map, h1]
    show _ = some (Value.int .u8 ((UInt8.ofNat z.toNat).toNat : Int))
    rw [UInt8.toNat_ofNat', Nat.mod_eq_of_lt (by omega), Int.toNat_of_nonneg h3]
  · rw [List.getElem?_eq_none (by omega), List.getElem?_eq_none (by rw [List.length_map]; omega)]
set_option maxRecDepth 100000 in
/-- a seed that came in -/
theorem seed_of {H : Type} {enc : TypeId × Value → H} {W : World} {base fuel : Nat} {sp : Nat → Bool} {held : Bool} {l : List Value} {y : DataW H × List MemPlace} (h : DataW.trod enc Tryd.prog W base sp held fuel 34 l = some y) : ∃ s : SV, s.Fits ∧ l = s.cells.toList := by
  obtain ⟨xs, m, _, _, hl, hxl, hat⟩ := DataW.trod_struct Tryd.underlying34 h
  rw [cellsSeed] at hl
  have hxl : xs.length = 5 := hxl
  have c1 : Tryd.prog.cellsOf 3 = 1 := by kernel_rfl
  have c9 : Tryd.prog.cellsOf 9 = 1 := by kernel_rfl
  have h0 : DataW.trod enc Tryd.prog W base sp held m 3 ((l.drop 0).take (Tryd.prog.cellsOf 3)) = xs[0]? := hat 0 _ rfl
  rw [c1, List.getElem?_eq_getElem (by omega)] at h0
  have h1 : DataW.trod enc Tryd.prog W base sp held m 3 ((l.drop 1).take (Tryd.prog.cellsOf 3)) = xs[1]? := hat 1 _ rfl
  rw [c1, List.getElem?_eq_getElem (by omega)] at h1
  have h2 : DataW.trod enc Tryd.prog W base sp held m 3 ((l.drop 2).take (Tryd.prog.cellsOf 3)) = xs[2]? := hat 2 _ rfl
  rw [c1, List.getElem?_eq_getElem (by omega)] at h2
  have h3 : DataW.trod enc Tryd.prog W base sp held m 32 ((l.drop 3).take (Tryd.prog.cellsOf 32)) = xs[3]? := hat 3 _ rfl
  rw [cellsAddr, List.getElem?_eq_getElem (by omega)] at h3
  have h4 : DataW.trod enc Tryd.prog W base sp held m 9 ((l.drop 19).take (Tryd.prog.cellsOf 9)) = xs[4]? := hat 4 _ rfl
  rw [c9, List.getElem?_eq_getElem (by omega)] at h4
  obtain ⟨n, e0, _⟩ := DataW.trod_int Tryd.underlying3 h0
  obtain ⟨k, e1, _⟩ := DataW.trod_int Tryd.underlying3 h1
  obtain ⟨t, e2, _⟩ := DataW.trod_int Tryd.underlying3 h2
  obtain ⟨x, hx, e3⟩ := octets_of h3
  obtain ⟨s, e4, _, hs⟩ := DataW.trod_string Tryd.underlying9 h4
  refine ⟨⟨n, k, t, x, s⟩, ⟨hx, hs⟩, ?_⟩
  unfold SV.cells
  have e : l = (l.drop 0).take 1 ++ ((l.drop 1).take 1 ++ ((l.drop 2).take 1 ++ ((l.drop 3).take 16 ++ (l.drop 19).take 1))) := by
    have hd19 : (l.drop 19).take 1 = l.drop 19 := List.take_of_length_le (by rw [List.length_drop]; omega)
    have g : ∀ (p q : Nat) (r : List Value), r = l.drop (p + q) → (l.drop p).take q ++ r = l.drop p := fun p q r hr => by
      rw [hr, ← List.drop_drop, List.take_append_drop]
    rw [hd19, g 3 16 _ rfl, g 2 1 _ rfl, g 1 1 _ rfl, g 0 1 _ rfl]
    rfl
  rw [e, e0, e1, e2, e3, e4]
  simp
/-- what a list of seeds that came in is -/
theorem open_seeds {H : Type} {enc : TypeId × Value → H} {W : World} {fuel : Nat} {A : Option Addr} {len cap : Nat} {x : DataW H × List MemPlace}
    (h : DataW.trod enc Tryd.prog W 0 (fun _ => true) true fuel 22 (Value.slice A len cap).cells.toList = some x) :
    ∃ ls : List SV, ls.length = len ∧ len ≤ cap ∧ (∀ s ∈ ls, s.Fits) ∧ SeedsAt W A ls ∧ (A = none → cap = 0) := by
  rcases DataW.trod_slice Tryd.underlying22 h with ⟨hcs, _⟩ | ⟨a, len', cap', elems, rest, n, _, hcs, _, _, hl, _, hel, hat, _⟩
  · simp [Value.cells] at hcs
    obtain ⟨rfl, rfl, rfl⟩ := hcs
    exact ⟨[], rfl, Nat.le_refl _, (fun s hs => by cases hs), (fun h0 => absurd h0 (by simp)), (fun _ => rfl)⟩
  · simp [Value.cells] at hcs
    obtain ⟨rfl, rfl, rfl⟩ := hcs
    rw [cellsSeed] at hat
    have hat' : ∀ i, i < len → ∃ s : SV, s.Fits ∧ W.cells? 0 (a.add (i * 20)) 20 = some s.cells.toList := fun i hi => by
      have h := hat i hi
      rw [List.getElem?_eq_getElem (by omega)] at h
      obtain ⟨cs, h1, h2⟩ := Option.bind_eq_some_iff.1 h
      obtain ⟨s, hs, rfl⟩ := seed_of h2
      exact ⟨s, hs, h1⟩
    have hch : ∃ f : Nat → SV, ∀ i, i < len → (f i).Fits ∧ W.cells? 0 (a.add (i * 20)) 20 = some (f i).cells.toList :=
      ⟨fun i => if hi : i < len then (hat' i hi).choose else ⟨0, 0, 0, [], ⟨#[]⟩⟩, fun i hi => by
        simp only [dif_pos hi]
        exact (hat' i hi).choose_spec⟩
    obtain ⟨f, hf⟩ := hch
    refine ⟨(List.range len).map f, by simp, hl, fun s hs => ?_, fun h0 => ?_, fun h => by cases h⟩
    · obtain ⟨i, hi, rfl⟩ := List.mem_map.1 hs
      exact (hf i (List.mem_range.1 hi)).1
    · have hl0 : 0 < len := by simpa using h0
      have hc : ∀ i, i < len → ∀ j v, (f i).cells.toList[j]? = some v → W.cell? ((a.add (i * 20)).add j) = some v := fun i hi j v hj => by
        have hj20 : j < 20 := by
          have := (List.getElem?_eq_some_iff.1 hj).1
          rw [Array.length_toList, SV.size (hf i hi).1.ad] at this; exact this
        rw [(World.cells?_some (hf i hi).2).2.2 j hj20]
        exact hj
      have hc0 := hc 0 hl0 0 (.int .i64 (f 0).n) (by unfold SV.cells; simp)
      obtain ⟨b, off, spot⟩ := a
      have hspot : spot = none := by simpa [Addr.add] using World.cell?_spot hc0
      subst hspot
      refine ⟨b, off, rfl, ?_, fun k s hk j v hj => ?_⟩
      · rcases Nat.lt_or_ge b W.heap.size with h' | h'
        · exact h'
        · exfalso
          have h1 := hc0
          unfold World.cell? at h1
          rw [show ((⟨b, off, none⟩ : Addr).add (0 * 20)).add 0 = ⟨b, off + 0 * 20 + 0, none⟩ by rw [Addr.add_lit, Addr.add_lit], Array.getElem?_eq_none h'] at h1
          simp at h1
      · have hkl : k < len := by
          have := (List.getElem?_eq_some_iff.1 hk).1
          simpa using this
        have e : s = f k := by
          rw [List.getElem?_map, List.getElem?_range hkl] at hk
          simpa using hk.symm
        subst e
        have h1 := hc k hkl j v hj
        rw [Addr.add_lit] at h1
        exact h1
end Go.Proofs.YtmijoidogjablaaDoor
