/-
  What every claim of this seat begins with: the tables that the rows list, an array of bytes, a list of local addresses, and three numbers that came in. No condition.
-/
import Derived.Test.YtakfokdjdljjjaaDoorCards
import Derived.Test.YtakfokdjdljjjaaDoorTie
import Derived.Test.YtakfokdjdljjjaaDoorLlFit
import Derived.WalkKit
import Derived.ProofKit
import Derived.OpenShut
import Derived.Lay
import Derived.Deep.DeepHandedRow
import Derived.Shelf.Vars
import Derived.SevenTiedAt
import Derived.Lib.LaidTab
import Derived.Stop.LaidErr
import Derived.ChangeSlices
namespace Go.Proofs.YtakfokdjdljjjaaDoor
open Go.ChangeShapes Go.WideShapes Go.ChangeAt Go.RowKit

theorem own : ownKnob Tryd.prog.godebug = none := by kernel_rfl
def tables : List (String × DataW Unit) := Rows.llmnrTypesRow.laid
theorem env_of_shape {W : World} (h : W.ShapedOpen Tryd.prog) : Env W := by
  obtain ⟨m, hm⟩ := cell_of_shapedOpen_int (k := .i64) (t := 3) (zero := #[.int .i64 0]) (g := 0) h (by decide +kernel) (by kernel_rfl) rfl (by kernel_rfl) (by kernel_rfl) Tryd.underlying3
  refine ⟨?_, m, hm⟩
  rcases Nat.lt_or_ge 0 W.heap.size with h' | h'
  · exact h'
  · exfalso
    unfold World.cell? at hm
    rw [Array.getElem?_eq_none h'] at hm
    simp at hm
theorem cell_lt {w : World} {a : Addr} {v : Value} (h : w.cell? a = some v) : a.block < w.heap.size := by
  rcases Nat.lt_or_ge a.block w.heap.size with h' | h'
  · exact h'
  · unfold World.cell? at h
    rw [Array.getElem?_eq_none h'] at h
    simp at h
theorem cellsU8 : Tryd.prog.cellsOf 5 = 1 := by kernel_rfl
theorem cellsAddr : Tryd.prog.cellsOf 40 = 16 := by kernel_rfl
theorem cellsLoc : Tryd.prog.cellsOf 42 = 18 := by kernel_rfl
theorem cellsBool : Tryd.prog.cellsOf 4 = 1 := by kernel_rfl
theorem cellsI : Tryd.prog.cellsOf 3 = 1 := by kernel_rfl
section
variable {H : Type} {enc : TypeId × Value → H} {W : World} {base : Nat} {sp : Nat → Bool} {held : Bool}
theorem two_parts {l : List Value} {a b : Nat} (h : l.length = a + b) : l = (l.drop 0).take a ++ (l.drop a).take b := by
  rw [List.take_of_length_le (l := l.drop a) (by rw [List.length_drop]; omega), List.drop_zero, List.take_append_drop]
theorem three_parts {l : List Value} {a b c : Nat} (h : l.length = a + b + c) : l = (l.drop 0).take a ++ ((l.drop a).take b ++ (l.drop (a + b)).take c) := by
  rw [List.take_of_length_le (l := l.drop (a + b)) (by rw [List.length_drop]; omega), ← List.drop_drop, List.take_append_drop, List.drop_zero, List.take_append_drop]
end
def byteOf : Value → UInt8
  | .int _ z => UInt8.ofNat z.toNat
  | _ => 0
theorem byteOf_int {k : IntKind} {z : Int} (h0 : 0 ≤ z) (h1 : z ≤ 255) : ((byteOf (.int k z)).toNat : Int) = z := by
  unfold byteOf
  rw [UInt8.toNat_ofNat']
  omega
theorem wfByte (c : UInt8) : (Lit.int .u8 c.toNat).wf = true := by
  have h : ∀ k : Fin 256, (Lit.int .u8 ((UInt8.ofNat k.val).toNat : Int)).wf = true := by decide +kernel
  simpa using h ⟨c.toNat, c.toNat_lt⟩
theorem mapM_all {α β : Type} {f : α → Option β} {h : α → β} : ∀ {l : List α}, (∀ i ∈ l, f i = some (h i)) → l.mapM f = some (l.map h)
  | [], _ => rfl
  | a :: l, hl => by
    rw [List.mapM_cons, hl a List.mem_cons_self, mapM_all (fun i hi => hl i (List.mem_cons_of_mem _ hi))]; rfl
/-- an array of bytes, as a datum -/
def byteD {H : Type} (x : List UInt8) : DataW H := .agg (x.map fun c => .lit (.int .u8 c.toNat))
set_option maxRecDepth 100000 in
theorem open_bytes {H : Type} {enc : TypeId × Value → H} {W : World} {base : Nat} {sp : Nat → Bool} {held : Bool} {r : Reach} {b0 n : Nat} {t : TypeId} {v : Value} {d : DataW H} {ps : List MemPlace} (ht : Tryd.prog.underlying t = some (.array n 5)) (hct : Tryd.prog.cellsOf t = n)
    (hval : Value.okWide Tryd.prog W r b0 t v) (hd : DataW.Trod enc Tryd.prog W base sp held t v d ps) : ∃ x : List UInt8, x.length = n ∧ v = .agg (bvs x).toArray ∧ d = byteD x ∧ ps = [] := by
  obtain ⟨cs, rfl, hsz⟩ : ∃ cs, v = .agg cs ∧ cs.size = Tryd.prog.cellsOf t := by
    cases v <;> simp [Value.okWide, ht] at hval
    exact ⟨_, rfl, hval.1⟩
  obtain ⟨l⟩ := cs
  obtain ⟨fuel, hf⟩ := hd
  obtain ⟨xs, m, _, hx, hl, hxl, hat⟩ := DataW.trod_array ht hf
  rw [hct] at hl
  simp only [Value.cells] at hat hl
  have hat' : ∀ i, i < n → ∃ z : Int, l[i]? = some (.int .u8 z) ∧ xs[i]? = some (.lit (.int .u8 z), []) ∧ 0 ≤ z ∧ z ≤ 255 := fun i hi => by
    have h := hat i hi
    rw [cellsU8, Nat.mul_one, List.getElem?_eq_getElem (by omega)] at h
    obtain ⟨z, hz, hy, hw⟩ := DataW.trod_int Tryd.underlying5 h
    refine ⟨z, ?_, ?_, bounds_u8 hw⟩
    · have := congrArg (·[0]?) hz
      simpa [List.getElem?_take, List.getElem?_drop] using this
    · rw [List.getElem?_eq_getElem (by omega), hy]
  refine ⟨l.map byteOf, by rw [List.length_map]; exact hl, ?_, ?_, ?_⟩
  · refine congrArg (fun z : List Value => Value.agg z.toArray) (?_ : l = bvs (l.map byteOf))
    unfold bvs
    rw [List.map_map]
    refine List.ext_getElem? (fun i => ?_)
    rcases Nat.lt_or_ge i n with hi | hi
    · obtain ⟨z, h1, _, h3, h4⟩ := hat' i hi
      rw [List.getElem?_map, h1]
      show _ = some (Value.int .u8 ((byteOf (.int .u8 z)).toNat : Int))
      rw [byteOf_int h3 h4]
    · rw [List.getElem?_eq_none (by omega), List.getElem?_eq_none (by rw [List.length_map]; omega)]
  · have hx1 := congrArg Prod.fst hx
    simp only at hx1
    rw [hx1]
    unfold byteD
    refine congrArg DataW.agg ?_
    rw [List.map_map]
    refine List.ext_getElem? (fun i => ?_)
    rcases Nat.lt_or_ge i n with hi | hi
    · obtain ⟨z, h1, h2, h3, h4⟩ := hat' i hi
      rw [List.getElem?_map, h2, List.getElem?_map, h1]
      show _ = some (DataW.lit (.int .u8 ((byteOf (.int .u8 z)).toNat : Int)))
      rw [byteOf_int h3 h4]; rfl
    · rw [List.getElem?_eq_none (by rw [List.length_map]; omega), List.getElem?_eq_none (by rw [List.length_map]; omega)]
  · have hx2 := congrArg Prod.snd hx
    simp only at hx2
    rw [hx2]
    apply List.flatMap_eq_nil_iff.2
    intro y hy
    obtain ⟨i, hi, rfl⟩ := List.getElem_of_mem hy
    obtain ⟨z, _, h2, _⟩ := hat' i (by omega)
    rw [List.getElem?_eq_getElem hi] at h2
    rw [Option.some.inj h2]
theorem shut_bytes {H : Type} {enc : TypeId × Value → H} {W : World} {base n : Nat} {sp : Nat → Bool} {held : Bool} {t : TypeId} (ht : Tryd.prog.underlying t = some (.array n 5)) (hct : Tryd.prog.cellsOf t = n) {x : List UInt8} (hx : x.length = n) :
    DataW.Trod enc Tryd.prog W base sp held t (.agg (bvs x).toArray) (byteD x) [] := by
  refine ⟨2, ?_⟩
  have hm : (List.range n).mapM (fun i => DataW.trod enc Tryd.prog W base sp held 1 5 (((bvs x).drop (i * Tryd.prog.cellsOf 5)).take (Tryd.prog.cellsOf 5))) = some (x.map fun c => ((.lit (.int .u8 c.toNat) : DataW H), ([] : List MemPlace))) := by
    rw [cellsU8]
    have hi : ∀ i, i < n → DataW.trod enc Tryd.prog W base sp held 1 5 (((bvs x).drop (i * 1)).take 1) = some (.lit (.int .u8 (x.getD i 0).toNat), []) := fun i hi => by
      rw [Nat.mul_one, List.drop_eq_getElem_cons (by rw [bvs_length]; omega)]
      have e : (bvs x)[i]'(by rw [bvs_length]; omega) = .int .u8 (x.getD i 0).toNat := by
        have := bvs_at (xs := x) (j := i) (by omega)
        rw [List.getElem?_eq_getElem (by rw [bvs_length]; omega)] at this
        exact Option.some.inj this
      rw [e]
      simp [DataW.trod, Tryd.underlying5, wfByte]
    rw [mapM_all (h := fun i => ((.lit (.int .u8 (x.getD i 0).toNat) : DataW H), ([] : List MemPlace))) (fun i hi' => hi i (List.mem_range.1 hi'))]
    refine congrArg some (List.ext_getElem? (fun i => ?_))
    rcases Nat.lt_or_ge i n with hlt | hlt
    · rw [List.getElem?_map, List.getElem?_map, List.getElem?_range hlt, List.getElem?_eq_getElem (by omega)]
      simp [List.getD, List.getElem?_eq_getElem (show i < x.length by omega)]
    · rw [List.getElem?_eq_none (by rw [List.length_map, List.length_range]; exact hlt), List.getElem?_eq_none (by rw [List.length_map]; omega)]
  show DataW.trod enc Tryd.prog W base sp held 2 t (bvs x) = _
  unfold DataW.trod
  rw [ht]
  simp only
  rw [if_pos (by rw [bvs_length, hct]; exact hx), hm]
  simp [byteD, List.map_map, Function.comp_def]
/-- the bytes of an array that came in -/
theorem octets_of {H : Type} {enc : TypeId × Value → H} {W : World} {base fuel : Nat} {sp : Nat → Bool} {held : Bool} {l : List Value} {y : DataW H × List MemPlace} (h : DataW.trod enc Tryd.prog W base sp held fuel 40 l = some y) : ∃ x : List UInt8, x.length = 16 ∧ l = bvs x := by
  obtain ⟨xs, m, _, _, hl, hxl, hat⟩ := DataW.trod_array Tryd.underlying40 h
  rw [cellsAddr] at hl
  have hat' : ∀ i, i < 16 → ∃ z : Int, l[i]? = some (.int .u8 z) ∧ 0 ≤ z ∧ z ≤ 255 := fun i hi => by
    have h := hat i hi
    rw [cellsU8, Nat.mul_one, List.getElem?_eq_getElem (by omega)] at h
    obtain ⟨z, hz, _, hw⟩ := DataW.trod_int Tryd.underlying5 h
    refine ⟨z, ?_, bounds_u8 hw⟩
    have := congrArg (·[0]?) hz
    simpa [List.getElem?_take, List.getElem?_drop] using this
  refine ⟨l.map byteOf, by rw [List.length_map]; exact hl, ?_⟩
  unfold bvs
  rw [List.map_map]
  refine List.ext_getElem? (fun i => ?_)
  rcases Nat.lt_or_ge i 16 with hi | hi
  · obtain ⟨z, h1, h3, h4⟩ := hat' i hi
    rw [List.getElem?_map, h1]
    show _ = some (Value.int .u8 ((byteOf (.int .u8 z)).toNat : Int))
    rw [byteOf_int h3 h4]
  · rw [List.getElem?_eq_none (by omega), List.getElem?_eq_none (by rw [List.length_map]; omega)]
section
variable {H : Type} {enc : TypeId × Value → H} {W : World} {base : Nat} {sp : Nat → Bool} {held : Bool}
set_option maxRecDepth 100000 in
theorem loc_of {fuel : Nat} {l : List Value} {y : DataW H × List MemPlace} (h : DataW.trod enc Tryd.prog W base sp held fuel 42 l = some y) : ∃ r : LV, r.addr.length = 16 ∧ l = r.cells := by
  obtain ⟨xs, m, _, _, hl, hxl, hat⟩ := DataW.trod_struct Tryd.underlying42 h
  rw [cellsLoc] at hl
  have hxl : xs.length = 3 := hxl
  have h0 : DataW.trod enc Tryd.prog W base sp held m 40 ((l.drop 0).take (Tryd.prog.cellsOf 40)) = xs[0]? := hat 0 _ rfl
  have h1 : DataW.trod enc Tryd.prog W base sp held m 4 ((l.drop 16).take (Tryd.prog.cellsOf 4)) = xs[1]? := hat 1 _ rfl
  have h2 : DataW.trod enc Tryd.prog W base sp held m 4 ((l.drop 17).take (Tryd.prog.cellsOf 4)) = xs[2]? := hat 2 _ rfl
  rw [cellsAddr, List.getElem?_eq_getElem (by omega)] at h0
  rw [cellsBool, List.getElem?_eq_getElem (by omega)] at h1 h2
  obtain ⟨x, hx, e0⟩ := octets_of h0
  obtain ⟨b, e1, _⟩ := DataW.trod_bool Tryd.underlying4 h1
  obtain ⟨c, e2, _⟩ := DataW.trod_bool Tryd.underlying4 h2
  refine ⟨⟨x, b, c⟩, hx, ?_⟩
  have h3 := three_parts (l := l) (a := 16) (b := 1) (c := 1) (by omega)
  rw [h3, e0, e1, e2]
  unfold LV.cells
  simp
end
theorem open_rows {H : Type} {enc : TypeId × Value → H} {W : World} {fuel : Nat} {A : Option Addr} {len cap s : Nat} {x : DataW H × List MemPlace} {st e : TypeId} {α : Type} (z : α) (C : α → List Value) (Q : α → Prop) (hst : Tryd.prog.underlying st = some (.slice e)) (hs : Tryd.prog.cellsOf e = s) (h0 : 0 < s)
    (hC : ∀ (m : Nat) (l : List Value) (y : DataW H × List MemPlace), DataW.trod enc Tryd.prog W 0 (fun _ => true) true m e l = some y → ∃ r : α, Q r ∧ l = C r) (hlen : ∀ r, Q r → (C r).length = s)
    (h : DataW.trod enc Tryd.prog W 0 (fun _ => true) true fuel st (Value.slice A len cap).cells.toList = some x) :
    ∃ ls : List α, ls.length = len ∧ (∀ r ∈ ls, Q r) ∧ RowsAt s W A (ls.map C) := by
  rcases DataW.trod_slice hst h with ⟨hcs, _⟩ | ⟨a, len', cap', elems, rest, n, _, hcs, _, _, hl, _, hel, hat, _⟩
  · simp [Value.cells] at hcs
    obtain ⟨rfl, rfl, rfl⟩ := hcs
    exact ⟨[], rfl, (fun s hs => by cases hs), (fun h0 => absurd h0 (by simp))⟩
  · simp [Value.cells] at hcs
    obtain ⟨rfl, rfl, rfl⟩ := hcs
    rw [hs] at hat
    have hat' : ∀ i, i < len → ∃ r : α, Q r ∧ W.cells? 0 (a.add (i * s)) s = some (C r) := fun i hi => by
      have h := hat i hi
      rw [List.getElem?_eq_getElem (by omega)] at h
      obtain ⟨cs, h1, h2⟩ := Option.bind_eq_some_iff.1 h
      obtain ⟨r, hr, rfl⟩ := hC _ _ _ h2
      exact ⟨r, hr, h1⟩
    have hch : ∃ f : Nat → α, ∀ i, i < len → Q (f i) ∧ W.cells? 0 (a.add (i * s)) s = some (C (f i)) :=
      ⟨fun i => if hi : i < len then (hat' i hi).choose else z, fun i hi => by
        simp only [dif_pos hi]
        exact (hat' i hi).choose_spec⟩
    obtain ⟨f, hf⟩ := hch
    refine ⟨(List.range len).map f, by simp, fun r hr => ?_, fun h1 => ?_⟩
    · obtain ⟨i, hi, rfl⟩ := List.mem_map.1 hr
      exact (hf i (List.mem_range.1 hi)).1
    · have hl0 : 0 < len := by simpa using h1
      have hc : ∀ i, i < len → ∀ j v, (C (f i))[j]? = some v → W.cell? ((a.add (i * s)).add j) = some v := fun i hi j v hj => by
        have hjs : j < s := by
          have := (List.getElem?_eq_some_iff.1 hj).1
          rw [hlen _ (hf i hi).1] at this; exact this
        rw [(World.cells?_some (hf i hi).2).2.2 j hjs]
        exact hj
      obtain ⟨v0, hv0⟩ : ∃ v, (C (f 0))[0]? = some v := ⟨_, List.getElem?_eq_getElem (by rw [hlen _ (hf 0 hl0).1]; exact h0)⟩
      have hc0 := hc 0 hl0 0 v0 hv0
      obtain ⟨b, off, spot⟩ := a
      have hspot : spot = none := by simpa [Addr.add] using World.cell?_spot hc0
      subst hspot
      refine ⟨b, off, rfl, ?_, fun k c hk j v hj => ?_⟩
      · have := cell_lt hc0
        rwa [Addr.add_lit, Addr.add_lit] at this
      · have hkl : k < len := by
          have := (List.getElem?_eq_some_iff.1 hk).1
          simpa using this
        have e : c = C (f k) := by
          rw [List.getElem?_map, List.getElem?_map, List.getElem?_range hkl] at hk
          simpa using hk.symm
        subst e
        have h1 := hc k hkl j v hj
        rw [Addr.add_lit, Addr.add_lit] at h1
        exact h1
section
variable {H : Type} {enc : TypeId × Value → H} {W : World} {fuel : Nat} {A : Option Addr} {len cap : Nat} {x : DataW H × List MemPlace}
theorem open_locs (h : DataW.trod enc Tryd.prog W 0 (fun _ => true) true fuel 22 (Value.slice A len cap).cells.toList = some x) : ∃ ls : List LV, ls.length = len ∧ (∀ r ∈ ls, r.addr.length = 16) ∧ LocsAt W A ls :=
  open_rows lvZero LV.cells (fun r => r.addr.length = 16) Tryd.underlying22 cellsLoc (by decide) (fun _ _ _ h => loc_of h) (fun _ h => LV.size h) h
end
theorem laidOut : laidOutB Tryd.prog = true := by kernel_rfl
theorem cellsI3 : Tryd.prog.cellsOf 23 = 3 := by kernel_rfl
set_option maxRecDepth 100000 in
theorem open_i3 {H : Type} {enc : TypeId × Value → H} {W : World} {base : Nat} {sp : Nat → Bool} {held : Bool} {r : Reach} {b0 : Nat} {v : Value} {d : DataW H} {ps : List MemPlace}
    (hval : Value.okWide Tryd.prog W r b0 23 v) (hd : DataW.Trod enc Tryd.prog W base sp held 23 v d ps) : ∃ a0 a1 a2 : Int, v = .agg #[.int .i64 a0, .int .i64 a1, .int .i64 a2] := by
  obtain ⟨cs, rfl, hsz⟩ : ∃ cs, v = .agg cs ∧ cs.size = Tryd.prog.cellsOf 23 := by
    cases v <;> simp [Value.okWide, Tryd.underlying23] at hval
    exact ⟨_, rfl, hval.1⟩
  obtain ⟨l⟩ := cs
  obtain ⟨fuel, hf⟩ := hd
  obtain ⟨xs, m, _, hx, hl, hxl, hat⟩ := DataW.trod_array Tryd.underlying23 hf
  rw [cellsI3] at hl
  simp only [Value.cells] at hat hl
  have hat' : ∀ i, i < 3 → ∃ b : Int, l[i]? = some (.int .i64 b) := fun i hi => by
    have h := hat i hi
    rw [cellsI, Nat.mul_one, List.getElem?_eq_getElem (by omega)] at h
    obtain ⟨b, hb, _⟩ := DataW.trod_int Tryd.underlying3 h
    refine ⟨b, ?_⟩
    have := congrArg (·[0]?) hb
    simpa [List.getElem?_take, List.getElem?_drop] using this
  obtain ⟨a0, h0⟩ := hat' 0 (by omega)
  obtain ⟨a1, h1⟩ := hat' 1 (by omega)
  obtain ⟨a2, h2⟩ := hat' 2 (by omega)
  refine ⟨a0, a1, a2, ?_⟩
  have e : l = [.int .i64 a0, .int .i64 a1, .int .i64 a2] := by
    have hl3 : l.length = 3 := hl
    refine List.ext_getElem? fun i => ?_
    rcases Nat.lt_or_ge i 3 with hi | hi
    · rcases (show i = 0 ∨ i = 1 ∨ i = 2 by omega) with rfl | rfl | rfl
      · exact h0
      · exact h1
      · exact h2
    · rw [List.getElem?_eq_none (by omega), List.getElem?_eq_none (by show 3 ≤ i; omega)]
  rw [e]
end Go.Proofs.YtakfokdjdljjjaaDoor
