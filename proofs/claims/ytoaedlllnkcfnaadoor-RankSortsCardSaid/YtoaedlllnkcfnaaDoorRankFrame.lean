/-
  What every claim of this seat begins with: the two tables that the rows list, what an array of bytes that came in is, and what lists of local addresses, addresses and records that came in are. Conditions: each states its own.
-/
import Derived.Test.YtoaedlllnkcfnaaDoorCards
import Derived.Test.YtoaedlllnkcfnaaDoorTie
import Derived.Test.YtoaedlllnkcfnaaDoorRankFit
import Derived.WalkKit
import Derived.ProofKit
import Derived.OpenShut
import Derived.Lay
import Derived.Deep.DeepHandedRow
import Derived.Shelf.Vars
import Derived.SevenTiedAt
import Derived.Lib.LaidTab
import Derived.Stop.LaidErr
import Derived.ChangeSlices
namespace Go.Proofs.YtoaedlllnkcfnaaDoor
open Go.ChangeShapes Go.WideShapes Go.ChangeAt Go.RowKit

theorem own : ownKnob Tryd.prog.godebug = none := by kernel_rfl
def tables : List (String × DataW Unit) := Rows.rankSortsRow.laid
theorem cellsU8 : Tryd.prog.cellsOf 5 = 1 := by kernel_rfl
theorem cellsAddr : Tryd.prog.cellsOf 27 = 16 := by kernel_rfl
theorem cellsBeg : Tryd.prog.cellsOf 54 = 17 := by kernel_rfl
theorem cellsPol : Tryd.prog.cellsOf 56 = 19 := by kernel_rfl
theorem cellsReg : Tryd.prog.cellsOf 59 = 18 := by kernel_rfl
theorem cellsPols : Tryd.prog.cellsOf 57 = 171 := by kernel_rfl
theorem cellsRegs : Tryd.prog.cellsOf 60 = 90 := by kernel_rfl
theorem cellsI : Tryd.prog.cellsOf 3 = 1 := by kernel_rfl
def addrD (l : List UInt8) : DataW Unit := Lib.tabData .u8 (l.map fun c => (c.toNat : Int))
def rowD (r : PRow) : DataW Unit := .agg [.agg [addrD r.addr, .lit (.int .i64 r.bits)], .lit (.int .i64 r.prec), .lit (.int .i64 r.lab)]
def regD (r : SRow) : DataW Unit := .agg [.agg [addrD r.addr, .lit (.int .i64 r.bits)], .lit (.int .i64 r.scope)]
theorem laid_forms : tables = [("nomenclator/rank.policies", .agg (pRows.map rowD)), ("nomenclator/rank.regions", .agg (sRows.map regD))] := by rfl
section
variable {H : Type} {enc : TypeId × Value → H} {W : World} {base : Nat} {sp : Nat → Bool} {held : Bool}
theorem two_parts {l : List Value} {a b : Nat} (h : l.length = a + b) : l = (l.drop 0).take a ++ (l.drop a).take b := by
  rw [List.take_of_length_le (l := l.drop a) (by rw [List.length_drop]; omega), List.drop_zero, List.take_append_drop]
theorem three_parts {l : List Value} {a b c : Nat} (h : l.length = a + b + c) : l = (l.drop 0).take a ++ ((l.drop a).take b ++ (l.drop (a + b)).take c) := by
  rw [List.take_of_length_le (l := l.drop (a + b)) (by rw [List.length_drop]; omega), ← List.drop_drop, List.take_append_drop, List.drop_zero, List.take_append_drop]
end
section
variable {enc : TypeId × Value → Unit} {W : World} {base : Nat} {sp : Nat → Bool} {held : Bool}
theorem addr_known {fuel : Nat} {l : List Value} {x : List UInt8} {p : List MemPlace} (h : DataW.trod enc Tryd.prog W base sp held fuel 27 l = some (addrD x, p)) : l = bvs x := by
  have := Lib.cells_of_tab Tryd.underlying27 Tryd.underlying5 cellsU8 cellsAddr (zs := x.map fun c => (c.toNat : Int)) (k := .u8) h
  rw [this]
  unfold bvs
  rw [List.map_map]; rfl
theorem int_known {fuel : Nat} {l : List Value} {z : Int} {p : List MemPlace} (h : DataW.trod enc Tryd.prog W base sp held fuel 3 l = some (.lit (.int .i64 z), p)) : l = [.int .i64 z] := by
  obtain ⟨z', e, hy, _⟩ := DataW.trod_int Tryd.underlying3 h
  have h1 := congrArg Prod.fst hy
  simp only [DataW.lit.injEq, Lit.int.injEq, true_and] at h1
  rw [e, h1]
set_option maxRecDepth 100000 in
theorem beg_known {fuel : Nat} {l : List Value} {x : List UInt8} {n : Nat} {p : List MemPlace} (h : DataW.trod enc Tryd.prog W base sp held fuel 54 l = some (.agg [addrD x, .lit (.int .i64 n)], p)) : l = bvs x ++ [Value.int .i64 n] := by
  obtain ⟨xs, m, _, hx, hl, hxl, hat⟩ := DataW.trod_struct Tryd.underlying54 h
  rw [cellsBeg] at hl
  have hxl : xs.length = 2 := hxl
  have h0 : DataW.trod enc Tryd.prog W base sp held m 27 ((l.drop 0).take (Tryd.prog.cellsOf 27)) = xs[0]? := hat 0 _ rfl
  have h1 : DataW.trod enc Tryd.prog W base sp held m 3 ((l.drop 16).take (Tryd.prog.cellsOf 3)) = xs[1]? := hat 1 _ rfl
  rw [cellsAddr] at h0
  rw [cellsI] at h1
  have hx1 := congrArg Prod.fst hx
  simp only [DataW.agg.injEq] at hx1
  match xs, hxl with
  | [y0, y1], _ =>
    simp only [List.map_cons, List.map_nil, List.cons.injEq, and_true] at hx1
    obtain ⟨e0, e1⟩ := hx1
    obtain ⟨d0, q0⟩ := y0
    obtain ⟨d1, q1⟩ := y1
    simp only at e0 e1
    subst e0
    subst e1
    have g0 := addr_known h0
    have g1 := int_known h1
    have h2 := two_parts (l := l) (a := 16) (b := 1) (by omega)
    rw [h2, g0, g1]
set_option maxRecDepth 100000 in
theorem pol_known {fuel : Nat} {l : List Value} {r : PRow} {p : List MemPlace} (h : DataW.trod enc Tryd.prog W base sp held fuel 56 l = some (rowD r, p)) : l = r.cells := by
  unfold rowD at h
  obtain ⟨xs, m, _, hx, hl, hxl, hat⟩ := DataW.trod_struct Tryd.underlying56 h
  rw [cellsPol] at hl
  have hxl : xs.length = 3 := hxl
  have h0 : DataW.trod enc Tryd.prog W base sp held m 54 ((l.drop 0).take (Tryd.prog.cellsOf 54)) = xs[0]? := hat 0 _ rfl
  have h1 : DataW.trod enc Tryd.prog W base sp held m 3 ((l.drop 17).take (Tryd.prog.cellsOf 3)) = xs[1]? := hat 1 _ rfl
  have h2 : DataW.trod enc Tryd.prog W base sp held m 3 ((l.drop 18).take (Tryd.prog.cellsOf 3)) = xs[2]? := hat 2 _ rfl
  rw [cellsBeg] at h0
  rw [cellsI] at h1 h2
  have hx1 := congrArg Prod.fst hx
  simp only [DataW.agg.injEq] at hx1
  match xs, hxl with
  | [y0, y1, y2], _ =>
    simp only [List.map_cons, List.map_nil, List.cons.injEq, and_true] at hx1
    obtain ⟨e0, e1, e2⟩ := hx1
    obtain ⟨d0, q0⟩ := y0
    obtain ⟨d1, q1⟩ := y1
    obtain ⟨d2, q2⟩ := y2
    simp only at e0 e1 e2
    subst e0
    subst e1
    subst e2
    have g0 := beg_known h0
    have g1 := int_known h1
    have g2 := int_known h2
    have h3 := three_parts (l := l) (a := 17) (b := 1) (c := 1) (by omega)
    rw [h3, g0, g1, g2]
    unfold PRow.cells
    simp
set_option maxRecDepth 100000 in
theorem reg_known {fuel : Nat} {l : List Value} {r : SRow} {p : List MemPlace} (h : DataW.trod enc Tryd.prog W base sp held fuel 59 l = some (regD r, p)) : l = r.cells := by
  unfold regD at h
  obtain ⟨xs, m, _, hx, hl, hxl, hat⟩ := DataW.trod_struct Tryd.underlying59 h
  rw [cellsReg] at hl
  have hxl : xs.length = 2 := hxl
  have h0 : DataW.trod enc Tryd.prog W base sp held m 54 ((l.drop 0).take (Tryd.prog.cellsOf 54)) = xs[0]? := hat 0 _ rfl
  have h1 : DataW.trod enc Tryd.prog W base sp held m 3 ((l.drop 17).take (Tryd.prog.cellsOf 3)) = xs[1]? := hat 1 _ rfl
  rw [cellsBeg] at h0
  rw [cellsI] at h1
  have hx1 := congrArg Prod.fst hx
  simp only [DataW.agg.injEq] at hx1
  match xs, hxl with
  | [y0, y1], _ =>
    simp only [List.map_cons, List.map_nil, List.cons.injEq, and_true] at hx1
    obtain ⟨e0, e1⟩ := hx1
    obtain ⟨d0, q0⟩ := y0
    obtain ⟨d1, q1⟩ := y1
    simp only at e0 e1
    subst e0
    subst e1
    have g0 := beg_known h0
    have g1 := int_known h1
    have h3 := two_parts (l := l) (a := 17) (b := 1) (by omega)
    rw [h3, g0, g1]
    unfold SRow.cells
    simp
/-- an array of known values -/
theorem arr_known {t e : TypeId} {n s : Nat} {α : Type} (D : α → DataW Unit) (C : α → List Value) (ht : Tryd.prog.underlying t = some (.array n e)) (hs : Tryd.prog.cellsOf e = s) (hct : Tryd.prog.cellsOf t = n * s) 
    (hk : ∀ (m : Nat) (l : List Value) (r : α) (p : List MemPlace), DataW.trod enc Tryd.prog W base sp held m e l = some (D r, p) → l = C r) {fuel : Nat} {l : List Value} {rs : List α} (hC : ∀ r ∈ rs, (C r).length = s) (hn : rs.length = n) {p : List MemPlace} (h : DataW.trod enc Tryd.prog W base sp held fuel t l = some (.agg (rs.map D), p)) : l = rs.flatMap C := by
  obtain ⟨xs, m, _, hx, hl, hxl, hat⟩ := DataW.trod_array ht h
  rw [hct] at hl
  have hx1 := congrArg Prod.fst hx
  simp only [DataW.agg.injEq] at hx1
  have hrow : ∀ i r, rs[i]? = some r → (l.drop (i * s)).take s = C r := fun i r hr => by
    have hi : i < n := by rw [← hn]; exact (List.getElem?_eq_some_iff.1 hr).1
    have h1 := hat i hi
    rw [hs, List.getElem?_eq_getElem (by omega)] at h1
    have h2 : (rs.map D)[i]? = some (D r) := by rw [List.getElem?_map, hr]; rfl
    rw [hx1, List.getElem?_map, List.getElem?_eq_getElem (by omega)] at h2
    have h3 := Option.some.inj h2
    generalize xs[i]'(by omega) = y at h1 h3
    obtain ⟨d, q⟩ := y
    simp only at h3
    rw [h3] at h1
    exact hk m _ r _ h1
  rw [List.flatMap_def]
  have hfl : ∀ x ∈ rs.map C, x.length = s := fun x hx => by
    obtain ⟨r, hr, rfl⟩ := List.mem_map.1 hx
    exact hC r hr
  apply List.ext_getElem?
  intro j
  rcases Nat.eq_zero_or_pos s with h0 | h0
  · subst h0
    rw [List.getElem?_eq_none (by omega), List.getElem?_eq_none (by rw [flat_len hfl]; simp)]
  · rcases Nat.lt_or_ge j (n * s) with hj | hj
    · have hq : j / s < n := (Nat.div_lt_iff_lt_mul h0).2 hj
      have hr := Nat.mod_lt j h0
      have he : j = j / s * s + j % s := by rw [Nat.mul_comm]; exact (Nat.div_add_mod j s).symm
      obtain ⟨r, hrr⟩ : ∃ r, rs[j / s]? = some r := ⟨_, List.getElem?_eq_getElem (by omega)⟩
      have h1 := flat_at (l := rs.map C) (k := j / s) (j := j % s) (c := C r) hfl (by rw [List.getElem?_map, hrr]; rfl) hr
      rw [← he] at h1
      rw [h1, ← hrow _ _ hrr, List.getElem?_take, if_pos hr, List.getElem?_drop, ← he]
    · rw [List.getElem?_eq_none (by omega), List.getElem?_eq_none (by rw [flat_len hfl, List.length_map, hn]; exact hj)]
end
theorem renv_of {W : World} (hL : laidMet Tryd.prog tables W) : REnv W := by
  rw [laid_forms] at hL
  have h2 := hL.tail
  obtain ⟨ps, ⟨g', t', cs, fuel, p, q, hg', ht', hvar, hd, _, _⟩, _⟩ := hL
  obtain ⟨ps2, ⟨g2, t2, cs2, fuel2, p2, q2, hg2, ht2, hvar2, hd2, _, _⟩, _⟩ := h2
  have e1 : Tryd.prog.globalNamed "nomenclator/rank.policies" = some 0 := by kernel_rfl
  have e2 : Tryd.prog.globalNamed "nomenclator/rank.regions" = some 1 := by kernel_rfl
  have f1 : (Tryd.prog.globals[0]?).map (·.type) = some 57 := by kernel_rfl
  have f2 : (Tryd.prog.globals[1]?).map (·.type) = some 60 := by kernel_rfl
  obtain rfl := Option.some.inj (e1.symm.trans hg')
  obtain rfl := Option.some.inj (e2.symm.trans hg2)
  obtain rfl := Option.some.inj (f1.symm.trans ht')
  obtain rfl := Option.some.inj (f2.symm.trans ht2)
  have g1 := arr_known rowD PRow.cells Tryd.underlying57 cellsPol cellsPols (fun _ _ _ _ h => pol_known h) (rs := pRows) (by decide) rfl hd
  have g2 := arr_known regD SRow.cells Tryd.underlying60 cellsReg cellsRegs (fun _ _ _ _ h => reg_known h) (rs := sRows) (by decide) rfl hd2
  refine ⟨fun j v hj => ?_, fun j v hj => ?_⟩
  · rw [Addr.add_lit, Nat.zero_add, World.var?_cell e1 hvar j, ← Array.getElem?_toList, g1]
    exact hj
  · rw [Addr.add_lit, Nat.zero_add, World.var?_cell e2 hvar2 j, ← Array.getElem?_toList, g2]
    exact hj
def byteOf : Value → UInt8
  | .int _ z => UInt8.ofNat z.toNat
  | _ => 0
theorem byteOf_int {k : IntKind} {z : Int} (h0 : 0 ≤ z) (h1 : z ≤ 255) : ((byteOf (.int k z)).toNat : Int) = z := by
  unfold byteOf
  rw [UInt8.toNat_ofNat']
  omega
theorem wfByte (c : UInt8) : (Lit.int .u8 c.toNat).wf = true := by
  have h : ∀ k : Fin 256, (Lit.int .u8 ((UInt8.ofNat k.val).toNat : Int)).wf = true := by decide +kernel
  simpa using h ⟨c.toNat, c.toNat_lt⟩
theorem mapM_all {α β : Type} {f : α → Option β} {h : α → β} : ∀ {l : List α}, (∀ i ∈ l, f i = some (h i)) → l.mapM f = some (l.map h)
  | [], _ => rfl
  | a :: l, hl => by
    rw [List.mapM_cons, hl a List.mem_cons_self, mapM_all (fun i hi => hl i (List.mem_cons_of_mem _ hi))]; rfl
/-- an array of bytes, as a datum -/
def byteD {H : Type} (x : List UInt8) : DataW H := .agg (x.map fun c => .lit (.int .u8 c.toNat))
set_option maxRecDepth 100000 in
theorem open_bytes {H : Type} {enc : TypeId × Value → H} {W : World} {base : Nat} {sp : Nat → Bool} {held : Bool} {r : Reach} {b0 n : Nat} {t : TypeId} {v : Value} {d : DataW H} {ps : List MemPlace} (ht : Tryd.prog.underlying t = some (.array n 5)) (hct : Tryd.prog.cellsOf t = n)
    (hval : Value.okWide Tryd.prog W r b0 t v) (hd : DataW.Trod enc Tryd.prog W base sp held t v d ps) : ∃ x : List UInt8, x.length = n ∧ v = .agg (bvs x).toArray ∧ d = byteD x ∧ ps = [] := by
  obtain ⟨cs, rfl, hsz⟩ : ∃ cs, v = .agg cs ∧ cs.size = Tryd.prog.cellsOf t := by
    cases v <;> simp [Value.okWide, ht] at hval
    exact ⟨_, rfl, hval.1⟩
  obtain ⟨l⟩ := cs
  obtain ⟨fuel, hf⟩ := hd
  obtain ⟨xs, m, _, hx, hl, hxl, hat⟩ := DataW.trod_array ht hf
  rw [hct] at hl
  simp only [Value.cells] at hat hl
  have hat' : ∀ i, i < n → ∃ z : Int, l[i]? = some (.int .u8 z) ∧ xs[i]? = some (.lit (.int .u8 z), []) ∧ 0 ≤ z ∧ z ≤ 255 := fun i hi => by
    have h := hat i hi
    rw [cellsU8, Nat.mul_one, List.getElem?_eq_getElem (by omega)] at h
    obtain ⟨z, hz, hy, hw⟩ := DataW.trod_int Tryd.underlying5 h
    refine ⟨z, ?_, ?_, bounds_u8 hw⟩
    · have := congrArg (·[0]?) hz
      simpa [List.getElem?_take, List.getElem?_drop] using this
    · rw [List.getElem?_eq_getElem (by omega), hy]
  refine ⟨l.map byteOf, by rw [List.length_map]; exact hl, ?_, ?_, ?_⟩
  · refine congrArg (fun z : List Value => Value.agg z.toArray) (?_ : l = bvs (l.map byteOf))
    unfold bvs
    rw [List.map_map]
    refine List.ext_getElem? (fun i => ?_)
    rcases Nat.lt_or_ge i n with hi | hi
    · obtain ⟨z, h1, _, h3, h4⟩ := hat' i hi
      rw [List.getElem?_map, h1]
      show _ = some (Value.int .u8 ((byteOf (.int .u8 z)).toNat : Int))
      rw [byteOf_int h3 h4]
    · rw [List.getElem?_eq_none (by omega), List.getElem?_eq_none (by rw [List.length_map]; omega)]
  · have hx1 := congrArg Prod.fst hx
    simp only at hx1
    rw [hx1]
    unfold byteD
    refine congrArg DataW.agg ?_
    rw [List.map_map]
    refine List.ext_getElem? (fun i => ?_)
    rcases Nat.lt_or_ge i n with hi | hi
    · obtain ⟨z, h1, h2, h3, h4⟩ := hat' i hi
      rw [List.getElem?_map, h2, List.getElem?_map, h1]
      show _ = some (DataW.lit (.int .u8 ((byteOf (.int .u8 z)).toNat : Int)))
      rw [byteOf_int h3 h4]; rfl
    · rw [List.getElem?_eq_none (by rw [List.length_map]; omega), List.getElem?_eq_none (by rw [List.length_map]; omega)]
  · have hx2 := congrArg Prod.snd hx
    simp only at hx2
    rw [hx2]
    apply List.flatMap_eq_nil_iff.2
    intro y hy
    obtain ⟨i, hi, rfl⟩ := List.getElem_of_mem hy
    obtain ⟨z, _, h2, _⟩ := hat' i (by omega)
    rw [List.getElem?_eq_getElem hi] at h2
    rw [Option.some.inj h2]
theorem shut_bytes {H : Type} {enc : TypeId × Value → H} {W : World} {base n : Nat} {sp : Nat → Bool} {held : Bool} {t : TypeId} (ht : Tryd.prog.underlying t = some (.array n 5)) (hct : Tryd.prog.cellsOf t = n) {x : List UInt8} (hx : x.length = n) :
    DataW.Trod enc Tryd.prog W base sp held t (.agg (bvs x).toArray) (byteD x) [] := by
  refine ⟨2, ?_⟩
  have hm : (List.range n).mapM (fun i => DataW.trod enc Tryd.prog W base sp held 1 5 (((bvs x).drop (i * Tryd.prog.cellsOf 5)).take (Tryd.prog.cellsOf 5))) = some (x.map fun c => ((.lit (.int .u8 c.toNat) : DataW H), ([] : List MemPlace))) := by
    rw [cellsU8]
    have hi : ∀ i, i < n → DataW.trod enc Tryd.prog W base sp held 1 5 (((bvs x).drop (i * 1)).take 1) = some (.lit (.int .u8 (x.getD i 0).toNat), []) := fun i hi => by
      rw [Nat.mul_one, List.drop_eq_getElem_cons (by rw [bvs_length]; omega)]
      have e : (bvs x)[i]'(by rw [bvs_length]; omega) = .int .u8 (x.getD i 0).toNat := by
        have := bvs_at (xs := x) (j := i) (by omega)
        rw [List.getElem?_eq_getElem (by rw [bvs_length]; omega)] at this
        exact Option.some.inj this
      rw [e]
      simp [DataW.trod, Tryd.underlying5, wfByte]
    rw [mapM_all (h := fun i => ((.lit (.int .u8 (x.getD i 0).toNat) : DataW H), ([] : List MemPlace))) (fun i hi' => hi i (List.mem_range.1 hi'))]
    refine congrArg some (List.ext_getElem? (fun i => ?_))
    rcases Nat.lt_or_ge i n with hlt | hlt
    · rw [List.getElem?_map, List.getElem?_map, List.getElem?_range hlt, List.getElem?_eq_getElem (by omega)]
      simp [List.getD, List.getElem?_eq_getElem (show i < x.length by omega)]
    · rw [List.getElem?_eq_none (by rw [List.length_map, List.length_range]; exact hlt), List.getElem?_eq_none (by rw [List.length_map]; omega)]
  show DataW.trod enc Tryd.prog W base sp held 2 t (bvs x) = _
  unfold DataW.trod
  rw [ht]
  simp only
  rw [if_pos (by rw [bvs_length, hct]; exact hx), hm]
  simp [byteD, List.map_map, Function.comp_def]
/-- the bytes of an array that came in -/
theorem octets_of {H : Type} {enc : TypeId × Value → H} {W : World} {base fuel : Nat} {sp : Nat → Bool} {held : Bool} {l : List Value} {y : DataW H × List MemPlace} (h : DataW.trod enc Tryd.prog W base sp held fuel 27 l = some y) : ∃ x : List UInt8, x.length = 16 ∧ l = bvs x := by
  obtain ⟨xs, m, _, _, hl, hxl, hat⟩ := DataW.trod_array Tryd.underlying27 h
  rw [cellsAddr] at hl
  have hat' : ∀ i, i < 16 → ∃ z : Int, l[i]? = some (.int .u8 z) ∧ 0 ≤ z ∧ z ≤ 255 := fun i hi => by
    have h := hat i hi
    rw [cellsU8, Nat.mul_one, List.getElem?_eq_getElem (by omega)] at h
    obtain ⟨z, hz, _, hw⟩ := DataW.trod_int Tryd.underlying5 h
    refine ⟨z, ?_, bounds_u8 hw⟩
    have := congrArg (·[0]?) hz
    simpa [List.getElem?_take, List.getElem?_drop] using this
  refine ⟨l.map byteOf, by rw [List.length_map]; exact hl, ?_⟩
  unfold bvs
  rw [List.map_map]
  refine List.ext_getElem? (fun i => ?_)
  rcases Nat.lt_or_ge i 16 with hi | hi
  · obtain ⟨z, h1, h3, h4⟩ := hat' i hi
    rw [List.getElem?_map, h1]
    show _ = some (Value.int .u8 ((byteOf (.int .u8 z)).toNat : Int))
    rw [byteOf_int h3 h4]
  · rw [List.getElem?_eq_none (by omega), List.getElem?_eq_none (by rw [List.length_map]; omega)]
theorem cellsLoc : Tryd.prog.cellsOf 42 = 18 := by kernel_rfl
theorem cellsRec : Tryd.prog.cellsOf 29 = 21 := by kernel_rfl
theorem cellsBool : Tryd.prog.cellsOf 4 = 1 := by kernel_rfl
theorem cellsStr : Tryd.prog.cellsOf 9 = 1 := by kernel_rfl
section
variable {H : Type} {enc : TypeId × Value → H} {W : World} {base : Nat} {sp : Nat → Bool} {held : Bool}
set_option maxRecDepth 100000 in
theorem loc_of {fuel : Nat} {l : List Value} {y : DataW H × List MemPlace} (h : DataW.trod enc Tryd.prog W base sp held fuel 42 l = some y) : ∃ r : LV, r.addr.length = 16 ∧ l = r.cells := by
  obtain ⟨xs, m, _, _, hl, hxl, hat⟩ := DataW.trod_struct Tryd.underlying42 h
  rw [cellsLoc] at hl
  have hxl : xs.length = 3 := hxl
  have h0 : DataW.trod enc Tryd.prog W base sp held m 27 ((l.drop 0).take (Tryd.prog.cellsOf 27)) = xs[0]? := hat 0 _ rfl
  have h1 : DataW.trod enc Tryd.prog W base sp held m 4 ((l.drop 16).take (Tryd.prog.cellsOf 4)) = xs[1]? := hat 1 _ rfl
  have h2 : DataW.trod enc Tryd.prog W base sp held m 4 ((l.drop 17).take (Tryd.prog.cellsOf 4)) = xs[2]? := hat 2 _ rfl
  rw [cellsAddr, List.getElem?_eq_getElem (by omega)] at h0
  rw [cellsBool, List.getElem?_eq_getElem (by omega)] at h1 h2
  obtain ⟨x, hx, e0⟩ := octets_of h0
  obtain ⟨b, e1, _⟩ := DataW.trod_bool Tryd.underlying4 h1
  obtain ⟨c, e2, _⟩ := DataW.trod_bool Tryd.underlying4 h2
  refine ⟨⟨x, b, c⟩, hx, ?_⟩
  have h3 := three_parts (l := l) (a := 16) (b := 1) (c := 1) (by omega)
  rw [h3, e0, e1, e2]
  unfold LV.cells
  simp
set_option maxRecDepth 100000 in
theorem rec_of {fuel : Nat} {l : List Value} {y : DataW H × List MemPlace} (h : DataW.trod enc Tryd.prog W base sp held fuel 29 l = some y) : ∃ r : RV, r.addr.length = 16 ∧ l = r.cells := by
  obtain ⟨xs, m, _, _, hl, hxl, hat⟩ := DataW.trod_struct Tryd.underlying29 h
  rw [cellsRec] at hl
  have hxl : xs.length = 6 := hxl
  have h0 : DataW.trod enc Tryd.prog W base sp held m 9 ((l.drop 0).take (Tryd.prog.cellsOf 9)) = xs[0]? := hat 0 _ rfl
  have h1 : DataW.trod enc Tryd.prog W base sp held m 3 ((l.drop 1).take (Tryd.prog.cellsOf 3)) = xs[1]? := hat 1 _ rfl
  have h2 : DataW.trod enc Tryd.prog W base sp held m 3 ((l.drop 2).take (Tryd.prog.cellsOf 3)) = xs[2]? := hat 2 _ rfl
  have h3 : DataW.trod enc Tryd.prog W base sp held m 27 ((l.drop 3).take (Tryd.prog.cellsOf 27)) = xs[3]? := hat 3 _ rfl
  have h4 : DataW.trod enc Tryd.prog W base sp held m 9 ((l.drop 19).take (Tryd.prog.cellsOf 9)) = xs[4]? := hat 4 _ rfl
  have h5 : DataW.trod enc Tryd.prog W base sp held m 9 ((l.drop 20).take (Tryd.prog.cellsOf 9)) = xs[5]? := hat 5 _ rfl
  rw [cellsAddr, List.getElem?_eq_getElem (by omega)] at h3
  rw [cellsStr, List.getElem?_eq_getElem (by omega)] at h0 h4 h5
  rw [cellsI, List.getElem?_eq_getElem (by omega)] at h1 h2
  obtain ⟨x, hx, e3⟩ := octets_of h3
  obtain ⟨n, e0, _, _⟩ := DataW.trod_string Tryd.underlying9 h0
  obtain ⟨t, e4, _, _⟩ := DataW.trod_string Tryd.underlying9 h4
  obtain ⟨d, e5, _, _⟩ := DataW.trod_string Tryd.underlying9 h5
  obtain ⟨ty, e1, _⟩ := DataW.trod_int Tryd.underlying3 h1
  obtain ⟨tl, e2, _⟩ := DataW.trod_int Tryd.underlying3 h2
  refine ⟨⟨n, ty, tl, x, t, d⟩, hx, ?_⟩
  have e : l = (l.drop 0).take 1 ++ ((l.drop 1).take 1 ++ ((l.drop 2).take 1 ++ ((l.drop 3).take 16 ++ ((l.drop 19).take 1 ++ (l.drop 20).take 1)))) := by
    have hd20 : (l.drop 20).take 1 = l.drop 20 := List.take_of_length_le (by rw [List.length_drop]; omega)
    have g : ∀ (p q : Nat) (r : List Value), r = l.drop (p + q) → (l.drop p).take q ++ r = l.drop p := fun p q r hr => by
      rw [hr, ← List.drop_drop, List.take_append_drop]
    rw [hd20, g 19 1 _ rfl, g 3 16 _ rfl, g 2 1 _ rfl, g 1 1 _ rfl, g 0 1 _ rfl]
    rfl
  rw [e, e0, e1, e2, e3, e4, e5]
  unfold RV.cells
  simp
end
/-- what a list of values of several cells that came in is -/
theorem open_rows {H : Type} {enc : TypeId × Value → H} {W : World} {fuel : Nat} {A : Option Addr} {len cap s : Nat} {x : DataW H × List MemPlace} {st e : TypeId} {α : Type} (z : α) (C : α → List Value) (Q : α → Prop) (hst : Tryd.prog.underlying st = some (.slice e)) (hs : Tryd.prog.cellsOf e = s) (h0 : 0 < s)
    (hC : ∀ (m : Nat) (l : List Value) (y : DataW H × List MemPlace), DataW.trod enc Tryd.prog W 0 (fun _ => true) true m e l = some y → ∃ r : α, Q r ∧ l = C r) (hlen : ∀ r, Q r → (C r).length = s)
    (h : DataW.trod enc Tryd.prog W 0 (fun _ => true) true fuel st (Value.slice A len cap).cells.toList = some x) :
    ∃ ls : List α, ls.length = len ∧ (∀ r ∈ ls, Q r) ∧ RowsAt s W A (ls.map C) := by
  rcases DataW.trod_slice hst h with ⟨hcs, _⟩ | ⟨a, len', cap', elems, rest, n, _, hcs, _, _, hl, _, hel, hat, _⟩
  · simp [Value.cells] at hcs
    obtain ⟨rfl, rfl, rfl⟩ := hcs
    exact ⟨[], rfl, (fun s hs => by cases hs), (fun h0 => absurd h0 (by simp))⟩
  · simp [Value.cells] at hcs
    obtain ⟨rfl, rfl, rfl⟩ := hcs
    rw [hs] at hat
    have hat' : ∀ i, i < len → ∃ r : α, Q r ∧ W.cells? 0 (a.add (i * s)) s = some (C r) := fun i hi => by
      have h := hat i hi
      rw [List.getElem?_eq_getElem (by omega)] at h
      obtain ⟨cs, h1, h2⟩ := Option.bind_eq_some_iff.1 h
      obtain ⟨r, hr, rfl⟩ := hC _ _ _ h2
      exact ⟨r, hr, h1⟩
    have hch : ∃ f : Nat → α, ∀ i, i < len → Q (f i) ∧ W.cells? 0 (a.add (i * s)) s = some (C (f i)) :=
      ⟨fun i => if hi : i < len then (hat' i hi).choose else z, fun i hi => by
        simp only [dif_pos hi]
        exact (hat' i hi).choose_spec⟩
    obtain ⟨f, hf⟩ := hch
    refine ⟨(List.range len).map f, by simp, fun r hr => ?_, fun h1 => ?_⟩
    · obtain ⟨i, hi, rfl⟩ := List.mem_map.1 hr
      exact (hf i (List.mem_range.1 hi)).1
    · have hl0 : 0 < len := by simpa using h1
      have hc : ∀ i, i < len → ∀ j v, (C (f i))[j]? = some v → W.cell? ((a.add (i * s)).add j) = some v := fun i hi j v hj => by
        have hjs : j < s := by
          have := (List.getElem?_eq_some_iff.1 hj).1
          rw [hlen _ (hf i hi).1] at this; exact this
        rw [(World.cells?_some (hf i hi).2).2.2 j hjs]
        exact hj
      obtain ⟨v0, hv0⟩ : ∃ v, (C (f 0))[0]? = some v := ⟨_, List.getElem?_eq_getElem (by rw [hlen _ (hf 0 hl0).1]; exact h0)⟩
      have hc0 := hc 0 hl0 0 v0 hv0
      obtain ⟨b, off, spot⟩ := a
      have hspot : spot = none := by simpa [Addr.add] using World.cell?_spot hc0
      subst hspot
      refine ⟨b, off, rfl, ?_, fun k c hk j v hj => ?_⟩
      · have := cell_lt hc0
        rwa [Addr.add_lit, Addr.add_lit] at this
      · have hkl : k < len := by
          have := (List.getElem?_eq_some_iff.1 hk).1
          simpa using this
        have e : c = C (f k) := by
          rw [List.getElem?_map, List.getElem?_map, List.getElem?_range hkl] at hk
          simpa using hk.symm
        subst e
        have h1 := hc k hkl j v hj
        rw [Addr.add_lit, Addr.add_lit] at h1
        exact h1
section
variable {H : Type} {enc : TypeId × Value → H} {W : World} {fuel : Nat} {A : Option Addr} {len cap : Nat} {x : DataW H × List MemPlace}
theorem open_locs (h : DataW.trod enc Tryd.prog W 0 (fun _ => true) true fuel 22 (Value.slice A len cap).cells.toList = some x) : ∃ ls : List LV, ls.length = len ∧ (∀ r ∈ ls, r.addr.length = 16) ∧ LocsAt W A ls :=
  open_rows lvZero LV.cells (fun r => r.addr.length = 16) Tryd.underlying22 cellsLoc (by decide) (fun _ _ _ h => loc_of h) (fun _ h => LV.size h) h
theorem open_recs (h : DataW.trod enc Tryd.prog W 0 (fun _ => true) true fuel 25 (Value.slice A len cap).cells.toList = some x) : ∃ ls : List RV, ls.length = len ∧ (∀ r ∈ ls, r.addr.length = 16) ∧ RecsAt W A ls :=
  open_rows rvZero RV.cells (fun r => r.addr.length = 16) Tryd.underlying25 cellsRec (by decide) (fun _ _ _ h => rec_of h) (fun _ h => RV.size h) h
theorem open_addrs (h : DataW.trod enc Tryd.prog W 0 (fun _ => true) true fuel 23 (Value.slice A len cap).cells.toList = some x) : ∃ ls : List (List UInt8), ls.length = len ∧ (∀ r ∈ ls, r.length = 16) ∧ RowsAt 16 W A (ls.map bvs) :=
  open_rows zero16 bvs (fun r => r.length = 16) Tryd.underlying23 cellsAddr (by decide) (fun _ _ _ h => octets_of h) (fun r h => by rw [bvs_length]; exact h) h
end
end Go.Proofs.YtoaedlllnkcfnaaDoor
