/-
  What every claim of this seat begins with: the tables that the rows list, what the library's variables hold in every world in which a call begins, and what an array of bytes that came in is. Conditions: each states its own.
-/
import Derived.Test.YtclfmokdjmnjcaaGreatDoorCards
import Derived.Test.YtclfmokdjmnjcaaGreatDoorTie
import Derived.Test.YtclfmokdjmnjcaaGreatDoorAddrMem
import Derived.WalkKit
import Derived.ProofKit
import Derived.OpenShut
import Derived.Lay
import Derived.Deep.DeepHandedRow
import Derived.Shelf.Vars
import Derived.SevenTiedAt
import Derived.Stop.LaidErr
import Derived.Lib.LaidTab
import Derived.Lib.TrailingZeros
namespace Go.Proofs.YtclfmokdjmnjcaaGreatDoor
open Go.ChangeShapes Go.WideShapes Go.ChangeAt Go.RowKit

theorem own : ownKnob Tryz.prog.godebug = none := by kernel_rfl
def tables : List (String × DataW Unit) := Rows.hostsBackRow.laid
theorem env_of_shape {W : World} (h : W.ShapedOpen Tryz.prog) : Env W := by
  obtain ⟨m, hm⟩ := cell_of_shapedOpen_int (k := .i64) (t := 3) (zero := #[.int .i64 0]) (g := 0) h (by decide +kernel) (by kernel_rfl) rfl (by kernel_rfl) (by kernel_rfl) Tryz.underlying3
  exact ⟨cell_lt hm, m, hm⟩
theorem star : "*" ++ "errors.errorString" = "*errors.errorString" := by decide
theorem errRow (u : TypeId) (h : Tryz.prog.typeName? 3 u = some "*errors.errorString") : u = 154 :=
  typeName_ptr_named (nm := "errors.errorString") (by rw [star]; kernel_rfl) (by kernel_rfl) (by decide) u (by rw [star]; exact h)
def bruZ : List Int := Lib.deBruijn64tab.map fun (k : Nat) => (k : Int)
theorem laid_forms : tables = ("math/bits.deBruijn32tab", Rows.laid_math_bits_deBruijn32tab) :: ("math/bits.deBruijn64tab", Lib.tabData .u8 bruZ) :: ("internal/strconv.uint64pow10", Lib.tabData .u64 Lib.pow10Tab) :: ("unicode/utf8.acceptRanges", Rows.laid_unicode_utf8_acceptRanges)
    :: ("strconv.ErrRange", .iface "*errors.errorString" (.ptr (.agg [.lit (.string [118, 97, 108, 117, 101, 32, 111, 117, 116, 32, 111, 102, 32, 114, 97, 110, 103, 101])])))
    :: ("strconv.ErrSyntax", .iface "*errors.errorString" (.ptr (.agg [.lit (.string [105, 110, 118, 97, 108, 105, 100, 32, 115, 121, 110, 116, 97, 120])])))
    :: ("unicode/utf8.first", Rows.laid_unicode_utf8_first) :: [] := by rfl
theorem cellsU8 : Tryz.prog.cellsOf 5 = 1 := by kernel_rfl
theorem cellsStr1 : Tryz.prog.cellsOf 9 = 1 := by kernel_rfl
theorem cellsErr : Tryz.prog.cellsOf 156 = 1 := by kernel_rfl
theorem errField : ∃ f : Field, Tryz.prog.underlying 156 = some (.struct #[f]) ∧ f.type = 9 ∧ f.offset = 0 :=
  ⟨(Tryz.prog.fieldsOf 156)[0]!, by kernel_rfl, by kernel_rfl, by kernel_rfl⟩
theorem aenv_of {W : World} (hsh : W.ShapedOpen Tryz.prog) (hL : laidMet Tryz.prog tables W) : AEnv W := by
  rw [laid_forms] at hL
  obtain ⟨f, hf, hft, hfo⟩ := errField
  have h1 := hL.tail
  have h2 := h1.tail
  have h4 := h2.tail.tail
  have hbru : Lib.TabIs Tryz.prog W "math/bits.deBruijn64tab" .u8 bruZ := Lib.tabIs_of_head (g := 7) (by kernel_rfl) (by kernel_rfl) Tryz.underlying162 Tryz.underlying5 cellsU8 (by kernel_rfl) h1
  have hpow := Lib.tabIs_of_head (g := 1) (by kernel_rfl) (by kernel_rfl) Tryz.underlying144 Tryz.underlying92 (by kernel_rfl) (by kernel_rfl) h2
  obtain ⟨a0, s0, hv0, _⟩ := laid_sentinel (g := 3) h4 (by kernel_rfl) (by kernel_rfl) Tryz.underlying60 errRow Tryz.underlying154 hf hft hfo Tryz.underlying9 cellsErr cellsStr1
  obtain ⟨a1, s1, hv1, _⟩ := laid_sentinel (g := 2) h4.tail (by kernel_rfl) (by kernel_rfl) Tryz.underlying60 errRow Tryz.underlying154 hf hft hfo Tryz.underlying9 cellsErr cellsStr1
  refine ⟨env_of_shape hsh, hpow, ?_, ⟨_, _, by simpa using World.var?_cell (g := 2) (by kernel_rfl) hv1 0⟩, ⟨_, _, by simpa using World.var?_cell (g := 3) (by kernel_rfl) hv0 0⟩⟩
  exact hbru.cell (by kernel_rfl) 15 (by decide)

def byteOf : Value → UInt8
  | .int _ z => UInt8.ofNat z.toNat
  | _ => 0
theorem byteOf_int {k : IntKind} {z : Int} (h0 : 0 ≤ z) (h1 : z ≤ 255) : ((byteOf (.int k z)).toNat : Int) = z := by
  unfold byteOf
  rw [UInt8.toNat_ofNat']
  omega
theorem wfByte (c : UInt8) : (Lit.int .u8 c.toNat).wf = true := by
  have h : ∀ k : Fin 256, (Lit.int .u8 ((UInt8.ofNat k.val).toNat : Int)).wf = true := by decide +kernel
  simpa using h ⟨c.toNat, c.toNat_lt⟩
theorem mapM_all {α β : Type} {f : α → Option β} {h : α → β} : ∀ {l : List α}, (∀ i ∈ l, f i = some (h i)) → l.mapM f = some (l.map h)
  | [], _ => rfl
  | a :: l, hl => by
    rw [List.mapM_cons, hl a List.mem_cons_self, mapM_all (fun i hi => hl i (List.mem_cons_of_mem _ hi))]; rfl
/-- an array of bytes, as a datum -/
def byteD {H : Type} (x : List UInt8) : DataW H := .agg (x.map fun c => .lit (.int .u8 c.toNat))
set_option maxRecDepth 100000 in
theorem open_bytes {H : Type} {enc : TypeId × Value → H} {W : World} {base : Nat} {sp : Nat → Bool} {held : Bool} {r : Reach} {b0 n : Nat} {t : TypeId} {v : Value} {d : DataW H} {ps : List MemPlace} (ht : Tryz.prog.underlying t = some (.array n 5)) (hct : Tryz.prog.cellsOf t = n)
    (hval : Value.okWide Tryz.prog W r b0 t v) (hd : DataW.Trod enc Tryz.prog W base sp held t v d ps) : ∃ x : List UInt8, x.length = n ∧ v = .agg (bvs x).toArray ∧ d = byteD x ∧ ps = [] := by
  obtain ⟨cs, rfl, hsz⟩ : ∃ cs, v = .agg cs ∧ cs.size = Tryz.prog.cellsOf t := by
    cases v <;> simp [Value.okWide, ht] at hval
    exact ⟨_, rfl, hval.1⟩
  obtain ⟨l⟩ := cs
  obtain ⟨fuel, hf⟩ := hd
  obtain ⟨xs, m, _, hx, hl, hxl, hat⟩ := DataW.trod_array ht hf
  rw [hct] at hl
  simp only [Value.cells] at hat hl
  have hat' : ∀ i, i < n → ∃ z : Int, l[i]? = some (.int .u8 z) ∧ xs[i]? = some (.lit (.int .u8 z), []) ∧ 0 ≤ z ∧ z ≤ 255 := fun i hi => by
    have h := hat i hi
    rw [cellsU8, Nat.mul_one, List.getElem?_eq_getElem (by omega)] at h
    obtain ⟨z, hz, hy, hw⟩ := DataW.trod_int Tryz.underlying5 h
    refine ⟨z, ?_, ?_, bounds_u8 hw⟩
    · have := congrArg (·[0]?) hz
      simpa [List.getElem?_take, List.getElem?_drop] using this
    · rw [List.getElem?_eq_getElem (by omega), hy]
  refine ⟨l.map byteOf, by rw [List.length_map]; exact hl, ?_, ?_, ?_⟩
  · refine congrArg (fun z : List Value => Value.agg z.toArray) (?_ : l = bvs (l.map byteOf))
    unfold bvs
    rw [List.map_map]
    refine List.ext_getElem? (fun i => ?_)
    rcases Nat.lt_or_ge i n with hi | hi
    · obtain ⟨z, h1, _, h3, h4⟩ := hat' i hi
      rw [List.getElem?_map, h1]
      show _ = some (Value.int .u8 ((byteOf (.int .u8 z)).toNat : Int))
      rw [byteOf_int h3 h4]
    · rw [List.getElem?_eq_none (by omega), List.getElem?_eq_none (by rw [List.length_map]; omega)]
  · have hx1 := congrArg Prod.fst hx
    simp only at hx1
    rw [hx1]
    unfold byteD
    refine congrArg DataW.agg ?_
    rw [List.map_map]
    refine List.ext_getElem? (fun i => ?_)
    rcases Nat.lt_or_ge i n with hi | hi
    · obtain ⟨z, h1, h2, h3, h4⟩ := hat' i hi
      rw [List.getElem?_map, h2, List.getElem?_map, h1]
      show _ = some (DataW.lit (.int .u8 ((byteOf (.int .u8 z)).toNat : Int)))
      rw [byteOf_int h3 h4]; rfl
    · rw [List.getElem?_eq_none (by rw [List.length_map]; omega), List.getElem?_eq_none (by rw [List.length_map]; omega)]
  · have hx2 := congrArg Prod.snd hx
    simp only at hx2
    rw [hx2]
    apply List.flatMap_eq_nil_iff.2
    intro y hy
    obtain ⟨i, hi, rfl⟩ := List.getElem_of_mem hy
    obtain ⟨z, _, h2, _⟩ := hat' i (by omega)
    rw [List.getElem?_eq_getElem hi] at h2
    rw [Option.some.inj h2]
theorem shut_bytes {H : Type} {enc : TypeId × Value → H} {W : World} {base n : Nat} {sp : Nat → Bool} {held : Bool} {t : TypeId} (ht : Tryz.prog.underlying t = some (.array n 5)) (hct : Tryz.prog.cellsOf t = n) {x : List UInt8} (hx : x.length = n) :
    DataW.Trod enc Tryz.prog W base sp held t (.agg (bvs x).toArray) (byteD x) [] := by
  refine ⟨2, ?_⟩
  have hm : (List.range n).mapM (fun i => DataW.trod enc Tryz.prog W base sp held 1 5 (((bvs x).drop (i * Tryz.prog.cellsOf 5)).take (Tryz.prog.cellsOf 5))) = some (x.map fun c => ((.lit (.int .u8 c.toNat) : DataW H), ([] : List MemPlace))) := by
    rw [cellsU8]
    have hi : ∀ i, i < n → DataW.trod enc Tryz.prog W base sp held 1 5 (((bvs x).drop (i * 1)).take 1) = some (.lit (.int .u8 (x.getD i 0).toNat), []) := fun i hi => by
      rw [Nat.mul_one, List.drop_eq_getElem_cons (by rw [bvs_length]; omega)]
      have e : (bvs x)[i]'(by rw [bvs_length]; omega) = .int .u8 (x.getD i 0).toNat := by
        have := bvs_at (xs := x) (j := i) (by omega)
        rw [List.getElem?_eq_getElem (by rw [bvs_length]; omega)] at this
        exact Option.some.inj this
      rw [e]
      simp [DataW.trod, Tryz.underlying5, wfByte]
    rw [mapM_all (h := fun i => ((.lit (.int .u8 (x.getD i 0).toNat) : DataW H), ([] : List MemPlace))) (fun i hi' => hi i (List.mem_range.1 hi'))]
    refine congrArg some (List.ext_getElem? (fun i => ?_))
    rcases Nat.lt_or_ge i n with hlt | hlt
    · rw [List.getElem?_map, List.getElem?_map, List.getElem?_range hlt, List.getElem?_eq_getElem (by omega)]
      simp [List.getD, List.getElem?_eq_getElem (show i < x.length by omega)]
    · rw [List.getElem?_eq_none (by rw [List.length_map, List.length_range]; exact hlt), List.getElem?_eq_none (by rw [List.length_map]; omega)]
  show DataW.trod enc Tryz.prog W base sp held 2 t (bvs x) = _
  unfold DataW.trod
  rw [ht]
  simp only
  rw [if_pos (by rw [bvs_length, hct]; exact hx), hm]
  simp [byteD, List.map_map, Function.comp_def]
end Go.Proofs.YtclfmokdjmnjcaaGreatDoor
