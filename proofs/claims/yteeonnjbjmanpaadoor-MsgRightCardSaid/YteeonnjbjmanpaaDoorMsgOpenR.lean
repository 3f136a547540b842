/-
  What a record and a message that came in are: their cells. Conditions: each states its own.
-/
import Derived.Test.YteeonnjbjmanpaaDoorMsgAllM
import Derived.WalkKit
import Derived.ProofKit
import Derived.OpenShut
import Derived.ChangeArms
import Derived.SizedLaws
namespace Go.Proofs.YteeonnjbjmanpaaDoor
open Go.ChangeShapes Go.WideShapes Go.ChangeAt Go.RowKit

theorem cRec' : Tryd.prog.cellsOf 25 = 21 := by kernel_rfl
theorem cMsg' : Tryd.prog.cellsOf 30 = 9 := by kernel_rfl
theorem cQst' : Tryd.prog.cellsOf 27 = 2 := by kernel_rfl
theorem cAdr' : Tryd.prog.cellsOf 23 = 16 := by kernel_rfl
theorem cStr' : Tryd.prog.cellsOf 9 = 1 := by kernel_rfl
theorem cInt' : Tryd.prog.cellsOf 3 = 1 := by kernel_rfl
theorem cBool' : Tryd.prog.cellsOf 4 = 1 := by kernel_rfl
theorem cU8' : Tryd.prog.cellsOf 5 = 1 := by kernel_rfl
theorem cRs' : Tryd.prog.cellsOf 28 = 1 := by kernel_rfl
def byteW : Value → UInt8
  | .int _ z => UInt8.ofNat z.toNat
  | _ => 0
theorem byteW_int {k : IntKind} {z : Int} (h0 : 0 ≤ z) (h1 : z ≤ 255) : ((byteW (.int k z)).toNat : Int) = z := by
  unfold byteW
  rw [UInt8.toNat_ofNat']
  omega
section
variable {H : Type} {enc : TypeId × Value → H} {W : World} {sp : Nat → Bool} {held : Bool} {base : Nat}
/-- the bytes of an address that came in -/
theorem octs_m {fuel : Nat} {l : List Value} {y : DataW H × List MemPlace} (h : DataW.trod enc Tryd.prog W base sp held fuel 23 l = some y) : ∃ x : List UInt8, x.length = 16 ∧ l = bvs x := by
  obtain ⟨xs, m, _, _, hl, hxl, hat⟩ := DataW.trod_array Tryd.underlying23 h
  rw [cAdr'] at hl
  have hat' : ∀ i, i < 16 → ∃ z : Int, l[i]? = some (.int .u8 z) ∧ 0 ≤ z ∧ z ≤ 255 := fun i hi => by
    have h := hat i hi
    rw [cU8', Nat.mul_one, List.getElem?_eq_getElem (by omega)] at h
    obtain ⟨z, hz, _, hw⟩ := DataW.trod_int Tryd.underlying5 h
    refine ⟨z, ?_, bounds_u8 hw⟩
    have := congrArg (·[0]?) hz
    simpa [List.getElem?_take, List.getElem?_drop] using this
  refine ⟨l.map byteW, by rw [List.length_map]; exact hl, ?_⟩
  unfold bvs
  rw [List.map_map]
  refine List.ext_getElem? (fun i => ?_)
  rcases Nat.lt_or_ge i 16 with hi | hi
  · obtain ⟨z, h1, h3, h4⟩ := hat' i hi
    rw [List.getElem?_map, h1]
    show _ = some (Value.int .u8 ((byteW (.int .u8 z)).toNat : Int))
    rw [byteW_int h3 h4]
  · rw [List.getElem?_eq_none (by omega), List.getElem?_eq_none (by rw [List.length_map]; omega)]
theorem cutT {l : List Value} {p q : Nat} {r : List Value} (hr : r = l.drop (p + q)) : (l.drop p).take q ++ r = l.drop p := by
  rw [hr, ← List.drop_drop, List.take_append_drop]
set_option maxRecDepth 100000 in
/-- a record that came in -/
theorem rec_m {fuel : Nat} {l : List Value} {y : DataW H × List MemPlace} (h : DataW.trod enc Tryd.prog W base sp held fuel 25 l = some y) (hw : ∀ n ∈ y.1.weights Tryd.prog 25, n ≤ 140737488351232) :
    ∃ r : RV, r.Fits ∧ r.nm.size ≤ 140737488351232 ∧ r.tx.size ≤ 140737488351232 ∧ r.da.size ≤ 140737488351232 ∧ l = r.cells.toList := by
  obtain ⟨xs, m, _, hy, hl, hxl, hat⟩ := DataW.trod_struct Tryd.underlying25 h
  rw [cRec'] at hl
  have hxl : xs.length = 6 := hxl
  have h0 : DataW.trod enc Tryd.prog W base sp held m 9 ((l.drop 0).take (Tryd.prog.cellsOf 9)) = xs[0]? := hat 0 _ rfl
  have h1 : DataW.trod enc Tryd.prog W base sp held m 3 ((l.drop 1).take (Tryd.prog.cellsOf 3)) = xs[1]? := hat 1 _ rfl
  have h2 : DataW.trod enc Tryd.prog W base sp held m 3 ((l.drop 2).take (Tryd.prog.cellsOf 3)) = xs[2]? := hat 2 _ rfl
  have h3 : DataW.trod enc Tryd.prog W base sp held m 23 ((l.drop 3).take (Tryd.prog.cellsOf 23)) = xs[3]? := hat 3 _ rfl
  have h4 : DataW.trod enc Tryd.prog W base sp held m 9 ((l.drop 19).take (Tryd.prog.cellsOf 9)) = xs[4]? := hat 4 _ rfl
  have h5 : DataW.trod enc Tryd.prog W base sp held m 9 ((l.drop 20).take (Tryd.prog.cellsOf 9)) = xs[5]? := hat 5 _ rfl
  rw [cStr', List.getElem?_eq_getElem (by omega)] at h0 h4 h5
  rw [cInt', List.getElem?_eq_getElem (by omega)] at h1 h2
  rw [cAdr', List.getElem?_eq_getElem (by omega)] at h3
  obtain ⟨nm, e0, g0, s0⟩ := DataW.trod_string Tryd.underlying9 h0
  obtain ⟨ty, e1, _⟩ := DataW.trod_int Tryd.underlying3 h1
  obtain ⟨ttl, e2, _⟩ := DataW.trod_int Tryd.underlying3 h2
  obtain ⟨ad, had, e3⟩ := octs_m h3
  obtain ⟨tx, e4, g4, s4⟩ := DataW.trod_string Tryd.underlying9 h4
  obtain ⟨da, e5, g5, s5⟩ := DataW.trod_string Tryd.underlying9 h5
  have hwt : ∀ (i : Nat) (b : ByteArray) (hi : i < xs.length), xs[i] = (.lit (.string b.data.toList), []) → (Tryd.prog.underlying 25).isSome = true → (i = 0 ∨ i = 4 ∨ i = 5) → b.size ≤ 140737488351232 := fun i b hi hx _ hi3 => by
    rw [Lib.size_eq]
    refine hw _ ?_
    rw [hy]
    simp only [DataW.weights, Tryd.underlying25]
    refine DataW.weights_mem_each (j := i) (t := 9) ?_ (by rw [List.getElem?_map, List.getElem?_eq_getElem hi, hx]; rfl) _ (by simp [DataW.weights])
    rcases hi3 with rfl | rfl | rfl <;> rfl
  have w0 := hwt 0 nm (by omega) g0 rfl (.inl rfl)
  have w4 := hwt 4 tx (by omega) g4 rfl (.inr (.inl rfl))
  have w5 := hwt 5 da (by omega) g5 rfl (.inr (.inr rfl))
  refine ⟨⟨nm, ty, ttl, ad, tx, da⟩, ⟨had, s0, s4, s5⟩, w0, w4, w5, ?_⟩
  have hd : (l.drop 20).take 1 = l.drop 20 := List.take_of_length_le (by rw [List.length_drop]; omega)
  have e : l = (l.drop 0).take 1 ++ ((l.drop 1).take 1 ++ ((l.drop 2).take 1 ++ ((l.drop 3).take 16 ++ ((l.drop 19).take 1 ++ (l.drop 20).take 1)))) := by
    rw [hd, cutT (p := 19) (q := 1) rfl, cutT (p := 3) (q := 16) rfl, cutT (p := 2) (q := 1) rfl, cutT (p := 1) (q := 1) rfl, cutT (p := 0) (q := 1) rfl]
    rfl
  rw [e, e0, e1, e2, e3, e4, e5]
  unfold RV.cells
  simp
theorem bytesRec : 1 ≤ Tryd.prog.bytesOf 25 := by decide +kernel
theorem slice_m {fuel : Nat} {l : List Value} {y : DataW H × List MemPlace} (h : DataW.trod enc Tryd.prog W base sp held fuel 28 l = some y) (hw : ∀ n ∈ y.1.weights Tryd.prog 28, n ≤ 140737488351232) : ∃ A n c, l = [.slice A n c] ∧ n ≤ 140737488351232 := by
  rcases DataW.trod_slice Tryd.underlying28 h with ⟨hcs, _⟩ | ⟨a, len, cap, elems, rest, n, _, hcs, hy, _, hl, hlm, hel, _⟩
  · exact ⟨none, 0, 0, hcs, Nat.zero_le _⟩
  · refine ⟨some a, len, cap, hcs, ?_⟩
    have h1 := hw ((elems.length + rest.length) * Tryd.prog.bytesOf 25) (by rw [hy]; simp [DataW.weights, Tryd.underlying28])
    have h2 := bytesRec
    have h3 := Nat.le_mul_of_pos_right (elems.length + rest.length) (Nat.lt_of_lt_of_le Nat.zero_lt_one h2)
    omega
set_option maxRecDepth 100000 in
/-- a message that came in: its own cells alone -/
theorem msg_m {fuel : Nat} {l : List Value} {y : DataW H × List MemPlace} (h : DataW.trod enc Tryd.prog W base sp held fuel 30 l = some y) (hw : ∀ n ∈ y.1.weights Tryd.prog 30, n ≤ 140737488351232) :
    ∃ (id : Int) (rp tr rc : Bool) (code : Int) (qn : ByteArray) (qt : Int) (A : Option Addr) (na ca : Nat) (U : Option Addr) (nu cu : Nat), qn.size ≤ 140737488351232 ∧ na ≤ 140737488351232 ∧ nu ≤ 140737488351232 ∧
      l = [.int .i64 id, .bool rp, .bool tr, .bool rc, .int .i64 code, .string qn, .int .i64 qt, .slice A na ca, .slice U nu cu] := by
  obtain ⟨xs, m, _, hy, hl, hxl, hat⟩ := DataW.trod_struct Tryd.underlying30 h
  rw [cMsg'] at hl
  have hxl : xs.length = 8 := hxl
  have h0 : DataW.trod enc Tryd.prog W base sp held m 3 ((l.drop 0).take (Tryd.prog.cellsOf 3)) = xs[0]? := hat 0 _ rfl
  have h1 : DataW.trod enc Tryd.prog W base sp held m 4 ((l.drop 1).take (Tryd.prog.cellsOf 4)) = xs[1]? := hat 1 _ rfl
  have h2 : DataW.trod enc Tryd.prog W base sp held m 4 ((l.drop 2).take (Tryd.prog.cellsOf 4)) = xs[2]? := hat 2 _ rfl
  have h3 : DataW.trod enc Tryd.prog W base sp held m 4 ((l.drop 3).take (Tryd.prog.cellsOf 4)) = xs[3]? := hat 3 _ rfl
  have h4 : DataW.trod enc Tryd.prog W base sp held m 3 ((l.drop 4).take (Tryd.prog.cellsOf 3)) = xs[4]? := hat 4 _ rfl
  have h5 : DataW.trod enc Tryd.prog W base sp held m 27 ((l.drop 5).take (Tryd.prog.cellsOf 27)) = xs[5]? := hat 5 _ rfl
  have h6 : DataW.trod enc Tryd.prog W base sp held m 28 ((l.drop 7).take (Tryd.prog.cellsOf 28)) = xs[6]? := hat 6 _ rfl
  have h7 : DataW.trod enc Tryd.prog W base sp held m 28 ((l.drop 8).take (Tryd.prog.cellsOf 28)) = xs[7]? := hat 7 _ rfl
  rw [cInt', List.getElem?_eq_getElem (by omega)] at h0 h4
  rw [cBool', List.getElem?_eq_getElem (by omega)] at h1 h2 h3
  rw [cQst', List.getElem?_eq_getElem (by omega)] at h5
  rw [cRs', List.getElem?_eq_getElem (by omega)] at h6 h7
  obtain ⟨id, e0, _⟩ := DataW.trod_int Tryd.underlying3 h0
  obtain ⟨rp, e1, _⟩ := DataW.trod_bool Tryd.underlying4 h1
  obtain ⟨tr, e2, _⟩ := DataW.trod_bool Tryd.underlying4 h2
  obtain ⟨rc, e3, _⟩ := DataW.trod_bool Tryd.underlying4 h3
  obtain ⟨code, e4, _⟩ := DataW.trod_int Tryd.underlying3 h4
  have hws : ∀ (i : Nat) (hi : i < xs.length), (i = 6 ∨ i = 7) → ∀ n ∈ (xs[i].1).weights Tryd.prog 28, n ≤ 140737488351232 := fun i hi hi2 n hn => by
    refine hw _ ?_
    rw [hy]
    simp only [DataW.weights, Tryd.underlying30]
    refine DataW.weights_mem_each (j := i) (t := 28) ?_ (by rw [List.getElem?_map, List.getElem?_eq_getElem hi]; rfl) _ hn
    rcases hi2 with rfl | rfl <;> rfl
  obtain ⟨A, na, ca, e6, b6⟩ := slice_m h6 (hws 6 (by omega) (.inl rfl))
  obtain ⟨U, nu, cu, e7, b7⟩ := slice_m h7 (hws 7 (by omega) (.inr rfl))
  obtain ⟨ys, m2, _, hy5, hl5, hyl, hat5⟩ := DataW.trod_struct Tryd.underlying27 h5
  rw [cQst'] at hl5
  have hyl : ys.length = 2 := hyl
  have g0 : DataW.trod enc Tryd.prog W base sp held m2 9 ((((l.drop 5).take 2).drop 0).take (Tryd.prog.cellsOf 9)) = ys[0]? := hat5 0 _ rfl
  have g1 : DataW.trod enc Tryd.prog W base sp held m2 3 ((((l.drop 5).take 2).drop 1).take (Tryd.prog.cellsOf 3)) = ys[1]? := hat5 1 _ rfl
  rw [cStr', List.getElem?_eq_getElem (by omega)] at g0
  rw [cInt', List.getElem?_eq_getElem (by omega)] at g1
  obtain ⟨qn, f0, k0, s0⟩ := DataW.trod_string Tryd.underlying9 g0
  obtain ⟨qt, f1, _⟩ := DataW.trod_int Tryd.underlying3 g1
  have wq : qn.size ≤ 140737488351232 := by
    rw [Lib.size_eq]
    refine hw _ ?_
    rw [hy]
    simp only [DataW.weights, Tryd.underlying30]
    refine DataW.weights_mem_each (j := 5) (t := 27) rfl (by rw [List.getElem?_map, List.getElem?_eq_getElem (by omega), hy5]; rfl) _ ?_
    simp only [DataW.weights, Tryd.underlying27]
    exact DataW.weights_mem_each (j := 0) (t := 9) rfl (by rw [List.getElem?_map, List.getElem?_eq_getElem (by omega), k0]; rfl) _ (by simp [DataW.weights])
  refine ⟨id, rp, tr, rc, code, qn, qt, A, na, ca, U, nu, cu, wq, b6, b7, ?_⟩
  have hq : (l.drop 5).take 2 = [.string qn, .int .i64 qt] := by
    have hd : (((l.drop 5).take 2).drop 1).take 1 = ((l.drop 5).take 2).drop 1 := List.take_of_length_le (by rw [List.length_drop]; omega)
    have e : (l.drop 5).take 2 = (((l.drop 5).take 2).drop 0).take 1 ++ (((l.drop 5).take 2).drop 1).take 1 := by
      rw [hd, cutT (p := 0) (q := 1) rfl]; rfl
    rw [e, f0, f1]; rfl
  have hd : (l.drop 8).take 1 = l.drop 8 := List.take_of_length_le (by rw [List.length_drop]; omega)
  have e : l = (l.drop 0).take 1 ++ ((l.drop 1).take 1 ++ ((l.drop 2).take 1 ++ ((l.drop 3).take 1 ++ ((l.drop 4).take 1 ++ ((l.drop 5).take 2 ++ ((l.drop 7).take 1 ++ (l.drop 8).take 1)))))) := by
    rw [hd, cutT (p := 7) (q := 1) rfl, cutT (p := 5) (q := 2) rfl, cutT (p := 4) (q := 1) rfl, cutT (p := 3) (q := 1) rfl, cutT (p := 2) (q := 1) rfl, cutT (p := 1) (q := 1) rfl, cutT (p := 0) (q := 1) rfl]
    rfl
  rw [e, e0, e1, e2, e3, e4, hq, e6, e7]
  rfl
end
end Go.Proofs.YteeonnjbjmanpaaDoor
