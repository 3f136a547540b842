/-
  Records, messages and seeds as they lie in memory. Conditions: each states its own.
-/
import Derived.Test.YtgbijhinihchgaaProg
import Derived.Lib.Split
import Derived.Lib.IndexBytes
import Derived.WalkKit
import Derived.ProofKit
import Derived.Outline
import Derived.WalkLawsBesides
import Derived.WalkSpells
import Derived.Lib.Hide
import Derived.Laws.IdiomStrings
import Derived.Lib.SlBytesRow
import Derived.Lib.Join
import Derived.BigQuiet
import Derived.Laws.CopyOwn
import Derived.Deep.WholeRow
import Derived.Stop.BytesEq
import Derived.Laws.OwnMore
import Derived.Laws.BitsAllLaws
import Derived.Deep.QuietTactic
import Derived.ChangeSlices
import Derived.OpenShut
import Derived.Laws.AppendOwnNone
import Derived.OwnWalk
import Derived.Maps.Own
import Derived.Maps.OwnSet
import Derived.StillTailTactics
import Derived.Lib.AppendStr
import Derived.Deep.RegionLaw
import Derived.RegionTactic
import Derived.Deep.RegionHeld3
import Derived.Lib.OwnKind
import Derived.Deep.Heap
import Derived.Deep.MidRow
import Derived.Great.BuildSlice
import Derived.Deep.CutRange
import Derived.Laws.CopyRow
namespace Go.Proofs.Ytgbijhinihchgaa
/-- one byte, a capital turned small -/
def lowc (b : UInt8) : UInt8 := if 65 ≤ b && b ≤ 90 then b + 32 else b
def low (l : List UInt8) : List UInt8 := l.map lowc
/-- what stands between points -/
def sp : List UInt8 → List (List UInt8)
  | [] => [[]]
  | c :: l => if c = 46 then [] :: sp l else match sp l with | [] => [[c]] | h :: t => (c :: h) :: t
end Go.Proofs.Ytgbijhinihchgaa
namespace Go.Proofs.Ytgbijhinihchgaa
open Go.RowKit
def stI (n : Int) : Bool := decide ((65 ≤ n ∧ n ≤ 90) ∨ (97 ≤ n ∧ n ≤ 122) ∨ (48 ≤ n ∧ n ≤ 57) ∨ n = 45 ∨ n = 95)
/-- may it be a label? -/
def rightB (s : ByteArray) : Bool := decide (1 ≤ s.size) && decide (s.size ≤ 63) && s.data.toList.all (fun c => stI c.toNat) && (s.data.toList[0]? != some 45) && (s.data.toList[s.size - 1]? != some 45)
end Go.Proofs.Ytgbijhinihchgaa
namespace Go.Proofs.Ytgbijhinihchgaa
def bs (l : List UInt8) : ByteArray := ⟨l.toArray⟩
/-- may it be a label? -/
def Rt (l : List UInt8) : Bool := rightB (bs l)
/-- may it be a name? -/
def nmOk (s : List UInt8) : Bool := decide (s.length ≤ 253) && decide (low s = s) && (sp s).all Rt
def zero16 : List UInt8 := List.replicate 16 0
def pre4 : List UInt8 := [0, 0, 0, 0, 0, 0, 0, 0, 0, 0, 255, 255]
end Go.Proofs.Ytgbijhinihchgaa
namespace Go.Proofs.Ytgbijhinihchgaa
open Go.RowKit
def btw (a b c : Int) : Bool := decide (a ≤ b ∧ b ≤ c)
def gosB (s : ByteArray) : Bool := nmOk s.data.toList
end Go.Proofs.Ytgbijhinihchgaa
namespace Go.Proofs.Ytgbijhinihchgaa
open Go.RowKit
def bvs (xs : List UInt8) : List Value := xs.map fun c => .int .u8 c.toNat
theorem bvs_length (xs : List UInt8) : (bvs xs).length = xs.length := by unfold bvs; simp
theorem bvs_one (xs : List UInt8) : ∀ v ∈ bvs xs, v.oneCell' = true := fun v hv => by
  obtain ⟨c, _, rfl⟩ := List.mem_map.1 hv; rfl
/-- a record's fields -/
structure RV where
  nm : ByteArray
  ty : Int
  ttl : Int
  ad : List UInt8
  tx : ByteArray
  da : ByteArray
def RV.cells (r : RV) : Array Value := (.string r.nm :: .int .i64 r.ty :: .int .i64 r.ttl :: (bvs r.ad ++ [.string r.tx, .string r.da])).toArray
theorem RV.size {r : RV} (h : r.ad.length = 16) : r.cells.size = 21 := by unfold RV.cells; simp [bvs_length, h]
theorem RV.c0 (r : RV) : r.cells[0]? = some (.string r.nm) := by unfold RV.cells; simp
theorem RV.c1 (r : RV) : r.cells[1]? = some (.int .i64 r.ty) := by unfold RV.cells; simp
theorem RV.c2 (r : RV) : r.cells[2]? = some (.int .i64 r.ttl) := by unfold RV.cells; simp
theorem RV.c19 {r : RV} (h : r.ad.length = 16) : r.cells[19]? = some (.string r.tx) := by
  unfold RV.cells
  simp only [List.getElem?_toArray, List.getElem?_cons_succ]
  rw [List.getElem?_append_right (by rw [bvs_length, h]; omega), bvs_length, h]; rfl
theorem RV.one (r : RV) : r.cells.all (·.oneCell') = true := by
  unfold RV.cells
  simp only [List.all_toArray, List.all_cons, List.all_append, List.all_nil, Bool.and_true]
  rw [show (bvs r.ad).all (·.oneCell') = true from List.all_eq_true.2 (bvs_one r.ad)]; rfl
def RV.zero : RV := ⟨⟨#[]⟩, 0, 0, zero16, ⟨#[]⟩, ⟨#[]⟩⟩
theorem sizeRec : (Try.prog.info? 41).map (·.size) = some 21 := by kernel_rfl
section
variable {P : Program} {ops : Array Oper} {rest : List Oper} {o : Oper} {a : Act} {Q : Exit → Act → World → Prop}
/-- a whole value of several cells, from wherever -/
theorem wpList_load_agg {w : World} (hgd : o.guard = none) (ty : TypeId) (x : Operand) (ho : o.op = .load ty x) (p : Addr) (hx : a.eval x = .pointer (some p)) (cs : Array Value) (d : TypeDesc)
    (hc : ∀ j v, cs.toList[j]? = some v → w.cell? (p.add j) = some v)
    (hu : P.underlying ty = some d) (hd : (match d with | .struct _ | .array _ _ => true | _ => false) = true) (hi : (P.info? ty).map (·.size) = some cs.size)
    (h : wpList P ops Q rest (a.put o.dst (.agg cs)) w) : wpList P ops Q (o :: rest) a w :=
  wpList_plain hgd fun _ hK => by
    have hl := run_loadCells_list (P := P) w p cs.toList hc
    cases hq : P.info? ty with
    | none => simp [hq] at hi
    | some i =>
      have hs : i.size = cs.size := by simpa [hq] using hi
      have hagg : (isAgg ty).run P w = .ok true w := by
        unfold isAgg
        rw [Sem.run_bind, run_underlying hu w]
        cases d <;> simp_all
      have hlv : (loadVar ty p).run P w = .ok (.agg cs) w := by
        simp only [Array.length_toList, Array.toArray_toList] at hl
        simp [loadVar, Sem.run_bind, hagg, sizeOf, typeInfo, hq, hs, hl]
      unfold Oper.wp execOp
      simp only [ho, hx, Instr.loadAt, Instr.sureAddr, Sem.run_bind, Sem.run_pure, Result.andThen_ok, hlv]
      exact hK _ _ h
/-- a whole value into the block that was made last -/
theorem wpList_store_new {W : World} (hgd : o.guard = none) (ty : TypeId) (x y : Operand) (ho : o.op = .store ty x y) (g : Nat) (hg : W.heap.size = g) (z cells : Array Value) (t : TypeId)
    (hx : a.eval x = .pointer (some ⟨g, 0, none⟩)) (hy : a.eval y = .agg cells) (hi : (P.info? ty).map (·.size) = some cells.size) (hz : z.size = cells.size) (h1 : cells.all (·.oneCell') = true)
    (h : wpList P ops Q rest (a.put o.dst undef) (W.alloc (.cells cells t))) : wpList P ops Q (o :: rest) a (W.alloc (.cells z t)) := by
  subst hg
  exact wpList_store_row hgd ty x y ho W.heap.size cells hx hy t z (heap_alloc_last W _) hi hz h1 (by rw [World.setRow_alloc_new]; exact h)
/-- a whole value into a block of which all is known -/
theorem wpList_store_blk {w : World} (hgd : o.guard = none) (ty : TypeId) (x y : Operand) (ho : o.op = .store ty x y) (g : Nat) (z cells : Array Value) (t : TypeId) (hg : w.heap[g]? = some (.cells z t (0, 0)))
    (hx : a.eval x = .pointer (some ⟨g, 0, none⟩)) (hy : a.eval y = .agg cells) (hi : (P.info? ty).map (·.size) = some cells.size) (hz : z.size = cells.size) (h1 : cells.all (·.oneCell') = true)
    (h : ∀ w', Hid (w'.heap[g]? = some (.cells cells t (0, 0))) → Hid (w.grownBy w' (some g)) → w'.heap.size = w.heap.size → wpList P ops Q rest (a.put o.dst undef) w') : wpList P ops Q (o :: rest) a w :=
  wpList_store_row hgd ty x y ho g cells hx hy t z hg hi hz h1
    (h _ (setRow_heap w g z cells t _ hg) ⟨rfl, rfl, rfl, by simp, fun k _ hk => setRow_other w g k cells (fun e => hk (by rw [e]))⟩ (by simp))
/-- a new variable, what it holds under a name -/
theorem wpList_alloc_z {w : World} (hgd : o.guard = none) (ty : TypeId) (ho : o.op = .alloc ty) (z : Array Value) (hz : (P.info? ty).map (·.zero) = some (some (.agg z)))
    (h : wpList P ops Q rest (a.put o.dst (.pointer (some ⟨w.heap.size, 0, none⟩))) (w.alloc (.cells z ty))) : wpList P ops Q (o :: rest) a w :=
  wpList_plain hgd fun _ hK => by
    have hzr : (zeroValue ty).run P w = .ok (.agg z) w := by
      cases hq : P.info? ty with
      | none => simp [hq] at hz
      | some i =>
        have : i.zero = some (.agg z) := by simpa [hq] using hz
        simp [zeroValue, typeInfo, hq, this]
    unfold Oper.wp execOp
    simp only [ho, Instr.alloc, newVar, newRow, Sem.run_bind, hzr, Result.andThen_ok, run_newObj_alloc, Sem.run_pure, Value.cells]
    exact hK _ _ h
end
def RV.eqB (r s : RV) : Bool := (r.nm.toList == s.nm.toList) && (r.ty == s.ty) && (r.ttl == s.ttl) && (r.ad == s.ad) && (r.tx.toList == s.tx.toList) && (r.da.toList == s.da.toList)
end Go.Proofs.Ytgbijhinihchgaa
namespace Go.Proofs.Ytgbijhinihchgaa
open Go.RowKit
theorem grown_set (w : World) (g i : Nat) (v : Value) : w.grownBy (w.setCell ⟨g, i, none⟩ v) (some g) := ⟨rfl, rfl, rfl, by simp, fun k _ hk => Below.heap_setCell _ _ _ _ (fun e => hk (by rw [e]))⟩
theorem grown_trans {a b c : World} {g : Nat} (h : a.grownBy b (some g)) (k : b.grownBy c (some g)) : a.grownBy c (some g) :=
  ⟨k.os.trans h.os, k.tape.trans h.tape, k.output.trans h.output, Nat.le_trans h.size k.size, fun i hi hne => (k.block i (Nat.lt_of_lt_of_le hi h.size) hne).trans (h.block i hi hne)⟩
theorem grown_below {a b : World} {g : Nat} (h : Below a.heap.size a b) : a.grownBy b (some g) := ⟨h.os, h.tape, h.output, h.size, fun k hk _ => h.block k hk⟩
end Go.Proofs.Ytgbijhinihchgaa
namespace Go.Proofs.Ytgbijhinihchgaa
open Go.ChangeShapes Go.WideShapes Go.ChangeAt Go.ChangeMaps Go.RowKit
theorem cellsU8 : Try.prog.cellsOf 5 = 1 := by kernel_rfl
theorem octet_of_wf {x : Int} (h : (Lit.int .u8 x).wf = true) : 0 ≤ x ∧ x < 256 := by
  simp [Lit.wf, IntKind.min, IntKind.max, IntKind.bits, IntKind.signed] at h
  omega
end Go.Proofs.Ytgbijhinihchgaa
namespace Go.Proofs.Ytgbijhinihchgaa
open Go.RowKit
theorem heap_lt {w : World} {g : Nat} {o : Obj} (h : w.heap[g]? = some o) : g < w.heap.size := (Array.getElem?_eq_some_iff.1 h).1
end Go.Proofs.Ytgbijhinihchgaa
namespace Go.Proofs.Ytgbijhinihchgaa
open Go.RowKit
def emp : ByteArray := ⟨#[]⟩
theorem zeroRec : (Try.prog.info? 41).map (·.zero) = some (some (.agg (RV.cells ⟨emp, 0, 0, zero16, emp, emp⟩))) := by kernel_rfl
theorem sizeRv {r : RV} (h : r.ad.length = 16) : (Try.prog.info? 41).map (·.size) = some r.cells.size := by rw [sizeRec, RV.size h]
/-- may it be a record? -/
def rvOk (r : RV) : Bool :=
  gosB r.nm && btw 1 r.ty 65535 && btw 0 r.ttl 1048576 &&
    (if r.ty = 1 then (r.ad == pre4 ++ r.ad.drop 12) && r.eqB ⟨r.nm, r.ty, r.ttl, r.ad, emp, emp⟩
    else if r.ty = 28 then r.eqB ⟨r.nm, r.ty, r.ttl, r.ad, emp, emp⟩
    else if r.ty = 2 ∨ r.ty = 5 ∨ r.ty = 12 then gosB r.tx && r.eqB ⟨r.nm, r.ty, r.ttl, zero16, r.tx, emp⟩
    else decide (r.da.size ≤ 255) && r.eqB ⟨r.nm, r.ty, r.ttl, zero16, emp, r.da⟩)
section
variable {nm tx da : ByteArray} {ty ttl : Int} {ad : List UInt8} {w : World}
end
end Go.Proofs.Ytgbijhinihchgaa
namespace Go.Proofs.Ytgbijhinihchgaa
open Go.RowKit
/-- a record's texts are no longer than the model lets a text be, its address has 16 bytes -/
structure RV.Fits (r : RV) : Prop where
  ad : r.ad.length = 16
  nm : r.nm.size ≤ maxLen
  tx : r.tx.size ≤ maxLen
  da : r.da.size ≤ maxLen
/-- the slice at A holds these records -/
def RecsAt (w : World) (A : Option Addr) (rs : List RV) : Prop :=
  0 < rs.length → ∃ b o, A = some ⟨b, o, none⟩ ∧ b < w.heap.size ∧ ∀ k r, rs[k]? = some r → ∀ j v, r.cells.toList[j]? = some v → w.cell? ((⟨b, o + k * 21, none⟩ : Addr).add j) = some v
theorem RecsAt.below {w w' : World} {A : Option Addr} {rs : List RV} (h : RecsAt w A rs) (hb : Below w.heap.size w w') : RecsAt w' A rs := fun h0 => by
  obtain ⟨b, o, rfl, hlt, hc⟩ := h h0
  exact ⟨b, o, rfl, Nat.lt_of_lt_of_le hlt hb.size, fun k r hr j v hv => (hb.cell (p := (⟨b, o + k * 21, none⟩ : Addr).add j) (by rw [Addr.add_lit]; exact hlt)).trans (hc k r hr j v hv)⟩
end Go.Proofs.Ytgbijhinihchgaa
namespace Go.Proofs.Ytgbijhinihchgaa
open Go.RowKit
/-- a message as it lies in memory -/
structure MV where
  id : Int
  rp : Bool
  tr : Bool
  rc : Bool
  code : Int
  qn : ByteArray
  qt : Int
  A : Option Addr
  ca : Nat
  an : List RV
  U : Option Addr
  cu : Nat
  au : List RV
def MV.cells (m : MV) : Array Value := #[.int .i64 m.id, .bool m.rp, .bool m.tr, .bool m.rc, .int .i64 m.code, .string m.qn, .int .i64 m.qt, .slice m.A m.an.length m.ca, .slice m.U m.au.length m.cu]
structure MV.Fits (m : MV) : Prop where
  qn : m.qn.size ≤ maxLen
  an : ∀ r ∈ m.an, r.Fits
  au : ∀ r ∈ m.au, r.Fits
  la : m.an.length ≤ 9223372036854775807
  lu : m.au.length ≤ 9223372036854775807
structure MV.Lies (m : MV) (w : World) : Prop where
  an : RecsAt w m.A m.an
  au : RecsAt w m.U m.au
theorem MV.Lies.below {m : MV} {w w' : World} (h : m.Lies w) (hb : Below w.heap.size w w') : m.Lies w' := ⟨h.an.below hb, h.au.below hb⟩
end Go.Proofs.Ytgbijhinihchgaa
namespace Go.Proofs.Ytgbijhinihchgaa
open Go.ChangeShapes Go.WideShapes Go.ChangeAt Go.ChangeMaps Go.RowKit
/-- a record's seed -/
structure SV where
  n : Int
  k : Int
  t : Int
  ad : List UInt8
  da : ByteArray
def SV.cells (s : SV) : Array Value := (.int .i64 s.n :: .int .i64 s.k :: .int .i64 s.t :: (bvs s.ad ++ [.string s.da])).toArray
structure SV.Fits (s : SV) : Prop where
  ad : s.ad.length = 16
  da : s.da.size ≤ maxLen
theorem SV.size {s : SV} (h : s.ad.length = 16) : s.cells.size = 20 := by unfold SV.cells; simp [bvs_length, h]
theorem SV.one (s : SV) : s.cells.all (·.oneCell') = true := by
  unfold SV.cells
  simp [Value.oneCell', bvs, List.all_map]
def SeedsAt (w : World) (A : Option Addr) (l : List SV) : Prop :=
  0 < l.length → ∃ b o, A = some ⟨b, o, none⟩ ∧ b < w.heap.size ∧ ∀ k s, l[k]? = some s → ∀ j v, s.cells.toList[j]? = some v → w.cell? ((⟨b, o + k * 20, none⟩ : Addr).add j) = some v
theorem SeedsAt.below {w w' : World} {A : Option Addr} {l : List SV} (h : SeedsAt w A l) (hb : Below w.heap.size w w') : SeedsAt w' A l := fun h0 => by
  obtain ⟨b, o, rfl, hlt, hc⟩ := h h0
  exact ⟨b, o, rfl, Nat.lt_of_lt_of_le hlt hb.size, fun k s hs j v hv => (hb.cell (p := (⟨b, o + k * 20, none⟩ : Addr).add j) (by rw [Addr.add_lit]; exact hlt)).trans (hc k s hs j v hv)⟩
theorem cellsSeed : Try.prog.cellsOf 25 = 20 := by kernel_rfl
theorem cellsAddr : Try.prog.cellsOf 23 = 16 := by kernel_rfl
/-- the bytes of an array that came in -/
theorem octets_of {H : Type} {enc : TypeId × Value → H} {W : World} {base fuel : Nat} {sp : Nat → Bool} {held : Bool} {l : List Value} {y : DataW H × List MemPlace} (h : DataW.trod enc Try.prog W base sp held fuel 23 l = some y) : ∃ x : List UInt8, x.length = 16 ∧ l = bvs x := by
  obtain ⟨xs, m, _, _, hl, hxl, hat⟩ := DataW.trod_array Try.underlying23 h
  rw [cellsAddr] at hl
  have hat' : ∀ i, i < 16 → ∃ z : Int, l[i]? = some (.int .u8 z) ∧ 0 ≤ z ∧ z < 256 := fun i hi => by
    have h := hat i hi
    rw [cellsU8, Nat.mul_one, List.getElem?_eq_getElem (by omega)] at h
    obtain ⟨z, hz, _, hw⟩ := DataW.trod_int Try.underlying5 h
    refine ⟨z, ?_, octet_of_wf hw⟩
    have := congrArg (·[0]?) hz
    simpa [List.getElem?_take, List.getElem?_drop] using this
  refine ⟨l.map (fun v => match v with | .int _ z => UInt8.ofNat z.toNat | _ => 0), by rw [List.length_map]; exact hl, ?_⟩
  unfold bvs
  rw [List.map_map]
  refine List.ext_getElem? (fun i => ?_)
  rcases Nat.lt_or_ge i 16 with hi | hi
  · obtain ⟨z, h1, h3, h4⟩ := hat' i hi
    rw [List.getElem?_map, h1]
    show _ = some (Value.int .u8 ((UInt8.ofNat z.toNat).toNat : Int))
    rw [UInt8.toNat_ofNat', Nat.mod_eq_of_lt (by omega), Int.toNat_of_nonneg h3]
  · rw [List.getElem?_eq_none (by omega), List.getElem?_eq_none (by rw [List.length_map]; omega)]
set_option maxRecDepth 100000 in
/-- a seed that came in -/
theorem seed_of {H : Type} {enc : TypeId × Value → H} {W : World} {base fuel : Nat} {sp : Nat → Bool} {held : Bool} {l : List Value} {y : DataW H × List MemPlace} (h : DataW.trod enc Try.prog W base sp held fuel 25 l = some y) : ∃ s : SV, s.Fits ∧ l = s.cells.toList := by
  obtain ⟨xs, m, _, _, hl, hxl, hat⟩ := DataW.trod_struct Try.underlying25 h
  rw [cellsSeed] at hl
  have hxl : xs.length = 5 := hxl
  have c1 : Try.prog.cellsOf 3 = 1 := by kernel_rfl
  have c9 : Try.prog.cellsOf 9 = 1 := by kernel_rfl
  have h0 : DataW.trod enc Try.prog W base sp held m 3 ((l.drop 0).take (Try.prog.cellsOf 3)) = xs[0]? := hat 0 _ rfl
  rw [c1, List.getElem?_eq_getElem (by omega)] at h0
  have h1 : DataW.trod enc Try.prog W base sp held m 3 ((l.drop 1).take (Try.prog.cellsOf 3)) = xs[1]? := hat 1 _ rfl
  rw [c1, List.getElem?_eq_getElem (by omega)] at h1
  have h2 : DataW.trod enc Try.prog W base sp held m 3 ((l.drop 2).take (Try.prog.cellsOf 3)) = xs[2]? := hat 2 _ rfl
  rw [c1, List.getElem?_eq_getElem (by omega)] at h2
  have h3 : DataW.trod enc Try.prog W base sp held m 23 ((l.drop 3).take (Try.prog.cellsOf 23)) = xs[3]? := hat 3 _ rfl
  rw [cellsAddr, List.getElem?_eq_getElem (by omega)] at h3
  have h4 : DataW.trod enc Try.prog W base sp held m 9 ((l.drop 19).take (Try.prog.cellsOf 9)) = xs[4]? := hat 4 _ rfl
  rw [c9, List.getElem?_eq_getElem (by omega)] at h4
  obtain ⟨n, e0, _⟩ := DataW.trod_int Try.underlying3 h0
  obtain ⟨k, e1, _⟩ := DataW.trod_int Try.underlying3 h1
  obtain ⟨t, e2, _⟩ := DataW.trod_int Try.underlying3 h2
  obtain ⟨x, hx, e3⟩ := octets_of h3
  obtain ⟨s, e4, _, hs⟩ := DataW.trod_string Try.underlying9 h4
  refine ⟨⟨n, k, t, x, s⟩, ⟨hx, hs⟩, ?_⟩
  unfold SV.cells
  have e : l = (l.drop 0).take 1 ++ ((l.drop 1).take 1 ++ ((l.drop 2).take 1 ++ ((l.drop 3).take 16 ++ (l.drop 19).take 1))) := by
    have hd19 : (l.drop 19).take 1 = l.drop 19 := List.take_of_length_le (by rw [List.length_drop]; omega)
    have g : ∀ (p q : Nat) (r : List Value), r = l.drop (p + q) → (l.drop p).take q ++ r = l.drop p := fun p q r hr => by
      rw [hr, ← List.drop_drop, List.take_append_drop]
    rw [hd19, g 3 16 _ rfl, g 2 1 _ rfl, g 1 1 _ rfl, g 0 1 _ rfl]
    rfl
  rw [e, e0, e1, e2, e3, e4]
  simp
/-- what a list of seeds that came in is -/
theorem open_seeds {H : Type} {enc : TypeId × Value → H} {W : World} {fuel : Nat} {A : Option Addr} {len cap : Nat} {x : DataW H × List MemPlace}
    (h : DataW.trod enc Try.prog W 0 (fun _ => true) true fuel 26 (Value.slice A len cap).cells.toList = some x) :
    ∃ ls : List SV, ls.length = len ∧ len ≤ cap ∧ (∀ s ∈ ls, s.Fits) ∧ SeedsAt W A ls ∧ (A = none → cap = 0) := by
  rcases DataW.trod_slice Try.underlying26 h with ⟨hcs, _⟩ | ⟨a, len', cap', elems, rest, n, _, hcs, _, _, hl, _, hel, hat, _⟩
  · simp [Value.cells] at hcs
    obtain ⟨rfl, rfl, rfl⟩ := hcs
    exact ⟨[], rfl, Nat.le_refl _, (fun s hs => by cases hs), (fun h0 => absurd h0 (by simp)), (fun _ => rfl)⟩
  · simp [Value.cells] at hcs
    obtain ⟨rfl, rfl, rfl⟩ := hcs
    rw [cellsSeed] at hat
    have hat' : ∀ i, i < len → ∃ s : SV, s.Fits ∧ W.cells? 0 (a.add (i * 20)) 20 = some s.cells.toList := fun i hi => by
      have h := hat i hi
      rw [List.getElem?_eq_getElem (by omega)] at h
      obtain ⟨cs, h1, h2⟩ := Option.bind_eq_some_iff.1 h
      obtain ⟨s, hs, rfl⟩ := seed_of h2
      exact ⟨s, hs, h1⟩
    have hch : ∃ f : Nat → SV, ∀ i, i < len → (f i).Fits ∧ W.cells? 0 (a.add (i * 20)) 20 = some (f i).cells.toList :=
      ⟨fun i => if hi : i < len then (hat' i hi).choose else ⟨0, 0, 0, [], ⟨#[]⟩⟩, fun i hi => by
        simp only [dif_pos hi]
        exact (hat' i hi).choose_spec⟩
    obtain ⟨f, hf⟩ := hch
    refine ⟨(List.range len).map f, by simp, hl, fun s hs => ?_, fun h0 => ?_, fun h => by cases h⟩
    · obtain ⟨i, hi, rfl⟩ := List.mem_map.1 hs
      exact (hf i (List.mem_range.1 hi)).1
    · have hl0 : 0 < len := by simpa using h0
      have hc : ∀ i, i < len → ∀ j v, (f i).cells.toList[j]? = some v → W.cell? ((a.add (i * 20)).add j) = some v := fun i hi j v hj => by
        have hj20 : j < 20 := by
          have := (List.getElem?_eq_some_iff.1 hj).1
          rw [Array.length_toList, SV.size (hf i hi).1.ad] at this; exact this
        rw [(World.cells?_some (hf i hi).2).2.2 j hj20]
        exact hj
      have hc0 := hc 0 hl0 0 (.int .i64 (f 0).n) (by unfold SV.cells; simp)
      obtain ⟨b, off, spot⟩ := a
      have hspot : spot = none := by simpa [Addr.add] using World.cell?_spot hc0
      subst hspot
      refine ⟨b, off, rfl, ?_, fun k s hk j v hj => ?_⟩
      · rcases Nat.lt_or_ge b W.heap.size with h' | h'
        · exact h'
        · exfalso
          have h1 := hc0
          unfold World.cell? at h1
          rw [show ((⟨b, off, none⟩ : Addr).add (0 * 20)).add 0 = ⟨b, off + 0 * 20 + 0, none⟩ by rw [Addr.add_lit, Addr.add_lit], Array.getElem?_eq_none h'] at h1
          simp at h1
      · have hkl : k < len := by
          have := (List.getElem?_eq_some_iff.1 hk).1
          simpa using this
        have e : s = f k := by
          rw [List.getElem?_map, List.getElem?_range hkl] at hk
          simpa using hk.symm
        subst e
        have h1 := hc k hkl j v hj
        rw [Addr.add_lit] at h1
        exact h1
end Go.Proofs.Ytgbijhinihchgaa
namespace Go.Proofs.Ytgbijhinihchgaa
open Go.RowKit
def zeroS : SV := ⟨0, 0, 0, zero16, emp⟩
theorem zeroSeed : (Try.prog.info? 25).map (·.zero) = some (some (.agg zeroS.cells)) := by kernel_rfl
theorem sizeSeed : (Try.prog.info? 25).map (·.size) = some 20 := by kernel_rfl
theorem SV.c19 {s : SV} (h : s.ad.length = 16) : s.cells[19]? = some (.string s.da) := by
  unfold SV.cells
  rw [List.getElem?_toArray]
  simp only [List.getElem?_cons_succ]
  rw [List.getElem?_append_right (by rw [bvs_length, h]; omega), bvs_length, h]
  rfl
end Go.Proofs.Ytgbijhinihchgaa
namespace Go.Proofs.Ytgbijhinihchgaa
open Go.RowKit
def zMsg : Array Value := #[.int .i64 0, .bool false, .bool false, .bool false, .int .i64 0, .string ⟨#[]⟩, .int .i64 0, .slice none 0 0, .slice none 0 0]
theorem zeroM : (Try.prog.info? 32).map (·.zero) = some (some (.agg zMsg)) := by kernel_rfl
theorem sizeM : (Try.prog.info? 32).map (·.size) = some 9 := by kernel_rfl
end Go.Proofs.Ytgbijhinihchgaa
namespace Go.Proofs.Ytgbijhinihchgaa
open Go.RowKit Go.Maps
theorem zeroRv : (Try.prog.info? 41).map (·.zero) = some (some (.agg (RV.cells ⟨emp, 0, 0, zero16, emp, emp⟩))) := zeroRec
section
variable (a b c d e f : Int) (w : World)
end
end Go.Proofs.Ytgbijhinihchgaa
namespace Go.Proofs.Ytgbijhinihchgaa
/-- the few names that go out -/
def plNs : List (List UInt8) := [[97], [98, 46, 97], [119, 119, 119, 46, 98, 46, 97], [120, 110, 45, 45, 98, 99, 104, 101, 114, 45, 107, 118, 97, 46, 100, 101], [120, 95, 121, 46, 99, 111, 114, 112], [48], [99, 111, 114, 112], [99, 46, 98, 46, 97]]
def plN (i : Nat) : List UInt8 := plNs.getD i []
end Go.Proofs.Ytgbijhinihchgaa
namespace Go.Proofs.Ytgbijhinihchgaa
open Go.RowKit
theorem own_sl4 {w : World} {B e size n : Nat} {v : Value} {xs : List Value} (h : w.ownsRow B e size v n xs) : ∃ A cap, v = .slice A n cap := by
  rcases h.2 with ⟨rfl, h0⟩ | ⟨g, cap, cur, rfl, _⟩
  · exact ⟨none, 0, by rw [h0]⟩
  · exact ⟨_, cap, rfl⟩
theorem info_rec : ∃ i, Try.prog.info? 41 = some i ∧ i.zero = some (.agg (RV.cells ⟨emp, 0, 0, zero16, emp, emp⟩)) ∧ i.size = 21 ∧ i.bytes = 80 := by
  obtain ⟨i0, hi, hz0, hz1, hz2⟩ := info_parts (show (Try.prog.info? 41).map (fun i => (i.zero, i.size, i.bytes)) = some (some (.agg (RV.cells ⟨emp, 0, 0, zero16, emp, emp⟩)), 21, 80) by kernel_rfl)
  exact ⟨i0, hi, hz0, hz1, hz2⟩
set_option maxRecDepth 100000 in
set_option maxHeartbeats 4000000 in
theorem name4_e (n : Int) (i : Nat) (hi : i ≤ 7) (hb : bits BinOp.and IntKind.i64 n 7 = (i : Int)) (w : World) : Calls Try.prog 17 #[.int .i64 n] w fun e w' => e = .returned (.string (bs (plN i))) ∧ Below w.heap.size w w' := by
  rcases (show i = 0 ∨ i = 1 ∨ i = 2 ∨ i = 3 ∨ i = 4 ∨ i = 5 ∨ i = 6 ∨ i = 7 by omega) with rfl | rfl | rfl | rfl | rfl | rfl | rfl | rfl
  all_goals
    go_enter Try.func17, Try.ntmps17
    go_wp2_with fail
    go_ret
    exact ⟨rfl, (Below.refl _ w).alloc (Nat.le_refl _) _⟩
end Go.Proofs.Ytgbijhinihchgaa
