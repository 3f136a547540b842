/-
  What the walk of TransMatches stands on: the blocks that it makes; build's numbers. No condition.
-/
import Derived.Test.YtmijoidogjablaaDoorTransDrawsLaw
namespace Go.Proofs.YtmijoidogjablaaDoor
open Go.RowKit

theorem xor_one {D : Nat} (h : D ≤ 65535) : ∃ d : Nat, d ≤ 65535 ∧ d ≠ D ∧ bits BinOp.xor IntKind.i64 (D : Int) 1 = (d : Int) := by
  have e : (BitVec.ofInt 64 (D : Int) ^^^ BitVec.ofInt 64 (1 : Int)).toNat = D ^^^ 1 := by
    rw [BitVec.toNat_xor, show ((D : Int)) = ((D : Nat) : Int) from rfl, show (1 : Int) = ((1 : Nat) : Int) from rfl, BitVec.ofInt_natCast, BitVec.ofInt_natCast, BitVec.toNat_ofNat, BitVec.toNat_ofNat, Nat.mod_eq_of_lt (by omega), Nat.mod_eq_of_lt (by omega)]
  have hlt : D ^^^ 1 < 2 ^ 16 := Nat.xor_lt_two_pow (by omega) (by omega)
  refine ⟨D ^^^ 1, by omega, fun h1 => ?_, ?_⟩
  · have h2 : D ^^^ (D ^^^ 1) = D ^^^ D := by rw [h1]
    rw [← Nat.xor_assoc, Nat.xor_self, Nat.zero_xor] at h2
    omega
  · show IntKind.i64.wrap ((BitVec.ofInt 64 (D : Int) ^^^ BitVec.ofInt 64 (1 : Int)).toNat : Int) = _
    rw [e]
    exact IntWalk.i64_in _ (by omega)
/-- all that build wants of a number -/
structure BuIs (n : Int) (i t lk gn D : Nat) (x : UInt8) : Prop where
  hi : i ≤ 7
  iB : bits BinOp.and IntKind.i64 n 7 = (i : Int)
  ht : t ≤ 1
  tB : bits BinOp.and IntKind.i64 (n / 8) 1 = (t : Int)
  hl : lk ≤ 3
  lB : bits BinOp.and IntKind.i64 n 3 = (lk : Int)
  hg : gn ≤ 3
  gB : bits BinOp.and IntKind.i64 (n / 4) 3 = (gn : Int)
  xB : IntKind.u8.wrap n = (x.toNat : Int)
  hD : D ≤ 65535
  DB : bits BinOp.and IntKind.i64 n 65535 = (D : Int)
theorem bu_ex (n : Int) : ∃ (i t lk gn D : Nat) (x : UInt8), BuIs n i t lk gn D x := by
  obtain ⟨i, hi, iB⟩ := and_t n 7 (by omega)
  obtain ⟨t, ht, tB⟩ := and_t (n / 8) 1 (by omega)
  obtain ⟨lk, hl, lB⟩ := and_t n 3 (by omega)
  obtain ⟨gn, hg, gB⟩ := and_t (n / 4) 3 (by omega)
  obtain ⟨D, hD, DB⟩ := and_t n 65535 (by omega)
  refine ⟨i, t, lk, gn, D, UInt8.ofNat (IntKind.u8.wrap n).toNat, hi, iB, ht, tB, hl, lB, hg, gB, ?_, hD, DB⟩
  have h : IntKind.u8.wrap n = n % 256 := rfl
  rw [h, UInt8.toNat_ofNat']
  omega
/-- what build answers -/
def buC (n : Int) (group : Bool) (i t lk gn D : Nat) (x : UInt8) : Array Value := trC (bs (plN i)) (1 + (t : Int)) lk gn (ad15 x) D (drP n : Nat) false group 0
theorem bu_e {n : Int} {i t lk gn D : Nat} {x : UInt8} (h : BuIs n i t lk gn D x) (group : Bool) (w : World) : Calls Tryd.prog 19 #[.int .i64 n, .bool group] w fun e w' => e = .returned (.agg (buC n group i t lk gn D x)) ∧ Below w.heap.size w w' :=
  build_e n group i t lk gn D x h.hi h.iB h.ht h.tB h.lB h.gB h.xB h.DB w
theorem bu_ok {n : Int} {group : Bool} {i t lk gn D : Nat} {x : UInt8} : TrOk (buC n group i t lk gn D x) (bs (plN i)) (1 + (t : Int)) lk gn (ad15 x) D (drP n : Nat) false group := trC_ok _ _ _ _ _ _ _ _ _ _ rfl
/-- the blocks of the law, as they stand -/
structure TmAt (w W : World) (OF TC MC : Array Value) (gt gm : Nat) : Prop where
  f : W.heap[w.heap.size]? = some (.cells OF 44 (0, 0))
  t : W.heap[gt]? = some (.cells TC 46 (0, 0))
  m : W.heap[gm]? = some (.cells MC 29 (0, 0))
  h1 : w.heap.size < gt
  h2 : gt < gm
  below : Below w.heap.size w W
theorem TmAt.to {w W W' : World} {OF TC MC : Array Value} {gt gm : Nat} (h : TmAt w W OF TC MC gt gm) (hb : Below W.heap.size W W') : TmAt w W' OF TC MC gt gm :=
  ⟨(hb.block _ (heap_lt h.f)).trans h.f, (hb.block _ (heap_lt h.t)).trans h.t, (hb.block _ (heap_lt h.m)).trans h.m, h.h1, h.h2, h.below.trans (hb.mono h.below.size)⟩
theorem TmAt.set {w W : World} {OF TC MC : Array Value} {gt gm : Nat} (h : TmAt w W OF TC MC gt gm) (k : Nat) (v : Value) : TmAt w (W.setCell ⟨gm, k, none⟩ v) OF TC (MC.setIfInBounds k v) gt gm := by
  have a1 := h.h1
  have a2 := h.h2
  exact ⟨(Below.heap_setCell W ⟨gm, k, none⟩ v _ (by show w.heap.size ≠ gm; omega)).trans h.f, (Below.heap_setCell W ⟨gm, k, none⟩ v _ (by show gt ≠ gm; omega)).trans h.t, heap_setCell_same W gm k _ _ _ h.m, a1, a2, h.below.setCell (p := ⟨gm, k, none⟩) (by show w.heap.size ≤ gm; omega) v⟩
theorem TmAt.far {w W : World} {OF TC MC : Array Value} {gt gm g : Nat} (h : TmAt w W OF TC MC gt gm) (hg : gm < g) (k : Nat) (v : Value) : TmAt w (W.setCell ⟨g, k, none⟩ v) OF TC MC gt gm := by
  have a1 := h.h1
  have a2 := h.h2
  exact ⟨(Below.heap_setCell W ⟨g, k, none⟩ v _ (by show w.heap.size ≠ g; omega)).trans h.f, (Below.heap_setCell W ⟨g, k, none⟩ v _ (by show gt ≠ g; omega)).trans h.t, (Below.heap_setCell W ⟨g, k, none⟩ v _ (by show gm ≠ g; omega)).trans h.m, a1, a2, h.below.setCell (p := ⟨g, k, none⟩) (by show w.heap.size ≤ g; omega) v⟩
theorem TmAt.off {w W : World} {OF TC MC : Array Value} {gt gm : Nat} (h : TmAt w W OF TC MC gt gm) (k : Nat) {v : Value} (hv : OF[k]? = some v) : W.cell? ⟨w.heap.size, k, none⟩ = some v := (cell_of_row W _ k _ _ _ h.f).trans hv
theorem TmAt.tr {w W : World} {OF TC MC : Array Value} {gt gm : Nat} (h : TmAt w W OF TC MC gt gm) (k : Nat) {v : Value} (hv : TC[k]? = some v) : W.cell? ⟨gt, k, none⟩ = some v := (cell_of_row W _ k _ _ _ h.t).trans hv
theorem TmAt.ms {w W : World} {OF TC MC : Array Value} {gt gm : Nat} (h : TmAt w W OF TC MC gt gm) (k : Nat) {v : Value} (hv : MC[k]? = some v) : W.cell? ⟨gm, k, none⟩ = some v := (cell_of_row W _ k _ _ _ h.m).trans hv
section
variable {P : Program} {ops : Array Oper} {o : Oper} {a : Act} {Q : Exit → Act → World → Prop}
theorem wp_alloc_zz {w : World} {K : Act → World → Prop} (ty : TypeId) (ho : o.op = .alloc ty) (z : Array Value) (hz : (P.info? ty).map (·.zero) = some (some (.agg z)))
    (h : K (a.put o.dst (.pointer (some ⟨w.heap.size, 0, none⟩))) (w.alloc (.cells z ty))) : o.wp P a w K Q := by
  have hzr : (zeroValue ty).run P w = .ok (.agg z) w := by
    cases hq : P.info? ty with
    | none => simp [hq] at hz
    | some i =>
      have : i.zero = some (.agg z) := by simpa [hq] using hz
      simp [zeroValue, typeInfo, hq, this]
  unfold Oper.wp execOp
  simp only [ho, Instr.alloc, newVar, newRow, Sem.run_bind, hzr, Result.andThen_ok, run_newObj_alloc, Sem.run_pure, Value.cells]
  exact h
theorem step_alloc_z {w : World} {K : Act → World → Prop} {E : Prop} (hgd : o.guard = none) (ty : TypeId) (ho : o.op = .alloc ty) (z : Array Value) (hz : (P.info? ty).map (·.zero) = some (some (.agg z)))
    (h : K (a.put o.dst (.pointer (some ⟨w.heap.size, 0, none⟩))) (w.alloc (.cells z ty))) : if Region.wanted o (yielded ops a.tmps) = true then Oper.wp P o a w K Q else E := by
  have hw : Region.wanted o (yielded ops a.tmps) = true := by simp [Region.wanted, hgd]
  rw [if_pos hw]
  exact wp_alloc_zz ty ho z hz h
end
def ofC (a0 a1 a2 a3 a4 a5 a6 : Bool) : Array Value := #[.bool a0, .bool a1, .bool a2, .bool a3, .bool a4, .bool a5, .bool a6]
def wantT (group a0 a1 a2 a3 a4 a5 a6 : Bool) : Bool := (((((!a0 && !a1) && !a2) && !a3) && !a4) && (!a5 || group)) && !a6
theorem builtM0 (D : Int) (rp : Bool) (S : ByteArray) (t : Int) : Tryd.prog.built 29 [(0, .int .i64 D), (1, .bool rp), (5, .agg #[.string S, .int .i64 t])] = some (qMV D rp false S t).cells := by kernel_rfl
end Go.Proofs.YtmijoidogjablaaDoor
