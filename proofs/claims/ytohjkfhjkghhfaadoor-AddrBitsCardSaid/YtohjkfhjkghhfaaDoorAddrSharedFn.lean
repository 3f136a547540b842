/-
  The walk of addr.Shared: how many first bits are the same. Condition: sixteen bytes each.
-/
import Derived.Test.YtohjkfhjkghhfaaDoorAddrFit
import Derived.Deep.QuietTactic
import Derived.BigQuiet
namespace Go.Proofs.YtohjkfhjkghhfaaDoor
open Go.RowKit

/-- how many first bits of two bytes are the same, if they part -/
def part8 (x y : UInt8) : Nat := 8 - Lib.bitLen (x.toNat ^^^ y.toNat)
/-- how many first bits are the same -/
def sh : List UInt8 → List UInt8 → Nat
  | x :: a, y :: b => if x = y then 8 + sh a b else part8 x y
  | _, _ => 0
theorem xor8 (x y : Nat) (hx : x < 256) (hy : y < 256) : bits .xor .u8 (x : Int) (y : Int) = ((x ^^^ y : Nat) : Int) ∧ x ^^^ y < 256 := by
  have h : x ^^^ y < 2 ^ 8 := Nat.xor_lt_two_pow (by omega) (by omega)
  have h1 : (BitVec.ofInt 8 (x : Int)).toNat = x := by
    rw [BitVec.ofInt_natCast, BitVec.toNat_ofNat]; exact Nat.mod_eq_of_lt (by omega)
  have h2 : (BitVec.ofInt 8 (y : Int)).toNat = y := by
    rw [BitVec.ofInt_natCast, BitVec.toNat_ofNat]; exact Nat.mod_eq_of_lt (by omega)
  refine ⟨?_, by omega⟩
  show IntKind.u8.wrap ((BitVec.ofInt 8 (x : Int) ^^^ BitVec.ofInt 8 (y : Int)).toNat : Int) = _
  rw [BitVec.toNat_xor, h1, h2, IntKind.wrap_u8]
  omega
theorem sh_drop {a b : List UInt8} {k : Nat} (ha : k < a.length) (hb : k < b.length) :
    sh (a.drop k) (b.drop k) = if a.getD k 0 = b.getD k 0 then 8 + sh (a.drop (k + 1)) (b.drop (k + 1)) else part8 (a.getD k 0) (b.getD k 0) := by
  rw [List.drop_eq_getElem_cons ha, List.drop_eq_getElem_cons hb, sh]
  simp [List.getD, List.getElem?_eq_getElem ha, List.getElem?_eq_getElem hb]
set_option maxRecDepth 100000 in
set_option maxHeartbeats 1000000 in
theorem shared_e (a b : List UInt8) (ha : a.length = 16) (hb : b.length = 16) (w : World) :
    Calls Tryd.prog 18 #[.agg (bvs a).toArray, .agg (bvs b).toArray] w fun e w' => e = .returned (.int .i64 (sh a b)) ∧ Below w.heap.size w w' := by
  have hc1 : ∀ j, j < 16 → (bvs a).toArray[j]? = some (.int .u8 (a.getD j 0).toNat) := fun j hj => by rw [List.getElem?_toArray]; exact bvs_at (by omega)
  have hc2 : ∀ j, j < 16 → (bvs b).toArray[j]? = some (.int .u8 (b.getD j 0).toNat) := fun j hj => by rw [List.getElem?_toArray]; exact bvs_at (by omega)
  have hstep : ∀ k, k < 16 → sh (a.drop k) (b.drop k) = if a.getD k 0 = b.getD k 0 then 8 + sh (a.drop (k + 1)) (b.drop (k + 1)) else part8 (a.getD k 0) (b.getD k 0) := fun k hk => sh_drop (by omega) (by omega)
  have hend : sh (a.drop 16) (b.drop 16) = 0 := by rw [List.drop_of_length_le (by omega), List.drop_of_length_le (by omega)]; rfl
  obtain ⟨S, hS⟩ : ∃ S : Nat → Nat, ∀ k, S k = sh (a.drop k) (b.drop k) := ⟨_, fun _ => rfl⟩
  have h0 : sh a b = S 0 := (hS 0).symm
  simp only [← hS] at hstep hend
  rw [h0]
  generalize (bvs a).toArray = c1 at hc1 ⊢
  generalize (bvs b).toArray = c2 at hc2 ⊢
  have hcell : ∀ wr, Below ((w.alloc (.cells c1 23)).alloc (.cells c2 23)).heap.size ((w.alloc (.cells c1 23)).alloc (.cells c2 23)) wr → ∀ j, j < 16 → wr.cell? ⟨w.heap.size, j, none⟩ = some (.int .u8 (a.getD j 0).toNat) ∧ wr.cell? ⟨w.heap.size + 1, j, none⟩ = some (.int .u8 (b.getD j 0).toNat) := fun wr hb j hj => by
    have g1 : wr.heap[w.heap.size]? = some (.cells c1 23 (0, 0)) := by
      rw [hb.block _ (by rw [World.size_alloc, World.size_alloc]; omega)]; exact heap_alloc2_old w _ _
    have g2 : wr.heap[w.heap.size + 1]? = some (.cells c2 23 (0, 0)) := by
      rw [hb.block _ (by rw [World.size_alloc, World.size_alloc]; omega)]; exact heap_alloc2_new w _ _
    exact ⟨by rw [cell_of_row wr _ _ _ _ _ g1]; exact hc1 j hj, by rw [cell_of_row wr _ _ _ _ _ g2]; exact hc2 j hj⟩
  have hb2 : Below w.heap.size w ((w.alloc (.cells c1 23)).alloc (.cells c2 23)) := ((Below.refl _ w).alloc (Nat.le_refl _) _).alloc (by rw [World.size_alloc]; omega) _
  have HC := Lib.hid hcell
  have HST := Lib.hid hstep
  have HEnd := Lib.hid hend
  have HB2 := Lib.hid hb2
  clear hc1 hc2 hstep hend hcell ha hb hS h0 hb2
  go_enter Tryd.func18, Tryd.ntmps18
  go_wp2
  go_loopw [6, 5] (fun i _ wr => ∃ k : Nat, k ≤ 16 ∧ i = .int .i64 k ∧ S 0 = 8 * k + S k ∧ Below ((w.alloc (.cells c1 23)).alloc (.cells c2 23)).heap.size ((w.alloc (.cells c1 23)).alloc (.cells c2 23)) wr) (fun i _ _ => 16 - (intOf i).toNat)
  case atStart => exact ⟨0, by decide, rfl, by omega, Below.refl _ _⟩
  case round =>
    obtain ⟨k, hk, rfl, heq, hbw⟩ := hrel
    by_cases hlt : k < 16
    · obtain ⟨c0, d0⟩ := HC.out wr hbw k hlt
      have hs := HST.out k hlt
      have HB := Lib.hid hbw
      clear hbw
      generalize a.getD k 0 = x at c0 hs
      generalize b.getD k 0 = y at d0 hs
      have hx := x.toNat_lt
      have hy := y.toNat_lt
      by_cases hxy : x = y
      · rw [if_pos hxy] at hs
        subst hxy
        have HS := Lib.hid (show S 0 = 8 * (k + 1) + S (k + 1) by omega)
        clear hs heq
        go_wp2_with fail
        go_quiet (fail)
        go_wp2
        go_roundw
        case rel => exact ⟨k + 1, by omega, by go_num, HS.out, Joins.below_draws _ _ _ |> HB.out.trans⟩
        case measure => simp [intOf]; omega
      · rw [if_neg hxy] at hs
        have hne : ¬ (x.toNat : Int) = (y.toNat : Int) := fun e => hxy (UInt8.toNat_inj.1 (by omega))
        obtain ⟨hX, hXl⟩ := xor8 x.toNat y.toNat hx hy
        have hbl := Lib.bitLen_le (x.toNat ^^^ y.toNat) 8 (by omega) (by omega)
        have hlz := fun W => Tryd.bits_LeadingZeros8 ((x.toNat ^^^ y.toNat : Nat) : Int) W (by omega) (by omega)
        rw [Int.toNat_natCast] at hlz
        have HS := Lib.hid (show ((S 0 : Nat) : Int) = 8 * (k : Int) + (8 - (Lib.bitLen (x.toNat ^^^ y.toNat) : Int)) by rw [heq, hs]; unfold part8; omega)
        clear hs heq hxy
        generalize Lib.bitLen (x.toNat ^^^ y.toNat) = bl at hbl hlz HS
        generalize x.toNat ^^^ y.toNat = z at hX hXl hlz
        generalize x.toNat = x at *
        generalize y.toNat = y at *
        have hw8 : IntKind.i64.wrap (8 * (k : Int)) = 8 * (k : Int) := by rw [IntKind.wrap_i64]; omega
        go_wp2_with fail
        go_quiet (fail)
        have c0' : (wr.drewN nq).cell? ⟨w.heap.size, k, none⟩ = some (.int .u8 (x : Nat)) := c0
        have d0' : (wr.drewN nq).cell? ⟨w.heap.size + 1, k, none⟩ = some (.int .u8 (y : Nat)) := d0
        have HBq := Lib.hid (HB.out.trans (Joins.below_draws _ wr nq))
        generalize wr.drewN nq = w2 at c0' d0' HBq ⊢
        clear c0 d0
        go_wp2_with fail
        go_quiet ((go_at_call 32; refine Calls.quiet_of_same (hlz _)))
        go_wp2
        go_ret
        refine ⟨?_, HB2.out.trans ((HBq.out.trans (Joins.below_draws _ _ _)).mono HB2.out.size)⟩
        rw [HS.out]; rfl
    · obtain rfl : k = 16 := by omega
      have HS := Lib.hid (show ((S 0 : Nat) : Int) = 128 by rw [heq, HEnd.out]; rfl)
      have HB := Lib.hid hbw
      clear hbw heq
      go_wp2
      go_ret
      refine ⟨?_, HB2.out.trans (HB.out.mono HB2.out.size)⟩
      rw [HS.out]; rfl
end Go.Proofs.YtohjkfhjkghhfaaDoor
