/-
  What MsgPlaces' walk stands on: records of the call's own in a row, the law's names, and Encode at that message. Condition: the library's variable MaxLen holds some number.
-/
import Derived.Test.YtakfokdjdljjjaaDoorMsgFit
import Derived.Lib.OwnKind
import Derived.Deep.Heap
import Derived.Deep.RegionHeld3
import Derived.Deep.MidRow
import Derived.Deep.RegionLaw
import Derived.Great.BuildSlice
namespace Go.Proofs.YtakfokdjdljjjaaDoor
open Go.RowKit

theorem and_n (n : Int) (q : Nat) (hq : q < 1000) : ∃ m : Nat, m ≤ q ∧ bits BinOp.and IntKind.i64 n (q : Nat) = (m : Int) := by
  have hle : (BitVec.ofInt 64 n &&& BitVec.ofInt 64 (q : Nat)).toNat ≤ q := by
    rw [BitVec.toNat_and]
    refine Nat.le_trans Nat.and_le_right ?_
    rw [BitVec.ofInt_natCast, BitVec.toNat_ofNat]
    exact Nat.mod_le _ _
  refine ⟨(BitVec.ofInt 64 n &&& BitVec.ofInt 64 (q : Nat)).toNat, hle, ?_⟩
  show IntKind.i64.wrap ((BitVec.ofInt 64 n &&& BitVec.ofInt 64 (q : Nat)).toNat : Int) = _
  exact IntWalk.i64_in _ (by omega)
/-- so many times the same cells -/
def reps (C : List Value) (k : Nat) : List Value := (List.replicate k C).flatten
theorem reps_snoc (C : List Value) (k : Nat) : reps C (k + 1) = reps C k ++ C := by unfold reps; rw [List.replicate_succ', List.flatten_append]; simp
theorem reps_len {C : List Value} (hc : C.length = 21) (k : Nat) : (reps C k).length = k * 21 := by
  induction k with
  | zero => rfl
  | succ k ih => rw [reps_snoc, List.length_append, ih, hc]; omega
theorem reps_at {C : List Value} (hc : C.length = 21) (k : Nat) {i j : Nat} (hi : i < k) (hj : j < 21) : (reps C k)[i * 21 + j]? = C[j]? := by
  induction k with
  | zero => omega
  | succ k ih =>
    rw [reps_snoc]
    by_cases h : i < k
    · rw [List.getElem?_append_left (by rw [reps_len hc]; omega)]
      exact ih h
    · obtain rfl : i = k := by omega
      rw [List.getElem?_append_right (by rw [reps_len hc]; omega), reps_len hc, show i * 21 + j - i * 21 = j by omega]
theorem recs_own {w : World} {B k c : Nat} {A : Option Addr} {r : RV} (h : w.ownsRow B 45 21 (.slice A k c) k (reps r.cells.toList k)) (hl : r.ad.length = 16) : RecsAt w A (List.replicate k r) := fun h0 => by
  rw [List.length_replicate] at h0
  obtain ⟨g, hA, _, hlt, hc⟩ := own_cells4 h h0
  refine ⟨g, 0, hA, hlt, fun i r' hr' j v hj => ?_⟩
  rw [List.getElem?_replicate] at hr'
  split at hr'
  · rename_i hik
    injection hr' with hr'
    subst hr'
    have hj' : j < 21 := by have := (List.getElem?_eq_some_iff.1 hj).1; rw [Array.length_toList, RV.size hl] at this; exact this
    rw [Addr.add_lit]
    show w.cell? ⟨g, 0 + i * 21 + j, none⟩ = some v
    rw [Nat.zero_add]
    exact hc _ _ ((reps_at (by rw [Array.length_toList, RV.size hl]) k hik hj').trans hj)
  · cases hr'
/-- the law's message as it stands in memory -/
def mC (S : ByteArray) (v : Value) : Array Value := #[.int .i64 0, .bool false, .bool false, .bool false, .int .i64 0, .string S, .int .i64 1, v, .slice none 0 0]
def plR (S : ByteArray) : RV := ⟨S, 5, 0, zero16, S, emp⟩
structure PAt (base : Nat) (w U : World) (gm : Nat) (S : ByteArray) (C : List Value) (k : Nat) (v : Value) : Prop where
  ms : U.heap[gm]? = some (.cells (mC S v) 31 (0, 0))
  own : U.ownsRow base 45 21 v k (reps C k)
  below : Below w.heap.size w U
  hgm : gm < base
  hw : w.heap.size ≤ gm
  hb : base ≤ U.heap.size
theorem PAt.to {base gm k : Nat} {w U U' : World} {S : ByteArray} {C : List Value} {v : Value} (h : PAt base w U gm S C k v) (hb : Below U.heap.size U U') : PAt base w U' gm S C k v :=
  ⟨(hb.block gm (heap_lt h.ms)).trans h.ms, h.own.kept (show U.grownBy U' none from ⟨hb.os, hb.tape, hb.output, hb.size, fun k hk _ => hb.block k hk⟩) (Classical.em _), h.below.trans (hb.mono h.below.size), h.hgm, h.hw, Nat.le_trans h.hb hb.size⟩
theorem PAt.app {base gm k : Nat} {w U w1 : World} {S : ByteArray} {C : List Value} {v v1 : Value} (h : PAt base w U gm S C k v) (ho : w1.ownsRow base 45 21 v1 (k + 1) (reps C (k + 1))) (hg : U.grownBy w1 v.ownBlock) :
    w1.heap[gm]? = some (.cells (mC S v) 31 (0, 0)) ∧ PAt base w (w1.setCell ⟨gm, 7, none⟩ v1) gm S C (k + 1) v1 := by
  have h1 : w1.heap[gm]? = some (.cells (mC S v) 31 (0, 0)) := (hg.block gm (heap_lt h.ms) (fun e => by have := (h.own.lt gm e.symm).1; have := h.hgm; omega)).trans h.ms
  refine ⟨h1, ?_, ?_, ?_, h.hgm, h.hw, by have := hg.size; have := h.hb; simp; omega⟩
  · exact heap_setCell_same w1 gm 7 _ _ v1 h1
  · exact ho.kept (grown_set w1 gm 7 v1) (.inr (fun e => by have := (ho.lt gm e).1; have := h.hgm; omega))
  · exact (h.below.grown hg h.below.size (fun j hj => by have := (h.own.lt j hj).1; have := h.hgm; have := h.hw; omega)).setCell (p := ⟨gm, 7, none⟩) h.hw _
theorem own_sl4 {w : World} {B e size n : Nat} {v : Value} {xs : List Value} (h : w.ownsRow B e size v n xs) : ∃ A cap, v = .slice A n cap := by
  rcases h.2 with ⟨rfl, h0⟩ | ⟨g, cap, cur, rfl, _⟩
  · exact ⟨none, 0, by rw [h0]⟩
  · exact ⟨_, cap, rfl⟩
theorem Env.base' {w w' : World} (h : Env w) (hb : Below w.heap.size w w') : Env w' := h.below hb
theorem info_rec : ∃ i, Tryd.prog.info? 45 = some i ∧ i.zero = some (.agg (RV.cells ⟨emp, 0, 0, zero16, emp, emp⟩)) ∧ i.size = 21 ∧ i.bytes = 80 := by
  obtain ⟨i0, hi, hz0, hz1, hz2⟩ := info_parts (show (Tryd.prog.info? 45).map (fun i => (i.zero, i.size, i.bytes)) = some (some (.agg (RV.cells ⟨emp, 0, 0, zero16, emp, emp⟩)), 21, 80) by kernel_rfl)
  exact ⟨i0, hi, hz0, hz1, hz2⟩
theorem builtPl (S : ByteArray) : Tryd.prog.built 45 [(0, .string S), (1, .int .i64 5), (4, .string S)] = some (plR S).cells := by kernel_rfl
theorem builtPm (S : ByteArray) : Tryd.prog.built 31 [(5, .agg #[.string S, .int .i64 1])] = some (mC S (.slice none 0 0)) := by kernel_rfl
set_option maxRecDepth 100000 in
set_option maxHeartbeats 4000000 in
theorem name4_e (n : Int) (i : Nat) (hi : i ≤ 7) (hb : bits BinOp.and IntKind.i64 n 7 = (i : Int)) (w : World) : Calls Tryd.prog 7 #[.int .i64 n] w fun e w' => e = .returned (.string (bs (plN i))) ∧ Below w.heap.size w w' := by
  rcases (show i = 0 ∨ i = 1 ∨ i = 2 ∨ i = 3 ∨ i = 4 ∨ i = 5 ∨ i = 6 ∨ i = 7 by omega) with rfl | rfl | rfl | rfl | rfl | rfl | rfl | rfl
  all_goals
    go_enter Tryd.func7, Tryd.ntmps7
    go_wp2_with fail
    go_ret
    exact ⟨rfl, (Below.refl _ w).alloc (Nat.le_refl _) _⟩
def plM (S : ByteArray) (A : Option Addr) (c T : Nat) : MV := ⟨0, false, false, false, 0, S, 1, A, c, List.replicate T (plR S), none, 0, []⟩
theorem plM_cells (S : ByteArray) (A : Option Addr) (c T : Nat) : (plM S A c T).cells = mC S (.slice A T c) := by unfold plM MV.cells mC; simp
theorem plM_len (i : Nat) (hi : i ≤ 7) (A : Option Addr) (c T : Nat) : (enc (plM (bs (plN i)) A c T).msg).length = 12 + (plN i).length + 6 + 14 * T := by
  have h := enc_pl (i := i) (by omega) zero16 T
  have e : (plM (bs (plN i)) A c T).msg = ⟨0, false, false, false, 0, plN i, 1, List.replicate T ⟨plN i, 5, 0, zero16, plN i, []⟩, []⟩ := by
    unfold plM MV.msg
    simp only [List.map_replicate]
    rfl
  rw [e]; exact h
theorem plR_ok : ∀ i : Fin 8, rvOk (plR (bs (plN i.val))) = true ∧ gosB (bs (plN i.val)) = true := by decide +kernel
theorem plM_ok (i : Nat) (hi : i ≤ 7) (A : Option Addr) (c T : Nat) (hT : T ≤ 32) : mvOk (plM (bs (plN i)) A c T) = true := by
  obtain ⟨h1, h2⟩ := plR_ok ⟨i, by omega⟩
  simp only at h1 h2
  unfold mvOk plM allB
  simp only [h2, List.length_replicate, List.all_replicate, h1, decide_eq_true hT]
  cases T <;> rfl
theorem encode_pl (i : Nat) (hi : i ≤ 7) (A : Option Addr) (c T : Nat) (hT : T ≤ 32) (W : World) (hW : Env W) (hr : RecsAt W A (List.replicate T (plR (bs (plN i))))) : Calls Tryd.prog 9 #[.agg (mC (bs (plN i)) (.slice A T c))] W fun e w' => ∃ (gb cap : Nat) (L : Nat), L = 12 + (plN i).length + 6 + 14 * T ∧ e = .returned (.slice (some ⟨gb, 0, none⟩) L cap) ∧ Below W.heap.size W w' := by
  obtain ⟨_, _, _, _, _, h16⟩ := pl_ok ⟨i, by omega⟩
  simp only at h16
  have hz : (bs (plN i)).size ≤ maxLen := by rw [bs_size]; unfold maxLen; omega
  have h := encode_any (plM (bs (plN i)) A c T) ⟨hz, (fun r hr => by
    obtain rfl := List.eq_of_mem_replicate hr
    exact ⟨rfl, hz, hz, (by decide : emp.size ≤ maxLen)⟩), (fun r hr => by cases hr), by show (List.replicate T _).length ≤ _; rw [List.length_replicate]; omega, (by decide : ([] : List RV).length ≤ 9223372036854775807)⟩ W hW ⟨hr, fun h => absurd h (by decide : ¬ 0 < ([] : List RV).length)⟩ (plM_ok i hi A c T hT)
  rw [plM_cells] at h
  refine h.mono ?_
  rintro e w' ⟨gb, cap, h1, _, h3⟩
  exact ⟨gb, cap, _, plM_len i hi A c T, h1, h3⟩
end Go.Proofs.YtakfokdjdljjjaaDoor
