/-
  The walk of TransDraws: any draw is a number and a port that may be. Condition: the library's variable MaxLen holds some number.
-/
import Derived.Test.YtmijoidogjablaaDoorTrFit
namespace Go.Proofs.YtmijoidogjablaaDoor
open Go.RowKit

theorem and_t (n : Int) (q : Nat) (hq : q < 1000000) : ∃ m : Nat, m ≤ q ∧ bits BinOp.and IntKind.i64 n (q : Nat) = (m : Int) := by
  have hle : (BitVec.ofInt 64 n &&& BitVec.ofInt 64 (q : Nat)).toNat ≤ q := by
    rw [BitVec.toNat_and]
    refine Nat.le_trans Nat.and_le_right ?_
    rw [BitVec.ofInt_natCast, BitVec.toNat_ofNat]
    exact Nat.mod_le _ _
  refine ⟨(BitVec.ofInt 64 n &&& BitVec.ofInt 64 (q : Nat)).toNat, hle, ?_⟩
  show IntKind.i64.wrap ((BitVec.ofInt 64 n &&& BitVec.ofInt 64 (q : Nat)).toNat : Int) = _
  exact IntWalk.i64_in _ (by omega)
theorem drP_small {n : Int} (h0 : 0 ≤ n) (h1 : n < 1073741824) : ((drP n : Nat) : Int) = 1024 + n / 65536 % 64512 := by
  unfold drP
  rw [IntWalk.u64_in n ⟨h0, by omega⟩]
  omega
set_option maxRecDepth 100000 in
set_option maxHeartbeats 4000000 in
theorem transDraws_walk (n : Int) (w : World) (he : Env w) : Calls Tryd.prog 7 #[.int .i64 n] w fun e w' => e = .returned (.bool true) ∧ Below w.heap.size w w' := by
  have HFit := Lib.hid fit13_e
  have HE := Lib.hid he
  obtain ⟨D, hD, hDB⟩ := and_t n 65535 (by omega)
  have HDr := Lib.hid (fun W => draw_e n D hDB W)
  obtain ⟨hp1, hp2⟩ := drP_le n
  have hP : 0 ≤ n → n < 1073741824 → ((drP n : Nat) : Int) = 1024 + n / 65536 % 64512 := drP_small
  clear he
  revert HDr hp1 hp2 hP
  generalize drP n = P
  intro HDr hp1 hp2 hP
  have hDB : bits BinOp.and IntKind.i64 n 65535 = (D : Int) := hDB
  have h1 : (0 : Int) ≤ (D : Int) := by omega
  have h2 : (D : Int) ≤ 65535 := by omega
  have h3 : (1024 : Int) ≤ (P : Int) := by omega
  have h4 : (P : Int) ≤ 65535 := by omega
  go_enter Tryd.func7, Tryd.ntmps7
  go_wp2_with fail
  refine (HFit.out w HE.out).mono ?_
  rintro e w1 ⟨rfl, hb1⟩
  have HB1 := Lib.hid hb1
  clear hb1
  go_wp2_with fail
  refine (HDr.out w1).mono ?_
  rintro e w2 ⟨rfl, rfl⟩
  by_cases h5 : n < 0
  · clear hP
    go_wp2_with fail
    go_ret
    exact ⟨rfl, HB1.out⟩
  · by_cases h6 : (1073741824 : Int) ≤ n
    · clear hP
      go_wp2_with fail
      go_ret
      exact ⟨rfl, HB1.out⟩
    · have hQ := hP (by omega) (by omega)
      have h7 : 0 ≤ n := by omega
      clear hP
      go_wp2_with fail
      go_ret
      exact ⟨rfl, HB1.out⟩
end Go.Proofs.YtmijoidogjablaaDoor
