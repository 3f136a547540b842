/-
  The walk of the statement OrderBrackets: brackets that stand wrong are refused. Condition: the library's variable MaxLen holds some number.
-/
import Derived.Test.YtpgkopnnfhlhbaaDoorOrdFit
namespace Go.Proofs.YtpgkopnnfhlhbaaDoor
open Go.RowKit

theorem brT_len : ∀ i : Fin 10, (brT.getD i.val []).length ≤ 100 := by decide +kernel
set_option maxRecDepth 100000 in
set_option maxHeartbeats 4000000 in
theorem orderBrackets_walk (n : Int) (w : World) (he : Env w) : Calls Tryd.prog 6 #[.int .i64 n] w fun e w' => e = .returned (.bool true) ∧ Below w.heap.size w w' := by
  have hfit := fit8_e w he
  have HE := Lib.hid he
  obtain ⟨i, hi⟩ : ∃ i : Nat, (n.tmod 10 + 10).tmod 10 = (i : Int) ∧ i < 10 := by
    have h1 := Int.tmod_lt_of_pos n (show (0 : Int) < 10 by decide)
    have h2 := Int.lt_tmod_of_pos n (show (0 : Int) < 10 by decide)
    refine ⟨((n.tmod 10 + 10).tmod 10).toNat, ?_, ?_⟩
    · have := Int.tmod_nonneg (a := n.tmod 10 + 10) 10 (by omega)
      omega
    · have h3 := Int.tmod_lt_of_pos (n.tmod 10 + 10) (show (0 : Int) < 10 by decide)
      have := Int.tmod_nonneg (a := n.tmod 10 + 10) 10 (by omega)
      omega
  obtain ⟨hi, hi10⟩ := hi
  have h1 := Int.tmod_lt_of_pos n (show (0 : Int) < 10 by decide)
  have h2 := Int.lt_tmod_of_pos n (show (0 : Int) < 10 by decide)
  have HP1 : Hid (∀ W, Env W → Calls Tryd.prog 10 #[.string (tb (brT.getD i []))] W fun e w' => Below W.heap.size W w' ∧ ∃ A c, e = .returned (.tuple #[.slice A 0 c, .int .i64 6])) := Lib.hid fun W hW => by
    have hbr := br_parse ⟨i, hi10⟩
    have hbl := brT_len ⟨i, hi10⟩
    simp only at hbr hbl
    refine (parse_e (tb (brT.getD i [])) W hW (by rw [size_eq, tb_data]; omega)).mono ?_
    rintro e w' ⟨hb, v, rfl, A, c, hv, _⟩
    rw [tb_data, hbr] at hv ⊢
    subst hv
    exact ⟨hb, A, c, rfl⟩
  have HP2 : Hid (∀ W, Env W → Calls Tryd.prog 10 #[.string (tb okT)] W fun e w' => Below W.heap.size W w' ∧ ∃ A c, e = .returned (.tuple #[.slice A 2 c, .int .i64 0])) := Lib.hid fun W hW => by
    refine (parse_e (tb okT) W hW (by decide)).mono ?_
    rintro e w' ⟨hb, v, rfl, A, c, hv, _⟩
    rw [tb_data, ok_parse] at hv ⊢
    subst hv
    exact ⟨hb, A, c, rfl⟩
  clear he
  have hc : ((n.tmod 10 + 10).tmod 10 = 0 ∧ i = 0) ∨ ((n.tmod 10 + 10).tmod 10 = 1 ∧ i = 1) ∨ ((n.tmod 10 + 10).tmod 10 = 2 ∧ i = 2) ∨ ((n.tmod 10 + 10).tmod 10 = 3 ∧ i = 3) ∨ ((n.tmod 10 + 10).tmod 10 = 4 ∧ i = 4) ∨ ((n.tmod 10 + 10).tmod 10 = 5 ∧ i = 5) ∨ ((n.tmod 10 + 10).tmod 10 = 6 ∧ i = 6) ∨ ((n.tmod 10 + 10).tmod 10 = 7 ∧ i = 7) ∨ ((n.tmod 10 + 10).tmod 10 = 8 ∧ i = 8) ∨ ((n.tmod 10 + 10).tmod 10 = 9 ∧ i = 9) := by omega
  clear hi hi10
  rcases hc with ⟨hq, rfl⟩ | ⟨hq, rfl⟩ | ⟨hq, rfl⟩ | ⟨hq, rfl⟩ | ⟨hq, rfl⟩ | ⟨hq, rfl⟩ | ⟨hq, rfl⟩ | ⟨hq, rfl⟩ | ⟨hq, rfl⟩ | ⟨hq, rfl⟩
  all_goals
    go_enter Tryd.func6, Tryd.ntmps6
    go_wp2_with (go_at_call 9; refine hfit.mono ?_; rintro e w1 ⟨rfl, hb1⟩; have HB1 := Lib.hid hb1; clear hb1)
    refine (HP1.out _ (HE.out.below (HB1.out.alloc HB1.out.size _))).mono ?_
    rintro e w2 ⟨hb2, A, c, rfl⟩
    have HB2 := Lib.hid ((HB1.out.alloc HB1.out.size _).trans (hb2.mono (by rw [World.size_alloc]; have := HB1.out.size; omega)))
    clear hb2
    go_wp2_with fail
    refine (HP2.out _ (HE.out.below HB2.out)).mono ?_
    rintro e w3 ⟨hb3, A3, c3, rfl⟩
    have HB3 := Lib.hid (HB2.out.trans (hb3.mono HB2.out.size))
    clear hb3
    go_wp2
    go_ret
    exact ⟨rfl, HB3.out⟩
end Go.Proofs.YtpgkopnnfhlhbaaDoor
