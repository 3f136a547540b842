/-
  The walk of ResolveErrors: outcomes without records are errors of a name, that are found by their number. Condition: the library's variable errorType holds the handle of the type 'error'.
-/
import Derived.Test.YtepcogbfoemcmaaDoorResErrs2
import Derived.Test.YtepcogbfoemcmaaDoorResErrs3
import Derived.Test.YtepcogbfoemcmaaDoorResErrs4
import Derived.Test.YtepcogbfoemcmaaDoorResErrs5
namespace Go.Proofs.YtepcogbfoemcmaaDoor
open Go.RowKit

set_option maxRecDepth 100000 in
theorem errs_long (n : Int) (s : ByteArray) (hs : s.size ≤ 140737488351232) (hs3 : ¬ s.size ≤ 300) (w : World) :
    Calls Tryd.prog 3 #[.int .i64 n, .string s] w fun e w' => e = .returned (.bool true) ∧ Below w.heap.size w w' := by
  have hsI : (300 : Int) < (s.size : Int) := by omega
  clear hs3
  go_enter Tryd.func3, Tryd.ntmps3
  go_wp2_with fail
  refine (fit16_e _).mono ?_
  rintro e w1 ⟨rfl, hb1⟩
  go_wp2_with fail
  go_ret
  exact ⟨rfl, hb1⟩
set_option maxRecDepth 100000 in
theorem errs_1 (n : Int) (s : ByteArray) (hs3 : s.size ≤ 300) (hk : kd n = 1) (w : World) :
    Calls Tryd.prog 3 #[.int .i64 n, .string s] w fun e w' => e = .returned (.bool true) ∧ Below w.heap.size w w' := by
  have hsI : ¬ (300 : Int) < (s.size : Int) := by omega
  have HKd : Hid (∀ W : World, Calls Tryd.prog 5 #[.int .i64 n] W fun e w' => e = .returned (.int .i64 1) ∧ W = w') := Lib.hid (fun W => by have := kind_e n W; rw [hk] at this; exact this)
  clear hs3 hk
  go_enter Tryd.func3, Tryd.ntmps3
  go_wp2_with fail
  refine (fit16_e _).mono ?_
  rintro e w1 ⟨rfl, hb1⟩
  have HB1 := Lib.hid hb1
  clear hb1
  go_wp2_with fail
  refine (HKd.out _).mono ?_
  rintro e w1' ⟨rfl, rfl⟩
  clear HKd
  go_wp2_with fail
  refine (error_nil s _).mono ?_
  rintro e w2 ⟨rfl, hb2⟩
  have HB2 := Lib.hid (HB1.out.trans (hb2.mono HB1.out.size))
  clear hb2 HB1
  go_wp2_with fail
  refine (num_nil _).mono ?_
  rintro e w3 ⟨rfl, hb3⟩
  have HB3 := Lib.hid ((HB2.out.alloc HB2.out.size (.cells #[.int .i64 0, .int .i64 0, .int .i64 9, .int .i64 12, .int .i64 11, .int .i64 10] 30)).trans (hb3.mono (by have := HB2.out.size; simp; omega)))
  clear hb3 HB2
  go_wp2_with fail
  go_ret
  exact ⟨rfl, HB3.out⟩
theorem resolveErrors_walk (n : Int) (s : ByteArray) (hs : s.size ≤ 140737488351232) (w : World) (ht : ETy w) :
    Calls Tryd.prog 3 #[.int .i64 n, .string s] w fun e w' => e = .returned (.bool true) ∧ Below w.heap.size w w' := by
  by_cases hs3 : s.size ≤ 300
  · obtain ⟨h1, h5⟩ := kd_in n
    by_cases k1 : kd n = 1
    · exact errs_1 n s hs3 k1 w
    by_cases k2 : kd n = 2
    · exact errs_2 n s hs3 k2 w ht
    by_cases k3 : kd n = 3
    · exact errs_3 n s hs3 k3 w ht
    by_cases k4 : kd n = 4
    · exact errs_4 n s hs3 k4 w ht
    exact errs_5 n s hs3 (by omega) w ht
  · exact errs_long n s hs hs3 w
end Go.Proofs.YtepcogbfoemcmaaDoor
