/-
  The walk of ResolveErrors at kind 5. Condition: the library's variable errorType holds the handle of the type 'error'.
-/
import Derived.Test.YtepcogbfoemcmaaDoorResErrsLib
namespace Go.Proofs.YtepcogbfoemcmaaDoor
open Go.RowKit

set_option maxRecDepth 100000 in
set_option maxHeartbeats 8000000 in
theorem errs_5 (n : Int) (s : ByteArray) (hs3 : s.size ≤ 300) (hk : kd n = 5) (w : World) (ht : ETy w) :
    Calls Tryd.prog 3 #[.int .i64 n, .string s] w fun e w' => e = .returned (.bool true) ∧ Below w.heap.size w w' := by
  have hsI : ¬ (300 : Int) < (s.size : Int) := by omega
  have HS3 := Lib.hid hs3
  have HT := Lib.hid ht
  have HKd : Hid (∀ W : World, Calls Tryd.prog 5 #[.int .i64 n] W fun e w' => e = .returned (.int .i64 5) ∧ W = w') := Lib.hid (fun W => by have := kind_e n W; rw [hk] at this; exact this)
  have HWy := Lib.hid (why_text 10 (.inr (.inl rfl)))
  have HEr := Lib.hid (errno_e 10 (.inr (.inl rfl)))
  have hz2 : (ByteArray.mk #[58, 32]).size = 2 := rfl
  have hA1 := fun W => run_string_add_sum (P := Tryd.prog) (w := W) s ⟨#[58, 32]⟩ (by rw [hz2]; omega)
  have hA2 := fun W => run_string_add_sum (P := Tryd.prog) (w := W) (s ++ ⟨#[58, 32]⟩) (errT 10) (by have := errT_size 10; rw [ByteArray.size_append, hz2]; omega)
  generalize errT 10 = D at HWy HEr hA2
  clear hs3 hk ht hz2
  go_enter Tryd.func3, Tryd.ntmps3
  go_wp2_with fail
  refine (fit16_e _).mono ?_
  rintro e w1 ⟨rfl, hb1⟩
  have HB1 := Lib.hid hb1
  clear hb1
  go_wp2_with fail
  refine (HKd.out _).mono ?_
  rintro e w1' ⟨rfl, rfl⟩
  clear HKd
  go_wp2_with fail
  refine (error_e s 5 10 (.inr (.inr (.inr ⟨rfl, rfl⟩))) _).mono ?_
  rintro e w2 ⟨p, rfl, hpb, hp, hb2⟩
  have HR2 : Hid (Rw w p s 10 w2) := Lib.hid (Rw.first HB1.out hb2 hp)
  clear hpb hp hb2 HB1
  go_wp2_with fail
  have HRa := Lib.hid (HR2.out.alloc (.cells #[.int .i64 0, .int .i64 0, .int .i64 9, .int .i64 12, .int .i64 11, .int .i64 10] 30))
  refine (number1 p 10 _ HRa.out.h1).mono ?_
  rintro e w3 ⟨rfl, hb3⟩
  have HR3 := Lib.hid (HRa.out.to hb3)
  clear hb3 HRa HR2
  go_wp2_with fail
  have hcB := (cell_of_row _ w3.heap.size 0 _ _ _ (heap_alloc_last w3 (.cells #[.pointer none] 33))).trans (rfl : _ = some (Value.pointer none))
  have hfB := frozen_of_row _ w3.heap.size 0 _ _ (heap_alloc_last w3 (.cells #[.pointer none] 33))
  have HNe : Hid (p ≠ w3.heap.size) := Lib.hid (Nat.ne_of_lt (cell_lt HR3.out.h0))
  have HBb : Hid (w.heap.size ≤ w3.heap.size) := Lib.hid HR3.out.below.size
  have HR4 := Lib.hid (HR3.out.alloc (.cells #[.pointer none] 33))
  generalize w3.alloc (.cells #[.pointer none] 33) = w4 at hcB hfB HR4 ⊢
  generalize w3.heap.size = B at hcB hfB HNe HBb ⊢
  clear HR3
  refine (is_yes1 p 10 10 _ HR4.out.h1 (by decide)).mono ?_
  rintro e w' ⟨rfl, rfl⟩
  go_wp2_with fail
  refine (is_no1 p 10 7 _ HR4.out.h1 (by decide)).mono ?_
  rintro e w' ⟨rfl, rfl⟩
  go_wp2_with fail
  refine (as_why ⟨p, 0, none⟩ ⟨B, 0, none⟩ (.pointer none) _ (HT.out.below HR4.out.below) hcB hfB).mono ?_
  rintro e w' ⟨rfl, w5, hb5, rfl⟩
  have HR5 := Lib.hid ((HR4.out.to hb5).set HBb.out HNe.out (.pointer (some ⟨p, 0, none⟩)))
  have hc5 := World.cell?_setCell_same w5 ⟨B, 0, none⟩ (.pointer (some ⟨p, 0, none⟩)) ((hb5.cell (p := ⟨B, 0, none⟩) (cell_lt hcB)).trans hcB)
  clear hcB hfB HR4 hb5
  generalize w5.setCell ⟨B, 0, none⟩ (.pointer (some ⟨p, 0, none⟩)) = w6 at HR5 hc5 ⊢
  have h06 := HR5.out.h0
  have hmE := xl_mErr
  go_wp2_with fail
  refine (HWy.out p s _ HR5.out.h0 HR5.out.h1 HS3.out).mono ?_
  rintro e w7 ⟨rfl, hb7⟩
  have HR7 := Lib.hid (HR5.out.to hb7)
  have hc7 := (hb7.cell (p := ⟨B, 0, none⟩) (cell_lt hc5)).trans hc5
  clear hb7 HR5 hc5 h06 hmE HWy
  go_wp2_with fail
  refine (HEr.out _).mono ?_
  rintro e w7' ⟨rfl, rfl⟩
  clear HEr
  go_wp2_with fail
  refine (funwrap_e p _ _ HR7.out.h1).mono ?_
  rintro e w' ⟨rfl, rfl⟩
  clear hA1 hA2
  go_wp2_with fail
  refine (number0 10 _).mono ?_
  rintro e w8 ⟨rfl, hb8⟩
  have HR8 := Lib.hid (HR7.out.to hb8)
  clear hb8 HR7 hc7
  go_wp2_with fail
  have HR9 := Lib.hid (HR8.out.alloc (.cells #[.string s, .iface 33 (.pointer (some ⟨p, 0, none⟩))] 38))
  refine (number2 w8.heap.size p 10 _ ((cell_of_row _ w8.heap.size 1 _ _ _ (heap_alloc_last w8 _)).trans rfl) HR9.out.h1).mono ?_
  rintro e w10 ⟨rfl, hb10⟩
  have HBz := Lib.hid (HR9.out.to hb10).below
  clear hb10 HR9 HR8
  go_wp2_with fail
  go_ret
  exact ⟨rfl, HBz.out⟩
end Go.Proofs.YtepcogbfoemcmaaDoor
