/-
  errors.Is and errors.Unwrap by their contracts, at a Why around an error's number. Go's own text of them is walked. Conditions: the cells that each states.
-/
import Derived.Test.YtepcogbfoemcmaaDoorResErr
namespace Go.Proofs.YtepcogbfoemcmaaDoor
open Go.RowKit Go.Extern.Stop Go.Stop Go.Extern

theorem xe_compE2 (w : World) : ((ReflectliteType.method fun t => do
    Rtype.noPackHeld "Comparable" t
    (fun a => Value.bool a.comparable) <$> typeInfo t) #[.agg #[.pointer (some ⟨4, 30, none⟩)]]).run Tryd.prog w = .ok (.bool true) w := by kernel_rfl
set_option maxRecDepth 100000 in
set_option maxHeartbeats 1000000 in
theorem is_yes1 (p : Nat) (n m : Int) (w : World) (c0 : w.cell? ⟨p, 1, none⟩ = some (.iface 30 (.int .i64 n))) (hm : (n == m) = true) :
    Calls Tryd.prog 8 #[.iface 33 (.pointer (some ⟨p, 0, none⟩)), .iface 30 (.int .i64 m)] w fun e w' => e = .returned (.bool true) ∧ w' = w := by
  have h10 := @run_callFunc_extern Tryd.prog 16 _ (ReflectliteType.typeOf) Tryd.func16 (by kernel_rfl) (by kernel_rfl) (by kernel_rfl) (by kernel_rfl)
  have h32 := @run_callFunc_extern Tryd.prog 77 _ (ReflectliteType.method fun t => do Rtype.noPackHeld "Comparable" t; pure (.bool (← typeInfo t).comparable)) Tryd.func77 (by kernel_rfl) (by kernel_rfl) (by kernel_rfl) (by kernel_rfl)
  have he := Lib.run_eql_iface_int (P := Tryd.prog) (k := .i64) w n m Tryd.underlying25 xe_comp Tryd.underlying30
  rw [hm] at he
  have t0 := run_eql_iface_types (P := Tryd.prog) 33 30 (.pointer (some ⟨p, 0, none⟩)) (.int .i64 m) Tryd.underlying25 (by decide) w
  have z0 := xe_mComp
  have z1 := xe_mUnw
  have z2 := xe_typeOfE
  have z3 := xe_compE2
  have z4 := xe_noIsF
  have z5 := xe_noIsE
  have z6 := xe_hasUnwF
  have z7 := xe_noUnwE
  have z8 := xe_noUnwsE
  clear hm
  go_enter Tryd.func8, Tryd.ntmps8
  go_wp2
  refine wp_loop_rounds 2 ?_
  rw [rounds_succ]
  go_wp2
  rw [rounds_succ]
  go_wp2
  go_ret
  exact ⟨rfl, rfl⟩
set_option maxRecDepth 100000 in
set_option maxHeartbeats 1000000 in
theorem is_no1 (p : Nat) (n m : Int) (w : World) (c0 : w.cell? ⟨p, 1, none⟩ = some (.iface 30 (.int .i64 n))) (hm : (n == m) = false) :
    Calls Tryd.prog 8 #[.iface 33 (.pointer (some ⟨p, 0, none⟩)), .iface 30 (.int .i64 m)] w fun e w' => e = .returned (.bool false) ∧ w' = w := by
  have h10 := @run_callFunc_extern Tryd.prog 16 _ (ReflectliteType.typeOf) Tryd.func16 (by kernel_rfl) (by kernel_rfl) (by kernel_rfl) (by kernel_rfl)
  have h32 := @run_callFunc_extern Tryd.prog 77 _ (ReflectliteType.method fun t => do Rtype.noPackHeld "Comparable" t; pure (.bool (← typeInfo t).comparable)) Tryd.func77 (by kernel_rfl) (by kernel_rfl) (by kernel_rfl) (by kernel_rfl)
  have he := Lib.run_eql_iface_int (P := Tryd.prog) (k := .i64) w n m Tryd.underlying25 xe_comp Tryd.underlying30
  rw [hm] at he
  have t0 := run_eql_iface_types (P := Tryd.prog) 33 30 (.pointer (some ⟨p, 0, none⟩)) (.int .i64 m) Tryd.underlying25 (by decide) w
  have z0 := xe_mComp
  have z1 := xe_mUnw
  have z2 := xe_typeOfE
  have z3 := xe_compE2
  have z4 := xe_noIsF
  have z5 := xe_noIsE
  have z6 := xe_hasUnwF
  have z7 := xe_noUnwE
  have z8 := xe_noUnwsE
  clear hm
  go_enter Tryd.func8, Tryd.ntmps8
  go_wp2
  refine wp_loop_rounds 2 ?_
  rw [rounds_succ]
  go_wp2
  rw [rounds_succ]
  go_wp2
  go_ret
  exact ⟨rfl, rfl⟩
theorem funwrap_e (p : Nat) (v : Value) (w : World) (c0 : w.cell? ⟨p, 1, none⟩ = some v) : Calls Tryd.prog 11 #[.pointer (some ⟨p, 0, none⟩)] w fun e w' => e = .returned v ∧ w' = w := by
  go_enter Tryd.func11, Tryd.ntmps11
  go_wp2
  go_ret
  exact ⟨rfl, rfl⟩
end Go.Proofs.YtepcogbfoemcmaaDoor
