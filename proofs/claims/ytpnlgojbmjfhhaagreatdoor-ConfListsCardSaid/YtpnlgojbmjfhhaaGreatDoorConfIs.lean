/-
  errors.Is and errors.Unwrap by their contracts, at a fault, and a fault around a fault, around an error's number. Go's own text of them is walked. Conditions: the cells that each states.
-/
import Derived.Test.YtpnlgojbmjfhhaaGreatDoorConfErr
namespace Go.Proofs.YtpnlgojbmjfhhaaGreatDoor
open Go.RowKit Go.Extern.Stop Go.Stop Go.Extern

theorem xe_compE2 (w : World) : ((ReflectliteType.method fun t => do
    Rtype.noPackHeld "Comparable" t
    (fun a => Value.bool a.comparable) <$> typeInfo t) #[.agg #[.pointer (some ⟨14, 36, none⟩)]]).run Tryz.prog w = .ok (.bool true) w := by kernel_rfl
set_option maxRecDepth 100000 in
set_option maxHeartbeats 1000000 in
theorem is_yes1 (p : Nat) (n m : Int) (w : World) (c0 : w.cell? ⟨p, 1, none⟩ = some (.iface 36 (.int .i64 n))) (hm : (n == m) = true) :
    Calls Tryz.prog 15 #[.iface 35 (.pointer (some ⟨p, 0, none⟩)), .iface 36 (.int .i64 m)] w fun e w' => e = .returned (.bool true) ∧ w' = w := by
  have h10 := @run_callFunc_extern Tryz.prog 38 _ (ReflectliteType.typeOf) Tryz.func38 (by kernel_rfl) (by kernel_rfl) (by kernel_rfl) (by kernel_rfl)
  have h32 := @run_callFunc_extern Tryz.prog 174 _ (ReflectliteType.method fun t => do Rtype.noPackHeld "Comparable" t; pure (.bool (← typeInfo t).comparable)) Tryz.func174 (by kernel_rfl) (by kernel_rfl) (by kernel_rfl) (by kernel_rfl)
  have he := Lib.run_eql_iface_int (P := Tryz.prog) (k := .i64) w n m Tryz.underlying28 xe_comp Tryz.underlying36
  rw [hm] at he
  have t0 := run_eql_iface_types (P := Tryz.prog) 35 36 (.pointer (some ⟨p, 0, none⟩)) (.int .i64 m) Tryz.underlying28 (by decide) w
  have z0 := xe_mComp
  have z1 := xe_mUnw
  have z2 := xe_typeOfE
  have z3 := xe_compE2
  have z4 := xe_noIsF
  have z5 := xe_noIsE
  have z6 := xe_hasUnwF
  have z7 := xe_noUnwE
  have z8 := xe_noUnwsE
  clear hm
  go_enter Tryz.func15, Tryz.ntmps15
  go_wp2
  refine wp_loop_rounds 2 ?_
  rw [rounds_succ]
  go_wp2
  rw [rounds_succ]
  go_wp2
  go_ret
  exact ⟨rfl, rfl⟩
set_option maxRecDepth 100000 in
set_option maxHeartbeats 1000000 in
theorem is_no1 (p : Nat) (n m : Int) (w : World) (c0 : w.cell? ⟨p, 1, none⟩ = some (.iface 36 (.int .i64 n))) (hm : (n == m) = false) :
    Calls Tryz.prog 15 #[.iface 35 (.pointer (some ⟨p, 0, none⟩)), .iface 36 (.int .i64 m)] w fun e w' => e = .returned (.bool false) ∧ w' = w := by
  have h10 := @run_callFunc_extern Tryz.prog 38 _ (ReflectliteType.typeOf) Tryz.func38 (by kernel_rfl) (by kernel_rfl) (by kernel_rfl) (by kernel_rfl)
  have h32 := @run_callFunc_extern Tryz.prog 174 _ (ReflectliteType.method fun t => do Rtype.noPackHeld "Comparable" t; pure (.bool (← typeInfo t).comparable)) Tryz.func174 (by kernel_rfl) (by kernel_rfl) (by kernel_rfl) (by kernel_rfl)
  have he := Lib.run_eql_iface_int (P := Tryz.prog) (k := .i64) w n m Tryz.underlying28 xe_comp Tryz.underlying36
  rw [hm] at he
  have t0 := run_eql_iface_types (P := Tryz.prog) 35 36 (.pointer (some ⟨p, 0, none⟩)) (.int .i64 m) Tryz.underlying28 (by decide) w
  have z0 := xe_mComp
  have z1 := xe_mUnw
  have z2 := xe_typeOfE
  have z3 := xe_compE2
  have z4 := xe_noIsF
  have z5 := xe_noIsE
  have z6 := xe_hasUnwF
  have z7 := xe_noUnwE
  have z8 := xe_noUnwsE
  clear hm
  go_enter Tryz.func15, Tryz.ntmps15
  go_wp2
  refine wp_loop_rounds 2 ?_
  rw [rounds_succ]
  go_wp2
  rw [rounds_succ]
  go_wp2
  go_ret
  exact ⟨rfl, rfl⟩
set_option maxRecDepth 100000 in
set_option maxHeartbeats 1000000 in
theorem is_yes2 (p q : Nat) (n m : Int) (w : World) (c0 : w.cell? ⟨p, 1, none⟩ = some (.iface 35 (.pointer (some ⟨q, 0, none⟩)))) (c1 : w.cell? ⟨q, 1, none⟩ = some (.iface 36 (.int .i64 n))) (hm : (n == m) = true) :
    Calls Tryz.prog 15 #[.iface 35 (.pointer (some ⟨p, 0, none⟩)), .iface 36 (.int .i64 m)] w fun e w' => e = .returned (.bool true) ∧ w' = w := by
  have h10 := @run_callFunc_extern Tryz.prog 38 _ (ReflectliteType.typeOf) Tryz.func38 (by kernel_rfl) (by kernel_rfl) (by kernel_rfl) (by kernel_rfl)
  have h32 := @run_callFunc_extern Tryz.prog 174 _ (ReflectliteType.method fun t => do Rtype.noPackHeld "Comparable" t; pure (.bool (← typeInfo t).comparable)) Tryz.func174 (by kernel_rfl) (by kernel_rfl) (by kernel_rfl) (by kernel_rfl)
  have he := Lib.run_eql_iface_int (P := Tryz.prog) (k := .i64) w n m Tryz.underlying28 xe_comp Tryz.underlying36
  rw [hm] at he
  have t0 := run_eql_iface_types (P := Tryz.prog) 35 36 (.pointer (some ⟨p, 0, none⟩)) (.int .i64 m) Tryz.underlying28 (by decide) w
  have t1 := run_eql_iface_types (P := Tryz.prog) 35 36 (.pointer (some ⟨q, 0, none⟩)) (.int .i64 m) Tryz.underlying28 (by decide) w
  have z0 := xe_mComp
  have z1 := xe_mUnw
  have z2 := xe_typeOfE
  have z3 := xe_compE2
  have z4 := xe_noIsF
  have z5 := xe_noIsE
  have z6 := xe_hasUnwF
  have z7 := xe_noUnwE
  have z8 := xe_noUnwsE
  clear hm
  go_enter Tryz.func15, Tryz.ntmps15
  go_wp2
  refine wp_loop_rounds 3 ?_
  rw [rounds_succ]
  go_wp2
  rw [rounds_succ]
  go_wp2
  rw [rounds_succ]
  go_wp2
  go_ret
  exact ⟨rfl, rfl⟩
set_option maxRecDepth 100000 in
set_option maxHeartbeats 1000000 in
theorem is_no2 (p q : Nat) (n m : Int) (w : World) (c0 : w.cell? ⟨p, 1, none⟩ = some (.iface 35 (.pointer (some ⟨q, 0, none⟩)))) (c1 : w.cell? ⟨q, 1, none⟩ = some (.iface 36 (.int .i64 n))) (hm : (n == m) = false) :
    Calls Tryz.prog 15 #[.iface 35 (.pointer (some ⟨p, 0, none⟩)), .iface 36 (.int .i64 m)] w fun e w' => e = .returned (.bool false) ∧ w' = w := by
  have h10 := @run_callFunc_extern Tryz.prog 38 _ (ReflectliteType.typeOf) Tryz.func38 (by kernel_rfl) (by kernel_rfl) (by kernel_rfl) (by kernel_rfl)
  have h32 := @run_callFunc_extern Tryz.prog 174 _ (ReflectliteType.method fun t => do Rtype.noPackHeld "Comparable" t; pure (.bool (← typeInfo t).comparable)) Tryz.func174 (by kernel_rfl) (by kernel_rfl) (by kernel_rfl) (by kernel_rfl)
  have he := Lib.run_eql_iface_int (P := Tryz.prog) (k := .i64) w n m Tryz.underlying28 xe_comp Tryz.underlying36
  rw [hm] at he
  have t0 := run_eql_iface_types (P := Tryz.prog) 35 36 (.pointer (some ⟨p, 0, none⟩)) (.int .i64 m) Tryz.underlying28 (by decide) w
  have t1 := run_eql_iface_types (P := Tryz.prog) 35 36 (.pointer (some ⟨q, 0, none⟩)) (.int .i64 m) Tryz.underlying28 (by decide) w
  have z0 := xe_mComp
  have z1 := xe_mUnw
  have z2 := xe_typeOfE
  have z3 := xe_compE2
  have z4 := xe_noIsF
  have z5 := xe_noIsE
  have z6 := xe_hasUnwF
  have z7 := xe_noUnwE
  have z8 := xe_noUnwsE
  clear hm
  go_enter Tryz.func15, Tryz.ntmps15
  go_wp2
  refine wp_loop_rounds 3 ?_
  rw [rounds_succ]
  go_wp2
  rw [rounds_succ]
  go_wp2
  rw [rounds_succ]
  go_wp2
  go_ret
  exact ⟨rfl, rfl⟩
theorem unwrap_e (p : Nat) (v : Value) (w : World) (c0 : w.cell? ⟨p, 1, none⟩ = some v) : Calls Tryz.prog 16 #[.iface 35 (.pointer (some ⟨p, 0, none⟩))] w fun e w' => e = .returned v ∧ w' = w := by
  have z0 := xe_mUnw
  have z1 := xe_hasUnwF
  go_enter Tryz.func16, Tryz.ntmps16
  go_wp2
  go_ret
  exact ⟨rfl, rfl⟩
theorem funwrap_e (p : Nat) (v : Value) (w : World) (c0 : w.cell? ⟨p, 1, none⟩ = some v) : Calls Tryz.prog 21 #[.pointer (some ⟨p, 0, none⟩)] w fun e w' => e = .returned v ∧ w' = w := by
  go_enter Tryz.func21, Tryz.ntmps21
  go_wp2
  go_ret
  exact ⟨rfl, rfl⟩
end Go.Proofs.YtpnlgojbmjfhhaaGreatDoor
