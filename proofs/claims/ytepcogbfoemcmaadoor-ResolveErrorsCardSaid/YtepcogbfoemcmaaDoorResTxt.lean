/-
  The walks of strconv.Itoa at four numbers, of (api.Errno).Error, resolve.text and (*resolve.Why).Error: their texts. Conditions: the cells that each states.
-/
import Derived.Test.YtepcogbfoemcmaaDoorResFit
import Derived.Recover
import Derived.Defers
namespace Go.Proofs.YtepcogbfoemcmaaDoor
open Go.RowKit

/-- the numbers of errors that an outcome has -/
def OnN (n : Int) : Prop := n = 9 ∨ n = 10 ∨ n = 11 ∨ n = 12
def dgT (n : Int) : ByteArray := if n = 9 then ⟨#[57]⟩ else if n = 10 then ⟨#[49, 48]⟩ else if n = 11 then ⟨#[49, 49]⟩ else ⟨#[49, 50]⟩
set_option maxRecDepth 100000 in
theorem small_e (n : Int) (h : OnN n) (w : World) : Calls Tryd.prog 40 #[.int .i64 n] w fun e w' => e = .returned (.string (dgT n)) ∧ w = w' := by
  rcases h with rfl | rfl | rfl | rfl
  all_goals
    go_enter Tryd.func40, Tryd.ntmps40
    go_wp2
    go_ret
    exact ⟨rfl, rfl⟩
-- from here
theorem formatInt_e (n : Int) (h : OnN n) (w : World) : Calls Tryd.prog 36 #[.int .i64 n, .int .i64 10] w fun e w' => e = .returned (.string (dgT n)) ∧ w = w' := by
  have hS := small_e n h w
  generalize dgT n = D at hS ⊢
  rcases h with rfl | rfl | rfl | rfl
  all_goals
    go_enter Tryd.func36, Tryd.ntmps36
    go_wp2_with fail
    refine hS.mono ?_
    rintro e w' ⟨rfl, rfl⟩
    clear hS
    go_wp2_with fail
    go_ret
    exact ⟨rfl, rfl⟩
theorem itoaI_e (n : Int) (h : OnN n) (w : World) : Calls Tryd.prog 31 #[.int .i64 n] w fun e w' => e = .returned (.string (dgT n)) ∧ w = w' := by
  have hS := formatInt_e n h w
  generalize dgT n = D at hS ⊢
  clear h
  go_enter Tryd.func31, Tryd.ntmps31
  go_wp2_with fail
  refine hS.mono ?_
  rintro e w' ⟨rfl, rfl⟩
  clear hS
  go_wp2_with fail
  go_ret
  exact ⟨rfl, rfl⟩
theorem itoa_e (n : Int) (h : OnN n) (w : World) : Calls Tryd.prog 22 #[.int .i64 n] w fun e w' => e = .returned (.string (dgT n)) ∧ w = w' := by
  have hS := itoaI_e n h w
  generalize dgT n = D at hS ⊢
  clear h
  go_enter Tryd.func22, Tryd.ntmps22
  go_wp2_with fail
  refine hS.mono ?_
  rintro e w' ⟨rfl, rfl⟩
  clear hS
  go_wp2_with fail
  go_ret
  exact ⟨rfl, rfl⟩
def preT : ByteArray := ⟨#[110, 111, 109, 101, 110, 99, 108, 97, 116, 111, 114, 58, 32, 101, 114, 114, 111, 114, 32]⟩
/-- an error's text -/
def errT (n : Int) : ByteArray := preT ++ dgT n
theorem dgT_size (n : Int) : (dgT n).size ≤ 2 := by unfold dgT; split <;> (try split) <;> (try split) <;> decide
theorem errT_size (n : Int) : (errT n).size ≤ 21 := by
  have := dgT_size n
  unfold errT
  rw [ByteArray.size_append]
  have : preT.size = 19 := rfl
  omega
set_option maxRecDepth 100000 in
theorem errno_e (n : Int) (h : OnN n) (w : World) : Calls Tryd.prog 10 #[.int .i64 n] w fun e w' => e = .returned (.string (errT n)) ∧ w = w' := by
  have hS := itoa_e n h w
  have hz := dgT_size n
  have hA1 := fun W => run_string_add_sum (P := Tryd.prog) (w := W) preT (dgT n) (by rw [show preT.size = 19 from rfl]; omega)
  unfold errT
  generalize dgT n = D at hS hA1 ⊢
  clear h hz
  have HA1 := Lib.hid hA1
  unfold preT at hA1
  go_enter Tryd.func10, Tryd.ntmps10
  go_wp2_with fail
  refine hS.mono ?_
  rintro e w' ⟨rfl, rfl⟩
  clear hS
  go_wp2_with fail
  go_ret
  exact ⟨rfl, rfl⟩
theorem xt_mErrE (v : Value) (w : World) : (Go.method 261 30 v "Error").run Tryd.prog w = .ok (10, v) w := by kernel_rfl
theorem tcatch_e (p : Addr) (w : World) :
    CallsD Tryd.prog 70 #[.pointer (some p)] .returning w fun e u' w' => e = .returned (.tuple #[]) ∧ u' = .returning ∧ w' = w := by
  refine callsD_of_wpS Tryd.func70 rfl fun c₀ cs hu => ?_
  apply wpS_seq
  apply wpS_region
  simp [wpOpsS, go_sem, recoverD, hu, Tryd.ntmps70, Exit.thenS]
  refine wpS_cond (t := false) (by simp [Act.eval, Array.replicate]) ?_
  simp only [Bool.false_eq_true, if_false]
  refine wpS_of_wp (wp_skip ?_)
  cases c₀
  simp_all [bodyPostS, results, Tryd.results70]
set_option maxRecDepth 100000 in
theorem textE (v : Value) (s : ByteArray) (w : World) (hc : ∀ W, Calls Tryd.prog 10 #[v] W fun e w' => e = .returned (.string s) ∧ W = w') :
    Calls Tryd.prog 69 #[.iface 30 v] w fun e w' => e = .returned (.string s) ∧ Below w.heap.size w w' := by
  have hmf : ∀ (fn : Fn) (first cap : Array Value) (w : World), (Instr.makeFunc fn first cap).run Tryd.prog w = .ok (.func fn first cap) w := fun _ _ _ _ => rfl
  have hmm := xt_mErrE
  have hcall := hc (w.alloc (.cells #[.string ⟨#[]⟩] 9))
  have HB0 : Hid (Below w.heap.size w (w.alloc (.cells #[.string ⟨#[]⟩] 9))) := Lib.hid ((Below.refl _ w).alloc (Nat.le_refl _) _)
  clear hc
  go_enter_defers Tryd.func69, Tryd.ntmps69
  go_wp2_with (go_at_call 10; refine hcall.mono ?_; rintro e w3 ⟨rfl, rfl⟩)
  refine leaves_cons (f := 70) (args := #[.pointer (some ⟨w.heap.size, 0, none⟩)]) (by simp) (by simp [go_sem]) ?_
  refine (tcatch_e ⟨w.heap.size, 0, none⟩ _).mono ?_
  rintro e u' w'' ⟨rfl, rfl, rfl⟩
  have HB9 : Below w.heap.size w (w.alloc (.cells #[.string s] 9)) := (Below.refl _ w).alloc (Nat.le_refl _) _
  simp [Leaves, settle, results, Tryd.results69, go_sem]
  exact HB9
set_option maxRecDepth 100000 in
theorem whyE (p : Nat) (v : Value) (s t : ByteArray) (w : World) (h0 : w.cell? ⟨p, 0, none⟩ = some (.string s)) (h1 : w.cell? ⟨p, 1, none⟩ = some (.iface 30 v)) (hs : s.size ≤ 300) (ht : t.size ≤ 30)
    (hc : ∀ W, Calls Tryd.prog 69 #[.iface 30 v] W fun e w' => e = .returned (.string t) ∧ Below W.heap.size W w') :
    Calls Tryd.prog 68 #[.pointer (some ⟨p, 0, none⟩)] w fun e w' => e = .returned (.string (s ++ ⟨#[58, 32]⟩ ++ t)) ∧ Below w.heap.size w w' := by
  have hz2 : (ByteArray.mk #[58, 32]).size = 2 := rfl
  have HA1 := Lib.hid (fun W => run_string_add_sum (P := Tryd.prog) (w := W) s ⟨#[58, 32]⟩ (by rw [hz2]; omega))
  have HA2 := Lib.hid (fun W => run_string_add_sum (P := Tryd.prog) (w := W) (s ++ ⟨#[58, 32]⟩) t (by rw [ByteArray.size_append, hz2]; omega))
  have D0 := Lib.hid h0
  have D1 := Lib.hid h1
  have HPL : Hid (p < w.heap.size) := Lib.hid (World.block_lt_of_cell? w _ h0)
  have HTx := Lib.hid hc
  clear h0 h1 hs ht hc hz2
  go_enter Tryd.func68, Tryd.ntmps68
  go_upto_region 1 with fail
  refine wp_region_held_drew (S := (fun W : World => Below w.heap.size w W)) (by kernel_rfl) (Below.refl _ w).drew (fun hHeld => ?_)
  refine wpAnyH_take (i := 0) (oi := ({ dst := some 3, op := Go.Op.move (Go.Operand.tmp 0), type := 33, pos := "resolve.go:140", after := #[], guard := none } : Oper)) (v := .pointer (some ⟨p, 0, none⟩)) rfl (by kernel_rfl) (by kernel_rfl) (by kernel_rfl) (fun _ _ _ h => h) (Or.inl ⟨by rfl, fun w' _ => ?_⟩) hHeld ?_
  · go_simp
  simp only [Act.put, List.setIfInBounds_toArray, List.set_cons_zero, List.set_cons_succ]
  refine wpAnyH_take (i := 1) (oi := ({ dst := some 4, op := Go.Op.nilCheck (Go.Operand.tmp 3), type := 0, pos := "resolve.go:140", after := #[{ on := 0, ground := Go.Ground.data }], guard := none } : Oper)) (v := .pointer (some ⟨p, 0, none⟩)) rfl (by kernel_rfl) (by kernel_rfl) (by kernel_rfl) (fun _ _ _ h => h) (Or.inl ⟨by rfl, fun w' _ => ?_⟩) hHeld ?_
  · go_simp
  simp only [Act.put, List.setIfInBounds_toArray, List.set_cons_zero, List.set_cons_succ]
  refine wpAnyH_take (i := 2) (oi := ({ dst := some 5, op := Go.Op.fieldAddr 38 (Go.Operand.tmp 4) 0, type := 0, pos := "resolve.go:140", after := #[{ on := 1, ground := Go.Ground.data }], guard := none } : Oper)) (v := .pointer (some ⟨p, 0, none⟩)) rfl (by kernel_rfl) (by kernel_rfl) (by kernel_rfl) (fun _ _ _ h => h) (Or.inl ⟨by rfl, fun w' _ => ?_⟩) hHeld ?_
  · go_simp
  simp only [Act.put, List.setIfInBounds_toArray, List.set_cons_zero, List.set_cons_succ]
  refine wpAnyH_take (i := 3) (oi := ({ dst := some 6, op := Go.Op.load 9 (Go.Operand.tmp 5), type := 9, pos := "resolve.go:140", after := #[{ on := 2, ground := Go.Ground.data }], guard := none } : Oper)) (v := .string s) rfl (by kernel_rfl) (by kernel_rfl) (by kernel_rfl) (fun _ _ _ h => h) (Or.inl ⟨by rfl, fun w' hS' => ?_⟩) hHeld ?_
  · have hcell := (hS'.cell (p := ⟨p, 0, none⟩) HPL.out).trans D0.out
    go_simp
  simp only [Act.put, List.setIfInBounds_toArray, List.set_cons_zero, List.set_cons_succ]
  refine wpAnyH_take (i := 4) (oi := ({ dst := some 7, op := Go.Op.binOp Go.BinOp.add 9 (Go.Operand.tmp 6) (Go.Operand.const (Go.Value.string { data := #[58, 32] })) 9, type := 9, pos := "resolve.go:140", after := #[{ on := 3, ground := Go.Ground.data }], guard := none } : Oper)) (v := .string (s ++ ⟨#[58, 32]⟩)) rfl (by kernel_rfl) (by kernel_rfl) (by kernel_rfl) (fun _ _ _ h => h) (Or.inl ⟨by rfl, fun w' _ => ?_⟩) hHeld ?_
  · (have h := HA1.out w'; go_simp)
  simp only [Act.put, List.setIfInBounds_toArray, List.set_cons_zero, List.set_cons_succ]
  refine wpAnyH_take (i := 5) (oi := ({ dst := some 8, op := Go.Op.move (Go.Operand.tmp 0), type := 33, pos := "resolve.go:140", after := #[], guard := none } : Oper)) (v := .pointer (some ⟨p, 0, none⟩)) rfl (by kernel_rfl) (by kernel_rfl) (by kernel_rfl) (fun _ _ _ h => h) (Or.inl ⟨by rfl, fun w' _ => ?_⟩) hHeld ?_
  · go_simp
  simp only [Act.put, List.setIfInBounds_toArray, List.set_cons_zero, List.set_cons_succ]
  refine wpAnyH_take (i := 6) (oi := ({ dst := some 9, op := Go.Op.nilCheck (Go.Operand.tmp 8), type := 0, pos := "resolve.go:140", after := #[{ on := 5, ground := Go.Ground.data }], guard := none } : Oper)) (v := .pointer (some ⟨p, 0, none⟩)) rfl (by kernel_rfl) (by kernel_rfl) (by kernel_rfl) (fun _ _ _ h => h) (Or.inl ⟨by rfl, fun w' _ => ?_⟩) hHeld ?_
  · go_simp
  simp only [Act.put, List.setIfInBounds_toArray, List.set_cons_zero, List.set_cons_succ]
  refine wpAnyH_take (i := 7) (oi := ({ dst := some 10, op := Go.Op.fieldAddr 38 (Go.Operand.tmp 9) 1, type := 0, pos := "resolve.go:140", after := #[{ on := 6, ground := Go.Ground.data }], guard := none } : Oper)) (v := .pointer (some ⟨p, 1, none⟩)) rfl (by kernel_rfl) (by kernel_rfl) (by kernel_rfl) (fun _ _ _ h => h) (Or.inl ⟨by rfl, fun w' _ => ?_⟩) hHeld ?_
  · go_simp
  simp only [Act.put, List.setIfInBounds_toArray, List.set_cons_zero, List.set_cons_succ]
  refine wpAnyH_take (i := 8) (oi := ({ dst := some 11, op := Go.Op.load 25 (Go.Operand.tmp 10), type := 25, pos := "resolve.go:140", after := #[{ on := 7, ground := Go.Ground.data }], guard := none } : Oper)) (v := .iface 30 v) rfl (by kernel_rfl) (by kernel_rfl) (by kernel_rfl) (fun _ _ _ h => h) (Or.inl ⟨by rfl, fun w' hS' => ?_⟩) hHeld ?_
  · have hcell := (hS'.cell (p := ⟨p, 1, none⟩) HPL.out).trans D1.out
    go_simp
  simp only [Act.put, List.setIfInBounds_toArray, List.set_cons_zero, List.set_cons_succ]
  refine wpAnyH_ready (rs := [9]) (by kernel_rfl) (by simp) ?_
  refine AllReadyH.cons (o := ({ dst := some 12, op := Go.Op.call { callee := Go.Callee.value (Go.Operand.func 69), args := #[Go.Operand.tmp 11], argTypes := #[25] }, type := 9, pos := "resolve.go:140", after := #[{ on := 8, ground := Go.Ground.data }], guard := none } : Oper)) rfl (fun K hK => ?_) AllReadyH.nil
  go_simp
  go_at_call 69
  refine (HTx.out _).mono ?_
  rintro e' wc ⟨rfl, hbc⟩
  refine hK.out _ _ (Below.trans hHeld (Below.mono hbc (Below.size hHeld))) (fun hHeld' => ?_)
  clear hK K hbc
  try clear hHeld
  try simp only [Act.put, List.setIfInBounds_toArray, List.set_cons_zero, List.set_cons_succ]
  refine wpAnyH_take (i := 10) (oi := ({ dst := some 13, op := Go.Op.binOp Go.BinOp.add 9 (Go.Operand.tmp 7) (Go.Operand.tmp 12) 9, type := 9, pos := "resolve.go:140", after := #[{ on := 4, ground := Go.Ground.data }, { on := 9, ground := Go.Ground.data }], guard := none } : Oper)) (v := .string (s ++ ⟨#[58, 32]⟩ ++ t)) rfl (by kernel_rfl) (by kernel_rfl) (by kernel_rfl) (fun _ _ _ h => h) (Or.inl ⟨by rfl, fun w' _ => ?_⟩) hHeld' ?_
  · (have h := HA2.out w'; go_simp)
  simp only [Act.put, List.setIfInBounds_toArray, List.set_cons_zero, List.set_cons_succ]
  refine wpAnyH_take (i := 11) (oi := ({ dst := some 2, op := Go.Op.assign (Go.Operand.tmp 13), type := 9, pos := "resolve.go:140", after := #[{ on := 10, ground := Go.Ground.data }, { on := 9, ground := Go.Ground.chain }, { on := 0, ground := Go.Ground.phase }, { on := 1, ground := Go.Ground.phase }, { on := 2, ground := Go.Ground.phase }, { on := 3, ground := Go.Ground.phase }, { on := 4, ground := Go.Ground.phase }, { on := 5, ground := Go.Ground.phase }, { on := 6, ground := Go.Ground.phase }, { on := 7, ground := Go.Ground.phase }, { on := 8, ground := Go.Ground.phase }, { on := 9, ground := Go.Ground.phase }, { on := 10, ground := Go.Ground.phase }], guard := none } : Oper)) (v := .string (s ++ ⟨#[58, 32]⟩ ++ t)) rfl (by kernel_rfl) (by kernel_rfl) (by kernel_rfl) (fun _ _ _ h => h) (Or.inl ⟨by rfl, fun w' _ => ?_⟩) hHeld' ?_
  · go_simp
  simp only [Act.put, List.setIfInBounds_toArray, List.set_cons_zero, List.set_cons_succ]
  refine wpAnyH_done (by kernel_rfl) ?_ _
  have HB := Lib.hid hHeld'
  go_wp2_with fail
  go_ret
  exact ⟨rfl, HB.out⟩
end Go.Proofs.YtepcogbfoemcmaaDoor
