/-
  The walks of (api.Errno).Error, conf.textOf (a deferred closure that recovers) and (*conf.Fault).Error: their texts. Conditions: the cells that each states; the library's variables hold what their initialisers lay.
  The walk of the laws' digits: a number's digits. Condition: the number is from 0 to 100000.
  The walks of the laws' same (where the two are the same) and right (where what is told may be). Conditions: the configurations lie in memory; the library's variables hold what their initialisers lay.
-/
import Derived.Test.YtpnlgojbmjfhhaaGreatDoorConfFit
import Derived.Recover
import Derived.Defers
import Derived.Deep.RegionHeld3
import Derived.Deep.MidRow
namespace Go.Proofs.YtpnlgojbmjfhhaaGreatDoor
open Go.RowKit

theorem dec_len : ∀ n : Nat, (Go.Lib.decDigits n).length ≤ n + 1 := by
  intro n
  induction n using Nat.strongRecOn with
  | _ n ih =>
    by_cases h : n < 10
    · rw [Go.Lib.decDigits, dif_pos h]; simp
    · have := ih (n / 10) (by omega)
      rw [Go.Lib.decDigits, dif_neg h, List.length_append, List.length_singleton]
      omega
def errT (k : Nat) : List UInt8 := [110, 111, 109, 101, 110, 99, 108, 97, 116, 111, 114, 58, 32, 101, 114, 114, 111, 114, 32] ++ Go.Lib.decDigits k
def faultT (f : Nat) (t : List UInt8) : List UInt8 := [108, 105, 110, 101, 32] ++ Go.Lib.decDigits f ++ [58, 32] ++ t
theorem itoaN_e (n : Nat) (hn : n ≤ 4611686018427387904) (w : World) (he : AEnv w) : Calls Tryz.prog 31 #[.int .i64 n] w fun e w' => e = .returned (.string (tb (Go.Lib.decDigits n))) ∧ Below w.heap.size w w' := by
  refine (Tryz.strconv_Itoa (n : Int) (by omega) (by omega) w he.tab).mono ?_
  rintro e w' ⟨rfl, k, os, rfl⟩
  refine ⟨?_, Lib.below_grow _ w (Nat.le_refl _) k os⟩
  rw [Lib.itoa_nonneg]; rfl
set_option maxRecDepth 100000 in
theorem errno_e (k : Nat) (hk : k ≤ 1000000000) (w : World) (he : AEnv w) : Calls Tryz.prog 19 #[.int .i64 k] w fun e w' => e = .returned (.string (tb (errT k))) ∧ Below w.heap.size w w' := by
  have hi := itoaN_e k (by omega) w he
  have hl := dec_len k
  have hT : tb (errT k) = (ByteArray.mk #[110, 111, 109, 101, 110, 99, 108, 97, 116, 111, 114, 58, 32, 101, 114, 114, 111, 114, 32]) ++ tb (Go.Lib.decDigits k) := bytes_inj rfl
  have hD : (tb (Go.Lib.decDigits k)).size = (Go.Lib.decDigits k).length := by rw [Lib.size_eq, tb_data]
  rw [hT]
  generalize tb (Go.Lib.decDigits k) = D at hi hD
  have hA1 := fun W => run_string_add_sum (P := Tryz.prog) (w := W) ⟨#[110, 111, 109, 101, 110, 99, 108, 97, 116, 111, 114, 58, 32, 101, 114, 114, 111, 114, 32]⟩ D (by rw [show (ByteArray.mk #[110, 111, 109, 101, 110, 99, 108, 97, 116, 111, 114, 58, 32, 101, 114, 114, 111, 114, 32]).size = 19 from rfl]; omega)
  clear hT hD hl he
  go_enter Tryz.func19, Tryz.ntmps19
  go_wp2_with (go_at_call 31; refine hi.mono ?_; rintro e w' ⟨rfl, hb⟩; have HB := Lib.hid hb; clear hb)
  go_ret
  exact ⟨rfl, HB.out⟩
theorem xt_mErrE (v : Value) (w : World) : (Go.method 336 36 v "Error").run Tryz.prog w = .ok (19, v) w := by kernel_rfl
theorem xt_mErrF (v : Value) (w : World) : (Go.method 336 35 v "Error").run Tryz.prog w = .ok (17, v) w := by kernel_rfl
theorem tcatch_e (p : Addr) (w : World) :
    CallsD Tryz.prog 61 #[.pointer (some p)] .returning w fun e u' w' => e = .returned (.tuple #[]) ∧ u' = .returning ∧ w' = w := by
  refine callsD_of_wpS Tryz.func61 rfl fun c₀ cs hu => ?_
  apply wpS_seq
  apply wpS_region
  simp [wpOpsS, go_sem, recoverD, hu, Tryz.ntmps61, Exit.thenS]
  refine wpS_cond (t := false) (by simp [Act.eval, Array.replicate]) ?_
  simp only [Bool.false_eq_true, if_false]
  refine wpS_of_wp (wp_skip ?_)
  cases c₀
  simp_all [bodyPostS, results, Tryz.results61]
set_option maxRecDepth 100000 in
theorem textE (v : Value) (s : ByteArray) (w : World) (hc : ∀ W, Below w.heap.size w W → Calls Tryz.prog 19 #[v] W fun e w' => e = .returned (.string s) ∧ Below W.heap.size W w') :
    Calls Tryz.prog 40 #[.iface 36 v] w fun e w' => e = .returned (.string s) ∧ Below w.heap.size w w' := by
  have hmf : ∀ (fn : Fn) (first cap : Array Value) (w : World), (Instr.makeFunc fn first cap).run Tryz.prog w = .ok (.func fn first cap) w := fun _ _ _ _ => rfl
  have hmm := xt_mErrE
  have hb0 : Below w.heap.size w (w.alloc (.cells #[.string ⟨#[]⟩] 9)) := (Below.refl _ w).alloc (Nat.le_refl _) _
  have hcall := hc _ hb0
  have HB0 := Lib.hid hb0
  clear hc hb0
  go_enter_defers Tryz.func40, Tryz.ntmps40
  go_wp2_with (go_at_call 19; refine hcall.mono ?_; rintro e w3 ⟨rfl, hb3⟩; have c2 : w3.cell? ⟨w.heap.size, 0, none⟩ = some (.string ⟨#[]⟩) := (by rw [hb3.cell (p := ⟨w.heap.size, 0, none⟩) (by rw [World.size_alloc]; show w.heap.size < _; omega), World.cell?_alloc_mark]; rfl); have f2 : w3.frozen? ⟨w.heap.size, 0, none⟩ = false := (by rw [hb3.frozen (p := ⟨w.heap.size, 0, none⟩) (by rw [World.size_alloc]; show w.heap.size < _; omega), World.frozen?_alloc_mark]; rfl); have HB3 := Lib.hid (HB0.out.trans (hb3.mono HB0.out.size)); clear hb3)
  refine leaves_cons (f := 61) (args := #[.pointer (some ⟨w.heap.size, 0, none⟩)]) (by simp) (by simp [go_sem]) ?_
  refine (tcatch_e ⟨w.heap.size, 0, none⟩ _).mono ?_
  rintro e u' w'' ⟨rfl, rfl, rfl⟩
  have hc9 : (w3.setCell ⟨w.heap.size, 0, none⟩ (.string s)).cell? ⟨w.heap.size, 0, none⟩ = some (.string s) := World.cell?_setCell_same w3 _ _ c2
  have HB9 : Below w.heap.size w (w3.setCell ⟨w.heap.size, 0, none⟩ (.string s)) := HB3.out.setCell (p := ⟨w.heap.size, 0, none⟩) (Nat.le_refl _) _
  simp [Leaves, settle, results, Tryz.results40, go_sem, hc9]
  exact HB9
set_option maxRecDepth 100000 in
theorem textF (v : Value) (s : ByteArray) (w : World) (hc : ∀ W, Below w.heap.size w W → Calls Tryz.prog 17 #[v] W fun e w' => e = .returned (.string s) ∧ Below W.heap.size W w') :
    Calls Tryz.prog 40 #[.iface 35 v] w fun e w' => e = .returned (.string s) ∧ Below w.heap.size w w' := by
  have hmf : ∀ (fn : Fn) (first cap : Array Value) (w : World), (Instr.makeFunc fn first cap).run Tryz.prog w = .ok (.func fn first cap) w := fun _ _ _ _ => rfl
  have hmm := xt_mErrF
  have hb0 : Below w.heap.size w (w.alloc (.cells #[.string ⟨#[]⟩] 9)) := (Below.refl _ w).alloc (Nat.le_refl _) _
  have hcall := hc _ hb0
  have HB0 := Lib.hid hb0
  clear hc hb0
  go_enter_defers Tryz.func40, Tryz.ntmps40
  go_wp2_with (go_at_call 17; refine hcall.mono ?_; rintro e w3 ⟨rfl, hb3⟩; have c2 : w3.cell? ⟨w.heap.size, 0, none⟩ = some (.string ⟨#[]⟩) := (by rw [hb3.cell (p := ⟨w.heap.size, 0, none⟩) (by rw [World.size_alloc]; show w.heap.size < _; omega), World.cell?_alloc_mark]; rfl); have f2 : w3.frozen? ⟨w.heap.size, 0, none⟩ = false := (by rw [hb3.frozen (p := ⟨w.heap.size, 0, none⟩) (by rw [World.size_alloc]; show w.heap.size < _; omega), World.frozen?_alloc_mark]; rfl); have HB3 := Lib.hid (HB0.out.trans (hb3.mono HB0.out.size)); clear hb3)
  refine leaves_cons (f := 61) (args := #[.pointer (some ⟨w.heap.size, 0, none⟩)]) (by simp) (by simp [go_sem]) ?_
  refine (tcatch_e ⟨w.heap.size, 0, none⟩ _).mono ?_
  rintro e u' w'' ⟨rfl, rfl, rfl⟩
  have hc9 : (w3.setCell ⟨w.heap.size, 0, none⟩ (.string s)).cell? ⟨w.heap.size, 0, none⟩ = some (.string s) := World.cell?_setCell_same w3 _ _ c2
  have HB9 : Below w.heap.size w (w3.setCell ⟨w.heap.size, 0, none⟩ (.string s)) := HB3.out.setCell (p := ⟨w.heap.size, 0, none⟩) (Nat.le_refl _) _
  simp [Leaves, settle, results, Tryz.results40, go_sem, hc9]
  exact HB9
set_option maxRecDepth 100000 in
set_option maxHeartbeats 2000000 in
theorem faultE_any (p f : Nat) (v : Value) (t : ByteArray) (w : World) (he : AEnv w) (hf : f ≤ 1000000000) (h0 : w.cell? ⟨p, 0, none⟩ = some (.int .i64 f)) (h1 : w.cell? ⟨p, 1, none⟩ = some (.iface 36 v)) (ht : t.size ≤ 4000000000)
    (hc : ∀ W, Below w.heap.size w W → Calls Tryz.prog 40 #[.iface 36 v] W fun e w' => e = .returned (.string t) ∧ Below W.heap.size W w') :
    Calls Tryz.prog 17 #[.pointer (some ⟨p, 0, none⟩)] w fun e w' => e = .returned (.string (tb (faultT f t.data.toList))) ∧ Below w.heap.size w w' := by
  have hpl := cell_lt h0
  simp only at hpl
  have hl := dec_len f
  have hT : tb (faultT f t.data.toList) = (ByteArray.mk #[108, 105, 110, 101, 32]) ++ tb (Go.Lib.decDigits f) ++ (ByteArray.mk #[58, 32]) ++ t := bytes_inj (by simp [faultT, tb_data])
  have hD : (tb (Go.Lib.decDigits f)).size = (Go.Lib.decDigits f).length := by rw [Lib.size_eq, tb_data]
  have hi := fun W (hW : AEnv W) => itoaN_e f (by omega) W hW
  rw [hT]
  generalize tb (Go.Lib.decDigits f) = D at hi hD
  have hz1 : (ByteArray.mk #[108, 105, 110, 101, 32]).size = 5 := rfl
  have hz2 : (ByteArray.mk #[58, 32]).size = 2 := rfl
  have hA1 := fun W => run_string_add_sum (P := Tryz.prog) (w := W) ⟨#[108, 105, 110, 101, 32]⟩ D (by rw [hz1]; omega)
  have hA2 := fun W => run_string_add_sum (P := Tryz.prog) (w := W) (⟨#[108, 105, 110, 101, 32]⟩ ++ D) ⟨#[58, 32]⟩ (by rw [ByteArray.size_append, hz1, hz2]; omega)
  have hA3 := fun W => run_string_add_sum (P := Tryz.prog) (w := W) (⟨#[108, 105, 110, 101, 32]⟩ ++ D ++ ⟨#[58, 32]⟩) t (by rw [ByteArray.size_append, ByteArray.size_append, hz1, hz2]; omega)
  have HI := Lib.hid hi
  have HC := Lib.hid hc
  have HE := Lib.hid he
  have H0 := Lib.hid h0
  have H1 := Lib.hid h1
  clear hi hc he h0 h1 hT hD hl hz1 hz2
  go_enter Tryz.func17, Tryz.ntmps17
  go_wp2_with fail
  refine wp_region_held_drew (S := (fun W : World => Below w.heap.size w W)) (by kernel_rfl) (Below.refl _ w).drew (fun hHeld => ?_)
  refine wpAnyH_take (i := 0) (oi := ({ dst := some 3, op := Go.Op.move (Go.Operand.tmp 0), type := 35, pos := "conf.go:21", after := #[], guard := none } : Oper)) (v := .pointer (some ⟨p, 0, none⟩)) rfl (by kernel_rfl) (by kernel_rfl) (by kernel_rfl) (fun _ _ _ h => h) (Or.inl ⟨by rfl, fun w' _ => ?_⟩) hHeld ?_
  · go_simp
  try simp only [Act.put, List.setIfInBounds_toArray, List.set_cons_zero, List.set_cons_succ]
  refine wpAnyH_take (i := 1) (oi := ({ dst := some 4, op := Go.Op.nilCheck (Go.Operand.tmp 3), type := 0, pos := "conf.go:21", after := #[{ on := 0, ground := Go.Ground.data }], guard := none } : Oper)) (v := .pointer (some ⟨p, 0, none⟩)) rfl (by kernel_rfl) (by kernel_rfl) (by kernel_rfl) (fun _ _ _ h => h) (Or.inl ⟨by rfl, fun w' _ => ?_⟩) hHeld ?_
  · go_simp
  try simp only [Act.put, List.setIfInBounds_toArray, List.set_cons_zero, List.set_cons_succ]
  refine wpAnyH_take (i := 2) (oi := ({ dst := some 5, op := Go.Op.fieldAddr 43 (Go.Operand.tmp 4) 0, type := 0, pos := "conf.go:21", after := #[{ on := 1, ground := Go.Ground.data }], guard := none } : Oper)) (v := .pointer (some ⟨p, 0, none⟩)) rfl (by kernel_rfl) (by kernel_rfl) (by kernel_rfl) (fun _ _ _ h => h) (Or.inl ⟨by rfl, fun w' _ => ?_⟩) hHeld ?_
  · go_simp
  try simp only [Act.put, List.setIfInBounds_toArray, List.set_cons_zero, List.set_cons_succ]
  refine wpAnyH_take (i := 3) (oi := ({ dst := some 6, op := Go.Op.load 3 (Go.Operand.tmp 5), type := 3, pos := "conf.go:21", after := #[{ on := 2, ground := Go.Ground.data }], guard := none } : Oper)) (v := .int .i64 f) rfl (by kernel_rfl) (by kernel_rfl) (by kernel_rfl) (fun _ _ _ h => h) (Or.inl ⟨by rfl, fun w' hS' => ?_⟩) hHeld ?_
  · have hcell := (hS'.cell (p := ⟨p, 0, none⟩) hpl).trans H0.out
    go_simp
  try simp only [Act.put, List.setIfInBounds_toArray, List.set_cons_zero, List.set_cons_succ]
  refine wpAnyH_take (i := 7) (oi := ({ dst := some 10, op := Go.Op.move (Go.Operand.tmp 0), type := 35, pos := "conf.go:21", after := #[], guard := none } : Oper)) (v := .pointer (some ⟨p, 0, none⟩)) rfl (by kernel_rfl) (by kernel_rfl) (by kernel_rfl) (fun _ _ _ h => h) (Or.inl ⟨by rfl, fun w' _ => ?_⟩) hHeld ?_
  · go_simp
  try simp only [Act.put, List.setIfInBounds_toArray, List.set_cons_zero, List.set_cons_succ]
  refine wpAnyH_take (i := 8) (oi := ({ dst := some 11, op := Go.Op.nilCheck (Go.Operand.tmp 10), type := 0, pos := "conf.go:21", after := #[{ on := 7, ground := Go.Ground.data }], guard := none } : Oper)) (v := .pointer (some ⟨p, 0, none⟩)) rfl (by kernel_rfl) (by kernel_rfl) (by kernel_rfl) (fun _ _ _ h => h) (Or.inl ⟨by rfl, fun w' _ => ?_⟩) hHeld ?_
  · go_simp
  try simp only [Act.put, List.setIfInBounds_toArray, List.set_cons_zero, List.set_cons_succ]
  refine wpAnyH_take (i := 9) (oi := ({ dst := some 12, op := Go.Op.fieldAddr 43 (Go.Operand.tmp 11) 1, type := 0, pos := "conf.go:21", after := #[{ on := 8, ground := Go.Ground.data }], guard := none } : Oper)) (v := .pointer (some ⟨p, 1, none⟩)) rfl (by kernel_rfl) (by kernel_rfl) (by kernel_rfl) (fun _ _ _ h => h) (Or.inl ⟨by rfl, fun w' _ => ?_⟩) hHeld ?_
  · go_simp
  try simp only [Act.put, List.setIfInBounds_toArray, List.set_cons_zero, List.set_cons_succ]
  refine wpAnyH_take (i := 10) (oi := ({ dst := some 13, op := Go.Op.load 28 (Go.Operand.tmp 12), type := 28, pos := "conf.go:21", after := #[{ on := 9, ground := Go.Ground.data }], guard := none } : Oper)) (v := .iface 36 v) rfl (by kernel_rfl) (by kernel_rfl) (by kernel_rfl) (fun _ _ _ h => h) (Or.inl ⟨by rfl, fun w' hS' => ?_⟩) hHeld ?_
  · have hcell := (hS'.cell (p := ⟨p, 1, none⟩) hpl).trans H1.out
    go_simp
  try simp only [Act.put, List.setIfInBounds_toArray, List.set_cons_zero, List.set_cons_succ]
  refine wpAnyH_ready (rs := [4]) (by kernel_rfl) (by simp) ?_
  refine AllReadyH.cons (o := ({ dst := some 7, op := Go.Op.call { callee := Go.Callee.value (Go.Operand.func 31), args := #[Go.Operand.tmp 6], argTypes := #[3] }, type := 9, pos := "conf.go:21", after := #[{ on := 3, ground := Go.Ground.data }], guard := none } : Oper)) rfl (fun K hK => ?_) AllReadyH.nil
  go_simp
  go_at_call 31
  refine (HI.out _ (HE.out.below hHeld)).mono ?_
  rintro e' w6 ⟨rfl, hb6⟩
  refine hK.out _ _ (hHeld.trans (hb6.mono hHeld.size)) (fun hHeld1 => ?_)
  clear hK K
  try simp only [Act.put, List.setIfInBounds_toArray, List.set_cons_zero, List.set_cons_succ]
  refine wpAnyH_take (i := 5) (oi := ({ dst := some 8, op := Go.Op.binOp Go.BinOp.add 9 (Go.Operand.const (Go.Value.string { data := #[108, 105, 110, 101, 32] })) (Go.Operand.tmp 7) 9, type := 9, pos := "conf.go:21", after := #[{ on := 4, ground := Go.Ground.data }], guard := none } : Oper)) (v := .string (⟨#[108, 105, 110, 101, 32]⟩ ++ D)) rfl (by kernel_rfl) (by kernel_rfl) (by kernel_rfl) (fun _ _ _ h => h) (Or.inl ⟨by rfl, fun w' _ => ?_⟩) hHeld1 ?_
  · go_simp
  try simp only [Act.put, List.setIfInBounds_toArray, List.set_cons_zero, List.set_cons_succ]
  refine wpAnyH_take (i := 6) (oi := ({ dst := some 9, op := Go.Op.binOp Go.BinOp.add 9 (Go.Operand.tmp 8) (Go.Operand.const (Go.Value.string { data := #[58, 32] })) 9, type := 9, pos := "conf.go:21", after := #[{ on := 5, ground := Go.Ground.data }], guard := none } : Oper)) (v := .string (⟨#[108, 105, 110, 101, 32]⟩ ++ D ++ ⟨#[58, 32]⟩)) rfl (by kernel_rfl) (by kernel_rfl) (by kernel_rfl) (fun _ _ _ h => h) (Or.inl ⟨by rfl, fun w' _ => ?_⟩) hHeld1 ?_
  · go_simp
  try simp only [Act.put, List.setIfInBounds_toArray, List.set_cons_zero, List.set_cons_succ]
  refine wpAnyH_ready (rs := [11]) (by kernel_rfl) (by simp) ?_
  refine AllReadyH.cons (o := ({ dst := some 14, op := Go.Op.call { callee := Go.Callee.value (Go.Operand.func 40), args := #[Go.Operand.tmp 13], argTypes := #[28] }, type := 9, pos := "conf.go:21", after := #[{ on := 10, ground := Go.Ground.data }, { on := 4, ground := Go.Ground.chain }], guard := none } : Oper)) rfl (fun K hK => ?_) AllReadyH.nil
  go_simp
  go_at_call 40
  refine (HC.out _ hHeld1).mono ?_
  rintro e' w7 ⟨rfl, hb7⟩
  refine hK.out _ _ (hHeld1.trans (hb7.mono hHeld1.size)) (fun hHeld2 => ?_)
  clear hK K
  try simp only [Act.put, List.setIfInBounds_toArray, List.set_cons_zero, List.set_cons_succ]
  refine wpAnyH_take (i := 12) (oi := ({ dst := some 15, op := Go.Op.binOp Go.BinOp.add 9 (Go.Operand.tmp 9) (Go.Operand.tmp 14) 9, type := 9, pos := "conf.go:21", after := #[{ on := 6, ground := Go.Ground.data }, { on := 11, ground := Go.Ground.data }], guard := none } : Oper)) (v := .string (⟨#[108, 105, 110, 101, 32]⟩ ++ D ++ ⟨#[58, 32]⟩ ++ t)) rfl (by kernel_rfl) (by kernel_rfl) (by kernel_rfl) (fun _ _ _ h => h) (Or.inl ⟨by rfl, fun w' _ => ?_⟩) hHeld2 ?_
  · go_simp
  try simp only [Act.put, List.setIfInBounds_toArray, List.set_cons_zero, List.set_cons_succ]
  refine wpAnyH_take (i := 13) (oi := ({ dst := some 2, op := Go.Op.assign (Go.Operand.tmp 15), type := 9, pos := "conf.go:21", after := #[{ on := 12, ground := Go.Ground.data }, { on := 11, ground := Go.Ground.chain }, { on := 0, ground := Go.Ground.phase }, { on := 1, ground := Go.Ground.phase }, { on := 2, ground := Go.Ground.phase }, { on := 3, ground := Go.Ground.phase }, { on := 4, ground := Go.Ground.phase }, { on := 5, ground := Go.Ground.phase }, { on := 6, ground := Go.Ground.phase }, { on := 7, ground := Go.Ground.phase }, { on := 8, ground := Go.Ground.phase }, { on := 9, ground := Go.Ground.phase }, { on := 10, ground := Go.Ground.phase }, { on := 11, ground := Go.Ground.phase }, { on := 12, ground := Go.Ground.phase }], guard := none } : Oper)) (v := .string (⟨#[108, 105, 110, 101, 32]⟩ ++ D ++ ⟨#[58, 32]⟩ ++ t)) rfl (by kernel_rfl) (by kernel_rfl) (by kernel_rfl) (fun _ _ _ h => h) (Or.inl ⟨by rfl, fun w' _ => ?_⟩) hHeld2 ?_
  · go_simp
  try simp only [Act.put, List.setIfInBounds_toArray, List.set_cons_zero, List.set_cons_succ]
  refine wpAnyH_done (by kernel_rfl) ?_ _
  have HB := Lib.hid hHeld2
  clear hHeld hHeld1 hHeld2 hb6 hb7
  go_wp2_with fail
  go_ret
  exact ⟨rfl, HB.out⟩
set_option maxRecDepth 100000 in
set_option maxHeartbeats 2000000 in
theorem faultF_any (p f : Nat) (v : Value) (t : ByteArray) (w : World) (he : AEnv w) (hf : f ≤ 1000000000) (h0 : w.cell? ⟨p, 0, none⟩ = some (.int .i64 f)) (h1 : w.cell? ⟨p, 1, none⟩ = some (.iface 35 v)) (ht : t.size ≤ 4000000000)
    (hc : ∀ W, Below w.heap.size w W → Calls Tryz.prog 40 #[.iface 35 v] W fun e w' => e = .returned (.string t) ∧ Below W.heap.size W w') :
    Calls Tryz.prog 17 #[.pointer (some ⟨p, 0, none⟩)] w fun e w' => e = .returned (.string (tb (faultT f t.data.toList))) ∧ Below w.heap.size w w' := by
  have hpl := cell_lt h0
  simp only at hpl
  have hl := dec_len f
  have hT : tb (faultT f t.data.toList) = (ByteArray.mk #[108, 105, 110, 101, 32]) ++ tb (Go.Lib.decDigits f) ++ (ByteArray.mk #[58, 32]) ++ t := bytes_inj (by simp [faultT, tb_data])
  have hD : (tb (Go.Lib.decDigits f)).size = (Go.Lib.decDigits f).length := by rw [Lib.size_eq, tb_data]
  have hi := fun W (hW : AEnv W) => itoaN_e f (by omega) W hW
  rw [hT]
  generalize tb (Go.Lib.decDigits f) = D at hi hD
  have hz1 : (ByteArray.mk #[108, 105, 110, 101, 32]).size = 5 := rfl
  have hz2 : (ByteArray.mk #[58, 32]).size = 2 := rfl
  have hA1 := fun W => run_string_add_sum (P := Tryz.prog) (w := W) ⟨#[108, 105, 110, 101, 32]⟩ D (by rw [hz1]; omega)
  have hA2 := fun W => run_string_add_sum (P := Tryz.prog) (w := W) (⟨#[108, 105, 110, 101, 32]⟩ ++ D) ⟨#[58, 32]⟩ (by rw [ByteArray.size_append, hz1, hz2]; omega)
  have hA3 := fun W => run_string_add_sum (P := Tryz.prog) (w := W) (⟨#[108, 105, 110, 101, 32]⟩ ++ D ++ ⟨#[58, 32]⟩) t (by rw [ByteArray.size_append, ByteArray.size_append, hz1, hz2]; omega)
  have HI := Lib.hid hi
  have HC := Lib.hid hc
  have HE := Lib.hid he
  have H0 := Lib.hid h0
  have H1 := Lib.hid h1
  clear hi hc he h0 h1 hT hD hl hz1 hz2
  go_enter Tryz.func17, Tryz.ntmps17
  go_wp2_with fail
  refine wp_region_held_drew (S := (fun W : World => Below w.heap.size w W)) (by kernel_rfl) (Below.refl _ w).drew (fun hHeld => ?_)
  refine wpAnyH_take (i := 0) (oi := ({ dst := some 3, op := Go.Op.move (Go.Operand.tmp 0), type := 35, pos := "conf.go:21", after := #[], guard := none } : Oper)) (v := .pointer (some ⟨p, 0, none⟩)) rfl (by kernel_rfl) (by kernel_rfl) (by kernel_rfl) (fun _ _ _ h => h) (Or.inl ⟨by rfl, fun w' _ => ?_⟩) hHeld ?_
  · go_simp
  try simp only [Act.put, List.setIfInBounds_toArray, List.set_cons_zero, List.set_cons_succ]
  refine wpAnyH_take (i := 1) (oi := ({ dst := some 4, op := Go.Op.nilCheck (Go.Operand.tmp 3), type := 0, pos := "conf.go:21", after := #[{ on := 0, ground := Go.Ground.data }], guard := none } : Oper)) (v := .pointer (some ⟨p, 0, none⟩)) rfl (by kernel_rfl) (by kernel_rfl) (by kernel_rfl) (fun _ _ _ h => h) (Or.inl ⟨by rfl, fun w' _ => ?_⟩) hHeld ?_
  · go_simp
  try simp only [Act.put, List.setIfInBounds_toArray, List.set_cons_zero, List.set_cons_succ]
  refine wpAnyH_take (i := 2) (oi := ({ dst := some 5, op := Go.Op.fieldAddr 43 (Go.Operand.tmp 4) 0, type := 0, pos := "conf.go:21", after := #[{ on := 1, ground := Go.Ground.data }], guard := none } : Oper)) (v := .pointer (some ⟨p, 0, none⟩)) rfl (by kernel_rfl) (by kernel_rfl) (by kernel_rfl) (fun _ _ _ h => h) (Or.inl ⟨by rfl, fun w' _ => ?_⟩) hHeld ?_
  · go_simp
  try simp only [Act.put, List.setIfInBounds_toArray, List.set_cons_zero, List.set_cons_succ]
  refine wpAnyH_take (i := 3) (oi := ({ dst := some 6, op := Go.Op.load 3 (Go.Operand.tmp 5), type := 3, pos := "conf.go:21", after := #[{ on := 2, ground := Go.Ground.data }], guard := none } : Oper)) (v := .int .i64 f) rfl (by kernel_rfl) (by kernel_rfl) (by kernel_rfl) (fun _ _ _ h => h) (Or.inl ⟨by rfl, fun w' hS' => ?_⟩) hHeld ?_
  · have hcell := (hS'.cell (p := ⟨p, 0, none⟩) hpl).trans H0.out
    go_simp
  try simp only [Act.put, List.setIfInBounds_toArray, List.set_cons_zero, List.set_cons_succ]
  refine wpAnyH_take (i := 7) (oi := ({ dst := some 10, op := Go.Op.move (Go.Operand.tmp 0), type := 35, pos := "conf.go:21", after := #[], guard := none } : Oper)) (v := .pointer (some ⟨p, 0, none⟩)) rfl (by kernel_rfl) (by kernel_rfl) (by kernel_rfl) (fun _ _ _ h => h) (Or.inl ⟨by rfl, fun w' _ => ?_⟩) hHeld ?_
  · go_simp
  try simp only [Act.put, List.setIfInBounds_toArray, List.set_cons_zero, List.set_cons_succ]
  refine wpAnyH_take (i := 8) (oi := ({ dst := some 11, op := Go.Op.nilCheck (Go.Operand.tmp 10), type := 0, pos := "conf.go:21", after := #[{ on := 7, ground := Go.Ground.data }], guard := none } : Oper)) (v := .pointer (some ⟨p, 0, none⟩)) rfl (by kernel_rfl) (by kernel_rfl) (by kernel_rfl) (fun _ _ _ h => h) (Or.inl ⟨by rfl, fun w' _ => ?_⟩) hHeld ?_
  · go_simp
  try simp only [Act.put, List.setIfInBounds_toArray, List.set_cons_zero, List.set_cons_succ]
  refine wpAnyH_take (i := 9) (oi := ({ dst := some 12, op := Go.Op.fieldAddr 43 (Go.Operand.tmp 11) 1, type := 0, pos := "conf.go:21", after := #[{ on := 8, ground := Go.Ground.data }], guard := none } : Oper)) (v := .pointer (some ⟨p, 1, none⟩)) rfl (by kernel_rfl) (by kernel_rfl) (by kernel_rfl) (fun _ _ _ h => h) (Or.inl ⟨by rfl, fun w' _ => ?_⟩) hHeld ?_
  · go_simp
  try simp only [Act.put, List.setIfInBounds_toArray, List.set_cons_zero, List.set_cons_succ]
  refine wpAnyH_take (i := 10) (oi := ({ dst := some 13, op := Go.Op.load 28 (Go.Operand.tmp 12), type := 28, pos := "conf.go:21", after := #[{ on := 9, ground := Go.Ground.data }], guard := none } : Oper)) (v := .iface 35 v) rfl (by kernel_rfl) (by kernel_rfl) (by kernel_rfl) (fun _ _ _ h => h) (Or.inl ⟨by rfl, fun w' hS' => ?_⟩) hHeld ?_
  · have hcell := (hS'.cell (p := ⟨p, 1, none⟩) hpl).trans H1.out
    go_simp
  try simp only [Act.put, List.setIfInBounds_toArray, List.set_cons_zero, List.set_cons_succ]
  refine wpAnyH_ready (rs := [4]) (by kernel_rfl) (by simp) ?_
  refine AllReadyH.cons (o := ({ dst := some 7, op := Go.Op.call { callee := Go.Callee.value (Go.Operand.func 31), args := #[Go.Operand.tmp 6], argTypes := #[3] }, type := 9, pos := "conf.go:21", after := #[{ on := 3, ground := Go.Ground.data }], guard := none } : Oper)) rfl (fun K hK => ?_) AllReadyH.nil
  go_simp
  go_at_call 31
  refine (HI.out _ (HE.out.below hHeld)).mono ?_
  rintro e' w6 ⟨rfl, hb6⟩
  refine hK.out _ _ (hHeld.trans (hb6.mono hHeld.size)) (fun hHeld1 => ?_)
  clear hK K
  try simp only [Act.put, List.setIfInBounds_toArray, List.set_cons_zero, List.set_cons_succ]
  refine wpAnyH_take (i := 5) (oi := ({ dst := some 8, op := Go.Op.binOp Go.BinOp.add 9 (Go.Operand.const (Go.Value.string { data := #[108, 105, 110, 101, 32] })) (Go.Operand.tmp 7) 9, type := 9, pos := "conf.go:21", after := #[{ on := 4, ground := Go.Ground.data }], guard := none } : Oper)) (v := .string (⟨#[108, 105, 110, 101, 32]⟩ ++ D)) rfl (by kernel_rfl) (by kernel_rfl) (by kernel_rfl) (fun _ _ _ h => h) (Or.inl ⟨by rfl, fun w' _ => ?_⟩) hHeld1 ?_
  · go_simp
  try simp only [Act.put, List.setIfInBounds_toArray, List.set_cons_zero, List.set_cons_succ]
  refine wpAnyH_take (i := 6) (oi := ({ dst := some 9, op := Go.Op.binOp Go.BinOp.add 9 (Go.Operand.tmp 8) (Go.Operand.const (Go.Value.string { data := #[58, 32] })) 9, type := 9, pos := "conf.go:21", after := #[{ on := 5, ground := Go.Ground.data }], guard := none } : Oper)) (v := .string (⟨#[108, 105, 110, 101, 32]⟩ ++ D ++ ⟨#[58, 32]⟩)) rfl (by kernel_rfl) (by kernel_rfl) (by kernel_rfl) (fun _ _ _ h => h) (Or.inl ⟨by rfl, fun w' _ => ?_⟩) hHeld1 ?_
  · go_simp
  try simp only [Act.put, List.setIfInBounds_toArray, List.set_cons_zero, List.set_cons_succ]
  refine wpAnyH_ready (rs := [11]) (by kernel_rfl) (by simp) ?_
  refine AllReadyH.cons (o := ({ dst := some 14, op := Go.Op.call { callee := Go.Callee.value (Go.Operand.func 40), args := #[Go.Operand.tmp 13], argTypes := #[28] }, type := 9, pos := "conf.go:21", after := #[{ on := 10, ground := Go.Ground.data }, { on := 4, ground := Go.Ground.chain }], guard := none } : Oper)) rfl (fun K hK => ?_) AllReadyH.nil
  go_simp
  go_at_call 40
  refine (HC.out _ hHeld1).mono ?_
  rintro e' w7 ⟨rfl, hb7⟩
  refine hK.out _ _ (hHeld1.trans (hb7.mono hHeld1.size)) (fun hHeld2 => ?_)
  clear hK K
  try simp only [Act.put, List.setIfInBounds_toArray, List.set_cons_zero, List.set_cons_succ]
  refine wpAnyH_take (i := 12) (oi := ({ dst := some 15, op := Go.Op.binOp Go.BinOp.add 9 (Go.Operand.tmp 9) (Go.Operand.tmp 14) 9, type := 9, pos := "conf.go:21", after := #[{ on := 6, ground := Go.Ground.data }, { on := 11, ground := Go.Ground.data }], guard := none } : Oper)) (v := .string (⟨#[108, 105, 110, 101, 32]⟩ ++ D ++ ⟨#[58, 32]⟩ ++ t)) rfl (by kernel_rfl) (by kernel_rfl) (by kernel_rfl) (fun _ _ _ h => h) (Or.inl ⟨by rfl, fun w' _ => ?_⟩) hHeld2 ?_
  · go_simp
  try simp only [Act.put, List.setIfInBounds_toArray, List.set_cons_zero, List.set_cons_succ]
  refine wpAnyH_take (i := 13) (oi := ({ dst := some 2, op := Go.Op.assign (Go.Operand.tmp 15), type := 9, pos := "conf.go:21", after := #[{ on := 12, ground := Go.Ground.data }, { on := 11, ground := Go.Ground.chain }, { on := 0, ground := Go.Ground.phase }, { on := 1, ground := Go.Ground.phase }, { on := 2, ground := Go.Ground.phase }, { on := 3, ground := Go.Ground.phase }, { on := 4, ground := Go.Ground.phase }, { on := 5, ground := Go.Ground.phase }, { on := 6, ground := Go.Ground.phase }, { on := 7, ground := Go.Ground.phase }, { on := 8, ground := Go.Ground.phase }, { on := 9, ground := Go.Ground.phase }, { on := 10, ground := Go.Ground.phase }, { on := 11, ground := Go.Ground.phase }, { on := 12, ground := Go.Ground.phase }], guard := none } : Oper)) (v := .string (⟨#[108, 105, 110, 101, 32]⟩ ++ D ++ ⟨#[58, 32]⟩ ++ t)) rfl (by kernel_rfl) (by kernel_rfl) (by kernel_rfl) (fun _ _ _ h => h) (Or.inl ⟨by rfl, fun w' _ => ?_⟩) hHeld2 ?_
  · go_simp
  try simp only [Act.put, List.setIfInBounds_toArray, List.set_cons_zero, List.set_cons_succ]
  refine wpAnyH_done (by kernel_rfl) ?_ _
  have HB := Lib.hid hHeld2
  clear hHeld hHeld1 hHeld2 hb6 hb7
  go_wp2_with fail
  go_ret
  exact ⟨rfl, HB.out⟩
/-- the text of a fault around an error's number -/
theorem fault1_e (p f k : Nat) (w : World) (he : AEnv w) (hf : f ≤ 1000000000) (hk : k ≤ 1000000000) (h : FaultAt w p f k) :
    Calls Tryz.prog 17 #[.pointer (some ⟨p, 0, none⟩)] w fun e w' => e = .returned (.string (tb (faultT f (errT k)))) ∧ Below w.heap.size w w' := by
  have := faultE_any p f (.int .i64 k) (tb (errT k)) w he hf h.2.1 h.2.2 (by rw [Lib.size_eq, tb_data]; have := dec_len k; unfold errT; rw [List.length_append]; simp only [List.length_cons, List.length_nil]; omega)
    (fun W hW => textE _ _ W fun W2 hW2 => errno_e k hk W2 ((he.below hW).below hW2))
  rwa [tb_data] at this
/-- the text of a fault around such a fault -/
theorem fault2_e (p q f g k : Nat) (w : World) (he : AEnv w) (hf : f ≤ 1000000000) (hg : g ≤ 1000000000) (hk : k ≤ 1000000000) (h0 : w.cell? ⟨p, 0, none⟩ = some (.int .i64 f)) (h1 : w.cell? ⟨p, 1, none⟩ = some (.iface 35 (.pointer (some ⟨q, 0, none⟩)))) (h : FaultAt w q g k) :
    Calls Tryz.prog 17 #[.pointer (some ⟨p, 0, none⟩)] w fun e w' => e = .returned (.string (tb (faultT f (faultT g (errT k))))) ∧ Below w.heap.size w w' := by
  have := faultF_any p f (.pointer (some ⟨q, 0, none⟩)) (tb (faultT g (errT k))) w he hf h0 h1 (by rw [Lib.size_eq, tb_data]; have := dec_len k; have := dec_len g; unfold faultT errT; simp only [List.length_append, List.length_cons, List.length_nil]; omega)
    (fun W hW => textF _ _ W fun W2 hW2 => fault1_e q g k W2 ((he.below hW).below hW2) hg hk ((h.below hW).below hW2))
  rwa [tb_data] at this
end Go.Proofs.YtpnlgojbmjfhhaaGreatDoor
namespace Go.Proofs.YtpnlgojbmjfhhaaGreatDoor
open Go.RowKit

set_option maxRecDepth 100000 in
set_option maxHeartbeats 2000000 in
theorem digits_e (n : Nat) : ∀ (w : World), n ≤ 100000 → Calls Tryz.prog 18 #[.int .i64 n] w fun e w' => e = .returned (.string (tb (Go.Lib.decDigits n))) ∧ Below w.heap.size w w' := by
  induction n using Nat.strongRecOn with
  | _ n ih =>
    intro w hn
    by_cases h : n < 10
    · have hd : Go.Lib.decDigits n = [UInt8.ofNat (48 + n)] := by rw [Go.Lib.decDigits, dif_pos h]
      rw [hd]
      have hu : ((UInt8.ofNat (48 + n)).toNat : Int) = 48 + (n : Int) := by rw [u8_of (by omega)]; omega
      have hb0 : Below w.heap.size w (w.alloc (.cells #[.int .u8 (48 + (n : Int))] 5)) := (Below.refl _ w).alloc (Nat.le_refl _) _
      have hcv : (convert 62 9 (.slice (some ⟨w.heap.size, 0, none⟩) 1 1)).run Tryz.prog (w.alloc (.cells #[.int .u8 (48 + (n : Int))] 5)) = .ok (.string (tb [UInt8.ofNat (48 + n)])) (w.alloc (.cells #[.int .u8 (48 + (n : Int))] 5)) :=
        run_convert_bytes_back (P := Tryz.prog) (w.alloc (.cells #[.int .u8 (48 + (n : Int))] 5)) 62 9 5 ⟨w.heap.size, 0, none⟩ 1 [UInt8.ofNat (48 + n)] Tryz.underlying62 Tryz.underlying5 Tryz.underlying9 (fun j hj => by
          obtain rfl : j = 0 := by simp only [List.length_singleton] at hj; omega
          rw [Addr.add_lit, Nat.zero_add, World.cell?_alloc_mark, List.getElem_cons_zero, hu]; rfl)
      have hnI : (n : Int) < 10 := by omega
      have hw8 : IntKind.u8.wrap (48 + (n : Int)) = 48 + (n : Int) := by rw [IntKind.wrap_u8]; omega
      generalize tb [UInt8.ofNat (48 + n)] = D at hcv
      have HB := Lib.hid hb0
      clear hb0 hu hd ih hn
      go_enter Tryz.func18, Tryz.ntmps18
      go_wp2
      go_ret
      exact ⟨rfl, HB.out⟩
    · have hd : tb (Go.Lib.decDigits n) = tb (Go.Lib.decDigits (n / 10)) ++ tb (Go.Lib.decDigits (n % 10)) := by
        have h1 : Go.Lib.decDigits n = Go.Lib.decDigits (n / 10) ++ [UInt8.ofNat (48 + n % 10)] := by rw [Go.Lib.decDigits, dif_neg h]
        have h2 : Go.Lib.decDigits (n % 10) = [UInt8.ofNat (48 + n % 10)] := by rw [Go.Lib.decDigits, dif_pos (Nat.mod_lt _ (by omega))]
        rw [h1, ← h2]
        exact bytes_inj (by rw [tb_data, Joins.data_append, tb_data, tb_data])
      have hl1 := dec_len (n / 10)
      have hl2 := dec_len (n % 10)
      have hs1 : (tb (Go.Lib.decDigits (n / 10))).size = (Go.Lib.decDigits (n / 10)).length := by rw [Lib.size_eq, tb_data]
      have hs2 : (tb (Go.Lib.decDigits (n % 10))).size = (Go.Lib.decDigits (n % 10)).length := by rw [Lib.size_eq, tb_data]
      have H1 := Lib.hid (fun W => ih (n / 10) (by omega) W (by omega))
      have H2 := Lib.hid (fun W => ih (n % 10) (by omega) W (by omega))
      have hnI : ¬ (n : Int) < 10 := by omega
      have hq : (n : Int).tdiv 10 = ((n / 10 : Nat) : Int) := by rw [Int.tdiv_eq_ediv_of_nonneg (by omega)]; omega
      have hr : (n : Int).tmod 10 = ((n % 10 : Nat) : Int) := by rw [Int.tmod_eq_emod_of_nonneg (by omega)]; omega
      have hq3 : (n : Int) / 10 = ((n / 10 : Nat) : Int) := by omega
      have hr3 : (n : Int) % 10 = ((n % 10 : Nat) : Int) := by omega
      have hq2 : n / 10 ≤ 100000 := by omega
      have hr2 : n % 10 ≤ 100000 := by omega
      rw [hd]
      generalize tb (Go.Lib.decDigits (n / 10)) = D1 at H1 hs1
      generalize tb (Go.Lib.decDigits (n % 10)) = D2 at H2 hs2
      generalize n / 10 = q at H1 hs1 hl1 hq hq3 hq2
      generalize n % 10 = r at H2 hs2 hl2 hr hr3 hr2
      have hA := fun W => run_string_add_sum (P := Tryz.prog) (w := W) D1 D2 (by omega)
      clear hd ih hl1 hl2 hs1 hs2 hn h
      go_enter Tryz.func18, Tryz.ntmps18
      go_wp2_with fail
      refine (H1.out _).mono ?_
      rintro e w1 ⟨rfl, hb1⟩
      have HB1 := Lib.hid hb1
      clear hb1
      go_wp2_with fail
      refine (H2.out _).mono ?_
      rintro e w2 ⟨rfl, hb2⟩
      have HB2 := Lib.hid (HB1.out.trans (hb2.mono HB1.out.size))
      clear hb2
      go_wp2_with fail
      go_ret
      exact ⟨rfl, HB2.out⟩
end Go.Proofs.YtpnlgojbmjfhhaaGreatDoor
namespace Go.Proofs.YtpnlgojbmjfhhaaGreatDoor
open Go.RowKit

theorem run_eq_adr (W : World) {x : List UInt8} (hx : x.length = 16) : (Op.equalIn 10000 48 (.agg (bvs x).toArray) (.agg (bvs x).toArray)).run Tryz.prog W = .ok true W := by
  have := eq_addr 9998 W hx hx
  rwa [beq_self_eq_true] at this
/-- servers, one by one -/
theorem SrvV.row {w : World} {A : Option Addr} {n cap : Nat} {l : List (List UInt8)} (h : SrvV w (.slice A n cap) l) (hl : ∀ a ∈ l, a.length = 16) {k : Nat} {a : List UInt8} (hk : l[k]? = some a) :
    ∃ b, A = some ⟨b, 0, none⟩ ∧ b < w.heap.size ∧ w.rangeAt b (k * 16) (bvs a) := by
  obtain ⟨A', cap', e, hA⟩ := h
  injection e with e1 e2 e3
  subst e1
  obtain ⟨b, e2, hb, hc⟩ := hA (by rintro rfl; simp at hk)
  refine ⟨b, e2, hb, fun j v hj => hc (k * 16 + j) v ?_⟩
  have hjl := (List.getElem?_eq_some_iff.1 hj).1
  rw [bvs_length, hl a (List.mem_of_getElem? hk)] at hjl
  rw [avs_at hl hk hjl]; exact hj
theorem SeaV.row {w : World} {A : Option Addr} {n cap : Nat} {l : List (List UInt8)} (h : SeaV w (.slice A n cap) l) {k : Nat} {a : List UInt8} (hk : l[k]? = some a) :
    ∃ b, A = some ⟨b, 0, none⟩ ∧ b < w.heap.size ∧ w.cell? ⟨b, k, none⟩ = some (.string (tb a)) := by
  obtain ⟨A', e, hA⟩ := h
  injection e with e1 e2 e3
  subst e1
  obtain ⟨b, e2, hs⟩ := hA (by rintro rfl; simp at hk)
  refine ⟨b, e2, hs.1, ?_⟩
  have hkl := (List.getElem?_eq_some_iff.1 hk).1
  have := hs.2 k (by rw [List.length_map]; exact hkl)
  rwa [Nat.zero_add, List.getD_eq_getElem?_getD, List.getElem?_map, hk] at this
theorem range_below {w w' : World} {b o : Nat} {cs : List Value} (h : w.rangeAt b o cs) (hlt : b < w.heap.size) (hb : Below w.heap.size w w') : w'.rangeAt b o cs := fun j v hj => (hb.cell (p := ⟨b, o + j, none⟩) hlt).trans (h j v hj)
/-- the forms of a configuration's value -/
theorem CV.form {w : World} {val : Value} {c : ConfM} (h : CV w val c) : ∃ (A A' : Option Addr) (cap : Nat), val = .agg (cfV (.slice A c.servers.length cap) (.slice A' c.search.length c.search.length) c) ∧ SrvV w (.slice A c.servers.length cap) c.servers ∧ SeaV w (.slice A' c.search.length c.search.length) c.search ∧ (∀ a ∈ c.servers, a.length = 16) := by
  obtain ⟨v, x, e, h1, h2, h3⟩ := h
  obtain ⟨A, cap, rfl, hA⟩ := h1
  obtain ⟨A', rfl, hA'⟩ := h2
  exact ⟨A, A', cap, e, ⟨A, cap, rfl, hA⟩, ⟨A', rfl, hA'⟩, h3⟩
set_option maxRecDepth 100000 in
set_option maxHeartbeats 8000000 in
theorem same_e (c : ConfM) (va vb : Value) (w : World) (ha : CV w va c) (hb : CV w vb c) (hl1 : c.servers.length ≤ 1000) (hl2 : c.search.length ≤ 1000) (hd : c.dots ≤ 1000 ∧ c.timeout ≤ 1000 ∧ c.attempts ≤ 1000) :
    Calls Tryz.prog 11 #[va, vb] w fun e w' => e = .returned (.bool true) ∧ Below w.heap.size w w' := by
  obtain ⟨A, A', ca, rfl, hsa, hea, h16⟩ := ha.form
  obtain ⟨B, B', cb, rfl, hsb, heb, _⟩ := hb.form
  obtain ⟨srv, sea, dots, tmo, att⟩ := c
  simp only [cfV] at *
  obtain ⟨hd1, hd2, hd3⟩ := hd
  have HSA := Lib.hid hsa
  have HSB := Lib.hid hsb
  have HEA := Lib.hid hea
  have HEB := Lib.hid heb
  have H16 := Lib.hid h16
  obtain ⟨n, hn⟩ : ∃ n, srv.length = n := ⟨_, rfl⟩
  obtain ⟨m, hm⟩ : ∃ m, sea.length = m := ⟨_, rfl⟩
  rw [hn] at hsa hsb hl1 ⊢
  rw [hm] at hea heb hl2 ⊢
  have HN := Lib.hid hn
  have HM := Lib.hid hm
  clear ha hb hsa hsb hea heb h16 hn hm
  go_enter Tryz.func11, Tryz.ntmps11
  go_wp2_with fail
  have hb2 : Below w.heap.size w ((w.alloc (.cells #[.slice A n ca, .slice A' m m, .int .i64 (dots : Int), .int .i64 (tmo : Int), .int .i64 (att : Int)] 26)).alloc (.cells #[.slice B n cb, .slice B' m m, .int .i64 (dots : Int), .int .i64 (tmo : Int), .int .i64 (att : Int)] 26)) := ((Below.refl _ w).alloc (Nat.le_refl _) _).alloc (by rw [World.size_alloc]; omega) _
  obtain ⟨w2, hw2⟩ : ∃ w2, w2 = ((w.alloc (.cells #[.slice A n ca, .slice A' m m, .int .i64 (dots : Int), .int .i64 (tmo : Int), .int .i64 (att : Int)] 26)).alloc (.cells #[.slice B n cb, .slice B' m m, .int .i64 (dots : Int), .int .i64 (tmo : Int), .int .i64 (att : Int)] 26)) := ⟨_, rfl⟩
  have hk1 : w2.heap[w.heap.size]? = some (.cells #[.slice A n ca, .slice A' m m, .int .i64 (dots : Int), .int .i64 (tmo : Int), .int .i64 (att : Int)] 26 (0, 0)) := by
    rw [hw2, Below.heap_alloc _ _ _ (by rw [World.size_alloc]; omega)]; exact heap_alloc_last w _
  have hk2 : w2.heap[w.heap.size + 1]? = some (.cells #[.slice B n cb, .slice B' m m, .int .i64 (dots : Int), .int .i64 (tmo : Int), .int .i64 (att : Int)] 26 (0, 0)) := by
    rw [hw2]
    have := heap_alloc_last (w.alloc (.cells #[.slice A n ca, .slice A' m m, .int .i64 (dots : Int), .int .i64 (tmo : Int), .int .i64 (att : Int)] 26)) (.cells #[.slice B n cb, .slice B' m m, .int .i64 (dots : Int), .int .i64 (tmo : Int), .int .i64 (att : Int)] 26)
    rwa [World.size_alloc] at this
  have hs2 : w2.heap.size = w.heap.size + 1 + 1 := by rw [hw2, World.size_alloc, World.size_alloc]
  rw [← hw2] at hb2 ⊢
  have HB2 := Lib.hid hb2
  have HSA2 := Lib.hid (HSA.out.below hb2)
  have HSB2 := Lib.hid (HSB.out.below hb2)
  have HEA2 := Lib.hid (HEA.out.below hb2)
  have HEB2 := Lib.hid (HEB.out.below hb2)
  have HA0 : Hid (∀ W, Below w2.heap.size w2 W → W.cell? ⟨w.heap.size, 0, none⟩ = some (.slice A n ca)) := Lib.hid (fun W hW => (hW.cell (p := ⟨w.heap.size, 0, none⟩) (by show w.heap.size < _; omega)).trans (cell_of_row w2 _ 0 _ _ _ hk1))
  have HA1 : Hid (∀ W, Below w2.heap.size w2 W → W.cell? ⟨w.heap.size, 1, none⟩ = some (.slice A' m m)) := Lib.hid (fun W hW => (hW.cell (p := ⟨w.heap.size, 1, none⟩) (by show w.heap.size < _; omega)).trans (cell_of_row w2 _ 1 _ _ _ hk1))
  have HC0 : Hid (∀ W, Below w2.heap.size w2 W → W.cell? ⟨w.heap.size + 1, 0, none⟩ = some (.slice B n cb)) := Lib.hid (fun W hW => (hW.cell (p := ⟨w.heap.size + 1, 0, none⟩) (by show w.heap.size + 1 < _; omega)).trans (cell_of_row w2 _ 0 _ _ _ hk2))
  have HC1 : Hid (∀ W, Below w2.heap.size w2 W → W.cell? ⟨w.heap.size + 1, 1, none⟩ = some (.slice B' m m)) := Lib.hid (fun W hW => (hW.cell (p := ⟨w.heap.size + 1, 1, none⟩) (by show w.heap.size + 1 < _; omega)).trans (cell_of_row w2 _ 1 _ _ _ hk2))
  clear hb2 hk1 hk2 hs2 hw2 HSA HSB HEA HEB
  generalize w.heap.size + 1 = g2 at HC0 HC1 ⊢
  generalize hg1 : w.heap.size = g1 at HA0 HA1 HB2 ⊢
  go_loopg [47, 5] n (fun gk i _ wr => ∃ k : Nat, i = .int .i64 k ∧ k + gk = n ∧ Hid (Below w2.heap.size w2 wr))
  case atStart => exact ⟨0, rfl, by omega, Lib.hid (Below.refl _ _)⟩
  case round =>
    obtain ⟨k, rfl, hk, HBW⟩ := hrel
    by_cases hkn : k < n
    · obtain ⟨g, rfl⟩ : ∃ g', gk = g' + 1 := ⟨gk - 1, by omega⟩
      obtain ⟨x, hx⟩ : ∃ x, srv[k]? = some x := ⟨_, List.getElem?_eq_getElem (by rw [HN.out]; exact hkn)⟩
      have hkI : (k : Int) < (n : Int) := by omega
      have hx16 := H16.out x (List.mem_of_getElem? hx)
      obtain ⟨ba, hA, hal, hra⟩ := HSA2.out.row H16.out hx
      obtain ⟨bb, hB, hbl, hrb⟩ := HSB2.out.row H16.out hx
      have HRA : Hid (∀ W, Below w2.heap.size w2 W → W.rangeAt ba (k * 16) (bvs x)) := Lib.hid (fun W hW => range_below hra hal hW)
      have HRB : Hid (∀ W, Below w2.heap.size w2 W → W.rangeAt bb (k * 16) (bvs x)) := Lib.hid (fun W hW => range_below hrb hbl hW)
      have HQ := fun W => run_eq_adr W hx16
      have hS := sizeBv hx16
      obtain ⟨cs, hcs⟩ : ∃ cs, cs = bvs x := ⟨_, rfl⟩
      rw [← hcs] at HRA HRB hS
      simp only [← hcs] at HQ
      have HS := Lib.hid hS
      clear hx hx16 hra hrb hcs hS hal hbl
      subst hA hB
      go_wp2_with fail
      refine wp_region_held_drew (S := (fun W : World => Below w2.heap.size w2 W)) (by kernel_rfl) HBW.out.drew (fun hHeld => ?_)
      refine wpAnyH_take (i := 0) (oi := ({ dst := some 50, op := Go.Op.fieldAddr 26 (Go.Operand.tmp 2) 0, type := 0, pos := "law.go:26", after := #[], guard := none } : Oper)) (v := .pointer (some ⟨g1, 0, none⟩)) rfl (by kernel_rfl) (by kernel_rfl) (by kernel_rfl) (fun _ _ _ h => h) (Or.inl ⟨by rfl, fun w' _ => ?_⟩) hHeld ?_
      · go_simp
      try simp only [Act.put, List.setIfInBounds_toArray, List.set_cons_zero, List.set_cons_succ]
      refine wpAnyH_take (i := 1) (oi := ({ dst := some 51, op := Go.Op.load 23 (Go.Operand.tmp 50), type := 23, pos := "law.go:26", after := #[{ on := 0, ground := Go.Ground.data }], guard := none } : Oper)) (v := .slice (some ⟨ba, 0, none⟩) n ca) rfl (by kernel_rfl) (by kernel_rfl) (by kernel_rfl) (fun _ _ _ h => h) (Or.inl ⟨by rfl, fun w' hS' => ?_⟩) hHeld ?_
      · have hcell := HA0.out _ hS'
        go_simp
      try simp only [Act.put, List.setIfInBounds_toArray, List.set_cons_zero, List.set_cons_succ]
      refine wpAnyH_take (i := 2) (oi := ({ dst := some 52, op := Go.Op.move (Go.Operand.tmp 5), type := 3, pos := "law.go:26", after := #[], guard := none } : Oper)) (v := .int .i64 k) rfl (by kernel_rfl) (by kernel_rfl) (by kernel_rfl) (fun _ _ _ h => h) (Or.inl ⟨by rfl, fun w' _ => ?_⟩) hHeld ?_
      · go_simp
      try simp only [Act.put, List.setIfInBounds_toArray, List.set_cons_zero, List.set_cons_succ]
      refine wpAnyH_take (i := 3) (oi := ({ dst := some 53, op := Go.Op.indexAddr 23 (Go.Operand.tmp 51) (Go.Operand.tmp 52), type := 0, pos := "law.go:26", after := #[{ on := 1, ground := Go.Ground.data }, { on := 2, ground := Go.Ground.data }], guard := none } : Oper)) (v := .pointer (some ⟨ba, k * 16, none⟩)) rfl (by kernel_rfl) (by kernel_rfl) (by kernel_rfl) (fun _ _ _ h => h) (Or.inl ⟨by rfl, fun w' _ => ?_⟩) hHeld ?_
      · go_simp
      try simp only [Act.put, List.setIfInBounds_toArray, List.set_cons_zero, List.set_cons_succ]
      refine wpAnyH_take (i := 4) (oi := ({ dst := some 54, op := Go.Op.load 48 (Go.Operand.tmp 53), type := 48, pos := "law.go:26", after := #[{ on := 3, ground := Go.Ground.data }], guard := none } : Oper)) (v := .agg cs.toArray) rfl (by kernel_rfl) (by kernel_rfl) (by kernel_rfl) (fun _ _ _ h => h) (yieldsIf_load_mid (by rfl) _ _ rfl _ _ rfl _ _ (fun W hW => HRA.out W hW) Tryz.underlying48 rfl HS.out) hHeld ?_
      try simp only [Act.put, List.setIfInBounds_toArray, List.set_cons_zero, List.set_cons_succ]
      refine wpAnyH_take (i := 5) (oi := ({ dst := some 55, op := Go.Op.fieldAddr 26 (Go.Operand.tmp 3) 0, type := 0, pos := "law.go:26", after := #[], guard := none } : Oper)) (v := .pointer (some ⟨g2, 0, none⟩)) rfl (by kernel_rfl) (by kernel_rfl) (by kernel_rfl) (fun _ _ _ h => h) (Or.inl ⟨by rfl, fun w' _ => ?_⟩) hHeld ?_
      · go_simp
      try simp only [Act.put, List.setIfInBounds_toArray, List.set_cons_zero, List.set_cons_succ]
      refine wpAnyH_take (i := 6) (oi := ({ dst := some 56, op := Go.Op.load 23 (Go.Operand.tmp 55), type := 23, pos := "law.go:26", after := #[{ on := 5, ground := Go.Ground.data }], guard := none } : Oper)) (v := .slice (some ⟨bb, 0, none⟩) n cb) rfl (by kernel_rfl) (by kernel_rfl) (by kernel_rfl) (fun _ _ _ h => h) (Or.inl ⟨by rfl, fun w' hS' => ?_⟩) hHeld ?_
      · have hcell := HC0.out _ hS'
        go_simp
      try simp only [Act.put, List.setIfInBounds_toArray, List.set_cons_zero, List.set_cons_succ]
      refine wpAnyH_take (i := 7) (oi := ({ dst := some 57, op := Go.Op.move (Go.Operand.tmp 5), type := 3, pos := "law.go:26", after := #[], guard := none } : Oper)) (v := .int .i64 k) rfl (by kernel_rfl) (by kernel_rfl) (by kernel_rfl) (fun _ _ _ h => h) (Or.inl ⟨by rfl, fun w' _ => ?_⟩) hHeld ?_
      · go_simp
      try simp only [Act.put, List.setIfInBounds_toArray, List.set_cons_zero, List.set_cons_succ]
      refine wpAnyH_take (i := 8) (oi := ({ dst := some 58, op := Go.Op.indexAddr 23 (Go.Operand.tmp 56) (Go.Operand.tmp 57), type := 0, pos := "law.go:26", after := #[{ on := 6, ground := Go.Ground.data }, { on := 7, ground := Go.Ground.data }], guard := none } : Oper)) (v := .pointer (some ⟨bb, k * 16, none⟩)) rfl (by kernel_rfl) (by kernel_rfl) (by kernel_rfl) (fun _ _ _ h => h) (Or.inl ⟨by rfl, fun w' _ => ?_⟩) hHeld ?_
      · go_simp
      try simp only [Act.put, List.setIfInBounds_toArray, List.set_cons_zero, List.set_cons_succ]
      refine wpAnyH_take (i := 9) (oi := ({ dst := some 59, op := Go.Op.load 48 (Go.Operand.tmp 58), type := 48, pos := "law.go:26", after := #[{ on := 8, ground := Go.Ground.data }], guard := none } : Oper)) (v := .agg cs.toArray) rfl (by kernel_rfl) (by kernel_rfl) (by kernel_rfl) (fun _ _ _ h => h) (yieldsIf_load_mid (by rfl) _ _ rfl _ _ rfl _ _ (fun W hW => HRB.out W hW) Tryz.underlying48 rfl HS.out) hHeld ?_
      try simp only [Act.put, List.setIfInBounds_toArray, List.set_cons_zero, List.set_cons_succ]
      refine wpAnyH_take (i := 10) (oi := ({ dst := some 60, op := Go.Op.binOp Go.BinOp.neq 48 (Go.Operand.tmp 54) (Go.Operand.tmp 59) 48, type := 4, pos := "law.go:26", after := #[{ on := 4, ground := Go.Ground.data }, { on := 9, ground := Go.Ground.data }], guard := none } : Oper)) (v := .bool false) rfl (by kernel_rfl) (by kernel_rfl) (by kernel_rfl) (fun _ _ _ h => h) (Or.inl ⟨by rfl, fun w' _ => ?_⟩) hHeld ?_
      · go_simp
      try simp only [Act.put, List.setIfInBounds_toArray, List.set_cons_zero, List.set_cons_succ]
      refine wpAnyH_done (by kernel_rfl) ?_ _
      have HBn := Lib.hid hHeld
      clear hHeld
      go_wp2_with fail
      go_roundg g
      case measure => omega
      case rel => exact ⟨k + 1, by go_num, by omega, HBn⟩
    · have hkI : ¬ (k : Int) < (n : Int) := by omega
      have a1 := HA1.out _ HBW.out
      have b1 := HC1.out _ HBW.out
      go_wp2_with fail
      go_loopg [65, 6] m (fun gk i _ wr => ∃ k : Nat, i = .int .i64 k ∧ k + gk = m ∧ Hid (Below w2.heap.size w2 wr))
      case atStart => exact ⟨0, rfl, by omega, HBW⟩
      case round =>
        obtain ⟨k, rfl, hk, HBW⟩ := hrel
        by_cases hkm : k < m
        · obtain ⟨g, rfl⟩ : ∃ g', gk = g' + 1 := ⟨gk - 1, by omega⟩
          obtain ⟨x, hx⟩ : ∃ x, sea[k]? = some x := ⟨_, List.getElem?_eq_getElem (by rw [HM.out]; exact hkm)⟩
          have hkI : (k : Int) < (m : Int) := by omega
          obtain ⟨ba, hA, hal, hra⟩ := HEA2.out.row hx
          obtain ⟨bb, hB, hbl, hrb⟩ := HEB2.out.row hx
          have HRA : Hid (∀ W, Below w2.heap.size w2 W → W.cell? ⟨ba, k, none⟩ = some (.string (tb x))) := Lib.hid (fun W hW => (hW.cell (p := ⟨ba, k, none⟩) hal).trans hra)
          have HRB : Hid (∀ W, Below w2.heap.size w2 W → W.cell? ⟨bb, k, none⟩ = some (.string (tb x))) := Lib.hid (fun W hW => (hW.cell (p := ⟨bb, k, none⟩) hbl).trans hrb)
          generalize tb x = tx at HRA HRB
          clear hx hra hrb hal hbl a1 b1
          subst hA hB
          go_wp2_with fail
          refine wp_region_held_drew (S := (fun W : World => Below w2.heap.size w2 W)) (by kernel_rfl) HBW.out.drew (fun hHeld => ?_)
          refine wpAnyH_take (i := 0) (oi := ({ dst := some 68, op := Go.Op.fieldAddr 26 (Go.Operand.tmp 2) 1, type := 0, pos := "law.go:31", after := #[], guard := none } : Oper)) (v := .pointer (some ⟨g1, 1, none⟩)) rfl (by kernel_rfl) (by kernel_rfl) (by kernel_rfl) (fun _ _ _ h => h) (Or.inl ⟨by rfl, fun w' _ => ?_⟩) hHeld ?_
          · go_simp
          try simp only [Act.put, List.setIfInBounds_toArray, List.set_cons_zero, List.set_cons_succ]
          refine wpAnyH_take (i := 1) (oi := ({ dst := some 69, op := Go.Op.load 24 (Go.Operand.tmp 68), type := 24, pos := "law.go:31", after := #[{ on := 0, ground := Go.Ground.data }], guard := none } : Oper)) (v := .slice (some ⟨ba, 0, none⟩) m m) rfl (by kernel_rfl) (by kernel_rfl) (by kernel_rfl) (fun _ _ _ h => h) (Or.inl ⟨by rfl, fun w' hS' => ?_⟩) hHeld ?_
          · have hcell := HA1.out _ hS'
            go_simp
          try simp only [Act.put, List.setIfInBounds_toArray, List.set_cons_zero, List.set_cons_succ]
          refine wpAnyH_take (i := 2) (oi := ({ dst := some 70, op := Go.Op.move (Go.Operand.tmp 6), type := 3, pos := "law.go:31", after := #[], guard := none } : Oper)) (v := .int .i64 k) rfl (by kernel_rfl) (by kernel_rfl) (by kernel_rfl) (fun _ _ _ h => h) (Or.inl ⟨by rfl, fun w' _ => ?_⟩) hHeld ?_
          · go_simp
          try simp only [Act.put, List.setIfInBounds_toArray, List.set_cons_zero, List.set_cons_succ]
          refine wpAnyH_take (i := 3) (oi := ({ dst := some 71, op := Go.Op.indexAddr 24 (Go.Operand.tmp 69) (Go.Operand.tmp 70), type := 0, pos := "law.go:31", after := #[{ on := 1, ground := Go.Ground.data }, { on := 2, ground := Go.Ground.data }], guard := none } : Oper)) (v := .pointer (some ⟨ba, k, none⟩)) rfl (by kernel_rfl) (by kernel_rfl) (by kernel_rfl) (fun _ _ _ h => h) (Or.inl ⟨by rfl, fun w' _ => ?_⟩) hHeld ?_
          · go_simp
          try simp only [Act.put, List.setIfInBounds_toArray, List.set_cons_zero, List.set_cons_succ]
          refine wpAnyH_take (i := 4) (oi := ({ dst := some 72, op := Go.Op.load 9 (Go.Operand.tmp 71), type := 9, pos := "law.go:31", after := #[{ on := 3, ground := Go.Ground.data }], guard := none } : Oper)) (v := .string tx) rfl (by kernel_rfl) (by kernel_rfl) (by kernel_rfl) (fun _ _ _ h => h) (Or.inl ⟨by rfl, fun w' hS' => ?_⟩) hHeld ?_
          · have hcell := HRA.out _ hS'
            go_simp
          try simp only [Act.put, List.setIfInBounds_toArray, List.set_cons_zero, List.set_cons_succ]
          refine wpAnyH_take (i := 5) (oi := ({ dst := some 73, op := Go.Op.fieldAddr 26 (Go.Operand.tmp 3) 1, type := 0, pos := "law.go:31", after := #[], guard := none } : Oper)) (v := .pointer (some ⟨g2, 1, none⟩)) rfl (by kernel_rfl) (by kernel_rfl) (by kernel_rfl) (fun _ _ _ h => h) (Or.inl ⟨by rfl, fun w' _ => ?_⟩) hHeld ?_
          · go_simp
          try simp only [Act.put, List.setIfInBounds_toArray, List.set_cons_zero, List.set_cons_succ]
          refine wpAnyH_take (i := 6) (oi := ({ dst := some 74, op := Go.Op.load 24 (Go.Operand.tmp 73), type := 24, pos := "law.go:31", after := #[{ on := 5, ground := Go.Ground.data }], guard := none } : Oper)) (v := .slice (some ⟨bb, 0, none⟩) m m) rfl (by kernel_rfl) (by kernel_rfl) (by kernel_rfl) (fun _ _ _ h => h) (Or.inl ⟨by rfl, fun w' hS' => ?_⟩) hHeld ?_
          · have hcell := HC1.out _ hS'
            go_simp
          try simp only [Act.put, List.setIfInBounds_toArray, List.set_cons_zero, List.set_cons_succ]
          refine wpAnyH_take (i := 7) (oi := ({ dst := some 75, op := Go.Op.move (Go.Operand.tmp 6), type := 3, pos := "law.go:31", after := #[], guard := none } : Oper)) (v := .int .i64 k) rfl (by kernel_rfl) (by kernel_rfl) (by kernel_rfl) (fun _ _ _ h => h) (Or.inl ⟨by rfl, fun w' _ => ?_⟩) hHeld ?_
          · go_simp
          try simp only [Act.put, List.setIfInBounds_toArray, List.set_cons_zero, List.set_cons_succ]
          refine wpAnyH_take (i := 8) (oi := ({ dst := some 76, op := Go.Op.indexAddr 24 (Go.Operand.tmp 74) (Go.Operand.tmp 75), type := 0, pos := "law.go:31", after := #[{ on := 6, ground := Go.Ground.data }, { on := 7, ground := Go.Ground.data }], guard := none } : Oper)) (v := .pointer (some ⟨bb, k, none⟩)) rfl (by kernel_rfl) (by kernel_rfl) (by kernel_rfl) (fun _ _ _ h => h) (Or.inl ⟨by rfl, fun w' _ => ?_⟩) hHeld ?_
          · go_simp
          try simp only [Act.put, List.setIfInBounds_toArray, List.set_cons_zero, List.set_cons_succ]
          refine wpAnyH_take (i := 9) (oi := ({ dst := some 77, op := Go.Op.load 9 (Go.Operand.tmp 76), type := 9, pos := "law.go:31", after := #[{ on := 8, ground := Go.Ground.data }], guard := none } : Oper)) (v := .string tx) rfl (by kernel_rfl) (by kernel_rfl) (by kernel_rfl) (fun _ _ _ h => h) (Or.inl ⟨by rfl, fun w' hS' => ?_⟩) hHeld ?_
          · have hcell := HRB.out _ hS'
            go_simp
          try simp only [Act.put, List.setIfInBounds_toArray, List.set_cons_zero, List.set_cons_succ]
          refine wpAnyH_take (i := 10) (oi := ({ dst := some 78, op := Go.Op.binOp Go.BinOp.neq 9 (Go.Operand.tmp 72) (Go.Operand.tmp 77) 9, type := 4, pos := "law.go:31", after := #[{ on := 4, ground := Go.Ground.data }, { on := 9, ground := Go.Ground.data }], guard := none } : Oper)) (v := .bool false) rfl (by kernel_rfl) (by kernel_rfl) (by kernel_rfl) (fun _ _ _ h => h) (Or.inl ⟨by rfl, fun w' _ => ?_⟩) hHeld ?_
          · go_simp
          try simp only [Act.put, List.setIfInBounds_toArray, List.set_cons_zero, List.set_cons_succ]
          refine wpAnyH_done (by kernel_rfl) ?_ _
          have HBn := Lib.hid hHeld
          clear hHeld
          go_wp2_with fail
          go_roundg g
          case measure => omega
          case rel => exact ⟨k + 1, by go_num, by omega, HBn⟩
        · have hkI : ¬ (k : Int) < (m : Int) := by omega
          have HBe := Lib.hid (HB2.out.trans (HBW.out.mono (by have := HB2.out.size; omega)))
          go_wp2_with fail
          go_ret
          exact ⟨rfl, HBe.out⟩
set_option maxRecDepth 100000 in
set_option maxHeartbeats 8000000 in
theorem right7_e (c : ConfM) (va : Value) (w : World) (he : AEnv w) (ha : CV w va c) (hR : RightC c) :
    Calls Tryz.prog 13 #[va] w fun e w' => e = .returned (.bool true) ∧ Below w.heap.size w w' := by
  obtain ⟨A, A', ca, rfl, hsa, hea, h16⟩ := ha.form
  obtain ⟨srv, sea, dots, tmo, att⟩ := c
  simp only [cfV] at *
  have r1 : ((srv.length : Nat) : Int) ≤ 3 := by have := hR.srv; simp only at this; omega
  have r2 : ((sea.length : Nat) : Int) ≤ 6 := by have := hR.sea; simp only at this; omega
  have r3 : (dots : Int) ≤ 15 := by have := hR.dots; simp only at this; omega
  have r4 : (1 : Int) ≤ (tmo : Int) := by have := hR.t1; simp only at this; omega
  have r5 : (tmo : Int) ≤ 30 := by have := hR.t2; simp only at this; omega
  have r6 : (1 : Int) ≤ (att : Int) := by have := hR.a1; simp only at this; omega
  have r7 : (att : Int) ≤ 5 := by have := hR.a2; simp only at this; omega
  have r8 : (0 : Int) ≤ (dots : Int) := by omega
  have HO := Lib.hid hR.out
  have HEA := Lib.hid hea
  have HE := Lib.hid he
  obtain ⟨n, hn⟩ : ∃ n, srv.length = n := ⟨_, rfl⟩
  obtain ⟨m, hm⟩ : ∃ m, sea.length = m := ⟨_, rfl⟩
  rw [hn] at r1 ⊢
  rw [hm] at r2 ⊢
  have HM := Lib.hid hm
  have hb1 : Below w.heap.size w (w.alloc (.cells #[.slice A n ca, .slice A' m m, .int .i64 (dots : Int), .int .i64 (tmo : Int), .int .i64 (att : Int)] 26)) := (Below.refl _ w).alloc (Nat.le_refl _) _
  have HB1 := Lib.hid hb1
  clear ha hR hsa hea h16 hn hm he hb1
  go_enter Tryz.func13, Tryz.ntmps13
  go_wp2_with fail
  go_loopg [51, 3, 5, 6, 7] m (fun gk i ok _ _ _ wr => ∃ k : Nat, i = .int .i64 k ∧ ok = .bool true ∧ k + gk = m ∧ Hid (Below w.heap.size w wr))
  case atStart => exact ⟨0, rfl, rfl, by omega, HB1⟩
  case round =>
    obtain ⟨k, rfl, rfl, hk, HBW⟩ := hrel
    by_cases hkm : k < m
    · obtain ⟨g, rfl⟩ : ∃ g', gk = g' + 1 := ⟨gk - 1, by omega⟩
      obtain ⟨x, hx⟩ : ∃ x, sea[k]? = some x := ⟨_, List.getElem?_eq_getElem (by rw [HM.out]; exact hkm)⟩
      have hkI : (k : Int) < (m : Int) := by omega
      have htx := HO.out x (List.mem_of_getElem? hx)
      obtain ⟨ba, hA, hal, hra⟩ := HEA.out.row hx
      have hcx := (HBW.out.cell (p := ⟨ba, k, none⟩) hal).trans hra
      have hxl := htx.right.2.1
      have hta := toASCII_any (tb x) wr (HE.out.below HBW.out).env (by rw [Lib.size_eq, tb_data]; omega)
      rw [tb_data] at hta
      have HTX := Lib.hid htx
      have HTB : Hid (∀ y : ByteArray, TA x 0 y.data.toList → y = tb x) := Lib.hid (fun y hy => bytes_inj (by rw [tb_data]; exact (hy.det htx).2))
      generalize tb x = tx at hcx hta HTB
      clear hx hra hal htx hxl
      subst hA
      go_wp2_with fail
      refine hta.mono ?_
      rintro e w6 ⟨q, y, rfl, hb6, hty⟩
      obtain ⟨rfl, hy⟩ := hty.det HTX.out
      obtain rfl := HTB.out y (by rw [hy]; exact HTX.out)
      have HB6 := Lib.hid (HBW.out.trans (hb6.mono HBW.out.size))
      clear hta hb6 hty hcx hy
      go_wp2_with fail
      go_roundg g
      case measure => omega
      case rel => exact ⟨k + 1, by go_num, rfl, by omega, HB6⟩
    · have hkI : ¬ (k : Int) < (m : Int) := by omega
      go_wp2_with fail
      go_ret
      exact ⟨rfl, HBW.out⟩
end Go.Proofs.YtpnlgojbmjfhhaaGreatDoor
