/-
  The walk of ChaseRings: names that lead round come to an end. No condition.
-/
import Derived.Test.YtgbijhinihchgaaChAt
namespace Go.Proofs.Ytgbijhinihchgaa
open Go.RowKit

/-- a ring's records -/
def rgR (n i : Nat) : RV := ⟨nmR n i, 5, 5 + (i : Int), zero16, nmR n (i + 1), ⟨#[]⟩⟩
def rgL (n k : Nat) : List RV := (List.range k).map (rgR n)
theorem rgL_snoc (n k : Nat) : rgL n (k + 1) = rgL n k ++ [rgR n k] := by unfold rgL; rw [List.range_succ, List.map_append]; rfl
theorem rgL_len (n k : Nat) : (rgL n k).length = k := by unfold rgL; simp
theorem rgL_ad (n k : Nat) : ∀ r ∈ rgL n k, r.ad.length = 16 := fun r hr => by
  unfold rgL at hr
  obtain ⟨i, _, rfl⟩ := List.mem_map.1 hr
  rfl
theorem builtCn (S T : ByteArray) (t : Int) : Try.prog.built 41 [(0, .string S), (1, .int .i64 5), (2, .int .i64 t), (4, .string T)] = some (RV.cells ⟨S, 5, t, zero16, T, ⟨#[]⟩⟩) := by kernel_rfl
def nmR0 : ByteArray := ⟨#[114, 48]⟩
theorem rg_of {n : Nat} (h1 : 1 ≤ n) (h8 : n ≤ 8) : ofF 0 nmR0 1 (rgL n n) [] = if 8 % n = 0 then ⟨5, [], ⟨#[]⟩, 0⟩ else ⟨0, [], nmR n 8, 5⟩ := by
  rw [ofD_eq]
  rcases (show n = 1 ∨ n = 2 ∨ n = 3 ∨ n = 4 ∨ n = 5 ∨ n = 6 ∨ n = 7 ∨ n = 8 by omega) with rfl | rfl | rfl | rfl | rfl | rfl | rfl | rfl
  all_goals kernel_rfl
def anC (S : ByteArray) (ty : Int) (v : Value) : Array Value := #[.int .i64 0, .bool false, .bool false, .bool false, .int .i64 0, .string S, .int .i64 ty, v, .slice none 0 0]
theorem builtAn (S : ByteArray) (ty : Int) : Try.prog.built 32 [(5, .agg #[.string S, .int .i64 ty])] = some (anC S ty (.slice none 0 0)) := by kernel_rfl
theorem anC_of (S : ByteArray) (ty : Int) (l : List RV) (had : ∀ r ∈ l, r.ad.length = 16) (hl : l.length ≤ 900) (W : World) (A : Option Addr) (c : Nat) (hW : RecsAt W A l) : Calls Try.prog 10 #[.agg (anC S ty (.slice A l.length c))] W (FdPost W (ofF 0 S ty l [])) :=
  of_e ⟨0, false, false, false, 0, S, ty, A, c, l, none, 0, []⟩ had (fun r hr => by cases hr) hl (by show 0 ≤ 900; omega) W hW recsAt_none
section
variable {P : Program} {ops : Array Oper} {o : Oper} {a : Act}
theorem yieldsIf_build {S : World → Prop} (hw : Region.wanted o (yielded ops a.tmps) = true) (t : TypeId) (parts : Array (Nat × Operand)) (ho : o.op = .build t parts) (vals : List (Nat × Value)) (cs : Array Value)
    (hv : (parts.toList.map fun (i, x) => (i, a.eval x)) = vals) (hf : P.built t vals = some cs) : YieldsIf P ops S o (.agg cs) a :=
  .inl ⟨hw, fun w _ => by
    rw [← hv, ← Array.toList_map] at hf
    unfold execOp
    simp only [ho, Sem.run_bind, run_build w t _ cs hf, Result.andThen_ok, Sem.run_pure]⟩
end
set_option maxRecDepth 100000 in
set_option maxHeartbeats 16000000 in
theorem chaseRings_walk (n0 : Int) (w : World) :
    Calls Try.prog 4 #[.int .i64 n0] w fun e w' => e = .returned (.bool true) ∧ Below w.heap.size w w' := by
  have HFit := Lib.hid fit15_e
  obtain ⟨hb1, hb1l⟩ := bN_e n0 7 (by omega)
  generalize bN n0 7 = b at hb1 hb1l
  have hb1 : bits BinOp.and IntKind.i64 n0 7 = (b : Int) := hb1
  obtain ⟨n, hn⟩ : ∃ n : Nat, n = b + 1 := ⟨_, rfl⟩
  have hnI : (b : Int) + 1 = (n : Int) := by omega
  have hn1 : 1 ≤ n := by omega
  have hn8 : n ≤ 8 := by omega
  have hn1I : (1 : Int) ≤ (n : Int) := by omega
  have hn8I : (n : Int) ≤ 8 := by omega
  have HOf : Hid (∀ U A c, RecsAt U A (rgL n n) → Calls Try.prog 10 #[.agg (anC nmR0 1 (.slice A n c))] U (FdPost U (if 8 % n = 0 then ⟨5, [], ⟨#[]⟩, 0⟩ else ⟨0, [], nmR n 8, 5⟩))) := Lib.hid (fun U A c hU => by
    have h := anC_of nmR0 1 (rgL n n) (rgL_ad n n) (by rw [rgL_len]; omega) U A c hU
    rw [rg_of hn1 hn8, rgL_len] at h
    exact h)
  have HBm : Hid (Try.prog.built 32 [(5, .agg #[.string ⟨#[114, 48]⟩, .int .i64 1])] = some (anC nmR0 1 (.slice none 0 0))) := Lib.hid (builtAn nmR0 1)
  have HC7 : Hid (∀ v, (anC nmR0 1 v)[7]? = some v) := Lib.hid (fun _ => rfl)
  have HCC : Hid (∀ v v1, (anC nmR0 1 v).setIfInBounds 7 v1 = anC nmR0 1 v1) := Lib.hid (fun _ _ => rfl)
  have SM : Hid (∀ v, (Try.prog.info? 32).map (·.size) = some (anC nmR0 1 v).size) := Lib.hid (fun _ => sizeM)
  have ZMc : Hid (∀ v, zMsg.size = (anC nmR0 1 v).size) := Lib.hid (fun _ => rfl)
  have OM : Hid ((anC nmR0 1 (.slice none 0 0)).all (·.oneCell') = true) := Lib.hid (by simp [anC, Value.oneCell'])
  have ZM := Lib.hid zeroM
  have HZF := Lib.hid zeroF
  have HBc := Lib.hid builtCn
  obtain ⟨i0, hi, hz0, hz1, hz2⟩ := info_rec
  have HI := Lib.hid hi
  have HZ0 := Lib.hid hz0
  have HZ1 := Lib.hid hz1
  have HZ2 := Lib.hid hz2
  clear hi hz0 hz1 hz2 hn
  generalize anC nmR0 1 = C at HOf HBm HC7 HCC SM ZMc OM
  go_enter Try.func4, Try.ntmps4
  go_wp2_with fail
  refine (HFit.out _).mono ?_
  rintro e w1 ⟨rfl, hbw1⟩
  have hq0 : w1.heap[w.heap.size]? = some (.cells #[.int .i64 n0] 3 (0, 0)) := (hbw1.block _ (by rw [World.size_alloc]; omega)).trans (heap_alloc_last w _)
  have e0 := (cell_of_row w1 w.heap.size 0 _ _ _ hq0).trans (rfl : _ = some (Value.int .i64 n0))
  have f0 := frozen_of_row w1 w.heap.size 0 _ _ hq0
  have hq1 := heap_setCell_same w1 w.heap.size 0 _ _ (.int .i64 (n : Int)) hq0
  have hbx : Below w.heap.size w (w1.setCell ⟨w.heap.size, 0, none⟩ (.int .i64 (n : Int))) := (((Below.refl _ w).alloc (Nat.le_refl _) (.cells #[.int .i64 n0] 3)).trans (hbw1.mono (by rw [World.size_alloc]; omega))).setCell (p := ⟨w.heap.size, 0, none⟩) (Nat.le_refl _) _
  have HUb := Lib.hid hbx
  have HQ1 := Lib.hid hq1
  clear hq0 hq1 hbx hbw1
  go_upto_region 4 with fail
  clear e0 f0
  generalize w1.setCell ⟨w.heap.size, 0, none⟩ (.int .i64 (n : Int)) = Wb at HUb HQ1 ⊢
  have HNc : Hid (∀ U, Below Wb.heap.size Wb U → U.cell? ⟨w.heap.size, 0, none⟩ = some (.int .i64 (n : Int))) := Lib.hid (fun U hU => by
    have h := cell_of_row U w.heap.size 0 _ _ _ ((hU.block _ (heap_lt HQ1.out)).trans HQ1.out)
    exact h.trans rfl)
  have HP0 : Hid (WaAt (Wb.heap.size + 1) Wb (Wb.alloc (.cells (C (.slice none 0 0)) 32)) Wb.heap.size C (rgL n 0) (.slice none 0 0)) := Lib.hid ⟨heap_alloc_last Wb _, World.ownsRow_nil _ _ _ _, (Below.refl _ Wb).alloc (Nat.le_refl _) _, by omega, Nat.le_refl _, by rw [World.size_alloc]; omega⟩
  have eN := HNc.out _ HP0.out.below
  have HAt : Hid (∀ (i : Nat) U, Below Wb.heap.size Wb U → Calls Try.prog 13 #[.int .i64 (i : Int), .pointer (some ⟨w.heap.size, 0, none⟩)] U fun e w' => e = .returned (.string (nmR n i)) ∧ Below U.heap.size U w') := Lib.hid (fun i U hU => atR_e i n hn1 hn8 _ U (HNc.out U hU))
  clear HQ1
  go_wp2_with (first
    | (refine wpList_build_v rfl 32 #[(5, .tmp 12)] rfl _ (C (.slice none 0 0)) HBm.out rfl ?_; go_simp)
    | (refine wpList_alloc_z rfl 32 rfl zMsg ZM.out ?_; go_simp)
    | (refine wpList_store_new rfl 32 (.tmp 3) (.tmp 13) rfl Wb.heap.size rfl zMsg (C (.slice none 0 0)) 32 rfl rfl (SM.out _) (ZMc.out _) OM.out ?_; go_simp))
  clear eN
  generalize hbase : Wb.heap.size + 1 = base at HP0
  generalize hgw : Wb.heap.size = gw at HP0 hbase ⊢
  clear hbase hgw
  have HSs : Hid (∀ U RS v, WaAt base Wb U gw C RS v → Below w.heap.size w U) := Lib.hid (fun U RS v h => HUb.out.trans (h.below.mono HUb.out.size))
  go_loopw [16] (fun i wr => ∃ (k : Nat) (v : Value), k ≤ n ∧ i = .int .i64 k ∧ Hid (WaAt base Wb wr gw C (rgL n k) v)) (fun i _ => n - (intOf i).toNat)
  case atStart => exact ⟨0, _, by omega, rfl, HP0⟩
  case round =>
    clear HP0 HBm OM ZM HFit
    obtain ⟨k, v, hk, rfl, HP⟩ := hrel
    by_cases hlt : k < n
    · have hkI : (k : Int) < (n : Int) := by omega
      have HAt1 := Lib.hid (HAt.out k)
      have HAt2 : Hid (∀ U, Below Wb.heap.size Wb U → Calls Try.prog 13 #[.int .i64 ((k : Int) + 1), .pointer (some ⟨w.heap.size, 0, none⟩)] U fun e w' => e = .returned (.string (nmR n (k + 1))) ∧ Below U.heap.size U w') := Lib.hid (fun U hU => by have h := HAt.out (k + 1) U hU; rwa [Int.natCast_succ] at h)
      have hBc : Try.prog.built 41 [(0, .string (nmR n k)), (1, .int .i64 5), (2, .int .i64 (5 + (k : Int))), (4, .string (nmR n (k + 1)))] = some (rgR n k).cells := HBc.out _ _ _
      obtain ⟨rl, hrl⟩ : ∃ rl : List Value, (rgR n k).cells = rl.toArray := ⟨(rgR n k).cells.toList, by rw [Array.toArray_toList]⟩
      have HRl : Hid ((rgR n k).cells.toList = rl) := Lib.hid (by rw [hrl])
      have HCL : Hid (rl.length = 21) := Lib.hid (by have h := RV.size (r := rgR n k) rfl; rw [hrl] at h; simpa using h)
      have HC1 : Hid (∀ u ∈ rl, u.oneCell' = true) := Lib.hid (fun u hu => by
        have h := RV.one (rgR n k)
        rw [hrl, Array.all_eq_true'] at h
        exact h u (by simpa using hu))
      rw [hrl] at hBc
      have HBr := Lib.hid hBc
      clear hBc hrl
      generalize nmR n k = n1 at HAt1 HBr
      generalize nmR n (k + 1) = n2 at HAt2 HBr
      obtain ⟨nr, hnr⟩ : ∃ nr, nr = k := ⟨_, rfl⟩
      have hnr9 : nr ≤ 8 := by omega
      have HLk : Hid ((rgL n k).length = nr) := Lib.hid (by rw [rgL_len, hnr])
      have HSn := Lib.hid (rgL_snoc n k)
      clear hnr
      generalize rgL n k = RS at HP HLk HSn
      obtain ⟨rcs0, hrcs0⟩ : ∃ rcs0, rcs0 = rcs RS := ⟨_, rfl⟩
      have HOw : Hid (∀ U, WaAt base Wb U gw C RS v → U.ownsRow base 41 21 v nr rcs0) := Lib.hid (fun U h => by rw [hrcs0, ← HLk.out]; exact h.own)
      have HAp : Hid (∀ U, WaAt base Wb U gw C RS v → ∀ v1 w1, w1.ownsRow base 41 21 v1 (nr + 1) (rcs0 ++ rl) → U.grownBy w1 v.ownBlock → w1.heap[gw]? = some (.cells (C v) 32 (0, 0)) ∧ Below w.heap.size w w1 ∧ WaAt base Wb (w1.setCell ⟨gw, 7, none⟩ v1) gw C (rgL n (k + 1)) v1) := Lib.hid (fun U h v1 w1 h1 h2 => by
        have ha := h.app HCC.out (r := rgR n k) (by rw [HLk.out, HRl.out, ← hrcs0]; exact h1) h2
        refine ⟨ha.1, ?_, by rw [HSn.out]; exact ha.2⟩
        have hb := h.below.grown h2 h.below.size (fun j hj => by have := (h.own.lt j hj).1; have := h.hgw; have := h.hub; omega)
        exact HUb.out.trans (hb.mono HUb.out.size))
      clear hrcs0 HLk HSn HRl HBc
      have hwA : IntKind.i64.wrap (5 + (k : Int)) = 5 + (k : Int) := IntWalk.i64_in _ (by omega)
      have hwB : IntKind.i64.wrap ((k : Int) + 1) = (k : Int) + 1 := IntWalk.i64_in _ (by omega)
      go_upto_region 9 with fail
      refine wp_region_held_drew (S := (fun W : World => Below w.heap.size w W)) (by kernel_rfl) (HSs.out _ _ _ HP.out).drew (fun hHeld => ?_)
      have HM0 := Lib.hid (HP.out.to (Below.refl _ wr).drew)
      generalize wr.drew = V0 at HM0 hHeld ⊢
      refine wpAnyH_take (i := 0) (oi := ({ dst := some 19, op := Go.Op.fieldAddr 32 (Go.Operand.tmp 3) 6, type := 0, pos := "law.go:99", after := #[], guard := none } : Oper)) (v := .pointer (some ⟨gw, 7, none⟩)) rfl (by kernel_rfl) (by kernel_rfl) (by kernel_rfl) (fun _ _ _ h => h) (Or.inl ⟨by rfl, fun w' hS' => ?_⟩) hHeld ?_
      · go_simp
      try simp only [Act.put, List.setIfInBounds_toArray, List.set_cons_zero, List.set_cons_succ]
      refine wpAnyH_take (i := 2) (oi := ({ dst := some 21, op := Go.Op.move (Go.Operand.tmp 4), type := 44, pos := "law.go:99", after := #[], guard := none } : Oper)) (v := .func (.func 13) #[] #[.pointer (some ⟨w.heap.size, 0, none⟩)]) rfl (by kernel_rfl) (by kernel_rfl) (by kernel_rfl) (fun _ _ _ h => h) (Or.inl ⟨by rfl, fun w' hS' => ?_⟩) hHeld ?_
      · go_simp
      try simp only [Act.put, List.setIfInBounds_toArray, List.set_cons_zero, List.set_cons_succ]
      refine wpAnyH_take (i := 3) (oi := ({ dst := some 22, op := Go.Op.move (Go.Operand.tmp 5), type := 3, pos := "law.go:99", after := #[], guard := none } : Oper)) (v := .int .i64 (k : Int)) rfl (by kernel_rfl) (by kernel_rfl) (by kernel_rfl) (fun _ _ _ h => h) (Or.inl ⟨by rfl, fun w' hS' => ?_⟩) hHeld ?_
      · go_simp
      try simp only [Act.put, List.setIfInBounds_toArray, List.set_cons_zero, List.set_cons_succ]
      refine wpAnyH_take (i := 5) (oi := ({ dst := some 24, op := Go.Op.move (Go.Operand.tmp 5), type := 3, pos := "law.go:99", after := #[], guard := none } : Oper)) (v := .int .i64 (k : Int)) rfl (by kernel_rfl) (by kernel_rfl) (by kernel_rfl) (fun _ _ _ h => h) (Or.inl ⟨by rfl, fun w' hS' => ?_⟩) hHeld ?_
      · go_simp
      try simp only [Act.put, List.setIfInBounds_toArray, List.set_cons_zero, List.set_cons_succ]
      refine wpAnyH_take (i := 6) (oi := ({ dst := some 25, op := Go.Op.binOp Go.BinOp.add 3 (Go.Operand.const (Go.Value.int Go.IntKind.i64 5)) (Go.Operand.tmp 24) 3, type := 3, pos := "law.go:99", after := #[{ on := 5, ground := Go.Ground.data }], guard := none } : Oper)) (v := .int .i64 (5 + (k : Int))) rfl (by kernel_rfl) (by kernel_rfl) (by kernel_rfl) (fun _ _ _ h => h) (Or.inl ⟨by rfl, fun w' hS' => ?_⟩) hHeld ?_
      · go_simp
      try simp only [Act.put, List.setIfInBounds_toArray, List.set_cons_zero, List.set_cons_succ]
      refine wpAnyH_take (i := 7) (oi := ({ dst := some 26, op := Go.Op.move (Go.Operand.tmp 4), type := 44, pos := "law.go:99", after := #[], guard := none } : Oper)) (v := .func (.func 13) #[] #[.pointer (some ⟨w.heap.size, 0, none⟩)]) rfl (by kernel_rfl) (by kernel_rfl) (by kernel_rfl) (fun _ _ _ h => h) (Or.inl ⟨by rfl, fun w' hS' => ?_⟩) hHeld ?_
      · go_simp
      try simp only [Act.put, List.setIfInBounds_toArray, List.set_cons_zero, List.set_cons_succ]
      refine wpAnyH_take (i := 8) (oi := ({ dst := some 27, op := Go.Op.move (Go.Operand.tmp 5), type := 3, pos := "law.go:99", after := #[], guard := none } : Oper)) (v := .int .i64 (k : Int)) rfl (by kernel_rfl) (by kernel_rfl) (by kernel_rfl) (fun _ _ _ h => h) (Or.inl ⟨by rfl, fun w' hS' => ?_⟩) hHeld ?_
      · go_simp
      try simp only [Act.put, List.setIfInBounds_toArray, List.set_cons_zero, List.set_cons_succ]
      refine wpAnyH_take (i := 9) (oi := ({ dst := some 28, op := Go.Op.binOp Go.BinOp.add 3 (Go.Operand.tmp 27) (Go.Operand.const (Go.Value.int Go.IntKind.i64 1)) 3, type := 3, pos := "law.go:99", after := #[{ on := 8, ground := Go.Ground.data }], guard := none } : Oper)) (v := .int .i64 ((k : Int) + 1)) rfl (by kernel_rfl) (by kernel_rfl) (by kernel_rfl) (fun _ _ _ h => h) (Or.inl ⟨by rfl, fun w' hS' => ?_⟩) hHeld ?_
      · go_simp
      try simp only [Act.put, List.setIfInBounds_toArray, List.set_cons_zero, List.set_cons_succ]
      refine wpAnyH_ready (rs := [1, 4]) (by kernel_rfl) (by simp) ?_
      refine (AllReadyH.cons (o := ({ dst := some 20, op := Go.Op.load 30 (Go.Operand.tmp 19), type := 30, pos := "law.go:99", after := #[{ on := 0, ground := Go.Ground.data }], guard := none } : Oper)) rfl (fun K hK => ?_) (AllReadyH.cons (o := ({ dst := some 23, op := Go.Op.call { callee := Go.Callee.value (Go.Operand.tmp 21), args := #[Go.Operand.tmp 22], argTypes := #[3] }, type := 9, pos := "law.go:99", after := #[{ on := 2, ground := Go.Ground.data }, { on := 3, ground := Go.Ground.data }], guard := none } : Oper)) rfl (fun K hK => ?_) AllReadyH.nil))
      · have d7 := (cell_of_row _ gw 7 _ _ _ HM0.out.ws).trans (HC7.out v)
        go_simp
        clear d7
        refine hK.out _ _ hHeld (fun hHeld => ?_)
        clear hK K
        try simp only [Act.put, List.setIfInBounds_toArray, List.set_cons_zero, List.set_cons_succ]
        refine wpAnyH_ready (rs := [4]) (by kernel_rfl) (by simp) ?_
        refine (AllReadyH.cons (o := ({ dst := some 23, op := Go.Op.call { callee := Go.Callee.value (Go.Operand.tmp 21), args := #[Go.Operand.tmp 22], argTypes := #[3] }, type := 9, pos := "law.go:99", after := #[{ on := 2, ground := Go.Ground.data }, { on := 3, ground := Go.Ground.data }], guard := none } : Oper)) rfl (fun K hK => ?_) AllReadyH.nil)
        go_simp
        go_at_call 13
        refine (HAt1.out _ HM0.out.below).mono ?_
        rintro e' U1 ⟨rfl, hbm⟩
        have HM2 := Lib.hid (HM0.out.to hbm)
        refine hK.out _ _ (HSs.out _ _ _ HM2.out) (fun hHeld => ?_)
        clear hK K hbm
        try simp only [Act.put, List.setIfInBounds_toArray, List.set_cons_zero, List.set_cons_succ]
        refine wpAnyH_ready (rs := [10]) (by kernel_rfl) (by simp) ?_
        refine (AllReadyH.cons (o := ({ dst := some 29, op := Go.Op.call { callee := Go.Callee.value (Go.Operand.tmp 26), args := #[Go.Operand.tmp 28], argTypes := #[3] }, type := 9, pos := "law.go:99", after := #[{ on := 7, ground := Go.Ground.data }, { on := 9, ground := Go.Ground.data }, { on := 4, ground := Go.Ground.chain }], guard := none } : Oper)) rfl (fun K hK => ?_) AllReadyH.nil)
        go_simp
        go_at_call 13
        refine (HAt2.out _ HM2.out.below).mono ?_
        rintro e' U3 ⟨rfl, hbm⟩
        have HM4 := Lib.hid (HM2.out.to hbm)
        refine hK.out _ _ (HSs.out _ _ _ HM4.out) (fun hHeld => ?_)
        clear hK K hbm
        try simp only [Act.put, List.setIfInBounds_toArray, List.set_cons_zero, List.set_cons_succ]
        refine wpAnyH_take (i := 11) (oi := ({ dst := some 30, op := Go.Op.build 41 #[(0, Go.Operand.tmp 23), (1, Go.Operand.const (Go.Value.int Go.IntKind.i64 5)), (2, Go.Operand.tmp 25), (4, Go.Operand.tmp 29)], type := 41, pos := "law.go:99", after := #[{ on := 4, ground := Go.Ground.data }, { on := 6, ground := Go.Ground.data }, { on := 10, ground := Go.Ground.data }], guard := none } : Oper)) (v := .agg rl.toArray) rfl (by kernel_rfl) (by kernel_rfl) (by kernel_rfl) (fun _ _ _ h => h) (yieldsIf_build (by rfl) 41 #[(0, .tmp 23), (1, .const (.int .i64 5)), (2, .tmp 25), (4, .tmp 29)] rfl [(0, .string n1), (1, .int .i64 5), (2, .int .i64 (5 + (k : Int))), (4, .string n2)] rl.toArray rfl HBr.out) hHeld ?_
        try simp only [Act.put, List.setIfInBounds_toArray, List.set_cons_zero, List.set_cons_succ]
        refine wpAnyH_ready (rs := [12]) (by kernel_rfl) (by simp) ?_
        refine (AllReadyH.cons (o := ({ dst := some 31, op := Go.Op.buildSlice 30 1 #[(0, Go.Operand.tmp 30)], type := 30, pos := "law.go:99", after := #[{ on := 11, ground := Go.Ground.data }], guard := none } : Oper)) rfl (fun K hK => ?_) AllReadyH.nil)
        rw [if_pos (by kernel_rfl)]
        refine wp_buildSlice 30 41 1 _ rfl rl.toArray i0 _ Try.underlying30 HI.out HZ0.out (by rw [HZ1.out]; decide) (by rw [HZ1.out]; decide) (by rw [HZ1.out]; refine (congrArg _ (?_ : _ = [(0, Value.agg rl.toArray)])).trans (fill21c HCL.out); rw [Array.toList_map]; rfl) ?_
        have HM6 := Lib.hid (HM4.out.to ((Below.refl _ U3).alloc (Nat.le_refl _) (.cells rl.toArray 41)))
        have HGb := Lib.hid (heap_alloc_last U3 (.cells rl.toArray 41))
        refine hK.out _ _ (HSs.out _ _ _ HM6.out) (fun hHeld => ?_)
        clear hK K
        try simp only [Act.put, List.setIfInBounds_toArray, List.set_cons_zero, List.set_cons_succ]
        generalize U3.alloc (.cells rl.toArray 41) = U5 at HM6 HGb hHeld ⊢
        generalize U3.heap.size = gB7 at HGb ⊢
        refine wpAnyH_ready (rs := [13]) (by kernel_rfl) (by simp) ?_
        refine (AllReadyH.cons (o := ({ dst := some 32, op := Go.Op.call { callee := Go.Callee.builtin Go.Builtin.append, args := #[Go.Operand.tmp 20, Go.Operand.tmp 31], argTypes := #[30, 30] }, type := 30, pos := "law.go:99", after := #[{ on := 1, ground := Go.Ground.data }, { on := 12, ground := Go.Ground.data }, { on := 10, ground := Go.Ground.chain }], guard := none } : Oper)) rfl (fun K hK => ?_) AllReadyH.nil)
        rw [if_pos (by kernel_rfl)]
        have HO6 := Lib.hid (HOw.out _ HM6.out)
        refine wp_append_own (w := U5) (.tmp 20) (.tmp 31) 30 rfl base 41 i0 _ 21 80 Try.underlying30 HI.out HZ0.out HZ1.out HZ2.out rfl (by decide) v nr rcs0 rfl HO6.out ⟨gB7, 0, none⟩ 1 1 rl rfl (by rw [HCL.out]) (fun j u hj => by rw [Addr.add_lit, Nat.zero_add]; exact (cell_of_row _ _ j _ _ _ HGb.out).trans (by rw [List.getElem?_toArray]; exact hj)) HC1.out (by unfold maxLen; omega) (by omega) HM6.out.hb ?_
        intro v1 U8 ho1 hg1 hnil
        clear hnil
        have hap := HAp.out _ HM6.out _ _ ho1 hg1
        obtain ⟨A1, ca1, rfl⟩ := own_sl4 ho1
        have d9 := (cell_of_row U8 gw 7 _ _ _ hap.1).trans (HC7.out v)
        have f9 := frozen_of_row U8 gw 7 _ _ hap.1
        have HNX := Lib.hid hap.2.2
        refine hK.out _ _ hap.2.1 (fun hHeld => ?_)
        clear hK K ho1 hg1 hap
        try simp only [Act.put, List.setIfInBounds_toArray, List.set_cons_zero, List.set_cons_succ]
        refine wpAnyH_take (i := 14) (oi := ({ dst := some 33, op := Go.Op.fieldAddr 32 (Go.Operand.tmp 3) 6, type := 0, pos := "law.go:99", after := #[{ on := 0, ground := Go.Ground.phase }, { on := 1, ground := Go.Ground.phase }, { on := 2, ground := Go.Ground.phase }, { on := 3, ground := Go.Ground.phase }, { on := 4, ground := Go.Ground.phase }, { on := 5, ground := Go.Ground.phase }, { on := 6, ground := Go.Ground.phase }, { on := 7, ground := Go.Ground.phase }, { on := 8, ground := Go.Ground.phase }, { on := 9, ground := Go.Ground.phase }, { on := 10, ground := Go.Ground.phase }, { on := 11, ground := Go.Ground.phase }, { on := 12, ground := Go.Ground.phase }, { on := 13, ground := Go.Ground.phase }], guard := none } : Oper)) (v := .pointer (some ⟨gw, 7, none⟩)) rfl (by kernel_rfl) (by kernel_rfl) (by kernel_rfl) (fun _ _ _ h => h) (Or.inl ⟨by rfl, fun w' hS' => ?_⟩) hHeld ?_
        · go_simp
        try simp only [Act.put, List.setIfInBounds_toArray, List.set_cons_zero, List.set_cons_succ]
        refine wpAnyH_ready (rs := [15]) (by kernel_rfl) (by simp) ?_
        refine AllReadyH.cons (o := ({ dst := none, op := Go.Op.store 30 (Go.Operand.tmp 33) (Go.Operand.tmp 32), type := 0, pos := "law.go:99", after := #[{ on := 14, ground := Go.Ground.data }, { on := 13, ground := Go.Ground.data }, { on := 13, ground := Go.Ground.chain }, { on := 0, ground := Go.Ground.phase }, { on := 1, ground := Go.Ground.phase }, { on := 2, ground := Go.Ground.phase }, { on := 3, ground := Go.Ground.phase }, { on := 4, ground := Go.Ground.phase }, { on := 5, ground := Go.Ground.phase }, { on := 6, ground := Go.Ground.phase }, { on := 7, ground := Go.Ground.phase }, { on := 8, ground := Go.Ground.phase }, { on := 9, ground := Go.Ground.phase }, { on := 10, ground := Go.Ground.phase }, { on := 11, ground := Go.Ground.phase }, { on := 12, ground := Go.Ground.phase }, { on := 13, ground := Go.Ground.phase }], guard := none } : Oper)) rfl (fun K hK => ?_) AllReadyH.nil
        go_simp
        refine hK.out _ _ (HSs.out _ _ _ HNX.out) (fun _ => ?_)
        clear hK K
        refine wpAnyH_done (by kernel_rfl) ?_ _
        try (go_wp2_with fail)
        go_roundw
        case rel => exact ⟨k + 1, _, by omega, by first | rfl | go_num, HNX⟩
        case measure => simp [intOf]; omega
      · go_simp
        go_at_call 13
        refine (HAt1.out _ HM0.out.below).mono ?_
        rintro e' U9 ⟨rfl, hbm⟩
        have HM10 := Lib.hid (HM0.out.to hbm)
        refine hK.out _ _ (HSs.out _ _ _ HM10.out) (fun hHeld => ?_)
        clear hK K hbm
        try simp only [Act.put, List.setIfInBounds_toArray, List.set_cons_zero, List.set_cons_succ]
        refine wpAnyH_ready (rs := [1, 10]) (by kernel_rfl) (by simp) ?_
        refine (AllReadyH.cons (o := ({ dst := some 20, op := Go.Op.load 30 (Go.Operand.tmp 19), type := 30, pos := "law.go:99", after := #[{ on := 0, ground := Go.Ground.data }], guard := none } : Oper)) rfl (fun K hK => ?_) (AllReadyH.cons (o := ({ dst := some 29, op := Go.Op.call { callee := Go.Callee.value (Go.Operand.tmp 26), args := #[Go.Operand.tmp 28], argTypes := #[3] }, type := 9, pos := "law.go:99", after := #[{ on := 7, ground := Go.Ground.data }, { on := 9, ground := Go.Ground.data }, { on := 4, ground := Go.Ground.chain }], guard := none } : Oper)) rfl (fun K hK => ?_) AllReadyH.nil))
        · have d7 := (cell_of_row _ gw 7 _ _ _ HM10.out.ws).trans (HC7.out v)
          go_simp
          clear d7
          refine hK.out _ _ hHeld (fun hHeld => ?_)
          clear hK K
          try simp only [Act.put, List.setIfInBounds_toArray, List.set_cons_zero, List.set_cons_succ]
          refine wpAnyH_ready (rs := [10]) (by kernel_rfl) (by simp) ?_
          refine (AllReadyH.cons (o := ({ dst := some 29, op := Go.Op.call { callee := Go.Callee.value (Go.Operand.tmp 26), args := #[Go.Operand.tmp 28], argTypes := #[3] }, type := 9, pos := "law.go:99", after := #[{ on := 7, ground := Go.Ground.data }, { on := 9, ground := Go.Ground.data }, { on := 4, ground := Go.Ground.chain }], guard := none } : Oper)) rfl (fun K hK => ?_) AllReadyH.nil)
          go_simp
          go_at_call 13
          refine (HAt2.out _ HM10.out.below).mono ?_
          rintro e' U11 ⟨rfl, hbm⟩
          have HM12 := Lib.hid (HM10.out.to hbm)
          refine hK.out _ _ (HSs.out _ _ _ HM12.out) (fun hHeld => ?_)
          clear hK K hbm
          try simp only [Act.put, List.setIfInBounds_toArray, List.set_cons_zero, List.set_cons_succ]
          refine wpAnyH_take (i := 11) (oi := ({ dst := some 30, op := Go.Op.build 41 #[(0, Go.Operand.tmp 23), (1, Go.Operand.const (Go.Value.int Go.IntKind.i64 5)), (2, Go.Operand.tmp 25), (4, Go.Operand.tmp 29)], type := 41, pos := "law.go:99", after := #[{ on := 4, ground := Go.Ground.data }, { on := 6, ground := Go.Ground.data }, { on := 10, ground := Go.Ground.data }], guard := none } : Oper)) (v := .agg rl.toArray) rfl (by kernel_rfl) (by kernel_rfl) (by kernel_rfl) (fun _ _ _ h => h) (yieldsIf_build (by rfl) 41 #[(0, .tmp 23), (1, .const (.int .i64 5)), (2, .tmp 25), (4, .tmp 29)] rfl [(0, .string n1), (1, .int .i64 5), (2, .int .i64 (5 + (k : Int))), (4, .string n2)] rl.toArray rfl HBr.out) hHeld ?_
          try simp only [Act.put, List.setIfInBounds_toArray, List.set_cons_zero, List.set_cons_succ]
          refine wpAnyH_ready (rs := [12]) (by kernel_rfl) (by simp) ?_
          refine (AllReadyH.cons (o := ({ dst := some 31, op := Go.Op.buildSlice 30 1 #[(0, Go.Operand.tmp 30)], type := 30, pos := "law.go:99", after := #[{ on := 11, ground := Go.Ground.data }], guard := none } : Oper)) rfl (fun K hK => ?_) AllReadyH.nil)
          rw [if_pos (by kernel_rfl)]
          refine wp_buildSlice 30 41 1 _ rfl rl.toArray i0 _ Try.underlying30 HI.out HZ0.out (by rw [HZ1.out]; decide) (by rw [HZ1.out]; decide) (by rw [HZ1.out]; refine (congrArg _ (?_ : _ = [(0, Value.agg rl.toArray)])).trans (fill21c HCL.out); rw [Array.toList_map]; rfl) ?_
          have HM14 := Lib.hid (HM12.out.to ((Below.refl _ U11).alloc (Nat.le_refl _) (.cells rl.toArray 41)))
          have HGb := Lib.hid (heap_alloc_last U11 (.cells rl.toArray 41))
          refine hK.out _ _ (HSs.out _ _ _ HM14.out) (fun hHeld => ?_)
          clear hK K
          try simp only [Act.put, List.setIfInBounds_toArray, List.set_cons_zero, List.set_cons_succ]
          generalize U11.alloc (.cells rl.toArray 41) = U13 at HM14 HGb hHeld ⊢
          generalize U11.heap.size = gB15 at HGb ⊢
          refine wpAnyH_ready (rs := [13]) (by kernel_rfl) (by simp) ?_
          refine (AllReadyH.cons (o := ({ dst := some 32, op := Go.Op.call { callee := Go.Callee.builtin Go.Builtin.append, args := #[Go.Operand.tmp 20, Go.Operand.tmp 31], argTypes := #[30, 30] }, type := 30, pos := "law.go:99", after := #[{ on := 1, ground := Go.Ground.data }, { on := 12, ground := Go.Ground.data }, { on := 10, ground := Go.Ground.chain }], guard := none } : Oper)) rfl (fun K hK => ?_) AllReadyH.nil)
          rw [if_pos (by kernel_rfl)]
          have HO6 := Lib.hid (HOw.out _ HM14.out)
          refine wp_append_own (w := U13) (.tmp 20) (.tmp 31) 30 rfl base 41 i0 _ 21 80 Try.underlying30 HI.out HZ0.out HZ1.out HZ2.out rfl (by decide) v nr rcs0 rfl HO6.out ⟨gB15, 0, none⟩ 1 1 rl rfl (by rw [HCL.out]) (fun j u hj => by rw [Addr.add_lit, Nat.zero_add]; exact (cell_of_row _ _ j _ _ _ HGb.out).trans (by rw [List.getElem?_toArray]; exact hj)) HC1.out (by unfold maxLen; omega) (by omega) HM14.out.hb ?_
          intro v1 U16 ho1 hg1 hnil
          clear hnil
          have hap := HAp.out _ HM14.out _ _ ho1 hg1
          obtain ⟨A1, ca1, rfl⟩ := own_sl4 ho1
          have d9 := (cell_of_row U16 gw 7 _ _ _ hap.1).trans (HC7.out v)
          have f9 := frozen_of_row U16 gw 7 _ _ hap.1
          have HNX := Lib.hid hap.2.2
          refine hK.out _ _ hap.2.1 (fun hHeld => ?_)
          clear hK K ho1 hg1 hap
          try simp only [Act.put, List.setIfInBounds_toArray, List.set_cons_zero, List.set_cons_succ]
          refine wpAnyH_take (i := 14) (oi := ({ dst := some 33, op := Go.Op.fieldAddr 32 (Go.Operand.tmp 3) 6, type := 0, pos := "law.go:99", after := #[{ on := 0, ground := Go.Ground.phase }, { on := 1, ground := Go.Ground.phase }, { on := 2, ground := Go.Ground.phase }, { on := 3, ground := Go.Ground.phase }, { on := 4, ground := Go.Ground.phase }, { on := 5, ground := Go.Ground.phase }, { on := 6, ground := Go.Ground.phase }, { on := 7, ground := Go.Ground.phase }, { on := 8, ground := Go.Ground.phase }, { on := 9, ground := Go.Ground.phase }, { on := 10, ground := Go.Ground.phase }, { on := 11, ground := Go.Ground.phase }, { on := 12, ground := Go.Ground.phase }, { on := 13, ground := Go.Ground.phase }], guard := none } : Oper)) (v := .pointer (some ⟨gw, 7, none⟩)) rfl (by kernel_rfl) (by kernel_rfl) (by kernel_rfl) (fun _ _ _ h => h) (Or.inl ⟨by rfl, fun w' hS' => ?_⟩) hHeld ?_
          · go_simp
          try simp only [Act.put, List.setIfInBounds_toArray, List.set_cons_zero, List.set_cons_succ]
          refine wpAnyH_ready (rs := [15]) (by kernel_rfl) (by simp) ?_
          refine AllReadyH.cons (o := ({ dst := none, op := Go.Op.store 30 (Go.Operand.tmp 33) (Go.Operand.tmp 32), type := 0, pos := "law.go:99", after := #[{ on := 14, ground := Go.Ground.data }, { on := 13, ground := Go.Ground.data }, { on := 13, ground := Go.Ground.chain }, { on := 0, ground := Go.Ground.phase }, { on := 1, ground := Go.Ground.phase }, { on := 2, ground := Go.Ground.phase }, { on := 3, ground := Go.Ground.phase }, { on := 4, ground := Go.Ground.phase }, { on := 5, ground := Go.Ground.phase }, { on := 6, ground := Go.Ground.phase }, { on := 7, ground := Go.Ground.phase }, { on := 8, ground := Go.Ground.phase }, { on := 9, ground := Go.Ground.phase }, { on := 10, ground := Go.Ground.phase }, { on := 11, ground := Go.Ground.phase }, { on := 12, ground := Go.Ground.phase }, { on := 13, ground := Go.Ground.phase }], guard := none } : Oper)) rfl (fun K hK => ?_) AllReadyH.nil
          go_simp
          refine hK.out _ _ (HSs.out _ _ _ HNX.out) (fun _ => ?_)
          clear hK K
          refine wpAnyH_done (by kernel_rfl) ?_ _
          try (go_wp2_with fail)
          go_roundw
          case rel => exact ⟨k + 1, _, by omega, by first | rfl | go_num, HNX⟩
          case measure => simp [intOf]; omega
        · go_simp
          go_at_call 13
          refine (HAt2.out _ HM10.out.below).mono ?_
          rintro e' U17 ⟨rfl, hbm⟩
          have HM18 := Lib.hid (HM10.out.to hbm)
          refine hK.out _ _ (HSs.out _ _ _ HM18.out) (fun hHeld => ?_)
          clear hK K hbm
          try simp only [Act.put, List.setIfInBounds_toArray, List.set_cons_zero, List.set_cons_succ]
          refine wpAnyH_take (i := 11) (oi := ({ dst := some 30, op := Go.Op.build 41 #[(0, Go.Operand.tmp 23), (1, Go.Operand.const (Go.Value.int Go.IntKind.i64 5)), (2, Go.Operand.tmp 25), (4, Go.Operand.tmp 29)], type := 41, pos := "law.go:99", after := #[{ on := 4, ground := Go.Ground.data }, { on := 6, ground := Go.Ground.data }, { on := 10, ground := Go.Ground.data }], guard := none } : Oper)) (v := .agg rl.toArray) rfl (by kernel_rfl) (by kernel_rfl) (by kernel_rfl) (fun _ _ _ h => h) (yieldsIf_build (by rfl) 41 #[(0, .tmp 23), (1, .const (.int .i64 5)), (2, .tmp 25), (4, .tmp 29)] rfl [(0, .string n1), (1, .int .i64 5), (2, .int .i64 (5 + (k : Int))), (4, .string n2)] rl.toArray rfl HBr.out) hHeld ?_
          try simp only [Act.put, List.setIfInBounds_toArray, List.set_cons_zero, List.set_cons_succ]
          refine wpAnyH_ready (rs := [1, 12]) (by kernel_rfl) (by simp) ?_
          refine (AllReadyH.cons (o := ({ dst := some 20, op := Go.Op.load 30 (Go.Operand.tmp 19), type := 30, pos := "law.go:99", after := #[{ on := 0, ground := Go.Ground.data }], guard := none } : Oper)) rfl (fun K hK => ?_) (AllReadyH.cons (o := ({ dst := some 31, op := Go.Op.buildSlice 30 1 #[(0, Go.Operand.tmp 30)], type := 30, pos := "law.go:99", after := #[{ on := 11, ground := Go.Ground.data }], guard := none } : Oper)) rfl (fun K hK => ?_) AllReadyH.nil))
          · have d7 := (cell_of_row _ gw 7 _ _ _ HM18.out.ws).trans (HC7.out v)
            go_simp
            clear d7
            refine hK.out _ _ hHeld (fun hHeld => ?_)
            clear hK K
            try simp only [Act.put, List.setIfInBounds_toArray, List.set_cons_zero, List.set_cons_succ]
            refine wpAnyH_ready (rs := [12]) (by kernel_rfl) (by simp) ?_
            refine (AllReadyH.cons (o := ({ dst := some 31, op := Go.Op.buildSlice 30 1 #[(0, Go.Operand.tmp 30)], type := 30, pos := "law.go:99", after := #[{ on := 11, ground := Go.Ground.data }], guard := none } : Oper)) rfl (fun K hK => ?_) AllReadyH.nil)
            rw [if_pos (by kernel_rfl)]
            refine wp_buildSlice 30 41 1 _ rfl rl.toArray i0 _ Try.underlying30 HI.out HZ0.out (by rw [HZ1.out]; decide) (by rw [HZ1.out]; decide) (by rw [HZ1.out]; refine (congrArg _ (?_ : _ = [(0, Value.agg rl.toArray)])).trans (fill21c HCL.out); rw [Array.toList_map]; rfl) ?_
            have HM20 := Lib.hid (HM18.out.to ((Below.refl _ U17).alloc (Nat.le_refl _) (.cells rl.toArray 41)))
            have HGb := Lib.hid (heap_alloc_last U17 (.cells rl.toArray 41))
            refine hK.out _ _ (HSs.out _ _ _ HM20.out) (fun hHeld => ?_)
            clear hK K
            try simp only [Act.put, List.setIfInBounds_toArray, List.set_cons_zero, List.set_cons_succ]
            generalize U17.alloc (.cells rl.toArray 41) = U19 at HM20 HGb hHeld ⊢
            generalize U17.heap.size = gB21 at HGb ⊢
            refine wpAnyH_ready (rs := [13]) (by kernel_rfl) (by simp) ?_
            refine (AllReadyH.cons (o := ({ dst := some 32, op := Go.Op.call { callee := Go.Callee.builtin Go.Builtin.append, args := #[Go.Operand.tmp 20, Go.Operand.tmp 31], argTypes := #[30, 30] }, type := 30, pos := "law.go:99", after := #[{ on := 1, ground := Go.Ground.data }, { on := 12, ground := Go.Ground.data }, { on := 10, ground := Go.Ground.chain }], guard := none } : Oper)) rfl (fun K hK => ?_) AllReadyH.nil)
            rw [if_pos (by kernel_rfl)]
            have HO6 := Lib.hid (HOw.out _ HM20.out)
            refine wp_append_own (w := U19) (.tmp 20) (.tmp 31) 30 rfl base 41 i0 _ 21 80 Try.underlying30 HI.out HZ0.out HZ1.out HZ2.out rfl (by decide) v nr rcs0 rfl HO6.out ⟨gB21, 0, none⟩ 1 1 rl rfl (by rw [HCL.out]) (fun j u hj => by rw [Addr.add_lit, Nat.zero_add]; exact (cell_of_row _ _ j _ _ _ HGb.out).trans (by rw [List.getElem?_toArray]; exact hj)) HC1.out (by unfold maxLen; omega) (by omega) HM20.out.hb ?_
            intro v1 U22 ho1 hg1 hnil
            clear hnil
            have hap := HAp.out _ HM20.out _ _ ho1 hg1
            obtain ⟨A1, ca1, rfl⟩ := own_sl4 ho1
            have d9 := (cell_of_row U22 gw 7 _ _ _ hap.1).trans (HC7.out v)
            have f9 := frozen_of_row U22 gw 7 _ _ hap.1
            have HNX := Lib.hid hap.2.2
            refine hK.out _ _ hap.2.1 (fun hHeld => ?_)
            clear hK K ho1 hg1 hap
            try simp only [Act.put, List.setIfInBounds_toArray, List.set_cons_zero, List.set_cons_succ]
            refine wpAnyH_take (i := 14) (oi := ({ dst := some 33, op := Go.Op.fieldAddr 32 (Go.Operand.tmp 3) 6, type := 0, pos := "law.go:99", after := #[{ on := 0, ground := Go.Ground.phase }, { on := 1, ground := Go.Ground.phase }, { on := 2, ground := Go.Ground.phase }, { on := 3, ground := Go.Ground.phase }, { on := 4, ground := Go.Ground.phase }, { on := 5, ground := Go.Ground.phase }, { on := 6, ground := Go.Ground.phase }, { on := 7, ground := Go.Ground.phase }, { on := 8, ground := Go.Ground.phase }, { on := 9, ground := Go.Ground.phase }, { on := 10, ground := Go.Ground.phase }, { on := 11, ground := Go.Ground.phase }, { on := 12, ground := Go.Ground.phase }, { on := 13, ground := Go.Ground.phase }], guard := none } : Oper)) (v := .pointer (some ⟨gw, 7, none⟩)) rfl (by kernel_rfl) (by kernel_rfl) (by kernel_rfl) (fun _ _ _ h => h) (Or.inl ⟨by rfl, fun w' hS' => ?_⟩) hHeld ?_
            · go_simp
            try simp only [Act.put, List.setIfInBounds_toArray, List.set_cons_zero, List.set_cons_succ]
            refine wpAnyH_ready (rs := [15]) (by kernel_rfl) (by simp) ?_
            refine AllReadyH.cons (o := ({ dst := none, op := Go.Op.store 30 (Go.Operand.tmp 33) (Go.Operand.tmp 32), type := 0, pos := "law.go:99", after := #[{ on := 14, ground := Go.Ground.data }, { on := 13, ground := Go.Ground.data }, { on := 13, ground := Go.Ground.chain }, { on := 0, ground := Go.Ground.phase }, { on := 1, ground := Go.Ground.phase }, { on := 2, ground := Go.Ground.phase }, { on := 3, ground := Go.Ground.phase }, { on := 4, ground := Go.Ground.phase }, { on := 5, ground := Go.Ground.phase }, { on := 6, ground := Go.Ground.phase }, { on := 7, ground := Go.Ground.phase }, { on := 8, ground := Go.Ground.phase }, { on := 9, ground := Go.Ground.phase }, { on := 10, ground := Go.Ground.phase }, { on := 11, ground := Go.Ground.phase }, { on := 12, ground := Go.Ground.phase }, { on := 13, ground := Go.Ground.phase }], guard := none } : Oper)) rfl (fun K hK => ?_) AllReadyH.nil
            go_simp
            refine hK.out _ _ (HSs.out _ _ _ HNX.out) (fun _ => ?_)
            clear hK K
            refine wpAnyH_done (by kernel_rfl) ?_ _
            try (go_wp2_with fail)
            go_roundw
            case rel => exact ⟨k + 1, _, by omega, by first | rfl | go_num, HNX⟩
            case measure => simp [intOf]; omega
          · rw [if_pos (by kernel_rfl)]
            refine wp_buildSlice 30 41 1 _ rfl rl.toArray i0 _ Try.underlying30 HI.out HZ0.out (by rw [HZ1.out]; decide) (by rw [HZ1.out]; decide) (by rw [HZ1.out]; refine (congrArg _ (?_ : _ = [(0, Value.agg rl.toArray)])).trans (fill21c HCL.out); rw [Array.toList_map]; rfl) ?_
            have HM24 := Lib.hid (HM18.out.to ((Below.refl _ U17).alloc (Nat.le_refl _) (.cells rl.toArray 41)))
            have HGb := Lib.hid (heap_alloc_last U17 (.cells rl.toArray 41))
            refine hK.out _ _ (HSs.out _ _ _ HM24.out) (fun hHeld => ?_)
            clear hK K
            try simp only [Act.put, List.setIfInBounds_toArray, List.set_cons_zero, List.set_cons_succ]
            generalize U17.alloc (.cells rl.toArray 41) = U23 at HM24 HGb hHeld ⊢
            generalize U17.heap.size = gB25 at HGb ⊢
            refine wpAnyH_ready (rs := [1]) (by kernel_rfl) (by simp) ?_
            refine (AllReadyH.cons (o := ({ dst := some 20, op := Go.Op.load 30 (Go.Operand.tmp 19), type := 30, pos := "law.go:99", after := #[{ on := 0, ground := Go.Ground.data }], guard := none } : Oper)) rfl (fun K hK => ?_) AllReadyH.nil)
            have d7 := (cell_of_row _ gw 7 _ _ _ HM24.out.ws).trans (HC7.out v)
            go_simp
            clear d7
            refine hK.out _ _ hHeld (fun hHeld => ?_)
            clear hK K
            try simp only [Act.put, List.setIfInBounds_toArray, List.set_cons_zero, List.set_cons_succ]
            refine wpAnyH_ready (rs := [13]) (by kernel_rfl) (by simp) ?_
            refine (AllReadyH.cons (o := ({ dst := some 32, op := Go.Op.call { callee := Go.Callee.builtin Go.Builtin.append, args := #[Go.Operand.tmp 20, Go.Operand.tmp 31], argTypes := #[30, 30] }, type := 30, pos := "law.go:99", after := #[{ on := 1, ground := Go.Ground.data }, { on := 12, ground := Go.Ground.data }, { on := 10, ground := Go.Ground.chain }], guard := none } : Oper)) rfl (fun K hK => ?_) AllReadyH.nil)
            rw [if_pos (by kernel_rfl)]
            have HO6 := Lib.hid (HOw.out _ HM24.out)
            refine wp_append_own (w := U23) (.tmp 20) (.tmp 31) 30 rfl base 41 i0 _ 21 80 Try.underlying30 HI.out HZ0.out HZ1.out HZ2.out rfl (by decide) v nr rcs0 rfl HO6.out ⟨gB25, 0, none⟩ 1 1 rl rfl (by rw [HCL.out]) (fun j u hj => by rw [Addr.add_lit, Nat.zero_add]; exact (cell_of_row _ _ j _ _ _ HGb.out).trans (by rw [List.getElem?_toArray]; exact hj)) HC1.out (by unfold maxLen; omega) (by omega) HM24.out.hb ?_
            intro v1 U26 ho1 hg1 hnil
            clear hnil
            have hap := HAp.out _ HM24.out _ _ ho1 hg1
            obtain ⟨A1, ca1, rfl⟩ := own_sl4 ho1
            have d9 := (cell_of_row U26 gw 7 _ _ _ hap.1).trans (HC7.out v)
            have f9 := frozen_of_row U26 gw 7 _ _ hap.1
            have HNX := Lib.hid hap.2.2
            refine hK.out _ _ hap.2.1 (fun hHeld => ?_)
            clear hK K ho1 hg1 hap
            try simp only [Act.put, List.setIfInBounds_toArray, List.set_cons_zero, List.set_cons_succ]
            refine wpAnyH_take (i := 14) (oi := ({ dst := some 33, op := Go.Op.fieldAddr 32 (Go.Operand.tmp 3) 6, type := 0, pos := "law.go:99", after := #[{ on := 0, ground := Go.Ground.phase }, { on := 1, ground := Go.Ground.phase }, { on := 2, ground := Go.Ground.phase }, { on := 3, ground := Go.Ground.phase }, { on := 4, ground := Go.Ground.phase }, { on := 5, ground := Go.Ground.phase }, { on := 6, ground := Go.Ground.phase }, { on := 7, ground := Go.Ground.phase }, { on := 8, ground := Go.Ground.phase }, { on := 9, ground := Go.Ground.phase }, { on := 10, ground := Go.Ground.phase }, { on := 11, ground := Go.Ground.phase }, { on := 12, ground := Go.Ground.phase }, { on := 13, ground := Go.Ground.phase }], guard := none } : Oper)) (v := .pointer (some ⟨gw, 7, none⟩)) rfl (by kernel_rfl) (by kernel_rfl) (by kernel_rfl) (fun _ _ _ h => h) (Or.inl ⟨by rfl, fun w' hS' => ?_⟩) hHeld ?_
            · go_simp
            try simp only [Act.put, List.setIfInBounds_toArray, List.set_cons_zero, List.set_cons_succ]
            refine wpAnyH_ready (rs := [15]) (by kernel_rfl) (by simp) ?_
            refine AllReadyH.cons (o := ({ dst := none, op := Go.Op.store 30 (Go.Operand.tmp 33) (Go.Operand.tmp 32), type := 0, pos := "law.go:99", after := #[{ on := 14, ground := Go.Ground.data }, { on := 13, ground := Go.Ground.data }, { on := 13, ground := Go.Ground.chain }, { on := 0, ground := Go.Ground.phase }, { on := 1, ground := Go.Ground.phase }, { on := 2, ground := Go.Ground.phase }, { on := 3, ground := Go.Ground.phase }, { on := 4, ground := Go.Ground.phase }, { on := 5, ground := Go.Ground.phase }, { on := 6, ground := Go.Ground.phase }, { on := 7, ground := Go.Ground.phase }, { on := 8, ground := Go.Ground.phase }, { on := 9, ground := Go.Ground.phase }, { on := 10, ground := Go.Ground.phase }, { on := 11, ground := Go.Ground.phase }, { on := 12, ground := Go.Ground.phase }, { on := 13, ground := Go.Ground.phase }], guard := none } : Oper)) rfl (fun K hK => ?_) AllReadyH.nil
            go_simp
            refine hK.out _ _ (HSs.out _ _ _ HNX.out) (fun _ => ?_)
            clear hK K
            refine wpAnyH_done (by kernel_rfl) ?_ _
            try (go_wp2_with fail)
            go_roundw
            case rel => exact ⟨k + 1, _, by omega, by first | rfl | go_num, HNX⟩
            case measure => simp [intOf]; omega
    · have hkI : ¬ (k : Int) < (n : Int) := by omega
      obtain rfl : k = n := by omega
      obtain ⟨Av, cv, rfl⟩ := own_sl4 HP.out.own
      rw [rgL_len] at HP
      have HMm := Lib.hid HP.out.ws
      have hrs := own_recs (rs := rgL k k) (by rw [rgL_len]; have h := HP.out.own; rw [rgL_len] at h; exact h) (rgL_ad k k)
      have HBb := Lib.hid HP.out.below
      have SM2 := Lib.hid (SM.out (.slice Av k cv))
      have HO9 := Lib.hid (HOf.out wr Av cv hrs)
      clear HP hrs HOf SM ZMc HCC HC7 HBc HI HZ0 HZ1 HZ2
      go_upto_region 11 with fail
      go_wp2_with (first
        | (refine wpList_load_row rfl 32 (.tmp 3) rfl gw rfl 32 (C (.slice Av k cv)) (0, 0) _ HMm.out Try.underlying32 rfl SM2.out ?_; go_simp))
      refine HO9.out.mono ?_
      rintro e w2 ⟨A2, c2, rfl, hb2, _⟩
      have hrem : Int.tmod 8 (k : Int) = ((8 % k : Nat) : Int) := by
        rw [Int.tmod_eq_emod_of_nonneg (by omega)]; simp
      have hk0 : ((k : Int) == 0) = false := by simp; omega
      have hk0' : ¬ (k : Int) = 0 := by omega
      have hbn := HBb.out.trans (hb2.mono HBb.out.size)
      obtain ⟨N8, hN8⟩ : ∃ N8, N8 = nmR k 8 := ⟨_, rfl⟩
      have HAt8 : Hid (∀ U, Below Wb.heap.size Wb U → Calls Try.prog 13 #[.int .i64 8, .pointer (some ⟨w.heap.size, 0, none⟩)] U fun e w' => e = .returned (.string N8) ∧ Below U.heap.size U w') := Lib.hid (fun U hU => by rw [hN8]; exact HAt.out 8 U hU)
      by_cases h0 : 8 % k = 0
      · rw [if_pos h0]
        rw [h0] at hrem
        have hG2 := heap_alloc_last w2 (.cells (FC 5 (.slice A2 0 c2) ⟨#[]⟩ 0) 35)
        have f0 := (cell_of_row _ w2.heap.size 0 _ _ _ hG2).trans (rfl : _ = some (Value.int .i64 5))
        have f2 := (cell_of_row _ w2.heap.size 2 _ _ _ hG2).trans (rfl : _ = some (Value.string ⟨#[]⟩))
        have hb3 : Below Wb.heap.size Wb (w2.alloc (.cells (FC 5 (.slice A2 0 c2) ⟨#[]⟩ 0) 35)) := hbn.alloc hbn.size _
        have eN := HNc.out _ hb3
        have HB3 := Lib.hid (HUb.out.trans (hb3.mono HUb.out.size))
        clear hb2 hG2 HO9 HMm HBb HAt HAt8 hbn hb3 h0 hN8 HNc
        go_wp2_with (first
          | (refine wpList_alloc_z rfl 35 rfl (FC 0 (.slice none 0 0) ⟨#[]⟩ 0) HZF.out ?_; go_simp)
          | (refine wpList_store_new rfl 35 (.tmp 6) (.tmp 36) rfl w2.heap.size rfl (FC 0 (.slice none 0 0) ⟨#[]⟩ 0) (FC 5 (.slice A2 0 c2) ⟨#[]⟩ 0) 35 rfl rfl (sizeF _ _ _ _) rfl (FC_one _ _ _ _ _ _) ?_; go_simp))
        go_ret
        exact ⟨rfl, HB3.out⟩
      · rw [if_neg h0, ← hN8]
        obtain ⟨q, hq⟩ : ∃ q, q = 8 % k := ⟨_, rfl⟩
        rw [← hq] at hrem h0
        have hq0 : ((q : Int) == 0) = false := by simp; omega
        have hG2 := heap_alloc_last w2 (.cells (FC 0 (.slice A2 0 c2) N8 5) 35)
        have hb3 : Below Wb.heap.size Wb (w2.alloc (.cells (FC 0 (.slice A2 0 c2) N8 5) 35)) := hbn.alloc hbn.size _
        have eN := HNc.out _ hb3
        have HB3 := Lib.hid hb3
        have HG3 := Lib.hid hG2
        clear hb2 hG2 HO9 HMm HBb HAt hbn hb3 h0 hN8 HNc hq
        go_upto_region 14 with (first
          | (refine wpList_alloc_z rfl 35 rfl (FC 0 (.slice none 0 0) ⟨#[]⟩ 0) HZF.out ?_; go_simp)
          | (refine wpList_store_new rfl 35 (.tmp 6) (.tmp 36) rfl w2.heap.size rfl (FC 0 (.slice none 0 0) ⟨#[]⟩ 0) (FC 0 (.slice A2 0 c2) N8 5) 35 rfl rfl (sizeF _ _ _ _) rfl (FC_one _ _ _ _ _ _) ?_; go_simp))
        generalize w2.heap.size = gf at HG3 ⊢
        generalize w2.alloc (.cells (FC 0 (.slice A2 0 c2) N8 5) 35) = W5 at HB3 HG3 eN ⊢
        have D0 : Hid (∀ U, Below W5.heap.size W5 U → U.cell? ⟨gf, 0, none⟩ = some (.int .i64 0)) := Lib.hid (fun U hU => (cell_of_row U gf 0 _ _ _ ((hU.block _ (heap_lt HG3.out)).trans HG3.out)).trans rfl)
        have D2 : Hid (∀ U, Below W5.heap.size W5 U → U.cell? ⟨gf, 2, none⟩ = some (.string N8)) := Lib.hid (fun U hU => (cell_of_row U gf 2 _ _ _ ((hU.block _ (heap_lt HG3.out)).trans HG3.out)).trans rfl)
        have D3 : Hid (∀ U, Below W5.heap.size W5 U → U.cell? ⟨gf, 3, none⟩ = some (.int .i64 5)) := Lib.hid (fun U hU => (cell_of_row U gf 3 _ _ _ ((hU.block _ (heap_lt HG3.out)).trans HG3.out)).trans rfl)
        have HA9 := Lib.hid (fun U (hU : Below W5.heap.size W5 U) => HAt8.out U (HB3.out.trans (hU.mono HB3.out.size)))
        clear eN HG3 HAt8
        refine wp_region_held_drew (S := (fun W : World => Below W5.heap.size W5 W)) (by kernel_rfl) (Below.refl _ W5).drew (fun hHeld => ?_)
        refine wpAnyH_take (i := 0) (oi := ({ dst := some 48, op := Go.Op.fieldAddr 35 (Go.Operand.tmp 6) 0, type := 0, pos := "law.go:105", after := #[], guard := none } : Oper)) (v := .pointer (some ⟨gf, 0, none⟩)) rfl (by kernel_rfl) (by kernel_rfl) (by kernel_rfl) (fun _ _ _ h => h) (Or.inl ⟨by rfl, fun w' _ => ?_⟩) hHeld ?_
        · go_simp
        simp only [Act.put, List.setIfInBounds_toArray, List.set_cons_zero, List.set_cons_succ]
        refine wpAnyH_take (i := 1) (oi := ({ dst := some 49, op := Go.Op.load 3 (Go.Operand.tmp 48), type := 3, pos := "law.go:105", after := #[{ on := 0, ground := Go.Ground.data }], guard := none } : Oper)) (v := .int .i64 0) rfl (by kernel_rfl) (by kernel_rfl) (by kernel_rfl) (fun _ _ _ h => h) (Or.inl ⟨by rfl, fun w' hS' => ?_⟩) hHeld ?_
        · have hcell := D0.out w' hS'
          go_simp
        simp only [Act.put, List.setIfInBounds_toArray, List.set_cons_zero, List.set_cons_succ]
        refine wpAnyH_take (i := 2) (oi := ({ dst := some 50, op := Go.Op.binOp Go.BinOp.eql 3 (Go.Operand.tmp 49) (Go.Operand.const (Go.Value.int Go.IntKind.i64 0)) 3, type := 4, pos := "law.go:105", after := #[{ on := 1, ground := Go.Ground.data }], guard := none } : Oper)) (v := .bool true) rfl (by kernel_rfl) (by kernel_rfl) (by kernel_rfl) (fun _ _ _ h => h) (Or.inl ⟨by rfl, fun w' _ => ?_⟩) hHeld ?_
        · go_simp
        simp only [Act.put, List.setIfInBounds_toArray, List.set_cons_zero, List.set_cons_succ]
        refine wpAnyH_take (i := 3) (oi := ({ dst := some 51, op := Go.Op.move (Go.Operand.tmp 50), type := 4, pos := "law.go:105", after := #[{ on := 2, ground := Go.Ground.data }], guard := none } : Oper)) (v := .bool true) rfl (by kernel_rfl) (by kernel_rfl) (by kernel_rfl) (fun _ _ _ h => h) (Or.inl ⟨by rfl, fun w' _ => ?_⟩) hHeld ?_
        · go_simp
        simp only [Act.put, List.setIfInBounds_toArray, List.set_cons_zero, List.set_cons_succ]
        refine wpAnyH_take (i := 4) (oi := ({ dst := some 52, op := Go.Op.fieldAddr 35 (Go.Operand.tmp 6) 2, type := 0, pos := "law.go:105", after := #[{ on := 3, ground := Go.Ground.guard }], guard := some (3, true) } : Oper)) (v := .pointer (some ⟨gf, 2, none⟩)) rfl (by kernel_rfl) (by kernel_rfl) (by kernel_rfl) (fun _ _ _ h => h) (Or.inl ⟨by kernel_rfl, fun w' _ => ?_⟩) hHeld ?_
        · go_simp
        simp only [Act.put, List.setIfInBounds_toArray, List.set_cons_zero, List.set_cons_succ]
        refine wpAnyH_take (i := 5) (oi := ({ dst := some 53, op := Go.Op.load 9 (Go.Operand.tmp 52), type := 9, pos := "law.go:105", after := #[{ on := 4, ground := Go.Ground.data }, { on := 3, ground := Go.Ground.guard }], guard := some (3, true) } : Oper)) (v := .string N8) rfl (by kernel_rfl) (by kernel_rfl) (by kernel_rfl) (fun _ _ _ h => h) (Or.inl ⟨by kernel_rfl, fun w' hS' => ?_⟩) hHeld ?_
        · have hcell := D2.out w' hS'
          go_simp
        simp only [Act.put, List.setIfInBounds_toArray, List.set_cons_zero, List.set_cons_succ]
        refine wpAnyH_take (i := 6) (oi := ({ dst := some 54, op := Go.Op.move (Go.Operand.tmp 4), type := 44, pos := "law.go:105", after := #[{ on := 3, ground := Go.Ground.guard }], guard := some (3, true) } : Oper)) (v := .func (.func 13) #[] #[.pointer (some ⟨w.heap.size, 0, none⟩)]) rfl (by kernel_rfl) (by kernel_rfl) (by kernel_rfl) (fun _ _ _ h => h) (Or.inl ⟨by kernel_rfl, fun w' _ => ?_⟩) hHeld ?_
        · go_simp
        simp only [Act.put, List.setIfInBounds_toArray, List.set_cons_zero, List.set_cons_succ]
        refine wpAnyH_ready (rs := [7]) (by kernel_rfl) (by simp) ?_
        refine AllReadyH.cons (o := ({ dst := some 55, op := Go.Op.call { callee := Go.Callee.value (Go.Operand.tmp 54), args := #[Go.Operand.const (Go.Value.int Go.IntKind.i64 8)], argTypes := #[3] }, type := 9, pos := "law.go:105", after := #[{ on := 6, ground := Go.Ground.data }, { on := 3, ground := Go.Ground.chain }, { on := 3, ground := Go.Ground.guard }], guard := some (3, true) } : Oper)) rfl (fun K hK => ?_) AllReadyH.nil
        rw [if_pos (by kernel_rfl)]
        go_simp
        go_at_call 13
        refine (HA9.out _ hHeld).mono ?_
        rintro e' wc ⟨rfl, hbc⟩
        refine hK.out _ _ (Below.trans hHeld (Below.mono hbc (Below.size hHeld))) (fun hHeld' => ?_)
        clear hK K hbc
        try clear hHeld
        try simp only [Act.put, List.setIfInBounds_toArray, List.set_cons_zero, List.set_cons_succ]
        refine wpAnyH_take (i := 8) (oi := ({ dst := some 56, op := Go.Op.binOp Go.BinOp.eql 9 (Go.Operand.tmp 53) (Go.Operand.tmp 55) 9, type := 4, pos := "law.go:105", after := #[{ on := 5, ground := Go.Ground.data }, { on := 7, ground := Go.Ground.data }, { on := 3, ground := Go.Ground.guard }], guard := some (3, true) } : Oper)) (v := .bool true) rfl (by kernel_rfl) (by kernel_rfl) (by kernel_rfl) (fun _ _ _ h => h) (Or.inl ⟨by kernel_rfl, fun w' _ => ?_⟩) hHeld' ?_
        · go_simp
        simp only [Act.put, List.setIfInBounds_toArray, List.set_cons_zero, List.set_cons_succ]
        refine wpAnyH_take (i := 9) (oi := ({ dst := some 57, op := Go.Op.pick (Go.Operand.tmp 51) (Go.Operand.tmp 56) (Go.Operand.const (Go.Value.bool false)), type := 4, pos := "law.go:105", after := #[{ on := 3, ground := Go.Ground.data }, { on := 8, ground := Go.Ground.data }], guard := none } : Oper)) (v := .bool true) rfl (by kernel_rfl) (by kernel_rfl) (by kernel_rfl) (fun _ _ _ h => h) (Or.inl ⟨by rfl, fun w' _ => ?_⟩) hHeld' ?_
        · go_simp
        simp only [Act.put, List.setIfInBounds_toArray, List.set_cons_zero, List.set_cons_succ]
        refine wpAnyH_take (i := 10) (oi := ({ dst := some 58, op := Go.Op.move (Go.Operand.tmp 57), type := 4, pos := "law.go:105", after := #[{ on := 9, ground := Go.Ground.data }, { on := 7, ground := Go.Ground.chain }], guard := none } : Oper)) (v := .bool true) rfl (by kernel_rfl) (by kernel_rfl) (by kernel_rfl) (fun _ _ _ h => h) (Or.inl ⟨by rfl, fun w' _ => ?_⟩) hHeld' ?_
        · go_simp
        simp only [Act.put, List.setIfInBounds_toArray, List.set_cons_zero, List.set_cons_succ]
        refine wpAnyH_take (i := 11) (oi := ({ dst := some 59, op := Go.Op.fieldAddr 35 (Go.Operand.tmp 6) 3, type := 0, pos := "law.go:105", after := #[{ on := 10, ground := Go.Ground.guard }], guard := some (10, true) } : Oper)) (v := .pointer (some ⟨gf, 3, none⟩)) rfl (by kernel_rfl) (by kernel_rfl) (by kernel_rfl) (fun _ _ _ h => h) (Or.inl ⟨by kernel_rfl, fun w' _ => ?_⟩) hHeld' ?_
        · go_simp
        simp only [Act.put, List.setIfInBounds_toArray, List.set_cons_zero, List.set_cons_succ]
        refine wpAnyH_take (i := 12) (oi := ({ dst := some 60, op := Go.Op.load 3 (Go.Operand.tmp 59), type := 3, pos := "law.go:105", after := #[{ on := 11, ground := Go.Ground.data }, { on := 10, ground := Go.Ground.guard }], guard := some (10, true) } : Oper)) (v := .int .i64 5) rfl (by kernel_rfl) (by kernel_rfl) (by kernel_rfl) (fun _ _ _ h => h) (Or.inl ⟨by kernel_rfl, fun w' hS' => ?_⟩) hHeld' ?_
        · have hcell := D3.out w' hS'
          go_simp
        simp only [Act.put, List.setIfInBounds_toArray, List.set_cons_zero, List.set_cons_succ]
        refine wpAnyH_take (i := 13) (oi := ({ dst := some 61, op := Go.Op.binOp Go.BinOp.eql 3 (Go.Operand.tmp 60) (Go.Operand.const (Go.Value.int Go.IntKind.i64 5)) 3, type := 4, pos := "law.go:105", after := #[{ on := 12, ground := Go.Ground.data }, { on := 10, ground := Go.Ground.guard }], guard := some (10, true) } : Oper)) (v := .bool true) rfl (by kernel_rfl) (by kernel_rfl) (by kernel_rfl) (fun _ _ _ h => h) (Or.inl ⟨by kernel_rfl, fun w' _ => ?_⟩) hHeld' ?_
        · go_simp
        simp only [Act.put, List.setIfInBounds_toArray, List.set_cons_zero, List.set_cons_succ]
        refine wpAnyH_take (i := 14) (oi := ({ dst := some 62, op := Go.Op.pick (Go.Operand.tmp 58) (Go.Operand.tmp 61) (Go.Operand.const (Go.Value.bool false)), type := 4, pos := "law.go:105", after := #[{ on := 10, ground := Go.Ground.data }, { on := 13, ground := Go.Ground.data }], guard := none } : Oper)) (v := .bool true) rfl (by kernel_rfl) (by kernel_rfl) (by kernel_rfl) (fun _ _ _ h => h) (Or.inl ⟨by rfl, fun w' _ => ?_⟩) hHeld' ?_
        · go_simp
        simp only [Act.put, List.setIfInBounds_toArray, List.set_cons_zero, List.set_cons_succ]
        refine wpAnyH_take (i := 15) (oi := ({ dst := some 2, op := Go.Op.assign (Go.Operand.tmp 62), type := 4, pos := "law.go:105", after := #[{ on := 14, ground := Go.Ground.data }, { on := 10, ground := Go.Ground.chain }, { on := 0, ground := Go.Ground.phase }, { on := 1, ground := Go.Ground.phase }, { on := 2, ground := Go.Ground.phase }, { on := 3, ground := Go.Ground.phase }, { on := 4, ground := Go.Ground.phase }, { on := 5, ground := Go.Ground.phase }, { on := 6, ground := Go.Ground.phase }, { on := 7, ground := Go.Ground.phase }, { on := 8, ground := Go.Ground.phase }, { on := 9, ground := Go.Ground.phase }, { on := 10, ground := Go.Ground.phase }, { on := 11, ground := Go.Ground.phase }, { on := 12, ground := Go.Ground.phase }, { on := 13, ground := Go.Ground.phase }, { on := 14, ground := Go.Ground.phase }], guard := none } : Oper)) (v := .bool true) rfl (by kernel_rfl) (by kernel_rfl) (by kernel_rfl) (fun _ _ _ h => h) (Or.inl ⟨by rfl, fun w' _ => ?_⟩) hHeld' ?_
        · go_simp
        simp only [Act.put, List.setIfInBounds_toArray, List.set_cons_zero, List.set_cons_succ]
        refine wpAnyH_done (by kernel_rfl) ?_ _
        have HBe := Lib.hid (HUb.out.trans ((HB3.out.trans (hHeld'.mono HB3.out.size)).mono HUb.out.size))
        clear hHeld' D0 D2 D3 HA9
        try (go_wp2_with fail)
        go_ret
        exact ⟨rfl, HBe.out⟩
end Go.Proofs.Ytgbijhinihchgaa

