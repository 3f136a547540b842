/-
  The walk of ChaseChains: a chain of names is gone along a few steps, and no further. No condition.
-/
import Derived.Test.YtgbijhinihchgaaChaseRingsLaw
namespace Go.Proofs.Ytgbijhinihchgaa
open Go.RowKit

/-- a chain's records -/
def chR (i : Nat) : RV := ⟨nmC i, 5, 100 - (i : Int), zero16, nmC (i + 1), ⟨#[]⟩⟩
def chL (k : Nat) : List RV := (List.range k).map chR
def chE (n : Nat) : RV := ⟨nmC n, 28, 200, zero16, ⟨#[]⟩, ⟨#[]⟩⟩
theorem chL_snoc (k : Nat) : chL (k + 1) = chL k ++ [chR k] := by unfold chL; rw [List.range_succ, List.map_append]; rfl
theorem chL_len (k : Nat) : (chL k).length = k := by unfold chL; simp
theorem chL_ad (k : Nat) : ∀ r ∈ chL k, r.ad.length = 16 := fun r hr => by
  unfold chL at hr
  obtain ⟨i, _, rfl⟩ := List.mem_map.1 hr
  rfl
theorem builtEnd (S : ByteArray) : Try.prog.built 41 [(0, .string S), (1, .int .i64 28), (2, .int .i64 200)] = some (RV.cells ⟨S, 28, 200, zero16, ⟨#[]⟩, ⟨#[]⟩⟩) := by kernel_rfl
def nmC0 : ByteArray := ⟨#[99, 48]⟩
theorem ch_of {n : Nat} (h1 : 1 ≤ n) (h16 : n ≤ 16) : ofF 0 nmC0 28 (chL n) [] = ⟨0, [], nmC (min n 8), 101 - ((min n 8 : Nat) : Int)⟩ ∧ ofF 0 nmC0 28 (chL n ++ [chE n]) [] = if n < 8 then ⟨1, [chE n], ⟨#[]⟩, 101 - (n : Int)⟩ else ⟨0, [], nmC (min n 8), 101 - ((min n 8 : Nat) : Int)⟩ := by
  rw [ofD_eq, ofD_eq]
  rcases (show n = 1 ∨ n = 2 ∨ n = 3 ∨ n = 4 ∨ n = 5 ∨ n = 6 ∨ n = 7 ∨ n = 8 ∨ n = 9 ∨ n = 10 ∨ n = 11 ∨ n = 12 ∨ n = 13 ∨ n = 14 ∨ n = 15 ∨ n = 16 by omega) with rfl | rfl | rfl | rfl | rfl | rfl | rfl | rfl | rfl | rfl | rfl | rfl | rfl | rfl | rfl | rfl
  all_goals exact ⟨by kernel_rfl, by kernel_rfl⟩
set_option maxRecDepth 100000 in
set_option maxHeartbeats 16000000 in
theorem chaseChains_walk (n0 : Int) (en : Bool) (w : World) :
    Calls Try.prog 5 #[.int .i64 n0, .bool en] w fun e w' => e = .returned (.bool true) ∧ Below w.heap.size w w' := by
  have HFit := Lib.hid fit15_e
  obtain ⟨hb1, hb1l⟩ := bN_e n0 15 (by omega)
  generalize bN n0 15 = b at hb1 hb1l
  have hb1 : bits BinOp.and IntKind.i64 n0 15 = (b : Int) := hb1
  obtain ⟨n, hn⟩ : ∃ n : Nat, n = b + 1 := ⟨_, rfl⟩
  have hnI : (b : Int) + 1 = (n : Int) := by omega
  have hn1 : 1 ≤ n := by omega
  have hn8 : n ≤ 16 := by omega
  have hn1I : (1 : Int) ≤ (n : Int) := by omega
  have hn8I : (n : Int) ≤ 16 := by omega
  have HOf : Hid (∀ U A c, RecsAt U A (chL n) → Calls Try.prog 10 #[.agg (anC nmC0 28 (.slice A n c))] U (FdPost U ⟨0, [], nmC (min n 8), 101 - ((min n 8 : Nat) : Int)⟩)) := Lib.hid (fun U A c hU => by
    have h := anC_of nmC0 28 (chL n) (chL_ad n) (by rw [chL_len]; omega) U A c hU
    rw [(ch_of hn1 hn8).1, chL_len] at h
    exact h)
  have HOe : Hid (∀ U A c, RecsAt U A (chL n ++ [chE n]) → Calls Try.prog 10 #[.agg (anC nmC0 28 (.slice A (n + 1) c))] U (FdPost U (if n < 8 then ⟨1, [chE n], ⟨#[]⟩, 101 - (n : Int)⟩ else ⟨0, [], nmC (min n 8), 101 - ((min n 8 : Nat) : Int)⟩))) := Lib.hid (fun U A c hU => by
    have hl : (chL n ++ [chE n]).length = n + 1 := by rw [List.length_append, chL_len]; rfl
    have h := anC_of nmC0 28 (chL n ++ [chE n]) (fun r hr => by
      rcases List.mem_append.1 hr with h | h
      · exact chL_ad n r h
      · rw [List.mem_singleton.1 h]; rfl) (by rw [hl]; omega) U A c hU
    rw [(ch_of hn1 hn8).2, hl] at h
    exact h)
  have HBm : Hid (Try.prog.built 32 [(5, .agg #[.string ⟨#[99, 48]⟩, .int .i64 28])] = some (anC nmC0 28 (.slice none 0 0))) := Lib.hid (builtAn nmC0 28)
  have HC7 : Hid (∀ v, (anC nmC0 28 v)[7]? = some v) := Lib.hid (fun _ => rfl)
  have HCC : Hid (∀ v v1, (anC nmC0 28 v).setIfInBounds 7 v1 = anC nmC0 28 v1) := Lib.hid (fun _ _ => rfl)
  have SM : Hid (∀ v, (Try.prog.info? 32).map (·.size) = some (anC nmC0 28 v).size) := Lib.hid (fun _ => sizeM)
  have ZMc : Hid (∀ v, zMsg.size = (anC nmC0 28 v).size) := Lib.hid (fun _ => rfl)
  have OM : Hid ((anC nmC0 28 (.slice none 0 0)).all (·.oneCell') = true) := Lib.hid (by simp [anC, Value.oneCell'])
  have ZM := Lib.hid zeroM
  have HZF := Lib.hid zeroF
  have HBc := Lib.hid builtCn
  have HAt : Hid (∀ (i : Nat) U, i ≤ 20 → Calls Try.prog 14 #[.int .i64 (i : Int)] U fun e w' => e = .returned (.string (nmC i)) ∧ Below U.heap.size U w') := Lib.hid (fun i U hi => atC_e i hi U)
  obtain ⟨i0, hi, hz0, hz1, hz2⟩ := info_rec
  have HI := Lib.hid hi
  have HZ0 := Lib.hid hz0
  have HZ1 := Lib.hid hz1
  have HZ2 := Lib.hid hz2
  clear hi hz0 hz1 hz2 hn
  generalize anC nmC0 28 = C at HOf HOe HBm HC7 HCC SM ZMc OM
  go_enter Try.func5, Try.ntmps5
  go_wp2_with fail
  refine (HFit.out _).mono ?_
  rintro e Wb ⟨rfl, hbw1⟩
  have HUb := Lib.hid hbw1
  have HP0 : Hid (WaAt (Wb.heap.size + 1) Wb (Wb.alloc (.cells (C (.slice none 0 0)) 32)) Wb.heap.size C (chL 0) (.slice none 0 0)) := Lib.hid ⟨heap_alloc_last Wb _, World.ownsRow_nil _ _ _ _, (Below.refl _ Wb).alloc (Nat.le_refl _) _, by omega, Nat.le_refl _, by rw [World.size_alloc]; omega⟩
  clear hbw1
  go_wp2_with (first
    | (refine wpList_build_v rfl 32 #[(5, .tmp 14)] rfl _ (C (.slice none 0 0)) HBm.out rfl ?_; go_simp)
    | (refine wpList_alloc_z rfl 32 rfl zMsg ZM.out ?_; go_simp)
    | (refine wpList_store_new rfl 32 (.tmp 5) (.tmp 15) rfl Wb.heap.size rfl zMsg (C (.slice none 0 0)) 32 rfl rfl (SM.out _) (ZMc.out _) OM.out ?_; go_simp))
  generalize hbase : Wb.heap.size + 1 = base at HP0
  generalize hgw : Wb.heap.size = gw at HP0 hbase ⊢
  clear hbase hgw
  have HSs : Hid (∀ U RS v, WaAt base Wb U gw C RS v → Below w.heap.size w U) := Lib.hid (fun U RS v h => HUb.out.trans (h.below.mono HUb.out.size))
  have HApp : Hid (∀ (RS : List RV) (v : Value) (r : RV) (nr : Nat) (rcs0 rl : List Value), RS.length = nr → rcs RS = rcs0 → r.cells.toList = rl → (∀ U, WaAt base Wb U gw C RS v → U.ownsRow base 41 21 v nr rcs0) ∧ (∀ U, WaAt base Wb U gw C RS v → ∀ v1 w1, w1.ownsRow base 41 21 v1 (nr + 1) (rcs0 ++ rl) → U.grownBy w1 v.ownBlock → w1.heap[gw]? = some (.cells (C v) 32 (0, 0)) ∧ Below w.heap.size w w1 ∧ WaAt base Wb (w1.setCell ⟨gw, 7, none⟩ v1) gw C (RS ++ [r]) v1)) := Lib.hid (fun RS v r nr rcs0 rl h1 h2 h3 => by
    subst h1 h2 h3
    refine ⟨fun U h => h.own, fun U h v1 w1 g1 g2 => ?_⟩
    have ha := h.app HCC.out (r := r) g1 g2
    refine ⟨ha.1, ?_, ha.2⟩
    have hb := h.below.grown g2 h.below.size (fun j hj => by have := (h.own.lt j hj).1; have := h.hgw; have := h.hub; omega)
    exact HUb.out.trans (hb.mono HUb.out.size))
  go_loopw [17] (fun i wr => ∃ (k : Nat) (v : Value), k ≤ n ∧ i = .int .i64 k ∧ Hid (WaAt base Wb wr gw C (chL k) v)) (fun i _ => n - (intOf i).toNat)
  case atStart => exact ⟨0, _, by omega, rfl, HP0⟩
  case round =>
    clear HP0 HBm OM ZM HFit
    obtain ⟨k, v, hk, rfl, HP⟩ := hrel
    by_cases hlt : k < n
    · have hkI : (k : Int) < (n : Int) := by omega
      have HAt1 : Hid (∀ U, Below Wb.heap.size Wb U → Calls Try.prog 14 #[.int .i64 (k : Int)] U fun e w' => e = .returned (.string (nmC k)) ∧ Below U.heap.size U w') := Lib.hid (fun U _ => HAt.out k U (by omega))
      have HAt2 : Hid (∀ U, Below Wb.heap.size Wb U → Calls Try.prog 14 #[.int .i64 ((k : Int) + 1)] U fun e w' => e = .returned (.string (nmC (k + 1))) ∧ Below U.heap.size U w') := Lib.hid (fun U _ => by have h := HAt.out (k + 1) U (by omega); rwa [Int.natCast_succ] at h)
      have hBc : Try.prog.built 41 [(0, .string (nmC k)), (1, .int .i64 5), (2, .int .i64 (100 - (k : Int))), (4, .string (nmC (k + 1)))] = some (chR k).cells := HBc.out _ _ _
      obtain ⟨rl, hrl⟩ : ∃ rl : List Value, (chR k).cells = rl.toArray := ⟨(chR k).cells.toList, by rw [Array.toArray_toList]⟩
      have HCL : Hid (rl.length = 21) := Lib.hid (by have h := RV.size (r := chR k) rfl; rw [hrl] at h; simpa using h)
      have HC1 : Hid (∀ u ∈ rl, u.oneCell' = true) := Lib.hid (fun u hu => by
        have h := RV.one (chR k)
        rw [hrl, Array.all_eq_true'] at h
        exact h u (by simpa using hu))
      obtain ⟨nr, hnr⟩ : ∃ nr, nr = k := ⟨_, rfl⟩
      have hnr9 : nr ≤ 16 := by omega
      obtain ⟨rcs0, hrcs0⟩ : ∃ rcs0, rcs0 = rcs (chL k) := ⟨_, rfl⟩
      have hap0 := HApp.out (chL k) v (chR k) nr rcs0 rl (by rw [chL_len, hnr]) hrcs0.symm (by rw [hrl])
      rw [← chL_snoc] at hap0
      have HOw := Lib.hid hap0.1
      have HAp := Lib.hid hap0.2
      rw [hrl] at hBc
      have HBr := Lib.hid hBc
      clear hBc hrl hnr hrcs0 hap0 HBc HApp HOe
      generalize nmC k = n1 at HAt1 HBr
      generalize nmC (k + 1) = n2 at HAt2 HBr
      generalize chL k = RS at HP HOw HAp
      have hwA : IntKind.i64.wrap (100 - (k : Int)) = 100 - (k : Int) := IntWalk.i64_in _ (by omega)
      have hwB : IntKind.i64.wrap ((k : Int) + 1) = (k : Int) + 1 := IntWalk.i64_in _ (by omega)
      go_upto_region 9 with fail
      refine wp_region_held_drew (S := (fun W : World => Below w.heap.size w W)) (by kernel_rfl) (HSs.out _ _ _ HP.out).drew (fun hHeld => ?_)
      have HM0 := Lib.hid (HP.out.to (Below.refl _ wr).drew)
      generalize wr.drew = V0 at HM0 hHeld ⊢
      refine wpAnyH_take (i := 0) (oi := ({ dst := some 20, op := Go.Op.fieldAddr 32 (Go.Operand.tmp 5) 6, type := 0, pos := "law.go:119", after := #[], guard := none } : Oper)) (v := .pointer (some ⟨gw, 7, none⟩)) rfl (by kernel_rfl) (by kernel_rfl) (by kernel_rfl) (fun _ _ _ h => h) (Or.inl ⟨by rfl, fun w' hS' => ?_⟩) hHeld ?_
      · go_simp
      try simp only [Act.put, List.setIfInBounds_toArray, List.set_cons_zero, List.set_cons_succ]
      refine wpAnyH_take (i := 2) (oi := ({ dst := some 22, op := Go.Op.move (Go.Operand.tmp 6), type := 44, pos := "law.go:119", after := #[], guard := none } : Oper)) (v := .func (.func 14) #[] #[]) rfl (by kernel_rfl) (by kernel_rfl) (by kernel_rfl) (fun _ _ _ h => h) (Or.inl ⟨by rfl, fun w' hS' => ?_⟩) hHeld ?_
      · go_simp
      try simp only [Act.put, List.setIfInBounds_toArray, List.set_cons_zero, List.set_cons_succ]
      refine wpAnyH_take (i := 3) (oi := ({ dst := some 23, op := Go.Op.move (Go.Operand.tmp 7), type := 3, pos := "law.go:119", after := #[], guard := none } : Oper)) (v := .int .i64 (k : Int)) rfl (by kernel_rfl) (by kernel_rfl) (by kernel_rfl) (fun _ _ _ h => h) (Or.inl ⟨by rfl, fun w' hS' => ?_⟩) hHeld ?_
      · go_simp
      try simp only [Act.put, List.setIfInBounds_toArray, List.set_cons_zero, List.set_cons_succ]
      refine wpAnyH_take (i := 5) (oi := ({ dst := some 25, op := Go.Op.move (Go.Operand.tmp 7), type := 3, pos := "law.go:119", after := #[], guard := none } : Oper)) (v := .int .i64 (k : Int)) rfl (by kernel_rfl) (by kernel_rfl) (by kernel_rfl) (fun _ _ _ h => h) (Or.inl ⟨by rfl, fun w' hS' => ?_⟩) hHeld ?_
      · go_simp
      try simp only [Act.put, List.setIfInBounds_toArray, List.set_cons_zero, List.set_cons_succ]
      refine wpAnyH_take (i := 6) (oi := ({ dst := some 26, op := Go.Op.binOp Go.BinOp.sub 3 (Go.Operand.const (Go.Value.int Go.IntKind.i64 100)) (Go.Operand.tmp 25) 3, type := 3, pos := "law.go:119", after := #[{ on := 5, ground := Go.Ground.data }], guard := none } : Oper)) (v := .int .i64 (100 - (k : Int))) rfl (by kernel_rfl) (by kernel_rfl) (by kernel_rfl) (fun _ _ _ h => h) (Or.inl ⟨by rfl, fun w' hS' => ?_⟩) hHeld ?_
      · go_simp
      try simp only [Act.put, List.setIfInBounds_toArray, List.set_cons_zero, List.set_cons_succ]
      refine wpAnyH_take (i := 7) (oi := ({ dst := some 27, op := Go.Op.move (Go.Operand.tmp 6), type := 44, pos := "law.go:119", after := #[], guard := none } : Oper)) (v := .func (.func 14) #[] #[]) rfl (by kernel_rfl) (by kernel_rfl) (by kernel_rfl) (fun _ _ _ h => h) (Or.inl ⟨by rfl, fun w' hS' => ?_⟩) hHeld ?_
      · go_simp
      try simp only [Act.put, List.setIfInBounds_toArray, List.set_cons_zero, List.set_cons_succ]
      refine wpAnyH_take (i := 8) (oi := ({ dst := some 28, op := Go.Op.move (Go.Operand.tmp 7), type := 3, pos := "law.go:119", after := #[], guard := none } : Oper)) (v := .int .i64 (k : Int)) rfl (by kernel_rfl) (by kernel_rfl) (by kernel_rfl) (fun _ _ _ h => h) (Or.inl ⟨by rfl, fun w' hS' => ?_⟩) hHeld ?_
      · go_simp
      try simp only [Act.put, List.setIfInBounds_toArray, List.set_cons_zero, List.set_cons_succ]
      refine wpAnyH_take (i := 9) (oi := ({ dst := some 29, op := Go.Op.binOp Go.BinOp.add 3 (Go.Operand.tmp 28) (Go.Operand.const (Go.Value.int Go.IntKind.i64 1)) 3, type := 3, pos := "law.go:119", after := #[{ on := 8, ground := Go.Ground.data }], guard := none } : Oper)) (v := .int .i64 ((k : Int) + 1)) rfl (by kernel_rfl) (by kernel_rfl) (by kernel_rfl) (fun _ _ _ h => h) (Or.inl ⟨by rfl, fun w' hS' => ?_⟩) hHeld ?_
      · go_simp
      try simp only [Act.put, List.setIfInBounds_toArray, List.set_cons_zero, List.set_cons_succ]
      refine wpAnyH_ready (rs := [1, 4]) (by kernel_rfl) (by simp) ?_
      refine (AllReadyH.cons (o := ({ dst := some 21, op := Go.Op.load 30 (Go.Operand.tmp 20), type := 30, pos := "law.go:119", after := #[{ on := 0, ground := Go.Ground.data }], guard := none } : Oper)) rfl (fun K hK => ?_) (AllReadyH.cons (o := ({ dst := some 24, op := Go.Op.call { callee := Go.Callee.value (Go.Operand.tmp 22), args := #[Go.Operand.tmp 23], argTypes := #[3] }, type := 9, pos := "law.go:119", after := #[{ on := 2, ground := Go.Ground.data }, { on := 3, ground := Go.Ground.data }], guard := none } : Oper)) rfl (fun K hK => ?_) AllReadyH.nil))
      · have d7 := (cell_of_row _ gw 7 _ _ _ HM0.out.ws).trans (HC7.out v)
        go_simp
        clear d7
        refine hK.out _ _ hHeld (fun hHeld => ?_)
        clear hK K
        try simp only [Act.put, List.setIfInBounds_toArray, List.set_cons_zero, List.set_cons_succ]
        refine wpAnyH_ready (rs := [4]) (by kernel_rfl) (by simp) ?_
        refine (AllReadyH.cons (o := ({ dst := some 24, op := Go.Op.call { callee := Go.Callee.value (Go.Operand.tmp 22), args := #[Go.Operand.tmp 23], argTypes := #[3] }, type := 9, pos := "law.go:119", after := #[{ on := 2, ground := Go.Ground.data }, { on := 3, ground := Go.Ground.data }], guard := none } : Oper)) rfl (fun K hK => ?_) AllReadyH.nil)
        go_simp
        go_at_call 14
        refine (HAt1.out _ HM0.out.below).mono ?_
        rintro e' U1 ⟨rfl, hbm⟩
        have HM2 := Lib.hid (HM0.out.to hbm)
        refine hK.out _ _ (HSs.out _ _ _ HM2.out) (fun hHeld => ?_)
        clear hK K hbm
        try simp only [Act.put, List.setIfInBounds_toArray, List.set_cons_zero, List.set_cons_succ]
        refine wpAnyH_ready (rs := [10]) (by kernel_rfl) (by simp) ?_
        refine (AllReadyH.cons (o := ({ dst := some 30, op := Go.Op.call { callee := Go.Callee.value (Go.Operand.tmp 27), args := #[Go.Operand.tmp 29], argTypes := #[3] }, type := 9, pos := "law.go:119", after := #[{ on := 7, ground := Go.Ground.data }, { on := 9, ground := Go.Ground.data }, { on := 4, ground := Go.Ground.chain }], guard := none } : Oper)) rfl (fun K hK => ?_) AllReadyH.nil)
        go_simp
        go_at_call 14
        refine (HAt2.out _ HM2.out.below).mono ?_
        rintro e' U3 ⟨rfl, hbm⟩
        have HM4 := Lib.hid (HM2.out.to hbm)
        refine hK.out _ _ (HSs.out _ _ _ HM4.out) (fun hHeld => ?_)
        clear hK K hbm
        try simp only [Act.put, List.setIfInBounds_toArray, List.set_cons_zero, List.set_cons_succ]
        refine wpAnyH_take (i := 11) (oi := ({ dst := some 31, op := Go.Op.build 41 #[(0, Go.Operand.tmp 24), (1, Go.Operand.const (Go.Value.int Go.IntKind.i64 5)), (2, Go.Operand.tmp 26), (4, Go.Operand.tmp 30)], type := 41, pos := "law.go:119", after := #[{ on := 4, ground := Go.Ground.data }, { on := 6, ground := Go.Ground.data }, { on := 10, ground := Go.Ground.data }], guard := none } : Oper)) (v := .agg rl.toArray) rfl (by kernel_rfl) (by kernel_rfl) (by kernel_rfl) (fun _ _ _ h => h) (yieldsIf_build (by rfl) 41 #[(0, .tmp 24), (1, .const (.int .i64 5)), (2, .tmp 26), (4, .tmp 30)] rfl [(0, .string n1), (1, .int .i64 5), (2, .int .i64 (100 - (k : Int))), (4, .string n2)] rl.toArray rfl HBr.out) hHeld ?_
        try simp only [Act.put, List.setIfInBounds_toArray, List.set_cons_zero, List.set_cons_succ]
        refine wpAnyH_ready (rs := [12]) (by kernel_rfl) (by simp) ?_
        refine (AllReadyH.cons (o := ({ dst := some 32, op := Go.Op.buildSlice 30 1 #[(0, Go.Operand.tmp 31)], type := 30, pos := "law.go:119", after := #[{ on := 11, ground := Go.Ground.data }], guard := none } : Oper)) rfl (fun K hK => ?_) AllReadyH.nil)
        rw [if_pos (by kernel_rfl)]
        refine wp_buildSlice 30 41 1 _ rfl rl.toArray i0 _ Try.underlying30 HI.out HZ0.out (by rw [HZ1.out]; decide) (by rw [HZ1.out]; decide) (by rw [HZ1.out]; refine (congrArg _ (?_ : _ = [(0, Value.agg rl.toArray)])).trans (fill21c HCL.out); rw [Array.toList_map]; rfl) ?_
        have HM6 := Lib.hid (HM4.out.to ((Below.refl _ U3).alloc (Nat.le_refl _) (.cells rl.toArray 41)))
        have HGb := Lib.hid (heap_alloc_last U3 (.cells rl.toArray 41))
        refine hK.out _ _ (HSs.out _ _ _ HM6.out) (fun hHeld => ?_)
        clear hK K
        try simp only [Act.put, List.setIfInBounds_toArray, List.set_cons_zero, List.set_cons_succ]
        generalize U3.alloc (.cells rl.toArray 41) = U5 at HM6 HGb hHeld ⊢
        generalize U3.heap.size = gB7 at HGb ⊢
        refine wpAnyH_ready (rs := [13]) (by kernel_rfl) (by simp) ?_
        refine (AllReadyH.cons (o := ({ dst := some 33, op := Go.Op.call { callee := Go.Callee.builtin Go.Builtin.append, args := #[Go.Operand.tmp 21, Go.Operand.tmp 32], argTypes := #[30, 30] }, type := 30, pos := "law.go:119", after := #[{ on := 1, ground := Go.Ground.data }, { on := 12, ground := Go.Ground.data }, { on := 10, ground := Go.Ground.chain }], guard := none } : Oper)) rfl (fun K hK => ?_) AllReadyH.nil)
        rw [if_pos (by kernel_rfl)]
        have HO6 := Lib.hid (HOw.out _ HM6.out)
        refine wp_append_own (w := U5) (.tmp 21) (.tmp 32) 30 rfl base 41 i0 _ 21 80 Try.underlying30 HI.out HZ0.out HZ1.out HZ2.out rfl (by decide) v nr rcs0 rfl HO6.out ⟨gB7, 0, none⟩ 1 1 rl rfl (by rw [HCL.out]) (fun j u hj => by rw [Addr.add_lit, Nat.zero_add]; exact (cell_of_row _ _ j _ _ _ HGb.out).trans (by rw [List.getElem?_toArray]; exact hj)) HC1.out (by unfold maxLen; omega) (by omega) HM6.out.hb ?_
        intro v1 U8 ho1 hg1 hnil
        clear hnil
        have hap := HAp.out _ HM6.out _ _ ho1 hg1
        obtain ⟨A1, ca1, rfl⟩ := own_sl4 ho1
        have d9 := (cell_of_row U8 gw 7 _ _ _ hap.1).trans (HC7.out v)
        have f9 := frozen_of_row U8 gw 7 _ _ hap.1
        have HNX := Lib.hid hap.2.2
        refine hK.out _ _ hap.2.1 (fun hHeld => ?_)
        clear hK K ho1 hg1 hap
        try simp only [Act.put, List.setIfInBounds_toArray, List.set_cons_zero, List.set_cons_succ]
        refine wpAnyH_take (i := 14) (oi := ({ dst := some 34, op := Go.Op.fieldAddr 32 (Go.Operand.tmp 5) 6, type := 0, pos := "law.go:119", after := #[{ on := 0, ground := Go.Ground.phase }, { on := 1, ground := Go.Ground.phase }, { on := 2, ground := Go.Ground.phase }, { on := 3, ground := Go.Ground.phase }, { on := 4, ground := Go.Ground.phase }, { on := 5, ground := Go.Ground.phase }, { on := 6, ground := Go.Ground.phase }, { on := 7, ground := Go.Ground.phase }, { on := 8, ground := Go.Ground.phase }, { on := 9, ground := Go.Ground.phase }, { on := 10, ground := Go.Ground.phase }, { on := 11, ground := Go.Ground.phase }, { on := 12, ground := Go.Ground.phase }, { on := 13, ground := Go.Ground.phase }], guard := none } : Oper)) (v := .pointer (some ⟨gw, 7, none⟩)) rfl (by kernel_rfl) (by kernel_rfl) (by kernel_rfl) (fun _ _ _ h => h) (Or.inl ⟨by rfl, fun w' hS' => ?_⟩) hHeld ?_
        · go_simp
        try simp only [Act.put, List.setIfInBounds_toArray, List.set_cons_zero, List.set_cons_succ]
        refine wpAnyH_ready (rs := [15]) (by kernel_rfl) (by simp) ?_
        refine AllReadyH.cons (o := ({ dst := none, op := Go.Op.store 30 (Go.Operand.tmp 34) (Go.Operand.tmp 33), type := 0, pos := "law.go:119", after := #[{ on := 14, ground := Go.Ground.data }, { on := 13, ground := Go.Ground.data }, { on := 13, ground := Go.Ground.chain }, { on := 0, ground := Go.Ground.phase }, { on := 1, ground := Go.Ground.phase }, { on := 2, ground := Go.Ground.phase }, { on := 3, ground := Go.Ground.phase }, { on := 4, ground := Go.Ground.phase }, { on := 5, ground := Go.Ground.phase }, { on := 6, ground := Go.Ground.phase }, { on := 7, ground := Go.Ground.phase }, { on := 8, ground := Go.Ground.phase }, { on := 9, ground := Go.Ground.phase }, { on := 10, ground := Go.Ground.phase }, { on := 11, ground := Go.Ground.phase }, { on := 12, ground := Go.Ground.phase }, { on := 13, ground := Go.Ground.phase }], guard := none } : Oper)) rfl (fun K hK => ?_) AllReadyH.nil
        go_simp
        refine hK.out _ _ (HSs.out _ _ _ HNX.out) (fun _ => ?_)
        clear hK K
        refine wpAnyH_done (by kernel_rfl) ?_ _
        try (go_wp2_with fail)
        go_roundw
        case rel => exact ⟨k + 1, _, by omega, by first | rfl | go_num, HNX⟩
        case measure => simp [intOf]; omega
      · go_simp
        go_at_call 14
        refine (HAt1.out _ HM0.out.below).mono ?_
        rintro e' U9 ⟨rfl, hbm⟩
        have HM10 := Lib.hid (HM0.out.to hbm)
        refine hK.out _ _ (HSs.out _ _ _ HM10.out) (fun hHeld => ?_)
        clear hK K hbm
        try simp only [Act.put, List.setIfInBounds_toArray, List.set_cons_zero, List.set_cons_succ]
        refine wpAnyH_ready (rs := [1, 10]) (by kernel_rfl) (by simp) ?_
        refine (AllReadyH.cons (o := ({ dst := some 21, op := Go.Op.load 30 (Go.Operand.tmp 20), type := 30, pos := "law.go:119", after := #[{ on := 0, ground := Go.Ground.data }], guard := none } : Oper)) rfl (fun K hK => ?_) (AllReadyH.cons (o := ({ dst := some 30, op := Go.Op.call { callee := Go.Callee.value (Go.Operand.tmp 27), args := #[Go.Operand.tmp 29], argTypes := #[3] }, type := 9, pos := "law.go:119", after := #[{ on := 7, ground := Go.Ground.data }, { on := 9, ground := Go.Ground.data }, { on := 4, ground := Go.Ground.chain }], guard := none } : Oper)) rfl (fun K hK => ?_) AllReadyH.nil))
        · have d7 := (cell_of_row _ gw 7 _ _ _ HM10.out.ws).trans (HC7.out v)
          go_simp
          clear d7
          refine hK.out _ _ hHeld (fun hHeld => ?_)
          clear hK K
          try simp only [Act.put, List.setIfInBounds_toArray, List.set_cons_zero, List.set_cons_succ]
          refine wpAnyH_ready (rs := [10]) (by kernel_rfl) (by simp) ?_
          refine (AllReadyH.cons (o := ({ dst := some 30, op := Go.Op.call { callee := Go.Callee.value (Go.Operand.tmp 27), args := #[Go.Operand.tmp 29], argTypes := #[3] }, type := 9, pos := "law.go:119", after := #[{ on := 7, ground := Go.Ground.data }, { on := 9, ground := Go.Ground.data }, { on := 4, ground := Go.Ground.chain }], guard := none } : Oper)) rfl (fun K hK => ?_) AllReadyH.nil)
          go_simp
          go_at_call 14
          refine (HAt2.out _ HM10.out.below).mono ?_
          rintro e' U11 ⟨rfl, hbm⟩
          have HM12 := Lib.hid (HM10.out.to hbm)
          refine hK.out _ _ (HSs.out _ _ _ HM12.out) (fun hHeld => ?_)
          clear hK K hbm
          try simp only [Act.put, List.setIfInBounds_toArray, List.set_cons_zero, List.set_cons_succ]
          refine wpAnyH_take (i := 11) (oi := ({ dst := some 31, op := Go.Op.build 41 #[(0, Go.Operand.tmp 24), (1, Go.Operand.const (Go.Value.int Go.IntKind.i64 5)), (2, Go.Operand.tmp 26), (4, Go.Operand.tmp 30)], type := 41, pos := "law.go:119", after := #[{ on := 4, ground := Go.Ground.data }, { on := 6, ground := Go.Ground.data }, { on := 10, ground := Go.Ground.data }], guard := none } : Oper)) (v := .agg rl.toArray) rfl (by kernel_rfl) (by kernel_rfl) (by kernel_rfl) (fun _ _ _ h => h) (yieldsIf_build (by rfl) 41 #[(0, .tmp 24), (1, .const (.int .i64 5)), (2, .tmp 26), (4, .tmp 30)] rfl [(0, .string n1), (1, .int .i64 5), (2, .int .i64 (100 - (k : Int))), (4, .string n2)] rl.toArray rfl HBr.out) hHeld ?_
          try simp only [Act.put, List.setIfInBounds_toArray, List.set_cons_zero, List.set_cons_succ]
          refine wpAnyH_ready (rs := [12]) (by kernel_rfl) (by simp) ?_
          refine (AllReadyH.cons (o := ({ dst := some 32, op := Go.Op.buildSlice 30 1 #[(0, Go.Operand.tmp 31)], type := 30, pos := "law.go:119", after := #[{ on := 11, ground := Go.Ground.data }], guard := none } : Oper)) rfl (fun K hK => ?_) AllReadyH.nil)
          rw [if_pos (by kernel_rfl)]
          refine wp_buildSlice 30 41 1 _ rfl rl.toArray i0 _ Try.underlying30 HI.out HZ0.out (by rw [HZ1.out]; decide) (by rw [HZ1.out]; decide) (by rw [HZ1.out]; refine (congrArg _ (?_ : _ = [(0, Value.agg rl.toArray)])).trans (fill21c HCL.out); rw [Array.toList_map]; rfl) ?_
          have HM14 := Lib.hid (HM12.out.to ((Below.refl _ U11).alloc (Nat.le_refl _) (.cells rl.toArray 41)))
          have HGb := Lib.hid (heap_alloc_last U11 (.cells rl.toArray 41))
          refine hK.out _ _ (HSs.out _ _ _ HM14.out) (fun hHeld => ?_)
          clear hK K
          try simp only [Act.put, List.setIfInBounds_toArray, List.set_cons_zero, List.set_cons_succ]
          generalize U11.alloc (.cells rl.toArray 41) = U13 at HM14 HGb hHeld ⊢
          generalize U11.heap.size = gB15 at HGb ⊢
          refine wpAnyH_ready (rs := [13]) (by kernel_rfl) (by simp) ?_
          refine (AllReadyH.cons (o := ({ dst := some 33, op := Go.Op.call { callee := Go.Callee.builtin Go.Builtin.append, args := #[Go.Operand.tmp 21, Go.Operand.tmp 32], argTypes := #[30, 30] }, type := 30, pos := "law.go:119", after := #[{ on := 1, ground := Go.Ground.data }, { on := 12, ground := Go.Ground.data }, { on := 10, ground := Go.Ground.chain }], guard := none } : Oper)) rfl (fun K hK => ?_) AllReadyH.nil)
          rw [if_pos (by kernel_rfl)]
          have HO6 := Lib.hid (HOw.out _ HM14.out)
          refine wp_append_own (w := U13) (.tmp 21) (.tmp 32) 30 rfl base 41 i0 _ 21 80 Try.underlying30 HI.out HZ0.out HZ1.out HZ2.out rfl (by decide) v nr rcs0 rfl HO6.out ⟨gB15, 0, none⟩ 1 1 rl rfl (by rw [HCL.out]) (fun j u hj => by rw [Addr.add_lit, Nat.zero_add]; exact (cell_of_row _ _ j _ _ _ HGb.out).trans (by rw [List.getElem?_toArray]; exact hj)) HC1.out (by unfold maxLen; omega) (by omega) HM14.out.hb ?_
          intro v1 U16 ho1 hg1 hnil
          clear hnil
          have hap := HAp.out _ HM14.out _ _ ho1 hg1
          obtain ⟨A1, ca1, rfl⟩ := own_sl4 ho1
          have d9 := (cell_of_row U16 gw 7 _ _ _ hap.1).trans (HC7.out v)
          have f9 := frozen_of_row U16 gw 7 _ _ hap.1
          have HNX := Lib.hid hap.2.2
          refine hK.out _ _ hap.2.1 (fun hHeld => ?_)
          clear hK K ho1 hg1 hap
          try simp only [Act.put, List.setIfInBounds_toArray, List.set_cons_zero, List.set_cons_succ]
          refine wpAnyH_take (i := 14) (oi := ({ dst := some 34, op := Go.Op.fieldAddr 32 (Go.Operand.tmp 5) 6, type := 0, pos := "law.go:119", after := #[{ on := 0, ground := Go.Ground.phase }, { on := 1, ground := Go.Ground.phase }, { on := 2, ground := Go.Ground.phase }, { on := 3, ground := Go.Ground.phase }, { on := 4, ground := Go.Ground.phase }, { on := 5, ground := Go.Ground.phase }, { on := 6, ground := Go.Ground.phase }, { on := 7, ground := Go.Ground.phase }, { on := 8, ground := Go.Ground.phase }, { on := 9, ground := Go.Ground.phase }, { on := 10, ground := Go.Ground.phase }, { on := 11, ground := Go.Ground.phase }, { on := 12, ground := Go.Ground.phase }, { on := 13, ground := Go.Ground.phase }], guard := none } : Oper)) (v := .pointer (some ⟨gw, 7, none⟩)) rfl (by kernel_rfl) (by kernel_rfl) (by kernel_rfl) (fun _ _ _ h => h) (Or.inl ⟨by rfl, fun w' hS' => ?_⟩) hHeld ?_
          · go_simp
          try simp only [Act.put, List.setIfInBounds_toArray, List.set_cons_zero, List.set_cons_succ]
          refine wpAnyH_ready (rs := [15]) (by kernel_rfl) (by simp) ?_
          refine AllReadyH.cons (o := ({ dst := none, op := Go.Op.store 30 (Go.Operand.tmp 34) (Go.Operand.tmp 33), type := 0, pos := "law.go:119", after := #[{ on := 14, ground := Go.Ground.data }, { on := 13, ground := Go.Ground.data }, { on := 13, ground := Go.Ground.chain }, { on := 0, ground := Go.Ground.phase }, { on := 1, ground := Go.Ground.phase }, { on := 2, ground := Go.Ground.phase }, { on := 3, ground := Go.Ground.phase }, { on := 4, ground := Go.Ground.phase }, { on := 5, ground := Go.Ground.phase }, { on := 6, ground := Go.Ground.phase }, { on := 7, ground := Go.Ground.phase }, { on := 8, ground := Go.Ground.phase }, { on := 9, ground := Go.Ground.phase }, { on := 10, ground := Go.Ground.phase }, { on := 11, ground := Go.Ground.phase }, { on := 12, ground := Go.Ground.phase }, { on := 13, ground := Go.Ground.phase }], guard := none } : Oper)) rfl (fun K hK => ?_) AllReadyH.nil
          go_simp
          refine hK.out _ _ (HSs.out _ _ _ HNX.out) (fun _ => ?_)
          clear hK K
          refine wpAnyH_done (by kernel_rfl) ?_ _
          try (go_wp2_with fail)
          go_roundw
          case rel => exact ⟨k + 1, _, by omega, by first | rfl | go_num, HNX⟩
          case measure => simp [intOf]; omega
        · go_simp
          go_at_call 14
          refine (HAt2.out _ HM10.out.below).mono ?_
          rintro e' U17 ⟨rfl, hbm⟩
          have HM18 := Lib.hid (HM10.out.to hbm)
          refine hK.out _ _ (HSs.out _ _ _ HM18.out) (fun hHeld => ?_)
          clear hK K hbm
          try simp only [Act.put, List.setIfInBounds_toArray, List.set_cons_zero, List.set_cons_succ]
          refine wpAnyH_take (i := 11) (oi := ({ dst := some 31, op := Go.Op.build 41 #[(0, Go.Operand.tmp 24), (1, Go.Operand.const (Go.Value.int Go.IntKind.i64 5)), (2, Go.Operand.tmp 26), (4, Go.Operand.tmp 30)], type := 41, pos := "law.go:119", after := #[{ on := 4, ground := Go.Ground.data }, { on := 6, ground := Go.Ground.data }, { on := 10, ground := Go.Ground.data }], guard := none } : Oper)) (v := .agg rl.toArray) rfl (by kernel_rfl) (by kernel_rfl) (by kernel_rfl) (fun _ _ _ h => h) (yieldsIf_build (by rfl) 41 #[(0, .tmp 24), (1, .const (.int .i64 5)), (2, .tmp 26), (4, .tmp 30)] rfl [(0, .string n1), (1, .int .i64 5), (2, .int .i64 (100 - (k : Int))), (4, .string n2)] rl.toArray rfl HBr.out) hHeld ?_
          try simp only [Act.put, List.setIfInBounds_toArray, List.set_cons_zero, List.set_cons_succ]
          refine wpAnyH_ready (rs := [1, 12]) (by kernel_rfl) (by simp) ?_
          refine (AllReadyH.cons (o := ({ dst := some 21, op := Go.Op.load 30 (Go.Operand.tmp 20), type := 30, pos := "law.go:119", after := #[{ on := 0, ground := Go.Ground.data }], guard := none } : Oper)) rfl (fun K hK => ?_) (AllReadyH.cons (o := ({ dst := some 32, op := Go.Op.buildSlice 30 1 #[(0, Go.Operand.tmp 31)], type := 30, pos := "law.go:119", after := #[{ on := 11, ground := Go.Ground.data }], guard := none } : Oper)) rfl (fun K hK => ?_) AllReadyH.nil))
          · have d7 := (cell_of_row _ gw 7 _ _ _ HM18.out.ws).trans (HC7.out v)
            go_simp
            clear d7
            refine hK.out _ _ hHeld (fun hHeld => ?_)
            clear hK K
            try simp only [Act.put, List.setIfInBounds_toArray, List.set_cons_zero, List.set_cons_succ]
            refine wpAnyH_ready (rs := [12]) (by kernel_rfl) (by simp) ?_
            refine (AllReadyH.cons (o := ({ dst := some 32, op := Go.Op.buildSlice 30 1 #[(0, Go.Operand.tmp 31)], type := 30, pos := "law.go:119", after := #[{ on := 11, ground := Go.Ground.data }], guard := none } : Oper)) rfl (fun K hK => ?_) AllReadyH.nil)
            rw [if_pos (by kernel_rfl)]
            refine wp_buildSlice 30 41 1 _ rfl rl.toArray i0 _ Try.underlying30 HI.out HZ0.out (by rw [HZ1.out]; decide) (by rw [HZ1.out]; decide) (by rw [HZ1.out]; refine (congrArg _ (?_ : _ = [(0, Value.agg rl.toArray)])).trans (fill21c HCL.out); rw [Array.toList_map]; rfl) ?_
            have HM20 := Lib.hid (HM18.out.to ((Below.refl _ U17).alloc (Nat.le_refl _) (.cells rl.toArray 41)))
            have HGb := Lib.hid (heap_alloc_last U17 (.cells rl.toArray 41))
            refine hK.out _ _ (HSs.out _ _ _ HM20.out) (fun hHeld => ?_)
            clear hK K
            try simp only [Act.put, List.setIfInBounds_toArray, List.set_cons_zero, List.set_cons_succ]
            generalize U17.alloc (.cells rl.toArray 41) = U19 at HM20 HGb hHeld ⊢
            generalize U17.heap.size = gB21 at HGb ⊢
            refine wpAnyH_ready (rs := [13]) (by kernel_rfl) (by simp) ?_
            refine (AllReadyH.cons (o := ({ dst := some 33, op := Go.Op.call { callee := Go.Callee.builtin Go.Builtin.append, args := #[Go.Operand.tmp 21, Go.Operand.tmp 32], argTypes := #[30, 30] }, type := 30, pos := "law.go:119", after := #[{ on := 1, ground := Go.Ground.data }, { on := 12, ground := Go.Ground.data }, { on := 10, ground := Go.Ground.chain }], guard := none } : Oper)) rfl (fun K hK => ?_) AllReadyH.nil)
            rw [if_pos (by kernel_rfl)]
            have HO6 := Lib.hid (HOw.out _ HM20.out)
            refine wp_append_own (w := U19) (.tmp 21) (.tmp 32) 30 rfl base 41 i0 _ 21 80 Try.underlying30 HI.out HZ0.out HZ1.out HZ2.out rfl (by decide) v nr rcs0 rfl HO6.out ⟨gB21, 0, none⟩ 1 1 rl rfl (by rw [HCL.out]) (fun j u hj => by rw [Addr.add_lit, Nat.zero_add]; exact (cell_of_row _ _ j _ _ _ HGb.out).trans (by rw [List.getElem?_toArray]; exact hj)) HC1.out (by unfold maxLen; omega) (by omega) HM20.out.hb ?_
            intro v1 U22 ho1 hg1 hnil
            clear hnil
            have hap := HAp.out _ HM20.out _ _ ho1 hg1
            obtain ⟨A1, ca1, rfl⟩ := own_sl4 ho1
            have d9 := (cell_of_row U22 gw 7 _ _ _ hap.1).trans (HC7.out v)
            have f9 := frozen_of_row U22 gw 7 _ _ hap.1
            have HNX := Lib.hid hap.2.2
            refine hK.out _ _ hap.2.1 (fun hHeld => ?_)
            clear hK K ho1 hg1 hap
            try simp only [Act.put, List.setIfInBounds_toArray, List.set_cons_zero, List.set_cons_succ]
            refine wpAnyH_take (i := 14) (oi := ({ dst := some 34, op := Go.Op.fieldAddr 32 (Go.Operand.tmp 5) 6, type := 0, pos := "law.go:119", after := #[{ on := 0, ground := Go.Ground.phase }, { on := 1, ground := Go.Ground.phase }, { on := 2, ground := Go.Ground.phase }, { on := 3, ground := Go.Ground.phase }, { on := 4, ground := Go.Ground.phase }, { on := 5, ground := Go.Ground.phase }, { on := 6, ground := Go.Ground.phase }, { on := 7, ground := Go.Ground.phase }, { on := 8, ground := Go.Ground.phase }, { on := 9, ground := Go.Ground.phase }, { on := 10, ground := Go.Ground.phase }, { on := 11, ground := Go.Ground.phase }, { on := 12, ground := Go.Ground.phase }, { on := 13, ground := Go.Ground.phase }], guard := none } : Oper)) (v := .pointer (some ⟨gw, 7, none⟩)) rfl (by kernel_rfl) (by kernel_rfl) (by kernel_rfl) (fun _ _ _ h => h) (Or.inl ⟨by rfl, fun w' hS' => ?_⟩) hHeld ?_
            · go_simp
            try simp only [Act.put, List.setIfInBounds_toArray, List.set_cons_zero, List.set_cons_succ]
            refine wpAnyH_ready (rs := [15]) (by kernel_rfl) (by simp) ?_
            refine AllReadyH.cons (o := ({ dst := none, op := Go.Op.store 30 (Go.Operand.tmp 34) (Go.Operand.tmp 33), type := 0, pos := "law.go:119", after := #[{ on := 14, ground := Go.Ground.data }, { on := 13, ground := Go.Ground.data }, { on := 13, ground := Go.Ground.chain }, { on := 0, ground := Go.Ground.phase }, { on := 1, ground := Go.Ground.phase }, { on := 2, ground := Go.Ground.phase }, { on := 3, ground := Go.Ground.phase }, { on := 4, ground := Go.Ground.phase }, { on := 5, ground := Go.Ground.phase }, { on := 6, ground := Go.Ground.phase }, { on := 7, ground := Go.Ground.phase }, { on := 8, ground := Go.Ground.phase }, { on := 9, ground := Go.Ground.phase }, { on := 10, ground := Go.Ground.phase }, { on := 11, ground := Go.Ground.phase }, { on := 12, ground := Go.Ground.phase }, { on := 13, ground := Go.Ground.phase }], guard := none } : Oper)) rfl (fun K hK => ?_) AllReadyH.nil
            go_simp
            refine hK.out _ _ (HSs.out _ _ _ HNX.out) (fun _ => ?_)
            clear hK K
            refine wpAnyH_done (by kernel_rfl) ?_ _
            try (go_wp2_with fail)
            go_roundw
            case rel => exact ⟨k + 1, _, by omega, by first | rfl | go_num, HNX⟩
            case measure => simp [intOf]; omega
          · rw [if_pos (by kernel_rfl)]
            refine wp_buildSlice 30 41 1 _ rfl rl.toArray i0 _ Try.underlying30 HI.out HZ0.out (by rw [HZ1.out]; decide) (by rw [HZ1.out]; decide) (by rw [HZ1.out]; refine (congrArg _ (?_ : _ = [(0, Value.agg rl.toArray)])).trans (fill21c HCL.out); rw [Array.toList_map]; rfl) ?_
            have HM24 := Lib.hid (HM18.out.to ((Below.refl _ U17).alloc (Nat.le_refl _) (.cells rl.toArray 41)))
            have HGb := Lib.hid (heap_alloc_last U17 (.cells rl.toArray 41))
            refine hK.out _ _ (HSs.out _ _ _ HM24.out) (fun hHeld => ?_)
            clear hK K
            try simp only [Act.put, List.setIfInBounds_toArray, List.set_cons_zero, List.set_cons_succ]
            generalize U17.alloc (.cells rl.toArray 41) = U23 at HM24 HGb hHeld ⊢
            generalize U17.heap.size = gB25 at HGb ⊢
            refine wpAnyH_ready (rs := [1]) (by kernel_rfl) (by simp) ?_
            refine (AllReadyH.cons (o := ({ dst := some 21, op := Go.Op.load 30 (Go.Operand.tmp 20), type := 30, pos := "law.go:119", after := #[{ on := 0, ground := Go.Ground.data }], guard := none } : Oper)) rfl (fun K hK => ?_) AllReadyH.nil)
            have d7 := (cell_of_row _ gw 7 _ _ _ HM24.out.ws).trans (HC7.out v)
            go_simp
            clear d7
            refine hK.out _ _ hHeld (fun hHeld => ?_)
            clear hK K
            try simp only [Act.put, List.setIfInBounds_toArray, List.set_cons_zero, List.set_cons_succ]
            refine wpAnyH_ready (rs := [13]) (by kernel_rfl) (by simp) ?_
            refine (AllReadyH.cons (o := ({ dst := some 33, op := Go.Op.call { callee := Go.Callee.builtin Go.Builtin.append, args := #[Go.Operand.tmp 21, Go.Operand.tmp 32], argTypes := #[30, 30] }, type := 30, pos := "law.go:119", after := #[{ on := 1, ground := Go.Ground.data }, { on := 12, ground := Go.Ground.data }, { on := 10, ground := Go.Ground.chain }], guard := none } : Oper)) rfl (fun K hK => ?_) AllReadyH.nil)
            rw [if_pos (by kernel_rfl)]
            have HO6 := Lib.hid (HOw.out _ HM24.out)
            refine wp_append_own (w := U23) (.tmp 21) (.tmp 32) 30 rfl base 41 i0 _ 21 80 Try.underlying30 HI.out HZ0.out HZ1.out HZ2.out rfl (by decide) v nr rcs0 rfl HO6.out ⟨gB25, 0, none⟩ 1 1 rl rfl (by rw [HCL.out]) (fun j u hj => by rw [Addr.add_lit, Nat.zero_add]; exact (cell_of_row _ _ j _ _ _ HGb.out).trans (by rw [List.getElem?_toArray]; exact hj)) HC1.out (by unfold maxLen; omega) (by omega) HM24.out.hb ?_
            intro v1 U26 ho1 hg1 hnil
            clear hnil
            have hap := HAp.out _ HM24.out _ _ ho1 hg1
            obtain ⟨A1, ca1, rfl⟩ := own_sl4 ho1
            have d9 := (cell_of_row U26 gw 7 _ _ _ hap.1).trans (HC7.out v)
            have f9 := frozen_of_row U26 gw 7 _ _ hap.1
            have HNX := Lib.hid hap.2.2
            refine hK.out _ _ hap.2.1 (fun hHeld => ?_)
            clear hK K ho1 hg1 hap
            try simp only [Act.put, List.setIfInBounds_toArray, List.set_cons_zero, List.set_cons_succ]
            refine wpAnyH_take (i := 14) (oi := ({ dst := some 34, op := Go.Op.fieldAddr 32 (Go.Operand.tmp 5) 6, type := 0, pos := "law.go:119", after := #[{ on := 0, ground := Go.Ground.phase }, { on := 1, ground := Go.Ground.phase }, { on := 2, ground := Go.Ground.phase }, { on := 3, ground := Go.Ground.phase }, { on := 4, ground := Go.Ground.phase }, { on := 5, ground := Go.Ground.phase }, { on := 6, ground := Go.Ground.phase }, { on := 7, ground := Go.Ground.phase }, { on := 8, ground := Go.Ground.phase }, { on := 9, ground := Go.Ground.phase }, { on := 10, ground := Go.Ground.phase }, { on := 11, ground := Go.Ground.phase }, { on := 12, ground := Go.Ground.phase }, { on := 13, ground := Go.Ground.phase }], guard := none } : Oper)) (v := .pointer (some ⟨gw, 7, none⟩)) rfl (by kernel_rfl) (by kernel_rfl) (by kernel_rfl) (fun _ _ _ h => h) (Or.inl ⟨by rfl, fun w' hS' => ?_⟩) hHeld ?_
            · go_simp
            try simp only [Act.put, List.setIfInBounds_toArray, List.set_cons_zero, List.set_cons_succ]
            refine wpAnyH_ready (rs := [15]) (by kernel_rfl) (by simp) ?_
            refine AllReadyH.cons (o := ({ dst := none, op := Go.Op.store 30 (Go.Operand.tmp 34) (Go.Operand.tmp 33), type := 0, pos := "law.go:119", after := #[{ on := 14, ground := Go.Ground.data }, { on := 13, ground := Go.Ground.data }, { on := 13, ground := Go.Ground.chain }, { on := 0, ground := Go.Ground.phase }, { on := 1, ground := Go.Ground.phase }, { on := 2, ground := Go.Ground.phase }, { on := 3, ground := Go.Ground.phase }, { on := 4, ground := Go.Ground.phase }, { on := 5, ground := Go.Ground.phase }, { on := 6, ground := Go.Ground.phase }, { on := 7, ground := Go.Ground.phase }, { on := 8, ground := Go.Ground.phase }, { on := 9, ground := Go.Ground.phase }, { on := 10, ground := Go.Ground.phase }, { on := 11, ground := Go.Ground.phase }, { on := 12, ground := Go.Ground.phase }, { on := 13, ground := Go.Ground.phase }], guard := none } : Oper)) rfl (fun K hK => ?_) AllReadyH.nil
            go_simp
            refine hK.out _ _ (HSs.out _ _ _ HNX.out) (fun _ => ?_)
            clear hK K
            refine wpAnyH_done (by kernel_rfl) ?_ _
            try (go_wp2_with fail)
            go_roundw
            case rel => exact ⟨k + 1, _, by omega, by first | rfl | go_num, HNX⟩
            case measure => simp [intOf]; omega
    · have hkI : ¬ (k : Int) < (n : Int) := by omega
      obtain rfl : k = n := by omega
      generalize k = n at *
      clear hk hlt
      cases en with
      | false =>
        obtain ⟨Av, cv, rfl⟩ := own_sl4 HP.out.own
        rw [chL_len] at HP
        have hrs := own_recs (rs := chL n) (by rw [chL_len]; have h := HP.out.own; rw [chL_len] at h; exact h) (chL_ad n)
        have SM2 := Lib.hid (SM.out (.slice Av n cv))
        have HO9 := Lib.hid (HOf.out wr Av cv hrs)
        clear hrs HOf HOe SM ZMc HCC HC7 HBc HI HZ0 HZ1 HZ2 HApp
        have HMm := Lib.hid HP.out.ws
        have HBb := Lib.hid HP.out.below
        go_upto_region 13 with fail
        go_wp2_with (first
          | (refine wpList_load_row rfl 32 (.tmp 5) rfl gw rfl 32 (C (.slice Av n cv)) (0, 0) _ HMm.out Try.underlying32 rfl SM2.out ?_; go_simp))
        refine HO9.out.mono ?_
        rintro e w2 ⟨A2, c2, rfl, hb2, _⟩
        have hbn := HBb.out.trans (hb2.mono HBb.out.size)
        obtain ⟨m8, hm8⟩ : ∃ m8, m8 = min n 8 := ⟨_, rfl⟩
        have hmin : min (n : Int) 8 = (m8 : Int) := by omega
        obtain ⟨tt, htt⟩ : ∃ tt : Int, tt = 101 - (m8 : Int) := ⟨_, rfl⟩
        have hwA : IntKind.i64.wrap (101 - (m8 : Int)) = tt := by rw [htt]; exact IntWalk.i64_in _ (by omega)
        obtain ⟨N8, hN8⟩ : ∃ N8, N8 = nmC m8 := ⟨_, rfl⟩
        have HA8 : Hid (∀ U, Calls Try.prog 14 #[.int .i64 (m8 : Int)] U fun e w' => e = .returned (.string N8) ∧ Below U.heap.size U w') := Lib.hid (fun U => by rw [hN8]; exact HAt.out m8 U (by omega))
        rw [← hm8, ← hN8, ← htt]
        have hG2 := heap_alloc_last w2 (.cells (FC 0 (.slice A2 0 c2) N8 tt) 35)
        have hb3 : Below Wb.heap.size Wb (w2.alloc (.cells (FC 0 (.slice A2 0 c2) N8 tt) 35)) := hbn.alloc hbn.size _
        have HB3 := Lib.hid hb3
        have HG3 := Lib.hid hG2
        clear hb2 hG2 HO9 HMm HBb HAt hbn hb3 hN8 htt hm8
        go_upto_region 16 with (first
          | (refine wpList_alloc_z rfl 35 rfl (FC 0 (.slice none 0 0) ⟨#[]⟩ 0) HZF.out ?_; go_simp)
          | (refine wpList_store_new rfl 35 (.tmp 8) (.tmp 47) rfl w2.heap.size rfl (FC 0 (.slice none 0 0) ⟨#[]⟩ 0) (FC 0 (.slice A2 0 c2) N8 tt) 35 rfl rfl (sizeF _ _ _ _) rfl (FC_one _ _ _ _ _ _) ?_; go_simp))
        generalize w2.heap.size = gf at HG3 ⊢
        generalize w2.alloc (.cells (FC 0 (.slice A2 0 c2) N8 tt) 35) = W5 at HB3 HG3 ⊢
        have D0 : Hid (∀ U, Below W5.heap.size W5 U → U.cell? ⟨gf, 0, none⟩ = some (.int .i64 0)) := Lib.hid (fun U hU => (cell_of_row U gf 0 _ _ _ ((hU.block _ (heap_lt HG3.out)).trans HG3.out)).trans rfl)
        have D2 : Hid (∀ U, Below W5.heap.size W5 U → U.cell? ⟨gf, 2, none⟩ = some (.string N8)) := Lib.hid (fun U hU => (cell_of_row U gf 2 _ _ _ ((hU.block _ (heap_lt HG3.out)).trans HG3.out)).trans rfl)
        have D3 : Hid (∀ U, Below W5.heap.size W5 U → U.cell? ⟨gf, 3, none⟩ = some (.int .i64 tt)) := Lib.hid (fun U hU => (cell_of_row U gf 3 _ _ _ ((hU.block _ (heap_lt HG3.out)).trans HG3.out)).trans rfl)
        have HA9 := Lib.hid (fun U (_ : Below W5.heap.size W5 U) => HA8.out U)
        clear HG3 HA8
        refine wp_region_held_drew (S := (fun W : World => Below W5.heap.size W5 W)) (by kernel_rfl) (Below.refl _ W5).drew (fun hHeld => ?_)
        refine wpAnyH_take (i := 0) (oi := ({ dst := some 69, op := Go.Op.fieldAddr 35 (Go.Operand.tmp 8) 0, type := 0, pos := "law.go:128", after := #[], guard := none } : Oper)) (v := .pointer (some ⟨gf, 0, none⟩)) rfl (by kernel_rfl) (by kernel_rfl) (by kernel_rfl) (fun _ _ _ h => h) (Or.inl ⟨by rfl, fun w' _ => ?_⟩) hHeld ?_
        · go_simp
        simp only [Act.put, List.setIfInBounds_toArray, List.set_cons_zero, List.set_cons_succ]
        refine wpAnyH_take (i := 1) (oi := ({ dst := some 70, op := Go.Op.load 3 (Go.Operand.tmp 69), type := 3, pos := "law.go:128", after := #[{ on := 0, ground := Go.Ground.data }], guard := none } : Oper)) (v := .int .i64 0) rfl (by kernel_rfl) (by kernel_rfl) (by kernel_rfl) (fun _ _ _ h => h) (Or.inl ⟨by rfl, fun w' hS' => ?_⟩) hHeld ?_
        · have hcell := D0.out w' hS'
          go_simp
        simp only [Act.put, List.setIfInBounds_toArray, List.set_cons_zero, List.set_cons_succ]
        refine wpAnyH_take (i := 2) (oi := ({ dst := some 71, op := Go.Op.binOp Go.BinOp.eql 3 (Go.Operand.tmp 70) (Go.Operand.const (Go.Value.int Go.IntKind.i64 0)) 3, type := 4, pos := "law.go:128", after := #[{ on := 1, ground := Go.Ground.data }], guard := none } : Oper)) (v := .bool true) rfl (by kernel_rfl) (by kernel_rfl) (by kernel_rfl) (fun _ _ _ h => h) (Or.inl ⟨by rfl, fun w' _ => ?_⟩) hHeld ?_
        · go_simp
        simp only [Act.put, List.setIfInBounds_toArray, List.set_cons_zero, List.set_cons_succ]
        refine wpAnyH_take (i := 3) (oi := ({ dst := some 72, op := Go.Op.move (Go.Operand.tmp 71), type := 4, pos := "law.go:128", after := #[{ on := 2, ground := Go.Ground.data }], guard := none } : Oper)) (v := .bool true) rfl (by kernel_rfl) (by kernel_rfl) (by kernel_rfl) (fun _ _ _ h => h) (Or.inl ⟨by rfl, fun w' _ => ?_⟩) hHeld ?_
        · go_simp
        simp only [Act.put, List.setIfInBounds_toArray, List.set_cons_zero, List.set_cons_succ]
        refine wpAnyH_take (i := 4) (oi := ({ dst := some 73, op := Go.Op.fieldAddr 35 (Go.Operand.tmp 8) 2, type := 0, pos := "law.go:128", after := #[{ on := 3, ground := Go.Ground.guard }], guard := some (3, true) } : Oper)) (v := .pointer (some ⟨gf, 2, none⟩)) rfl (by kernel_rfl) (by kernel_rfl) (by kernel_rfl) (fun _ _ _ h => h) (Or.inl ⟨by kernel_rfl, fun w' _ => ?_⟩) hHeld ?_
        · go_simp
        simp only [Act.put, List.setIfInBounds_toArray, List.set_cons_zero, List.set_cons_succ]
        refine wpAnyH_take (i := 5) (oi := ({ dst := some 74, op := Go.Op.load 9 (Go.Operand.tmp 73), type := 9, pos := "law.go:128", after := #[{ on := 4, ground := Go.Ground.data }, { on := 3, ground := Go.Ground.guard }], guard := some (3, true) } : Oper)) (v := .string N8) rfl (by kernel_rfl) (by kernel_rfl) (by kernel_rfl) (fun _ _ _ h => h) (Or.inl ⟨by kernel_rfl, fun w' hS' => ?_⟩) hHeld ?_
        · have hcell := D2.out w' hS'
          go_simp
        simp only [Act.put, List.setIfInBounds_toArray, List.set_cons_zero, List.set_cons_succ]
        refine wpAnyH_take (i := 6) (oi := ({ dst := some 75, op := Go.Op.move (Go.Operand.tmp 6), type := 44, pos := "law.go:128", after := #[{ on := 3, ground := Go.Ground.guard }], guard := some (3, true) } : Oper)) (v := .func (.func 14) #[] #[]) rfl (by kernel_rfl) (by kernel_rfl) (by kernel_rfl) (fun _ _ _ h => h) (Or.inl ⟨by kernel_rfl, fun w' _ => ?_⟩) hHeld ?_
        · go_simp
        simp only [Act.put, List.setIfInBounds_toArray, List.set_cons_zero, List.set_cons_succ]
        refine wpAnyH_take (i := 7) (oi := ({ dst := some 76, op := Go.Op.move (Go.Operand.tmp 0), type := 3, pos := "law.go:128", after := #[{ on := 3, ground := Go.Ground.guard }], guard := some (3, true) } : Oper)) (v := .int .i64 (n : Int)) rfl (by kernel_rfl) (by kernel_rfl) (by kernel_rfl) (fun _ _ _ h => h) (Or.inl ⟨by kernel_rfl, fun w' _ => ?_⟩) hHeld ?_
        · go_simp
        simp only [Act.put, List.setIfInBounds_toArray, List.set_cons_zero, List.set_cons_succ]
        refine wpAnyH_take (i := 8) (oi := ({ dst := some 77, op := Go.Op.call { callee := Go.Callee.builtin Go.Builtin.min, args := #[Go.Operand.tmp 76, Go.Operand.const (Go.Value.int Go.IntKind.i64 8)], argTypes := #[3, 3] }, type := 3, pos := "law.go:128", after := #[{ on := 7, ground := Go.Ground.data }, { on := 3, ground := Go.Ground.guard }], guard := some (3, true) } : Oper)) (v := .int .i64 (m8 : Int)) rfl (by kernel_rfl) (by kernel_rfl) (by kernel_rfl) (fun _ _ _ h => h) (Or.inl ⟨by kernel_rfl, fun w' _ => ?_⟩) hHeld ?_
        · go_simp; try (first | omega | (split <;> omega))
        simp only [Act.put, List.setIfInBounds_toArray, List.set_cons_zero, List.set_cons_succ]
        refine wpAnyH_ready (rs := [9]) (by kernel_rfl) (by simp) ?_
        refine AllReadyH.cons (o := ({ dst := some 78, op := Go.Op.call { callee := Go.Callee.value (Go.Operand.tmp 75), args := #[Go.Operand.tmp 77], argTypes := #[3] }, type := 9, pos := "law.go:128", after := #[{ on := 6, ground := Go.Ground.data }, { on := 8, ground := Go.Ground.data }, { on := 3, ground := Go.Ground.chain }, { on := 3, ground := Go.Ground.guard }], guard := some (3, true) } : Oper)) rfl (fun K hK => ?_) AllReadyH.nil
        rw [if_pos (by kernel_rfl)]
        go_simp
        go_at_call 14
        refine (HA9.out _ hHeld).mono ?_
        rintro e' wc ⟨rfl, hbc⟩
        refine hK.out _ _ (Below.trans hHeld (Below.mono hbc (Below.size hHeld))) (fun hHeld' => ?_)
        clear hK K hbc
        try clear hHeld
        try simp only [Act.put, List.setIfInBounds_toArray, List.set_cons_zero, List.set_cons_succ]
        refine wpAnyH_take (i := 10) (oi := ({ dst := some 79, op := Go.Op.binOp Go.BinOp.eql 9 (Go.Operand.tmp 74) (Go.Operand.tmp 78) 9, type := 4, pos := "law.go:128", after := #[{ on := 5, ground := Go.Ground.data }, { on := 9, ground := Go.Ground.data }, { on := 3, ground := Go.Ground.guard }], guard := some (3, true) } : Oper)) (v := .bool true) rfl (by kernel_rfl) (by kernel_rfl) (by kernel_rfl) (fun _ _ _ h => h) (Or.inl ⟨by kernel_rfl, fun w' _ => ?_⟩) hHeld' ?_
        · go_simp
        simp only [Act.put, List.setIfInBounds_toArray, List.set_cons_zero, List.set_cons_succ]
        refine wpAnyH_take (i := 11) (oi := ({ dst := some 80, op := Go.Op.pick (Go.Operand.tmp 72) (Go.Operand.tmp 79) (Go.Operand.const (Go.Value.bool false)), type := 4, pos := "law.go:128", after := #[{ on := 3, ground := Go.Ground.data }, { on := 10, ground := Go.Ground.data }], guard := none } : Oper)) (v := .bool true) rfl (by kernel_rfl) (by kernel_rfl) (by kernel_rfl) (fun _ _ _ h => h) (Or.inl ⟨by rfl, fun w' _ => ?_⟩) hHeld' ?_
        · go_simp
        simp only [Act.put, List.setIfInBounds_toArray, List.set_cons_zero, List.set_cons_succ]
        refine wpAnyH_take (i := 12) (oi := ({ dst := some 81, op := Go.Op.move (Go.Operand.tmp 80), type := 4, pos := "law.go:128", after := #[{ on := 11, ground := Go.Ground.data }, { on := 9, ground := Go.Ground.chain }], guard := none } : Oper)) (v := .bool true) rfl (by kernel_rfl) (by kernel_rfl) (by kernel_rfl) (fun _ _ _ h => h) (Or.inl ⟨by rfl, fun w' _ => ?_⟩) hHeld' ?_
        · go_simp
        simp only [Act.put, List.setIfInBounds_toArray, List.set_cons_zero, List.set_cons_succ]
        refine wpAnyH_take (i := 13) (oi := ({ dst := some 82, op := Go.Op.fieldAddr 35 (Go.Operand.tmp 8) 3, type := 0, pos := "law.go:128", after := #[{ on := 12, ground := Go.Ground.guard }], guard := some (12, true) } : Oper)) (v := .pointer (some ⟨gf, 3, none⟩)) rfl (by kernel_rfl) (by kernel_rfl) (by kernel_rfl) (fun _ _ _ h => h) (Or.inl ⟨by kernel_rfl, fun w' _ => ?_⟩) hHeld' ?_
        · go_simp
        simp only [Act.put, List.setIfInBounds_toArray, List.set_cons_zero, List.set_cons_succ]
        refine wpAnyH_take (i := 14) (oi := ({ dst := some 83, op := Go.Op.load 3 (Go.Operand.tmp 82), type := 3, pos := "law.go:128", after := #[{ on := 13, ground := Go.Ground.data }, { on := 12, ground := Go.Ground.guard }], guard := some (12, true) } : Oper)) (v := .int .i64 tt) rfl (by kernel_rfl) (by kernel_rfl) (by kernel_rfl) (fun _ _ _ h => h) (Or.inl ⟨by kernel_rfl, fun w' hS' => ?_⟩) hHeld' ?_
        · have hcell := D3.out w' hS'
          go_simp
        simp only [Act.put, List.setIfInBounds_toArray, List.set_cons_zero, List.set_cons_succ]
        refine wpAnyH_take (i := 15) (oi := ({ dst := some 84, op := Go.Op.move (Go.Operand.tmp 0), type := 3, pos := "law.go:128", after := #[{ on := 12, ground := Go.Ground.guard }], guard := some (12, true) } : Oper)) (v := .int .i64 (n : Int)) rfl (by kernel_rfl) (by kernel_rfl) (by kernel_rfl) (fun _ _ _ h => h) (Or.inl ⟨by kernel_rfl, fun w' _ => ?_⟩) hHeld' ?_
        · go_simp
        simp only [Act.put, List.setIfInBounds_toArray, List.set_cons_zero, List.set_cons_succ]
        refine wpAnyH_take (i := 16) (oi := ({ dst := some 85, op := Go.Op.call { callee := Go.Callee.builtin Go.Builtin.min, args := #[Go.Operand.tmp 84, Go.Operand.const (Go.Value.int Go.IntKind.i64 8)], argTypes := #[3, 3] }, type := 3, pos := "law.go:128", after := #[{ on := 15, ground := Go.Ground.data }, { on := 12, ground := Go.Ground.guard }], guard := some (12, true) } : Oper)) (v := .int .i64 (m8 : Int)) rfl (by kernel_rfl) (by kernel_rfl) (by kernel_rfl) (fun _ _ _ h => h) (Or.inl ⟨by kernel_rfl, fun w' _ => ?_⟩) hHeld' ?_
        · go_simp; try (first | omega | (split <;> omega))
        simp only [Act.put, List.setIfInBounds_toArray, List.set_cons_zero, List.set_cons_succ]
        refine wpAnyH_take (i := 17) (oi := ({ dst := some 86, op := Go.Op.binOp Go.BinOp.sub 3 (Go.Operand.const (Go.Value.int Go.IntKind.i64 101)) (Go.Operand.tmp 85) 3, type := 3, pos := "law.go:128", after := #[{ on := 16, ground := Go.Ground.data }, { on := 12, ground := Go.Ground.guard }], guard := some (12, true) } : Oper)) (v := .int .i64 tt) rfl (by kernel_rfl) (by kernel_rfl) (by kernel_rfl) (fun _ _ _ h => h) (Or.inl ⟨by kernel_rfl, fun w' _ => ?_⟩) hHeld' ?_
        · go_simp
        simp only [Act.put, List.setIfInBounds_toArray, List.set_cons_zero, List.set_cons_succ]
        refine wpAnyH_take (i := 18) (oi := ({ dst := some 87, op := Go.Op.binOp Go.BinOp.eql 3 (Go.Operand.tmp 83) (Go.Operand.tmp 86) 3, type := 4, pos := "law.go:128", after := #[{ on := 14, ground := Go.Ground.data }, { on := 17, ground := Go.Ground.data }, { on := 12, ground := Go.Ground.guard }], guard := some (12, true) } : Oper)) (v := .bool true) rfl (by kernel_rfl) (by kernel_rfl) (by kernel_rfl) (fun _ _ _ h => h) (Or.inl ⟨by kernel_rfl, fun w' _ => ?_⟩) hHeld' ?_
        · go_simp
        simp only [Act.put, List.setIfInBounds_toArray, List.set_cons_zero, List.set_cons_succ]
        refine wpAnyH_take (i := 19) (oi := ({ dst := some 88, op := Go.Op.pick (Go.Operand.tmp 81) (Go.Operand.tmp 87) (Go.Operand.const (Go.Value.bool false)), type := 4, pos := "law.go:128", after := #[{ on := 12, ground := Go.Ground.data }, { on := 18, ground := Go.Ground.data }], guard := none } : Oper)) (v := .bool true) rfl (by kernel_rfl) (by kernel_rfl) (by kernel_rfl) (fun _ _ _ h => h) (Or.inl ⟨by rfl, fun w' _ => ?_⟩) hHeld' ?_
        · go_simp
        simp only [Act.put, List.setIfInBounds_toArray, List.set_cons_zero, List.set_cons_succ]
        refine wpAnyH_take (i := 20) (oi := ({ dst := some 4, op := Go.Op.assign (Go.Operand.tmp 88), type := 4, pos := "law.go:128", after := #[{ on := 19, ground := Go.Ground.data }, { on := 12, ground := Go.Ground.chain }, { on := 0, ground := Go.Ground.phase }, { on := 1, ground := Go.Ground.phase }, { on := 2, ground := Go.Ground.phase }, { on := 3, ground := Go.Ground.phase }, { on := 4, ground := Go.Ground.phase }, { on := 5, ground := Go.Ground.phase }, { on := 6, ground := Go.Ground.phase }, { on := 7, ground := Go.Ground.phase }, { on := 8, ground := Go.Ground.phase }, { on := 9, ground := Go.Ground.phase }, { on := 10, ground := Go.Ground.phase }, { on := 11, ground := Go.Ground.phase }, { on := 12, ground := Go.Ground.phase }, { on := 13, ground := Go.Ground.phase }, { on := 14, ground := Go.Ground.phase }, { on := 15, ground := Go.Ground.phase }, { on := 16, ground := Go.Ground.phase }, { on := 17, ground := Go.Ground.phase }, { on := 18, ground := Go.Ground.phase }, { on := 19, ground := Go.Ground.phase }], guard := none } : Oper)) (v := .bool true) rfl (by kernel_rfl) (by kernel_rfl) (by kernel_rfl) (fun _ _ _ h => h) (Or.inl ⟨by rfl, fun w' _ => ?_⟩) hHeld' ?_
        · go_simp
        simp only [Act.put, List.setIfInBounds_toArray, List.set_cons_zero, List.set_cons_succ]
        refine wpAnyH_done (by kernel_rfl) ?_ _
        have HBe := Lib.hid (HUb.out.trans ((HB3.out.trans (hHeld'.mono HB3.out.size)).mono HUb.out.size))
        clear hHeld' D0 D2 D3 HA9
        try (go_wp2_with fail)
        go_ret
        exact ⟨rfl, HBe.out⟩
      | true =>
        go_upto_if 36 with fail
        go_cut [36] from 37 to 45 (fun t36 wx => t36 = .bool true ∧ ∃ v1, Hid (WaAt base Wb wx gw C (chL n ++ [chE n]) v1))
        case first =>
          have HAtn : Hid (∀ U, Below Wb.heap.size Wb U → Calls Try.prog 14 #[.int .i64 (n : Int)] U fun e w' => e = .returned (.string (nmC n)) ∧ Below U.heap.size U w') := Lib.hid (fun U _ => HAt.out n U (by omega))
          have hBc : Try.prog.built 41 [(0, .string (nmC n)), (1, .int .i64 28), (2, .int .i64 200)] = some (chE n).cells := builtEnd _
          obtain ⟨rl, hrl⟩ : ∃ rl : List Value, (chE n).cells = rl.toArray := ⟨(chE n).cells.toList, by rw [Array.toArray_toList]⟩
          have HCL : Hid (rl.length = 21) := Lib.hid (by have h := RV.size (r := chE n) rfl; rw [hrl] at h; simpa using h)
          have HC1 : Hid (∀ u ∈ rl, u.oneCell' = true) := Lib.hid (fun u hu => by
            have h := RV.one (chE n)
            rw [hrl, Array.all_eq_true'] at h
            exact h u (by simpa using hu))
          obtain ⟨nr, hnr⟩ : ∃ nr, nr = n := ⟨_, rfl⟩
          have hnr9 : nr ≤ 16 := by omega
          obtain ⟨rcs0, hrcs0⟩ : ∃ rcs0, rcs0 = rcs (chL n) := ⟨_, rfl⟩
          have hap0 := HApp.out (chL n) v (chE n) nr rcs0 rl (by rw [chL_len, hnr]) hrcs0.symm (by rw [hrl])
          have HOw := Lib.hid hap0.1
          have HAp := Lib.hid hap0.2
          rw [hrl] at hBc
          have HBr := Lib.hid hBc
          clear hBc hrl hnr hrcs0 hap0 HBc HApp HOe HOf
          generalize nmC n = n1 at HAtn HBr
          go_upto_region 12 with fail
          refine wp_region_held_drew (S := (fun W : World => Below w.heap.size w W)) (by kernel_rfl) (HSs.out _ _ _ HP.out).drew (fun hHeld => ?_)
          have HM0 := Lib.hid (HP.out.to (Below.refl _ wr).drew)
          generalize wr.drew = V0 at HM0 hHeld ⊢
          refine wpAnyH_take (i := 0) (oi := ({ dst := some 37, op := Go.Op.fieldAddr 32 (Go.Operand.tmp 5) 6, type := 0, pos := "law.go:122", after := #[], guard := none } : Oper)) (v := .pointer (some ⟨gw, 7, none⟩)) rfl (by kernel_rfl) (by kernel_rfl) (by kernel_rfl) (fun _ _ _ h => h) (Or.inl ⟨by rfl, fun w' hS' => ?_⟩) hHeld ?_
          · go_simp
          try simp only [Act.put, List.setIfInBounds_toArray, List.set_cons_zero, List.set_cons_succ]
          refine wpAnyH_take (i := 2) (oi := ({ dst := some 39, op := Go.Op.move (Go.Operand.tmp 6), type := 44, pos := "law.go:122", after := #[], guard := none } : Oper)) (v := .func (.func 14) #[] #[]) rfl (by kernel_rfl) (by kernel_rfl) (by kernel_rfl) (fun _ _ _ h => h) (Or.inl ⟨by rfl, fun w' hS' => ?_⟩) hHeld ?_
          · go_simp
          try simp only [Act.put, List.setIfInBounds_toArray, List.set_cons_zero, List.set_cons_succ]
          refine wpAnyH_take (i := 3) (oi := ({ dst := some 40, op := Go.Op.move (Go.Operand.tmp 0), type := 3, pos := "law.go:122", after := #[], guard := none } : Oper)) (v := .int .i64 (n : Int)) rfl (by kernel_rfl) (by kernel_rfl) (by kernel_rfl) (fun _ _ _ h => h) (Or.inl ⟨by rfl, fun w' hS' => ?_⟩) hHeld ?_
          · go_simp
          try simp only [Act.put, List.setIfInBounds_toArray, List.set_cons_zero, List.set_cons_succ]
          refine wpAnyH_ready (rs := [1, 4]) (by kernel_rfl) (by simp) ?_
          refine (AllReadyH.cons (o := ({ dst := some 38, op := Go.Op.load 30 (Go.Operand.tmp 37), type := 30, pos := "law.go:122", after := #[{ on := 0, ground := Go.Ground.data }], guard := none } : Oper)) rfl (fun K hK => ?_) (AllReadyH.cons (o := ({ dst := some 41, op := Go.Op.call { callee := Go.Callee.value (Go.Operand.tmp 39), args := #[Go.Operand.tmp 40], argTypes := #[3] }, type := 9, pos := "law.go:122", after := #[{ on := 2, ground := Go.Ground.data }, { on := 3, ground := Go.Ground.data }], guard := none } : Oper)) rfl (fun K hK => ?_) AllReadyH.nil))
          · have d7 := (cell_of_row _ gw 7 _ _ _ HM0.out.ws).trans (HC7.out v)
            go_simp
            clear d7
            refine hK.out _ _ hHeld (fun hHeld => ?_)
            clear hK K
            try simp only [Act.put, List.setIfInBounds_toArray, List.set_cons_zero, List.set_cons_succ]
            refine wpAnyH_ready (rs := [4]) (by kernel_rfl) (by simp) ?_
            refine (AllReadyH.cons (o := ({ dst := some 41, op := Go.Op.call { callee := Go.Callee.value (Go.Operand.tmp 39), args := #[Go.Operand.tmp 40], argTypes := #[3] }, type := 9, pos := "law.go:122", after := #[{ on := 2, ground := Go.Ground.data }, { on := 3, ground := Go.Ground.data }], guard := none } : Oper)) rfl (fun K hK => ?_) AllReadyH.nil)
            go_simp
            go_at_call 14
            refine (HAtn.out _ HM0.out.below).mono ?_
            rintro e' U1 ⟨rfl, hbm⟩
            have HM2 := Lib.hid (HM0.out.to hbm)
            refine hK.out _ _ (HSs.out _ _ _ HM2.out) (fun hHeld => ?_)
            clear hK K hbm
            try simp only [Act.put, List.setIfInBounds_toArray, List.set_cons_zero, List.set_cons_succ]
            refine wpAnyH_take (i := 5) (oi := ({ dst := some 42, op := Go.Op.build 41 #[(0, Go.Operand.tmp 41), (1, Go.Operand.const (Go.Value.int Go.IntKind.i64 28)), (2, Go.Operand.const (Go.Value.int Go.IntKind.i64 200))], type := 41, pos := "law.go:122", after := #[{ on := 4, ground := Go.Ground.data }], guard := none } : Oper)) (v := .agg rl.toArray) rfl (by kernel_rfl) (by kernel_rfl) (by kernel_rfl) (fun _ _ _ h => h) (yieldsIf_build (by rfl) 41 #[(0, .tmp 41), (1, .const (.int .i64 28)), (2, .const (.int .i64 200))] rfl [(0, .string n1), (1, .int .i64 28), (2, .int .i64 200)] rl.toArray rfl HBr.out) hHeld ?_
            try simp only [Act.put, List.setIfInBounds_toArray, List.set_cons_zero, List.set_cons_succ]
            refine wpAnyH_ready (rs := [6]) (by kernel_rfl) (by simp) ?_
            refine (AllReadyH.cons (o := ({ dst := some 43, op := Go.Op.buildSlice 30 1 #[(0, Go.Operand.tmp 42)], type := 30, pos := "law.go:122", after := #[{ on := 5, ground := Go.Ground.data }], guard := none } : Oper)) rfl (fun K hK => ?_) AllReadyH.nil)
            rw [if_pos (by kernel_rfl)]
            refine wp_buildSlice 30 41 1 _ rfl rl.toArray i0 _ Try.underlying30 HI.out HZ0.out (by rw [HZ1.out]; decide) (by rw [HZ1.out]; decide) (by rw [HZ1.out]; refine (congrArg _ (?_ : _ = [(0, Value.agg rl.toArray)])).trans (fill21c HCL.out); rw [Array.toList_map]; rfl) ?_
            have HM4 := Lib.hid (HM2.out.to ((Below.refl _ U1).alloc (Nat.le_refl _) (.cells rl.toArray 41)))
            have HGb := Lib.hid (heap_alloc_last U1 (.cells rl.toArray 41))
            refine hK.out _ _ (HSs.out _ _ _ HM4.out) (fun hHeld => ?_)
            clear hK K
            try simp only [Act.put, List.setIfInBounds_toArray, List.set_cons_zero, List.set_cons_succ]
            generalize U1.alloc (.cells rl.toArray 41) = U3 at HM4 HGb hHeld ⊢
            generalize U1.heap.size = gB5 at HGb ⊢
            refine wpAnyH_ready (rs := [7]) (by kernel_rfl) (by simp) ?_
            refine (AllReadyH.cons (o := ({ dst := some 44, op := Go.Op.call { callee := Go.Callee.builtin Go.Builtin.append, args := #[Go.Operand.tmp 38, Go.Operand.tmp 43], argTypes := #[30, 30] }, type := 30, pos := "law.go:122", after := #[{ on := 1, ground := Go.Ground.data }, { on := 6, ground := Go.Ground.data }, { on := 4, ground := Go.Ground.chain }], guard := none } : Oper)) rfl (fun K hK => ?_) AllReadyH.nil)
            rw [if_pos (by kernel_rfl)]
            have HO6 := Lib.hid (HOw.out _ HM4.out)
            refine wp_append_own (w := U3) (.tmp 38) (.tmp 43) 30 rfl base 41 i0 _ 21 80 Try.underlying30 HI.out HZ0.out HZ1.out HZ2.out rfl (by decide) v nr rcs0 rfl HO6.out ⟨gB5, 0, none⟩ 1 1 rl rfl (by rw [HCL.out]) (fun j u hj => by rw [Addr.add_lit, Nat.zero_add]; exact (cell_of_row _ _ j _ _ _ HGb.out).trans (by rw [List.getElem?_toArray]; exact hj)) HC1.out (by unfold maxLen; omega) (by omega) HM4.out.hb ?_
            intro v1 U6 ho1 hg1 hnil
            clear hnil
            have hap := HAp.out _ HM4.out _ _ ho1 hg1
            obtain ⟨A1, ca1, rfl⟩ := own_sl4 ho1
            have d9 := (cell_of_row U6 gw 7 _ _ _ hap.1).trans (HC7.out v)
            have f9 := frozen_of_row U6 gw 7 _ _ hap.1
            have HNX := Lib.hid hap.2.2
            refine hK.out _ _ hap.2.1 (fun hHeld => ?_)
            clear hK K ho1 hg1 hap
            try simp only [Act.put, List.setIfInBounds_toArray, List.set_cons_zero, List.set_cons_succ]
            refine wpAnyH_take (i := 8) (oi := ({ dst := some 45, op := Go.Op.fieldAddr 32 (Go.Operand.tmp 5) 6, type := 0, pos := "law.go:122", after := #[{ on := 0, ground := Go.Ground.phase }, { on := 1, ground := Go.Ground.phase }, { on := 2, ground := Go.Ground.phase }, { on := 3, ground := Go.Ground.phase }, { on := 4, ground := Go.Ground.phase }, { on := 5, ground := Go.Ground.phase }, { on := 6, ground := Go.Ground.phase }, { on := 7, ground := Go.Ground.phase }], guard := none } : Oper)) (v := .pointer (some ⟨gw, 7, none⟩)) rfl (by kernel_rfl) (by kernel_rfl) (by kernel_rfl) (fun _ _ _ h => h) (Or.inl ⟨by rfl, fun w' hS' => ?_⟩) hHeld ?_
            · go_simp
            try simp only [Act.put, List.setIfInBounds_toArray, List.set_cons_zero, List.set_cons_succ]
            refine wpAnyH_ready (rs := [9]) (by kernel_rfl) (by simp) ?_
            refine AllReadyH.cons (o := ({ dst := none, op := Go.Op.store 30 (Go.Operand.tmp 45) (Go.Operand.tmp 44), type := 0, pos := "law.go:122", after := #[{ on := 8, ground := Go.Ground.data }, { on := 7, ground := Go.Ground.data }, { on := 7, ground := Go.Ground.chain }, { on := 0, ground := Go.Ground.phase }, { on := 1, ground := Go.Ground.phase }, { on := 2, ground := Go.Ground.phase }, { on := 3, ground := Go.Ground.phase }, { on := 4, ground := Go.Ground.phase }, { on := 5, ground := Go.Ground.phase }, { on := 6, ground := Go.Ground.phase }, { on := 7, ground := Go.Ground.phase }], guard := none } : Oper)) rfl (fun K hK => ?_) AllReadyH.nil
            go_simp
            refine hK.out _ _ (HSs.out _ _ _ HNX.out) (fun _ => ?_)
            clear hK K
            refine wpAnyH_done (by kernel_rfl) ?_ _
            try (go_wp2_with fail)
            go_meet
            case rel => exact ⟨rfl, _, HNX⟩
          · go_simp
            go_at_call 14
            refine (HAtn.out _ HM0.out.below).mono ?_
            rintro e' U7 ⟨rfl, hbm⟩
            have HM8 := Lib.hid (HM0.out.to hbm)
            refine hK.out _ _ (HSs.out _ _ _ HM8.out) (fun hHeld => ?_)
            clear hK K hbm
            try simp only [Act.put, List.setIfInBounds_toArray, List.set_cons_zero, List.set_cons_succ]
            refine wpAnyH_take (i := 5) (oi := ({ dst := some 42, op := Go.Op.build 41 #[(0, Go.Operand.tmp 41), (1, Go.Operand.const (Go.Value.int Go.IntKind.i64 28)), (2, Go.Operand.const (Go.Value.int Go.IntKind.i64 200))], type := 41, pos := "law.go:122", after := #[{ on := 4, ground := Go.Ground.data }], guard := none } : Oper)) (v := .agg rl.toArray) rfl (by kernel_rfl) (by kernel_rfl) (by kernel_rfl) (fun _ _ _ h => h) (yieldsIf_build (by rfl) 41 #[(0, .tmp 41), (1, .const (.int .i64 28)), (2, .const (.int .i64 200))] rfl [(0, .string n1), (1, .int .i64 28), (2, .int .i64 200)] rl.toArray rfl HBr.out) hHeld ?_
            try simp only [Act.put, List.setIfInBounds_toArray, List.set_cons_zero, List.set_cons_succ]
            refine wpAnyH_ready (rs := [1, 6]) (by kernel_rfl) (by simp) ?_
            refine (AllReadyH.cons (o := ({ dst := some 38, op := Go.Op.load 30 (Go.Operand.tmp 37), type := 30, pos := "law.go:122", after := #[{ on := 0, ground := Go.Ground.data }], guard := none } : Oper)) rfl (fun K hK => ?_) (AllReadyH.cons (o := ({ dst := some 43, op := Go.Op.buildSlice 30 1 #[(0, Go.Operand.tmp 42)], type := 30, pos := "law.go:122", after := #[{ on := 5, ground := Go.Ground.data }], guard := none } : Oper)) rfl (fun K hK => ?_) AllReadyH.nil))
            · have d7 := (cell_of_row _ gw 7 _ _ _ HM8.out.ws).trans (HC7.out v)
              go_simp
              clear d7
              refine hK.out _ _ hHeld (fun hHeld => ?_)
              clear hK K
              try simp only [Act.put, List.setIfInBounds_toArray, List.set_cons_zero, List.set_cons_succ]
              refine wpAnyH_ready (rs := [6]) (by kernel_rfl) (by simp) ?_
              refine (AllReadyH.cons (o := ({ dst := some 43, op := Go.Op.buildSlice 30 1 #[(0, Go.Operand.tmp 42)], type := 30, pos := "law.go:122", after := #[{ on := 5, ground := Go.Ground.data }], guard := none } : Oper)) rfl (fun K hK => ?_) AllReadyH.nil)
              rw [if_pos (by kernel_rfl)]
              refine wp_buildSlice 30 41 1 _ rfl rl.toArray i0 _ Try.underlying30 HI.out HZ0.out (by rw [HZ1.out]; decide) (by rw [HZ1.out]; decide) (by rw [HZ1.out]; refine (congrArg _ (?_ : _ = [(0, Value.agg rl.toArray)])).trans (fill21c HCL.out); rw [Array.toList_map]; rfl) ?_
              have HM10 := Lib.hid (HM8.out.to ((Below.refl _ U7).alloc (Nat.le_refl _) (.cells rl.toArray 41)))
              have HGb := Lib.hid (heap_alloc_last U7 (.cells rl.toArray 41))
              refine hK.out _ _ (HSs.out _ _ _ HM10.out) (fun hHeld => ?_)
              clear hK K
              try simp only [Act.put, List.setIfInBounds_toArray, List.set_cons_zero, List.set_cons_succ]
              generalize U7.alloc (.cells rl.toArray 41) = U9 at HM10 HGb hHeld ⊢
              generalize U7.heap.size = gB11 at HGb ⊢
              refine wpAnyH_ready (rs := [7]) (by kernel_rfl) (by simp) ?_
              refine (AllReadyH.cons (o := ({ dst := some 44, op := Go.Op.call { callee := Go.Callee.builtin Go.Builtin.append, args := #[Go.Operand.tmp 38, Go.Operand.tmp 43], argTypes := #[30, 30] }, type := 30, pos := "law.go:122", after := #[{ on := 1, ground := Go.Ground.data }, { on := 6, ground := Go.Ground.data }, { on := 4, ground := Go.Ground.chain }], guard := none } : Oper)) rfl (fun K hK => ?_) AllReadyH.nil)
              rw [if_pos (by kernel_rfl)]
              have HO6 := Lib.hid (HOw.out _ HM10.out)
              refine wp_append_own (w := U9) (.tmp 38) (.tmp 43) 30 rfl base 41 i0 _ 21 80 Try.underlying30 HI.out HZ0.out HZ1.out HZ2.out rfl (by decide) v nr rcs0 rfl HO6.out ⟨gB11, 0, none⟩ 1 1 rl rfl (by rw [HCL.out]) (fun j u hj => by rw [Addr.add_lit, Nat.zero_add]; exact (cell_of_row _ _ j _ _ _ HGb.out).trans (by rw [List.getElem?_toArray]; exact hj)) HC1.out (by unfold maxLen; omega) (by omega) HM10.out.hb ?_
              intro v1 U12 ho1 hg1 hnil
              clear hnil
              have hap := HAp.out _ HM10.out _ _ ho1 hg1
              obtain ⟨A1, ca1, rfl⟩ := own_sl4 ho1
              have d9 := (cell_of_row U12 gw 7 _ _ _ hap.1).trans (HC7.out v)
              have f9 := frozen_of_row U12 gw 7 _ _ hap.1
              have HNX := Lib.hid hap.2.2
              refine hK.out _ _ hap.2.1 (fun hHeld => ?_)
              clear hK K ho1 hg1 hap
              try simp only [Act.put, List.setIfInBounds_toArray, List.set_cons_zero, List.set_cons_succ]
              refine wpAnyH_take (i := 8) (oi := ({ dst := some 45, op := Go.Op.fieldAddr 32 (Go.Operand.tmp 5) 6, type := 0, pos := "law.go:122", after := #[{ on := 0, ground := Go.Ground.phase }, { on := 1, ground := Go.Ground.phase }, { on := 2, ground := Go.Ground.phase }, { on := 3, ground := Go.Ground.phase }, { on := 4, ground := Go.Ground.phase }, { on := 5, ground := Go.Ground.phase }, { on := 6, ground := Go.Ground.phase }, { on := 7, ground := Go.Ground.phase }], guard := none } : Oper)) (v := .pointer (some ⟨gw, 7, none⟩)) rfl (by kernel_rfl) (by kernel_rfl) (by kernel_rfl) (fun _ _ _ h => h) (Or.inl ⟨by rfl, fun w' hS' => ?_⟩) hHeld ?_
              · go_simp
              try simp only [Act.put, List.setIfInBounds_toArray, List.set_cons_zero, List.set_cons_succ]
              refine wpAnyH_ready (rs := [9]) (by kernel_rfl) (by simp) ?_
              refine AllReadyH.cons (o := ({ dst := none, op := Go.Op.store 30 (Go.Operand.tmp 45) (Go.Operand.tmp 44), type := 0, pos := "law.go:122", after := #[{ on := 8, ground := Go.Ground.data }, { on := 7, ground := Go.Ground.data }, { on := 7, ground := Go.Ground.chain }, { on := 0, ground := Go.Ground.phase }, { on := 1, ground := Go.Ground.phase }, { on := 2, ground := Go.Ground.phase }, { on := 3, ground := Go.Ground.phase }, { on := 4, ground := Go.Ground.phase }, { on := 5, ground := Go.Ground.phase }, { on := 6, ground := Go.Ground.phase }, { on := 7, ground := Go.Ground.phase }], guard := none } : Oper)) rfl (fun K hK => ?_) AllReadyH.nil
              go_simp
              refine hK.out _ _ (HSs.out _ _ _ HNX.out) (fun _ => ?_)
              clear hK K
              refine wpAnyH_done (by kernel_rfl) ?_ _
              try (go_wp2_with fail)
              go_meet
              case rel => exact ⟨rfl, _, HNX⟩
            · rw [if_pos (by kernel_rfl)]
              refine wp_buildSlice 30 41 1 _ rfl rl.toArray i0 _ Try.underlying30 HI.out HZ0.out (by rw [HZ1.out]; decide) (by rw [HZ1.out]; decide) (by rw [HZ1.out]; refine (congrArg _ (?_ : _ = [(0, Value.agg rl.toArray)])).trans (fill21c HCL.out); rw [Array.toList_map]; rfl) ?_
              have HM14 := Lib.hid (HM8.out.to ((Below.refl _ U7).alloc (Nat.le_refl _) (.cells rl.toArray 41)))
              have HGb := Lib.hid (heap_alloc_last U7 (.cells rl.toArray 41))
              refine hK.out _ _ (HSs.out _ _ _ HM14.out) (fun hHeld => ?_)
              clear hK K
              try simp only [Act.put, List.setIfInBounds_toArray, List.set_cons_zero, List.set_cons_succ]
              generalize U7.alloc (.cells rl.toArray 41) = U13 at HM14 HGb hHeld ⊢
              generalize U7.heap.size = gB15 at HGb ⊢
              refine wpAnyH_ready (rs := [1]) (by kernel_rfl) (by simp) ?_
              refine (AllReadyH.cons (o := ({ dst := some 38, op := Go.Op.load 30 (Go.Operand.tmp 37), type := 30, pos := "law.go:122", after := #[{ on := 0, ground := Go.Ground.data }], guard := none } : Oper)) rfl (fun K hK => ?_) AllReadyH.nil)
              have d7 := (cell_of_row _ gw 7 _ _ _ HM14.out.ws).trans (HC7.out v)
              go_simp
              clear d7
              refine hK.out _ _ hHeld (fun hHeld => ?_)
              clear hK K
              try simp only [Act.put, List.setIfInBounds_toArray, List.set_cons_zero, List.set_cons_succ]
              refine wpAnyH_ready (rs := [7]) (by kernel_rfl) (by simp) ?_
              refine (AllReadyH.cons (o := ({ dst := some 44, op := Go.Op.call { callee := Go.Callee.builtin Go.Builtin.append, args := #[Go.Operand.tmp 38, Go.Operand.tmp 43], argTypes := #[30, 30] }, type := 30, pos := "law.go:122", after := #[{ on := 1, ground := Go.Ground.data }, { on := 6, ground := Go.Ground.data }, { on := 4, ground := Go.Ground.chain }], guard := none } : Oper)) rfl (fun K hK => ?_) AllReadyH.nil)
              rw [if_pos (by kernel_rfl)]
              have HO6 := Lib.hid (HOw.out _ HM14.out)
              refine wp_append_own (w := U13) (.tmp 38) (.tmp 43) 30 rfl base 41 i0 _ 21 80 Try.underlying30 HI.out HZ0.out HZ1.out HZ2.out rfl (by decide) v nr rcs0 rfl HO6.out ⟨gB15, 0, none⟩ 1 1 rl rfl (by rw [HCL.out]) (fun j u hj => by rw [Addr.add_lit, Nat.zero_add]; exact (cell_of_row _ _ j _ _ _ HGb.out).trans (by rw [List.getElem?_toArray]; exact hj)) HC1.out (by unfold maxLen; omega) (by omega) HM14.out.hb ?_
              intro v1 U16 ho1 hg1 hnil
              clear hnil
              have hap := HAp.out _ HM14.out _ _ ho1 hg1
              obtain ⟨A1, ca1, rfl⟩ := own_sl4 ho1
              have d9 := (cell_of_row U16 gw 7 _ _ _ hap.1).trans (HC7.out v)
              have f9 := frozen_of_row U16 gw 7 _ _ hap.1
              have HNX := Lib.hid hap.2.2
              refine hK.out _ _ hap.2.1 (fun hHeld => ?_)
              clear hK K ho1 hg1 hap
              try simp only [Act.put, List.setIfInBounds_toArray, List.set_cons_zero, List.set_cons_succ]
              refine wpAnyH_take (i := 8) (oi := ({ dst := some 45, op := Go.Op.fieldAddr 32 (Go.Operand.tmp 5) 6, type := 0, pos := "law.go:122", after := #[{ on := 0, ground := Go.Ground.phase }, { on := 1, ground := Go.Ground.phase }, { on := 2, ground := Go.Ground.phase }, { on := 3, ground := Go.Ground.phase }, { on := 4, ground := Go.Ground.phase }, { on := 5, ground := Go.Ground.phase }, { on := 6, ground := Go.Ground.phase }, { on := 7, ground := Go.Ground.phase }], guard := none } : Oper)) (v := .pointer (some ⟨gw, 7, none⟩)) rfl (by kernel_rfl) (by kernel_rfl) (by kernel_rfl) (fun _ _ _ h => h) (Or.inl ⟨by rfl, fun w' hS' => ?_⟩) hHeld ?_
              · go_simp
              try simp only [Act.put, List.setIfInBounds_toArray, List.set_cons_zero, List.set_cons_succ]
              refine wpAnyH_ready (rs := [9]) (by kernel_rfl) (by simp) ?_
              refine AllReadyH.cons (o := ({ dst := none, op := Go.Op.store 30 (Go.Operand.tmp 45) (Go.Operand.tmp 44), type := 0, pos := "law.go:122", after := #[{ on := 8, ground := Go.Ground.data }, { on := 7, ground := Go.Ground.data }, { on := 7, ground := Go.Ground.chain }, { on := 0, ground := Go.Ground.phase }, { on := 1, ground := Go.Ground.phase }, { on := 2, ground := Go.Ground.phase }, { on := 3, ground := Go.Ground.phase }, { on := 4, ground := Go.Ground.phase }, { on := 5, ground := Go.Ground.phase }, { on := 6, ground := Go.Ground.phase }, { on := 7, ground := Go.Ground.phase }], guard := none } : Oper)) rfl (fun K hK => ?_) AllReadyH.nil
              go_simp
              refine hK.out _ _ (HSs.out _ _ _ HNX.out) (fun _ => ?_)
              clear hK K
              refine wpAnyH_done (by kernel_rfl) ?_ _
              try (go_wp2_with fail)
              go_meet
              case rel => exact ⟨rfl, _, HNX⟩
        case rest =>
          obtain ⟨rfl, v1, HP1⟩ := hcut
          have hll : (chL n ++ [chE n]).length = n + 1 := by rw [List.length_append, chL_len]; rfl
          clear HP
          have HP := HP1
          clear HP1
          generalize wc = wr at HP ⊢
          obtain ⟨Av, cv, rfl⟩ := own_sl4 HP.out.own
          rw [hll] at HP
          have hrs := own_recs (rs := chL n ++ [chE n]) (by rw [hll]; have h := HP.out.own; rw [hll] at h; exact h) (fun r hr => by
            rcases List.mem_append.1 hr with h | h
            · exact chL_ad n r h
            · rw [List.mem_singleton.1 h]; rfl)
          have SM2 := Lib.hid (SM.out (.slice Av (n + 1) cv))
          have HO9 := Lib.hid (HOe.out wr Av cv hrs)
          clear hrs HOf HOe SM ZMc HCC HC7 HBc HI HZ0 HZ1 HZ2 HApp hll
          by_cases h8 : n < 8
          · have h8I : (n : Int) < 8 := by omega
            rw [if_pos h8] at HO9
            clear h8
            have HMm := Lib.hid HP.out.ws
            have HBb := Lib.hid HP.out.below
            go_upto_region 13 with fail
            go_wp2_with (first
              | (refine wpList_load_row rfl 32 (.tmp 5) rfl gw rfl 32 (C (.slice Av (n + 1) cv)) (0, 0) _ HMm.out Try.underlying32 rfl SM2.out ?_; go_simp))
            refine HO9.out.mono ?_
            rintro e w2 ⟨A2, c2, rfl, hb2, _⟩
            have hbn := HBb.out.trans (hb2.mono HBb.out.size)
            have hG2 := heap_alloc_last w2 (.cells (FC 1 (.slice A2 1 c2) ⟨#[]⟩ (101 - (n : Int))) 35)
            have f0 := (cell_of_row _ w2.heap.size 0 _ _ _ hG2).trans (rfl : _ = some (Value.int .i64 1))
            have f1 := (cell_of_row _ w2.heap.size 1 _ _ _ hG2).trans (rfl : _ = some (Value.slice A2 1 c2))
            have f3 := (cell_of_row _ w2.heap.size 3 _ _ _ hG2).trans (rfl : _ = some (Value.int .i64 (101 - (n : Int))))
            have hb3 : Below Wb.heap.size Wb (w2.alloc (.cells (FC 1 (.slice A2 1 c2) ⟨#[]⟩ (101 - (n : Int))) 35)) := hbn.alloc hbn.size _
            have HB3 := Lib.hid (HUb.out.trans (hb3.mono HUb.out.size))
            have hwA : IntKind.i64.wrap (101 - (n : Int)) = 101 - (n : Int) := IntWalk.i64_in _ (by omega)
            clear hb2 hG2 HO9 HMm HBb HAt hbn hb3
            go_wp2_with (first
              | (refine wpList_alloc_z rfl 35 rfl (FC 0 (.slice none 0 0) ⟨#[]⟩ 0) HZF.out ?_; go_simp)
              | (refine wpList_store_new rfl 35 (.tmp 8) (.tmp 47) rfl w2.heap.size rfl (FC 0 (.slice none 0 0) ⟨#[]⟩ 0) (FC 1 (.slice A2 1 c2) ⟨#[]⟩ (101 - (n : Int))) 35 rfl rfl (sizeF _ _ _ _) rfl (FC_one _ _ _ _ _ _) ?_; go_simp))
            go_ret
            exact ⟨rfl, HB3.out⟩
          · have h8I : ¬ (n : Int) < 8 := by omega
            rw [if_neg h8] at HO9
            clear h8
            have HMm := Lib.hid HP.out.ws
            have HBb := Lib.hid HP.out.below
            go_upto_region 13 with fail
            go_wp2_with (first
              | (refine wpList_load_row rfl 32 (.tmp 5) rfl gw rfl 32 (C (.slice Av (n + 1) cv)) (0, 0) _ HMm.out Try.underlying32 rfl SM2.out ?_; go_simp))
            refine HO9.out.mono ?_
            rintro e w2 ⟨A2, c2, rfl, hb2, _⟩
            have hbn := HBb.out.trans (hb2.mono HBb.out.size)
            obtain ⟨m8, hm8⟩ : ∃ m8, m8 = min n 8 := ⟨_, rfl⟩
            have hmin : min (n : Int) 8 = (m8 : Int) := by omega
            obtain ⟨tt, htt⟩ : ∃ tt : Int, tt = 101 - (m8 : Int) := ⟨_, rfl⟩
            have hwA : IntKind.i64.wrap (101 - (m8 : Int)) = tt := by rw [htt]; exact IntWalk.i64_in _ (by omega)
            obtain ⟨N8, hN8⟩ : ∃ N8, N8 = nmC m8 := ⟨_, rfl⟩
            have HA8 : Hid (∀ U, Calls Try.prog 14 #[.int .i64 (m8 : Int)] U fun e w' => e = .returned (.string N8) ∧ Below U.heap.size U w') := Lib.hid (fun U => by rw [hN8]; exact HAt.out m8 U (by omega))
            rw [← hm8, ← hN8, ← htt]
            have hG2 := heap_alloc_last w2 (.cells (FC 0 (.slice A2 0 c2) N8 tt) 35)
            have hb3 : Below Wb.heap.size Wb (w2.alloc (.cells (FC 0 (.slice A2 0 c2) N8 tt) 35)) := hbn.alloc hbn.size _
            have HB3 := Lib.hid hb3
            have HG3 := Lib.hid hG2
            clear hb2 hG2 HO9 HMm HBb HAt hbn hb3 hN8 htt hm8
            go_upto_region 16 with (first
              | (refine wpList_alloc_z rfl 35 rfl (FC 0 (.slice none 0 0) ⟨#[]⟩ 0) HZF.out ?_; go_simp)
              | (refine wpList_store_new rfl 35 (.tmp 8) (.tmp 47) rfl w2.heap.size rfl (FC 0 (.slice none 0 0) ⟨#[]⟩ 0) (FC 0 (.slice A2 0 c2) N8 tt) 35 rfl rfl (sizeF _ _ _ _) rfl (FC_one _ _ _ _ _ _) ?_; go_simp))
            generalize w2.heap.size = gf at HG3 ⊢
            generalize w2.alloc (.cells (FC 0 (.slice A2 0 c2) N8 tt) 35) = W5 at HB3 HG3 ⊢
            have D0 : Hid (∀ U, Below W5.heap.size W5 U → U.cell? ⟨gf, 0, none⟩ = some (.int .i64 0)) := Lib.hid (fun U hU => (cell_of_row U gf 0 _ _ _ ((hU.block _ (heap_lt HG3.out)).trans HG3.out)).trans rfl)
            have D2 : Hid (∀ U, Below W5.heap.size W5 U → U.cell? ⟨gf, 2, none⟩ = some (.string N8)) := Lib.hid (fun U hU => (cell_of_row U gf 2 _ _ _ ((hU.block _ (heap_lt HG3.out)).trans HG3.out)).trans rfl)
            have D3 : Hid (∀ U, Below W5.heap.size W5 U → U.cell? ⟨gf, 3, none⟩ = some (.int .i64 tt)) := Lib.hid (fun U hU => (cell_of_row U gf 3 _ _ _ ((hU.block _ (heap_lt HG3.out)).trans HG3.out)).trans rfl)
            have HA9 := Lib.hid (fun U (_ : Below W5.heap.size W5 U) => HA8.out U)
            clear HG3 HA8
            refine wp_region_held_drew (S := (fun W : World => Below W5.heap.size W5 W)) (by kernel_rfl) (Below.refl _ W5).drew (fun hHeld => ?_)
            refine wpAnyH_take (i := 0) (oi := ({ dst := some 69, op := Go.Op.fieldAddr 35 (Go.Operand.tmp 8) 0, type := 0, pos := "law.go:128", after := #[], guard := none } : Oper)) (v := .pointer (some ⟨gf, 0, none⟩)) rfl (by kernel_rfl) (by kernel_rfl) (by kernel_rfl) (fun _ _ _ h => h) (Or.inl ⟨by rfl, fun w' _ => ?_⟩) hHeld ?_
            · go_simp
            simp only [Act.put, List.setIfInBounds_toArray, List.set_cons_zero, List.set_cons_succ]
            refine wpAnyH_take (i := 1) (oi := ({ dst := some 70, op := Go.Op.load 3 (Go.Operand.tmp 69), type := 3, pos := "law.go:128", after := #[{ on := 0, ground := Go.Ground.data }], guard := none } : Oper)) (v := .int .i64 0) rfl (by kernel_rfl) (by kernel_rfl) (by kernel_rfl) (fun _ _ _ h => h) (Or.inl ⟨by rfl, fun w' hS' => ?_⟩) hHeld ?_
            · have hcell := D0.out w' hS'
              go_simp
            simp only [Act.put, List.setIfInBounds_toArray, List.set_cons_zero, List.set_cons_succ]
            refine wpAnyH_take (i := 2) (oi := ({ dst := some 71, op := Go.Op.binOp Go.BinOp.eql 3 (Go.Operand.tmp 70) (Go.Operand.const (Go.Value.int Go.IntKind.i64 0)) 3, type := 4, pos := "law.go:128", after := #[{ on := 1, ground := Go.Ground.data }], guard := none } : Oper)) (v := .bool true) rfl (by kernel_rfl) (by kernel_rfl) (by kernel_rfl) (fun _ _ _ h => h) (Or.inl ⟨by rfl, fun w' _ => ?_⟩) hHeld ?_
            · go_simp
            simp only [Act.put, List.setIfInBounds_toArray, List.set_cons_zero, List.set_cons_succ]
            refine wpAnyH_take (i := 3) (oi := ({ dst := some 72, op := Go.Op.move (Go.Operand.tmp 71), type := 4, pos := "law.go:128", after := #[{ on := 2, ground := Go.Ground.data }], guard := none } : Oper)) (v := .bool true) rfl (by kernel_rfl) (by kernel_rfl) (by kernel_rfl) (fun _ _ _ h => h) (Or.inl ⟨by rfl, fun w' _ => ?_⟩) hHeld ?_
            · go_simp
            simp only [Act.put, List.setIfInBounds_toArray, List.set_cons_zero, List.set_cons_succ]
            refine wpAnyH_take (i := 4) (oi := ({ dst := some 73, op := Go.Op.fieldAddr 35 (Go.Operand.tmp 8) 2, type := 0, pos := "law.go:128", after := #[{ on := 3, ground := Go.Ground.guard }], guard := some (3, true) } : Oper)) (v := .pointer (some ⟨gf, 2, none⟩)) rfl (by kernel_rfl) (by kernel_rfl) (by kernel_rfl) (fun _ _ _ h => h) (Or.inl ⟨by kernel_rfl, fun w' _ => ?_⟩) hHeld ?_
            · go_simp
            simp only [Act.put, List.setIfInBounds_toArray, List.set_cons_zero, List.set_cons_succ]
            refine wpAnyH_take (i := 5) (oi := ({ dst := some 74, op := Go.Op.load 9 (Go.Operand.tmp 73), type := 9, pos := "law.go:128", after := #[{ on := 4, ground := Go.Ground.data }, { on := 3, ground := Go.Ground.guard }], guard := some (3, true) } : Oper)) (v := .string N8) rfl (by kernel_rfl) (by kernel_rfl) (by kernel_rfl) (fun _ _ _ h => h) (Or.inl ⟨by kernel_rfl, fun w' hS' => ?_⟩) hHeld ?_
            · have hcell := D2.out w' hS'
              go_simp
            simp only [Act.put, List.setIfInBounds_toArray, List.set_cons_zero, List.set_cons_succ]
            refine wpAnyH_take (i := 6) (oi := ({ dst := some 75, op := Go.Op.move (Go.Operand.tmp 6), type := 44, pos := "law.go:128", after := #[{ on := 3, ground := Go.Ground.guard }], guard := some (3, true) } : Oper)) (v := .func (.func 14) #[] #[]) rfl (by kernel_rfl) (by kernel_rfl) (by kernel_rfl) (fun _ _ _ h => h) (Or.inl ⟨by kernel_rfl, fun w' _ => ?_⟩) hHeld ?_
            · go_simp
            simp only [Act.put, List.setIfInBounds_toArray, List.set_cons_zero, List.set_cons_succ]
            refine wpAnyH_take (i := 7) (oi := ({ dst := some 76, op := Go.Op.move (Go.Operand.tmp 0), type := 3, pos := "law.go:128", after := #[{ on := 3, ground := Go.Ground.guard }], guard := some (3, true) } : Oper)) (v := .int .i64 (n : Int)) rfl (by kernel_rfl) (by kernel_rfl) (by kernel_rfl) (fun _ _ _ h => h) (Or.inl ⟨by kernel_rfl, fun w' _ => ?_⟩) hHeld ?_
            · go_simp
            simp only [Act.put, List.setIfInBounds_toArray, List.set_cons_zero, List.set_cons_succ]
            refine wpAnyH_take (i := 8) (oi := ({ dst := some 77, op := Go.Op.call { callee := Go.Callee.builtin Go.Builtin.min, args := #[Go.Operand.tmp 76, Go.Operand.const (Go.Value.int Go.IntKind.i64 8)], argTypes := #[3, 3] }, type := 3, pos := "law.go:128", after := #[{ on := 7, ground := Go.Ground.data }, { on := 3, ground := Go.Ground.guard }], guard := some (3, true) } : Oper)) (v := .int .i64 (m8 : Int)) rfl (by kernel_rfl) (by kernel_rfl) (by kernel_rfl) (fun _ _ _ h => h) (Or.inl ⟨by kernel_rfl, fun w' _ => ?_⟩) hHeld ?_
            · go_simp; try (first | omega | (split <;> omega))
            simp only [Act.put, List.setIfInBounds_toArray, List.set_cons_zero, List.set_cons_succ]
            refine wpAnyH_ready (rs := [9]) (by kernel_rfl) (by simp) ?_
            refine AllReadyH.cons (o := ({ dst := some 78, op := Go.Op.call { callee := Go.Callee.value (Go.Operand.tmp 75), args := #[Go.Operand.tmp 77], argTypes := #[3] }, type := 9, pos := "law.go:128", after := #[{ on := 6, ground := Go.Ground.data }, { on := 8, ground := Go.Ground.data }, { on := 3, ground := Go.Ground.chain }, { on := 3, ground := Go.Ground.guard }], guard := some (3, true) } : Oper)) rfl (fun K hK => ?_) AllReadyH.nil
            rw [if_pos (by kernel_rfl)]
            go_simp
            go_at_call 14
            refine (HA9.out _ hHeld).mono ?_
            rintro e' wc ⟨rfl, hbc⟩
            refine hK.out _ _ (Below.trans hHeld (Below.mono hbc (Below.size hHeld))) (fun hHeld' => ?_)
            clear hK K hbc
            try clear hHeld
            try simp only [Act.put, List.setIfInBounds_toArray, List.set_cons_zero, List.set_cons_succ]
            refine wpAnyH_take (i := 10) (oi := ({ dst := some 79, op := Go.Op.binOp Go.BinOp.eql 9 (Go.Operand.tmp 74) (Go.Operand.tmp 78) 9, type := 4, pos := "law.go:128", after := #[{ on := 5, ground := Go.Ground.data }, { on := 9, ground := Go.Ground.data }, { on := 3, ground := Go.Ground.guard }], guard := some (3, true) } : Oper)) (v := .bool true) rfl (by kernel_rfl) (by kernel_rfl) (by kernel_rfl) (fun _ _ _ h => h) (Or.inl ⟨by kernel_rfl, fun w' _ => ?_⟩) hHeld' ?_
            · go_simp
            simp only [Act.put, List.setIfInBounds_toArray, List.set_cons_zero, List.set_cons_succ]
            refine wpAnyH_take (i := 11) (oi := ({ dst := some 80, op := Go.Op.pick (Go.Operand.tmp 72) (Go.Operand.tmp 79) (Go.Operand.const (Go.Value.bool false)), type := 4, pos := "law.go:128", after := #[{ on := 3, ground := Go.Ground.data }, { on := 10, ground := Go.Ground.data }], guard := none } : Oper)) (v := .bool true) rfl (by kernel_rfl) (by kernel_rfl) (by kernel_rfl) (fun _ _ _ h => h) (Or.inl ⟨by rfl, fun w' _ => ?_⟩) hHeld' ?_
            · go_simp
            simp only [Act.put, List.setIfInBounds_toArray, List.set_cons_zero, List.set_cons_succ]
            refine wpAnyH_take (i := 12) (oi := ({ dst := some 81, op := Go.Op.move (Go.Operand.tmp 80), type := 4, pos := "law.go:128", after := #[{ on := 11, ground := Go.Ground.data }, { on := 9, ground := Go.Ground.chain }], guard := none } : Oper)) (v := .bool true) rfl (by kernel_rfl) (by kernel_rfl) (by kernel_rfl) (fun _ _ _ h => h) (Or.inl ⟨by rfl, fun w' _ => ?_⟩) hHeld' ?_
            · go_simp
            simp only [Act.put, List.setIfInBounds_toArray, List.set_cons_zero, List.set_cons_succ]
            refine wpAnyH_take (i := 13) (oi := ({ dst := some 82, op := Go.Op.fieldAddr 35 (Go.Operand.tmp 8) 3, type := 0, pos := "law.go:128", after := #[{ on := 12, ground := Go.Ground.guard }], guard := some (12, true) } : Oper)) (v := .pointer (some ⟨gf, 3, none⟩)) rfl (by kernel_rfl) (by kernel_rfl) (by kernel_rfl) (fun _ _ _ h => h) (Or.inl ⟨by kernel_rfl, fun w' _ => ?_⟩) hHeld' ?_
            · go_simp
            simp only [Act.put, List.setIfInBounds_toArray, List.set_cons_zero, List.set_cons_succ]
            refine wpAnyH_take (i := 14) (oi := ({ dst := some 83, op := Go.Op.load 3 (Go.Operand.tmp 82), type := 3, pos := "law.go:128", after := #[{ on := 13, ground := Go.Ground.data }, { on := 12, ground := Go.Ground.guard }], guard := some (12, true) } : Oper)) (v := .int .i64 tt) rfl (by kernel_rfl) (by kernel_rfl) (by kernel_rfl) (fun _ _ _ h => h) (Or.inl ⟨by kernel_rfl, fun w' hS' => ?_⟩) hHeld' ?_
            · have hcell := D3.out w' hS'
              go_simp
            simp only [Act.put, List.setIfInBounds_toArray, List.set_cons_zero, List.set_cons_succ]
            refine wpAnyH_take (i := 15) (oi := ({ dst := some 84, op := Go.Op.move (Go.Operand.tmp 0), type := 3, pos := "law.go:128", after := #[{ on := 12, ground := Go.Ground.guard }], guard := some (12, true) } : Oper)) (v := .int .i64 (n : Int)) rfl (by kernel_rfl) (by kernel_rfl) (by kernel_rfl) (fun _ _ _ h => h) (Or.inl ⟨by kernel_rfl, fun w' _ => ?_⟩) hHeld' ?_
            · go_simp
            simp only [Act.put, List.setIfInBounds_toArray, List.set_cons_zero, List.set_cons_succ]
            refine wpAnyH_take (i := 16) (oi := ({ dst := some 85, op := Go.Op.call { callee := Go.Callee.builtin Go.Builtin.min, args := #[Go.Operand.tmp 84, Go.Operand.const (Go.Value.int Go.IntKind.i64 8)], argTypes := #[3, 3] }, type := 3, pos := "law.go:128", after := #[{ on := 15, ground := Go.Ground.data }, { on := 12, ground := Go.Ground.guard }], guard := some (12, true) } : Oper)) (v := .int .i64 (m8 : Int)) rfl (by kernel_rfl) (by kernel_rfl) (by kernel_rfl) (fun _ _ _ h => h) (Or.inl ⟨by kernel_rfl, fun w' _ => ?_⟩) hHeld' ?_
            · go_simp; try (first | omega | (split <;> omega))
            simp only [Act.put, List.setIfInBounds_toArray, List.set_cons_zero, List.set_cons_succ]
            refine wpAnyH_take (i := 17) (oi := ({ dst := some 86, op := Go.Op.binOp Go.BinOp.sub 3 (Go.Operand.const (Go.Value.int Go.IntKind.i64 101)) (Go.Operand.tmp 85) 3, type := 3, pos := "law.go:128", after := #[{ on := 16, ground := Go.Ground.data }, { on := 12, ground := Go.Ground.guard }], guard := some (12, true) } : Oper)) (v := .int .i64 tt) rfl (by kernel_rfl) (by kernel_rfl) (by kernel_rfl) (fun _ _ _ h => h) (Or.inl ⟨by kernel_rfl, fun w' _ => ?_⟩) hHeld' ?_
            · go_simp
            simp only [Act.put, List.setIfInBounds_toArray, List.set_cons_zero, List.set_cons_succ]
            refine wpAnyH_take (i := 18) (oi := ({ dst := some 87, op := Go.Op.binOp Go.BinOp.eql 3 (Go.Operand.tmp 83) (Go.Operand.tmp 86) 3, type := 4, pos := "law.go:128", after := #[{ on := 14, ground := Go.Ground.data }, { on := 17, ground := Go.Ground.data }, { on := 12, ground := Go.Ground.guard }], guard := some (12, true) } : Oper)) (v := .bool true) rfl (by kernel_rfl) (by kernel_rfl) (by kernel_rfl) (fun _ _ _ h => h) (Or.inl ⟨by kernel_rfl, fun w' _ => ?_⟩) hHeld' ?_
            · go_simp
            simp only [Act.put, List.setIfInBounds_toArray, List.set_cons_zero, List.set_cons_succ]
            refine wpAnyH_take (i := 19) (oi := ({ dst := some 88, op := Go.Op.pick (Go.Operand.tmp 81) (Go.Operand.tmp 87) (Go.Operand.const (Go.Value.bool false)), type := 4, pos := "law.go:128", after := #[{ on := 12, ground := Go.Ground.data }, { on := 18, ground := Go.Ground.data }], guard := none } : Oper)) (v := .bool true) rfl (by kernel_rfl) (by kernel_rfl) (by kernel_rfl) (fun _ _ _ h => h) (Or.inl ⟨by rfl, fun w' _ => ?_⟩) hHeld' ?_
            · go_simp
            simp only [Act.put, List.setIfInBounds_toArray, List.set_cons_zero, List.set_cons_succ]
            refine wpAnyH_take (i := 20) (oi := ({ dst := some 4, op := Go.Op.assign (Go.Operand.tmp 88), type := 4, pos := "law.go:128", after := #[{ on := 19, ground := Go.Ground.data }, { on := 12, ground := Go.Ground.chain }, { on := 0, ground := Go.Ground.phase }, { on := 1, ground := Go.Ground.phase }, { on := 2, ground := Go.Ground.phase }, { on := 3, ground := Go.Ground.phase }, { on := 4, ground := Go.Ground.phase }, { on := 5, ground := Go.Ground.phase }, { on := 6, ground := Go.Ground.phase }, { on := 7, ground := Go.Ground.phase }, { on := 8, ground := Go.Ground.phase }, { on := 9, ground := Go.Ground.phase }, { on := 10, ground := Go.Ground.phase }, { on := 11, ground := Go.Ground.phase }, { on := 12, ground := Go.Ground.phase }, { on := 13, ground := Go.Ground.phase }, { on := 14, ground := Go.Ground.phase }, { on := 15, ground := Go.Ground.phase }, { on := 16, ground := Go.Ground.phase }, { on := 17, ground := Go.Ground.phase }, { on := 18, ground := Go.Ground.phase }, { on := 19, ground := Go.Ground.phase }], guard := none } : Oper)) (v := .bool true) rfl (by kernel_rfl) (by kernel_rfl) (by kernel_rfl) (fun _ _ _ h => h) (Or.inl ⟨by rfl, fun w' _ => ?_⟩) hHeld' ?_
            · go_simp
            simp only [Act.put, List.setIfInBounds_toArray, List.set_cons_zero, List.set_cons_succ]
            refine wpAnyH_done (by kernel_rfl) ?_ _
            have HBe := Lib.hid (HUb.out.trans ((HB3.out.trans (hHeld'.mono HB3.out.size)).mono HUb.out.size))
            clear hHeld' D0 D2 D3 HA9
            try (go_wp2_with fail)
            go_ret
            exact ⟨rfl, HBe.out⟩
end Go.Proofs.Ytgbijhinihchgaa

