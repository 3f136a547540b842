/-
  The walk of MsgPlaces: names that stand already are told by their place. Condition: the library's variable MaxLen holds some number.
-/
import Derived.Test.YtfipfmloplggiaaDoorMsgPlLib
namespace Go.Proofs.YtfipfmloplggiaaDoor
open Go.RowKit

theorem fill_21 {cs : List Value} (h : cs.length = 21) : Instr.fill (fun i => some (i * 21, 21)) ((Array.range (1 * 21)).map ((Value.agg (RV.cells ⟨emp, 0, 0, zero16, emp, emp⟩)).cells[· % (Value.agg (RV.cells ⟨emp, 0, 0, zero16, emp, emp⟩)).cells.size]!)) [(0, .agg cs.toArray)] = some cs.toArray := by
  have := Great.fill_whole (s := 21) (by decide) [Value.agg cs.toArray] ((Array.range (1 * 21)).map ((Value.agg (RV.cells ⟨emp, 0, 0, zero16, emp, emp⟩)).cells[· % (Value.agg (RV.cells ⟨emp, 0, 0, zero16, emp, emp⟩)).cells.size]!)) (by simp [Value.cells, h]) (by simp)
  simpa [Value.cells] using this
set_option maxRecDepth 100000 in
set_option maxHeartbeats 16000000 in
theorem msgPlaces_walk (n0 t0 : Int) (w : World) (he : Env w) : Calls Tryd.prog 5 #[.int .i64 n0, .int .i64 t0] w fun e w' => e = .returned (.bool true) ∧ Below w.heap.size w w' := by
  obtain ⟨i, hi, hiB⟩ := and_n n0 7 (by omega)
  obtain ⟨m, hm, hmB⟩ := and_n t0 15 (by omega)
  have hmB : bits BinOp.and IntKind.i64 t0 15 = (m : Int) := hmB
  have HFit := Lib.hid fit4_e
  have HN := Lib.hid (fun W => name4_e n0 i hi hiB W)
  have HEnc := Lib.hid (fun A c T hT W hW hr => encode_pl i hi A c T hT W hW hr)
  have hpl := pl_ok ⟨i, by omega⟩
  have hl16 : (plN i).length ≤ 16 := hpl.2.2.2.2.2
  have hsz : (bs (plN i)).size = (plN i).length := rfl
  have HRO : Hid (∀ (W : World) (B k c : Nat) (A : Option Addr), W.ownsRow B 44 21 (.slice A k c) k (reps (plR (bs (plN i))).cells.toList k) → RecsAt W A (List.replicate k (plR (bs (plN i))))) := Lib.hid (fun W B k c A h => recs_own h rfl)
  have BP : Hid (Tryd.prog.built 44 [(0, .string (bs (plN i))), (1, .int .i64 5), (4, .string (bs (plN i)))] = some (plR (bs (plN i))).cells.toList.toArray) := Lib.hid (builtPl _)
  have HCE : Hid ([Value.string (bs (plN i)), Value.int .i64 5, Value.int .i64 0, Value.int .u8 0, Value.int .u8 0, Value.int .u8 0, Value.int .u8 0, Value.int .u8 0, Value.int .u8 0, Value.int .u8 0, Value.int .u8 0, Value.int .u8 0, Value.int .u8 0, Value.int .u8 0, Value.int .u8 0, Value.int .u8 0, Value.int .u8 0, Value.int .u8 0, Value.int .u8 0, Value.string (bs (plN i)), Value.string ⟨#[]⟩] = (plR (bs (plN i))).cells.toList) := Lib.hid rfl
  have HCL : Hid ((plR (bs (plN i))).cells.toList.length = 21) := Lib.hid (RV.size (r := plR (bs (plN i))) rfl)
  have HC1 : Hid (∀ u ∈ (plR (bs (plN i))).cells.toList, u.oneCell' = true) := Lib.hid (fun u hu => by
    have h := RV.one (plR (bs (plN i)))
    rw [Array.all_eq_true'] at h
    exact h u (by simpa using hu))
  have BM := Lib.hid (builtPm (bs (plN i)))
  have ZM := Lib.hid zeroM
  have SM : Hid (∀ S v, (Tryd.prog.info? 29).map (·.size) = some (mC S v).size) := Lib.hid (fun _ _ => sizeM)
  have OM : Hid (∀ S, (mC S (.slice none 0 0)).all (·.oneCell') = true) := Lib.hid (fun _ => by simp [mC, Value.oneCell'])
  have ZD : Hid (∀ S v, zMsg.size = (mC S v).size) := Lib.hid (fun _ _ => rfl)
  have HE := Lib.hid he
  obtain ⟨l, hl⟩ : ∃ l, (plN i).length = l := ⟨_, rfl⟩
  rw [hl] at hl16 hsz HEnc
  clear hpl hiB hi he hl
  generalize (plR (bs (plN i))).cells.toList = cs at HRO BP HCE HCL HC1
  generalize hrr : plR (bs (plN i)) = rr at HRO HEnc
  clear hrr
  generalize bs (plN i) = S at HN HEnc hsz HRO BP BM HCE
  go_enter Tryd.func5, Tryd.ntmps5
  go_wp2_with fail
  refine (HFit.out w HE.out).mono ?_
  rintro e w1 ⟨rfl, hb1⟩
  have HB1 := Lib.hid hb1
  clear hb1
  go_wp2_with fail
  obtain ⟨T, hT⟩ : ∃ T, T = m + 1 := ⟨_, rfl⟩
  have hTI : (m : Int) + 1 = (T : Int) := by omega
  have hT16 : T ≤ 16 := by omega
  rw [hTI]
  clear hT hTI hm hmB
  refine (HN.out w1).mono ?_
  rintro e w2 ⟨rfl, hb2⟩
  have HB2 := Lib.hid (HB1.out.trans (hb2.mono HB1.out.size))
  clear hb2
  go_wp2_with (first
    | (refine wpList_build_v rfl 29 #[(5, .tmp 15)] rfl _ (mC S (.slice none 0 0)) BM.out rfl ?_; go_simp)
    | (refine wpList_alloc_z rfl 29 rfl zMsg ZM.out ?_; go_simp)
    | (refine wpList_store_new rfl 29 (.tmp 5) (.tmp 16) rfl w2.heap.size rfl zMsg (mC S (.slice none 0 0)) 29 rfl rfl (SM.out _ _) (ZD.out _ _) (OM.out _) ?_; go_simp)
    | (refine wpList_load_row rfl 29 (.tmp 5) rfl w2.heap.size rfl 29 (mC S (.slice none 0 0)) (0, 0) _ (heap_alloc_last w2 _) Tryd.underlying29 rfl (SM.out _ _) ?_; go_simp))
  have hB3 : Below w.heap.size w (w2.alloc (.cells (mC S (.slice none 0 0)) 29)) := HB2.out.alloc HB2.out.size _
  refine (HEnc.out none 0 0 (by omega) _ (HE.out.base' hB3) (fun h => absurd h (by simp))).mono ?_
  rintro e w4 ⟨gb, cap, L0, hL0, rfl, hb4⟩
  have hg4 : w4.heap[w2.heap.size]? = some (.cells (mC S (.slice none 0 0)) 29 (0, 0)) := (hb4.block w2.heap.size (by simp)).trans (heap_alloc_last w2 _)
  have hB4 : Below w.heap.size w w4 := hB3.trans (hb4.mono hB3.size)
  have HP4 : Hid (PAt w4.heap.size w w4 w2.heap.size S cs 0 (.slice none 0 0)) := Lib.hid ⟨hg4, World.ownsRow_nil _ _ _ _, hB4, heap_lt hg4, HB2.out.size, Nat.le_refl _⟩
  clear hB3 hb4 hg4 hB4 BM HFit
  go_wp2_with fail
  generalize w4.heap.size = base at HP4
  generalize w2.heap.size = gm at HP4 ⊢
  go_loopw [21] (fun i wr => ∃ (k : Nat) (v : Value), k ≤ T ∧ i = .int .i64 k ∧ Hid (PAt base w wr gm S cs k v)) (fun i _ => T - (intOf i).toNat)
  case atStart => exact ⟨0, _, by omega, rfl, HP4⟩
  case round =>
    obtain ⟨k, v, hk, rfl, HP⟩ := hrel
    have hown := HP.out.own
    obtain ⟨A, ca, rfl⟩ := own_sl4 hown
    clear hown
    by_cases hkT : k < T
    · have hkI : (k : Int) < (T : Int) := by omega
      go_wp2_with fail
      refine wp_region_held_drew (S := fun _ => True) (by kernel_rfl) trivial (fun hHeld => ?_)
      have HP0 := Lib.hid (HP.out.to (Below.refl _ wr).drew)
      refine wpAnyH_take (i := 0) (oi := ({ dst := some 23, op := Go.Op.fieldAddr 29 (Go.Operand.tmp 5) 6, type := 0, pos := "law.go:182", after := #[], guard := none } : Oper)) (v := .pointer (some ⟨gm, 7, none⟩)) rfl (by kernel_rfl) (by kernel_rfl) (by kernel_rfl) (fun _ _ _ h => h) (Or.inl ⟨by rfl, fun w' _ => ?_⟩) trivial ?_
      · go_simp
      try simp only [Act.put, List.setIfInBounds_toArray, List.set_cons_zero, List.set_cons_succ]
      refine wpAnyH_take (i := 2) (oi := ({ dst := some 25, op := Go.Op.move (Go.Operand.tmp 0), type := 3, pos := "law.go:182", after := #[], guard := none } : Oper)) (v := .int .i64 n0) rfl (by kernel_rfl) (by kernel_rfl) (by kernel_rfl) (fun _ _ _ h => h) (Or.inl ⟨by rfl, fun w' _ => ?_⟩) trivial ?_
      · go_simp
      try simp only [Act.put, List.setIfInBounds_toArray, List.set_cons_zero, List.set_cons_succ]
      refine wpAnyH_take (i := 4) (oi := ({ dst := some 27, op := Go.Op.move (Go.Operand.tmp 0), type := 3, pos := "law.go:182", after := #[], guard := none } : Oper)) (v := .int .i64 n0) rfl (by kernel_rfl) (by kernel_rfl) (by kernel_rfl) (fun _ _ _ h => h) (Or.inl ⟨by rfl, fun w' _ => ?_⟩) trivial ?_
      · go_simp
      try simp only [Act.put, List.setIfInBounds_toArray, List.set_cons_zero, List.set_cons_succ]
      refine wpAnyH_ready (rs := [1, 3]) (by kernel_rfl) (by simp) ?_
      refine (AllReadyH.cons (o := ({ dst := some 24, op := Go.Op.load 27 (Go.Operand.tmp 23), type := 27, pos := "law.go:182", after := #[{ on := 0, ground := Go.Ground.data }], guard := none } : Oper)) rfl (fun K hK => ?_) (AllReadyH.cons (o := ({ dst := some 26, op := Go.Op.call { callee := Go.Callee.value (Go.Operand.func 23), args := #[Go.Operand.tmp 25], argTypes := #[3] }, type := 9, pos := "law.go:182", after := #[{ on := 2, ground := Go.Ground.data }], guard := none } : Oper)) rfl (fun K hK => ?_) AllReadyH.nil))
      · have hd := cell_of_row _ gm 7 _ _ _ HP0.out.ms
        unfold mC at hd
        simp only [List.getElem?_toArray, List.getElem?_cons_succ, List.getElem?_cons_zero] at hd
        go_simp
        refine hK.out _ _ trivial (fun _ => ?_)
        clear hK K hd
        try simp only [Act.put, List.setIfInBounds_toArray, List.set_cons_zero, List.set_cons_succ]
        refine wpAnyH_ready (rs := [3]) (by kernel_rfl) (by simp) ?_
        refine (AllReadyH.cons (o := ({ dst := some 26, op := Go.Op.call { callee := Go.Callee.value (Go.Operand.func 23), args := #[Go.Operand.tmp 25], argTypes := #[3] }, type := 9, pos := "law.go:182", after := #[{ on := 2, ground := Go.Ground.data }], guard := none } : Oper)) rfl (fun K hK => ?_) AllReadyH.nil)
        go_simp
        go_at_call 23
        refine (HN.out _).mono ?_
        rintro e' u1 ⟨rfl, hbb⟩
        have HP2 := Lib.hid (HP0.out.to hbb)
        refine hK.out _ _ trivial (fun _ => ?_)
        clear hK K hbb
        try simp only [Act.put, List.setIfInBounds_toArray, List.set_cons_zero, List.set_cons_succ]
        refine wpAnyH_ready (rs := [5]) (by kernel_rfl) (by simp) ?_
        refine (AllReadyH.cons (o := ({ dst := some 28, op := Go.Op.call { callee := Go.Callee.value (Go.Operand.func 23), args := #[Go.Operand.tmp 27], argTypes := #[3] }, type := 9, pos := "law.go:182", after := #[{ on := 4, ground := Go.Ground.data }, { on := 3, ground := Go.Ground.chain }], guard := none } : Oper)) rfl (fun K hK => ?_) AllReadyH.nil)
        go_simp
        go_at_call 23
        refine (HN.out _).mono ?_
        rintro e' u3 ⟨rfl, hbb⟩
        have HP4 := Lib.hid (HP2.out.to hbb)
        refine hK.out _ _ trivial (fun _ => ?_)
        clear hK K hbb
        try simp only [Act.put, List.setIfInBounds_toArray, List.set_cons_zero, List.set_cons_succ]
        refine wpAnyH_take (i := 6) (oi := ({ dst := some 29, op := Go.Op.build 44 #[(0, Go.Operand.tmp 26), (1, Go.Operand.const (Go.Value.int Go.IntKind.i64 5)), (4, Go.Operand.tmp 28)], type := 44, pos := "law.go:182", after := #[{ on := 3, ground := Go.Ground.data }, { on := 5, ground := Go.Ground.data }], guard := none } : Oper)) (v := .agg cs.toArray) rfl (by kernel_rfl) (by kernel_rfl) (by kernel_rfl) (fun _ _ _ h => h) (Or.inl ⟨by rfl, fun w' _ => ?_⟩) trivial ?_
        · go_simp
          exact HCE.out
        try simp only [Act.put, List.setIfInBounds_toArray, List.set_cons_zero, List.set_cons_succ]
        refine wpAnyH_ready (rs := [7]) (by kernel_rfl) (by simp) ?_
        refine (AllReadyH.cons (o := ({ dst := some 30, op := Go.Op.buildSlice 27 1 #[(0, Go.Operand.tmp 29)], type := 27, pos := "law.go:182", after := #[{ on := 6, ground := Go.Ground.data }], guard := none } : Oper)) rfl (fun K hK => ?_) AllReadyH.nil)
        rw [if_pos (by kernel_rfl)]
        obtain ⟨i1, hi1, hz1, hs1, _⟩ := info_rec
        refine wp_buildSlice 27 44 1 _ rfl cs.toArray i1 _ Tryd.underlying27 hi1 hz1 (by rw [hs1]; decide) (by rw [hs1]; decide) (by rw [hs1]; refine (congrArg _ (?_ : _ = [(0, Value.agg cs.toArray)])).trans (fill_21 HCL.out); rw [Array.toList_map]; rfl) ?_
        have HP5 := Lib.hid (HP4.out.to ((Below.refl _ u3).alloc (Nat.le_refl _) (.cells cs.toArray 44)))
        refine hK.out _ _ trivial (fun _ => ?_)
        clear hK K hi1 hz1 hs1
        try simp only [Act.put, List.setIfInBounds_toArray, List.set_cons_zero, List.set_cons_succ]
        refine wpAnyH_ready (rs := [8]) (by kernel_rfl) (by simp) ?_
        refine (AllReadyH.cons (o := ({ dst := some 31, op := Go.Op.call { callee := Go.Callee.builtin Go.Builtin.append, args := #[Go.Operand.tmp 24, Go.Operand.tmp 30], argTypes := #[27, 27] }, type := 27, pos := "law.go:182", after := #[{ on := 1, ground := Go.Ground.data }, { on := 7, ground := Go.Ground.data }, { on := 5, ground := Go.Ground.chain }], guard := none } : Oper)) rfl (fun K hK => ?_) AllReadyH.nil)
        rw [if_pos (by kernel_rfl)]
        obtain ⟨i0, hi, hz0, hz1, hz2⟩ := info_rec
        refine wp_append_own (w := u3.alloc (.cells cs.toArray 44)) (.tmp 24) (.tmp 30) 27 rfl base 44 i0 _ 21 80 Tryd.underlying27 hi hz0 hz1 hz2 rfl (by decide) (.slice A k ca) k (reps cs k) rfl HP5.out.own ⟨u3.heap.size, 0, none⟩ 1 1 cs rfl (by rw [HCL.out]) (fun j u hj => by rw [Addr.add_lit, Nat.zero_add, World.cell?_alloc_mark, List.getElem?_toArray]; exact hj) HC1.out (by unfold maxLen; omega) (by omega) HP5.out.hb ?_
        intro v1 w1 ho1 hg1 _
        obtain ⟨A1, ca1, rfl⟩ := own_sl4 ho1
        have hap := HP5.out.app (by rw [reps_snoc]; exact ho1) hg1
        have d7 := cell_of_row w1 gm 7 _ _ _ hap.1
        have f7 := frozen_of_row w1 gm 7 _ _ hap.1
        unfold mC at d7
        simp only [List.getElem?_toArray, List.getElem?_cons_succ, List.getElem?_cons_zero] at d7
        have HNX := Lib.hid hap.2
        clear ho1 hg1 hap hi hz0 hz1 hz2
        refine hK.out _ _ trivial (fun _ => ?_)
        clear hK K
        try simp only [Act.put, List.setIfInBounds_toArray, List.set_cons_zero, List.set_cons_succ]
        refine wpAnyH_take (i := 9) (oi := ({ dst := some 32, op := Go.Op.fieldAddr 29 (Go.Operand.tmp 5) 6, type := 0, pos := "law.go:182", after := #[{ on := 0, ground := Go.Ground.phase }, { on := 1, ground := Go.Ground.phase }, { on := 2, ground := Go.Ground.phase }, { on := 3, ground := Go.Ground.phase }, { on := 4, ground := Go.Ground.phase }, { on := 5, ground := Go.Ground.phase }, { on := 6, ground := Go.Ground.phase }, { on := 7, ground := Go.Ground.phase }, { on := 8, ground := Go.Ground.phase }], guard := none } : Oper)) (v := .pointer (some ⟨gm, 7, none⟩)) rfl (by kernel_rfl) (by kernel_rfl) (by kernel_rfl) (fun _ _ _ h => h) (Or.inl ⟨by rfl, fun w' _ => ?_⟩) trivial ?_
        · go_simp
        try simp only [Act.put, List.setIfInBounds_toArray, List.set_cons_zero, List.set_cons_succ]
        refine wpAnyH_ready (rs := [10]) (by kernel_rfl) (by simp) ?_
        refine AllReadyH.cons (o := ({ dst := none, op := Go.Op.store 27 (Go.Operand.tmp 32) (Go.Operand.tmp 31), type := 0, pos := "law.go:182", after := #[{ on := 9, ground := Go.Ground.data }, { on := 8, ground := Go.Ground.data }, { on := 8, ground := Go.Ground.chain }, { on := 0, ground := Go.Ground.phase }, { on := 1, ground := Go.Ground.phase }, { on := 2, ground := Go.Ground.phase }, { on := 3, ground := Go.Ground.phase }, { on := 4, ground := Go.Ground.phase }, { on := 5, ground := Go.Ground.phase }, { on := 6, ground := Go.Ground.phase }, { on := 7, ground := Go.Ground.phase }, { on := 8, ground := Go.Ground.phase }], guard := none } : Oper)) rfl (fun K hK => ?_) AllReadyH.nil
        go_simp
        refine hK.out _ _ trivial (fun _ => ?_)
        clear hK K d7 f7
        refine wpAnyH_done (by kernel_rfl) ?_ _
        go_wp2_with fail
        go_roundw
        case rel => exact ⟨k + 1, _, by omega, by first | rfl | go_num, HNX⟩
        case measure => simp [intOf]; omega
      · go_simp
        go_at_call 23
        refine (HN.out _).mono ?_
        rintro e' u6 ⟨rfl, hbb⟩
        have HP7 := Lib.hid (HP0.out.to hbb)
        refine hK.out _ _ trivial (fun _ => ?_)
        clear hK K hbb
        try simp only [Act.put, List.setIfInBounds_toArray, List.set_cons_zero, List.set_cons_succ]
        refine wpAnyH_ready (rs := [1, 5]) (by kernel_rfl) (by simp) ?_
        refine (AllReadyH.cons (o := ({ dst := some 24, op := Go.Op.load 27 (Go.Operand.tmp 23), type := 27, pos := "law.go:182", after := #[{ on := 0, ground := Go.Ground.data }], guard := none } : Oper)) rfl (fun K hK => ?_) (AllReadyH.cons (o := ({ dst := some 28, op := Go.Op.call { callee := Go.Callee.value (Go.Operand.func 23), args := #[Go.Operand.tmp 27], argTypes := #[3] }, type := 9, pos := "law.go:182", after := #[{ on := 4, ground := Go.Ground.data }, { on := 3, ground := Go.Ground.chain }], guard := none } : Oper)) rfl (fun K hK => ?_) AllReadyH.nil))
        · have hd := cell_of_row _ gm 7 _ _ _ HP7.out.ms
          unfold mC at hd
          simp only [List.getElem?_toArray, List.getElem?_cons_succ, List.getElem?_cons_zero] at hd
          go_simp
          refine hK.out _ _ trivial (fun _ => ?_)
          clear hK K hd
          try simp only [Act.put, List.setIfInBounds_toArray, List.set_cons_zero, List.set_cons_succ]
          refine wpAnyH_ready (rs := [5]) (by kernel_rfl) (by simp) ?_
          refine (AllReadyH.cons (o := ({ dst := some 28, op := Go.Op.call { callee := Go.Callee.value (Go.Operand.func 23), args := #[Go.Operand.tmp 27], argTypes := #[3] }, type := 9, pos := "law.go:182", after := #[{ on := 4, ground := Go.Ground.data }, { on := 3, ground := Go.Ground.chain }], guard := none } : Oper)) rfl (fun K hK => ?_) AllReadyH.nil)
          go_simp
          go_at_call 23
          refine (HN.out _).mono ?_
          rintro e' u8 ⟨rfl, hbb⟩
          have HP9 := Lib.hid (HP7.out.to hbb)
          refine hK.out _ _ trivial (fun _ => ?_)
          clear hK K hbb
          try simp only [Act.put, List.setIfInBounds_toArray, List.set_cons_zero, List.set_cons_succ]
          refine wpAnyH_take (i := 6) (oi := ({ dst := some 29, op := Go.Op.build 44 #[(0, Go.Operand.tmp 26), (1, Go.Operand.const (Go.Value.int Go.IntKind.i64 5)), (4, Go.Operand.tmp 28)], type := 44, pos := "law.go:182", after := #[{ on := 3, ground := Go.Ground.data }, { on := 5, ground := Go.Ground.data }], guard := none } : Oper)) (v := .agg cs.toArray) rfl (by kernel_rfl) (by kernel_rfl) (by kernel_rfl) (fun _ _ _ h => h) (Or.inl ⟨by rfl, fun w' _ => ?_⟩) trivial ?_
          · go_simp
            exact HCE.out
          try simp only [Act.put, List.setIfInBounds_toArray, List.set_cons_zero, List.set_cons_succ]
          refine wpAnyH_ready (rs := [7]) (by kernel_rfl) (by simp) ?_
          refine (AllReadyH.cons (o := ({ dst := some 30, op := Go.Op.buildSlice 27 1 #[(0, Go.Operand.tmp 29)], type := 27, pos := "law.go:182", after := #[{ on := 6, ground := Go.Ground.data }], guard := none } : Oper)) rfl (fun K hK => ?_) AllReadyH.nil)
          rw [if_pos (by kernel_rfl)]
          obtain ⟨i1, hi1, hz1, hs1, _⟩ := info_rec
          refine wp_buildSlice 27 44 1 _ rfl cs.toArray i1 _ Tryd.underlying27 hi1 hz1 (by rw [hs1]; decide) (by rw [hs1]; decide) (by rw [hs1]; refine (congrArg _ (?_ : _ = [(0, Value.agg cs.toArray)])).trans (fill_21 HCL.out); rw [Array.toList_map]; rfl) ?_
          have HP10 := Lib.hid (HP9.out.to ((Below.refl _ u8).alloc (Nat.le_refl _) (.cells cs.toArray 44)))
          refine hK.out _ _ trivial (fun _ => ?_)
          clear hK K hi1 hz1 hs1
          try simp only [Act.put, List.setIfInBounds_toArray, List.set_cons_zero, List.set_cons_succ]
          refine wpAnyH_ready (rs := [8]) (by kernel_rfl) (by simp) ?_
          refine (AllReadyH.cons (o := ({ dst := some 31, op := Go.Op.call { callee := Go.Callee.builtin Go.Builtin.append, args := #[Go.Operand.tmp 24, Go.Operand.tmp 30], argTypes := #[27, 27] }, type := 27, pos := "law.go:182", after := #[{ on := 1, ground := Go.Ground.data }, { on := 7, ground := Go.Ground.data }, { on := 5, ground := Go.Ground.chain }], guard := none } : Oper)) rfl (fun K hK => ?_) AllReadyH.nil)
          rw [if_pos (by kernel_rfl)]
          obtain ⟨i0, hi, hz0, hz1, hz2⟩ := info_rec
          refine wp_append_own (w := u8.alloc (.cells cs.toArray 44)) (.tmp 24) (.tmp 30) 27 rfl base 44 i0 _ 21 80 Tryd.underlying27 hi hz0 hz1 hz2 rfl (by decide) (.slice A k ca) k (reps cs k) rfl HP10.out.own ⟨u8.heap.size, 0, none⟩ 1 1 cs rfl (by rw [HCL.out]) (fun j u hj => by rw [Addr.add_lit, Nat.zero_add, World.cell?_alloc_mark, List.getElem?_toArray]; exact hj) HC1.out (by unfold maxLen; omega) (by omega) HP10.out.hb ?_
          intro v1 w1 ho1 hg1 _
          obtain ⟨A1, ca1, rfl⟩ := own_sl4 ho1
          have hap := HP10.out.app (by rw [reps_snoc]; exact ho1) hg1
          have d7 := cell_of_row w1 gm 7 _ _ _ hap.1
          have f7 := frozen_of_row w1 gm 7 _ _ hap.1
          unfold mC at d7
          simp only [List.getElem?_toArray, List.getElem?_cons_succ, List.getElem?_cons_zero] at d7
          have HNX := Lib.hid hap.2
          clear ho1 hg1 hap hi hz0 hz1 hz2
          refine hK.out _ _ trivial (fun _ => ?_)
          clear hK K
          try simp only [Act.put, List.setIfInBounds_toArray, List.set_cons_zero, List.set_cons_succ]
          refine wpAnyH_take (i := 9) (oi := ({ dst := some 32, op := Go.Op.fieldAddr 29 (Go.Operand.tmp 5) 6, type := 0, pos := "law.go:182", after := #[{ on := 0, ground := Go.Ground.phase }, { on := 1, ground := Go.Ground.phase }, { on := 2, ground := Go.Ground.phase }, { on := 3, ground := Go.Ground.phase }, { on := 4, ground := Go.Ground.phase }, { on := 5, ground := Go.Ground.phase }, { on := 6, ground := Go.Ground.phase }, { on := 7, ground := Go.Ground.phase }, { on := 8, ground := Go.Ground.phase }], guard := none } : Oper)) (v := .pointer (some ⟨gm, 7, none⟩)) rfl (by kernel_rfl) (by kernel_rfl) (by kernel_rfl) (fun _ _ _ h => h) (Or.inl ⟨by rfl, fun w' _ => ?_⟩) trivial ?_
          · go_simp
          try simp only [Act.put, List.setIfInBounds_toArray, List.set_cons_zero, List.set_cons_succ]
          refine wpAnyH_ready (rs := [10]) (by kernel_rfl) (by simp) ?_
          refine AllReadyH.cons (o := ({ dst := none, op := Go.Op.store 27 (Go.Operand.tmp 32) (Go.Operand.tmp 31), type := 0, pos := "law.go:182", after := #[{ on := 9, ground := Go.Ground.data }, { on := 8, ground := Go.Ground.data }, { on := 8, ground := Go.Ground.chain }, { on := 0, ground := Go.Ground.phase }, { on := 1, ground := Go.Ground.phase }, { on := 2, ground := Go.Ground.phase }, { on := 3, ground := Go.Ground.phase }, { on := 4, ground := Go.Ground.phase }, { on := 5, ground := Go.Ground.phase }, { on := 6, ground := Go.Ground.phase }, { on := 7, ground := Go.Ground.phase }, { on := 8, ground := Go.Ground.phase }], guard := none } : Oper)) rfl (fun K hK => ?_) AllReadyH.nil
          go_simp
          refine hK.out _ _ trivial (fun _ => ?_)
          clear hK K d7 f7
          refine wpAnyH_done (by kernel_rfl) ?_ _
          go_wp2_with fail
          go_roundw
          case rel => exact ⟨k + 1, _, by omega, by first | rfl | go_num, HNX⟩
          case measure => simp [intOf]; omega
        · go_simp
          go_at_call 23
          refine (HN.out _).mono ?_
          rintro e' u11 ⟨rfl, hbb⟩
          have HP12 := Lib.hid (HP7.out.to hbb)
          refine hK.out _ _ trivial (fun _ => ?_)
          clear hK K hbb
          try simp only [Act.put, List.setIfInBounds_toArray, List.set_cons_zero, List.set_cons_succ]
          refine wpAnyH_take (i := 6) (oi := ({ dst := some 29, op := Go.Op.build 44 #[(0, Go.Operand.tmp 26), (1, Go.Operand.const (Go.Value.int Go.IntKind.i64 5)), (4, Go.Operand.tmp 28)], type := 44, pos := "law.go:182", after := #[{ on := 3, ground := Go.Ground.data }, { on := 5, ground := Go.Ground.data }], guard := none } : Oper)) (v := .agg cs.toArray) rfl (by kernel_rfl) (by kernel_rfl) (by kernel_rfl) (fun _ _ _ h => h) (Or.inl ⟨by rfl, fun w' _ => ?_⟩) trivial ?_
          · go_simp
            exact HCE.out
          try simp only [Act.put, List.setIfInBounds_toArray, List.set_cons_zero, List.set_cons_succ]
          refine wpAnyH_ready (rs := [1, 7]) (by kernel_rfl) (by simp) ?_
          refine (AllReadyH.cons (o := ({ dst := some 24, op := Go.Op.load 27 (Go.Operand.tmp 23), type := 27, pos := "law.go:182", after := #[{ on := 0, ground := Go.Ground.data }], guard := none } : Oper)) rfl (fun K hK => ?_) (AllReadyH.cons (o := ({ dst := some 30, op := Go.Op.buildSlice 27 1 #[(0, Go.Operand.tmp 29)], type := 27, pos := "law.go:182", after := #[{ on := 6, ground := Go.Ground.data }], guard := none } : Oper)) rfl (fun K hK => ?_) AllReadyH.nil))
          · have hd := cell_of_row _ gm 7 _ _ _ HP12.out.ms
            unfold mC at hd
            simp only [List.getElem?_toArray, List.getElem?_cons_succ, List.getElem?_cons_zero] at hd
            go_simp
            refine hK.out _ _ trivial (fun _ => ?_)
            clear hK K hd
            try simp only [Act.put, List.setIfInBounds_toArray, List.set_cons_zero, List.set_cons_succ]
            refine wpAnyH_ready (rs := [7]) (by kernel_rfl) (by simp) ?_
            refine (AllReadyH.cons (o := ({ dst := some 30, op := Go.Op.buildSlice 27 1 #[(0, Go.Operand.tmp 29)], type := 27, pos := "law.go:182", after := #[{ on := 6, ground := Go.Ground.data }], guard := none } : Oper)) rfl (fun K hK => ?_) AllReadyH.nil)
            rw [if_pos (by kernel_rfl)]
            obtain ⟨i1, hi1, hz1, hs1, _⟩ := info_rec
            refine wp_buildSlice 27 44 1 _ rfl cs.toArray i1 _ Tryd.underlying27 hi1 hz1 (by rw [hs1]; decide) (by rw [hs1]; decide) (by rw [hs1]; refine (congrArg _ (?_ : _ = [(0, Value.agg cs.toArray)])).trans (fill_21 HCL.out); rw [Array.toList_map]; rfl) ?_
            have HP13 := Lib.hid (HP12.out.to ((Below.refl _ u11).alloc (Nat.le_refl _) (.cells cs.toArray 44)))
            refine hK.out _ _ trivial (fun _ => ?_)
            clear hK K hi1 hz1 hs1
            try simp only [Act.put, List.setIfInBounds_toArray, List.set_cons_zero, List.set_cons_succ]
            refine wpAnyH_ready (rs := [8]) (by kernel_rfl) (by simp) ?_
            refine (AllReadyH.cons (o := ({ dst := some 31, op := Go.Op.call { callee := Go.Callee.builtin Go.Builtin.append, args := #[Go.Operand.tmp 24, Go.Operand.tmp 30], argTypes := #[27, 27] }, type := 27, pos := "law.go:182", after := #[{ on := 1, ground := Go.Ground.data }, { on := 7, ground := Go.Ground.data }, { on := 5, ground := Go.Ground.chain }], guard := none } : Oper)) rfl (fun K hK => ?_) AllReadyH.nil)
            rw [if_pos (by kernel_rfl)]
            obtain ⟨i0, hi, hz0, hz1, hz2⟩ := info_rec
            refine wp_append_own (w := u11.alloc (.cells cs.toArray 44)) (.tmp 24) (.tmp 30) 27 rfl base 44 i0 _ 21 80 Tryd.underlying27 hi hz0 hz1 hz2 rfl (by decide) (.slice A k ca) k (reps cs k) rfl HP13.out.own ⟨u11.heap.size, 0, none⟩ 1 1 cs rfl (by rw [HCL.out]) (fun j u hj => by rw [Addr.add_lit, Nat.zero_add, World.cell?_alloc_mark, List.getElem?_toArray]; exact hj) HC1.out (by unfold maxLen; omega) (by omega) HP13.out.hb ?_
            intro v1 w1 ho1 hg1 _
            obtain ⟨A1, ca1, rfl⟩ := own_sl4 ho1
            have hap := HP13.out.app (by rw [reps_snoc]; exact ho1) hg1
            have d7 := cell_of_row w1 gm 7 _ _ _ hap.1
            have f7 := frozen_of_row w1 gm 7 _ _ hap.1
            unfold mC at d7
            simp only [List.getElem?_toArray, List.getElem?_cons_succ, List.getElem?_cons_zero] at d7
            have HNX := Lib.hid hap.2
            clear ho1 hg1 hap hi hz0 hz1 hz2
            refine hK.out _ _ trivial (fun _ => ?_)
            clear hK K
            try simp only [Act.put, List.setIfInBounds_toArray, List.set_cons_zero, List.set_cons_succ]
            refine wpAnyH_take (i := 9) (oi := ({ dst := some 32, op := Go.Op.fieldAddr 29 (Go.Operand.tmp 5) 6, type := 0, pos := "law.go:182", after := #[{ on := 0, ground := Go.Ground.phase }, { on := 1, ground := Go.Ground.phase }, { on := 2, ground := Go.Ground.phase }, { on := 3, ground := Go.Ground.phase }, { on := 4, ground := Go.Ground.phase }, { on := 5, ground := Go.Ground.phase }, { on := 6, ground := Go.Ground.phase }, { on := 7, ground := Go.Ground.phase }, { on := 8, ground := Go.Ground.phase }], guard := none } : Oper)) (v := .pointer (some ⟨gm, 7, none⟩)) rfl (by kernel_rfl) (by kernel_rfl) (by kernel_rfl) (fun _ _ _ h => h) (Or.inl ⟨by rfl, fun w' _ => ?_⟩) trivial ?_
            · go_simp
            try simp only [Act.put, List.setIfInBounds_toArray, List.set_cons_zero, List.set_cons_succ]
            refine wpAnyH_ready (rs := [10]) (by kernel_rfl) (by simp) ?_
            refine AllReadyH.cons (o := ({ dst := none, op := Go.Op.store 27 (Go.Operand.tmp 32) (Go.Operand.tmp 31), type := 0, pos := "law.go:182", after := #[{ on := 9, ground := Go.Ground.data }, { on := 8, ground := Go.Ground.data }, { on := 8, ground := Go.Ground.chain }, { on := 0, ground := Go.Ground.phase }, { on := 1, ground := Go.Ground.phase }, { on := 2, ground := Go.Ground.phase }, { on := 3, ground := Go.Ground.phase }, { on := 4, ground := Go.Ground.phase }, { on := 5, ground := Go.Ground.phase }, { on := 6, ground := Go.Ground.phase }, { on := 7, ground := Go.Ground.phase }, { on := 8, ground := Go.Ground.phase }], guard := none } : Oper)) rfl (fun K hK => ?_) AllReadyH.nil
            go_simp
            refine hK.out _ _ trivial (fun _ => ?_)
            clear hK K d7 f7
            refine wpAnyH_done (by kernel_rfl) ?_ _
            go_wp2_with fail
            go_roundw
            case rel => exact ⟨k + 1, _, by omega, by first | rfl | go_num, HNX⟩
            case measure => simp [intOf]; omega
          · rw [if_pos (by kernel_rfl)]
            obtain ⟨i1, hi1, hz1, hs1, _⟩ := info_rec
            refine wp_buildSlice 27 44 1 _ rfl cs.toArray i1 _ Tryd.underlying27 hi1 hz1 (by rw [hs1]; decide) (by rw [hs1]; decide) (by rw [hs1]; refine (congrArg _ (?_ : _ = [(0, Value.agg cs.toArray)])).trans (fill_21 HCL.out); rw [Array.toList_map]; rfl) ?_
            have HP14 := Lib.hid (HP12.out.to ((Below.refl _ u11).alloc (Nat.le_refl _) (.cells cs.toArray 44)))
            refine hK.out _ _ trivial (fun _ => ?_)
            clear hK K hi1 hz1 hs1
            try simp only [Act.put, List.setIfInBounds_toArray, List.set_cons_zero, List.set_cons_succ]
            refine wpAnyH_ready (rs := [1]) (by kernel_rfl) (by simp) ?_
            refine (AllReadyH.cons (o := ({ dst := some 24, op := Go.Op.load 27 (Go.Operand.tmp 23), type := 27, pos := "law.go:182", after := #[{ on := 0, ground := Go.Ground.data }], guard := none } : Oper)) rfl (fun K hK => ?_) AllReadyH.nil)
            have hd := cell_of_row _ gm 7 _ _ _ HP14.out.ms
            unfold mC at hd
            simp only [List.getElem?_toArray, List.getElem?_cons_succ, List.getElem?_cons_zero] at hd
            go_simp
            refine hK.out _ _ trivial (fun _ => ?_)
            clear hK K hd
            try simp only [Act.put, List.setIfInBounds_toArray, List.set_cons_zero, List.set_cons_succ]
            refine wpAnyH_ready (rs := [8]) (by kernel_rfl) (by simp) ?_
            refine (AllReadyH.cons (o := ({ dst := some 31, op := Go.Op.call { callee := Go.Callee.builtin Go.Builtin.append, args := #[Go.Operand.tmp 24, Go.Operand.tmp 30], argTypes := #[27, 27] }, type := 27, pos := "law.go:182", after := #[{ on := 1, ground := Go.Ground.data }, { on := 7, ground := Go.Ground.data }, { on := 5, ground := Go.Ground.chain }], guard := none } : Oper)) rfl (fun K hK => ?_) AllReadyH.nil)
            rw [if_pos (by kernel_rfl)]
            obtain ⟨i0, hi, hz0, hz1, hz2⟩ := info_rec
            refine wp_append_own (w := u11.alloc (.cells cs.toArray 44)) (.tmp 24) (.tmp 30) 27 rfl base 44 i0 _ 21 80 Tryd.underlying27 hi hz0 hz1 hz2 rfl (by decide) (.slice A k ca) k (reps cs k) rfl HP14.out.own ⟨u11.heap.size, 0, none⟩ 1 1 cs rfl (by rw [HCL.out]) (fun j u hj => by rw [Addr.add_lit, Nat.zero_add, World.cell?_alloc_mark, List.getElem?_toArray]; exact hj) HC1.out (by unfold maxLen; omega) (by omega) HP14.out.hb ?_
            intro v1 w1 ho1 hg1 _
            obtain ⟨A1, ca1, rfl⟩ := own_sl4 ho1
            have hap := HP14.out.app (by rw [reps_snoc]; exact ho1) hg1
            have d7 := cell_of_row w1 gm 7 _ _ _ hap.1
            have f7 := frozen_of_row w1 gm 7 _ _ hap.1
            unfold mC at d7
            simp only [List.getElem?_toArray, List.getElem?_cons_succ, List.getElem?_cons_zero] at d7
            have HNX := Lib.hid hap.2
            clear ho1 hg1 hap hi hz0 hz1 hz2
            refine hK.out _ _ trivial (fun _ => ?_)
            clear hK K
            try simp only [Act.put, List.setIfInBounds_toArray, List.set_cons_zero, List.set_cons_succ]
            refine wpAnyH_take (i := 9) (oi := ({ dst := some 32, op := Go.Op.fieldAddr 29 (Go.Operand.tmp 5) 6, type := 0, pos := "law.go:182", after := #[{ on := 0, ground := Go.Ground.phase }, { on := 1, ground := Go.Ground.phase }, { on := 2, ground := Go.Ground.phase }, { on := 3, ground := Go.Ground.phase }, { on := 4, ground := Go.Ground.phase }, { on := 5, ground := Go.Ground.phase }, { on := 6, ground := Go.Ground.phase }, { on := 7, ground := Go.Ground.phase }, { on := 8, ground := Go.Ground.phase }], guard := none } : Oper)) (v := .pointer (some ⟨gm, 7, none⟩)) rfl (by kernel_rfl) (by kernel_rfl) (by kernel_rfl) (fun _ _ _ h => h) (Or.inl ⟨by rfl, fun w' _ => ?_⟩) trivial ?_
            · go_simp
            try simp only [Act.put, List.setIfInBounds_toArray, List.set_cons_zero, List.set_cons_succ]
            refine wpAnyH_ready (rs := [10]) (by kernel_rfl) (by simp) ?_
            refine AllReadyH.cons (o := ({ dst := none, op := Go.Op.store 27 (Go.Operand.tmp 32) (Go.Operand.tmp 31), type := 0, pos := "law.go:182", after := #[{ on := 9, ground := Go.Ground.data }, { on := 8, ground := Go.Ground.data }, { on := 8, ground := Go.Ground.chain }, { on := 0, ground := Go.Ground.phase }, { on := 1, ground := Go.Ground.phase }, { on := 2, ground := Go.Ground.phase }, { on := 3, ground := Go.Ground.phase }, { on := 4, ground := Go.Ground.phase }, { on := 5, ground := Go.Ground.phase }, { on := 6, ground := Go.Ground.phase }, { on := 7, ground := Go.Ground.phase }, { on := 8, ground := Go.Ground.phase }], guard := none } : Oper)) rfl (fun K hK => ?_) AllReadyH.nil
            go_simp
            refine hK.out _ _ trivial (fun _ => ?_)
            clear hK K d7 f7
            refine wpAnyH_done (by kernel_rfl) ?_ _
            go_wp2_with fail
            go_roundw
            case rel => exact ⟨k + 1, _, by omega, by first | rfl | go_num, HNX⟩
            case measure => simp [intOf]; omega
    · obtain rfl : k = T := by omega
      have HR := Lib.hid (HRO.out wr base k ca A HP.out.own)
      have HG := Lib.hid HP.out.ms
      have HB := Lib.hid HP.out.below
      clear HP
      have CE := HEnc.out A ca k (by omega) wr (HE.out.below HB.out) HR.out
      go_wp2_with (first
        | (refine wpList_load_row rfl 29 (.tmp 5) rfl gm rfl 29 (mC S (.slice A k ca)) (0, 0) _ HG.out Tryd.underlying29 rfl (SM.out _ _) ?_; go_simp))
      refine CE.mono ?_
      rintro e w6 ⟨gb2, cap2, L2, hL2, rfl, hb6⟩
      have HB6 := Lib.hid (HB.out.trans (hb6.mono HB.out.size))
      clear hb6 CE
      go_wp2_with fail
      refine (HN.out w6).mono ?_
      rintro e w7 ⟨rfl, hb7⟩
      have HB7 := Lib.hid (HB6.out.trans (hb7.mono HB6.out.size))
      clear hb7
      go_wp2_with fail
      go_ret
      exact ⟨rfl, HB7.out⟩
end Go.Proofs.YtfipfmloplggiaaDoor
