/-
  The walk of MsgCounts: as many records as may be are read, and no more. Condition: the library's variable MaxLen holds some number.
-/
import Derived.Test.YtogojnlfglbefaaDoorMsgCtLib
namespace Go.Proofs.YtogojnlfglbefaaDoor
open Go.RowKit

theorem fill_21 {cs : List Value} (h : cs.length = 21) : Instr.fill (fun i => some (i * 21, 21)) ((Array.range (1 * 21)).map ((Value.agg (RV.cells ⟨emp, 0, 0, zero16, emp, emp⟩)).cells[· % (Value.agg (RV.cells ⟨emp, 0, 0, zero16, emp, emp⟩)).cells.size]!)) [(0, .agg cs.toArray)] = some cs.toArray := by
  have := Great.fill_whole (s := 21) (by decide) [Value.agg cs.toArray] ((Array.range (1 * 21)).map ((Value.agg (RV.cells ⟨emp, 0, 0, zero16, emp, emp⟩)).cells[· % (Value.agg (RV.cells ⟨emp, 0, 0, zero16, emp, emp⟩)).cells.size]!)) (by simp [Value.cells, h]) (by simp)
  simpa [Value.cells] using this
def adC (x : Value) : Array Value := #[.int .u8 0, .int .u8 0, .int .u8 0, .int .u8 0, .int .u8 0, .int .u8 0, .int .u8 0, .int .u8 0, .int .u8 0, .int .u8 0, .int .u8 255, .int .u8 255, .int .u8 0, .int .u8 0, .int .u8 0, x]
theorem builtAd (x : Int) : Tryd.prog.built 32 [(10, .int .u8 255), (11, .int .u8 255), (15, .int .u8 x)] = some (adC (.int .u8 x)) := by kernel_rfl
theorem builtCt (x : Int) : Tryd.prog.built 44 [(0, .string aS), (1, .int .i64 1), (3, .agg (adC (.int .u8 x)))] = some (([Value.string aS, .int .i64 1, .int .i64 0] ++ (adC (.int .u8 x)).toList ++ [Value.string emp, Value.string emp]).toArray) := by kernel_rfl
theorem ctV_cells {m : Nat} (h : m ≤ 63) : [Value.string aS, .int .i64 1, .int .i64 0] ++ (adC (.int .u8 (m : Int))).toList ++ [Value.string emp, Value.string emp] = (ctV m).cells.toList := by
  have e : ((UInt8.ofNat m).toNat : Int) = m := by rw [UInt8.toNat_ofNat', Nat.mod_eq_of_lt (by omega)]
  unfold ctV RV.cells adC
  simp only [← e]
  rfl
set_option maxRecDepth 100000 in
set_option maxHeartbeats 16000000 in
theorem msgCounts_walk (n0 : Int) (V : Array Value) (w : World) (he : Env w) (hV : (Tryd.prog.info? 34).map (·.size) = some V.size) : Calls Tryd.prog 10 #[.int .i64 n0, .agg V] w fun e w' => e = .returned (.bool true) ∧ Below w.heap.size w w' := by
  obtain ⟨m, hm, hmB⟩ := and_n n0 63 (by omega)
  have hmB : bits BinOp.and IntKind.i64 n0 63 = (m : Int) := hmB
  have HFit := Lib.hid fit4_e
  have HAll := Lib.hid (all_ct m hm)
  have HEnc := Lib.hid (encode_ct m)
  have HDec := Lib.hid (decode_ct m)
  have HRO : Hid (∀ (W : World) (B k c : Nat) (A : Option Addr), W.ownsRow B 44 21 (.slice A k c) k (reps (ctV m).cells.toList k) → RecsAt W A (List.replicate k (ctV m))) := Lib.hid (fun W B k c A h => recs_own h rfl)
  have BA := Lib.hid (builtAd (m : Int))
  have BP : Hid (Tryd.prog.built 44 [(0, .string aS), (1, .int .i64 1), (3, .agg (adC (.int .u8 (m : Int))))] = some (ctV m).cells.toList.toArray) := Lib.hid (by rw [← ctV_cells hm]; exact builtCt _)
  have HCL : Hid ((ctV m).cells.toList.length = 21) := Lib.hid (RV.size (r := ctV m) rfl)
  have HC1 : Hid (∀ u ∈ (ctV m).cells.toList, u.oneCell' = true) := Lib.hid (fun u hu => by
    have h := RV.one (ctV m)
    rw [Array.all_eq_true'] at h
    exact h u (by simpa using hu))
  have BM := Lib.hid (builtPm aS)
  have ZM := Lib.hid zeroM
  have SM : Hid (∀ S v, (Tryd.prog.info? 29).map (·.size) = some (mC S v).size) := Lib.hid (fun _ _ => sizeM)
  have OM : Hid (∀ S, (mC S (.slice none 0 0)).all (·.oneCell') = true) := Lib.hid (fun _ => by simp [mC, Value.oneCell'])
  have ZD : Hid (∀ S v, zMsg.size = (mC S v).size) := Lib.hid (fun _ _ => rfl)
  have HE := Lib.hid he
  have HVs := Lib.hid hV
  clear he hV
  generalize (ctV m).cells.toList = cs at HRO BP HCL HC1
  go_enter Tryd.func10, Tryd.ntmps10
  go_wp2_with fail
  have hB0 : Below w.heap.size w (w.alloc (.cells V 34)) := (Below.refl _ w).alloc (Nat.le_refl _) _
  refine (HFit.out _ (HE.out.below hB0)).mono ?_
  rintro e w1 ⟨rfl, hb1⟩
  have HB1 := Lib.hid (hB0.trans (hb1.mono hB0.size))
  clear hb1 hB0
  go_wp2_with (first
    | (refine wpList_build_v rfl 29 #[(5, .tmp 12)] rfl _ (mC aS (.slice none 0 0)) BM.out rfl ?_; go_simp)
    | (refine wpList_alloc_z rfl 29 rfl zMsg ZM.out ?_; go_simp)
    | (refine wpList_store_new rfl 29 (.tmp 5) (.tmp 13) rfl w1.heap.size rfl zMsg (mC aS (.slice none 0 0)) 29 rfl rfl (SM.out _ _) (ZD.out _ _) (OM.out _) ?_; go_simp))
  have HP1 : Hid (PAt (w1.heap.size + 1) w (w1.alloc (.cells (mC aS (.slice none 0 0)) 29)) w1.heap.size aS cs 0 (.slice none 0 0)) :=
    Lib.hid ⟨heap_alloc_last w1 _, World.ownsRow_nil _ _ _ _, HB1.out.alloc HB1.out.size _, by omega, HB1.out.size, by rw [World.size_alloc]; omega⟩
  obtain ⟨i0, hi, hz0, hz1, hz2⟩ := info_rec
  have HI := Lib.hid hi
  have HZ0 := Lib.hid hz0
  have HZ1 := Lib.hid hz1
  have HZ2 := Lib.hid hz2
  clear hi hz0 hz1 hz2 BM HFit HB1
  generalize w1.alloc (.cells (mC aS (.slice none 0 0)) 29) = W1 at HP1 ⊢
  generalize w1.heap.size + 1 = base at HP1
  generalize w1.heap.size = gm at HP1 ⊢
  go_loopw [15] (fun i wr => ∃ (k : Nat) (v : Value), k ≤ m ∧ i = .int .i64 k ∧ Hid (PAt base w wr gm aS cs k v)) (fun i _ => m - (intOf i).toNat)
  case atStart => exact ⟨0, _, by omega, rfl, HP1⟩
  case round =>
    obtain ⟨k, v, hk, rfl, HP⟩ := hrel
    have hown := HP.out.own
    obtain ⟨A, ca, rfl⟩ := own_sl4 hown
    clear hown
    by_cases hkT : k < m
    · have hkI : (k : Int) < (m : Int) := by omega
      have hd := cell_of_row _ gm 7 _ _ _ HP.out.ms
      unfold mC at hd
      simp only [List.getElem?_toArray, List.getElem?_cons_succ, List.getElem?_cons_zero] at hd
      have HP5 := Lib.hid (HP.out.to ((Below.refl _ wr).alloc (Nat.le_refl _) (.cells cs.toArray 44)))
      go_wp2_with (first
        | (refine wpList_build_v rfl 32 #[(10, .const (.int .u8 255)), (11, .const (.int .u8 255)), (15, .tmp 20)] rfl _ (adC (.int .u8 (m : Int))) BA.out rfl ?_; go_simp)
        | (refine wpList_build_v rfl 44 #[(0, .const (.string ⟨#[97]⟩)), (1, .const (.int .i64 1)), (3, .tmp 21)] rfl _ cs.toArray BP.out rfl ?_; go_simp)
        | (refine wpList_buildSlice rfl 27 44 1 #[(0, .tmp 22)] rfl cs.toArray i0 _ Tryd.underlying27 HI.out HZ0.out (by rw [HZ1.out]; decide) (by rw [HZ1.out]; decide) (by rw [HZ1.out]; refine (congrArg _ (?_ : _ = [(0, Value.agg cs.toArray)])).trans (fill_21 HCL.out); rw [Array.toList_map]; rfl) ?_; go_simp)
        | (at_builtin; refine wpList_append_own (w := wr.alloc (.cells cs.toArray 44)) rfl (.tmp 18) (.tmp 23) 27 rfl base 44 i0 _ 21 80 Tryd.underlying27 HI.out HZ0.out HZ1.out HZ2.out rfl (by decide) (.slice A k ca) k (reps cs k) rfl HP5.out.own ⟨wr.heap.size, 0, none⟩ 1 1 cs rfl (by rw [HCL.out]) (fun j u hj => by rw [Addr.add_lit, Nat.zero_add, World.cell?_alloc_mark, List.getElem?_toArray]; exact hj) HC1.out (by unfold maxLen; omega) (by omega) HP5.out.hb ?_; intro v1 w3 ho1 hg1 hnil; clear hnil; obtain ⟨A1, ca1, rfl⟩ := own_sl4 ho1; have hap := HP5.out.app (by rw [reps_snoc]; exact ho1) hg1; have d7 := cell_of_row w3 gm 7 _ _ _ hap.1; have f7 := frozen_of_row w3 gm 7 _ _ hap.1; unfold mC at d7; simp only [List.getElem?_toArray, List.getElem?_cons_succ, List.getElem?_cons_zero] at d7; have HNX := Lib.hid hap.2; clear ho1 hg1 hap; go_simp))
      go_roundw
      case rel => exact ⟨k + 1, _, by omega, by first | rfl | go_num, HNX⟩
      case measure => simp [intOf]; omega
    · obtain rfl : k = m := by omega
      have HR := Lib.hid (HRO.out wr base k ca A HP.out.own)
      have HEr := Lib.hid (HE.out.below HP.out.below)
      have HMr := Lib.hid HP.out.ms
      have HBr := Lib.hid HP.out.below
      have CA := HAll.out A ca wr HEr.out HR.out
      by_cases h32 : (32 : Int) < (k : Int)
      · rw [decide_eq_false (by omega)] at CA
        go_wp2_with (first
          | (refine wpList_load_row rfl 29 (.tmp 5) rfl gm rfl 29 (mC aS (.slice A k ca)) (0, 0) _ HMr.out Tryd.underlying29 rfl (SM.out _ _) ?_; go_simp))
        refine CA.mono ?_
        rintro e w4 ⟨rfl, hb4⟩
        have HB4 := Lib.hid (HBr.out.trans (hb4.mono HBr.out.size))
        clear hb4 CA
        go_wp2_with fail
        go_ret
        exact ⟨rfl, HB4.out⟩
      · clear CA
        have HK : Hid (k ≤ 32) := Lib.hid (by omega)
        go_wp2_with (first
          | (refine wpList_load_row rfl 29 (.tmp 5) rfl gm rfl 29 (mC aS (.slice A k ca)) (0, 0) _ HMr.out Tryd.underlying29 rfl (SM.out _ _) ?_; go_simp))
        refine (HEnc.out HK.out A ca wr HEr.out HR.out).mono ?_
        rintro e w4 ⟨gb, cap, L, hL, rfl, hcap, hin4, hb4⟩
        have HB4 := Lib.hid (HBr.out.trans (hb4.mono HBr.out.size))
        have HM4 := Lib.hid ((hb4.block _ (heap_lt HMr.out)).trans HMr.out)
        have HR4 := Lib.hid (HR.out.below hb4)
        have C5 := HDec.out HK.out gb cap L hL w4 (HE.out.below HB4.out) hcap hin4
        clear hb4 hL hcap hin4
        go_wp2_with fail
        refine C5.mono ?_
        rintro e w5 ⟨hb5, C, A', cb, rfl, hs5, ho5, hd5⟩
        have HB5 := Lib.hid (HB4.out.trans (hb5.mono HB4.out.size))
        have HM5 := Lib.hid ((hb5.block _ (heap_lt HM4.out)).trans HM4.out)
        have HR5 := Lib.hid (HR4.out.below hb5)
        have S5 : Hid ((Tryd.prog.info? 29).map (·.size) = some C.size) := Lib.hid (by rw [hs5]; exact sizeM)
        have Z5 : Hid (zMsg.size = C.size) := Lib.hid (by rw [hs5]; rfl)
        have O5 := Lib.hid ho5
        have HD5 := Lib.hid hd5
        obtain ⟨W6, hW6⟩ : ∃ W6, W6 = w5.alloc (.cells C 29) := ⟨_, rfl⟩
        have hb56 : Below w5.heap.size w5 W6 := by rw [hW6]; exact (Below.refl _ w5).alloc (Nat.le_refl _) _
        have HB6 := Lib.hid (HB5.out.trans (hb56.mono HB5.out.size))
        have HM6 := Lib.hid ((hb56.block _ (heap_lt HM5.out)).trans HM5.out)
        have HR6 := Lib.hid (HR5.out.below hb56)
        have HK6 : Hid (W6.heap[w5.heap.size]? = some (.cells C 29 (0, 0))) := Lib.hid (by rw [hW6]; exact heap_alloc_last w5 _)
        have CA := HAll.out A ca W6 (HE.out.below HB6.out) HR6.out
        rw [decide_eq_true HK.out] at CA
        clear hb5 hb56 hs5 ho5 hd5 C5
        go_wp2_with (first
          | (refine wpList_alloc_z rfl 29 rfl zMsg ZM.out ?_; go_simp)
          | (refine wpList_store_new rfl 29 (.tmp 6) (.tmp 36) rfl w5.heap.size rfl zMsg C 29 rfl rfl S5.out Z5.out O5.out ?_; rw [← hW6]; clear hW6; go_simp)
          | (refine wpList_load_row rfl 29 (.tmp 5) rfl gm rfl 29 (mC aS (.slice A k ca)) (0, 0) _ HM6.out Tryd.underlying29 rfl (SM.out _ _) ?_; go_simp)
          | (go_at_call 16; refine CA.mono ?_; rintro e w7 ⟨rfl, hb7⟩; have d7 := (cell_of_row w7 w5.heap.size 7 _ _ _ ((hb7.block _ (heap_lt HK6.out)).trans HK6.out)).trans HD5.out; have HB7 := Lib.hid (HB6.out.trans (hb7.mono HB6.out.size)); clear hb7 CA; go_simp))
        go_ret
        exact ⟨rfl, HB7.out⟩
end Go.Proofs.YtogojnlfglbefaaDoor
