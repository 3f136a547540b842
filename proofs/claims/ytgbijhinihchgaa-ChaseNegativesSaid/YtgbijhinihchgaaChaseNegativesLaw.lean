/-
  The walk of ChaseNegatives: how long it counts that there is nothing is told by the first SOA. No condition.
-/
import Derived.Test.YtgbijhinihchgaaChLib
namespace Go.Proofs.Ytgbijhinihchgaa
open Go.RowKit

def ngC (cd : Int) (v : Value) : Array Value := #[.int .i64 0, .bool false, .bool false, .bool false, .int .i64 cd, .string ⟨#[97]⟩, .int .i64 1, .slice none 0 0, v]
theorem builtNg (cd : Int) : Try.prog.built 32 [(4, .int .i64 cd), (5, .agg #[.string ⟨#[97]⟩, .int .i64 1])] = some (ngC cd (.slice none 0 0)) := by kernel_rfl
theorem builtNgR (t : Int) : Try.prog.built 41 [(0, .string ⟨#[122]⟩), (1, .int .i64 16), (2, .int .i64 t), (5, .string ⟨#[113]⟩)] = some (RV.cells ⟨⟨#[122]⟩, 16, t, zero16, ⟨#[]⟩, ⟨#[113]⟩⟩) := by kernel_rfl
set_option maxRecDepth 100000 in
set_option maxHeartbeats 16000000 in
theorem chaseNegatives_walk (n0 : Int) (l : List Int) (A : Option Addr) (cl : Nat) (w : World) (hl : IntsIn w A l) :
    Calls Try.prog 7 #[.int .i64 n0, .slice A l.length cl] w fun e w' => e = .returned (.bool true) ∧ Below w.heap.size w w' := by
  have HFit := Lib.hid fit15_e
  have HA := Lib.hid hl
  clear hl
  by_cases h20 : l.length ≤ 20
  · have h20I : (l.length : Int) ≤ 20 := by omega
    obtain ⟨hb1, hb1l⟩ := bN_e n0 1 (by omega)
    generalize bN n0 1 = b at hb1 hb1l
    have hb1 : bits BinOp.and IntKind.i64 n0 1 = (b : Int) := hb1
    obtain ⟨cd, hcd⟩ : ∃ cd : Nat, cd = b * 3 := ⟨_, rfl⟩
    have hcdI : (b : Int) * 3 = (cd : Int) := by omega
    have HOf : Hid (∀ W A c, RecsAt W A (ngL l) → Calls Try.prog 10 #[.agg (ngC (cd : Int) (.slice A l.length c))] W (FdPost W ⟨if b = 1 then 2 else 5, [], ⟨#[]⟩, soaT (ngL l)⟩)) := Lib.hid (fun W A c hW => by
      have h := of_e ⟨0, false, false, false, (cd : Int), nmA, 1, none, 0, [], A, c, ngL l⟩ (fun r hr => by cases hr) ngL_ad (by show 0 ≤ 900; omega) (by show (ngL l).length ≤ 900; rw [ngL_len]; omega) W recsAt_none hW
      have e : ofF (cd : Int) nmA 1 [] (ngL l) = ⟨if b = 1 then 2 else 5, [], ⟨#[]⟩, soaT (ngL l)⟩ := by rw [hcd]; exact of_none b (by omega) _
      have h : Calls Try.prog 10 #[.agg #[.int .i64 0, .bool false, .bool false, .bool false, .int .i64 (cd : Int), .string ⟨#[97]⟩, .int .i64 1, .slice none 0 0, .slice A (ngL l).length c]] W (FdPost W (ofF (cd : Int) nmA 1 [] (ngL l))) := h
      rw [e, ngL_len] at h
      exact h)
    have HBm := Lib.hid (builtNg (cd : Int))
    have HC8 : Hid (∀ v, (ngC (cd : Int) v)[8]? = some v) := Lib.hid (fun _ => rfl)
    have HCC : Hid (∀ v v1, (ngC (cd : Int) v).setIfInBounds 8 v1 = ngC (cd : Int) v1) := Lib.hid (fun _ _ => rfl)
    have SM : Hid (∀ v, (Try.prog.info? 32).map (·.size) = some (ngC (cd : Int) v).size) := Lib.hid (fun _ => sizeM)
    have ZMc : Hid (∀ v, zMsg.size = (ngC (cd : Int) v).size) := Lib.hid (fun _ => rfl)
    have OM : Hid ((ngC (cd : Int) (.slice none 0 0)).all (·.oneCell') = true) := Lib.hid (by simp [ngC, Value.oneCell'])
    have ZM := Lib.hid zeroM
    have HZ := Lib.hid zeroRec
    have HZF := Lib.hid zeroF
    have HBz0 := Lib.hid builtNgR
    obtain ⟨i0, hi, hz0, hz1, hz2⟩ := info_rec
    have HI := Lib.hid hi
    have HZ0 := Lib.hid hz0
    have HZ1 := Lib.hid hz1
    have HZ2 := Lib.hid hz2
    clear hi hz0 hz1 hz2 hcd
    generalize hC : ngC (cd : Int) = C at HOf HBm HC8 HCC SM ZMc OM
    clear hC
    go_enter Try.func7, Try.ntmps7
    go_wp2_with fail
    refine (HFit.out w).mono ?_
    rintro e w1 ⟨rfl, hbw1⟩
    have HB1 := Lib.hid hbw1
    have HP0 : Hid (WaAt (w1.heap.size + 1) w (w1.alloc (.cells (C (.slice none 0 0)) 32)) w1.heap.size C (ngL (l.take 0)) (.slice none 0 0)) := Lib.hid ⟨heap_alloc_last w1 _, World.ownsRow_nil _ _ _ _, hbw1.alloc hbw1.size _, by omega, hbw1.size, by rw [World.size_alloc]; omega⟩
    clear hbw1
    go_wp2_with (first
      | (refine wpList_build_v rfl 32 #[(4, .tmp 19), (5, .tmp 20)] rfl _ (C (.slice none 0 0)) HBm.out rfl ?_; go_simp)
      | (refine wpList_alloc_z rfl 32 rfl zMsg ZM.out ?_; go_simp)
      | (refine wpList_store_new rfl 32 (.tmp 5) (.tmp 21) rfl w1.heap.size rfl zMsg (C (.slice none 0 0)) 32 rfl rfl (SM.out _) (ZMc.out _) OM.out ?_; go_simp))
    generalize hbase : w1.heap.size + 1 = base at HP0
    generalize w1.heap.size = gw at HP0 hbase ⊢
    clear hbase
    go_loopw [24, 6] (fun i t wr => ∃ (k : Nat) (v : Value), k ≤ l.length ∧ i = .int .i64 k ∧ t = .int .i64 (soaT (ngL (l.take k))) ∧ Hid (WaAt base w wr gw C (ngL (l.take k)) v)) (fun i _ _ => l.length - (intOf i).toNat)
    case atStart => exact ⟨0, _, by omega, rfl, rfl, HP0⟩
    case round =>
      clear HP0 HBm OM ZM HFit
      obtain ⟨k, v, hk, rfl, rfl, HP⟩ := hrel
      by_cases hlt : k < l.length
      · have hkI : (k : Int) < (l.length : Int) := by omega
        obtain ⟨x, hx⟩ : ∃ x, l[k]? = some x := ⟨_, List.getElem?_eq_getElem hlt⟩
        have HX := Lib.hid hx
        obtain ⟨b0, o, rfl, hbl, hc⟩ := (HA.out.below HP.out.below) (by rintro rfl; simp at hlt)
        have dx : wr.cell? ⟨b0, o + k, none⟩ = some (.int .i64 x) := by
          have := hc k hlt
          rw [this, List.getD, hx]; rfl
        obtain ⟨hxy, _⟩ := bN_e x 4095 (by omega)
        have HBit : Hid (bits BinOp.and IntKind.i64 (k : Nat) 1 = ((k % 2 : Nat) : Int)) := Lib.hid (bit_e (by omega))
        have HSn := Lib.hid (ngL_snoc hx)
        have HLk : Hid ((ngL (l.take k)).length = k) := Lib.hid (by rw [ngL_len, List.length_take]; omega)
        have hBz0 : Try.prog.built 41 [(0, .string ⟨#[122]⟩), (1, .int .i64 16), (2, .int .i64 ((bN x 4095 : Nat) : Int)), (5, .string ⟨#[113]⟩)] = some (RV.cells ⟨⟨#[122]⟩, 16, ((bN x 4095 : Nat) : Int), zero16, ⟨#[]⟩, ⟨#[113]⟩⟩) := HBz0.out _
        obtain ⟨y, hy⟩ : ∃ y, y = bN x 4095 := ⟨_, rfl⟩
        have HY := Lib.hid hy
        rw [← hy] at hxy hBz0
        have hxy : bits BinOp.and IntKind.i64 x 4095 = (y : Int) := hxy
        obtain ⟨rcs0, hrcs0⟩ : ∃ rcs0, rcs0 = rcs (ngL (l.take k)) := ⟨_, rfl⟩
        have HR0 : Hid (rcs (ngL (l.take k)) = rcs0) := Lib.hid hrcs0.symm
        clear hx hc hbl hy hrcs0 HBz0
        by_cases hpar : k % 2 = 0
        · have hk1 : ((k : Int) == 1) = false := by
            rw [beq_eq_false_iff_ne]; omega
          obtain ⟨rl, hrl⟩ : ∃ rl : List Value, (ngR k x).cells = rl.toArray := ⟨(ngR k x).cells.toList, by rw [Array.toArray_toList]⟩
          have HRl : Hid ((ngR k x).cells.toList = rl) := Lib.hid (by rw [hrl])
          have HCL : Hid (rl.length = 21) := Lib.hid (by have h := RV.size (r := ngR k x) rfl; rw [hrl] at h; simpa using h)
          have HC1 : Hid (∀ u ∈ rl, u.oneCell' = true) := Lib.hid (fun u hu => by
            have h := RV.one (ngR k x)
            rw [hrl, Array.all_eq_true'] at h
            exact h u (by simpa using hu))
          have HYS : Hid ((Try.prog.info? 41).map (·.size) = some rl.toArray.size) := Lib.hid (by rw [← hrl]; exact sizeRv rfl)
          have HYO : Hid (rl.toArray.all (·.oneCell') = true) := Lib.hid (by rw [← hrl]; exact RV.one _)
          have HYZ : Hid ((RV.cells ⟨emp, 0, 0, zero16, emp, emp⟩).size = rl.toArray.size) := Lib.hid (by rw [← hrl]; rfl)
          have hBz := hBz0
          have HBr : Hid (Try.prog.built 41 [(0, .string ⟨#[122]⟩), (1, .int .i64 16), (2, .int .i64 (y : Int)), (5, .string ⟨#[113]⟩)] = some rl.toArray) := Lib.hid (by rw [← hrl, hBz]; unfold ngR; rw [if_neg (by omega), HY.out])
          have HTt : Hid (soaT (ngL (l.take (k + 1))) = soaT (ngL (l.take k))) := Lib.hid (ngT_even HX.out hpar)
          have hbit := HBit.out
          rw [hpar] at hbit
          have HP5 : Hid (WaAt base w (wr.alloc (.cells rl.toArray 41)) gw C (ngL (l.take k)) v) := Lib.hid (HP.out.to ((Below.refl _ wr).alloc (Nat.le_refl _) _))
          have HG5 : Hid ((wr.alloc (.cells rl.toArray 41)).heap[wr.heap.size]? = some (.cells rl.toArray 41 (0, 0))) := Lib.hid (heap_alloc_last wr _)
          clear HP hrl hBz hpar
          go_upto_region 15 with (first
            | (refine wpList_build_v rfl 41 #[(0, .const (.string ⟨#[122]⟩)), (1, .const (.int .i64 16)), (2, .tmp 30), (5, .const (.string ⟨#[113]⟩))] rfl _ rl.toArray HBr.out rfl ?_; go_simp)
            | (refine wpList_alloc_z rfl 41 rfl (RV.cells ⟨emp, 0, 0, zero16, emp, emp⟩) HZ.out ?_; go_simp)
            | (refine wpList_store_new rfl 41 (.tmp 9) (.tmp 31) rfl wr.heap.size rfl (RV.cells ⟨emp, 0, 0, zero16, emp, emp⟩) rl.toArray 41 rfl rfl HYS.out HYZ.out HYO.out ?_; go_simp))
          clear hbit
          generalize wr.alloc (.cells rl.toArray 41) = W5 at HP5 HG5 ⊢
          generalize wr.heap.size = g9 at HG5 ⊢
          have d8 := (cell_of_row _ gw 8 _ _ _ HP5.out.ws).trans (HC8.out v)
          have HW6 := Lib.hid (HP5.out.to ((Below.refl _ W5).alloc (Nat.le_refl _) (.cells rl.toArray 41)))
          have HRw : Hid (∀ j y, rl[j]? = some y → (W5.alloc (.cells rl.toArray 41)).cell? ⟨W5.heap.size, j, none⟩ = some y) := Lib.hid (fun j y hj => (cell_of_row _ _ j _ _ _ (heap_alloc_last W5 (.cells rl.toArray 41))).trans (by rw [List.getElem?_toArray]; exact hj))
          have HAp : Hid (∀ v1 w1, w1.ownsRow base 41 21 v1 (k + 1) (rcs0 ++ rl) → (W5.alloc (.cells rl.toArray 41)).grownBy w1 v.ownBlock → w1.heap[gw]? = some (.cells (C v) 32 (0, 0)) ∧ WaAt base w (w1.setCell ⟨gw, 8, none⟩ v1) gw C (ngL (l.take (k + 1))) v1) := Lib.hid (fun v1 w1 h1 h2 => by
            have h := HW6.out
            rw [HSn.out]
            refine h.app HCC.out (by rw [HLk.out, HRl.out, HR0.out]; exact h1) h2)
          have HO6 : Hid ((W5.alloc (.cells rl.toArray 41)).ownsRow base 41 21 v k rcs0) := Lib.hid (by have h := HW6.out.own; rw [HLk.out, HR0.out] at h; exact h)
          have HB6 := Lib.hid HW6.out.hb
          clear HP5 HW6
          go_wp2_with (first
            | (refine wpList_load_row rfl 41 (.tmp 9) rfl g9 rfl 41 rl.toArray (0, 0) _ HG5.out Try.underlying41 rfl HYS.out ?_; go_simp)
            | (refine wpList_buildSlice rfl 30 41 1 #[(0, .tmp 42)] rfl rl.toArray i0 _ Try.underlying30 HI.out HZ0.out (by rw [HZ1.out]; decide) (by rw [HZ1.out]; decide) (by rw [HZ1.out]; refine (congrArg _ (?_ : _ = [(0, Value.agg rl.toArray)])).trans (fill21c HCL.out); rw [Array.toList_map]; rfl) ?_; go_simp)
            | (at_builtin; refine wpList_append_own (w := W5.alloc (.cells rl.toArray 41)) rfl (.tmp 41) (.tmp 43) 30 rfl base 41 i0 _ 21 80 Try.underlying30 HI.out HZ0.out HZ1.out HZ2.out rfl (by decide) v k rcs0 rfl HO6.out ⟨W5.heap.size, 0, none⟩ 1 1 rl rfl (by rw [HCL.out]) (fun j u hj => by rw [Addr.add_lit, Nat.zero_add]; exact HRw.out j u hj) HC1.out (by unfold maxLen; omega) (by omega) HB6.out ?_; intro v1 w9 ho1 hg1 hnil; clear hnil; obtain ⟨A1, ca1, rfl⟩ := own_sl4 ho1; have hap := HAp.out _ w9 ho1 hg1; have d9 := (cell_of_row w9 gw 8 _ _ _ hap.1).trans (HC8.out v); have f9 := frozen_of_row w9 gw 8 _ _ hap.1; have HNX := Lib.hid hap.2; clear ho1 hg1 hap; go_simp))
          go_roundw
          case rel => exact ⟨k + 1, _, by omega, by first | rfl | go_num, by rw [HTt.out], HNX⟩
          case measure => simp [intOf]; omega
        · have hpar : k % 2 = 1 := by omega
          by_cases hone : k = 1
          · have hk1 : ((k : Int) == 1) = true := by rw [hone]; rfl
            have HOne := Lib.hid hone
            clear hone
            obtain ⟨rl, hrl⟩ : ∃ rl : List Value, (ngR k x).cells = rl.toArray := ⟨(ngR k x).cells.toList, by rw [Array.toArray_toList]⟩
            have HRl : Hid ((ngR k x).cells.toList = rl) := Lib.hid (by rw [hrl])
            have HCL : Hid (rl.length = 21) := Lib.hid (by have h := RV.size (r := ngR k x) rfl; rw [hrl] at h; simpa using h)
            have HC1 : Hid (∀ u ∈ rl, u.oneCell' = true) := Lib.hid (fun u hu => by
              have h := RV.one (ngR k x)
              rw [hrl, Array.all_eq_true'] at h
              exact h u (by simpa using hu))
            have HYS : Hid ((Try.prog.info? 41).map (·.size) = some rl.toArray.size) := Lib.hid (by rw [← hrl]; exact sizeRv rfl)
            have HYO : Hid (rl.toArray.all (·.oneCell') = true) := Lib.hid (by rw [← hrl]; exact RV.one _)
            have HYZ : Hid ((RV.cells ⟨emp, 0, 0, zero16, emp, emp⟩).size = rl.toArray.size) := Lib.hid (by rw [← hrl]; rfl)
            have hBz := hBz0
            obtain ⟨r0, hr0⟩ : ∃ r0 : List Value, (RV.cells { ngR k x with ty := 16 }) = r0.toArray := ⟨(RV.cells { ngR k x with ty := 16 }).toList, by rw [Array.toArray_toList]⟩
            have HYS0 : Hid ((Try.prog.info? 41).map (·.size) = some r0.toArray.size) := Lib.hid (by rw [← hr0]; exact sizeRv rfl)
            have HYO0 : Hid (r0.toArray.all (·.oneCell') = true) := Lib.hid (by rw [← hr0]; exact RV.one _)
            have HYZ0 : Hid ((RV.cells ⟨emp, 0, 0, zero16, emp, emp⟩).size = r0.toArray.size) := Lib.hid (by rw [← hr0]; rfl)
            have HBr : Hid (Try.prog.built 41 [(0, .string ⟨#[122]⟩), (1, .int .i64 16), (2, .int .i64 (y : Int)), (5, .string ⟨#[113]⟩)] = some r0.toArray) := Lib.hid (by rw [← hr0, hBz]; unfold ngR; rw [HY.out])
            have HSet : Hid (r0.set 1 (.int .i64 6) = rl) := Lib.hid (by
              have h : r0.toArray.setIfInBounds 1 (.int .i64 6) = rl.toArray := by rw [← hr0, ← hrl, RV.setTy]; unfold ngR; rw [if_pos (by omega)]
              simpa using h)
            have HTt : Hid (soaT (ngL (l.take (k + 1))) = ((y : Nat) : Int)) := Lib.hid (by rw [HY.out]; have h := HX.out; rw [HOne.out] at h ⊢; exact ngT_one h)
            have hbit := HBit.out
            rw [hpar] at hbit
            have hq1 : r0.toArray[1]? = some (.int .i64 16) := by rw [← hr0]; exact RV.c1 _
            have hq2 : rl.toArray[2]? = some (.int .i64 (y : Int)) := by rw [← hrl]; exact (RV.c2 _).trans (by show some (Value.int .i64 ((bN x 4095 : Nat) : Int)) = _; rw [← HY.out])
            have hl0 := heap_alloc_last wr (.cells r0.toArray 41)
            have d1 := (cell_of_row _ wr.heap.size 1 _ _ _ hl0).trans hq1
            have f1 := frozen_of_row _ wr.heap.size 1 _ _ hl0
            have hl1 := heap_alloc_last wr (.cells (r0.set 1 (.int .i64 6)).toArray 41)
            have d2 : (wr.alloc (.cells (r0.set 1 (.int .i64 6)).toArray 41)).cell? ⟨wr.heap.size, 2, none⟩ = some (.int .i64 (y : Int)) := (cell_of_row _ wr.heap.size 2 _ _ _ hl1).trans (by rw [HSet.out]; exact hq2)
            have HP5 : Hid (WaAt base w (wr.alloc (.cells rl.toArray 41)) gw C (ngL (l.take k)) v) := Lib.hid (HP.out.to ((Below.refl _ wr).alloc (Nat.le_refl _) _))
            have HG5 : Hid ((wr.alloc (.cells rl.toArray 41)).heap[wr.heap.size]? = some (.cells rl.toArray 41 (0, 0))) := Lib.hid (heap_alloc_last wr _)
            clear HP hrl hBz hpar hr0 hq1 hq2 hl0 hl1
            go_upto_region 15 with (first
              | (refine wpList_build_v rfl 41 #[(0, .const (.string ⟨#[122]⟩)), (1, .const (.int .i64 16)), (2, .tmp 30), (5, .const (.string ⟨#[113]⟩))] rfl _ r0.toArray HBr.out rfl ?_; go_simp)
              | (refine wpList_alloc_z rfl 41 rfl (RV.cells ⟨emp, 0, 0, zero16, emp, emp⟩) HZ.out ?_; go_simp)
              | (refine wpList_store_new rfl 41 (.tmp 9) (.tmp 31) rfl wr.heap.size rfl (RV.cells ⟨emp, 0, 0, zero16, emp, emp⟩) r0.toArray 41 rfl rfl HYS0.out HYZ0.out HYO0.out ?_; go_simp))
            rw [HSet.out]
            clear hbit d1 f1 d2
            generalize wr.alloc (.cells rl.toArray 41) = W5 at HP5 HG5 ⊢
            generalize wr.heap.size = g9 at HG5 ⊢
            have d8 := (cell_of_row _ gw 8 _ _ _ HP5.out.ws).trans (HC8.out v)
            have HW6 := Lib.hid (HP5.out.to ((Below.refl _ W5).alloc (Nat.le_refl _) (.cells rl.toArray 41)))
            have HRw : Hid (∀ j y, rl[j]? = some y → (W5.alloc (.cells rl.toArray 41)).cell? ⟨W5.heap.size, j, none⟩ = some y) := Lib.hid (fun j y hj => (cell_of_row _ _ j _ _ _ (heap_alloc_last W5 (.cells rl.toArray 41))).trans (by rw [List.getElem?_toArray]; exact hj))
            have HAp : Hid (∀ v1 w1, w1.ownsRow base 41 21 v1 (k + 1) (rcs0 ++ rl) → (W5.alloc (.cells rl.toArray 41)).grownBy w1 v.ownBlock → w1.heap[gw]? = some (.cells (C v) 32 (0, 0)) ∧ WaAt base w (w1.setCell ⟨gw, 8, none⟩ v1) gw C (ngL (l.take (k + 1))) v1) := Lib.hid (fun v1 w1 h1 h2 => by
              have h := HW6.out
              rw [HSn.out]
              refine h.app HCC.out (by rw [HLk.out, HRl.out, HR0.out]; exact h1) h2)
            have HO6 : Hid ((W5.alloc (.cells rl.toArray 41)).ownsRow base 41 21 v k rcs0) := Lib.hid (by have h := HW6.out.own; rw [HLk.out, HR0.out] at h; exact h)
            have HB6 := Lib.hid HW6.out.hb
            clear HP5 HW6
            go_wp2_with (first
              | (refine wpList_load_row rfl 41 (.tmp 9) rfl g9 rfl 41 rl.toArray (0, 0) _ HG5.out Try.underlying41 rfl HYS.out ?_; go_simp)
              | (refine wpList_buildSlice rfl 30 41 1 #[(0, .tmp 42)] rfl rl.toArray i0 _ Try.underlying30 HI.out HZ0.out (by rw [HZ1.out]; decide) (by rw [HZ1.out]; decide) (by rw [HZ1.out]; refine (congrArg _ (?_ : _ = [(0, Value.agg rl.toArray)])).trans (fill21c HCL.out); rw [Array.toList_map]; rfl) ?_; go_simp)
              | (at_builtin; refine wpList_append_own (w := W5.alloc (.cells rl.toArray 41)) rfl (.tmp 41) (.tmp 43) 30 rfl base 41 i0 _ 21 80 Try.underlying30 HI.out HZ0.out HZ1.out HZ2.out rfl (by decide) v k rcs0 rfl HO6.out ⟨W5.heap.size, 0, none⟩ 1 1 rl rfl (by rw [HCL.out]) (fun j u hj => by rw [Addr.add_lit, Nat.zero_add]; exact HRw.out j u hj) HC1.out (by unfold maxLen; omega) (by omega) HB6.out ?_; intro v1 w9 ho1 hg1 hnil; clear hnil; obtain ⟨A1, ca1, rfl⟩ := own_sl4 ho1; have hap := HAp.out _ w9 ho1 hg1; have d9 := (cell_of_row w9 gw 8 _ _ _ hap.1).trans (HC8.out v); have f9 := frozen_of_row w9 gw 8 _ _ hap.1; have HNX := Lib.hid hap.2; clear ho1 hg1 hap; go_simp))
            go_roundw
            case rel => exact ⟨k + 1, _, by omega, by first | rfl | go_num, by rw [HTt.out], HNX⟩
            case measure => simp [intOf]; omega
          · have hk1 : ((k : Int) == 1) = false := by
              rw [beq_eq_false_iff_ne]; omega
            obtain ⟨rl, hrl⟩ : ∃ rl : List Value, (ngR k x).cells = rl.toArray := ⟨(ngR k x).cells.toList, by rw [Array.toArray_toList]⟩
            have HRl : Hid ((ngR k x).cells.toList = rl) := Lib.hid (by rw [hrl])
            have HCL : Hid (rl.length = 21) := Lib.hid (by have h := RV.size (r := ngR k x) rfl; rw [hrl] at h; simpa using h)
            have HC1 : Hid (∀ u ∈ rl, u.oneCell' = true) := Lib.hid (fun u hu => by
              have h := RV.one (ngR k x)
              rw [hrl, Array.all_eq_true'] at h
              exact h u (by simpa using hu))
            have HYS : Hid ((Try.prog.info? 41).map (·.size) = some rl.toArray.size) := Lib.hid (by rw [← hrl]; exact sizeRv rfl)
            have HYO : Hid (rl.toArray.all (·.oneCell') = true) := Lib.hid (by rw [← hrl]; exact RV.one _)
            have HYZ : Hid ((RV.cells ⟨emp, 0, 0, zero16, emp, emp⟩).size = rl.toArray.size) := Lib.hid (by rw [← hrl]; rfl)
            have hBz := hBz0
            obtain ⟨r0, hr0⟩ : ∃ r0 : List Value, (RV.cells { ngR k x with ty := 16 }) = r0.toArray := ⟨(RV.cells { ngR k x with ty := 16 }).toList, by rw [Array.toArray_toList]⟩
            have HYS0 : Hid ((Try.prog.info? 41).map (·.size) = some r0.toArray.size) := Lib.hid (by rw [← hr0]; exact sizeRv rfl)
            have HYO0 : Hid (r0.toArray.all (·.oneCell') = true) := Lib.hid (by rw [← hr0]; exact RV.one _)
            have HYZ0 : Hid ((RV.cells ⟨emp, 0, 0, zero16, emp, emp⟩).size = r0.toArray.size) := Lib.hid (by rw [← hr0]; rfl)
            have HBr : Hid (Try.prog.built 41 [(0, .string ⟨#[122]⟩), (1, .int .i64 16), (2, .int .i64 (y : Int)), (5, .string ⟨#[113]⟩)] = some r0.toArray) := Lib.hid (by rw [← hr0, hBz]; unfold ngR; rw [HY.out])
            have HSet : Hid (r0.set 1 (.int .i64 6) = rl) := Lib.hid (by
              have h : r0.toArray.setIfInBounds 1 (.int .i64 6) = rl.toArray := by rw [← hr0, ← hrl, RV.setTy]; unfold ngR; rw [if_pos (by omega)]
              simpa using h)
            have HTt : Hid (soaT (ngL (l.take (k + 1))) = soaT (ngL (l.take k))) := Lib.hid (ngT_odd HX.out (by omega))
            have hbit := HBit.out
            rw [hpar] at hbit
            have hq1 : r0.toArray[1]? = some (.int .i64 16) := by rw [← hr0]; exact RV.c1 _
            have hq2 : rl.toArray[2]? = some (.int .i64 (y : Int)) := by rw [← hrl]; exact (RV.c2 _).trans (by show some (Value.int .i64 ((bN x 4095 : Nat) : Int)) = _; rw [← HY.out])
            have hl0 := heap_alloc_last wr (.cells r0.toArray 41)
            have d1 := (cell_of_row _ wr.heap.size 1 _ _ _ hl0).trans hq1
            have f1 := frozen_of_row _ wr.heap.size 1 _ _ hl0
            have hl1 := heap_alloc_last wr (.cells (r0.set 1 (.int .i64 6)).toArray 41)
            have d2 : (wr.alloc (.cells (r0.set 1 (.int .i64 6)).toArray 41)).cell? ⟨wr.heap.size, 2, none⟩ = some (.int .i64 (y : Int)) := (cell_of_row _ wr.heap.size 2 _ _ _ hl1).trans (by rw [HSet.out]; exact hq2)
            have HP5 : Hid (WaAt base w (wr.alloc (.cells rl.toArray 41)) gw C (ngL (l.take k)) v) := Lib.hid (HP.out.to ((Below.refl _ wr).alloc (Nat.le_refl _) _))
            have HG5 : Hid ((wr.alloc (.cells rl.toArray 41)).heap[wr.heap.size]? = some (.cells rl.toArray 41 (0, 0))) := Lib.hid (heap_alloc_last wr _)
            clear HP hrl hBz hpar hr0 hq1 hq2 hl0 hl1
            go_upto_region 15 with (first
              | (refine wpList_build_v rfl 41 #[(0, .const (.string ⟨#[122]⟩)), (1, .const (.int .i64 16)), (2, .tmp 30), (5, .const (.string ⟨#[113]⟩))] rfl _ r0.toArray HBr.out rfl ?_; go_simp)
              | (refine wpList_alloc_z rfl 41 rfl (RV.cells ⟨emp, 0, 0, zero16, emp, emp⟩) HZ.out ?_; go_simp)
              | (refine wpList_store_new rfl 41 (.tmp 9) (.tmp 31) rfl wr.heap.size rfl (RV.cells ⟨emp, 0, 0, zero16, emp, emp⟩) r0.toArray 41 rfl rfl HYS0.out HYZ0.out HYO0.out ?_; go_simp))
            rw [HSet.out]
            clear hbit d1 f1 d2
            generalize wr.alloc (.cells rl.toArray 41) = W5 at HP5 HG5 ⊢
            generalize wr.heap.size = g9 at HG5 ⊢
            have d8 := (cell_of_row _ gw 8 _ _ _ HP5.out.ws).trans (HC8.out v)
            have HW6 := Lib.hid (HP5.out.to ((Below.refl _ W5).alloc (Nat.le_refl _) (.cells rl.toArray 41)))
            have HRw : Hid (∀ j y, rl[j]? = some y → (W5.alloc (.cells rl.toArray 41)).cell? ⟨W5.heap.size, j, none⟩ = some y) := Lib.hid (fun j y hj => (cell_of_row _ _ j _ _ _ (heap_alloc_last W5 (.cells rl.toArray 41))).trans (by rw [List.getElem?_toArray]; exact hj))
            have HAp : Hid (∀ v1 w1, w1.ownsRow base 41 21 v1 (k + 1) (rcs0 ++ rl) → (W5.alloc (.cells rl.toArray 41)).grownBy w1 v.ownBlock → w1.heap[gw]? = some (.cells (C v) 32 (0, 0)) ∧ WaAt base w (w1.setCell ⟨gw, 8, none⟩ v1) gw C (ngL (l.take (k + 1))) v1) := Lib.hid (fun v1 w1 h1 h2 => by
              have h := HW6.out
              rw [HSn.out]
              refine h.app HCC.out (by rw [HLk.out, HRl.out, HR0.out]; exact h1) h2)
            have HO6 : Hid ((W5.alloc (.cells rl.toArray 41)).ownsRow base 41 21 v k rcs0) := Lib.hid (by have h := HW6.out.own; rw [HLk.out, HR0.out] at h; exact h)
            have HB6 := Lib.hid HW6.out.hb
            clear HP5 HW6
            go_wp2_with (first
              | (refine wpList_load_row rfl 41 (.tmp 9) rfl g9 rfl 41 rl.toArray (0, 0) _ HG5.out Try.underlying41 rfl HYS.out ?_; go_simp)
              | (refine wpList_buildSlice rfl 30 41 1 #[(0, .tmp 42)] rfl rl.toArray i0 _ Try.underlying30 HI.out HZ0.out (by rw [HZ1.out]; decide) (by rw [HZ1.out]; decide) (by rw [HZ1.out]; refine (congrArg _ (?_ : _ = [(0, Value.agg rl.toArray)])).trans (fill21c HCL.out); rw [Array.toList_map]; rfl) ?_; go_simp)
              | (at_builtin; refine wpList_append_own (w := W5.alloc (.cells rl.toArray 41)) rfl (.tmp 41) (.tmp 43) 30 rfl base 41 i0 _ 21 80 Try.underlying30 HI.out HZ0.out HZ1.out HZ2.out rfl (by decide) v k rcs0 rfl HO6.out ⟨W5.heap.size, 0, none⟩ 1 1 rl rfl (by rw [HCL.out]) (fun j u hj => by rw [Addr.add_lit, Nat.zero_add]; exact HRw.out j u hj) HC1.out (by unfold maxLen; omega) (by omega) HB6.out ?_; intro v1 w9 ho1 hg1 hnil; clear hnil; obtain ⟨A1, ca1, rfl⟩ := own_sl4 ho1; have hap := HAp.out _ w9 ho1 hg1; have d9 := (cell_of_row w9 gw 8 _ _ _ hap.1).trans (HC8.out v); have f9 := frozen_of_row w9 gw 8 _ _ hap.1; have HNX := Lib.hid hap.2; clear ho1 hg1 hap; go_simp))
            go_roundw
            case rel => exact ⟨k + 1, _, by omega, by first | rfl | go_num, by rw [HTt.out], HNX⟩
            case measure => simp [intOf]; omega
      · have hkI : ¬ (k : Int) < (l.length : Int) := by omega
        obtain rfl : k = l.length := by omega
        rw [List.take_length] at HP
        rw [List.take_length]
        obtain ⟨Av, cv, rfl⟩ := own_sl4 HP.out.own
        have HMm := Lib.hid HP.out.ws
        have HRs := Lib.hid (own_recs HP.out.own ngL_ad)
        have HBb := Lib.hid HP.out.below
        have HLl : Hid ((ngL l).length = l.length) := Lib.hid (ngL_len l)
        rw [HLl.out] at HMm
        have SM2 := Lib.hid (SM.out (.slice Av l.length cv))
        have HO9 := Lib.hid (HOf.out wr Av cv HRs.out)
        generalize hT : soaT (ngL l) = T at HO9 ⊢
        obtain ⟨o, ho⟩ : ∃ o : Int, o = if b = 1 then 2 else 5 := ⟨_, rfl⟩
        rw [← ho] at HO9
        have HO := Lib.hid ho
        clear HP HRs HOf ho hT HA
        go_upto_region 17 with fail
        go_wp2_with (first
          | (refine wpList_load_row rfl 32 (.tmp 5) rfl gw rfl 32 (C (.slice Av l.length cv)) (0, 0) _ HMm.out Try.underlying32 rfl SM2.out ?_; go_simp))
        refine HO9.out.mono ?_
        rintro e w2 ⟨A2, c2, rfl, hb2, _⟩
        have HB2 : Hid (Below w.heap.size w (w2.alloc (.cells (FC o (.slice A2 0 c2) ⟨#[]⟩ T) 35))) := Lib.hid ((HBb.out.trans (hb2.mono HBb.out.size)).alloc (Nat.le_trans HBb.out.size hb2.size) _)
        have hG2 := heap_alloc_last w2 (.cells (FC o (.slice A2 0 c2) ⟨#[]⟩ T) 35)
        have f0 := (cell_of_row _ w2.heap.size 0 _ _ _ hG2).trans (rfl : _ = some (Value.int .i64 o))
        have f1 := (cell_of_row _ w2.heap.size 1 _ _ _ hG2).trans (rfl : _ = some (Value.slice A2 0 c2))
        have f2 := (cell_of_row _ w2.heap.size 2 _ _ _ hG2).trans (rfl : _ = some (Value.string ⟨#[]⟩))
        have f3 := (cell_of_row _ w2.heap.size 3 _ _ _ hG2).trans (rfl : _ = some (Value.int .i64 T))
        clear hb2 hG2 HO9 HMm HBb
        rcases (show b = 0 ∨ b = 1 by omega) with rfl | rfl
        · obtain rfl : o = 5 := HO.out
          go_wp2_with (first
            | (refine wpList_alloc_z rfl 35 rfl (FC 0 (.slice none 0 0) ⟨#[]⟩ 0) HZF.out ?_; go_simp)
            | (refine wpList_store_new rfl 35 (.tmp 10) (.tmp 48) rfl w2.heap.size rfl (FC 0 (.slice none 0 0) ⟨#[]⟩ 0) (FC 5 (.slice A2 0 c2) ⟨#[]⟩ T) 35 rfl rfl (sizeF _ _ _ _) rfl (FC_one _ _ _ _ _ _) ?_; go_simp))
          go_ret
          exact ⟨rfl, HB2.out⟩
        · obtain rfl : o = 2 := HO.out
          go_wp2_with (first
            | (refine wpList_alloc_z rfl 35 rfl (FC 0 (.slice none 0 0) ⟨#[]⟩ 0) HZF.out ?_; go_simp)
            | (refine wpList_store_new rfl 35 (.tmp 10) (.tmp 48) rfl w2.heap.size rfl (FC 0 (.slice none 0 0) ⟨#[]⟩ 0) (FC 2 (.slice A2 0 c2) ⟨#[]⟩ T) 35 rfl rfl (sizeF _ _ _ _) rfl (FC_one _ _ _ _ _ _) ?_; go_simp))
          go_ret
          exact ⟨rfl, HB2.out⟩
  · have h20n : ¬ (l.length : Int) ≤ 20 := by omega
    have h20d : decide ((20 : Int) < (l.length : Int)) = true := by simp; omega
    go_enter Try.func7, Try.ntmps7
    go_wp2_with fail
    refine (HFit.out w).mono ?_
    rintro e w1 ⟨rfl, hbw1⟩
    have HB1 := Lib.hid hbw1
    clear hbw1
    go_wp2_with fail
    go_ret
    exact ⟨rfl, HB1.out⟩
end Go.Proofs.Ytgbijhinihchgaa
