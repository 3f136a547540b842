/-
  What Of answers, to be reckoned by the kernel; the walk of fit. No condition.
-/
import Derived.Test.YtgbijhinihchgaaChOf
import Derived.Test.YtgbijhinihchgaaChAddr
namespace Go.Proofs.Ytgbijhinihchgaa
open Go.RowKit

def kinD (l : List RV) (S : ByteArray) (ty : Int) : List RV := l.filter fun r => (r.nm.data.toList == S.data.toList) && (r.ty == ty)
theorem kinD_eq (l : List RV) (S : ByteArray) (ty : Int) : kin l S ty = kinD l S ty := by
  unfold kin kinD
  simp only [Lib.toList_data]
def chD (an : List RV) (qt : Int) : Nat → ByteArray → List RV → ByteArray × List RV × Option (List RV)
  | 0, nm, way => (nm, way, none)
  | n + 1, nm, way => if 0 < (kinD an nm qt).length then (nm, way, some (kinD an nm qt)) else match kinD an nm 5 with | [] => (nm, way, none) | r :: _ => chD an qt n r.tx (way ++ [r])
theorem chD_eq (an : List RV) (qt : Int) : ∀ (n : Nat) (nm : ByteArray) (way : List RV), chF an qt n nm way = chD an qt n nm way
  | 0, nm, way => rfl
  | n + 1, nm, way => by
    rw [chF, chD, kinD_eq, kinD_eq]
    split
    · rfl
    · cases kinD an nm 5 with
      | nil => rfl
      | cons r l => exact chD_eq an qt n _ _
def ofD (code : Int) (qn : ByteArray) (qt : Int) (an au : List RV) : Fd :=
  if code ≠ 0 ∧ code ≠ 3 then ⟨4, [], ⟨#[]⟩, 0⟩ else
    match chD an qt 8 qn [] with
    | (_, way, some l) => ⟨1, l, ⟨#[]⟩, lstI (way ++ l)⟩
    | (nm, way, none) => if (nm.data.toList == qn.data.toList) = false ∧ code = 0 then ⟨0, [], nm, lstI way⟩ else nothF code au
theorem ofD_eq (code : Int) (qn : ByteArray) (qt : Int) (an au : List RV) : ofF code qn qt an au = ofD code qn qt an au := by
  unfold ofF ofD
  rw [chD_eq]
  by_cases h : code ≠ 0 ∧ code ≠ 3
  · rw [if_pos h, if_pos h]
  · rw [if_neg h, if_neg h]
    rcases chD an qt 8 qn [] with ⟨nm, way, _ | l⟩
    · simp only [Lib.toList_data]
    · rfl
theorem fill42 {c1 c2 : List Value} (h1 : c1.length = 21) (h2 : c2.length = 21) : Instr.fill (fun i => some (i * 21, 21)) ((Array.range (2 * 21)).map ((Value.agg (RV.cells ⟨emp, 0, 0, zero16, emp, emp⟩)).cells[· % (Value.agg (RV.cells ⟨emp, 0, 0, zero16, emp, emp⟩)).cells.size]!)) [(0, .agg c1.toArray), (1, .agg c2.toArray)] = some (c1 ++ c2).toArray := by
  have := Great.fill_whole (s := 21) (by decide) [Value.agg c1.toArray, Value.agg c2.toArray] ((Array.range (2 * 21)).map ((Value.agg (RV.cells ⟨emp, 0, 0, zero16, emp, emp⟩)).cells[· % (Value.agg (RV.cells ⟨emp, 0, 0, zero16, emp, emp⟩)).cells.size]!)) (by simp [Value.cells, h1, h2]) (by simp)
  simpa [Value.cells] using this
def nmA : ByteArray := ⟨#[97]⟩
def nmB : ByteArray := ⟨#[98]⟩
def fR1 : RV := ⟨nmA, 5, 5, zero16, nmB, ⟨#[]⟩⟩
def fR2 : RV := ⟨nmB, 1, 9, pre4 ++ [1, 2, 3, 4], ⟨#[]⟩, ⟨#[]⟩⟩
theorem builtR1 : Try.prog.built 41 [(0, .string ⟨#[97]⟩), (1, .int .i64 5), (2, .int .i64 5), (4, .string ⟨#[98]⟩)] = some fR1.cells.toList.toArray := by kernel_rfl
theorem builtR2 : Try.prog.built 41 [(0, .string ⟨#[98]⟩), (1, .int .i64 1), (2, .int .i64 9), (3, .agg (bvs (pre4 ++ [1, 2, 3, 4])).toArray)] = some fR2.cells.toList.toArray := by kernel_rfl
theorem builtQA : Try.prog.built 29 [(0, .string ⟨#[97]⟩), (1, .int .i64 1)] = some #[.string ⟨#[97]⟩, .int .i64 1] := by kernel_rfl
def fM (A : Option Addr) (c : Nat) : MV := ⟨0, false, false, false, 0, nmA, 1, A, c, [fR1, fR2], none, 0, []⟩
theorem builtFM (A : Option Addr) (c : Nat) : Try.prog.built 32 [(5, .agg #[.string ⟨#[97]⟩, .int .i64 1]), (6, .slice A 2 c)] = some (fM A c).cells := by kernel_rfl
theorem fit_of : ofF 0 nmA 1 [fR1, fR2] [] = ⟨1, [fR2], ⟨#[]⟩, 5⟩ := by
  rw [ofD_eq]; rfl
theorem name0_e (w : World) : Calls Try.prog 17 #[.int .i64 0] w fun e w' => e = .returned (.string ⟨#[97]⟩) ∧ Below w.heap.size w w' := name4_e 0 0 (by omega) (by decide) w
set_option maxRecDepth 100000 in
set_option maxHeartbeats 4000000 in
theorem fit15_e (w : World) : Calls Try.prog 8 #[] w fun e w' => e = .returned (.bool true) ∧ Below w.heap.size w w' := by
  have HV : Hid (∀ W, Calls Try.prog 16 #[.int .u8 1, .int .u8 2, .int .u8 3, .int .u8 4] W fun e w' => e = .returned (.agg (bvs (pre4 ++ [1, 2, 3, 4])).toArray) ∧ Below W.heap.size W w') := Lib.hid (fun W => v4a_e 1 2 3 4 W)
  have HB1 := Lib.hid builtR1
  have HB2 := Lib.hid builtR2
  have HBm := Lib.hid builtFM
  have HBq := Lib.hid builtQA
  have hbm : ∀ r ∈ [fR1, fR2], r.ad.length = 16 := by
    intro r hr
    rcases List.mem_cons.1 hr with rfl | hr
    · rfl
    · rw [List.mem_singleton.1 hr]; rfl
  have L1 : Hid (fR1.cells.toList.length = 21) := Lib.hid rfl
  have L2 : Hid (fR2.cells.toList.length = 21) := Lib.hid rfl
  have O1 := RV.one fR1
  have O2 := RV.one fR2
  have HRs : Hid (∀ (W : World) (g : Nat), W.heap[g]? = some (.cells (fR1.cells.toList ++ fR2.cells.toList).toArray 41 (0, 0)) → RecsAt W (some ⟨g, 0, none⟩) [fR1, fR2]) := Lib.hid (fun W g h => recs_part (rs := [fR1, fR2]) (a := 0) (fun i u hu => (cell_of_row W g i _ _ _ h).trans (by
    rw [List.getElem?_toArray]
    have : rcs [fR1, fR2] = fR1.cells.toList ++ fR2.cells.toList := by unfold rcs; simp
    rw [← this]; exact hu)) (heap_lt h) hbm _ (fun i r hr => by rw [Nat.zero_add]; exact hr) rfl)
  have HOf : Hid (∀ (W : World) (A : Option Addr) (c : Nat), RecsAt W A [fR1, fR2] → Calls Try.prog 10 #[.agg (fM A c).cells] W (FdPost W ⟨1, [fR2], ⟨#[]⟩, 5⟩)) := Lib.hid (fun W A c hW => by
    have h := of_e (fM A c) hbm (fun r hr => by cases hr) (by show 2 ≤ 900; omega) (by show 0 ≤ 900; omega) W hW recsAt_none
    rw [show ofF (fM A c).code (fM A c).qn (fM A c).qt (fM A c).an (fM A c).au = ⟨1, [fR2], ⟨#[]⟩, 5⟩ from fit_of] at h
    exact h)
  have HTt : Hid (∀ W, Calls Try.prog 12 #[.slice none 0 0] W fun e w' => e = .returned (.int .i64 1048576) ∧ Below W.heap.size W w') := Lib.hid (fun W => ttl_rv (A := none) (c := 0) (rs := []) recsAt_none (fun r hr => by cases hr) (by show 0 ≤ 1000; omega))
  have HNa := Lib.hid name0_e
  have HZF := Lib.hid zeroF
  have ZM := Lib.hid zeroM
  have SM : Hid (∀ A c, (Try.prog.info? 32).map (·.size) = some (fM A c).cells.size) := Lib.hid (fun A c => sizeM)
  have ZMc : Hid (∀ A c, zMsg.size = (fM A c).cells.size) := Lib.hid (fun A c => rfl)
  have OM : Hid (∀ A c, (fM A c).cells.all (·.oneCell') = true) := Lib.hid (fun A c => MV.one _)
  obtain ⟨i0, hi, hz0, hz1, hz2⟩ := info_rec
  have HI := Lib.hid hi
  have HZ0 := Lib.hid hz0
  have HZ1 := Lib.hid hz1
  clear hi hz0 hz1 hz2 hbm O1 O2
  generalize fR1.cells.toList = c1 at HB1 L1 HRs
  generalize fR2.cells.toList = c2 at HB2 L2 HRs
  generalize (bvs (pre4 ++ [1, 2, 3, 4])).toArray = XV at HV HB2
  generalize hFM : (fun (A : Option Addr) (c : Nat) => (fM A c).cells) = FM at *
  have hFM2 : ∀ A c, (fM A c).cells = FM A c := fun A c => by rw [← hFM]
  simp only [hFM2] at HBm HOf SM ZMc OM
  clear hFM hFM2
  go_enter Try.func8, Try.ntmps8
  go_wp2_with (first
    | (refine wpList_build_v rfl 29 #[(0, .const (.string ⟨#[97]⟩)), (1, .const (.int .i64 1))] rfl _ _ HBq.out rfl ?_; go_simp)
    | (refine wpList_build_v rfl 41 #[(0, .const (.string ⟨#[97]⟩)), (1, .const (.int .i64 5)), (2, .const (.int .i64 5)), (4, .const (.string ⟨#[98]⟩))] rfl _ _ HB1.out rfl ?_; go_simp))
  refine (HV.out w).mono ?_
  rintro e w1 ⟨rfl, hb1⟩
  have HBx := Lib.hid (hb1.alloc hb1.size (.cells (c1 ++ c2).toArray 41))
  have HG2 := heap_alloc_last w1 (.cells (c1 ++ c2).toArray 41)
  obtain ⟨M, hM⟩ : ∃ M, M = FM (some ⟨w1.heap.size, 0, none⟩) 2 := ⟨_, rfl⟩
  have HBm2 := Lib.hid (HBm.out (some ⟨w1.heap.size, 0, none⟩) 2)
  have SM2 := Lib.hid (SM.out (some ⟨w1.heap.size, 0, none⟩) 2)
  have ZM2 := Lib.hid (ZMc.out (some ⟨w1.heap.size, 0, none⟩) 2)
  have OM2 := Lib.hid (OM.out (some ⟨w1.heap.size, 0, none⟩) 2)
  have hb3 : Below w.heap.size w ((w1.alloc (.cells (c1 ++ c2).toArray 41)).alloc (.cells M 32)) := HBx.out.alloc HBx.out.size _
  have HB3 := Lib.hid hb3
  have HOf3 : Hid (Calls Try.prog 10 #[.agg M] ((w1.alloc (.cells (c1 ++ c2).toArray 41)).alloc (.cells M 32)) (FdPost ((w1.alloc (.cells (c1 ++ c2).toArray 41)).alloc (.cells M 32)) ⟨1, [fR2], ⟨#[]⟩, 5⟩)) := Lib.hid (by
    rw [hM]
    refine HOf.out _ (some ⟨w1.heap.size, 0, none⟩) 2 (HRs.out _ _ ?_)
    exact (((Below.refl _ (w1.alloc (.cells (c1 ++ c2).toArray 41))).alloc (Nat.le_refl _) _).block _ (heap_lt HG2)).trans HG2)
  have HG3 : Hid (((w1.alloc (.cells (c1 ++ c2).toArray 41)).alloc (.cells M 32)).heap[w1.heap.size + 1]? = some (.cells M 32 (0, 0))) := Lib.hid (by
    have h := heap_alloc_last (w1.alloc (.cells (c1 ++ c2).toArray 41)) (.cells M 32)
    rw [World.size_alloc] at h
    exact h)
  rw [← hM] at HBm2 SM2 ZM2 OM2
  clear hb1 HOf HBm SM ZMc OM HG2 hM hb3 HRs HBx
  go_wp2_with (first
    | (refine wpList_build_v rfl 41 #[(0, .const (.string ⟨#[98]⟩)), (1, .const (.int .i64 1)), (2, .const (.int .i64 9)), (3, .tmp 5)] rfl _ _ HB2.out rfl ?_; go_simp)
    | (refine wpList_buildSlice rfl 30 41 2 #[(0, .tmp 4), (1, .tmp 6)] rfl (c1 ++ c2).toArray i0 _ Try.underlying30 HI.out HZ0.out (by rw [HZ1.out]; decide) (by rw [HZ1.out]; decide) (by rw [HZ1.out]; refine (congrArg _ (?_ : _ = [(0, Value.agg c1.toArray), (1, Value.agg c2.toArray)])).trans (fill42 L1.out L2.out); rw [Array.toList_map]; rfl) ?_; go_simp)
    | (refine wpList_build_v rfl 32 #[(5, .tmp 3), (6, .tmp 7)] rfl _ M HBm2.out rfl ?_; go_simp)
    | (refine wpList_alloc_z rfl 32 rfl zMsg ZM.out ?_; go_simp)
    | (refine wpList_store_new rfl 32 (.tmp 1) (.tmp 8) rfl (w1.heap.size + 1) (by simp only [World.size_alloc]) zMsg M 32 rfl rfl SM2.out ZM2.out OM2.out ?_; go_simp)
    | (refine wpList_load_row rfl 32 (.tmp 1) rfl (w1.heap.size + 1) rfl 32 M (0, 0) _ HG3.out Try.underlying32 rfl SM2.out ?_; go_simp))
  refine HOf3.out.mono ?_
  rintro e w4 ⟨A, c, rfl, hb4, hr4⟩
  have HB4 := Lib.hid (HB3.out.trans (hb4.mono HB3.out.size))
  have HB5 : Hid (Below w.heap.size w (w4.alloc (.cells (FC 1 (.slice A 1 c) ⟨#[]⟩ 5) 35))) := Lib.hid (HB4.out.alloc HB4.out.size _)
  have HG5 := heap_alloc_last w4 (.cells (FC 1 (.slice A 1 c) ⟨#[]⟩ 5) 35)
  have f0 := (cell_of_row _ w4.heap.size 0 _ _ _ HG5).trans (rfl : _ = some (Value.int .i64 1))
  have f1 := (cell_of_row _ w4.heap.size 1 _ _ _ HG5).trans (rfl : _ = some (Value.slice A 1 c))
  have f3 := (cell_of_row _ w4.heap.size 3 _ _ _ HG5).trans (rfl : _ = some (Value.int .i64 5))
  clear hb4 hr4 HOf3 HG3 HG5 HB3 HB4
  go_wp2_with (first
    | (refine wpList_alloc_z rfl 35 rfl (FC 0 (.slice none 0 0) ⟨#[]⟩ 0) HZF.out ?_; go_simp)
    | (refine wpList_store_new rfl 35 (.tmp 2) (.tmp 10) rfl w4.heap.size rfl (FC 0 (.slice none 0 0) ⟨#[]⟩ 0) (FC 1 (.slice A 1 c) ⟨#[]⟩ 5) 35 rfl rfl (sizeF _ _ _ _) rfl (FC_one _ _ _ _ _ _) ?_; go_simp))
  refine (HTt.out _).mono ?_
  rintro e w6 ⟨rfl, hb6⟩
  have HB6 := Lib.hid (HB5.out.trans (hb6.mono HB5.out.size))
  clear hb6 f0 f1 f3
  go_wp2_with fail
  refine (HNa.out _).mono ?_
  rintro e w7 ⟨rfl, hb7⟩
  have HB7 := Lib.hid (HB6.out.trans (hb7.mono HB6.out.size))
  clear hb7
  go_wp2_with fail
  go_ret
  exact ⟨rfl, HB7.out⟩
end Go.Proofs.Ytgbijhinihchgaa
