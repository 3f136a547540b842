/-
  The walk of light: are seeds few and short? Condition: the seeds lie in memory.
-/
import Derived.Test.YtmijoidogjablaaDoorMsgSeed
namespace Go.Proofs.YtmijoidogjablaaDoor
open Go.RowKit

def lightB (l : List SV) : Bool := decide (l.length ≤ 60) && l.all fun s => decide (s.da.size ≤ 400)
def zeroS : SV := ⟨0, 0, 0, zero16, emp⟩
theorem zeroSeed : (Tryd.prog.info? 34).map (·.zero) = some (some (.agg zeroS.cells)) := by kernel_rfl
theorem sizeSeed : (Tryd.prog.info? 34).map (·.size) = some 20 := by kernel_rfl
theorem SV.c19 {s : SV} (h : s.ad.length = 16) : s.cells[19]? = some (.string s.da) := by
  unfold SV.cells
  rw [List.getElem?_toArray]
  simp only [List.getElem?_cons_succ]
  rw [List.getElem?_append_right (by rw [bvs_length, h]; omega), bvs_length, h]
  rfl
set_option maxRecDepth 100000 in
set_option maxHeartbeats 4000000 in
theorem light_e (A : Option Addr) (c : Nat) (l : List SV) (w : World) (h : SeedsAt w A l) (hf : ∀ s ∈ l, s.Fits) (hl : l.length ≤ 140737488351232) :
    Calls Tryd.prog 12 #[.slice A l.length c] w fun e w' => e = .returned (.bool (lightB l)) ∧ Below w.heap.size w w' := by
  have HSe := Lib.hid h
  have HF := Lib.hid hf
  have ZS := Lib.hid zeroSeed
  have OS : Hid (∀ s : SV, s.cells.all (·.oneCell') = true) := Lib.hid SV.one
  clear h hf
  go_enter Tryd.func12, Tryd.ntmps12
  by_cases h60 : (60 : Int) < (l.length : Int)
  · go_wp2_with fail
    go_ret
    refine ⟨?_, Below.refl _ _⟩
    unfold lightB
    rw [decide_eq_false (by omega)]
    rfl
  · go_wp2_with fail
    go_loopw [10] (fun i wr => ∃ k : Nat, k ≤ l.length ∧ i = .int .i64 k ∧ Hid (Below w.heap.size w wr) ∧ Hid ((l.take k).all (fun s => decide (s.da.size ≤ 400)) = true)) (fun i _ => l.length - (intOf i).toNat)
    case atStart => exact ⟨0, by omega, rfl, Lib.hid (Below.refl _ w), Lib.hid rfl⟩
    case round =>
      obtain ⟨k, hk, rfl, HB, HA⟩ := hrel
      by_cases hlt : k < l.length
      · have hkI : (k : Int) < (l.length : Int) := by omega
        obtain ⟨b, o, rfl, hbl, hc⟩ := (HSe.out.below HB.out) (by omega)
        obtain ⟨s, hs⟩ : ∃ s, l[k]? = some s := ⟨_, List.getElem?_eq_getElem hlt⟩
        have hfit := HF.out s (List.mem_of_getElem? hs)
        have HC := Lib.hid (hc k s hs)
        have hz20 : s.cells.size = 20 := SV.size hfit.ad
        have Z : Hid ((Tryd.prog.info? 34).map (·.size) = some s.cells.size) := Lib.hid (by rw [hz20]; exact sizeSeed)
        have ZZ : Hid (zeroS.cells.size = s.cells.size) := Lib.hid (by rw [hz20]; exact SV.size rfl)
        have O1 : Hid (s.cells.all (·.oneCell') = true) := Lib.hid (SV.one s)
        have HT : Hid ((l.take (k + 1)).all (fun s => decide (s.da.size ≤ 400)) = decide (s.da.size ≤ 400)) := Lib.hid (by
          rw [List.take_add_one, hs, List.all_append, HA.out]; simp)
        have HL : Hid (¬ s.da.size ≤ 400 → l.all (fun s => decide (s.da.size ≤ 400)) = false) := Lib.hid (fun e => by
          rw [List.all_eq_false]; exact ⟨s, List.mem_of_getElem? hs, by simpa using e⟩)
        have d : (wr.alloc (.cells s.cells 34)).cell? ⟨wr.heap.size, 19, none⟩ = some (.string s.da) := (cell_of_row _ wr.heap.size 19 _ _ _ (heap_alloc_last wr _)).trans (SV.c19 hfit.ad)
        have HB2 : Hid (Below w.heap.size w (wr.alloc (.cells s.cells 34))) := Lib.hid (HB.out.alloc HB.out.size _)
        clear hc hs hz20 hfit hbl
        revert HC Z ZZ O1 d HB2 HT HL
        generalize s.cells = cs
        generalize s.da = D
        generalize zeroS.cells = zs at ZS ⊢
        intro HC Z ZZ O1 HT HL d HB2
        by_cases h4 : (400 : Int) < (D.size : Int)
        · go_wp2_with (first
            | (refine wpList_load_agg rfl 34 (.tmp 12) rfl ⟨b, o + k * 20, none⟩ rfl cs _ HC.out Tryd.underlying34 rfl Z.out ?_; go_simp)
            | (refine wpList_alloc_z rfl 34 rfl zs ZS.out ?_; go_simp)
            | (refine wpList_store_new rfl 34 (.tmp 4) (.tmp 13) rfl wr.heap.size rfl zs cs 34 rfl rfl Z.out ZZ.out O1.out ?_; go_simp))
          go_ret
          refine ⟨?_, HB2.out⟩
          unfold lightB
          rw [HL.out (by omega)]
          simp
        · go_wp2_with (first
            | (refine wpList_load_agg rfl 34 (.tmp 12) rfl ⟨b, o + k * 20, none⟩ rfl cs _ HC.out Tryd.underlying34 rfl Z.out ?_; go_simp)
            | (refine wpList_alloc_z rfl 34 rfl zs ZS.out ?_; go_simp)
            | (refine wpList_store_new rfl 34 (.tmp 4) (.tmp 13) rfl wr.heap.size rfl zs cs 34 rfl rfl Z.out ZZ.out O1.out ?_; go_simp))
          go_roundw
          case rel => exact ⟨k + 1, by omega, by go_num, HB2, Lib.hid (HT.out.trans (decide_eq_true (by omega)))⟩
          case measure => simp [intOf]; omega
      · obtain rfl : k = l.length := by omega
        go_wp2_with fail
        go_ret
        refine ⟨?_, HB.out⟩
        have h1 := HA.out
        rw [List.take_length] at h1
        unfold lightB
        rw [h1, decide_eq_true (by omega)]
        rfl
end Go.Proofs.YtmijoidogjablaaDoor
