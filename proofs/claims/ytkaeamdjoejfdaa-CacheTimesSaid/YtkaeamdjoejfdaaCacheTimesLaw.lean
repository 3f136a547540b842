/-
  The walk of CacheTimes: what counts longer than it may counts as long as it may; what counts not at all is not put. Condition: none.
-/
import Derived.Test.YtkaeamdjoejfdaaCacheLib
namespace Go.Proofs.Ytkaeamdjoejfdaa
open Go.RowKit Go.Lib

theorem filter_here {now : Nat} {p : PE} (h : now < p.frm + p.ttl) : [p].filter (cntP now) = [p] := List.filter_eq_self.2 (fun a ha => by rw [List.mem_singleton.1 ha]; exact decide_eq_true h)
theorem filter_gone {now : Nat} {p : PE} (h : p.frm + p.ttl ≤ now) : [p].filter (cntP now) = [] := List.filter_eq_nil_iff.2 (fun a ha => by rw [List.mem_singleton.1 ha]; unfold cntP; simp; omega)
set_option maxRecDepth 100000 in
set_option maxHeartbeats 2000000 in
theorem cacheTimes_walk (t0 n0 : Int) (w : World) : Calls Try.prog 7 #[.int .i64 t0, .int .i64 n0] w fun e w' => e = .returned (.bool true) ∧ Below w.heap.size w w' := by
  obtain ⟨m, hm, hmB⟩ := and_n n0 16777215 (by omega)
  have hmB : bits BinOp.and IntKind.i64 n0 16777215 = (m : Int) := hmB
  have HFit := Lib.hid (fit9_e w)
  have HNew := Lib.hid (fun W => new_m 2 W)
  rw [show (min (max (2 : Int) 0) 16).toNat = 2 from rfl] at HNew
  by_cases hgt : (1099511627776 : Int) < t0
  · go_enter Try.func7, Try.ntmps7
    go_wp2_with fail
    refine HFit.out.mono ?_
    rintro e w1 ⟨rfl, hb1⟩
    have HB1 := Lib.hid hb1
    clear hb1
    go_wp2_with fail
    go_ret
    exact ⟨rfl, HB1.out⟩
  go_enter Try.func7, Try.ntmps7
  go_wp2_with fail
  refine HFit.out.mono ?_
  rintro e w1 ⟨rfl, hb1⟩
  have HB1 := Lib.hid hb1
  clear hb1
  go_wp2_with fail
  refine (HNew.out w1).mono ?_
  rintro e w2 ⟨C, hC, rfl, hc2, hb2⟩
  obtain ⟨base, hbase⟩ : ∃ base, base = w1.heap.size := ⟨_, rfl⟩
  rw [← hbase] at hc2
  have HBA : Hid (w.heap.size ≤ base) := Lib.hid (by rw [hbase]; exact HB1.out.size)
  have hba : Below w2.heap.size w2 (w2.alloc (.cells #[.string ⟨#[97]⟩, .int .i64 1] 32)) := (Below.refl _ w2).alloc (Nat.le_refl _) _
  have HQ3 := Lib.hid (heap_alloc_last w2 (.cells #[.string ⟨#[97]⟩, .int .i64 1] 32))
  have HC3 := Lib.hid (hc2.below hba)
  have HB3 := Lib.hid ((HB1.out.trans (hb2.mono HB1.out.size)).trans (hba.mono (Nat.le_trans HB1.out.size hb2.size)))
  clear hb2 hc2 hC HFit HNew hba hbase HB1
  go_wp2_with fail
  generalize w2.alloc (.cells #[.string ⟨#[97]⟩, .int .i64 1] 32) = w3 at *
  generalize w2.heap.size = g at *
  by_cases h1 : t0 < 1
  · refine (skip_m HC3.out (m : Int) ⟨#[97]⟩ 1 5 (.slice none 0 0) t0 (.inr h1)).mono ?_
    rintro e w4 ⟨rfl, hb4⟩
    have HB4 := Lib.hid (HB3.out.trans (hb4.mono HB3.out.size))
    have HC4 := Lib.hid (HC3.out.below hb4)
    clear hb4
    go_wp2_with (first
      | (go_at_call 15; refine (len_m HC4.out).mono ?_; rintro e w8 ⟨rfl, rfl⟩; go_simp))
    go_ret
    exact ⟨rfl, HB4.out⟩
  · obtain ⟨T, hT⟩ : ∃ T : Nat, min t0 1048576 = (T : Int) := ⟨(min t0 1048576).toNat, by omega⟩
    have hT1 : 1 ≤ T := by omega
    have hTb : T ≤ 1048576 := by omega
    obtain ⟨N2, hN2⟩ : ∃ N2 : Nat, (m : Int) + (T : Int) = (N2 : Int) := ⟨m + T, by omega⟩
    obtain ⟨N1, hN1⟩ : ∃ N1 : Nat, (N2 : Int) - 1 = (N1 : Int) := ⟨N2 - 1, by omega⟩
    have hP := put_m HC3.out m (by unfold big; omega) ⟨#[97]⟩ 1 5 (l := .slice none 0 0) (rs := []) (RecsIn.nil _) (fun r hr => by cases hr) (by decide) t0 T hT (by omega) (by decide)
    have HO1 := Lib.hid (getO_here (now := N1) (qn := ⟨#[97]⟩) (qt := 1) (out := 5) (rs := []) (frm := m) (T := T) (by omega))
    have HO2 := Lib.hid (getO_gone (now := N2) (qn := ⟨#[97]⟩) (qt := 1) (out := 5) (rs := []) (frm := m) (T := T) (by omega))
    have HF1 : Hid (_ = _) := Lib.hid (filter_here (now := N1) (p := ⟨⟨#[97]⟩, 1, 5, [], m, T⟩) (by show N1 < m + T; omega))
    have HF2 : Hid (_ = _) := Lib.hid (filter_gone (now := N2) (p := ⟨⟨#[97]⟩, 1, 5, [], m, T⟩) (by show m + T ≤ N2; omega))
    have HN2 : Hid (N2 ≤ big) := Lib.hid (by unfold big; omega)
    have HN1 : Hid (N1 ≤ big) := Lib.hid (by unfold big; omega)
    have HMN : Hid (m ≤ N2) := Lib.hid (by omega)
    have HMN1 : Hid (m ≤ N1) := Lib.hid (by omega)
    have HPE := Lib.hid (fun ps' => put_empty (size := 2) (now := m) (p := ⟨⟨#[97]⟩, 1, 5, [], m, T⟩) (ps' := ps') (by decide))
    have hcase : (t0 = (T : Int) ∧ (T : Int) ≤ 1048576 ∧ (1 : Int) ≤ (T : Int) ∧ (m : Int) + (T : Int) = (N2 : Int)) ∨ (1048576 < t0 ∧ (m : Int) + 1048576 = (N2 : Int)) := by omega
    clear hT hN2 hT1 hTb
    rcases hcase with ⟨rfl, hTb, hT1, hN2⟩ | ⟨hbig, hN2⟩
    all_goals
      refine hP.mono ?_
      rintro e w4 ⟨ps', rfl, hc4, hr4, hs4⟩
      obtain rfl := HPE.out _ hr4
      have HB4 := Lib.hid (HB3.out.trans (hs4.below.mono HBA.out))
      have HQ4 := Lib.hid (hs4.keep g _ HQ3.out (other_cells (by decide) (by decide)))
      have q0 := cell_of_row w4 g 0 _ _ _ HQ4.out
      have q1 := cell_of_row w4 g 1 _ _ _ HQ4.out
      simp only [List.getElem?_toArray, List.getElem?_cons_succ, List.getElem?_cons_zero] at q0 q1
      have HC4 := Lib.hid hc4
      have hG := get_m hc4 N1 HN1.out ⟨#[97]⟩ 1 (fun p hp => by rw [List.mem_singleton.1 hp]; exact HMN1.out)
      clear hr4 hs4 hc4 hP
      go_wp2_with fail
      refine hG.mono ?_
      rintro e w5 hgm
      obtain ⟨lv, rfl, ho, hok, hb5⟩ := hgm.some HO1.out
      obtain ⟨Al, cl, rfl⟩ := own_sl ho
      have HB5 := Lib.hid (HB4.out.trans (hb5.mono HB4.out.size))
      have HC5 := Lib.hid (HC4.out.below hb5)
      have HQ5 := Lib.hid ((hb5.block g (heap_lt HQ4.out)).trans HQ4.out)
      have p0 := cell_of_row w5 g 0 _ _ _ HQ5.out
      have p1 := cell_of_row w5 g 1 _ _ _ HQ5.out
      simp only [List.getElem?_toArray, List.getElem?_cons_succ, List.getElem?_cons_zero] at p0 p1
      have hG2 := get_m HC5.out N2 HN2.out ⟨#[97]⟩ 1 (fun p hp => by rw [List.mem_singleton.1 hp]; exact HMN.out)
      clear hG hgm ho hok hb5 q0 q1
      go_wp2_with fail
      refine hG2.mono ?_
      rintro e w6 hgm
      obtain ⟨rfl, hb6⟩ := hgm.none HO2.out
      have HB6 := Lib.hid (HB5.out.trans (hb6.mono HB5.out.size))
      have HC6 := Lib.hid (HC5.out.below hb6)
      have hE := expire_m HC6.out N1 HN1.out
      rw [HF1.out] at hE
      clear hG2 hgm hb6 p0 p1
      go_wp2_with fail
      refine hE.mono ?_
      rintro e w7 ⟨rfl, hc7, hs7⟩
      have HB7 := Lib.hid (HB6.out.trans (hs7.below.mono HBA.out))
      have HC7 := Lib.hid hc7
      have hE2 := expire_m hc7 N2 HN2.out
      rw [HF2.out] at hE2
      clear hE hc7 hs7
      go_wp2_with (first
        | (go_at_call 15; refine (len_m HC7.out).mono ?_; rintro e w8 ⟨rfl, rfl⟩; go_simp))
      refine hE2.mono ?_
      rintro e w8 ⟨rfl, hc8, hs8⟩
      have HB8 := Lib.hid (HB7.out.trans (hs8.below.mono HBA.out))
      have HC8 := Lib.hid hc8
      clear hE2 hc8 hs8
      go_wp2_with (first
        | (go_at_call 15; refine (len_m HC8.out).mono ?_; rintro e w9 ⟨rfl, rfl⟩; go_simp))
      go_ret
      exact ⟨rfl, HB8.out⟩
end Go.Proofs.Ytkaeamdjoejfdaa
