/-
  The walk of addr.Print: an address's text. Conditions: sixteen bytes; the library's variables hold what their initialisers lay.
-/
import Derived.Test.YtpnlgojbmjfhhaaGreatDoorAddrNum
import Derived.RegionTactic
import Derived.Laws.Concat
import Derived.Deep.RegionHeld3
namespace Go.Proofs.YtpnlgojbmjfhhaaGreatDoor
open Go.RowKit

theorem strs_jn {d : List UInt8} : (d.map fun c => tb (decN c.toNat)).map (·.data.toList) = d.map fun c => decN c.toNat := by rw [List.map_map]; rfl
theorem join_f (b n : Nat) (xs : List ByteArray) (w : World) (he : AEnv w) (h : StrsF w b xs) (hn : xs.length = n) (h0 : n ≤ 1000) (hl : (jn (xs.map (·.data.toList))).length ≤ 140737488355328) :
    Calls Tryz.prog 49 #[.slice (some ⟨b, 0, none⟩) n n] w fun e w' => e = .returned (.string (tb (jn (xs.map (·.data.toList))))) ∧ Below w.heap.size w w' := by
  subst hn
  exact (join_e b xs.length xs w he.env h.strs (Nat.le_refl _) (by omega) hl).mono fun _ _ ⟨h1, h2, _⟩ => ⟨h1, h2⟩
theorem elemU64 : Tryz.prog.elem 94 = 125 := by kernel_rfl
theorem sizeU64 (W : World) : (sizeOf 125).run Tryz.prog W = .ok 1 W := by kernel_rfl
theorem sl_to (g f : Nat) (hf : f ≤ 8) (W : World) : (Instr.sliceAt 94 (.slice (some ⟨g, 0, none⟩) 8 8) none (some (.int .i64 (f : Int))) none).run Tryz.prog W = .ok (.slice (some ⟨g, 0, none⟩) f 8) W := by
  have hf' : (f : Int) ≤ 8 := by omega
  rw [run_sliceAt_slice (P := Tryz.prog) (w := W) 94 _ none (some (.int .i64 (f : Int))) none (by rw [elemU64]; exact Tryz.underlying94)]
  go_simp
theorem sl_from (g t : Nat) (ht : t ≤ 8) (W : World) : (Instr.sliceAt 94 (.slice (some ⟨g, 0, none⟩) 8 8) (some (.int .i64 (t : Int))) none none).run Tryz.prog W = .ok (.slice (some ⟨g, if 8 = t then 0 else t, none⟩) (8 - t) (8 - t)) W := by
  have hf' : (t : Int) ≤ 8 := by omega
  rw [run_sliceAt_slice (P := Tryz.prog) (w := W) 94 _ (some (.int .i64 (t : Int))) none none (by rw [elemU64]; exact Tryz.underlying94)]
  go_simp
  split <;> rfl
/-- what stays between the two calls -/
def PrS (w : World) (g : Nat) (n : List Nat) (wr : World) : Prop := U64s wr g n ∧ Below w.heap.size w wr
theorem PrS.b {w wr : World} {g : Nat} {n : List Nat} (h : PrS w g n wr) : Below w.heap.size w wr := h.2
theorem PrS.drew {w wr : World} {g : Nat} {n : List Nat} (h : PrS w g n wr) : PrS w g n wr.drew := ⟨⟨h.1.lt, h.1.cells⟩, h.2.drew⟩
theorem PrS.below {w wr w2 : World} {g : Nat} {n : List Nat} (h : PrS w g n wr) (hb : Below wr.heap.size wr w2) : PrS w g n w2 := ⟨h.1.below hb, h.2.trans (hb.mono h.2.size)⟩
set_option maxRecDepth 100000 in
set_option maxHeartbeats 1000000 in
theorem print_e (a : List UInt8) (ha : a.length = 16) (w : World) (he : AEnv w) :
    Calls Tryz.prog 29 #[.agg (bvs a).toArray] w fun e w' => e = .returned (.string (tb (txt a))) ∧ Below w.heap.size w w' := by
  have hbx : Below w.heap.size w (w.alloc (.cells (bvs a).toArray 48)) := (Below.refl _ w).alloc (Nat.le_refl _) _
  have H4 := fun W => is4_e a ha W
  have HNum := fun W => numbers_e a ha W
  have hu := Tryz.underlying48
  have hsz : (Tryz.prog.info? 48).map (·.size) = some (bvs a).toArray.size := by rw [sizeAddr, List.size_toArray, bvs_length, ha]
  have hrow : ∀ wr : World, Below (w.alloc (.cells (bvs a).toArray 48)).heap.size (w.alloc (.cells (bvs a).toArray 48)) wr → wr.heap[w.heap.size]? = some (.cells (bvs a).toArray 48 (0, 0)) := fun wr hb => by
    rw [hb.block _ (by rw [World.size_alloc]; exact Nat.lt_succ_self _)]; exact heap_alloc_last w _
  have hsl : ∀ W : World, (Instr.sliceAt 48 (.pointer (some ⟨w.heap.size, 0, none⟩)) (some (.int .i64 12)) none none).run Tryz.prog W = .ok (.slice (some ⟨w.heap.size, 12, none⟩) 4 4) W := fun W => by kernel_rfl
  have h12 : ∀ wr : World, wr.heap[w.heap.size]? = some (.cells (bvs a).toArray 48 (0, 0)) → ∀ j, j < 4 → wr.cell? ⟨w.heap.size, 12 + j, none⟩ = some (.int .u8 ((a.drop 12).getD j 0).toNat) := fun wr hr j hj => by
    rw [cell_of_row wr _ _ _ _ _ hr, List.getElem?_toArray, bvs_at (by omega)]
    simp [List.getD]
  have hdl : (a.drop 12).length = 4 := by rw [List.length_drop, ha]
  have ht4 : isV4 a = true → txt a = jn ((a.drop 12).map fun c => decN c.toNat) := fun h => by unfold txt; rw [if_pos h]; rfl
  have ht6 : isV4 a = false → txt a = txt6 (grp a) := fun h => by unfold txt; rw [if_neg (by rw [h]; decide)]
  have h4l : (jn ((a.drop 12).map fun c => decN c.toNat)).length ≤ 15 := txt4_len ha
  have hgl := grp_length 8 a ha
  have hgv := grp_lt 8 a ha
  obtain ⟨d, hd⟩ : ∃ d, d = a.drop 12 := ⟨_, rfl⟩
  obtain ⟨n, hn⟩ : ∃ n, n = grp a := ⟨_, rfl⟩
  obtain ⟨cs, hcs⟩ : ∃ cs, cs = (bvs a).toArray := ⟨_, rfl⟩
  rw [← hd] at hdl h12 ht4 h4l
  rw [← hn] at ht6 hgl hgv
  rw [← hcs] at hbx hsz hrow h12 ⊢
  simp only [← hcs, ← hn] at H4 HNum
  have HX := Lib.hid hbx
  have H4' := Lib.hid H4
  have HNum' := Lib.hid HNum
  have HR := Lib.hid hrow
  have H12 := Lib.hid h12
  have HT4 := Lib.hid ht4
  have HT6 := Lib.hid ht6
  have HDL := Lib.hid hdl
  have H4L := Lib.hid h4l
  have HGL := Lib.hid hgl
  have HGV := Lib.hid hgv
  have HE := Lib.hid he
  have HSZ := Lib.hid hsz
  clear H4 HNum hrow h12 ht4 ht6 hdl h4l hgl hgv hbx he hsz hd hn hcs
  have HR0 := Lib.hid (HR.out _ (Below.refl _ _))
  go_enter Tryz.func29, Tryz.ntmps29
  go_wp2_with (first
    | (refine wpList_load_row rfl 48 (.tmp 1) rfl w.heap.size rfl 48 cs (0, 0) _ HR0.out hu rfl HSZ.out ?_; go_simp))
  refine (H4'.out _).mono ?_
  rintro e w1 ⟨rfl, hb1⟩
  have HR1 := Lib.hid (HR.out _ hb1)
  have HB1 := Lib.hid (HX.out.trans (hb1.mono HX.out.size))
  clear hb1
  cases h4 : isV4 a
  · have ht := HT6.out h4
    have HT := Lib.hid ht
    clear ht HT6 HT4
    go_wp2_with (first
      | (refine wpList_load_row rfl 48 (.tmp 1) rfl w.heap.size rfl 48 cs (0, 0) _ HR1.out hu rfl HSZ.out ?_; go_simp))
    refine (HNum'.out _).mono ?_
    rintro e w2 ⟨g, rfl, hb2, hg2⟩
    have HB2 := Lib.hid (HB1.out.trans (hb2.mono HB1.out.size))
    have hst := stretch_e g 8 n w2 (by rw [HGL.out]; decide) hg2
    rw [HGL.out] at hst
    have HG2 := Lib.hid hg2
    clear hb2 hg2
    go_wp2_with fail
    refine hst.mono ?_
    rintro e w3 ⟨rfl, hb3⟩
    have HB3 := Lib.hid (HB2.out.trans (hb3.mono HB2.out.size))
    have HG3 := Lib.hid (HG2.out.below hb3)
    clear hst hb3
    rcases st_cases n with ⟨hs, _⟩ | ⟨hs1, hs2, hs3⟩
    · have hx : txt6 n = jq (n.map hexN) := by unfold txt6; rw [hs]; rfl
      have hb16 := base16_e g 0 8 n w3 (HE.out.below HB3.out) HG3.out.lt (fun j hj => by rw [Nat.zero_add]; exact HG3.out.cells j hj) HGV.out (by rw [HGL.out]; decide)
      rw [HGL.out] at hb16
      have HXx := Lib.hid hx
      clear hx
      rw [hs]
      go_wp2_with fail
      refine hb16.mono ?_
      rintro e w4 ⟨rfl, hb4⟩
      go_wp2
      go_ret
      refine ⟨?_, HB3.out.trans (hb4.mono HB3.out.size)⟩
      rw [HT.out, HXx.out]; rfl
    · have hl8 := HGL.out
      obtain ⟨f, hf⟩ : ∃ f, (st n).1 = f := ⟨_, rfl⟩
      obtain ⟨t, htt⟩ : ∃ t, (st n).2 = t := ⟨_, rfl⟩
      have hx : txt6 n = jq ((n.take f).map hexN) ++ 58 :: 58 :: jq ((n.drop t).map hexN) := by unfold txt6; rw [if_neg (by omega), hf, htt]
      rw [hf, htt] at hs1 ⊢
      rw [htt, hl8] at hs2
      have hne : ¬ (f : Int) = (t : Int) := by omega
      have hsl1 := sl_to g f (by omega)
      have hsl2 := sl_from g t hs2
      have C1 : ∀ W, PrS w g n W → Calls Tryz.prog 53 #[.slice (some ⟨g, 0, none⟩) f 8] W fun e w' => e = .returned (.string (tb (jq ((n.take f).map hexN)))) ∧ PrS w g n w' := fun W hW => by
        have hlen : (n.take f).length = f := by rw [List.length_take]; omega
        have := base16_e g 0 8 (n.take f) W (HE.out.below hW.2) hW.1.lt (fun j hj => by
          rw [Nat.zero_add, hW.1.cells j (by omega)]
          simp only [List.getD, List.getElem?_take_of_lt (show j < f by omega)]) (fun v hv => HGV.out v (List.mem_of_mem_take hv)) (by omega)
        rw [hlen] at this
        exact this.mono fun _ _ ⟨h1, h2⟩ => ⟨h1, hW.below h2⟩
      have C2 : ∀ W, PrS w g n W → Calls Tryz.prog 53 #[.slice (some ⟨g, if 8 = t then 0 else t, none⟩) (8 - t) (8 - t)] W fun e w' => e = .returned (.string (tb (jq ((n.drop t).map hexN)))) ∧ PrS w g n w' := fun W hW => by
        have hlen : (n.drop t).length = 8 - t := by rw [List.length_drop]; omega
        have := base16_e g (if 8 = t then 0 else t) (8 - t) (n.drop t) W (HE.out.below hW.2) hW.1.lt (fun j hj => by
          rw [if_neg (by omega), hW.1.cells (t + j) (by omega)]
          simp only [List.getD, List.getElem?_drop]) (fun v hv => HGV.out v (List.mem_of_mem_drop hv)) (by omega)
        rw [hlen] at this
        exact this.mono fun _ _ ⟨h1, h2⟩ => ⟨h1, hW.below h2⟩
      generalize (if 8 = t then 0 else t) = o at hsl2 C2
      have h0 : PrS w g n w3 := ⟨HG3.out, HB3.out⟩
      have HXx := Lib.hid hx
      have HC1 := Lib.hid C1
      have HC2 := Lib.hid C2
      clear hx hs3 C1 C2 hf htt
      obtain ⟨x1, hx1⟩ : ∃ x, x = tb (jq ((n.take f).map hexN)) := ⟨_, rfl⟩
      obtain ⟨x2, hx2⟩ : ∃ x, x = tb (jq ((n.drop t).map hexN)) := ⟨_, rfl⟩
      rw [← hx1] at HC1
      rw [← hx2] at HC2
      have l1 : x1.size ≤ 40 := by
        have := jq_len' (gs := n.take f) (fun v hv => HGV.out v (List.mem_of_mem_take hv))
        rw [hx1, Lib.size_eq, tb_data]; rw [List.length_take] at this; omega
      have l2 : x2.size ≤ 40 := by
        have := jq_len' (gs := n.drop t) (fun v hv => HGV.out v (List.mem_of_mem_drop hv))
        rw [hx2, Lib.size_eq, tb_data]; rw [List.length_drop] at this; omega
      have hA1 := fun W => run_string_add_sum (P := Tryz.prog) (w := W) x1 ⟨#[58, 58]⟩ (by rw [show (ByteArray.mk #[58, 58]).size = 2 from rfl]; omega)
      have hA2 := fun W => run_string_add_sum (P := Tryz.prog) (w := W) (x1 ++ ⟨#[58, 58]⟩) x2 (by rw [ByteArray.size_append, show (ByteArray.mk #[58, 58]).size = 2 from rfl]; omega)
      have hfin : x1 ++ ⟨#[58, 58]⟩ ++ x2 = tb (txt6 n) := by
        apply bytes_inj
        rw [tb_data, HXx.out, hx1, hx2]
        simp [tb, ByteArray.data_append]
      have HF := Lib.hid hfin
      clear hx1 hx2 l1 l2 hfin
      generalize x1 ++ ⟨#[58, 58]⟩ = y at hA1 hA2 HF
      generalize y ++ x2 = z at hA2 HF
      go_wp2_with fail
      go_region_held3 (fun w' => PrS w g n w')
        (first
          | with_reducible exact h0
          | with_reducible exact hp4
          | with_reducible exact hp5
          | with_reducible exact h0.drew
          | with_reducible exact hp4.drew
          | with_reducible exact hp5.drew)
        (first
          | (go_at_call 53; with_reducible refine (HC1.out _ (by first | with_reducible exact h0 | with_reducible exact h0.drew | with_reducible exact hp5 | with_reducible exact hp5.drew)).mono ?_; rintro e' w4 ⟨rfl, hp4⟩)
          | (go_at_call 53; with_reducible refine (HC2.out _ (by first | with_reducible exact h0 | with_reducible exact h0.drew | with_reducible exact hp4 | with_reducible exact hp4.drew)).mono ?_; rintro e' w5 ⟨rfl, hp5⟩))
      all_goals go_wp2
      all_goals go_ret
      all_goals refine ⟨?_, by first | with_reducible exact hp5.b | with_reducible exact hp4.b⟩
      all_goals rw [HT.out, ← HF.out]; rfl
  · have ht := HT4.out h4
    have HT := Lib.hid ht
    clear ht HT6 HT4
    have hdec := decs_e w.heap.size 12 4 d w1 (HE.out.below HB1.out) (heap_lt HR1.out) (fun j hj => H12.out _ HR1.out j (by rw [← HDL.out]; exact hj)) (by rw [HDL.out]; decide)
    rw [HDL.out] at hdec
    go_wp2_with fail
    refine hdec.mono ?_
    rintro e w2 ⟨rfl, hb2, hs2⟩
    have HB2 := Lib.hid (HB1.out.trans (hb2.mono HB1.out.size))
    have hj := join_f w1.heap.size 4 _ w2 (HE.out.below HB2.out) hs2 (by rw [List.length_map]; exact HDL.out) (by decide) (by rw [strs_jn]; have := H4L.out; omega)
    rw [strs_jn] at hj
    clear hdec hb2 hs2
    go_wp2_with fail
    refine hj.mono ?_
    rintro e w3 ⟨rfl, hb3⟩
    go_wp2
    go_ret
    refine ⟨?_, HB2.out.trans (hb3.mono HB2.out.size)⟩
    rw [HT.out]; rfl
end Go.Proofs.YtpnlgojbmjfhhaaGreatDoor
