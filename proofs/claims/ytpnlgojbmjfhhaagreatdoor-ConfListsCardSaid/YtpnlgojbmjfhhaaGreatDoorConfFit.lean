/-
  Parse at a text of which it is known what it tells; errors.As into a variable of the call's own; the walk of the laws' first call: the example holds. Condition: the library's variables hold what their initialisers lay.
-/
import Derived.Test.YtpnlgojbmjfhhaaGreatDoorConfRd
import Derived.Test.YtpnlgojbmjfhhaaGreatDoorConfIs
namespace Go.Proofs.YtpnlgojbmjfhhaaGreatDoor
open Go.RowKit

/-- what Parse answers where it is known what the text tells -/
def PaAt (w : World) (f k : Nat) (d : ConfM) (e : Ending) (w' : World) : Prop :=
  Below w.heap.size w w' ∧ ∃ val, CV w' val d ∧
    ((k = 0 ∧ e = .returned (.tuple #[val, .nilIface])) ∨ (k ≠ 0 ∧ ∃ p, e = .returned (.tuple #[val, .iface 35 (.pointer (some ⟨p, 0, none⟩))]) ∧ FaultAt w' p f k))
theorem cparse_at (s : ByteArray) (f k : Nat) (d : ConfM) (h : PcR 1 ConfM.dflt ((nl s.data.toList).map wordsL) f k d) (w : World) (he : AEnv w) (hs : s.size ≤ 1099511627) :
    Calls Tryz.prog 10 #[.string s] w (PaAt w f k d) :=
  (cparse_e s w he hs).mono fun e w' ⟨hb, f', k', d', val, hp, hv, hr⟩ => by
    obtain ⟨rfl, rfl, rfl⟩ := hp.det h
    exact ⟨hb, val, hv, hr⟩
/-- behind errors.As: the variable holds this, all else is as it was -/
def AsP (w : World) (b : Nat) (v : Value) (e : Ending) (w' : World) : Prop := e = .returned (.bool true) ∧ w.grownBy w' (some b) ∧ w'.cell? ⟨b, 0, none⟩ = some v
theorem asP_of {w w1 : World} {b : Nat} {v old : Value} (hb : Below w.heap.size w w1) (ho : w.cell? ⟨b, 0, none⟩ = some old) : w.grownBy (w1.setCell ⟨b, 0, none⟩ v) (some b) ∧ (w1.setCell ⟨b, 0, none⟩ v).cell? ⟨b, 0, none⟩ = some v := by
  have hc : w1.cell? ⟨b, 0, none⟩ = some old := (hb.cell (p := ⟨b, 0, none⟩) (cell_lt ho)).trans ho
  exact ⟨grown_put (grown_below ⟨rfl, rfl, rfl, Nat.le_refl _, fun _ _ _ => rfl⟩ hb) _ _, World.cell?_setCell_same w1 _ v hc⟩
theorem asF_e (p : Addr) (b : Nat) (old : Value) (w : World) (hg : ETy w) (ho : w.cell? ⟨b, 0, none⟩ = some old) (hf : w.frozen? ⟨b, 0, none⟩ = false) :
    Calls Tryz.prog 14 #[.iface 35 (.pointer (some p)), .iface 38 (.pointer (some ⟨b, 0, none⟩))] w (AsP w b (.pointer (some p))) :=
  (as_fault p ⟨b, 0, none⟩ old w hg ho hf).mono fun e w' ⟨h1, w1, hb, h2⟩ => by subst h2; exact ⟨h1, asP_of hb ho⟩
theorem asE1_e (p : Nat) (n : Int) (b : Nat) (old : Value) (w : World) (hg : ETy w) (ho : w.cell? ⟨b, 0, none⟩ = some old) (hf : w.frozen? ⟨b, 0, none⟩ = false) (c0 : w.cell? ⟨p, 1, none⟩ = some (.iface 36 (.int .i64 n))) :
    Calls Tryz.prog 14 #[.iface 35 (.pointer (some ⟨p, 0, none⟩)), .iface 39 (.pointer (some ⟨b, 0, none⟩))] w (AsP w b (.int .i64 n)) :=
  (as_err1 p n ⟨b, 0, none⟩ old w hg ho hf c0).mono fun e w' ⟨h1, w1, hb, h2⟩ => by subst h2; exact ⟨h1, asP_of hb ho⟩
theorem asE2_e (p q : Nat) (n : Int) (b : Nat) (old : Value) (w : World) (hg : ETy w) (ho : w.cell? ⟨b, 0, none⟩ = some old) (hf : w.frozen? ⟨b, 0, none⟩ = false) (c0 : w.cell? ⟨p, 1, none⟩ = some (.iface 35 (.pointer (some ⟨q, 0, none⟩)))) (c1 : w.cell? ⟨q, 1, none⟩ = some (.iface 36 (.int .i64 n))) :
    Calls Tryz.prog 14 #[.iface 35 (.pointer (some ⟨p, 0, none⟩)), .iface 39 (.pointer (some ⟨b, 0, none⟩))] w (AsP w b (.int .i64 n)) :=
  (as_err2 p q n ⟨b, 0, none⟩ old w hg ho hf c0 c1).mono fun e w' ⟨h1, w1, hb, h2⟩ => by subst h2; exact ⟨h1, asP_of hb ho⟩
/-- what lies in other blocks -/
theorem grown_cell {w w' : World} {b k o : Nat} {v : Value} (hg : w.grownBy w' (some b)) (hc : w.cell? ⟨k, o, none⟩ = some v) (hne : k ≠ b) : w'.cell? ⟨k, o, none⟩ = some v :=
  (World.cell?_of_block (a := ⟨k, o, none⟩) (hg.block k (cell_lt hc) (fun e => hne (by injection e)))).trans hc

def ab2 : List UInt8 := [97, 46, 46, 98]
theorem lab_a : Lab [97] 0 [97] := by
  have := Lab.plain (x := [97]) (by intro c hc; rw [List.mem_singleton.1 hc]; decide) ⟨by decide, by decide, (by intro c hc; rw [show low [97] = [97] by decide +kernel] at hc; rw [List.mem_singleton.1 hc]; unfold stN; decide), by decide +kernel, by decide +kernel⟩ (by decide +kernel)
  rwa [show low [97] = [97] by decide +kernel] at this
theorem ta_ab : TA ab2 1 [] := by
  refine .err (by decide) 1 (by decide) ?_
  rw [show sp (cutP ab2) = [[97], [], [98]] by decide +kernel]
  refine .later (ys := []) lab_a (.err (y := []) (.bad (by intro c hc; cases hc) (fun h => absurd h.pos (by decide +kernel))) (by decide)) (by decide)
theorem ex_pc : PcR 1 ConfM.dflt ((nl [35, 32, 120, 10, 115, 101, 97, 114, 99, 104, 32, 97, 46, 46, 98]).map wordsL) 2 1 ConfM.zero := by
  rw [show (nl [35, 32, 120, 10, 115, 101, 97, 114, 99, 104, 32, 97, 46, 46, 98]).map wordsL = [[], [wSe, ab2]] by decide +kernel]
  exact .line (LnR.blank _) (.fault (ln_sea_bad (.bad ta_ab (by decide)) (by decide)) (by decide))
set_option maxRecDepth 100000 in
set_option maxHeartbeats 8000000 in
theorem fit7_e (w : World) (he : AEnv w) (ht : ETy w) : Calls Tryz.prog 9 #[] w fun e w' => e = .returned (.bool true) ∧ Below w.heap.size w w' := by
  have hp := cparse_at ⟨#[35, 32, 120, 10, 115, 101, 97, 114, 99, 104, 32, 97, 46, 46, 98]⟩ 2 1 ConfM.zero ex_pc w he (by decide)
  have HE := Lib.hid he
  have HT := Lib.hid ht
  have HZ := Lib.hid zeroConf
  have HSZ : Hid ((Tryz.prog.info? 26).map (·.size) = some zConf.size) := Lib.hid sizeConf
  have H1Z : Hid (zConf.all (·.oneCell') = true) := Lib.hid (cfV_one _ _ _ _ _ _ _)
  have HZe : Hid (∀ W val, CV W val ConfM.zero → ∃ r : Array Value, val = .agg r ∧ (zConf.size = r.size) ∧ (Tryz.prog.info? 26).map (·.size) = some r.size ∧ r.all (·.oneCell') = true) := Lib.hid (fun W val h => by
    obtain ⟨v, x, e, ⟨A, c1, rfl, _⟩, ⟨A', rfl, _⟩, _⟩ := h
    exact ⟨_, e, rfl, sizeConf, cfV_one _ _ _ _ _ _ _⟩)
  generalize zConf = Z at HZ HSZ H1Z HZe
  have hv4 := fun W => v4_e 1 2 3 4 W
  have h44 := fun W => is4_e (four12 ++ [1, 2, 3, 4]) rfl W
  rw [show isV4 (four12 ++ [1, 2, 3, 4]) = true by decide +kernel] at h44
  obtain ⟨r4, hr4⟩ : ∃ r, r = (bvs (four12 ++ [1, 2, 3, 4])).toArray := ⟨_, rfl⟩
  simp only [← hr4] at hv4 h44
  have hwd := fun W hW => words_e ⟨#[97, 32, 98]⟩ W hW (by decide)
  have hd := fun W => dots6_any ⟨#[97, 46, 98]⟩ W
  rw [show (ByteArray.mk #[97, 46, 98]).data.toList.count 46 = 1 by decide] at hd
  have HV4 := Lib.hid hv4
  have H44 := Lib.hid h44
  have HWD := Lib.hid hwd
  have HD := Lib.hid hd
  have HW2 : Hid (wordsL (ByteArray.mk #[97, 32, 98]).data.toList = [[97], [98]]) := Lib.hid (by decide +kernel)
  clear he ht hv4 h44 hwd hd hr4
  go_enter Tryz.func9, Tryz.ntmps9
  go_wp2_with fail
  refine hp.mono ?_
  rintro e w1 ⟨hb1, val, hcv, ⟨h0, _⟩ | ⟨_, p, rfl, hf⟩⟩
  · cases h0
  obtain ⟨r, rfl, hzr, hsr, h1r⟩ := HZe.out _ _ hcv
  have HSR := Lib.hid hsr
  have HZR := Lib.hid hzr
  have H1R := Lib.hid h1r
  have hb2 : Below w1.heap.size w1 (w1.alloc (.cells r 26)) := (Below.refl _ w1).alloc (Nat.le_refl _) _
  have hb3 : Below w1.heap.size w1 ((w1.alloc (.cells r 26)).alloc (.cells #[.pointer none] 35)) := hb2.alloc (by rw [World.size_alloc]; omega) _
  have HB3 := Lib.hid (hb1.trans (hb3.mono hb1.size))
  have HF3 := Lib.hid (hf.below hb3)
  have HT3 := Lib.hid (HT.out.below HB3.out)
  have HE3 := Lib.hid (HE.out.below HB3.out)
  have HPl : Hid (p < w1.heap.size) := Lib.hid hf.1
  have hc3 : ((w1.alloc (.cells r 26)).alloc (.cells #[.pointer none] 35)).cell? ⟨w1.heap.size + 1, 0, none⟩ = some (.pointer none) := by
    rw [World.cell?_alloc_at _ _ _ _ (by simp)]; rfl
  have hf3 : ((w1.alloc (.cells r 26)).alloc (.cells #[.pointer none] 35)).frozen? ⟨w1.heap.size + 1, 0, none⟩ = false := by
    have := World.frozen?_alloc_mark (w1.alloc (.cells r 26)) #[.pointer none] 35 0
    rw [World.size_alloc] at this
    rw [this]; rfl
  have has := asF_e ⟨p, 0, none⟩ (w1.heap.size + 1) (.pointer none) _ HT3.out hc3 hf3
  clear hp hcv hf hzr hsr h1r hb2 hb3 hc3 hf3
  generalize hw3 : (w1.alloc (.cells r 26)).alloc (.cells #[.pointer none] 35) = w3 at HB3 HF3 HT3 HE3 has
  go_wp2_with (first
    | (refine wpList_alloc_z rfl 26 rfl Z HZ.out ?_; go_simp)
    | (refine wpList_store_new rfl 26 (.tmp 1) (.tmp 6) rfl w1.heap.size rfl Z r 26 rfl rfl HSR.out HZR.out H1R.out ?_; go_simp)
    | (go_at_call 14; refine has.mono ?_; rintro e w4 ⟨rfl, hg4, c4⟩;
       have HG4 := Lib.hid hg4;
       have hp0 := grown_cell hg4 HF3.out.2.1 (by have := HPl.out; omega);
       have hp1 := grown_cell hg4 HF3.out.2.2 (by have := HPl.out; omega);
       have HI := Lib.hid (is_yes1 p 1 1 w4 hp1 rfl);
       have HB4 := Lib.hid (HB3.out.trans (Below.of_grown hg4 (by have := hb1.size; omega) HB3.out.size));
       have HE4 := Lib.hid (HE.out.below HB4.out);
       clear hg4 has)
    | (go_at_call 15; refine HI.out.mono ?_; rintro e w5 ⟨rfl, hw5⟩; obtain rfl := hw5)
    | (go_at_call 20; refine (HV4.out _).mono ?_; rintro e w6 ⟨rfl, hb6⟩; have HB6 := Lib.hid (HB4.out.trans (hb6.mono HB4.out.size)); clear hb6)
    | (go_at_call 22; refine (H44.out _).mono ?_; rintro e w7 ⟨rfl, hb7⟩; have HB7 := Lib.hid (HB6.out.trans (hb7.mono HB6.out.size)); clear hb7)
    | (go_at_call 23; refine (HWD.out _ (HE.out.below HB7.out)).mono ?_; rintro e w8 ⟨b8, xs, hxs, rfl, _, hb8⟩;
       have hx2 : xs.length = 2 := (by have := congrArg List.length (hxs.trans HW2.out); rwa [List.length_map] at this);
       rw [hx2]; have HB8 := Lib.hid (HB7.out.trans (hb8.mono HB7.out.size)); clear hb8 hxs hx2)
    | (go_at_call 24; refine (HD.out _).mono ?_; rintro e w9 ⟨rfl, hw9⟩; obtain rfl := hw9))
  go_ret
  exact ⟨rfl, HB8.out⟩
end Go.Proofs.YtpnlgojbmjfhhaaGreatDoor
