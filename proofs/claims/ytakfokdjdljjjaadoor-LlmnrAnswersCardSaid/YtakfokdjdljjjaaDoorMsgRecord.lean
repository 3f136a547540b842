/-
  The walk of a writer's method record. Conditions: the record may be one, and what is written is not too long.
-/
import Derived.Test.YtakfokdjdljjjaaDoorMsgData
import Derived.RegionTactic
namespace Go.Proofs.YtakfokdjdljjjaaDoor
open Go.RowKit Go.Maps

structure ROk (r : RV) : Prop where
  d : DOk r
  nm : gosB r.nm = true
  ttl : 0 ≤ r.ttl
theorem dataR_len {r : RV} (h : DOk r) (pos : Nat) (st : St) : (dataR pos st r).1.length ≤ 256 := by
  unfold dataR
  split
  · simp only [List.length_drop, h.ad]; omega
  · split
    · simp only [h.ad]; omega
    · split
      · rename_i h3
        exact encN_len' (gos_len (h.nm h3)) pos st
      · rename_i h1 h2 h3
        have := h.da h1 h2 h3
        rw [Lib.size_eq] at this
        simp only; omega
theorem encQ_len {s : ByteArray} (h : gosB s = true) (pos : Nat) (st : St) (ty : Nat) : (encQ pos st s.data.toList ty).1.length ≤ 260 := by
  have := encN_len' (gos_len h) pos st
  unfold encQ
  simp only [List.length_append, be2, List.length_cons, List.length_nil]
  omega
/-- a record's bytes, as they come -/
def recR (pos : Nat) (st : St) (r : RV) : List UInt8 × St :=
  ((encQ pos st r.nm.data.toList r.ty.toNat).1 ++ (be2 (r.ttl.toNat / 65536) ++ be2 r.ttl.toNat ++ [0, UInt8.ofNat (dataR (pos + (encQ pos st r.nm.data.toList r.ty.toNat).1.length + 6) (encQ pos st r.nm.data.toList r.ty.toNat).2 r).1.length] ++ (dataR (pos + (encQ pos st r.nm.data.toList r.ty.toNat).1.length + 6) (encQ pos st r.nm.data.toList r.ty.toNat).2 r).1),
    (dataR (pos + (encQ pos st r.nm.data.toList r.ty.toNat).1.length + 6) (encQ pos st r.nm.data.toList r.ty.toNat).2 r).2)
theorem recR_enc {r : RV} (h : 0 ≤ r.ty) (pos : Nat) (st : St) : recR pos st r = encR pos st r.rec_ := by
  unfold recR encR posD
  simp only [dataR_enc h]
  rfl
/-- one byte of a writer's bytes is written anew -/
theorem WIs.patch {base g mb n i gb cap : Nat} {w : World} {b : List UInt8} {st : St} {D : DataW Unit} {c : UInt8} (h : WIs base w g b st (.slice (some ⟨gb, 0, none⟩) b.length cap) mb n D) (hi : i < b.length) :
    WIs base (w.setCell ⟨gb, i, none⟩ (.int .u8 c.toNat)) g (b.set i c) st (.slice (some ⟨gb, 0, none⟩) b.length cap) mb n D ∧ Below base w (w.setCell ⟨gb, i, none⟩ (.int .u8 c.toNat)) ∧ Keeps w (w.setCell ⟨gb, i, none⟩ (.int .u8 c.toNat)) ∧
    w.cell? ⟨gb, i, none⟩ = some (.int .u8 (b.getD i 0).toNat) ∧ w.frozen? ⟨gb, i, none⟩ = false := by
  have hs := h.row.stored i (.int .u8 c.toNat)
  have hlt := h.row.lt gb rfl
  have hne : gb ≠ g := fun e => own_ne h.row h.blk (by decide) (by rw [← e]; rfl)
  have hcell := h.row.cellAt i (by omega)
  rw [bvs_at hi] at hcell
  have e : bvs (b.set i c) = (bvs b).set i (.int .u8 c.toNat) := by unfold bvs; rw [List.map_set]
  refine ⟨⟨(Below.heap_setCell w ⟨gb, i, none⟩ _ g (fun e => hne e.symm)).trans h.blk, by rw [List.length_set, e]; exact hs.1, h.map.kept hs.2 (fun e => own_map_ne h.row h.map (by rw [e]; rfl)), h.hmb, by rw [List.length_set]; exact h.hn, h.is, h.hg, by simp; exact h.hb, by rw [List.length_set]; exact h.len⟩,
    (Below.refl _ w).setCell hlt.1 _, fun k cs t fr h1 _ hk => ?_, hcell, h.row.frozenAt i⟩
  rw [Below.heap_setCell w ⟨gb, i, none⟩ _ k (fun e => by
    simp only at e
    subst e
    exact own_ne h.row hk (fun e' => h1 e'.symm) rfl)]
  exact hk
theorem patch_list (a d : List UInt8) (c : UInt8) : (a ++ [0, 0] ++ d).set (a.length + 1) c = a ++ [0, c] ++ d := by
  rw [List.append_assoc, List.set_append_right _ _ (by omega), show a.length + 1 - a.length = 1 by omega, List.append_assoc]
  rfl
set_option maxRecDepth 100000 in
set_option maxHeartbeats 4000000 in
theorem record_any (base g : Nat) (b : List UInt8) (st : St) (r : RV) (w : World) (hr : ROk r) (he : Env w) (hB : 0 < base) (h : WAt base w g b st) (hb0 : 0 < b.length) (hl : b.length + 60000 ≤ 100000000) :
    Calls Tryd.prog 19 #[.pointer (some ⟨g, 0, none⟩), .agg r.cells] w fun e w' => WPost base w g (b ++ (recR b.length st r).1) (recR b.length st r).2 e w' := by
  have hbs := h.size
  have hqb := encQ_len hr.nm b.length st r.ty.toNat
  obtain ⟨q, st1, hq⟩ : ∃ q st1, encQ b.length st r.nm.data.toList r.ty.toNat = (q, st1) := ⟨_, _, rfl⟩
  rw [hq] at hqb
  simp only at hqb
  obtain ⟨d, st2, hd⟩ : ∃ d st2, dataR (b.length + q.length + 6) st1 r = (d, st2) := ⟨_, _, rfl⟩
  have hdl := dataR_len hr.d (b.length + q.length + 6) st1
  rw [hd] at hdl
  simp only at hdl
  have HR : Hid (recR b.length st r = (q ++ (be2 (r.ttl.toNat / 65536) ++ be2 r.ttl.toNat ++ [0, UInt8.ofNat d.length] ++ d), st2)) := Lib.hid (by unfold recR; rw [hq]; simp only [hd])
  have C := question_any base g b st r.nm r.ty (w.alloc (.cells r.cells 45)) (he.below ((Below.refl _ w).alloc (Nat.le_refl _) _)) hB (h.alloc _) hb0 hr.nm hr.d.ty (by omega)
  rw [hq] at C
  have CD := fun (W : World) (B : List UInt8) (hE : Env W) (hW : WAt base W g B st1) (h0 : 0 < B.length) (hL : B.length + 30000 ≤ 100000000) => data_any hr.d hE hB hW h0 hL
  have H0 := Lib.hid r.c0
  have H1 := Lib.hid r.c1
  have H2 := Lib.hid r.c2
  have HZ := Lib.hid (sizeRv hr.d.ad)
  have httl := hr.ttl
  have HCD := Lib.hid CD
  have HDd := Lib.hid hd
  have HE := Lib.hid he
  clear hq hd CD h hr he
  revert H0 H1 H2 HZ C HCD
  generalize r.cells = cs
  intro C H0 H1 H2 HZ HCD
  obtain ⟨ttl, htt⟩ : ∃ ttl, r.ttl = ttl := ⟨_, rfl⟩
  obtain ⟨ty, hty⟩ : ∃ ty, r.ty = ty := ⟨_, rfl⟩
  obtain ⟨nm, hnm⟩ : ∃ nm, r.nm = nm := ⟨_, rfl⟩
  rw [htt] at H2 HR httl
  rw [hty] at H1 C
  rw [hnm] at H0 C
  clear htt hty hnm
  have c0 := H0.out
  have c1 := H1.out
  go_enter Tryd.func19, Tryd.ntmps19
  go_wp2_with fail
  refine C.mono ?_
  rintro e w1 ⟨rfl, hw1, hb1, hk1⟩
  clear C c0 c1
  have hblk1 := hk1 w.heap.size _ _ _ (by decide) (by decide) (heap_alloc_last w (.cells cs 45))
  have c2 := (cell_of_row w1 w.heap.size 2 _ _ _ hblk1).trans H2.out
  have HW1 := Lib.hid hw1
  have HB1 := Lib.hid (((Below.refl base w).alloc hbs _).trans hb1)
  have HK1 := Lib.hid (((Keeps.refl w).alloc _).trans hk1)
  have HG1 := Lib.hid hblk1
  clear hw1 hb1 hk1 hblk1
  have hbl1 : (b ++ q).length ≤ b.length + 260 := by rw [List.length_append]; omega
  have hbq : (b ++ q).length = b.length + q.length := List.length_append
  obtain ⟨b1, hb1e⟩ : ∃ b1, b ++ q = b1 := ⟨_, rfl⟩
  rw [hb1e] at HW1 hbl1 hbq
  have HE1 := Lib.hid hb1e
  clear hb1e
  go_wp2_with fail
  refine (two_any base g b1 st1 (ttl / 65536) w1 HW1.out (by omega) (by omega)).mono ?_
  rintro e w2 ⟨rfl, hw2, hb2, hk2⟩
  have hblk2 := hk2 w.heap.size _ _ _ (by decide) (by decide) HG1.out
  have d2 := (cell_of_row w2 w.heap.size 2 _ _ _ hblk2).trans H2.out
  have HW2 := Lib.hid hw2
  have HB2 := Lib.hid (HB1.out.trans hb2)
  have HK2 := Lib.hid (HK1.out.trans hk2)
  have HG2 := Lib.hid hblk2
  clear hw2 hb2 hk2 hblk2 c2
  have hl2 : (b1 ++ be2 (ttl / 65536).toNat).length = b1.length + 2 := by rw [List.length_append]; rfl
  obtain ⟨b2, hb2e⟩ : ∃ b2, b1 ++ be2 (ttl / 65536).toNat = b2 := ⟨_, rfl⟩
  rw [hb2e] at HW2 hl2
  have HE2 := Lib.hid hb2e
  have hl2' : b2.length ≤ b.length + 270 := by omega
  clear hb2e
  go_wp2_with fail
  refine (two_any base g b2 st1 ttl w2 HW2.out (by omega) (by omega)).mono ?_
  rintro e w3 ⟨rfl, hw3, hb3, hk3⟩
  have hblk3 := hk3 w.heap.size _ _ _ (by decide) (by decide) HG2.out
  have HW3 := Lib.hid hw3
  have HB3 := Lib.hid (HB2.out.trans hb3)
  have HK3 := Lib.hid (HK2.out.trans hk3)
  have HG3 := Lib.hid hblk3
  clear hw3 hb3 hk3 hblk3 d2
  have hl3 : (b2 ++ be2 ttl.toNat).length = b2.length + 2 := by rw [List.length_append]; rfl
  obtain ⟨b3, hb3e⟩ : ∃ b3, b2 ++ be2 ttl.toNat = b3 := ⟨_, rfl⟩
  rw [hb3e] at HW3 hl3
  have HE3 := Lib.hid hb3e
  have hl3' : b3.length ≤ b.length + 280 := by omega
  clear hb3e
  go_wp2_with fail
  refine (two_any base g b3 st1 0 w3 HW3.out (by omega) (by omega)).mono ?_
  rintro e w4 ⟨rfl, hw4, hb4, hk4⟩
  have hblk4 := hk4 w.heap.size _ _ _ (by decide) (by decide) HG3.out
  have hB4 := HB3.out.trans hb4
  have HB4 := Lib.hid hB4
  have HK4 := Lib.hid (HK3.out.trans hk4)
  have HG4 := Lib.hid hblk4
  have hl4 : (b3 ++ be2 (0 : Int).toNat).length = b3.length + 2 := by rw [List.length_append]; rfl
  obtain ⟨b4, hb4e⟩ : ∃ b4, b3 ++ be2 (0 : Int).toNat = b4 := ⟨_, rfl⟩
  rw [hb4e] at hw4 hl4
  have HE4 := Lib.hid hb4e
  have HW4 := Lib.hid hw4
  have hl4' : b4.length ≤ b.length + 290 := by omega
  have hl4q : b4.length = b.length + q.length + 6 := by omega
  have HL4 := Lib.hid hl4q
  obtain ⟨v4, mb4, nn4, D4, hI4, hn4⟩ := hw4
  obtain ⟨gb4, cap4, rfl⟩ : ∃ gb cap, v4 = .slice (some ⟨gb, 0, none⟩) b4.length cap := by
    rcases hI4.row.2 with ⟨_, h0⟩ | ⟨gb, cap, _, hv, _⟩
    · omega
    · exact ⟨gb, cap, hv⟩
  have e0 : w4.cell? ⟨g, 0, none⟩ = some (.slice (some ⟨gb4, 0, none⟩) b4.length cap4) := cell_of_row w4 g 0 _ _ _ hI4.blk
  have hEw4 : Env w4 := HE.out.base hB4 hB
  have hl4p : 0 < b4.length := by omega
  clear hb4 hk4 hblk4 hb4e hI4 hn4 hl4q hl4 hl3 hl2 hbq hB4
  have hCD := HCD.out w4 b4 hEw4 HW4.out hl4p (by omega)
  rw [show dataR b4.length st1 r = (d, st2) by rw [HL4.out]; exact HDd.out] at hCD
  clear hEw4
  go_wp2_with (first
    | (refine wpList_load_row rfl 45 (.tmp 3) rfl w.heap.size rfl 45 cs (0, 0) _ HG4.out Tryd.underlying45 rfl HZ.out ?_; go_simp))
  refine hCD.mono ?_
  rintro e w5 ⟨rfl, hw5, hb5, hk5⟩
  clear hCD e0
  have hl5 : (b4 ++ d).length = b4.length + d.length := List.length_append
  obtain ⟨b5, hb5e⟩ : ∃ b5, b4 ++ d = b5 := ⟨_, rfl⟩
  rw [hb5e] at hw5 hl5
  have HE5 := Lib.hid hb5e
  obtain ⟨v5, mb5, nn5, D5, hI5, hn5⟩ := hw5
  obtain ⟨gb5, cap5, rfl⟩ : ∃ gb cap, v5 = .slice (some ⟨gb, 0, none⟩) b5.length cap := by
    rcases hI5.row.2 with ⟨_, h0⟩ | ⟨gb, cap, _, hv, _⟩
    · omega
    · exact ⟨gb, cap, hv⟩
  have e0 : w5.cell? ⟨g, 0, none⟩ = some (.slice (some ⟨gb5, 0, none⟩) b5.length cap5) := cell_of_row w5 g 0 _ _ _ hI5.blk
  obtain ⟨p1, p2, p3, p4, p5⟩ := hI5.drew.patch (i := b4.length - 1) (c := UInt8.ofNat d.length) (by omega)
  have HP := Lib.hid (And.intro p1 (And.intro ((HB4.out.trans hb5).drew.trans p2) ((HK4.out.trans hk5).drew.trans p3)))
  have hU : ((UInt8.ofNat d.length).toNat : Int) = ((b5.length : Int) - (b4.length : Int)) % 256 := by
    rw [UInt8.toNat_ofNat']; omega
  have HU := Lib.hid hU
  have HN5 := Lib.hid hn5
  have HL5 := Lib.hid hl5
  have hle45 : b4.length ≤ b5.length := by omega
  have hlt45 : b4.length - 1 < b5.length := by omega
  have hb5b : b5.length ≤ 100000000 := by omega
  have w1' : IntKind.i64.wrap ((b4.length : Int) - 1) = (b4.length : Int) - 1 := IntWalk.i64_in _ (by omega)
  have w2' : IntKind.i64.wrap ((b5.length : Int) - (b4.length : Int)) = (b5.length : Int) - (b4.length : Int) := IntWalk.i64_in _ (by omega)
  have w3' : ((b4.length : Int) - 1).toNat = b4.length - 1 := by omega
  have w4' : (0 : Int) ≤ (b4.length : Int) - 1 := by omega
  have w5' : (1 : Int) ≤ (b4.length : Int) := by omega
  have w6' : (b4.length : Int) - 1 < (b5.length : Int) := by omega
  clear hb5e p1 p2 p3 hb5 hk5 hI5 hn5 hU hl5
  go_wp2_with fail
  go_still_tail 15, (by kernel_rfl)
  go_wp2_with fail
  go_end0
  have hP := HP.out
  rw [HU.out] at hP
  have hfin : b5.set (b4.length - 1) (UInt8.ofNat d.length) = b ++ (q ++ (be2 (ttl.toNat / 65536) ++ be2 ttl.toNat ++ [0, UInt8.ofNat d.length] ++ d)) := by
    rw [← HE5.out, ← HE4.out, ← HE3.out, ← HE2.out, ← HE1.out]
    have e1 : be2 (0 : Int).toNat = [0, 0] := rfl
    have e2 : (ttl / 65536).toNat = ttl.toNat / 65536 := by omega
    have e3 : (b ++ q ++ be2 (ttl / 65536).toNat ++ be2 ttl.toNat ++ be2 (0 : Int).toNat).length - 1 = (b ++ q ++ be2 (ttl / 65536).toNat ++ be2 ttl.toNat).length + 1 := by rw [List.length_append (bs := be2 _), e1]; rfl
    rw [e3, e1, patch_list, e2]
    simp only [List.append_assoc]
  rw [HR.out]
  simp only
  rw [← hfin]
  have h5 := HN5.out
  exact ⟨rfl, ⟨_, mb5, nn5, D5, hP.1, by rw [List.length_set]; exact h5⟩, hP.2.1, hP.2.2⟩
end Go.Proofs.YtakfokdjdljjjaaDoor
