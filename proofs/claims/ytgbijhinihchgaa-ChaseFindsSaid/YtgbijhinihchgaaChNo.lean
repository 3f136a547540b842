/-
  The walks of slices.IndexFunc at the records' SOA and of chase.nothing. Conditions: at most 1000 records, that lie in memory.
-/
import Derived.Test.YtgbijhinihchgaaChCat
namespace Go.Proofs.Ytgbijhinihchgaa
open Go.RowKit

set_option maxRecDepth 100000 in
theorem soa_e (r : RV) (h : r.ad.length = 16) (w : World) :
    Calls Try.prog 23 #[.agg r.cells] w fun e w' => e = .returned (.bool (soaB r)) ∧ Below w.heap.size w w' := by
  have Z := Lib.hid (sizeRv h)
  have d1 : (w.alloc (.cells r.cells 41)).cell? ⟨w.heap.size, 1, none⟩ = some (.int .i64 r.ty) := (cell_of_row _ w.heap.size 1 _ _ _ (heap_alloc_last w _)).trans r.c1
  unfold soaB
  generalize r.ty = ty at d1 ⊢
  generalize r.cells = cs at Z d1 ⊢
  go_enter Try.func23, Try.ntmps23
  go_wp2_with fail
  go_ret
  exact ⟨rfl, (Below.refl _ w).alloc (Nat.le_refl _) _⟩
/-- the TTL of the first SOA; 0 without one -/
def soaT (l : List RV) : Int := match l.find? soaB with | some r => r.ttl | none => 0
theorem soaT_none {l : List RV} (h : l.find? soaB = none) : soaT l = 0 := by unfold soaT; rw [h]
theorem soaT_at {l : List RV} {k : Nat} {r : RV} (h : (l.take k).find? soaB = none) (hk : l[k]? = some r) (hr : soaB r = true) : soaT l = r.ttl := by
  have e : l = l.take k ++ (r :: l.drop (k + 1)) := by
    conv => lhs; rw [← List.take_append_drop k l]
    congr 1
    rw [List.drop_eq_getElem_cons (List.getElem?_eq_some_iff.1 hk).1, (List.getElem?_eq_some_iff.1 hk).2]
  unfold soaT
  rw [e, List.find?_append, h, List.find?_cons, hr]; rfl
def IxPost (rs : List RV) (w : World) (e : Ending) (w' : World) : Prop :=
  Below w.heap.size w w' ∧ ((e = .returned (.int .i64 (-1)) ∧ soaT rs = 0) ∨ ∃ k r, e = .returned (.int .i64 (k : Nat)) ∧ rs[k]? = some r ∧ soaT rs = r.ttl)
set_option maxRecDepth 100000 in
set_option maxHeartbeats 2000000 in
theorem indexFunc_soa (A : Option Addr) (c : Nat) (rs : List RV) (had : ∀ r ∈ rs, r.ad.length = 16) (hl : rs.length ≤ 1000) (w : World) (h : RecsAt w A rs) :
    Calls Try.prog 22 #[.slice A rs.length c, .func (.func 23) #[] #[]] w (IxPost rs w) := by
  have HF := Lib.hid had
  have HR := Lib.hid h
  have hlI : (rs.length : Int) ≤ 1000 := by omega
  clear had h
  go_enter Try.func22, Try.ntmps22
  go_wp2_with fail
  go_loopw [8, 5] (fun i _ wr => ∃ k : Nat, k ≤ rs.length ∧ i = .int .i64 k ∧ Hid (Below w.heap.size w wr) ∧ Hid ((rs.take k).find? soaB = none)) (fun i _ _ => rs.length - (intOf i).toNat)
  case atStart => exact ⟨0, Nat.zero_le _, rfl, Lib.hid (Below.refl _ _), Lib.hid rfl⟩
  case round =>
    obtain ⟨k, hk, rfl, HB, HA⟩ := hrel
    by_cases hlt : k < rs.length
    · have hkI : (k : Int) < (rs.length : Int) := by omega
      obtain ⟨b, o, rfl, hbl, hc⟩ := (HR.out.below HB.out) (by omega)
      obtain ⟨r, hr⟩ : ∃ r, rs[k]? = some r := ⟨_, List.getElem?_eq_getElem hlt⟩
      have hfit := HF.out r (List.mem_of_getElem? hr)
      have HC := Lib.hid (hc k r hr)
      have Z := Lib.hid (sizeRv hfit)
      have C := soa_e r hfit wr
      have HT : Hid (soaB r = false → (rs.take (k + 1)).find? soaB = none) := Lib.hid (fun e => by
        rw [List.take_add_one, hr, List.find?_append, HA.out]; simp [e])
      have HL : Hid (soaB r = true → rs[k]? = some r ∧ soaT rs = r.ttl) := Lib.hid (fun e => ⟨hr, soaT_at HA.out hr e⟩)
      clear hc hr hfit hbl
      generalize soaB r = bb at C HT HL
      generalize r.cells = cs at HC Z C
      cases bb with
      | false =>
        go_wp2_with (first
          | (refine wpList_load_agg rfl 41 (.tmp 14) rfl ⟨b, o + k * 21, none⟩ rfl cs _ HC.out Try.underlying41 rfl Z.out ?_; go_simp))
        refine C.mono ?_; rintro e w2 ⟨rfl, hb2⟩
        have HB2 := Lib.hid (HB.out.trans (hb2.mono HB.out.size))
        clear hb2 C
        go_wp2_with fail
        go_roundw
        case rel => exact ⟨k + 1, by omega, by go_num, HB2, Lib.hid (HT.out (by simp))⟩
        case measure => simp [intOf]; omega
      | true =>
        go_wp2_with (first
          | (refine wpList_load_agg rfl 41 (.tmp 14) rfl ⟨b, o + k * 21, none⟩ rfl cs _ HC.out Try.underlying41 rfl Z.out ?_; go_simp))
        refine C.mono ?_; rintro e w2 ⟨rfl, hb2⟩
        have HB2 := Lib.hid (HB.out.trans (hb2.mono HB.out.size))
        clear hb2 C
        go_wp2_with fail
        go_ret
        exact ⟨HB2.out, .inr ⟨k, r, rfl, HL.out (by simp)⟩⟩
    · obtain rfl : k = rs.length := by omega
      have HT : Hid (soaT rs = 0) := Lib.hid (soaT_none (by have := HA.out; rwa [List.take_length] at this))
      have hkI : ¬ (rs.length : Int) < (rs.length : Int) := by omega
      go_wp2_with fail
      go_ret
      exact ⟨HB.out, .inl ⟨rfl, HT.out⟩⟩
/-- a finding -/
structure Fd where
  out : Int
  rs : List RV
  nx : ByteArray
  ttl : Int
def FC (out : Int) (v : Value) (nx : ByteArray) (ttl : Int) : Array Value := #[.int .i64 out, v, .string nx, .int .i64 ttl]
theorem zeroF : (Try.prog.info? 35).map (·.zero) = some (some (.agg (FC 0 (.slice none 0 0) ⟨#[]⟩ 0))) := by kernel_rfl
theorem sizeF4 : (Try.prog.info? 35).map (·.size) = some 4 := by kernel_rfl
theorem sizeF (out : Int) (v : Value) (nx : ByteArray) (ttl : Int) : (Try.prog.info? 35).map (·.size) = some (FC out v nx ttl).size := sizeF4
theorem FC_one (out : Int) (A : Option Addr) (n c : Nat) (nx : ByteArray) (ttl : Int) : (FC out (.slice A n c) nx ttl).all (·.oneCell') = true := by simp [FC, Value.oneCell']
def FdPost (w : World) (f : Fd) (e : Ending) (w' : World) : Prop := ∃ A c, e = .returned (.agg (FC f.out (.slice A f.rs.length c) f.nx f.ttl)) ∧ Below w.heap.size w w' ∧ RecsAt w' A f.rs
theorem builtF5 : Try.prog.built 35 [(0, .int .i64 5)] = some (FC 5 (.slice none 0 0) ⟨#[]⟩ 0) := by kernel_rfl
theorem recsAt_none {w : World} {A : Option Addr} : RecsAt w A [] := fun h => absurd h (by simp)
/-- what nothing answers -/
def nothF (code : Int) (au : List RV) : Fd := ⟨if code = 3 then 2 else 5, [], ⟨#[]⟩, soaT au⟩
/-- the three blocks of nothing -/
structure NoAt (w wx : World) (C : Array Value) (out : Int) : Prop where
  below : Below w.heap.size w wx
  m : wx.heap[w.heap.size]? = some (.cells C 32 (0, 0))
  z : wx.heap[w.heap.size + 1]? = some (.cells (FC 0 (.slice none 0 0) ⟨#[]⟩ 0) 35 (0, 0))
  f : wx.heap[w.heap.size + 2]? = some (.cells (FC out (.slice none 0 0) ⟨#[]⟩ 0) 35 (0, 0))
theorem NoAt.to {w wx wy : World} {C : Array Value} {out : Int} (h : NoAt w wx C out) (hb : Below wx.heap.size wx wy) : NoAt w wy C out :=
  ⟨h.below.trans (hb.mono h.below.size), (hb.block _ (heap_lt h.m)).trans h.m, (hb.block _ (heap_lt h.z)).trans h.z, (hb.block _ (heap_lt h.f)).trans h.f⟩
theorem NoAt.set {w wx : World} {C : Array Value} {out o2 : Int} (h : NoAt w wx C out) : NoAt w (wx.setCell ⟨w.heap.size + 2, 0, none⟩ (.int .i64 o2)) C o2 :=
  ⟨h.below.setCell (p := ⟨w.heap.size + 2, 0, none⟩) (by show w.heap.size ≤ w.heap.size + 2; omega) _,
   (Below.heap_setCell wx ⟨w.heap.size + 2, 0, none⟩ _ _ (by show w.heap.size ≠ w.heap.size + 2; omega)).trans h.m,
   (Below.heap_setCell wx ⟨w.heap.size + 2, 0, none⟩ _ _ (by show w.heap.size + 1 ≠ w.heap.size + 2; omega)).trans h.z,
   heap_setCell_same wx (w.heap.size + 2) 0 _ _ (.int .i64 o2) h.f⟩
set_option maxRecDepth 100000 in
set_option maxHeartbeats 4000000 in
theorem nothing_e (m : MV) (had : ∀ r ∈ m.au, r.ad.length = 16) (hl : m.au.length ≤ 1000) (w : World) (hA : RecsAt w m.U m.au) :
    Calls Try.prog 20 #[.agg m.cells] w (FdPost w (nothF m.code m.au)) := by
  have HC4 : Hid (m.cells[4]? = some (.int .i64 m.code)) := Lib.hid rfl
  have HC8 : Hid (m.cells[8]? = some (.slice m.U m.au.length m.cu)) := Lib.hid rfl
  have HIx := Lib.hid (fun W hW => indexFunc_soa m.U m.cu m.au had hl W hW)
  have HA := Lib.hid hA
  have HZF := Lib.hid zeroF
  have HBF := Lib.hid builtF5
  have hlI : (m.au.length : Int) ≤ 1000 := by omega
  clear hA had
  generalize m.cells = MC at HC4 HC8 ⊢
  generalize m.code = code at HC4 ⊢
  generalize m.U = U at HC8 HIx HA
  generalize m.cu = cu at HC8 HIx
  generalize m.au = au at HC8 HIx HA hl hlI ⊢
  have HN0 : Hid (NoAt w (((w.alloc (.cells MC 32)).alloc (.cells (FC 0 (.slice none 0 0) ⟨#[]⟩ 0) 35)).alloc (.cells (FC 5 (.slice none 0 0) ⟨#[]⟩ 0) 35)) MC 5) := Lib.hid (by
    have b1 := heap_alloc_last w (.cells MC 32)
    have b2 := heap_alloc_last (w.alloc (.cells MC 32)) (.cells (FC 0 (.slice none 0 0) ⟨#[]⟩ 0) 35)
    have b3 := heap_alloc_last ((w.alloc (.cells MC 32)).alloc (.cells (FC 0 (.slice none 0 0) ⟨#[]⟩ 0) 35)) (.cells (FC 5 (.slice none 0 0) ⟨#[]⟩ 0) 35)
    have l1 := (Below.refl _ w).alloc (Nat.le_refl _) (.cells MC 32)
    have l2 := (Below.refl _ (w.alloc (.cells MC 32))).alloc (Nat.le_refl _) (.cells (FC 0 (.slice none 0 0) ⟨#[]⟩ 0) 35)
    have l3 := (Below.refl _ ((w.alloc (.cells MC 32)).alloc (.cells (FC 0 (.slice none 0 0) ⟨#[]⟩ 0) 35))).alloc (Nat.le_refl _) (.cells (FC 5 (.slice none 0 0) ⟨#[]⟩ 0) 35)
    simp only [World.size_alloc] at b1 b2 b3
    refine ⟨(l1.trans (l2.mono l1.size)).trans (l3.mono (Nat.le_trans l1.size l2.size)), ?_, ?_, b3⟩
    · exact (l3.block _ (by simp only [World.size_alloc]; omega)).trans ((l2.block _ (by simp only [World.size_alloc]; omega)).trans b1)
    · exact (l3.block _ (by simp only [World.size_alloc]; omega)).trans b2)
  obtain ⟨o, ho⟩ : ∃ o : Int, o = if code = 3 then 2 else 5 := ⟨_, rfl⟩
  have HNf : Hid (nothF code au = ⟨o, [], ⟨#[]⟩, soaT au⟩) := Lib.hid (by rw [ho]; rfl)
  generalize nothF code au = NF at HNf ⊢
  have HO := Lib.hid ho
  clear ho
  go_enter Try.func20, Try.ntmps20
  go_upto_region 2 with (first
    | (refine wpList_alloc_z rfl 35 rfl (FC 0 (.slice none 0 0) ⟨#[]⟩ 0) HZF.out ?_; go_simp)
    | (refine wpList_build_v rfl 35 #[(0, .const (.int .i64 5))] rfl _ (FC 5 (.slice none 0 0) ⟨#[]⟩ 0) HBF.out rfl ?_; go_simp)
    | (refine wpList_store_new rfl 35 (.tmp 3) (.tmp 5) rfl (w.heap.size + 2) (by simp only [World.size_alloc]) (FC 0 (.slice none 0 0) ⟨#[]⟩ 0) (FC 5 (.slice none 0 0) ⟨#[]⟩ 0) 35 rfl rfl (sizeF _ _ _ _) rfl (FC_one _ _ _ _ _ _) ?_; go_simp))
  clear HBF HZF
  generalize ((w.alloc (.cells MC 32)).alloc (.cells (FC 0 (.slice none 0 0) ⟨#[]⟩ 0) 35)).alloc (.cells (FC 5 (.slice none 0 0) ⟨#[]⟩ 0) 35) = W0 at HN0 ⊢
  have e4 := (cell_of_row _ w.heap.size 4 _ _ _ HN0.out.m).trans HC4.out
  by_cases h3 : code = 3
  · subst h3
    have f0 := (cell_of_row _ (w.heap.size + 2) 0 _ _ _ HN0.out.f).trans (rfl : _ = some (Value.int .i64 5))
    have ff := frozen_of_row W0 (w.heap.size + 2) 0 _ _ HN0.out.f
    have HN1 : Hid (NoAt w (W0.setCell ⟨w.heap.size + 2, 0, none⟩ (.int .i64 2)) MC o) := Lib.hid (by rw [HO.out]; exact HN0.out.set)
    clear HO
    go_upto_region 4 with fail
    clear HN0 HC4 e4 f0 ff
    generalize W0.setCell ⟨w.heap.size + 2, 0, none⟩ (.int .i64 2) = W1 at HN1 ⊢
    have e8 := (cell_of_row _ w.heap.size 8 _ _ _ HN1.out.m).trans HC8.out
    go_wp2_with fail
    refine (HIx.out W1 (HA.out.below HN1.out.below)).mono ?_
    rintro e w2 ⟨hb2, ⟨rfl, hs⟩ | ⟨k, r, rfl, hk, hs⟩⟩
    · have HN2 := Lib.hid (HN1.out.to hb2)
      have HNf2 : Hid (NF = ⟨o, [], ⟨#[]⟩, 0⟩) := Lib.hid (by rw [HNf.out, hs])
      have HM := Lib.hid HN2.out.f
      have HZ := Lib.hid HN2.out.z
      clear hb2 hs HNf e8 HN1
      go_wp2_with (first
        | (refine wpList_load_row rfl 35 (.tmp 3) rfl (w.heap.size + 2) rfl 35 (FC o (.slice none 0 0) ⟨#[]⟩ 0) (0, 0) _ HM.out Try.underlying35 rfl (sizeF _ _ _ _) ?_; go_simp)
        | (refine wpList_store_blk rfl 35 (.tmp 2) (.tmp 22) rfl (w.heap.size + 1) (FC 0 (.slice none 0 0) ⟨#[]⟩ 0) (FC o (.slice none 0 0) ⟨#[]⟩ 0) 35 HZ.out rfl rfl (sizeF _ _ _ _) rfl (FC_one _ _ _ _ _ _) ?_; intro w9 hg9 hw9 hz9; go_simp))
      exact bodyPost_ret (results_cell_row rfl _ w9 (w.heap.size + 1) 35 (FC o (.slice none 0 0) ⟨#[]⟩ 0) (0, 0) _ rfl hg9.out Try.underlying35 rfl (sizeF _ _ _ _)) rfl (by
        rw [HNf2.out]
        exact ⟨none, 0, rfl, HN2.out.below.grown hw9.out HN2.out.below.size (fun k e => by injection e with e; omega), recsAt_none⟩)
    · have HN2 := Lib.hid (HN1.out.to hb2)
      have HNf2 : Hid (NF = ⟨o, [], ⟨#[]⟩, r.ttl⟩) := Lib.hid (by rw [HNf.out, hs])
      have hkl : k < au.length := (List.getElem?_eq_some_iff.1 hk).1
      have hkI : (k : Int) < (au.length : Int) := by omega
      have hk0 : (0 : Int) ≤ (k : Int) := by omega
      obtain ⟨b, o2, rfl, hbl, hc⟩ := (HA.out.below HN2.out.below) (by omega)
      have c2 : w2.cell? ⟨b, o2 + k * 21 + 2, none⟩ = some (.int .i64 r.ttl) := by
        have := hc k r hk 2 (.int .i64 r.ttl) (by rw [Array.getElem?_toList]; exact r.c2)
        rwa [Addr.add_lit] at this
      have e8b := (cell_of_row _ w.heap.size 8 _ _ _ HN2.out.m).trans HC8.out
      have f3 := (cell_of_row _ (w.heap.size + 2) 3 _ _ _ HN2.out.f).trans (rfl : _ = some (Value.int .i64 0))
      have ff := frozen_of_row w2 (w.heap.size + 2) 3 _ _ HN2.out.f
      generalize r.ttl = rt at c2 HNf2
      have HM : Hid ((w2.setCell ⟨w.heap.size + 2, 3, none⟩ (.int .i64 rt)).heap[w.heap.size + 2]? = some (.cells (FC o (.slice none 0 0) ⟨#[]⟩ rt) 35 (0, 0))) := Lib.hid (heap_setCell_same w2 (w.heap.size + 2) 3 _ _ (.int .i64 rt) HN2.out.f)
      have HZ : Hid ((w2.setCell ⟨w.heap.size + 2, 3, none⟩ (.int .i64 rt)).heap[w.heap.size + 1]? = some (.cells (FC 0 (.slice none 0 0) ⟨#[]⟩ 0) 35 (0, 0))) := Lib.hid ((Below.heap_setCell w2 ⟨w.heap.size + 2, 3, none⟩ _ _ (by show w.heap.size + 1 ≠ w.heap.size + 2; omega)).trans HN2.out.z)
      have HB : Hid (Below w.heap.size w (w2.setCell ⟨w.heap.size + 2, 3, none⟩ (.int .i64 rt))) := Lib.hid (HN2.out.below.setCell (p := ⟨w.heap.size + 2, 3, none⟩) (by show w.heap.size ≤ w.heap.size + 2; omega) _)
      clear hb2 hs HNf e8 HN1 HN2 hk hc hbl HIx HA HC8
      go_wp2_with (first
        | (refine wpList_load_row rfl 35 (.tmp 3) rfl (w.heap.size + 2) rfl 35 (FC o (.slice none 0 0) ⟨#[]⟩ rt) (0, 0) _ HM.out Try.underlying35 rfl (sizeF _ _ _ _) ?_; go_simp)
        | (refine wpList_store_blk rfl 35 (.tmp 2) (.tmp 22) rfl (w.heap.size + 1) (FC 0 (.slice none 0 0) ⟨#[]⟩ 0) (FC o (.slice none 0 0) ⟨#[]⟩ rt) 35 HZ.out rfl rfl (sizeF _ _ _ _) rfl (FC_one _ _ _ _ _ _) ?_; intro w9 hg9 hw9 hz9; go_simp))
      exact bodyPost_ret (results_cell_row rfl _ w9 (w.heap.size + 1) 35 (FC o (.slice none 0 0) ⟨#[]⟩ rt) (0, 0) _ rfl hg9.out Try.underlying35 rfl (sizeF _ _ _ _)) rfl (by
        rw [HNf2.out]
        exact ⟨none, 0, rfl, HB.out.grown hw9.out HB.out.size (fun k e => by injection e with e; omega), recsAt_none⟩)
  · have h3b : (code == 3) = false := by simp [h3]
    have HN1 : Hid (NoAt w W0 MC o) := Lib.hid (by rw [HO.out, if_neg h3]; exact HN0.out)
    clear HO h3
    go_upto_region 4 with fail
    clear HN0 HC4 e4
    generalize W0 = W1 at HN1 ⊢
    have e8 := (cell_of_row _ w.heap.size 8 _ _ _ HN1.out.m).trans HC8.out
    go_wp2_with fail
    refine (HIx.out W1 (HA.out.below HN1.out.below)).mono ?_
    rintro e w2 ⟨hb2, ⟨rfl, hs⟩ | ⟨k, r, rfl, hk, hs⟩⟩
    · have HN2 := Lib.hid (HN1.out.to hb2)
      have HNf2 : Hid (NF = ⟨o, [], ⟨#[]⟩, 0⟩) := Lib.hid (by rw [HNf.out, hs])
      have HM := Lib.hid HN2.out.f
      have HZ := Lib.hid HN2.out.z
      clear hb2 hs HNf e8 HN1
      go_wp2_with (first
        | (refine wpList_load_row rfl 35 (.tmp 3) rfl (w.heap.size + 2) rfl 35 (FC o (.slice none 0 0) ⟨#[]⟩ 0) (0, 0) _ HM.out Try.underlying35 rfl (sizeF _ _ _ _) ?_; go_simp)
        | (refine wpList_store_blk rfl 35 (.tmp 2) (.tmp 22) rfl (w.heap.size + 1) (FC 0 (.slice none 0 0) ⟨#[]⟩ 0) (FC o (.slice none 0 0) ⟨#[]⟩ 0) 35 HZ.out rfl rfl (sizeF _ _ _ _) rfl (FC_one _ _ _ _ _ _) ?_; intro w9 hg9 hw9 hz9; go_simp))
      exact bodyPost_ret (results_cell_row rfl _ w9 (w.heap.size + 1) 35 (FC o (.slice none 0 0) ⟨#[]⟩ 0) (0, 0) _ rfl hg9.out Try.underlying35 rfl (sizeF _ _ _ _)) rfl (by
        rw [HNf2.out]
        exact ⟨none, 0, rfl, HN2.out.below.grown hw9.out HN2.out.below.size (fun k e => by injection e with e; omega), recsAt_none⟩)
    · have HN2 := Lib.hid (HN1.out.to hb2)
      have HNf2 : Hid (NF = ⟨o, [], ⟨#[]⟩, r.ttl⟩) := Lib.hid (by rw [HNf.out, hs])
      have hkl : k < au.length := (List.getElem?_eq_some_iff.1 hk).1
      have hkI : (k : Int) < (au.length : Int) := by omega
      have hk0 : (0 : Int) ≤ (k : Int) := by omega
      obtain ⟨b, o2, rfl, hbl, hc⟩ := (HA.out.below HN2.out.below) (by omega)
      have c2 : w2.cell? ⟨b, o2 + k * 21 + 2, none⟩ = some (.int .i64 r.ttl) := by
        have := hc k r hk 2 (.int .i64 r.ttl) (by rw [Array.getElem?_toList]; exact r.c2)
        rwa [Addr.add_lit] at this
      have e8b := (cell_of_row _ w.heap.size 8 _ _ _ HN2.out.m).trans HC8.out
      have f3 := (cell_of_row _ (w.heap.size + 2) 3 _ _ _ HN2.out.f).trans (rfl : _ = some (Value.int .i64 0))
      have ff := frozen_of_row w2 (w.heap.size + 2) 3 _ _ HN2.out.f
      generalize r.ttl = rt at c2 HNf2
      have HM : Hid ((w2.setCell ⟨w.heap.size + 2, 3, none⟩ (.int .i64 rt)).heap[w.heap.size + 2]? = some (.cells (FC o (.slice none 0 0) ⟨#[]⟩ rt) 35 (0, 0))) := Lib.hid (heap_setCell_same w2 (w.heap.size + 2) 3 _ _ (.int .i64 rt) HN2.out.f)
      have HZ : Hid ((w2.setCell ⟨w.heap.size + 2, 3, none⟩ (.int .i64 rt)).heap[w.heap.size + 1]? = some (.cells (FC 0 (.slice none 0 0) ⟨#[]⟩ 0) 35 (0, 0))) := Lib.hid ((Below.heap_setCell w2 ⟨w.heap.size + 2, 3, none⟩ _ _ (by show w.heap.size + 1 ≠ w.heap.size + 2; omega)).trans HN2.out.z)
      have HB : Hid (Below w.heap.size w (w2.setCell ⟨w.heap.size + 2, 3, none⟩ (.int .i64 rt))) := Lib.hid (HN2.out.below.setCell (p := ⟨w.heap.size + 2, 3, none⟩) (by show w.heap.size ≤ w.heap.size + 2; omega) _)
      clear hb2 hs HNf e8 HN1 HN2 hk hc hbl HIx HA HC8
      go_wp2_with (first
        | (refine wpList_load_row rfl 35 (.tmp 3) rfl (w.heap.size + 2) rfl 35 (FC o (.slice none 0 0) ⟨#[]⟩ rt) (0, 0) _ HM.out Try.underlying35 rfl (sizeF _ _ _ _) ?_; go_simp)
        | (refine wpList_store_blk rfl 35 (.tmp 2) (.tmp 22) rfl (w.heap.size + 1) (FC 0 (.slice none 0 0) ⟨#[]⟩ 0) (FC o (.slice none 0 0) ⟨#[]⟩ rt) 35 HZ.out rfl rfl (sizeF _ _ _ _) rfl (FC_one _ _ _ _ _ _) ?_; intro w9 hg9 hw9 hz9; go_simp))
      exact bodyPost_ret (results_cell_row rfl _ w9 (w.heap.size + 1) 35 (FC o (.slice none 0 0) ⟨#[]⟩ rt) (0, 0) _ rfl hg9.out Try.underlying35 rfl (sizeF _ _ _ _)) rfl (by
        rw [HNf2.out]
        exact ⟨none, 0, rfl, HB.out.grown hw9.out HB.out.size (fun k e => by injection e with e; omega), recsAt_none⟩)
end Go.Proofs.Ytgbijhinihchgaa
