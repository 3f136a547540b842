/-
  The walk of chase.Of: what it answers. Conditions: at most 900 answers and as many authorities, that lie in memory.
-/
import Derived.Test.YtgbijhinihchgaaChNo
namespace Go.Proofs.Ytgbijhinihchgaa
open Go.RowKit

/-- where the names lead: the name, the CNAMEs on the way, what was found -/
def chF (an : List RV) (qt : Int) : Nat → ByteArray → List RV → ByteArray × List RV × Option (List RV)
  | 0, nm, way => (nm, way, none)
  | n + 1, nm, way => if 0 < (kin an nm qt).length then (nm, way, some (kin an nm qt)) else match kin an nm 5 with | [] => (nm, way, none) | r :: _ => chF an qt n r.tx (way ++ [r])
theorem chF_hit {an : List RV} {qt : Int} {n : Nat} {nm : ByteArray} {way : List RV} (h : 0 < (kin an nm qt).length) : chF an qt (n + 1) nm way = (nm, way, some (kin an nm qt)) := by
  rw [chF, if_pos h]
theorem chF_end {an : List RV} {qt : Int} {n : Nat} {nm : ByteArray} {way : List RV} (h : (kin an nm qt).length = 0) (h2 : (kin an nm 5).length = 0) : chF an qt (n + 1) nm way = (nm, way, none) := by
  rw [chF, if_neg (by omega), List.length_eq_zero_iff.1 h2]
theorem chF_on {an : List RV} {qt : Int} {n : Nat} {nm : ByteArray} {way : List RV} {r : RV} (h : (kin an nm qt).length = 0) (h2 : (kin an nm 5)[0]? = some r) : chF an qt (n + 1) nm way = chF an qt n r.tx (way ++ [r]) := by
  rw [chF, if_neg (by omega)]
  cases hk : kin an nm 5 with
  | nil => rw [hk] at h2; cases h2
  | cons x l => rw [hk] at h2; injection h2 with h2; rw [h2]
/-- what Of answers -/
def ofF (code : Int) (qn : ByteArray) (qt : Int) (an au : List RV) : Fd :=
  if code ≠ 0 ∧ code ≠ 3 then ⟨4, [], ⟨#[]⟩, 0⟩ else
    match chF an qt 8 qn [] with
    | (_, way, some l) => ⟨1, l, ⟨#[]⟩, lstI (way ++ l)⟩
    | (nm, way, none) => if (nm.toList == qn.toList) = false ∧ code = 0 then ⟨0, [], nm, lstI way⟩ else nothF code au
theorem builtF1 (A : Option Addr) (n c : Nat) (ttl : Int) : Try.prog.built 35 [(0, .int .i64 1), (1, .slice A n c), (3, .int .i64 ttl)] = some (FC 1 (.slice A n c) ⟨#[]⟩ ttl) := by kernel_rfl
theorem builtF23 (nm : ByteArray) (ttl : Int) : Try.prog.built 35 [(2, .string nm), (3, .int .i64 ttl)] = some (FC 0 (.slice none 0 0) nm ttl) := by kernel_rfl
theorem builtF4 : Try.prog.built 35 [(0, .int .i64 4)] = some (FC 4 (.slice none 0 0) ⟨#[]⟩ 0) := by kernel_rfl
/-- records that lie in memory lie there still, when a block that holds a finding is written -/
theorem recs_past {rs : List RV} {w w' : World} {A : Option Addr} {g : Nat} {x : Array Value} (h : RecsAt w A rs) (hz : w.heap[g]? = some (.cells x 35 (0, 0))) (hg : w.grownBy w' (some g)) (hx : x.size = 4 := by rfl) : RecsAt w' A rs := fun h0 => by
  obtain ⟨b, o, rfl, hlt, hc⟩ := h h0
  have hne : b ≠ g := by
    rintro rfl
    obtain ⟨r, hr⟩ : ∃ r, rs[0]? = some r := ⟨_, List.getElem?_eq_getElem h0⟩
    have h5 : 4 < r.cells.toList.length := by unfold RV.cells; simp
    have c2 := hc 0 r hr 4 _ (List.getElem?_eq_getElem h5)
    rw [Addr.add_lit, cell_of_row w b _ _ _ _ hz] at c2
    have := (Array.getElem?_eq_some_iff.1 c2).1
    omega
  refine ⟨b, o, rfl, Nat.lt_of_lt_of_le hlt hg.size, fun k r hr j v hv => ?_⟩
  have h1 := hc k r hr j v hv
  rw [Addr.add_lit] at h1 ⊢
  exact (World.cell?_of_block (a := ⟨b, o + k * 21 + j, none⟩) (hg.block b hlt (fun e => by injection e with e; exact hne e))).trans h1
/-- the blocks of Of, and the CNAMEs on the way -/
structure OfAt (w wr : World) (C : Array Value) (way : List RV) (v : Value) : Prop where
  m : wr.heap[w.heap.size]? = some (.cells C 32 (0, 0))
  z : wr.heap[w.heap.size + 1]? = some (.cells (FC 0 (.slice none 0 0) ⟨#[]⟩ 0) 35 (0, 0))
  own : wr.ownsRow (w.heap.size + 2) 41 21 v way.length (rcs way)
  nil : way = [] → v = .slice none 0 0
  below : Below w.heap.size w wr
  hb : w.heap.size + 2 ≤ wr.heap.size
theorem OfAt.to {w wr wr' : World} {C : Array Value} {way : List RV} {v : Value} (h : OfAt w wr C way v) (hb : Below wr.heap.size wr wr') : OfAt w wr' C way v :=
  ⟨(hb.block _ (heap_lt h.m)).trans h.m, (hb.block _ (heap_lt h.z)).trans h.z, h.own.kept (show wr.grownBy wr' none from ⟨hb.os, hb.tape, hb.output, hb.size, fun k hk _ => hb.block k hk⟩) (Classical.em _), h.nil, h.below.trans (hb.mono h.below.size), Nat.le_trans h.hb hb.size⟩
theorem OfAt.app {w wr w1 : World} {C : Array Value} {way : List RV} {v v1 : Value} {r : RV} (h : OfAt w wr C way v) (ho : w1.ownsRow (w.heap.size + 2) 41 21 v1 (way.length + 1) (rcs way ++ r.cells.toList)) (hg : wr.grownBy w1 v.ownBlock) : OfAt w w1 C (way ++ [r]) v1 :=
  ⟨(hg.block _ (heap_lt h.m) (fun e => by have := (h.own.lt _ e.symm).1; omega)).trans h.m, (hg.block _ (heap_lt h.z) (fun e => by have := (h.own.lt _ e.symm).1; omega)).trans h.z, by rw [List.length_append, rcs_snoc]; exact ho, fun e => by simp at e,
   h.below.grown hg h.below.size (fun j hj => by have := (h.own.lt j hj).1; omega), Nat.le_trans h.hb hg.size⟩
set_option maxRecDepth 100000 in
set_option maxHeartbeats 16000000 in
theorem of_e (m : MV) (ha : ∀ r ∈ m.an, r.ad.length = 16) (hu : ∀ r ∈ m.au, r.ad.length = 16) (la : m.an.length ≤ 900) (lu : m.au.length ≤ 900) (w : World) (hA : RecsAt w m.A m.an) (hU : RecsAt w m.U m.au) :
    Calls Try.prog 10 #[.agg m.cells] w (FdPost w (ofF m.code m.qn m.qt m.an m.au)) := by
  have HC4 : Hid (m.cells[4]? = some (.int .i64 m.code)) := Lib.hid rfl
  have HC5 : Hid (m.cells[5]? = some (.string m.qn)) := Lib.hid rfl
  have HC6 : Hid (m.cells[6]? = some (.int .i64 m.qt)) := Lib.hid rfl
  have HC7 : Hid (m.cells[7]? = some (.slice m.A m.an.length m.ca)) := Lib.hid rfl
  have HRc := Lib.hid (fun S ty W hW => records_ch S ty m.an ha m.A m.ca (by omega) W hW)
  have HNo : Hid (∀ W, Below w.heap.size w W → Calls Try.prog 20 #[.agg m.cells] W (FdPost W (nothF m.code m.au))) := Lib.hid (fun W hb => nothing_e m hu (by omega) W (hU.below hb))
  have HA := Lib.hid hA
  have HAd := Lib.hid ha
  have HZF := Lib.hid zeroF
  have SM : Hid ((Try.prog.info? 32).map (·.size) = some m.cells.size) := Lib.hid sizeM
  have HOF : Hid (ofF m.code m.qn m.qt m.an m.au = ofF m.code m.qn m.qt m.an m.au) := Lib.hid rfl
  clear hA hU ha hu lu
  generalize m.cells = MC at HC4 HC5 HC6 HC7 HNo SM ⊢
  generalize m.code = code at HC4 HNo HOF ⊢
  generalize m.qn = qn at HC5 HOF ⊢
  generalize m.qt = qt at HC6 HOF ⊢
  generalize m.A = A at HC7 HRc HA
  generalize m.ca = ca at HC7 HRc
  generalize m.an = an at HC7 HRc HA HAd HOF la ⊢
  generalize m.au = au at HNo HOF ⊢
  have hlaI : (an.length : Int) ≤ 900 := by omega
  have HOc : Hid (code ≠ 0 ∧ code ≠ 3 → ofF code qn qt an au = ⟨4, [], ⟨#[]⟩, 0⟩) := Lib.hid (fun h => by unfold ofF; rw [if_pos h])
  have HOs : Hid (¬ (code ≠ 0 ∧ code ≠ 3) → ∀ nm way l, chF an qt 8 qn [] = (nm, way, some l) → ofF code qn qt an au = ⟨1, l, ⟨#[]⟩, lstI (way ++ l)⟩) := Lib.hid (fun h nm way l e => by unfold ofF; rw [if_neg h, e])
  have HOf : Hid (¬ (code ≠ 0 ∧ code ≠ 3) → ∀ nm way, chF an qt 8 qn [] = (nm, way, none) → ofF code qn qt an au = if (nm.toList == qn.toList) = false ∧ code = 0 then ⟨0, [], nm, lstI way⟩ else nothF code au) := Lib.hid (fun h nm way e => by unfold ofF; rw [if_neg h, e])
  generalize nothF code au = NF at HNo HOf
  clear HOF
  generalize ofF code qn qt an au = OFF at HOc HOs HOf ⊢
  have HP0 : Hid (OfAt w ((w.alloc (.cells MC 32)).alloc (.cells (FC 0 (.slice none 0 0) ⟨#[]⟩ 0) 35)) MC [] (.slice none 0 0)) := Lib.hid (by
    have b1 := heap_alloc_last w (.cells MC 32)
    have b2 := heap_alloc_last (w.alloc (.cells MC 32)) (.cells (FC 0 (.slice none 0 0) ⟨#[]⟩ 0) 35)
    have l1 := (Below.refl _ w).alloc (Nat.le_refl _) (.cells MC 32)
    have l2 := (Below.refl _ (w.alloc (.cells MC 32))).alloc (Nat.le_refl _) (.cells (FC 0 (.slice none 0 0) ⟨#[]⟩ 0) 35)
    simp only [World.size_alloc] at b1 b2
    refine ⟨(l2.block _ (by simp only [World.size_alloc]; omega)).trans b1, b2, World.ownsRow_nil _ _ _ _, fun _ => rfl, l1.trans (l2.mono l1.size), by simp only [World.size_alloc]; omega⟩)
  go_enter Try.func10, Try.ntmps10
  go_upto_region 1 with (first
    | (refine wpList_alloc_z rfl 35 rfl (FC 0 (.slice none 0 0) ⟨#[]⟩ 0) HZF.out ?_; go_simp))
  clear HZF
  generalize (w.alloc (.cells MC 32)).alloc (.cells (FC 0 (.slice none 0 0) ⟨#[]⟩ 0) 35) = W0 at HP0 ⊢
  have e4 := (cell_of_row _ w.heap.size 4 _ _ _ HP0.out.m).trans HC4.out
  have e5 := (cell_of_row _ w.heap.size 5 _ _ _ HP0.out.m).trans HC5.out
  by_cases hcode : code ≠ 0 ∧ code ≠ 3
  · have h0 : (code != 0) = true := by simp [hcode.1]
    have h3 : (code != 3) = true := by simp [hcode.2]
    have h0n : ¬ code = 0 := hcode.1
    have HBn := Lib.hid builtF4
    have HOc2 := Lib.hid (HOc.out hcode)
    have HZ := Lib.hid HP0.out.z
    have HB := Lib.hid HP0.out.below
    clear HOc HOs HOf HNo HRc hcode
    go_wp2_with (first
      | (refine wpList_build_v rfl 35 #[(0, .const (.int .i64 4))] rfl _ (FC 4 (.slice none 0 0) ⟨#[]⟩ 0) HBn.out rfl ?_; go_simp)
      | (refine wpList_store_blk rfl 35 (.tmp 2) (.tmp 15) rfl (w.heap.size + 1) (FC 0 (.slice none 0 0) ⟨#[]⟩ 0) (FC 4 (.slice none 0 0) ⟨#[]⟩ 0) 35 HZ.out rfl rfl (sizeF _ _ _ _) rfl (FC_one _ _ _ _ _ _) ?_; intro w9 hg9 hw9 hz9; go_simp))
    exact bodyPost_ret (results_cell_row rfl _ w9 (w.heap.size + 1) 35 (FC 4 (.slice none 0 0) ⟨#[]⟩ 0) (0, 0) _ rfl hg9.out Try.underlying35 rfl (sizeF _ _ _ _)) rfl (by
      rw [HOc2.out]
      exact ⟨none, 0, rfl, HB.out.grown hw9.out HB.out.size (fun k e => by injection e with e; omega), recsAt_none⟩)
  have HOs := Lib.hid (HOs.out hcode)
  have HOf := Lib.hid (HOf.out hcode)
  clear HOc
  have hcd : code = 0 ∨ code = 3 := by omega
  clear hcode
  go_cut [14] from 7 to 14 (fun t14 wx => t14 = .bool false ∧ wx = W0)
  case first =>
    clear HOs HOf HNo HRc
    rcases hcd with rfl | rfl
    all_goals
      go_wp2_with fail
      go_meet
      case rel => exact ⟨rfl, rfl⟩
  obtain ⟨rfl, rfl⟩ := hcut
  clear hcd e4
  have HW0 : Hid (∀ r ∈ ([] : List RV), r.ad.length = 16) := Lib.hid (fun r hr => by cases hr)
  obtain ⟨i0, hi, hz0, hz1, hz2⟩ := info_rec
  have HI := Lib.hid hi
  have HZ0 := Lib.hid hz0
  have HZ1 := Lib.hid hz1
  have HZ2 := Lib.hid hz2
  clear hi hz0 hz1 hz2
  go_wp2_with fail
  go_loopw [19, 3, 4] (fun i s v wr => ∃ (k : Nat) (nm : ByteArray) (way : List RV) (v' : Value), k ≤ 8 ∧ way.length ≤ k ∧ i = .int .i64 k ∧ s = .string nm ∧ v' = v ∧ Hid (OfAt w wr MC way v') ∧ Hid (chF an qt (8 - k) nm way = chF an qt 8 qn []) ∧ Hid (∀ r ∈ way, r.ad.length = 16)) (fun i _ _ _ => 8 - (intOf i).toNat)
  case atStart => exact ⟨0, qn, [], _, by omega, by simp, rfl, rfl, rfl, HP0, Lib.hid rfl, HW0⟩
  case round =>
    clear HP0 HW0 e5
    obtain ⟨k, nm, way, v, hk, hwl, rfl, rfl, rfl, HP, HK, HWa⟩ := hrel
    by_cases hlt : k < 8
    · have hkI : (k : Int) < 8 := by omega
      obtain ⟨q, hq⟩ : ∃ q, 8 - k = q + 1 := ⟨7 - k, by omega⟩
      have HQ : Hid (8 - k = q + 1 ∧ 8 - (k + 1) = q) := Lib.hid ⟨hq, by omega⟩
      rw [hq] at HK
      clear hq
      have e6 := (cell_of_row _ w.heap.size 6 _ _ _ HP.out.m).trans HC6.out
      have e7 := (cell_of_row _ w.heap.size 7 _ _ _ HP.out.m).trans HC7.out
      have HR1 := Lib.hid (HRc.out nm qt wr (HA.out.below HP.out.below))
      have HR2 := Lib.hid (HRc.out nm 5)
      have HKh := Lib.hid (fun h => (chF_hit (n := q) (nm := nm) (way := way) (an := an) (qt := qt) h).symm.trans HK.out)
      have HKe := Lib.hid (fun h h2 => (chF_end (n := q) (nm := nm) (way := way) (an := an) (qt := qt) h h2).symm.trans HK.out)
      have HKo := Lib.hid (fun r h h2 => (chF_on (n := q) (nm := nm) (way := way) (an := an) (qt := qt) (r := r) h h2).symm.trans HK.out)
      have hl1 : (kin an nm qt).length ≤ 900 := Nat.le_trans (kin_len _ _ _) la
      have hl2 : (kin an nm 5).length ≤ 900 := Nat.le_trans (kin_len _ _ _) la
      have HM1 : Hid (∀ r ∈ kin an nm qt, r.ad.length = 16) := Lib.hid (fun r hr => HAd.out r (kin_mem hr).1)
      have HM2 : Hid (∀ r ∈ kin an nm 5, r.ad.length = 16) := Lib.hid (fun r hr => HAd.out r (kin_mem hr).1)
      clear HK
      generalize hks1 : kin an nm qt = ks1 at HR1 HKh HKe HKo hl1 HM1
      generalize hks2 : kin an nm 5 = ks2 at HR2 HKe HKo hl2 HM2
      clear hks1 hks2
      go_wp2_with fail
      refine HR1.out.mono ?_
      rintro e w1 ⟨A1, c1, rfl, hb1, hr1, _⟩
      have HP1 := Lib.hid (HP.out.to hb1)
      have HRa := Lib.hid hr1
      clear hb1 hr1 HR1 HP e6 e7
      by_cases hpos : 0 < ks1.length
      · have hposI : (0 : Int) < (ks1.length : Int) := by omega
        obtain ⟨Av, cv, rfl⟩ := own_sl4 HP1.out.own
        have HOs2 := Lib.hid (HOs.out nm way ks1 (HKh.out hpos).symm)
        have HBn := Lib.hid (fun ttl => builtF1 A1 ks1.length c1 ttl)
        have HZi : Hid (way = [] → Av = none ∧ cv = 0) := Lib.hid (fun e => by
          have := HP1.out.nil e
          injection this with a b c
          exact ⟨a, c⟩)
        have HWr := Lib.hid (own_recs HP1.out.own HWa.out)
        obtain ⟨W2, hW2⟩ : ∃ W2, W2 = w1.alloc (.cells #[.slice Av way.length cv, .slice A1 ks1.length c1] 30) := ⟨_, rfl⟩
        have hb2 : Below w1.heap.size w1 W2 := by rw [hW2]; exact (Below.refl _ w1).alloc (Nat.le_refl _) _
        have hg2 : W2.heap[w1.heap.size]? = some (.cells #[.slice Av way.length cv, .slice A1 ks1.length c1] 30 (0, 0)) := by rw [hW2]; exact heap_alloc_last w1 _
        have hh : way.length ≤ 8 := by omega
        have HCc := Lib.hid (concat_rv w1.heap.size 2 Av A1 cv c1 way ks1 (by omega) hpos W2 (heap_lt hg2) ((cell_of_row _ w1.heap.size 0 _ _ _ hg2).trans rfl) ((cell_of_row _ w1.heap.size 1 _ _ _ hg2).trans rfl) (HWr.out.below hb2) HZi.out (HRa.out.below hb2) HWa.out HM1.out)
        have HP2 := Lib.hid (HP1.out.to hb2)
        have HRb := Lib.hid (HRa.out.below hb2)
        have hlen : (way ++ ks1).length ≤ 1000 := by rw [List.length_append]; omega
        have HTt : Hid (∀ W A c, RecsAt W A (way ++ ks1) → Calls Try.prog 12 #[.slice A (way ++ ks1).length c] W fun e w' => e = .returned (.int .i64 (lstI (way ++ ks1))) ∧ Below W.heap.size W w') := Lib.hid (fun W A c hW => ttl_rv hW (fun r hr => by
          rcases List.mem_append.1 hr with h | h
          · exact HWa.out r h
          · exact HM1.out r h) hlen)
        have hkn1 : ks1.length ≤ 900 := hl1
        generalize hng : way.length = nw at *
        clear hb2 hg2 HWr HP1 HRa HZi HKh HKe HKo HR2 HA HRc hlen hng
        generalize way ++ ks1 = cw at HCc HTt HOs2
        generalize hnk : ks1.length = nk at *
        go_upto_region 9 with fail
        go_wp2_with fail
        rw [← hW2]
        clear hW2
        refine HCc.out.mono ?_
        rintro e w3 ⟨A3, c3, rfl, hb3, hr3, _⟩
        have HP3 := Lib.hid (HP2.out.to hb3)
        have HT3 := Lib.hid (HTt.out w3 A3 c3 hr3)
        have HR3 := Lib.hid (HRb.out.below hb3)
        clear hb3 hr3 HCc HTt HP2 HRb
        generalize cw.length = nc at HT3 ⊢
        generalize lstI cw = lw at HT3 HOs2
        go_wp2_with fail
        refine HT3.out.mono ?_
        rintro e w4 ⟨rfl, hb4⟩
        have HZ4 := Lib.hid (HP3.out.to hb4).z
        have HB4 := Lib.hid (HP3.out.to hb4).below
        have HR4 := Lib.hid (HR3.out.below hb4)
        have HBm := Lib.hid (HBn.out lw)
        clear hb4 HT3 HP3 HR3 HBn
        go_wp2_with (first
          | (refine wpList_build_v rfl 35 #[(0, .const (.int .i64 1)), (1, .tmp 31), (3, .tmp 36)] rfl _ (FC 1 (.slice A1 nk c1) ⟨#[]⟩ lw) HBm.out rfl ?_; go_simp)
          | (refine wpList_store_blk rfl 35 (.tmp 2) (.tmp 37) rfl (w.heap.size + 1) (FC 0 (.slice none 0 0) ⟨#[]⟩ 0) (FC 1 (.slice A1 nk c1) ⟨#[]⟩ lw) 35 HZ4.out rfl rfl (sizeF _ _ _ _) rfl (FC_one _ _ _ _ _ _) ?_; intro w9 hg9 hw9 hz9; go_simp))
        exact bodyPost_ret (results_cell_row rfl _ w9 (w.heap.size + 1) 35 (FC 1 (.slice A1 nk c1) ⟨#[]⟩ lw) (0, 0) _ rfl hg9.out Try.underlying35 rfl (sizeF _ _ _ _)) rfl (by
          rw [HOs2.out]
          exact ⟨A1, c1, by rw [hnk], HB4.out.grown hw9.out HB4.out.size (fun k e => by injection e with e; omega), recs_past HR4.out HZ4.out hw9.out⟩)
      · have hzero : ks1.length = 0 := by omega
        rw [hzero]
        have HR2b := Lib.hid (HR2.out w1 (HA.out.below HP1.out.below))
        clear HKh HOs HRa HR2
        go_upto_region 10 with fail
        have e7 := (cell_of_row _ w.heap.size 7 _ _ _ HP1.out.m).trans HC7.out
        go_wp2_with fail
        refine HR2b.out.mono ?_
        rintro e w2 ⟨A2, c2, rfl, hb2, hr2, hn2⟩
        have HP2 := Lib.hid (HP1.out.to hb2)
        have HRb := Lib.hid hr2
        have HNw : Hid (∀ b o, A2 = some ⟨b, o, none⟩ → some b ≠ v.ownBlock) := Lib.hid (fun b o e e2 => by have := (HP1.out.own.lt b e2.symm).2; have := hn2 b o e; omega)
        clear hb2 hr2 hn2 HR2b HP1 e7
        by_cases hpos2 : 0 < ks2.length
        · have hposI : (0 : Int) < (ks2.length : Int) := by omega
          have hne : ((ks2.length : Int) == 0) = false := beq_eq_false_iff_ne.2 (by omega)
          obtain ⟨r, hr⟩ : ∃ r, ks2[0]? = some r := ⟨_, List.getElem?_eq_getElem hpos2⟩
          have hrad := HM2.out r (List.mem_of_getElem? hr)
          obtain ⟨b, o, rfl, hbl, hc⟩ := HRb.out hpos2
          have HNb := Lib.hid (HNw.out b o rfl)
          have HYC0 : Hid (∀ W, Below w2.heap.size w2 W → ∀ j v, r.cells.toList[j]? = some v → W.cell? ((⟨b, o, none⟩ : Addr).add j) = some v) := Lib.hid (fun W hW j v hv => by
            have h := hc 0 r hr j v hv
            rw [Nat.zero_mul, Nat.add_zero] at h
            exact (hW.cell (p := (⟨b, o, none⟩ : Addr).add j) (by rw [Addr.add_lit]; exact hbl)).trans h)
          have HYC := Lib.hid (HYC0.out w2 (Below.refl _ _))
          have HYS := Lib.hid (sizeRv hrad)
          have HK2 : Hid (chF an qt (8 - (k + 1)) r.tx (way ++ [r]) = chF an qt 8 qn []) := Lib.hid (by rw [HQ.out.2]; exact HKo.out r hzero hr)
          have HW2 : Hid (∀ x ∈ way ++ [r], x.ad.length = 16) := Lib.hid (fun x hx => by
            rcases List.mem_append.1 hx with h | h
            · exact HWa.out x h
            · rw [List.mem_singleton.1 h]; exact hrad)
          have hwl2 : (way ++ [r]).length ≤ k + 1 := by rw [List.length_append, List.length_singleton]; exact Nat.succ_le_succ hwl
          obtain ⟨rl, hrl⟩ : ∃ rl : List Value, r.cells = rl.toArray := ⟨r.cells.toList, by rw [Array.toArray_toList]⟩
          have HRl : Hid (r.cells.toList = rl) := Lib.hid (by rw [hrl])
          have HCL : Hid (rl.length = 21) := Lib.hid (by have h := RV.size hrad; rw [hrl] at h; simpa using h)
          have HC1 : Hid (∀ u ∈ rl, u.oneCell' = true) := Lib.hid (fun u hu => by
            have h := RV.one r
            rw [hrl, Array.all_eq_true'] at h
            exact h u (by simpa using hu))
          have H19 : Hid (rl[19]? = some (.string r.tx)) := Lib.hid (by rw [← HRl.out, Array.getElem?_toList]; exact r.c19 hrad)
          rw [hrl] at HYC HYS HYC0
          have HO6 : Hid ((w2.alloc (.cells rl.toArray 41)).ownsRow (w.heap.size + 2) 41 21 v way.length (rcs way)) := Lib.hid (HP2.out.to ((Below.refl _ _).alloc (Nat.le_refl _) (.cells rl.toArray 41))).own
          have HB6 : Hid (w.heap.size + 2 ≤ (w2.alloc (.cells rl.toArray 41)).heap.size) := Lib.hid (HP2.out.to ((Below.refl _ _).alloc (Nat.le_refl _) (.cells rl.toArray 41))).hb
          have HN : Hid (∀ v1 w1, w1.ownsRow (w.heap.size + 2) 41 21 v1 (way.length + 1) (rcs way ++ rl) → (w2.alloc (.cells rl.toArray 41)).grownBy w1 v.ownBlock → OfAt w w1 MC (way ++ [r]) v1) := Lib.hid (fun v1 w1 h1 h2 => by
            rw [← HRl.out] at h1
            exact (HP2.out.to ((Below.refl _ _).alloc (Nat.le_refl _) (.cells rl.toArray 41))).app h1 h2)
          have HRw : Hid (∀ j y, rl[j]? = some y → (w2.alloc (.cells rl.toArray 41)).cell? ⟨w2.heap.size, j, none⟩ = some y) := Lib.hid (fun j y hj => by
            exact (cell_of_row _ _ j _ _ _ (heap_alloc_last w2 (.cells rl.toArray 41))).trans (by rw [List.getElem?_toArray]; exact hj))
          have HTx : Hid (∀ w9, (w2.alloc (.cells rl.toArray 41)).grownBy w9 v.ownBlock → w9.cell? ⟨b, o + 19, none⟩ = some (.string r.tx)) := Lib.hid (fun w9 hg9 => by
            have h1 := HYC0.out _ ((Below.refl _ w2).alloc (Nat.le_refl _) (.cells rl.toArray 41)) 19 _ H19.out
            rw [Addr.add_lit] at h1
            exact (World.cell?_of_block (a := ⟨b, o + 19, none⟩) (hg9.block b (by simp only [World.size_alloc]; omega) HNb.out)).trans h1)
          generalize way ++ [r] = way2 at HK2 HW2 hwl2 HN
          generalize r.tx = tx at HK2 HTx
          generalize rcs way = rcs0 at HO6 HN
          generalize way.length = nrs at HO6 HN hwl
          have hnrs : (nrs : Int) ≤ 8 := by omega
          clear HKe HKo HWa H19 HRl HP2 HRb HYC0 hrl hr hrad hc hbl HNw HNb HM1 HM2
          go_wp2_with (first
            | (refine wpList_load_agg rfl 41 (.tmp 47) rfl ⟨b, o, none⟩ (by first | rfl | go_num) rl.toArray _ HYC.out Try.underlying41 rfl HYS.out ?_; go_simp)
            | (refine wpList_buildSlice rfl 30 41 1 #[(0, .tmp 48)] rfl rl.toArray i0 _ Try.underlying30 HI.out HZ0.out (by rw [HZ1.out]; decide) (by rw [HZ1.out]; decide) (by rw [HZ1.out]; refine (congrArg _ (?_ : _ = [(0, Value.agg rl.toArray)])).trans (fill21c HCL.out); rw [Array.toList_map]; rfl) ?_; go_simp)
            | (at_builtin; refine wpList_append_own (w := w2.alloc (.cells rl.toArray 41)) rfl (.tmp 45) (.tmp 49) 30 rfl (w.heap.size + 2) 41 i0 _ 21 80 Try.underlying30 HI.out HZ0.out HZ1.out HZ2.out rfl (by decide) v nrs rcs0 rfl HO6.out ⟨w2.heap.size, 0, none⟩ 1 1 rl rfl (by rw [HCL.out]) (fun j u hj => by rw [Addr.add_lit, Nat.zero_add]; exact HRw.out j u hj) HC1.out (by unfold maxLen; omega) (by omega) HB6.out ?_; intro v1 w9 ho1 hg1 hnil; clear hnil; have HNX := Lib.hid (HN.out v1 w9 ho1 hg1); have d19 := HTx.out w9 hg1; clear ho1 hg1; go_simp))
          go_roundw
          case rel => exact ⟨k + 1, tx, way2, _, by omega, hwl2, by first | rfl | go_num, rfl, rfl, HNX, HK2, HW2⟩
          case measure => simp [intOf]; omega
        · have hzero2 : ks2.length = 0 := by omega
          rw [hzero2]
          have HEnd : Hid (chF an qt 8 qn [] = (nm, way, none)) := Lib.hid (HKe.out hzero hzero2).symm
          clear HKe HKo HRb HM1 HM2 HNw hpos hpos2
          obtain ⟨Av, cv, rfl⟩ := own_sl4 HP2.out.own
          have HP := HP2
          clear HP2
          generalize w2 = wr at HP ⊢
          go_upto_region 15 with fail
          clear HA
          have e5 := (cell_of_row _ w.heap.size 5 _ _ _ HP.out.m).trans HC5.out
          have e4 := (cell_of_row _ w.heap.size 4 _ _ _ HP.out.m).trans HC4.out
          have HMm := Lib.hid HP.out.m
          have HZz := Lib.hid HP.out.z
          have HBb := Lib.hid HP.out.below
          have HWr := Lib.hid (own_recs HP.out.own HWa.out)
          have hwl2 : way.length ≤ 1000 := by omega
          have HTt := Lib.hid (ttl_rv (c := cv) HWr.out HWa.out hwl2)
          have HOe := Lib.hid (HOf.out nm way HEnd.out)
          clear HP HOf HWr HEnd HWa
          generalize way.length = nw at HTt hwl hwl2 ⊢
          generalize lstI way = lw at HTt HOe
          cases hq : (nm.toList == qn.toList) with
          | true =>
            have HOe2 : Hid (OFF = NF) := Lib.hid (by rw [HOe.out, hq]; simp)
            clear HOe HTt
            go_upto_region 17 with fail
            go_wp2_with (first
              | (refine wpList_load_row rfl 32 (.tmp 1) rfl w.heap.size rfl 32 MC (0, 0) _ HMm.out Try.underlying32 rfl SM.out ?_; go_simp))
            refine (HNo.out _ HBb.out).mono ?_
            rintro e w3 ⟨A3, c3, rfl, hb3, hr3⟩
            have HB3 := Lib.hid (HBb.out.trans (hb3.mono HBb.out.size))
            have HZ3 := Lib.hid ((hb3.block _ (heap_lt HZz.out)).trans HZz.out)
            have HR3 := Lib.hid hr3
            clear hb3 HNo HMm HZz e5 e4 hr3
            generalize hNF1 : NF.out = n1 at *
            generalize hNF2 : NF.nx = n2 at *
            generalize hNF3 : NF.ttl = n3 at *
            generalize hNF4 : NF.rs = n4 at *
            have HNF : Hid (NF = ⟨n1, n4, n2, n3⟩) := Lib.hid (by rw [← hNF1, ← hNF2, ← hNF3, ← hNF4])
            clear hNF1 hNF2 hNF3 hNF4
            go_wp2_with (first
              | (refine wpList_store_blk rfl 35 (.tmp 2) (.tmp 71) rfl (w.heap.size + 1) (FC 0 (.slice none 0 0) ⟨#[]⟩ 0) (FC n1 (.slice A3 n4.length c3) n2 n3) 35 HZ3.out rfl rfl (sizeF _ _ _ _) rfl (FC_one _ _ _ _ _ _) ?_; intro w9 hg9 hw9 hz9; go_simp))
            exact bodyPost_ret (results_cell_row rfl _ w9 (w.heap.size + 1) 35 (FC n1 (.slice A3 n4.length c3) n2 n3) (0, 0) _ rfl hg9.out Try.underlying35 rfl (sizeF _ _ _ _)) rfl (by
              rw [HOe2.out, HNF.out]
              exact ⟨A3, c3, rfl, HB3.out.grown hw9.out HB3.out.size (fun k e => by injection e with e; omega), recs_past (x := FC 0 (.slice none 0 0) ⟨#[]⟩ 0) HR3.out HZ3.out hw9.out⟩)
          | false =>
            by_cases hc0 : code = 0
            · have HOe2 : Hid (OFF = ⟨0, [], nm, lw⟩) := Lib.hid (by rw [HOe.out, hq, if_pos ⟨rfl, hc0⟩])
              have HBn := Lib.hid (builtF23 nm lw)
              subst hc0
              clear HOe HNo
              go_upto_region 16 with fail
              go_wp2_with fail
              refine HTt.out.mono ?_
              rintro e w3 ⟨rfl, hb3⟩
              have HB3 := Lib.hid (HBb.out.trans (hb3.mono HBb.out.size))
              have HZ3 := Lib.hid ((hb3.block _ (heap_lt HZz.out)).trans HZz.out)
              clear hb3 HTt HMm HZz e5 e4
              go_wp2_with (first
                | (refine wpList_build_v rfl 35 #[(2, .tmp 66), (3, .tmp 68)] rfl _ (FC 0 (.slice none 0 0) nm lw) HBn.out rfl ?_; go_simp)
                | (refine wpList_store_blk rfl 35 (.tmp 2) (.tmp 69) rfl (w.heap.size + 1) (FC 0 (.slice none 0 0) ⟨#[]⟩ 0) (FC 0 (.slice none 0 0) nm lw) 35 HZ3.out rfl rfl (sizeF _ _ _ _) rfl (FC_one _ _ _ _ _ _) ?_; intro w9 hg9 hw9 hz9; go_simp))
              exact bodyPost_ret (results_cell_row rfl _ w9 (w.heap.size + 1) 35 (FC 0 (.slice none 0 0) nm lw) (0, 0) _ rfl hg9.out Try.underlying35 rfl (sizeF _ _ _ _)) rfl (by
                rw [HOe2.out]
                exact ⟨none, 0, rfl, HB3.out.grown hw9.out HB3.out.size (fun k e => by injection e with e; omega), recsAt_none⟩)
            · have HOe2 : Hid (OFF = NF) := Lib.hid (by rw [HOe.out, if_neg (fun h => hc0 h.2)])
              have hc0b : (code == 0) = false := by simp [hc0]
              clear HOe HTt hc0
              go_upto_region 17 with fail
              go_wp2_with (first
                | (refine wpList_load_row rfl 32 (.tmp 1) rfl w.heap.size rfl 32 MC (0, 0) _ HMm.out Try.underlying32 rfl SM.out ?_; go_simp))
              refine (HNo.out _ HBb.out).mono ?_
              rintro e w3 ⟨A3, c3, rfl, hb3, hr3⟩
              have HB3 := Lib.hid (HBb.out.trans (hb3.mono HBb.out.size))
              have HZ3 := Lib.hid ((hb3.block _ (heap_lt HZz.out)).trans HZz.out)
              have HR3 := Lib.hid hr3
              clear hb3 HNo HMm HZz e5 e4 hr3
              generalize hNF1 : NF.out = n1 at *
              generalize hNF2 : NF.nx = n2 at *
              generalize hNF3 : NF.ttl = n3 at *
              generalize hNF4 : NF.rs = n4 at *
              have HNF : Hid (NF = ⟨n1, n4, n2, n3⟩) := Lib.hid (by rw [← hNF1, ← hNF2, ← hNF3, ← hNF4])
              clear hNF1 hNF2 hNF3 hNF4
              go_wp2_with (first
                | (refine wpList_store_blk rfl 35 (.tmp 2) (.tmp 71) rfl (w.heap.size + 1) (FC 0 (.slice none 0 0) ⟨#[]⟩ 0) (FC n1 (.slice A3 n4.length c3) n2 n3) 35 HZ3.out rfl rfl (sizeF _ _ _ _) rfl (FC_one _ _ _ _ _ _) ?_; intro w9 hg9 hw9 hz9; go_simp))
              exact bodyPost_ret (results_cell_row rfl _ w9 (w.heap.size + 1) 35 (FC n1 (.slice A3 n4.length c3) n2 n3) (0, 0) _ rfl hg9.out Try.underlying35 rfl (sizeF _ _ _ _)) rfl (by
                rw [HOe2.out, HNF.out]
                exact ⟨A3, c3, rfl, HB3.out.grown hw9.out HB3.out.size (fun k e => by injection e with e; omega), recs_past (x := FC 0 (.slice none 0 0) ⟨#[]⟩ 0) HR3.out HZ3.out hw9.out⟩)
    · obtain rfl : k = 8 := by omega
      have HEnd : Hid (chF an qt 8 qn [] = (nm, way, none)) := Lib.hid HK.out.symm
      have HOs := HOf
      obtain ⟨Av, cv, rfl⟩ := own_sl4 HP.out.own
      clear HK
      go_upto_region 15 with fail
      clear HA
      have e5 := (cell_of_row _ w.heap.size 5 _ _ _ HP.out.m).trans HC5.out
      have e4 := (cell_of_row _ w.heap.size 4 _ _ _ HP.out.m).trans HC4.out
      have HMm := Lib.hid HP.out.m
      have HZz := Lib.hid HP.out.z
      have HBb := Lib.hid HP.out.below
      have HWr := Lib.hid (own_recs HP.out.own HWa.out)
      have hwl2 : way.length ≤ 1000 := by omega
      have HTt := Lib.hid (ttl_rv (c := cv) HWr.out HWa.out hwl2)
      have HOe := Lib.hid (HOf.out nm way HEnd.out)
      clear HP HOf HWr HEnd HWa
      generalize way.length = nw at HTt hwl hwl2 ⊢
      generalize lstI way = lw at HTt HOe
      cases hq : (nm.toList == qn.toList) with
      | true =>
        have HOe2 : Hid (OFF = NF) := Lib.hid (by rw [HOe.out, hq]; simp)
        clear HOe HTt
        go_upto_region 17 with fail
        go_wp2_with (first
          | (refine wpList_load_row rfl 32 (.tmp 1) rfl w.heap.size rfl 32 MC (0, 0) _ HMm.out Try.underlying32 rfl SM.out ?_; go_simp))
        refine (HNo.out _ HBb.out).mono ?_
        rintro e w3 ⟨A3, c3, rfl, hb3, hr3⟩
        have HB3 := Lib.hid (HBb.out.trans (hb3.mono HBb.out.size))
        have HZ3 := Lib.hid ((hb3.block _ (heap_lt HZz.out)).trans HZz.out)
        have HR3 := Lib.hid hr3
        clear hb3 HNo HMm HZz e5 e4 hr3
        generalize hNF1 : NF.out = n1 at *
        generalize hNF2 : NF.nx = n2 at *
        generalize hNF3 : NF.ttl = n3 at *
        generalize hNF4 : NF.rs = n4 at *
        have HNF : Hid (NF = ⟨n1, n4, n2, n3⟩) := Lib.hid (by rw [← hNF1, ← hNF2, ← hNF3, ← hNF4])
        clear hNF1 hNF2 hNF3 hNF4
        go_wp2_with (first
          | (refine wpList_store_blk rfl 35 (.tmp 2) (.tmp 71) rfl (w.heap.size + 1) (FC 0 (.slice none 0 0) ⟨#[]⟩ 0) (FC n1 (.slice A3 n4.length c3) n2 n3) 35 HZ3.out rfl rfl (sizeF _ _ _ _) rfl (FC_one _ _ _ _ _ _) ?_; intro w9 hg9 hw9 hz9; go_simp))
        exact bodyPost_ret (results_cell_row rfl _ w9 (w.heap.size + 1) 35 (FC n1 (.slice A3 n4.length c3) n2 n3) (0, 0) _ rfl hg9.out Try.underlying35 rfl (sizeF _ _ _ _)) rfl (by
          rw [HOe2.out, HNF.out]
          exact ⟨A3, c3, rfl, HB3.out.grown hw9.out HB3.out.size (fun k e => by injection e with e; omega), recs_past (x := FC 0 (.slice none 0 0) ⟨#[]⟩ 0) HR3.out HZ3.out hw9.out⟩)
      | false =>
        by_cases hc0 : code = 0
        · have HOe2 : Hid (OFF = ⟨0, [], nm, lw⟩) := Lib.hid (by rw [HOe.out, hq, if_pos ⟨rfl, hc0⟩])
          have HBn := Lib.hid (builtF23 nm lw)
          subst hc0
          clear HOe HNo
          go_upto_region 16 with fail
          go_wp2_with fail
          refine HTt.out.mono ?_
          rintro e w3 ⟨rfl, hb3⟩
          have HB3 := Lib.hid (HBb.out.trans (hb3.mono HBb.out.size))
          have HZ3 := Lib.hid ((hb3.block _ (heap_lt HZz.out)).trans HZz.out)
          clear hb3 HTt HMm HZz e5 e4
          go_wp2_with (first
            | (refine wpList_build_v rfl 35 #[(2, .tmp 66), (3, .tmp 68)] rfl _ (FC 0 (.slice none 0 0) nm lw) HBn.out rfl ?_; go_simp)
            | (refine wpList_store_blk rfl 35 (.tmp 2) (.tmp 69) rfl (w.heap.size + 1) (FC 0 (.slice none 0 0) ⟨#[]⟩ 0) (FC 0 (.slice none 0 0) nm lw) 35 HZ3.out rfl rfl (sizeF _ _ _ _) rfl (FC_one _ _ _ _ _ _) ?_; intro w9 hg9 hw9 hz9; go_simp))
          exact bodyPost_ret (results_cell_row rfl _ w9 (w.heap.size + 1) 35 (FC 0 (.slice none 0 0) nm lw) (0, 0) _ rfl hg9.out Try.underlying35 rfl (sizeF _ _ _ _)) rfl (by
            rw [HOe2.out]
            exact ⟨none, 0, rfl, HB3.out.grown hw9.out HB3.out.size (fun k e => by injection e with e; omega), recsAt_none⟩)
        · have HOe2 : Hid (OFF = NF) := Lib.hid (by rw [HOe.out, if_neg (fun h => hc0 h.2)])
          have hc0b : (code == 0) = false := by simp [hc0]
          clear HOe HTt hc0
          go_upto_region 17 with fail
          go_wp2_with (first
            | (refine wpList_load_row rfl 32 (.tmp 1) rfl w.heap.size rfl 32 MC (0, 0) _ HMm.out Try.underlying32 rfl SM.out ?_; go_simp))
          refine (HNo.out _ HBb.out).mono ?_
          rintro e w3 ⟨A3, c3, rfl, hb3, hr3⟩
          have HB3 := Lib.hid (HBb.out.trans (hb3.mono HBb.out.size))
          have HZ3 := Lib.hid ((hb3.block _ (heap_lt HZz.out)).trans HZz.out)
          have HR3 := Lib.hid hr3
          clear hb3 HNo HMm HZz e5 e4 hr3
          generalize hNF1 : NF.out = n1 at *
          generalize hNF2 : NF.nx = n2 at *
          generalize hNF3 : NF.ttl = n3 at *
          generalize hNF4 : NF.rs = n4 at *
          have HNF : Hid (NF = ⟨n1, n4, n2, n3⟩) := Lib.hid (by rw [← hNF1, ← hNF2, ← hNF3, ← hNF4])
          clear hNF1 hNF2 hNF3 hNF4
          go_wp2_with (first
            | (refine wpList_store_blk rfl 35 (.tmp 2) (.tmp 71) rfl (w.heap.size + 1) (FC 0 (.slice none 0 0) ⟨#[]⟩ 0) (FC n1 (.slice A3 n4.length c3) n2 n3) 35 HZ3.out rfl rfl (sizeF _ _ _ _) rfl (FC_one _ _ _ _ _ _) ?_; intro w9 hg9 hw9 hz9; go_simp))
          exact bodyPost_ret (results_cell_row rfl _ w9 (w.heap.size + 1) 35 (FC n1 (.slice A3 n4.length c3) n2 n3) (0, 0) _ rfl hg9.out Try.underlying35 rfl (sizeF _ _ _ _)) rfl (by
            rw [HOe2.out, HNF.out]
            exact ⟨A3, c3, rfl, HB3.out.grown hw9.out HB3.out.size (fun k e => by injection e with e; omega), recs_past (x := FC 0 (.slice none 0 0) ⟨#[]⟩ 0) HR3.out HZ3.out hw9.out⟩)
end Go.Proofs.Ytgbijhinihchgaa

