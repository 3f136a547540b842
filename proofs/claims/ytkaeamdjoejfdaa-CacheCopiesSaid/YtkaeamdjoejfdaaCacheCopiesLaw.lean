/-
  The walk of CacheCopies: what is put, and what is told, may be changed without harm; TTLs are at least 0, and the least of several is told. Condition: the numbers stand in the list's cells.
-/
import Derived.Test.YtkaeamdjoejfdaaCacheTtl
import Derived.BigQuiet
namespace Go.Proofs.Ytkaeamdjoejfdaa
open Go.RowKit Go.Lib

theorem below_drewQ {B : Nat} {a w : World} (h : Below B a w) (q : Nat) : Below B a (w.drewN q) := ⟨h.os, h.tape, h.output, h.size, h.block⟩
/-- a number's last twelve bits -/
def tI (x : Int) : Nat := (bits BinOp.and IntKind.i64 x 4095).toNat
theorem tI_eq (x : Int) : bits BinOp.and IntKind.i64 x 4095 = (tI x : Int) ∧ tI x ≤ 4095 := by
  obtain ⟨m, hm, h⟩ := and_n x 4095 (by omega)
  have h : bits BinOp.and IntKind.i64 x 4095 = (m : Int) := h
  unfold tI
  rw [h]
  exact ⟨rfl, by simpa using hm⟩
/-- a record by its data and TTL -/
def recD (S : ByteArray) (t : Nat) : Rc := ⟨⟨#[97]⟩, 1, t, zr.take 17 ++ [.string S]⟩
theorem recD_ok (S : ByteArray) (t : Nat) (h : t ≤ big) : (recD S t).Ok := by
  refine ⟨rfl, h, ?_⟩
  intro u hu
  rcases List.mem_append.1 hu with hu | hu
  · have : ((zr.take 17).all (·.oneCell')) = true := by decide
    rw [List.all_eq_true] at this
    exact this u hu
  · rw [List.mem_singleton.1 hu]; rfl
def rds (ls : List Int) (k : Nat) : List Rc := (List.range k).map fun j => recD (nmB j) (tI (ls.getD j 0))
theorem rds_len (ls : List Int) (k : Nat) : (rds ls k).length = k := by unfold rds; simp
theorem rds_ok (ls : List Int) (k : Nat) : ∀ r ∈ rds ls k, r.Ok := fun r hr => by
  obtain ⟨j, _, rfl⟩ := List.mem_map.1 hr
  exact recD_ok _ _ (by have := (tI_eq (ls.getD j 0)).2; unfold big; omega)
theorem rds_small (ls : List Int) (k : Nat) : ∀ r ∈ rds ls k, r.t ≤ 1048576 := fun r hr => by
  obtain ⟨j, _, rfl⟩ := List.mem_map.1 hr
  have := (tI_eq (ls.getD j 0)).2
  show tI _ ≤ _
  omega
theorem rds_snoc (ls : List Int) (k : Nat) : rds ls (k + 1) = rds ls k ++ [recD (nmB k) (tI (ls.getD k 0))] := by unfold rds; rw [List.range_succ, List.map_append]; rfl
theorem rds_at (ls : List Int) {k j : Nat} (h : j < k) : (rds ls k)[j]? = some (recD (nmB j) (tI (ls.getD j 0))) := by unfold rds; simp [h]
theorem aged_at {d : Nat} {l : List Rc} {j : Nat} {r : Rc} (h : l[j]? = some r) : (aged d l)[j]? = some (age d r) := by unfold aged; rw [List.getElem?_map, h]; rfl
/-- what stands behind the Put -/
structure CpAt (w wr : World) (base C gq : Nat) (p : PE) (v : Value) (n : Nat) : Prop where
  cm : CM base wr C 1 [p]
  row : ∃ xs, wr.ownsRow w.heap.size 40 21 v n xs
  q : wr.heap[gq]? = some (.cells #[.string ⟨#[97]⟩, .int .i64 1] 32 (0, 0))
  below : Below w.heap.size w wr
theorem set_grown (w : World) (g o : Nat) (v : Value) : w.grownBy (w.setCell ⟨g, o, none⟩ v) (some g) := ⟨rfl, rfl, rfl, by simp, fun k _ hk => Below.heap_setCell _ _ _ _ (fun e => hk (by rw [e]))⟩
theorem CpAt.set {w wr : World} {base C gq n g cap o : Nat} {p : PE} {u : Value} (h : CpAt w wr base C gq p (.slice (some ⟨g, 0, none⟩) n cap) n) (hg : g < base) (hq : base ≤ gq) : CpAt w (wr.setCell ⟨g, o, none⟩ u) base C gq p (.slice (some ⟨g, 0, none⟩) n cap) n := by
  obtain ⟨xs, hx⟩ := h.row
  refine ⟨h.cm.kept (set_grown wr g o u) hg, ⟨_, own_set hx o u⟩, (heap_setCell_other _ _ _ _ (show gq ≠ g by omega)).trans h.q, h.below.setCell (own_at hx).2.1 _⟩
theorem own_cell {w : World} {base n g cap i : Nat} {xs : List Value} (h : w.ownsRow base 40 21 (.slice (some ⟨g, 0, none⟩) n cap) n xs) (hi : i < n) {j : Nat} (hj : j < 21) : ∃ u, w.cell? ⟨g, i * 21 + j, none⟩ = some u ∧ w.frozen? ⟨g, i * 21 + j, none⟩ = false := by
  have hl := h.1
  have hlt : i * 21 + j < xs.length := by omega
  have := (own_at h).1 (i * 21 + j) _ (List.getElem?_eq_getElem hlt)
  exact ⟨_, this⟩
set_option maxRecDepth 100000 in
set_option maxHeartbeats 8000000 in
theorem cacheCopies_walk (A : Option Addr) (n c : Nat) (ls : List Int) (m0 : Int) (w : World) (hn : ls.length = n) (hls : IntsIn w A ls) : Calls Try.prog 4 #[.slice A n c, .int .i64 m0] w fun e w' => e = .returned (.bool true) ∧ Below w.heap.size w w' := by
  have HFit := Lib.hid (fit9_e w)
  have HLS := Lib.hid hls
  have HN := Lib.hid hn
  clear hls hn
  by_cases h30 : 30 < n
  · have hI : (30 : Int) < (n : Int) := by omega
    go_enter Try.func4, Try.ntmps4
    go_wp2_with (go_at_call 9; refine HFit.out.mono ?_; rintro e w1 ⟨rfl, hb1⟩; have HB1 := Lib.hid hb1; clear hb1; go_simp)
    go_ret
    exact ⟨rfl, HB1.out⟩
  have hn30 : n ≤ 30 := by omega
  have hI : ¬ (30 : Int) < (n : Int) := by omega
  obtain ⟨m, hm, hmB⟩ := and_n m0 4095 (by omega)
  have hmB : bits BinOp.and IntKind.i64 m0 4095 = (m : Int) := hmB
  obtain ⟨i0, z, hi, hz, hzc, hs, hb⟩ := info_Rec
  have HI := Lib.hid hi
  have HZ := Lib.hid hz
  have HZC := Lib.hid hzc
  have HS := Lib.hid hs
  have HBY := Lib.hid hb
  have HNew := Lib.hid (fun W => new_m 1 W)
  rw [show (min (max (1 : Int) 0) 16).toNat = 1 from rfl] at HNew
  clear hi hz hzc hs hb h30
  go_enter Try.func4, Try.ntmps4
  go_wp2_with (go_at_call 9; refine HFit.out.mono ?_; rintro e w1 ⟨rfl, hb1⟩; have HB1 := Lib.hid hb1; clear hb1; go_simp)
  go_loopw [25, 5, 6] (fun vi v vl wr => ∃ (k : Nat) (Ar : Option Addr) (cr : Nat), k ≤ n ∧ vi = .int .i64 k ∧ v = .slice Ar k cr ∧ vl = .int .i64 (lst ((rds ls k).map (·.t)) : Nat) ∧ Hid (wr.ownsRow w.heap.size 40 21 (.slice Ar k cr) k (recsC (rds ls k))) ∧ Hid (Below w.heap.size w wr)) (fun i _ _ _ => n - (intOf i).toNat)
  case atStart => exact ⟨0, none, 0, by omega, rfl, rfl, rfl, Lib.hid (World.ownsRow_nil _ _ _ _), HB1⟩
  case round =>
    obtain ⟨k, Ar, cr, hk, rfl, rfl, rfl, HR, HB⟩ := hrel
    by_cases hkT : k < n
    · have hkI : (k : Int) < (n : Int) := by omega
      obtain ⟨b, o, rfl, hbl, hcl⟩ := (HLS.out.below HB.out) (List.length_pos_iff.1 (by rw [HN.out]; omega))
      have hcx := hcl k (by rw [HN.out]; exact hkT)
      obtain ⟨ht, ht4⟩ := tI_eq (ls.getD k 0)
      have hsn := rds_snoc ls k
      have hlk := rds_len ls k
      have hcv := conv1 wr k (by omega)
      have hk8 : IntKind.u8.wrap (k : Int) = (k : Int) := by rw [IntKind.wrap_u8]; omega
      have HNM : Hid (nmB k = (⟨#[UInt8.ofNat k]⟩ : ByteArray)) := Lib.hid rfl
      rw [show nmB k = (⟨#[UInt8.ofNat k]⟩ : ByteArray) from rfl] at hsn
      generalize (⟨#[UInt8.ofNat k]⟩ : ByteArray) = S at hcv hsn HNM
      generalize ls.getD k 0 = X at hcx ht ht4 hsn
      generalize tI X = t at ht ht4 hsn
      have hok := recD_ok S t (by unfold big; omega)
      have HLn : Hid ((recD S t).cells.length = 1 * 21) := Lib.hid (Rc.clen hok)
      have H1 : Hid (∀ u ∈ (recD S t).cells, u.oneCell' = true) := Lib.hid (Rc.cone hok)
      have hba : Below wr.heap.size wr (wr.alloc (.cells #[.int .u8 (k : Int)] 5)) := (Below.refl _ wr).alloc (Nat.le_refl _) _
      have hsz : (wr.alloc (.cells #[.int .u8 (k : Int)] 5)).heap.size = wr.heap.size + 1 := World.size_alloc _ _
      have hbb : Below wr.heap.size wr ((wr.alloc (.cells #[.int .u8 (k : Int)] 5)).alloc (.cells (recD S t).cells.toArray 40)) := hba.alloc (by rw [hsz]; omega) _
      have hg2 := heap_alloc_last (wr.alloc (.cells #[.int .u8 (k : Int)] 5)) (.cells (recD S t).cells.toArray 40)
      rw [hsz] at hg2
      have HR2 := Lib.hid (own_below HR.out hbb)
      have HB2 := Lib.hid (HB.out.trans (hbb.mono HB.out.size))
      have HCL : Hid (∀ j u, (recD S t).cells[j]? = some u → ((wr.alloc (.cells #[.int .u8 (k : Int)] 5)).alloc (.cells (recD S t).cells.toArray 40)).cell? ((⟨wr.heap.size + 1, 0, none⟩ : Addr).add j) = some u) := Lib.hid (fun j u hj => by
        rw [Addr.add_lit, Nat.zero_add, cell_of_row _ (wr.heap.size + 1) j _ _ _ hg2]; simpa using hj)
      have hM : lst ((rds ls (k + 1)).map (·.t)) = min (lst ((rds ls k).map (·.t))) t := by rw [hsn, List.map_append]; exact lst_snoc _ _
      obtain ⟨M, hMe⟩ : ∃ M, M = lst ((rds ls k).map (·.t)) := ⟨_, rfl⟩
      rw [← hMe] at hM ⊢
      have hcase : ((M : Int) ≤ (t : Int) ∧ lst ((rds ls (k + 1)).map (·.t)) = M) ∨ ((t : Int) < (M : Int) ∧ lst ((rds ls (k + 1)).map (·.t)) = t) := by omega
      have HSN : Hid (recsC (rds ls (k + 1)) = recsC (rds ls k) ++ (recD S t).cells) := Lib.hid (by rw [hsn, recsC_append]; simp [recsC])
      clear hcl hbl hM hMe hsn hok hba hsz hbb hg2 HR HB
      generalize recsC (rds ls k) = xs at HR2 HSN
      rcases hcase with ⟨hle, hM2⟩ | ⟨hle, hM2⟩
      all_goals
        have HM2 := Lib.hid hM2
        clear hM2
        go_wp2_with (first
          | (at_builtin; refine wpList_append_own (w := (wr.alloc (.cells #[.int .u8 (k : Int)] 5)).alloc (.cells (recD S t).cells.toArray 40)) rfl (.tmp 32) (.tmp 39) 41 rfl w.heap.size 40 i0 z 21 80 Try.underlying41 HI.out HZ.out HS.out HBY.out HZC.out (by decide) (.slice Ar k cr) k xs rfl HR2.out ⟨wr.heap.size + 1, 0, none⟩ 1 1 (recD S t).cells rfl HLn.out HCL.out H1.out (by unfold maxLen; omega) (by omega) HB2.out.size ?_; intro v1 w6 ho1 hg1 hnil; clear hnil; obtain ⟨A1, c1, rfl⟩ := own_sl ho1; rw [← HSN.out] at ho1; have HO1 := Lib.hid ho1; have HB6 := Lib.hid (HB2.out.grown hg1 HB2.out.size (fun j e => (HR2.out.lt j e).1)); clear ho1 hg1; go_simp))
        go_roundw
        case rel => exact ⟨k + 1, A1, c1, by omega, by first | rfl | go_num, by first | rfl | go_num, by rw [HM2.out], HO1, HB6⟩
        case measure => simp [intOf]; omega
    · obtain rfl : k = n := by omega
      have hkI : ¬ (k : Int) < (k : Int) := by omega
      have hlk := rds_len ls k
      have hT : Calls Try.prog 17 #[.slice Ar k cr] wr fun e w' => e = .returned (.int .i64 (lst ((rds ls k).map (·.t)) : Nat)) ∧ Below wr.heap.size wr w' := by
        have h := ttl_e (w := wr) (A := Ar) (c := cr) (rs := rds ls k) (by rw [hlk]; exact RecsIn.of_own HR.out (recsC_one (rds_ok ls k))) (rds_ok ls k) (rds_small ls k) (by rw [hlk]; omega)
        rw [hlk] at h
        exact h
      have hT0 : ∀ W : World, Calls Try.prog 17 #[.slice none 0 0] W fun e w' => e = .returned (.int .i64 1048576) ∧ Below W.heap.size W w' := fun W => ttl_e (w := W) (A := none) (c := 0) (rs := []) (RecsIn.nil _) (fun r hr => by cases hr) (fun r hr => by cases hr) (by decide)
      obtain ⟨M, hMe⟩ : ∃ M, M = lst ((rds ls k).map (·.t)) := ⟨_, rfl⟩
      rw [← hMe] at hT ⊢
      have HT := Lib.hid hT
      have HT0 := Lib.hid hT0
      obtain ⟨T, hTm⟩ : ∃ T : Nat, (m : Int) + 1 = (T : Int) := ⟨m + 1, by omega⟩
      obtain ⟨N1, hN1⟩ : ∃ N1 : Nat, 3 + (m : Int) = (N1 : Int) := ⟨3 + m, by omega⟩
      obtain ⟨N2, hN2⟩ : ∃ N2 : Nat, 4 + (m : Int) = (N2 : Int) := ⟨4 + m, by omega⟩
      have HRO := Lib.hid (rds_ok ls k)
      have HLK := Lib.hid hlk
      clear hT hT0 hMe hlk
      go_wp2_with fail
      refine HT.out.mono ?_
      rintro e w2 ⟨rfl, hb2⟩
      have HR2 := Lib.hid (own_below HR.out hb2)
      have HB2 := Lib.hid (HB.out.trans (hb2.mono HB.out.size))
      clear hb2 HT HR HB
      go_wp2_with (first
        | (go_at_call 17; refine (HT0.out _).mono ?_; rintro e w3 ⟨rfl, hb3⟩; have HR3 := Lib.hid (own_below HR2.out hb3); have HB3 := Lib.hid (HB2.out.trans (hb3.mono HB2.out.size)); clear hb3; go_simp))
      refine (HNew.out w3).mono ?_
      rintro e w4 ⟨C, hC, rfl, hc4, hb4⟩
      obtain ⟨base, hbase⟩ : ∃ base, base = w3.heap.size := ⟨_, rfl⟩
      rw [← hbase] at hc4
      have hba : Below w4.heap.size w4 (w4.alloc (.cells #[.string ⟨#[97]⟩, .int .i64 1] 32)) := (Below.refl _ w4).alloc (Nat.le_refl _) _
      have hb5 := hb4.trans (hba.mono hb4.size)
      have HQ5 := Lib.hid (heap_alloc_last w4 (.cells #[.string ⟨#[97]⟩, .int .i64 1] 32))
      have HC5 := Lib.hid (hc4.below hba)
      have HR5 := Lib.hid (own_below HR3.out hb5)
      have HB5 := Lib.hid (HB3.out.trans (hb5.mono HB3.out.size))
      have HGQ : Hid (base ≤ w4.heap.size) := Lib.hid (by rw [hbase]; exact hb4.size)
      have HGR : Hid (∀ g cap, (Value.slice Ar k cr) = .slice (some ⟨g, 0, none⟩) k cap → g < base) := Lib.hid (fun g cap e => by rw [hbase]; exact (HR3.out.lt g (by rw [e]; rfl)).2)
      have HBA : Hid (w.heap.size ≤ base) := Lib.hid (by rw [hbase]; exact HB3.out.size)
      clear hb4 hba hb5 hc4 hC hbase HR3 HB3 HR2 HB2 HT0 HNew
      go_wp2_with fail
      generalize w4.alloc (.cells #[.string ⟨#[97]⟩, .int .i64 1] 32) = w5 at *
      generalize w4.heap.size = gq at *
      have HRI : Hid (RecsIn w5 (.slice Ar k cr) (rds ls k).length (recsC (rds ls k))) := Lib.hid (by rw [HLK.out]; exact RecsIn.of_own HR5.out (recsC_one HRO.out))
      refine (put_m HC5.out 3 (by decide) ⟨#[97]⟩ 1 5 HRI.out HRO.out (by rw [HLK.out]; omega) T T (by omega) (by omega) (by decide)).mono ?_
      rintro e w6 ⟨ps', rfl, hc6, hr6, hs6⟩
      obtain rfl := put_empty (by decide) hr6
      have HP6 : Hid (CpAt w w6 base C gq ⟨⟨#[97]⟩, 1, 5, rds ls k, 3, T⟩ (.slice Ar k cr) k) := Lib.hid ⟨hc6, ⟨_, own_step HR5.out (by decide) (by decide) hs6⟩, hs6.keep gq _ HQ5.out (other_cells (by decide) (by decide)), HB5.out.trans (hs6.below.mono HBA.out)⟩
      clear hc6 hr6 hs6 HRI HR5 HC5 HQ5 HB5
      have HO1 := Lib.hid (getO_here (now := 3) (qn := ⟨#[97]⟩) (qt := 1) (out := 5) (rs := rds ls k) (frm := 3) (T := T) (by omega))
      have HO2 := Lib.hid (getO_here (now := N1) (qn := ⟨#[97]⟩) (qt := 1) (out := 5) (rs := rds ls k) (frm := 3) (T := T) (by omega))
      have HO3 := Lib.hid (getO_gone (now := N2) (qn := ⟨#[97]⟩) (qt := 1) (out := 5) (rs := rds ls k) (frm := 3) (T := T) (by omega))
      go_wp2_with fail
      go_loopw [65] (fun vi wr => ∃ i : Nat, i ≤ k ∧ vi = .int .i64 i ∧ Hid (CpAt w wr base C gq ⟨⟨#[97]⟩, 1, 5, rds ls k, 3, T⟩ (.slice Ar k cr) k)) (fun i _ => k - (intOf i).toNat)
      case atStart => exact ⟨0, by omega, rfl, HP6⟩
      case round =>
        obtain ⟨i, hik, rfl, HP⟩ := hrel
        by_cases hiT : i < k
        · have hiI : (i : Int) < (k : Int) := by omega
          obtain ⟨xs, hxs⟩ := HP.out.row
          obtain ⟨g2, hg2⟩ : ∃ g2, Ar = some ⟨g2, 0, none⟩ := by
            rcases hxs.2 with ⟨_, h0⟩ | ⟨g', _, _, hv, _⟩
            · omega
            · injection hv with hv
              exact ⟨g', hv⟩
          subst hg2
          obtain ⟨u, hu, hf⟩ := own_cell hxs hiT (j := 2) (by omega)
          have HNX := Lib.hid (HP.out.set (o := i * 21 + 2) (u := .int .i64 7) (HGR.out g2 cr rfl) HGQ.out)
          clear hxs HP
          go_wp2_with fail
          go_roundw
          case rel => exact ⟨i + 1, by omega, by first | rfl | go_num, HNX⟩
          case measure => simp [intOf]; omega
        · obtain rfl : i = k := by omega
          have hiI : ¬ (i : Int) < (i : Int) := by omega
          have HC7 := Lib.hid HP.out.cm
          have HQ7 := Lib.hid HP.out.q
          have HB7 := Lib.hid HP.out.below
          have q0 := cell_of_row wr gq 0 _ _ _ HQ7.out
          have q1 := cell_of_row wr gq 1 _ _ _ HQ7.out
          simp only [List.getElem?_toArray, List.getElem?_cons_succ, List.getElem?_cons_zero] at q0 q1
          clear HP HP6 HGR
          generalize wr = w7 at *
          go_wp2_with fail
          refine (get_m HC7.out 3 (by decide) ⟨#[97]⟩ 1 (fun p hp => by rw [List.mem_singleton.1 hp]; exact Nat.le_refl _)).mono ?_
          rintro e w8 hgm
          obtain ⟨lv, rfl, ho, hok, hb8⟩ := hgm.some HO1.out
          rw [HLK.out] at ho
          obtain ⟨Ax, cx, rfl⟩ := own_sl ho
          have HX8 : Hid (∃ xs, w8.ownsRow w7.heap.size 40 21 (.slice Ax i cx) i xs) := Lib.hid ⟨_, ho⟩
          have HB8 := Lib.hid hb8
          clear hgm ho hok hb8 q0 q1
          go_wp2_with fail
          go_loopw [81] (fun vi wr => ∃ j : Nat, j ≤ i ∧ vi = .int .i64 j ∧ Hid (∃ xs, wr.ownsRow w7.heap.size 40 21 (.slice Ax i cx) i xs) ∧ Hid (Below w7.heap.size w7 wr)) (fun j _ => i - (intOf j).toNat)
          case atStart => exact ⟨0, by omega, rfl, HX8, HB8⟩
          case round =>
            obtain ⟨j, hji, rfl, HX, HB⟩ := hrel
            by_cases hjT : j < i
            · have hjI : (j : Int) < (i : Int) := by omega
              obtain ⟨xs, hxs⟩ := HX.out
              obtain ⟨g2, hg2⟩ : ∃ g2, Ax = some ⟨g2, 0, none⟩ := by
                rcases hxs.2 with ⟨_, h0⟩ | ⟨g', _, _, hv, _⟩
                · omega
                · injection hv with hv
                  exact ⟨g', hv⟩
              subst hg2
              obtain ⟨u, hu, hf⟩ := own_cell hxs hjT (j := 0) (by omega)
              have HNX : Hid (∃ xs, (wr.setCell ⟨g2, j * 21 + 0, none⟩ (.string ⟨#[122]⟩)).ownsRow w7.heap.size 40 21 (.slice (some ⟨g2, 0, none⟩) i cx) i xs) := Lib.hid ⟨_, own_set hxs (j * 21 + 0) (.string ⟨#[122]⟩)⟩
              have HNB : Hid (Below w7.heap.size w7 (wr.setCell ⟨g2, j * 21 + 0, none⟩ (.string ⟨#[122]⟩))) := Lib.hid (HB.out.setCell (own_at hxs).2.1 _)
              rw [Nat.add_zero] at hu hf HNX HNB
              clear hxs HX HB
              go_wp2_with fail
              go_roundw
              case rel => exact ⟨j + 1, by omega, by first | rfl | go_num, HNX, HNB⟩
              case measure => simp [intOf]; omega
            · obtain rfl : j = i := by omega
              have hjI : ¬ (j : Int) < (j : Int) := by omega
              have HC9 := Lib.hid (HC7.out.below HB.out)
              have HQ9 := Lib.hid ((HB.out.block gq (heap_lt HQ7.out)).trans HQ7.out)
              have HB9 := Lib.hid (HB7.out.trans (HB.out.mono HB7.out.size))
              have q0 := cell_of_row wr gq 0 _ _ _ HQ9.out
              have q1 := cell_of_row wr gq 1 _ _ _ HQ9.out
              simp only [List.getElem?_toArray, List.getElem?_cons_succ, List.getElem?_cons_zero] at q0 q1
              clear HX HB HX8 HB8 HC7 HQ7 HB7
              generalize wr = w9 at *
              go_wp2_with fail
              refine (get_m HC9.out N1 (by unfold big; omega) ⟨#[97]⟩ 1 (fun p hp => by rw [List.mem_singleton.1 hp]; show 3 ≤ N1; omega)).mono ?_
              rintro e w10 hgm
              obtain ⟨lv, rfl, ho, hok, hb10⟩ := hgm.some HO2.out
              rw [HLK.out] at ho
              obtain ⟨Ay, cy, rfl⟩ := own_sl ho
              have HY := Lib.hid ho
              have HD : Hid (N1 - 3 = m) := Lib.hid (by omega)
              have HC10 := Lib.hid (HC9.out.below hb10)
              have HQ10 := Lib.hid ((hb10.block gq (heap_lt HQ9.out)).trans HQ9.out)
              have HB10 := Lib.hid (HB9.out.trans (hb10.mono HB9.out.size))
              clear hgm ho hb10 q0 q1 HC9 HQ9 HB9
              have HOK := Lib.hid hok
              clear hok
              go_wp2_with fail
              go_loopw [108] (fun vi wr => ∃ i : Nat, i ≤ j ∧ vi = .int .i64 i ∧ Hid (Below w10.heap.size w10 wr)) (fun i _ => j - (intOf i).toNat)
              case atStart => exact ⟨0, by omega, rfl, Lib.hid (Below.refl _ _)⟩
              case round =>
                obtain ⟨i, hij, rfl, HB⟩ := hrel
                by_cases hiT : i < j
                · have hiJ : (i : Int) < (j : Int) := by omega
                  obtain ⟨b, o, rfl, hbl, hcl⟩ := (HLS.out.below (HB10.out.trans (HB.out.mono HB10.out.size))) (List.length_pos_iff.1 (by rw [HN.out]; omega))
                  have hcx := hcl i (by rw [HN.out]; exact hiT)
                  obtain ⟨ht, ht4⟩ := tI_eq (ls.getD i 0)
                  have hrd := aged_at (d := N1 - 3) (rds_at ls hiT)
                  obtain ⟨gy, cy', hAy, _, hgyl, hcy⟩ := own_form HY.out (by omega)
                  injection hAy with hAy _ hcc
                  subst hAy hcc
                  have y0 := (HB.out.cell (p := ⟨gy, i * 21 + 0, none⟩) hgyl).trans (hcy _ _ (recsC_at _ i 0 _ _ HOK.out hrd rfl))
                  have y2 := (HB.out.cell (p := ⟨gy, i * 21 + 2, none⟩) hgyl).trans (hcy _ _ (recsC_at _ i 2 _ _ HOK.out hrd rfl))
                  rw [Nat.add_zero] at y0
                  replace y0 : wr.cell? ⟨gy, i * 21, none⟩ = some (.string ⟨#[97]⟩) := y0
                  replace y2 : wr.cell? ⟨gy, i * 21 + 2, none⟩ = some (.int .i64 ((tI (ls.getD i 0) - (N1 - 3) : Nat) : Int)) := y2
                  rw [HD.out] at y2
                  clear hcl hbl hrd hcy hgyl
                  generalize ls.getD i 0 = X at hcx ht ht4 y2
                  generalize tI X = t at ht ht4 y2
                  by_cases htm : t ≤ m
                  · have hz : t - m = 0 := by omega
                    rw [hz] at y2
                    have htI : (t : Int) - (m : Int) ≤ 0 := by omega
                    clear hz
                    go_wp2_with fail
                    go_quiet (fail)
                    go_wp2_with fail
                    have HB2 := Lib.hid (below_drewQ HB.out nq)
                    go_roundw
                    case rel => exact ⟨i + 1, by omega, by first | rfl | go_num, HB2⟩
                    case measure => simp [intOf]; omega
                  · obtain ⟨D, hDt⟩ : ∃ D, t = m + D := ⟨t - m, by omega⟩
                    have hz : t - m = D := by omega
                    rw [hz] at y2
                    have htI : (t : Int) - (m : Int) = (D : Int) := by omega
                    have hD0 : 0 < D := by omega
                    clear hz hDt
                    go_wp2_with fail
                    go_quiet (fail)
                    go_wp2_with fail
                    have HB2 := Lib.hid (below_drewQ HB.out nq)
                    go_roundw
                    case rel => exact ⟨i + 1, by omega, by first | rfl | go_num, HB2⟩
                    case measure => simp [intOf]; omega
                · obtain rfl : i = j := by omega
                  have hiJ : ¬ (i : Int) < (i : Int) := by omega
                  have HC11 := Lib.hid (HC10.out.below HB.out)
                  have HQ11 := Lib.hid ((HB.out.block gq (heap_lt HQ10.out)).trans HQ10.out)
                  have HB11 := Lib.hid (HB10.out.trans (HB.out.mono HB10.out.size))
                  have q0 := cell_of_row wr gq 0 _ _ _ HQ11.out
                  have q1 := cell_of_row wr gq 1 _ _ _ HQ11.out
                  simp only [List.getElem?_toArray, List.getElem?_cons_succ, List.getElem?_cons_zero] at q0 q1
                  go_wp2_with fail
                  refine (get_m HC11.out N2 (by unfold big; omega) ⟨#[97]⟩ 1 (fun p hp => by rw [List.mem_singleton.1 hp]; show 3 ≤ N2; omega)).mono ?_
                  rintro e w12 hgm
                  obtain ⟨rfl, hb12⟩ := hgm.none HO3.out
                  have HB12 := Lib.hid (HB11.out.trans (hb12.mono HB11.out.size))
                  clear hgm hb12
                  go_wp2_with fail
                  go_ret
                  exact ⟨rfl, HB12.out⟩
end Go.Proofs.Ytkaeamdjoejfdaa
