/-
  The walk of find: where the question's name leads, by hand. Conditions: at most 900 answers, that lie in memory.
-/
import Derived.Test.YtgbijhinihchgaaChFg
namespace Go.Proofs.Ytgbijhinihchgaa
open Go.RowKit

def cnP (S : ByteArray) (qt : Int) (r : RV) : Bool := (r.nm.toList == S.toList) && ((r.ty == 5) && (r.ty != qt))
/-- where the names lead, as it is told by hand -/
def fdF (an : List RV) (qt : Int) : Nat → ByteArray → Int → ByteArray × List RV × Int × Bool
  | 0, nm, le => (nm, [], le, false)
  | n + 1, nm, le => if 0 < (kin an nm qt).length then (nm, kin an nm qt, le, true) else match an.find? (cnP nm qt) with | none => (nm, [], le, false) | some r => fdF an qt n r.tx (min le r.ttl)
theorem fdF_hit {an : List RV} {qt : Int} {n : Nat} {nm : ByteArray} {le : Int} (h : 0 < (kin an nm qt).length) : fdF an qt (n + 1) nm le = (nm, kin an nm qt, le, true) := by rw [fdF, if_pos h]
theorem fdF_end {an : List RV} {qt : Int} {n : Nat} {nm : ByteArray} {le : Int} (h : (kin an nm qt).length = 0) (h2 : an.find? (cnP nm qt) = none) : fdF an qt (n + 1) nm le = (nm, [], le, false) := by rw [fdF, if_neg (by omega), h2]
theorem fdF_on {an : List RV} {qt : Int} {n : Nat} {nm : ByteArray} {le : Int} {r : RV} (h : (kin an nm qt).length = 0) (h2 : an.find? (cnP nm qt) = some r) : fdF an qt (n + 1) nm le = fdF an qt n r.tx (min le r.ttl) := by rw [fdF, if_neg (by omega), h2]
/-- the place of the first one so far; below 0, if there is none -/
def AtIs (an : List RV) (S : ByteArray) (qt : Int) (j : Nat) (a : Int) : Prop := (a = -1 ∧ (an.take j).find? (cnP S qt) = none) ∨ ∃ p r, a = ((p : Nat) : Int) ∧ p < j ∧ an[p]? = some r ∧ an.find? (cnP S qt) = some r
theorem atIs_zero (an : List RV) (S : ByteArray) (qt : Int) : AtIs an S qt 0 (-1) := .inl ⟨rfl, by simp⟩
theorem atIs_none {an : List RV} {S : ByteArray} {qt : Int} {j : Nat} {a : Int} {y : RV} (h : AtIs an S qt j a) (hy : an[j]? = some y) (hc : cnP S qt y = false) : AtIs an S qt (j + 1) a := by
  rcases h with ⟨h1, h2⟩ | ⟨p, r, h1, h2, h3, h4⟩
  · exact .inl ⟨h1, by rw [List.take_add_one, hy, List.find?_append, h2]; simp [hc]⟩
  · exact .inr ⟨p, r, h1, by omega, h3, h4⟩
theorem atIs_some {an : List RV} {S : ByteArray} {qt : Int} {j p : Nat} (h : AtIs an S qt j ((p : Nat) : Int)) : AtIs an S qt (j + 1) ((p : Nat) : Int) := by
  rcases h with ⟨h1, h2⟩ | ⟨q, r, h1, h2, h3, h4⟩
  · omega
  · exact .inr ⟨q, r, h1, by omega, h3, h4⟩
theorem atIs_new {an : List RV} {S : ByteArray} {qt : Int} {j : Nat} {y : RV} (h : AtIs an S qt j (-1)) (hy : an[j]? = some y) (hc : cnP S qt y = true) : AtIs an S qt (j + 1) ((j : Nat) : Int) := by
  rcases h with ⟨_, h2⟩ | ⟨q, r, h1, _⟩
  · refine .inr ⟨j, y, rfl, by omega, hy, ?_⟩
    have e : an = an.take j ++ (y :: an.drop (j + 1)) := by
      conv => lhs; rw [← List.take_append_drop j an]
      congr 1
      rw [List.drop_eq_getElem_cons (List.getElem?_eq_some_iff.1 hy).1, (List.getElem?_eq_some_iff.1 hy).2]
    rw [e, List.find?_append, h2, List.find?_cons, hc]; rfl
  · omega
theorem results_tmp4 {fn : Func} {t u v x : Tmp} (h : fn.results = #[.tmp t, .tmp u, .tmp v, .tmp x]) (tmps : Array Value) (P : Program) (w : World) :
    (results fn tmps).run P w = .ok (.tuple #[tmps.getD t undef, tmps.getD u undef, tmps.getD v undef, tmps.getD x undef]) w := by
  simp [results, h]
/-- what find answers -/
def FdP (w : World) (f : ByteArray × List RV × Int × Bool) (e : Ending) (w' : World) : Prop := ∃ A c, e = .returned (.tuple #[.string f.1, .slice A f.2.1.length c, .int .i64 f.2.2.1, .bool f.2.2.2]) ∧ Below w.heap.size w w' ∧ RecsAt w' A f.2.1
structure FnAt (w wr : World) (C : Array Value) : Prop where
  m : wr.heap[w.heap.size]? = some (.cells C 32 (0, 0))
  below : Below w.heap.size w wr
theorem FnAt.to {w wr wr' : World} {C : Array Value} (h : FnAt w wr C) (hb : Below wr.heap.size wr wr') : FnAt w wr' C := ⟨(hb.block _ (heap_lt h.m)).trans h.m, h.below.trans (hb.mono h.below.size)⟩
set_option maxRecDepth 100000 in
set_option maxHeartbeats 16000000 in
theorem find_e (m : MV) (had : ∀ r ∈ m.an, r.ad.length = 16) (la : m.an.length ≤ 900) (w : World) (hA : RecsAt w m.A m.an) :
    Calls Try.prog 11 #[.agg m.cells] w (FdP w (fdF m.an m.qt 8 m.qn 1048576)) := by
  have HC5 : Hid (m.cells[5]? = some (.string m.qn)) := Lib.hid rfl
  have HC6 : Hid (m.cells[6]? = some (.int .i64 m.qt)) := Lib.hid rfl
  have HC7 : Hid (m.cells[7]? = some (.slice m.A m.an.length m.ca)) := Lib.hid rfl
  have HA := Lib.hid hA
  have HAD := Lib.hid had
  have HZ := Lib.hid zeroRec
  clear hA had
  generalize m.cells = MC at HC5 HC6 HC7 ⊢
  generalize m.qn = qn at HC5 ⊢
  generalize m.qt = qt at HC6 ⊢
  generalize m.A = A at HC7 HA
  generalize m.ca = ca at HC7
  generalize m.an = an at HC7 HA HAD la ⊢
  have hlaI : (an.length : Int) ≤ 900 := by omega
  obtain ⟨FR, hFR⟩ : ∃ FR, FR = fdF an qt 8 qn 1048576 := ⟨_, rfl⟩
  rw [← hFR]
  have HK0 : Hid (fdF an qt (8 - 0) qn 1048576 = FR) := Lib.hid hFR.symm
  clear hFR
  obtain ⟨i0, hi, hz0, hz1, hz2⟩ := info_rec
  have HI := Lib.hid hi
  have HZ0 := Lib.hid hz0
  have HZ1 := Lib.hid hz1
  have HZ2 := Lib.hid hz2
  clear hi hz0 hz1 hz2
  have HP0 : Hid (FnAt w (w.alloc (.cells MC 32)) MC) := Lib.hid ⟨heap_alloc_last w _, (Below.refl _ w).alloc (Nat.le_refl _) _⟩
  have e5 := (cell_of_row _ w.heap.size 5 _ _ _ HP0.out.m).trans HC5.out
  go_enter Try.func11, Try.ntmps11
  go_wp2_with fail
  go_loopw [15, 6, 7] (fun i s t wr => ∃ (k : Nat) (nm : ByteArray) (le : Int), k ≤ 8 ∧ i = .int .i64 k ∧ s = .string nm ∧ t = .int .i64 le ∧ Hid (FnAt w wr MC) ∧ Hid (fdF an qt (8 - k) nm le = FR)) (fun i _ _ _ => 8 - (intOf i).toNat)
  case atStart => exact ⟨0, qn, 1048576, by omega, rfl, rfl, rfl, HP0, HK0⟩
  case round =>
    clear HP0 HK0 e5
    obtain ⟨k, nm, le, hk, rfl, rfl, rfl, HM, HK⟩ := hrel
    by_cases hlt : k < 8
    · have hkI : (k : Int) < 8 := by omega
      obtain ⟨q, hq⟩ : ∃ q, 8 - k = q + 1 := ⟨7 - k, by omega⟩
      have HQ : Hid (8 - (k + 1) = q) := Lib.hid (by omega)
      rw [hq] at HK
      clear hq
      have HKh := Lib.hid (fun h => (fdF_hit (n := q) (nm := nm) (le := le) (an := an) (qt := qt) h).symm.trans HK.out)
      have HKe := Lib.hid (fun h h2 => (fdF_end (n := q) (nm := nm) (le := le) (an := an) (qt := qt) h h2).symm.trans HK.out)
      have HKo := Lib.hid (fun r h h2 => (fdF_on (n := q) (nm := nm) (le := le) (an := an) (qt := qt) (r := r) h h2).symm.trans HK.out)
      clear HK
      have e7 := (cell_of_row _ w.heap.size 7 _ _ _ HM.out.m).trans HC7.out
      have HL0 : Hid (KnAt wr wr (kin (an.take 0) nm qt) (.slice none 0 0)) := Lib.hid ⟨World.ownsRow_nil _ _ _ _, fun _ => rfl, Below.refl _ wr⟩
      have HT0 := Lib.hid (atIs_zero an nm qt)
      go_wp2_with fail
      clear e7
      go_loopw [20, 8, 9] (fun i l t wq => ∃ (j : Nat) (v : Value) (a : Int), j ≤ an.length ∧ i = .int .i64 j ∧ v = l ∧ t = .int .i64 a ∧ Hid (KnAt wr wq (kin (an.take j) nm qt) v) ∧ Hid (AtIs an nm qt j a)) (fun i _ _ _ => an.length - (intOf i).toNat)
      case atStart => exact ⟨0, _, -1, by omega, rfl, rfl, rfl, HL0, HT0⟩
      case round =>
        rename World => wq
        clear HL0 HT0
        obtain ⟨j, v, a, hj, rfl, rfl, rfl, HP, HT⟩ := hrel
        have ha : a = -1 ∨ ∃ p : Nat, a = (p : Int) := by
          rcases HT.out with ⟨h, _⟩ | ⟨p, _, h, _⟩
          · exact .inl h
          · exact .inr ⟨p, h⟩
        have HMq := Lib.hid (HM.out.to HP.out.below)
        by_cases hltj : j < an.length
        · have hjI : (j : Int) < (an.length : Int) := by omega
          obtain ⟨y, hy⟩ : ∃ y, an[j]? = some y := ⟨_, List.getElem?_eq_getElem hltj⟩
          have hyl := HAD.out y (List.mem_of_getElem? hy)
          obtain ⟨b, o, rfl, hbl, hcells⟩ := (HA.out.below HMq.out.below) (by omega)
          have HYC : Hid (∀ t v, y.cells.toList[t]? = some v → wq.cell? ((⟨b, o + j * 21, none⟩ : Addr).add t) = some v) := Lib.hid (hcells j y hy)
          have HYS := Lib.hid (sizeRv hyl)
          have HYO := Lib.hid (RV.one y)
          have HYZ : Hid ((RV.cells ⟨emp, 0, 0, zero16, emp, emp⟩).size = y.cells.size) := Lib.hid (by rw [RV.size hyl]; rfl)
          have HP1 := Lib.hid (HP.out.to ((Below.refl _ wq).alloc (Nat.le_refl _) (.cells y.cells 41)))
          have HG1 := Lib.hid (heap_alloc_last wq (.cells y.cells 41))
          have d0 := (cell_of_row _ wq.heap.size 0 _ _ _ (heap_alloc_last wq (.cells y.cells 41))).trans y.c0
          have d1 := (cell_of_row _ wq.heap.size 1 _ _ _ (heap_alloc_last wq (.cells y.cells 41))).trans y.c1
          have HMa := Lib.hid (HMq.out.to ((Below.refl _ wq).alloc (Nat.le_refl _) (.cells y.cells 41)))
          have d6 := (cell_of_row _ w.heap.size 6 _ _ _ HMa.out.m).trans HC6.out
          have HSn := Lib.hid (kin_snoc (S := nm) (ty := qt) hy)
          have HAn : Hid ((a = -1 → ((y.nm.toList == nm.toList) && ((y.ty == 5) && (y.ty != qt))) = true → AtIs an nm qt (j + 1) (j : Int)) ∧ (((y.nm.toList == nm.toList) && ((y.ty == 5) && (y.ty != qt))) = false → AtIs an nm qt (j + 1) a)) := Lib.hid ⟨fun e h => atIs_new (by have := HT.out; rwa [e] at this) hy h, fun h => atIs_none HT.out hy h⟩
          have HAp : Hid (∀ p : Nat, a = (p : Int) → AtIs an nm qt (j + 1) (p : Int)) := Lib.hid (fun p e => atIs_some (by have := HT.out; rwa [e] at this))
          have hlen := kin_len (an.take j) nm qt
          rw [List.length_take] at hlen
          have hlen2 : (kin (an.take j) nm qt).length ≤ 1000 := by omega
          obtain ⟨rl, hrl⟩ : ∃ rl : List Value, y.cells = rl.toArray := ⟨y.cells.toList, by rw [Array.toArray_toList]⟩
          have HRl : Hid (y.cells.toList = rl) := Lib.hid (by rw [hrl])
          have HCL : Hid (rl.length = 21) := Lib.hid (by have h := RV.size hyl; rw [hrl] at h; simpa using h)
          have HC1 : Hid (∀ u ∈ rl, u.oneCell' = true) := Lib.hid (fun u hu => by
            have h := RV.one y
            rw [hrl, Array.all_eq_true'] at h
            exact h u (by simpa using hu))
          have hd0 : y.cells[0]? = some (.string y.nm) := y.c0
          have hd1 : y.cells[1]? = some (.int .i64 y.ty) := y.c1
          rw [hrl] at d0 d1 d6 hd0 hd1
          rw [hrl] at HYC HYS HYO HYZ HP1 HG1 HMa
          have HD9 : Hid (∀ w9, ((wq.alloc (.cells rl.toArray 41)).alloc (.cells rl.toArray 41)).grownBy w9 v.ownBlock → w9.cell? ⟨wq.heap.size, 0, none⟩ = some (.string y.nm) ∧ w9.cell? ⟨wq.heap.size, 1, none⟩ = some (.int .i64 y.ty) ∧ w9.cell? ⟨w.heap.size, 6, none⟩ = some (.int .i64 qt)) := Lib.hid (fun w9 hg => by
            have hb2 : Below (wq.alloc (.cells rl.toArray 41)).heap.size (wq.alloc (.cells rl.toArray 41)) ((wq.alloc (.cells rl.toArray 41)).alloc (.cells rl.toArray 41)) := (Below.refl _ _).alloc (Nat.le_refl _) _
            have h1 := (hb2.block _ (heap_lt HG1.out)).trans HG1.out
            have h2 := (hg.block _ (heap_lt h1) (fun e => by have := (HP.out.own.lt _ e.symm).2; omega)).trans h1
            have k1 := (hb2.block _ (heap_lt HMa.out.m)).trans HMa.out.m
            have k2 := (hg.block _ (heap_lt k1) (fun e => by have := (HP.out.own.lt _ e.symm).1; have := heap_lt HM.out.m; omega)).trans k1
            exact ⟨(cell_of_row _ _ 0 _ _ _ h2).trans hd0, (cell_of_row _ _ 1 _ _ _ h2).trans hd1, (cell_of_row _ _ 6 _ _ _ k2).trans HC6.out⟩)
          have HB6 : Hid (wr.heap.size ≤ ((wq.alloc (.cells rl.toArray 41)).alloc (.cells rl.toArray 41)).heap.size) := Lib.hid (HP1.out.to ((Below.refl _ _).alloc (Nat.le_refl _) (.cells rl.toArray 41))).below.size
          have HO6 := Lib.hid (HP1.out.to ((Below.refl _ _).alloc (Nat.le_refl _) (.cells rl.toArray 41))).own
          have HN : Hid (∀ v1 w1, w1.ownsRow wr.heap.size 41 21 v1 ((kin (an.take j) nm qt).length + 1) (rcs (kin (an.take j) nm qt) ++ rl) → ((wq.alloc (.cells rl.toArray 41)).alloc (.cells rl.toArray 41)).grownBy w1 v.ownBlock → KnAt wr w1 (kin (an.take j) nm qt ++ [y]) v1) := Lib.hid (fun v1 w1 h1 h2 => by
            rw [← HRl.out] at h1
            exact (HP1.out.to ((Below.refl _ _).alloc (Nat.le_refl _) (.cells rl.toArray 41))).app h1 h2)
          have HRw : Hid (∀ j y, rl[j]? = some y → ((wq.alloc (.cells rl.toArray 41)).alloc (.cells rl.toArray 41)).cell? ⟨wq.heap.size + 1, j, none⟩ = some y) := Lib.hid (fun j y hj => by
            have h := heap_alloc_last (wq.alloc (.cells rl.toArray 41)) (.cells rl.toArray 41)
            rw [World.size_alloc] at h
            exact (cell_of_row _ _ j _ _ _ h).trans (by rw [List.getElem?_toArray]; exact hj))
          obtain ⟨nrs, hnrs⟩ : ∃ nrs, nrs = (kin (an.take j) nm qt).length := ⟨_, rfl⟩
          rw [← hnrs] at HO6 HN hlen2
          obtain ⟨rcs0, hrcs0⟩ : ∃ rcs0, rcs0 = rcs (kin (an.take j) nm qt) := ⟨_, rfl⟩
          rw [← hrcs0] at HO6 HN
          generalize y.nm = yn at d0 HSn HAn HD9
          generalize y.ty = yt at d1 HSn HAn HD9
          have hnrsI : (nrs : Int) ≤ 1000 := by omega
          clear hcells hbl hy hyl hlen hrl hd0 hd1 hnrs hrcs0 HT HMq HMa HRl HKh HKe HKo HAD HA
          cases hb1 : (yn.toList == nm.toList) with
          | false =>
            have HNo : Hid (KnAt wr (wq.alloc (.cells rl.toArray 41)) (kin (an.take (j + 1)) nm qt) v) := Lib.hid (by rw [HSn.out, hb1]; exact HP1.out)
            have HA2 : Hid (AtIs an nm qt (j + 1) a) := Lib.hid (HAn.out.2 (by rw [hb1]; rfl))
            clear HSn HP1 HP HAn HN HO6 HD9
            rcases ha with rfl | ⟨p, rfl⟩
            · skip
              go_upto_region 9 with (first
                | (refine wpList_load_agg rfl 41 (.tmp 23) rfl ⟨b, o + j * 21, none⟩ rfl rl.toArray _ HYC.out Try.underlying41 rfl HYS.out ?_; go_simp)
                | (refine wpList_alloc_z rfl 41 rfl (RV.cells ⟨emp, 0, 0, zero16, emp, emp⟩) HZ.out ?_; go_simp)
                | (refine wpList_store_new rfl 41 (.tmp 11) (.tmp 24) rfl wq.heap.size rfl (RV.cells ⟨emp, 0, 0, zero16, emp, emp⟩) rl.toArray 41 rfl rfl HYS.out HYZ.out HYO.out ?_; go_simp))
              go_wp2_with fail
              go_roundw
              case rel => exact ⟨j + 1, _, _, by omega, by first | rfl | go_num, rfl, by first | rfl | go_num, HNo, HA2⟩
              case measure => simp [intOf]; omega
            · have hp0 : ¬ (p : Int) < 0 := by omega
              go_upto_region 9 with (first
                | (refine wpList_load_agg rfl 41 (.tmp 23) rfl ⟨b, o + j * 21, none⟩ rfl rl.toArray _ HYC.out Try.underlying41 rfl HYS.out ?_; go_simp)
                | (refine wpList_alloc_z rfl 41 rfl (RV.cells ⟨emp, 0, 0, zero16, emp, emp⟩) HZ.out ?_; go_simp)
                | (refine wpList_store_new rfl 41 (.tmp 11) (.tmp 24) rfl wq.heap.size rfl (RV.cells ⟨emp, 0, 0, zero16, emp, emp⟩) rl.toArray 41 rfl rfl HYS.out HYZ.out HYO.out ?_; go_simp))
              go_wp2_with fail
              go_roundw
              case rel => exact ⟨j + 1, _, _, by omega, by first | rfl | go_num, rfl, by first | rfl | go_num, HNo, HA2⟩
              case measure => simp [intOf]; omega
          | true =>
            by_cases ht : yt = qt
            · have htq : (yt == qt) = true := beq_iff_eq.2 ht
              have htn : (yt != qt) = false := by simp [ht]
              have HA2 : Hid (AtIs an nm qt (j + 1) a) := Lib.hid (HAn.out.2 (by rw [htn]; simp))
              have HN : Hid (∀ v1 w1, w1.ownsRow wr.heap.size 41 21 v1 (nrs + 1) (rcs0 ++ rl) → ((wq.alloc (.cells rl.toArray 41)).alloc (.cells rl.toArray 41)).grownBy w1 v.ownBlock → KnAt wr w1 (kin (an.take (j + 1)) nm qt) v1) := Lib.hid (fun v1 w1 h1 h2 => by
                rw [HSn.out, hb1, htq]
                exact HN.out v1 w1 h1 h2)
              clear HSn HP1 HP HAn ht
              rcases ha with rfl | ⟨p, rfl⟩
              · cases h5 : (yt == 5) with
                | true =>
                  go_upto_region 9 with (first
                    | (refine wpList_load_agg rfl 41 (.tmp 23) rfl ⟨b, o + j * 21, none⟩ rfl rl.toArray _ HYC.out Try.underlying41 rfl HYS.out ?_; go_simp)
                    | (refine wpList_alloc_z rfl 41 rfl (RV.cells ⟨emp, 0, 0, zero16, emp, emp⟩) HZ.out ?_; go_simp)
                    | (refine wpList_store_new rfl 41 (.tmp 11) (.tmp 24) rfl wq.heap.size rfl (RV.cells ⟨emp, 0, 0, zero16, emp, emp⟩) rl.toArray 41 rfl rfl HYS.out HYZ.out HYO.out ?_; go_simp))
                  go_upto_region 10 with fail
                  go_upto_region 11 with (first
                    | (refine wpList_load_row rfl 41 (.tmp 11) rfl wq.heap.size rfl 41 rl.toArray (0, 0) _ HG1.out Try.underlying41 rfl HYS.out ?_; go_simp)
                    | (refine wpList_buildSlice rfl 30 41 1 #[(0, .tmp 38)] rfl rl.toArray i0 _ Try.underlying30 HI.out HZ0.out (by rw [HZ1.out]; decide) (by rw [HZ1.out]; decide) (by rw [HZ1.out]; refine (congrArg _ (?_ : _ = [(0, Value.agg rl.toArray)])).trans (fill21c HCL.out); rw [Array.toList_map]; rfl) ?_; go_simp)
                    | (at_builtin; refine wpList_append_own (w := (wq.alloc (.cells rl.toArray 41)).alloc (.cells rl.toArray 41)) rfl (.tmp 37) (.tmp 39) 30 rfl wr.heap.size 41 i0 _ 21 80 Try.underlying30 HI.out HZ0.out HZ1.out HZ2.out rfl (by decide) v nrs rcs0 rfl HO6.out ⟨wq.heap.size + 1, 0, none⟩ 1 1 rl rfl (by rw [HCL.out]) (fun j u hj => by rw [Addr.add_lit, Nat.zero_add]; exact HRw.out j u hj) HC1.out (by unfold maxLen; omega) (by omega) HB6.out ?_; intro v1 w9 ho1 hg1 hnil; clear hnil; have HNX := Lib.hid (HN.out v1 w9 ho1 hg1); have hd9 := HD9.out w9 hg1; have d09 := hd9.1; have d19 := hd9.2.1; have d69 := hd9.2.2; clear ho1 hg1 hd9; go_simp))
                  go_wp2_with fail
                  go_roundw
                  case rel => exact ⟨j + 1, _, _, by omega, by first | rfl | go_num, rfl, by first | rfl | go_num, HNX, HA2⟩
                  case measure => simp [intOf]; omega
                | false =>
                  go_upto_region 9 with (first
                    | (refine wpList_load_agg rfl 41 (.tmp 23) rfl ⟨b, o + j * 21, none⟩ rfl rl.toArray _ HYC.out Try.underlying41 rfl HYS.out ?_; go_simp)
                    | (refine wpList_alloc_z rfl 41 rfl (RV.cells ⟨emp, 0, 0, zero16, emp, emp⟩) HZ.out ?_; go_simp)
                    | (refine wpList_store_new rfl 41 (.tmp 11) (.tmp 24) rfl wq.heap.size rfl (RV.cells ⟨emp, 0, 0, zero16, emp, emp⟩) rl.toArray 41 rfl rfl HYS.out HYZ.out HYO.out ?_; go_simp))
                  go_upto_region 10 with fail
                  go_upto_region 11 with (first
                    | (refine wpList_load_row rfl 41 (.tmp 11) rfl wq.heap.size rfl 41 rl.toArray (0, 0) _ HG1.out Try.underlying41 rfl HYS.out ?_; go_simp)
                    | (refine wpList_buildSlice rfl 30 41 1 #[(0, .tmp 38)] rfl rl.toArray i0 _ Try.underlying30 HI.out HZ0.out (by rw [HZ1.out]; decide) (by rw [HZ1.out]; decide) (by rw [HZ1.out]; refine (congrArg _ (?_ : _ = [(0, Value.agg rl.toArray)])).trans (fill21c HCL.out); rw [Array.toList_map]; rfl) ?_; go_simp)
                    | (at_builtin; refine wpList_append_own (w := (wq.alloc (.cells rl.toArray 41)).alloc (.cells rl.toArray 41)) rfl (.tmp 37) (.tmp 39) 30 rfl wr.heap.size 41 i0 _ 21 80 Try.underlying30 HI.out HZ0.out HZ1.out HZ2.out rfl (by decide) v nrs rcs0 rfl HO6.out ⟨wq.heap.size + 1, 0, none⟩ 1 1 rl rfl (by rw [HCL.out]) (fun j u hj => by rw [Addr.add_lit, Nat.zero_add]; exact HRw.out j u hj) HC1.out (by unfold maxLen; omega) (by omega) HB6.out ?_; intro v1 w9 ho1 hg1 hnil; clear hnil; have HNX := Lib.hid (HN.out v1 w9 ho1 hg1); have hd9 := HD9.out w9 hg1; have d09 := hd9.1; have d19 := hd9.2.1; have d69 := hd9.2.2; clear ho1 hg1 hd9; go_simp))
                  go_wp2_with fail
                  go_roundw
                  case rel => exact ⟨j + 1, _, _, by omega, by first | rfl | go_num, rfl, by first | rfl | go_num, HNX, HA2⟩
                  case measure => simp [intOf]; omega
              · have hp0 : ¬ (p : Int) < 0 := by omega
                go_upto_region 9 with (first
                  | (refine wpList_load_agg rfl 41 (.tmp 23) rfl ⟨b, o + j * 21, none⟩ rfl rl.toArray _ HYC.out Try.underlying41 rfl HYS.out ?_; go_simp)
                  | (refine wpList_alloc_z rfl 41 rfl (RV.cells ⟨emp, 0, 0, zero16, emp, emp⟩) HZ.out ?_; go_simp)
                  | (refine wpList_store_new rfl 41 (.tmp 11) (.tmp 24) rfl wq.heap.size rfl (RV.cells ⟨emp, 0, 0, zero16, emp, emp⟩) rl.toArray 41 rfl rfl HYS.out HYZ.out HYO.out ?_; go_simp))
                go_upto_region 10 with fail
                go_upto_region 11 with (first
                  | (refine wpList_load_row rfl 41 (.tmp 11) rfl wq.heap.size rfl 41 rl.toArray (0, 0) _ HG1.out Try.underlying41 rfl HYS.out ?_; go_simp)
                  | (refine wpList_buildSlice rfl 30 41 1 #[(0, .tmp 38)] rfl rl.toArray i0 _ Try.underlying30 HI.out HZ0.out (by rw [HZ1.out]; decide) (by rw [HZ1.out]; decide) (by rw [HZ1.out]; refine (congrArg _ (?_ : _ = [(0, Value.agg rl.toArray)])).trans (fill21c HCL.out); rw [Array.toList_map]; rfl) ?_; go_simp)
                  | (at_builtin; refine wpList_append_own (w := (wq.alloc (.cells rl.toArray 41)).alloc (.cells rl.toArray 41)) rfl (.tmp 37) (.tmp 39) 30 rfl wr.heap.size 41 i0 _ 21 80 Try.underlying30 HI.out HZ0.out HZ1.out HZ2.out rfl (by decide) v nrs rcs0 rfl HO6.out ⟨wq.heap.size + 1, 0, none⟩ 1 1 rl rfl (by rw [HCL.out]) (fun j u hj => by rw [Addr.add_lit, Nat.zero_add]; exact HRw.out j u hj) HC1.out (by unfold maxLen; omega) (by omega) HB6.out ?_; intro v1 w9 ho1 hg1 hnil; clear hnil; have HNX := Lib.hid (HN.out v1 w9 ho1 hg1); have hd9 := HD9.out w9 hg1; have d09 := hd9.1; have d19 := hd9.2.1; have d69 := hd9.2.2; clear ho1 hg1 hd9; go_simp))
                go_wp2_with fail
                go_roundw
                case rel => exact ⟨j + 1, _, _, by omega, by first | rfl | go_num, rfl, by first | rfl | go_num, HNX, HA2⟩
                case measure => simp [intOf]; omega
            · have hne : (yt == qt) = false := beq_eq_false_iff_ne.2 ht
              have hne2 : (yt != qt) = true := by simp [ht]
              have HNo : Hid (KnAt wr (wq.alloc (.cells rl.toArray 41)) (kin (an.take (j + 1)) nm qt) v) := Lib.hid (by rw [HSn.out, hb1, hne]; exact HP1.out)
              clear HSn HP1 HP HN HO6 HD9
              rcases ha with rfl | ⟨p, rfl⟩
              · cases h5 : (yt == 5) with
                | true =>
                  have HA2 : Hid (AtIs an nm qt (j + 1) (j : Int)) := Lib.hid (HAn.out.1 rfl (by rw [hb1, h5, hne2]; rfl))
                  clear HAn
                  go_upto_region 9 with (first
                    | (refine wpList_load_agg rfl 41 (.tmp 23) rfl ⟨b, o + j * 21, none⟩ rfl rl.toArray _ HYC.out Try.underlying41 rfl HYS.out ?_; go_simp)
                    | (refine wpList_alloc_z rfl 41 rfl (RV.cells ⟨emp, 0, 0, zero16, emp, emp⟩) HZ.out ?_; go_simp)
                    | (refine wpList_store_new rfl 41 (.tmp 11) (.tmp 24) rfl wq.heap.size rfl (RV.cells ⟨emp, 0, 0, zero16, emp, emp⟩) rl.toArray 41 rfl rfl HYS.out HYZ.out HYO.out ?_; go_simp))
                  go_wp2_with fail
                  go_roundw
                  case rel => exact ⟨j + 1, _, _, by omega, by first | rfl | go_num, rfl, by first | rfl | go_num, HNo, HA2⟩
                  case measure => simp [intOf]; omega
                | false =>
                  have HA2 : Hid (AtIs an nm qt (j + 1) (-1)) := Lib.hid (HAn.out.2 (by rw [h5]; simp))
                  clear HAn
                  go_upto_region 9 with (first
                    | (refine wpList_load_agg rfl 41 (.tmp 23) rfl ⟨b, o + j * 21, none⟩ rfl rl.toArray _ HYC.out Try.underlying41 rfl HYS.out ?_; go_simp)
                    | (refine wpList_alloc_z rfl 41 rfl (RV.cells ⟨emp, 0, 0, zero16, emp, emp⟩) HZ.out ?_; go_simp)
                    | (refine wpList_store_new rfl 41 (.tmp 11) (.tmp 24) rfl wq.heap.size rfl (RV.cells ⟨emp, 0, 0, zero16, emp, emp⟩) rl.toArray 41 rfl rfl HYS.out HYZ.out HYO.out ?_; go_simp))
                  go_wp2_with fail
                  go_roundw
                  case rel => exact ⟨j + 1, _, _, by omega, by first | rfl | go_num, rfl, by first | rfl | go_num, HNo, HA2⟩
                  case measure => simp [intOf]; omega
              · have HA2 : Hid (AtIs an nm qt (j + 1) (p : Int)) := Lib.hid (HAp.out p rfl)
                have hp0 : ¬ (p : Int) < 0 := by omega
                clear HAn
                go_upto_region 9 with (first
                  | (refine wpList_load_agg rfl 41 (.tmp 23) rfl ⟨b, o + j * 21, none⟩ rfl rl.toArray _ HYC.out Try.underlying41 rfl HYS.out ?_; go_simp)
                  | (refine wpList_alloc_z rfl 41 rfl (RV.cells ⟨emp, 0, 0, zero16, emp, emp⟩) HZ.out ?_; go_simp)
                  | (refine wpList_store_new rfl 41 (.tmp 11) (.tmp 24) rfl wq.heap.size rfl (RV.cells ⟨emp, 0, 0, zero16, emp, emp⟩) rl.toArray 41 rfl rfl HYS.out HYZ.out HYO.out ?_; go_simp))
                go_wp2_with fail
                go_roundw
                case rel => exact ⟨j + 1, _, _, by omega, by first | rfl | go_num, rfl, by first | rfl | go_num, HNo, HA2⟩
                case measure => simp [intOf]; omega
        · have hjI : ¬ (j : Int) < (an.length : Int) := by omega
          obtain rfl : j = an.length := by omega
          rw [List.take_length] at HP
          obtain ⟨Av, cv, rfl⟩ := own_sl4 HP.out.own
          have HR9 := Lib.hid (own_recs HP.out.own (fun r hr => HAD.out r (kin_mem hr).1))
          have HB9 := Lib.hid HMq.out.below
          by_cases hpos : 0 < (kin an nm qt).length
          · have hE := HKh.out hpos
            have HE := Lib.hid hE
            clear HKh HKe HKo HT HP HMq hE ha
            generalize hks : kin an nm qt = ks at *
            clear hks
            have hposI : (0 : Int) < (ks.length : Int) := by omega
            go_wp2_with fail
            (try simp only [Exit.inBlock, Exit.then])
            refine bodyPost_ret (results_tmp4 rfl _ _ _) rfl ?_
            rw [← HE.out]
            exact ⟨_, _, rfl, HB9.out, HR9.out⟩
          · have hzero : (kin an nm qt).length = 0 := by omega
            have hnil : kin an nm qt = [] := List.length_eq_zero_iff.1 hzero
            rw [hzero]
            rcases HT.out with ⟨rfl, hnone⟩ | ⟨p, r, rfl, hpl, hpr, hsome⟩
            · rw [List.take_length] at hnone
              have HE := Lib.hid (HKe.out hzero hnone)
              clear HKh HKe HKo HT HP HMq ha hnone hzero hpos hnil HR9
              go_wp2_with fail
              (try simp only [Exit.inBlock, Exit.then])
              refine bodyPost_ret (results_tmp4 rfl _ _ _) rfl ?_
              rw [← HE.out]
              exact ⟨none, 0, rfl, HB9.out, recsAt_none⟩
            · have HE : Hid (fdF an qt (8 - (k + 1)) r.tx (min le r.ttl) = FR) := Lib.hid (by rw [HQ.out]; exact HKo.out r hzero hsome)
              have hplI : (p : Int) < (an.length : Int) := by omega
              have hp0 : ¬ (p : Int) < 0 := by omega
              have hp1 : (0 : Int) ≤ (p : Int) := by omega
              obtain ⟨b, o, rfl, hbl, hc⟩ := (HA.out.below HMq.out.below) (by omega)
              have hrad := HAD.out r (List.mem_of_getElem? hpr)
              have D7 : Hid (∀ U, Below wq.heap.size wq U → U.cell? ⟨w.heap.size, 7, none⟩ = some (.slice (some ⟨b, o, none⟩) an.length ca)) := Lib.hid (fun U hU => (cell_of_row U w.heap.size 7 _ _ _ ((hU.block _ (heap_lt HMq.out.m)).trans HMq.out.m)).trans HC7.out)
              have DX : Hid (∀ U, Below wq.heap.size wq U → U.cell? ⟨b, o + p * 21 + 19, none⟩ = some (.string r.tx)) := Lib.hid (fun U hU => by
                have h := hc p r hpr 19 (.string r.tx) (by rw [Array.getElem?_toList]; exact r.c19 hrad)
                rw [Addr.add_lit] at h
                exact (hU.cell (p := ⟨b, o + p * 21 + 19, none⟩) hbl).trans h)
              have DT : Hid (∀ U, Below wq.heap.size wq U → U.cell? ⟨b, o + p * 21 + 2, none⟩ = some (.int .i64 r.ttl)) := Lib.hid (fun U hU => by
                have h := hc p r hpr 2 (.int .i64 r.ttl) (by rw [Array.getElem?_toList]; exact r.c2)
                rw [Addr.add_lit] at h
                exact (hU.cell (p := ⟨b, o + p * 21 + 2, none⟩) hbl).trans h)
              have HMz := Lib.hid HMq.out
              clear HKh HKe HKo HT HP HMq ha hzero hpos hnil HR9 hsome hpr hbl hc hrad hpl
              generalize r.tx = tx at HE DX
              generalize r.ttl = tt at HE DT
              go_upto_region 18 with fail
              refine wp_region_held_drew (S := (fun W : World => Below wq.heap.size wq W)) (by kernel_rfl) (Below.refl _ wq).drew (fun hHeld => ?_)
              refine wpAnyH_take (i := 0) (oi := ({ dst := some 74, op := Go.Op.fieldAddr 32 (Go.Operand.tmp 1) 6, type := 0, pos := "law.go:39", after := #[], guard := none } : Oper)) (v := .pointer (some ⟨w.heap.size, 7, none⟩)) rfl (by kernel_rfl) (by kernel_rfl) (by kernel_rfl) (fun _ _ _ h => h) (Or.inl ⟨by rfl, fun w' _ => ?_⟩) hHeld ?_
              · go_simp
              simp only [Act.put, List.setIfInBounds_toArray, List.set_cons_zero, List.set_cons_succ]
              refine wpAnyH_take (i := 1) (oi := ({ dst := some 75, op := Go.Op.load 30 (Go.Operand.tmp 74), type := 30, pos := "law.go:39", after := #[{ on := 0, ground := Go.Ground.data }], guard := none } : Oper)) (v := .slice (some ⟨b, o, none⟩) an.length ca) rfl (by kernel_rfl) (by kernel_rfl) (by kernel_rfl) (fun _ _ _ h => h) (Or.inl ⟨by rfl, fun w' hS' => ?_⟩) hHeld ?_
              · have hcell := D7.out w' hS'
                go_simp
              simp only [Act.put, List.setIfInBounds_toArray, List.set_cons_zero, List.set_cons_succ]
              refine wpAnyH_take (i := 2) (oi := ({ dst := some 76, op := Go.Op.move (Go.Operand.tmp 9), type := 3, pos := "law.go:39", after := #[], guard := none } : Oper)) (v := .int .i64 (p : Int)) rfl (by kernel_rfl) (by kernel_rfl) (by kernel_rfl) (fun _ _ _ h => h) (Or.inl ⟨by rfl, fun w' _ => ?_⟩) hHeld ?_
              · go_simp
              simp only [Act.put, List.setIfInBounds_toArray, List.set_cons_zero, List.set_cons_succ]
              refine wpAnyH_take (i := 3) (oi := ({ dst := some 77, op := Go.Op.indexAddr 30 (Go.Operand.tmp 75) (Go.Operand.tmp 76), type := 0, pos := "law.go:39", after := #[{ on := 1, ground := Go.Ground.data }, { on := 2, ground := Go.Ground.data }], guard := none } : Oper)) (v := .pointer (some ⟨b, o + p * 21, none⟩)) rfl (by kernel_rfl) (by kernel_rfl) (by kernel_rfl) (fun _ _ _ h => h) (Or.inl ⟨by rfl, fun w' _ => ?_⟩) hHeld ?_
              · go_simp
              simp only [Act.put, List.setIfInBounds_toArray, List.set_cons_zero, List.set_cons_succ]
              refine wpAnyH_take (i := 4) (oi := ({ dst := some 78, op := Go.Op.fieldAddr 41 (Go.Operand.tmp 77) 4, type := 0, pos := "law.go:39", after := #[{ on := 3, ground := Go.Ground.data }], guard := none } : Oper)) (v := .pointer (some ⟨b, o + p * 21 + 19, none⟩)) rfl (by kernel_rfl) (by kernel_rfl) (by kernel_rfl) (fun _ _ _ h => h) (Or.inl ⟨by rfl, fun w' _ => ?_⟩) hHeld ?_
              · go_simp
              simp only [Act.put, List.setIfInBounds_toArray, List.set_cons_zero, List.set_cons_succ]
              refine wpAnyH_take (i := 5) (oi := ({ dst := some 79, op := Go.Op.load 9 (Go.Operand.tmp 78), type := 9, pos := "law.go:39", after := #[{ on := 4, ground := Go.Ground.data }], guard := none } : Oper)) (v := .string tx) rfl (by kernel_rfl) (by kernel_rfl) (by kernel_rfl) (fun _ _ _ h => h) (Or.inl ⟨by rfl, fun w' hS' => ?_⟩) hHeld ?_
              · have hcell := DX.out w' hS'
                go_simp
              simp only [Act.put, List.setIfInBounds_toArray, List.set_cons_zero, List.set_cons_succ]
              refine wpAnyH_take (i := 6) (oi := ({ dst := some 80, op := Go.Op.move (Go.Operand.tmp 7), type := 3, pos := "law.go:39", after := #[], guard := none } : Oper)) (v := .int .i64 le) rfl (by kernel_rfl) (by kernel_rfl) (by kernel_rfl) (fun _ _ _ h => h) (Or.inl ⟨by rfl, fun w' _ => ?_⟩) hHeld ?_
              · go_simp
              simp only [Act.put, List.setIfInBounds_toArray, List.set_cons_zero, List.set_cons_succ]
              refine wpAnyH_take (i := 7) (oi := ({ dst := some 81, op := Go.Op.fieldAddr 32 (Go.Operand.tmp 1) 6, type := 0, pos := "law.go:39", after := #[], guard := none } : Oper)) (v := .pointer (some ⟨w.heap.size, 7, none⟩)) rfl (by kernel_rfl) (by kernel_rfl) (by kernel_rfl) (fun _ _ _ h => h) (Or.inl ⟨by rfl, fun w' _ => ?_⟩) hHeld ?_
              · go_simp
              simp only [Act.put, List.setIfInBounds_toArray, List.set_cons_zero, List.set_cons_succ]
              refine wpAnyH_take (i := 8) (oi := ({ dst := some 82, op := Go.Op.load 30 (Go.Operand.tmp 81), type := 30, pos := "law.go:39", after := #[{ on := 7, ground := Go.Ground.data }], guard := none } : Oper)) (v := .slice (some ⟨b, o, none⟩) an.length ca) rfl (by kernel_rfl) (by kernel_rfl) (by kernel_rfl) (fun _ _ _ h => h) (Or.inl ⟨by rfl, fun w' hS' => ?_⟩) hHeld ?_
              · have hcell := D7.out w' hS'
                go_simp
              simp only [Act.put, List.setIfInBounds_toArray, List.set_cons_zero, List.set_cons_succ]
              refine wpAnyH_take (i := 9) (oi := ({ dst := some 83, op := Go.Op.move (Go.Operand.tmp 9), type := 3, pos := "law.go:39", after := #[], guard := none } : Oper)) (v := .int .i64 (p : Int)) rfl (by kernel_rfl) (by kernel_rfl) (by kernel_rfl) (fun _ _ _ h => h) (Or.inl ⟨by rfl, fun w' _ => ?_⟩) hHeld ?_
              · go_simp
              simp only [Act.put, List.setIfInBounds_toArray, List.set_cons_zero, List.set_cons_succ]
              refine wpAnyH_take (i := 10) (oi := ({ dst := some 84, op := Go.Op.indexAddr 30 (Go.Operand.tmp 82) (Go.Operand.tmp 83), type := 0, pos := "law.go:39", after := #[{ on := 8, ground := Go.Ground.data }, { on := 9, ground := Go.Ground.data }], guard := none } : Oper)) (v := .pointer (some ⟨b, o + p * 21, none⟩)) rfl (by kernel_rfl) (by kernel_rfl) (by kernel_rfl) (fun _ _ _ h => h) (Or.inl ⟨by rfl, fun w' _ => ?_⟩) hHeld ?_
              · go_simp
              simp only [Act.put, List.setIfInBounds_toArray, List.set_cons_zero, List.set_cons_succ]
              refine wpAnyH_take (i := 11) (oi := ({ dst := some 85, op := Go.Op.fieldAddr 41 (Go.Operand.tmp 84) 2, type := 0, pos := "law.go:39", after := #[{ on := 10, ground := Go.Ground.data }], guard := none } : Oper)) (v := .pointer (some ⟨b, o + p * 21 + 2, none⟩)) rfl (by kernel_rfl) (by kernel_rfl) (by kernel_rfl) (fun _ _ _ h => h) (Or.inl ⟨by rfl, fun w' _ => ?_⟩) hHeld ?_
              · go_simp
              simp only [Act.put, List.setIfInBounds_toArray, List.set_cons_zero, List.set_cons_succ]
              refine wpAnyH_take (i := 12) (oi := ({ dst := some 86, op := Go.Op.load 3 (Go.Operand.tmp 85), type := 3, pos := "law.go:39", after := #[{ on := 11, ground := Go.Ground.data }], guard := none } : Oper)) (v := .int .i64 tt) rfl (by kernel_rfl) (by kernel_rfl) (by kernel_rfl) (fun _ _ _ h => h) (Or.inl ⟨by rfl, fun w' hS' => ?_⟩) hHeld ?_
              · have hcell := DT.out w' hS'
                go_simp
              simp only [Act.put, List.setIfInBounds_toArray, List.set_cons_zero, List.set_cons_succ]
              refine wpAnyH_take (i := 13) (oi := ({ dst := some 87, op := Go.Op.call { callee := Go.Callee.builtin Go.Builtin.min, args := #[Go.Operand.tmp 80, Go.Operand.tmp 86], argTypes := #[3, 3] }, type := 3, pos := "law.go:39", after := #[{ on := 6, ground := Go.Ground.data }, { on := 12, ground := Go.Ground.data }], guard := none } : Oper)) (v := .int .i64 (min le tt)) rfl (by kernel_rfl) (by kernel_rfl) (by kernel_rfl) (fun _ _ _ h => h) (Or.inl ⟨by rfl, fun w' _ => ?_⟩) hHeld ?_
              · go_simp
              simp only [Act.put, List.setIfInBounds_toArray, List.set_cons_zero, List.set_cons_succ]
              refine wpAnyH_take (i := 14) (oi := ({ dst := some 6, op := Go.Op.assign (Go.Operand.tmp 79), type := 9, pos := "law.go:39", after := #[{ on := 5, ground := Go.Ground.data }, { on := 0, ground := Go.Ground.phase }, { on := 1, ground := Go.Ground.phase }, { on := 2, ground := Go.Ground.phase }, { on := 3, ground := Go.Ground.phase }, { on := 4, ground := Go.Ground.phase }, { on := 5, ground := Go.Ground.phase }, { on := 6, ground := Go.Ground.textOnly Go.Departure.lateStores }, { on := 7, ground := Go.Ground.textOnly Go.Departure.lateStores }, { on := 8, ground := Go.Ground.textOnly Go.Departure.lateStores }, { on := 9, ground := Go.Ground.textOnly Go.Departure.lateStores }, { on := 10, ground := Go.Ground.textOnly Go.Departure.lateStores }, { on := 11, ground := Go.Ground.textOnly Go.Departure.lateStores }, { on := 12, ground := Go.Ground.textOnly Go.Departure.lateStores }, { on := 13, ground := Go.Ground.textOnly Go.Departure.lateStoresUnsure }], guard := none } : Oper)) (v := .string tx) rfl (by kernel_rfl) (by kernel_rfl) (by kernel_rfl) (fun _ _ _ h => h) (Or.inl ⟨by rfl, fun w' _ => ?_⟩) hHeld ?_
              · go_simp
              simp only [Act.put, List.setIfInBounds_toArray, List.set_cons_zero, List.set_cons_succ]
              refine wpAnyH_take (i := 15) (oi := ({ dst := some 7, op := Go.Op.assign (Go.Operand.tmp 87), type := 3, pos := "law.go:39", after := #[{ on := 13, ground := Go.Ground.data }, { on := 14, ground := Go.Ground.chain }, { on := 0, ground := Go.Ground.phase }, { on := 1, ground := Go.Ground.phase }, { on := 2, ground := Go.Ground.phase }, { on := 3, ground := Go.Ground.phase }, { on := 4, ground := Go.Ground.phase }, { on := 5, ground := Go.Ground.phase }, { on := 6, ground := Go.Ground.phase }, { on := 7, ground := Go.Ground.phase }, { on := 8, ground := Go.Ground.phase }, { on := 9, ground := Go.Ground.phase }, { on := 10, ground := Go.Ground.phase }, { on := 11, ground := Go.Ground.phase }, { on := 12, ground := Go.Ground.phase }, { on := 13, ground := Go.Ground.phase }, { on := 14, ground := Go.Ground.phase }], guard := none } : Oper)) (v := .int .i64 (min le tt)) rfl (by kernel_rfl) (by kernel_rfl) (by kernel_rfl) (fun _ _ _ h => h) (Or.inl ⟨by rfl, fun w' _ => ?_⟩) hHeld ?_
              · go_simp
              simp only [Act.put, List.setIfInBounds_toArray, List.set_cons_zero, List.set_cons_succ]
              refine wpAnyH_done (by kernel_rfl) ?_ _
              have HMe := Lib.hid (HMz.out.to hHeld)
              clear hHeld D7 DX DT HMz
              try (go_wp2_with fail)
              go_roundw
              case rel => exact ⟨k + 1, tx, min le tt, by omega, by first | rfl | go_num, rfl, rfl, HMe, HE⟩
              case measure => simp [intOf]; omega
    · obtain rfl : k = 8 := by omega
      have HE : Hid ((nm, ([] : List RV), le, false) = FR) := Lib.hid HK.out
      have HB9 := Lib.hid HM.out.below
      clear HK HM
      go_wp2_with fail
      (try simp only [Exit.inBlock, Exit.then])
      refine bodyPost_ret (results_tmp4 rfl _ _ _) rfl ?_
      rw [← HE.out]
      exact ⟨none, 0, rfl, HB9.out, recsAt_none⟩
end Go.Proofs.Ytgbijhinihchgaa

