/-
  The walks of cache.TTL and chase.records: the least of the TTLs of records; the records of a name and a type. Conditions: at most 1000 records, that lie in memory.
-/
import Derived.Test.YtgbijhinihchgaaChMgLib
namespace Go.Proofs.Ytgbijhinihchgaa
open Go.RowKit

def lsm (a : Int) (l : List RV) : Int := l.foldl (fun a x => min a x.ttl) a
/-- the least of TTLs; of none the greatest one -/
def lstI : List RV → Int
  | [] => 1048576
  | r :: l => lsm r.ttl l
theorem lsm_snoc (a : Int) (l : List RV) (x : RV) : lsm a (l ++ [x]) = min (lsm a l) x.ttl := by unfold lsm; rw [List.foldl_append]; rfl
theorem lsm_cons (r : RV) (l : List RV) : lsm r.ttl (r :: l) = lstI (r :: l) := by
  show List.foldl _ (min r.ttl r.ttl) l = _
  rw [Int.min_self]; rfl
theorem fill21c {cs : List Value} (h : cs.length = 21) : Instr.fill (fun i => some (i * 21, 21)) ((Array.range (1 * 21)).map ((Value.agg (RV.cells ⟨emp, 0, 0, zero16, emp, emp⟩)).cells[· % (Value.agg (RV.cells ⟨emp, 0, 0, zero16, emp, emp⟩)).cells.size]!)) [(0, .agg cs.toArray)] = some cs.toArray := by
  have := Great.fill_whole (s := 21) (by decide) [Value.agg cs.toArray] ((Array.range (1 * 21)).map ((Value.agg (RV.cells ⟨emp, 0, 0, zero16, emp, emp⟩)).cells[· % (Value.agg (RV.cells ⟨emp, 0, 0, zero16, emp, emp⟩)).cells.size]!)) (by simp [Value.cells, h]) (by simp)
  simpa [Value.cells] using this
set_option maxRecDepth 100000 in
set_option maxHeartbeats 2000000 in
theorem ttl_rv {w : World} {A : Option Addr} {c : Nat} {rs : List RV} (h : RecsAt w A rs) (had : ∀ r ∈ rs, r.ad.length = 16) (hl : rs.length ≤ 1000) :
    Calls Try.prog 12 #[.slice A rs.length c] w fun e w' => e = .returned (.int .i64 (lstI rs)) ∧ Below w.heap.size w w' := by
  rcases rs with _ | ⟨x, l⟩
  · go_enter Try.func12, Try.ntmps12
    go_wp2_with fail
    go_ret
    exact ⟨rfl, Below.refl _ _⟩
  have HE : Hid (lsm x.ttl (x :: l) = lstI (x :: l)) := Lib.hid (lsm_cons x l)
  obtain ⟨g, o, rfl, hg, hc⟩ := h (by simp)
  have c2 : w.cell? ⟨g, o + 2, none⟩ = some (.int .i64 x.ttl) := by
    have := hc 0 x rfl 2 (.int .i64 x.ttl) (by rw [Array.getElem?_toList]; exact x.c2)
    rw [Addr.add_lit] at this
    simpa using this
  generalize x.ttl = xt at c2 HE
  have hpos : 0 < (x :: l).length := by simp
  clear h
  generalize x :: l = rs at hc had hl HE hpos ⊢
  have HC : Hid (∀ W, Below w.heap.size w W → ∀ k r, rs[k]? = some r → ∀ j v, r.cells.toList[j]? = some v → W.cell? ((⟨g, o + k * 21, none⟩ : Addr).add j) = some v) := Lib.hid (fun W hW k r hr j v hv => (hW.cell (p := (⟨g, o + k * 21, none⟩ : Addr).add j) (by rw [Addr.add_lit]; exact hg)).trans (hc k r hr j v hv))
  have HAD := Lib.hid had
  have HZR := Lib.hid zeroRec
  obtain ⟨n, hn⟩ : ∃ n, n = rs.length := ⟨_, rfl⟩
  rw [← hn] at hl hpos ⊢
  have HN := Lib.hid hn
  have hn0 : ((n : Int) == 0) = false := by simp; omega
  clear hc had hn
  go_enter Try.func12, Try.ntmps12
  go_wp2_with fail
  go_loopw [15, 3] (fun vi vl wr => ∃ k : Nat, k ≤ n ∧ vi = .int .i64 k ∧ vl = .int .i64 (lsm xt (rs.take k)) ∧ Hid (Below w.heap.size w wr)) (fun i _ _ => n - (intOf i).toNat)
  case atStart => exact ⟨0, by omega, rfl, rfl, Lib.hid (Below.refl _ _)⟩
  case round =>
    obtain ⟨k, hk, rfl, rfl, HB⟩ := hrel
    by_cases hkT : k < n
    · have hkI : (k : Int) < (n : Int) := by omega
      obtain ⟨r, hr⟩ : ∃ r, rs[k]? = some r := ⟨_, List.getElem?_eq_getElem (by rw [← HN.out]; exact hkT)⟩
      have hrad := HAD.out r (List.mem_of_getElem? hr)
      have HCR : Hid (∀ t v, r.cells.toList[t]? = some v → wr.cell? ((⟨g, o + k * 21, none⟩ : Addr).add t) = some v) := Lib.hid (HC.out wr HB.out k r hr)
      have ZR := Lib.hid (sizeRv hrad)
      have ZZ : Hid ((RV.cells ⟨emp, 0, 0, zero16, emp, emp⟩).size = r.cells.size) := Lib.hid (by rw [RV.size hrad]; rfl)
      have OR : Hid (r.cells.all (·.oneCell') = true) := Lib.hid (RV.one r)
      have r2 : (wr.alloc (.cells r.cells 41)).cell? ⟨wr.heap.size, 2, none⟩ = some (.int .i64 r.ttl) := (cell_of_row _ wr.heap.size 2 _ _ _ (heap_alloc_last wr _)).trans r.c2
      have htk : lsm xt (rs.take (k + 1)) = min (lsm xt (rs.take k)) r.ttl := by
        rw [List.take_add_one, hr]
        exact lsm_snoc _ _ _
      have HBA : Hid (Below w.heap.size w (wr.alloc (.cells r.cells 41))) := Lib.hid (HB.out.alloc HB.out.size _)
      generalize lsm xt (rs.take k) = M at htk ⊢
      obtain ⟨M2, hM2⟩ : ∃ M2, M2 = min M r.ttl := ⟨_, rfl⟩
      have HTK : Hid (M2 = lsm xt (rs.take (k + 1))) := Lib.hid (by rw [htk, hM2])
      have hcase : (M ≤ r.ttl ∧ M2 = M) ∨ (r.ttl < M ∧ M2 = r.ttl) := by omega
      clear hr hrad htk hM2
      generalize r.cells = rc at *
      generalize r.ttl = rt at *
      rcases hcase with ⟨hle, rfl⟩ | ⟨hle, rfl⟩
      all_goals
        go_wp2_with (first
          | (refine wpList_load_agg rfl 41 (.tmp 17) rfl ⟨g, o + k * 21, none⟩ rfl rc _ HCR.out Try.underlying41 rfl ZR.out ?_; go_simp)
          | (refine wpList_alloc_z rfl 41 rfl (RV.cells ⟨emp, 0, 0, zero16, emp, emp⟩) HZR.out ?_; go_simp)
          | (refine wpList_store_new rfl 41 (.tmp 5) (.tmp 18) rfl wr.heap.size rfl (RV.cells ⟨emp, 0, 0, zero16, emp, emp⟩) rc 41 rfl rfl ZR.out ZZ.out OR.out ?_; go_simp))
        go_roundw
        case rel => exact ⟨k + 1, by omega, by first | rfl | go_num, by rw [← HTK.out]; first | rfl | (refine congrArg (Value.int IntKind.i64) ?_; omega), HBA⟩
        case measure => simp [intOf]; omega
    · obtain rfl : k = n := by omega
      have hkI : ¬ (k : Int) < (k : Int) := by omega
      go_wp2_with fail
      go_ret
      refine ⟨?_, HB.out⟩
      rw [List.take_of_length_le (by simp [HN.out]), HE.out]
      rfl
/-- the records of a name and a type, in order -/
def kin (l : List RV) (S : ByteArray) (ty : Int) : List RV := l.filter fun r => (r.nm.toList == S.toList) && (r.ty == ty)
theorem kin_snoc {l : List RV} {S : ByteArray} {ty : Int} {k : Nat} {x : RV} (h : l[k]? = some x) : kin (l.take (k + 1)) S ty = if ((x.nm.toList == S.toList) && (x.ty == ty)) = true then kin (l.take k) S ty ++ [x] else kin (l.take k) S ty := by
  unfold kin
  rw [List.take_add_one, h, List.filter_append]
  cases hq : (x.nm.toList == S.toList) && (x.ty == ty) <;> simp [hq]
theorem kin_len (l : List RV) (S : ByteArray) (ty : Int) : (kin l S ty).length ≤ l.length := List.length_filter_le _ _
theorem kin_mem {l : List RV} {S : ByteArray} {ty : Int} {r : RV} (h : r ∈ kin l S ty) : r ∈ l ∧ (r.nm.toList == S.toList) = true ∧ r.ty = ty := by
  unfold kin at h
  obtain ⟨h1, h2⟩ := List.mem_filter.1 h
  simp only [Bool.and_eq_true, beq_iff_eq] at h2
  exact ⟨h1, beq_iff_eq.2 h2.1, h2.2⟩
/-- a row of the call's own, as it grows -/
structure KnAt (w wr : World) (rs : List RV) (v : Value) : Prop where
  own : wr.ownsRow w.heap.size 41 21 v rs.length (rcs rs)
  nil : rs = [] → v = .slice none 0 0
  below : Below w.heap.size w wr
theorem KnAt.to {w wr wr' : World} {rs : List RV} {v : Value} (h : KnAt w wr rs v) (hb : Below wr.heap.size wr wr') : KnAt w wr' rs v :=
  ⟨h.own.kept (show wr.grownBy wr' none from ⟨hb.os, hb.tape, hb.output, hb.size, fun k hk _ => hb.block k hk⟩) (Classical.em _), h.nil, h.below.trans (hb.mono h.below.size)⟩
theorem KnAt.app {w wr w1 : World} {rs : List RV} {v v1 : Value} {r : RV} (h : KnAt w wr rs v) (ho : w1.ownsRow w.heap.size 41 21 v1 (rs.length + 1) (rcs rs ++ r.cells.toList)) (hg : wr.grownBy w1 v.ownBlock) : KnAt w w1 (rs ++ [r]) v1 :=
  ⟨by rw [List.length_append, rcs_snoc]; exact ho, fun e => by simp at e, h.below.grown hg h.below.size (fun j hj => (h.own.lt j hj).1)⟩
theorem own_base {W : World} {base n b o c : Nat} {xs : List Value} (h : W.ownsRow base 41 21 (.slice (some ⟨b, o, none⟩) n c) n xs) : base ≤ b := (h.lt b rfl).1
/-- what records answers -/
def RcPost (w : World) (rs : List RV) (e : Ending) (w' : World) : Prop := ∃ A c, e = .returned (.slice A rs.length c) ∧ Below w.heap.size w w' ∧ RecsAt w' A rs ∧ ∀ b o, A = some ⟨b, o, none⟩ → w.heap.size ≤ b
set_option maxRecDepth 100000 in
set_option maxHeartbeats 4000000 in
theorem records_ch (S : ByteArray) (ty : Int) (l : List RV) (had : ∀ r ∈ l, r.ad.length = 16) (A : Option Addr) (cap : Nat) (hn : l.length ≤ 1000) (w : World) (hA : RecsAt w A l) :
    Calls Try.prog 18 #[.slice A l.length cap, .string S, .int .i64 ty] w (RcPost w (kin l S ty)) := by
  have HA := Lib.hid hA
  have HAD := Lib.hid had
  have HZ := Lib.hid zeroRec
  have HL0 : Hid (KnAt w w (kin (l.take 0) S ty) (.slice none 0 0)) := Lib.hid ⟨World.ownsRow_nil _ _ _ _, fun _ => rfl, Below.refl _ w⟩
  obtain ⟨i0, hi, hz0, hz1, hz2⟩ := info_rec
  have HI := Lib.hid hi
  have HZ0 := Lib.hid hz0
  have HZ1 := Lib.hid hz1
  have HZ2 := Lib.hid hz2
  have hnI : (l.length : Int) ≤ 1000 := by omega
  clear hA had hi hz0 hz1 hz2
  go_enter Try.func18, Try.ntmps18
  go_wp2_with fail
  go_loopw [12, 7] (fun i v wr => ∃ (k : Nat) (v' : Value), k ≤ l.length ∧ i = .int .i64 k ∧ v' = v ∧ Hid (KnAt w wr (kin (l.take k) S ty) v')) (fun i _ _ => l.length - (intOf i).toNat)
  case atStart => exact ⟨0, _, by omega, rfl, rfl, HL0⟩
  case round =>
    obtain ⟨k, v, hk, rfl, rfl, HP⟩ := hrel
    by_cases hlt : k < l.length
    · have hkI : (k : Int) < (l.length : Int) := by omega
      obtain ⟨y, hy⟩ : ∃ y, l[k]? = some y := ⟨_, List.getElem?_eq_getElem hlt⟩
      have hyl := HAD.out y (List.mem_of_getElem? hy)
      obtain ⟨b, o, rfl, hbl, hcells⟩ := (HA.out.below HP.out.below) (by omega)
      have HYC : Hid (∀ j v, y.cells.toList[j]? = some v → wr.cell? ((⟨b, o + k * 21, none⟩ : Addr).add j) = some v) := Lib.hid (hcells k y hy)
      have HYS := Lib.hid (sizeRv hyl)
      have HYO := Lib.hid (RV.one y)
      have HYZ : Hid ((RV.cells ⟨emp, 0, 0, zero16, emp, emp⟩).size = y.cells.size) := Lib.hid (by rw [RV.size hyl]; rfl)
      have HP1 := Lib.hid (HP.out.to ((Below.refl _ wr).alloc (Nat.le_refl _) (.cells y.cells 41)))
      have HG1 := Lib.hid (heap_alloc_last wr (.cells y.cells 41))
      have d0 : (wr.alloc (.cells y.cells 41)).cell? ⟨wr.heap.size, 0, none⟩ = some (.string y.nm) := (cell_of_row _ wr.heap.size 0 _ _ _ (heap_alloc_last wr _)).trans y.c0
      have d1 : (wr.alloc (.cells y.cells 41)).cell? ⟨wr.heap.size, 1, none⟩ = some (.int .i64 y.ty) := (cell_of_row _ wr.heap.size 1 _ _ _ (heap_alloc_last wr _)).trans y.c1
      have HSn := Lib.hid (kin_snoc (S := S) (ty := ty) hy)
      have hlen := kin_len (l.take k) S ty
      rw [List.length_take] at hlen
      have hlen2 : (kin (l.take k) S ty).length ≤ 1000 := by omega
      obtain ⟨rl, hrl⟩ : ∃ rl : List Value, y.cells = rl.toArray := ⟨y.cells.toList, by rw [Array.toArray_toList]⟩
      have HRl : Hid (y.cells.toList = rl) := Lib.hid (by rw [hrl])
      have HCL : Hid (rl.length = 21) := Lib.hid (by have h := RV.size hyl; rw [hrl] at h; simpa using h)
      have HC1 : Hid (∀ u ∈ rl, u.oneCell' = true) := Lib.hid (fun u hu => by
        have h := RV.one y
        rw [hrl, Array.all_eq_true'] at h
        exact h u (by simpa using hu))
      rw [hrl] at d0 d1
      rw [hrl] at HYC HYS HYO HYZ HP1 HG1
      generalize y.nm = yn at d0 HSn
      generalize y.ty = yt at d1 HSn
      clear hcells hbl hy hyl hlen hrl
      cases hb1 : (yn.toList == S.toList) with
      | false =>
        have HN : Hid (KnAt w (wr.alloc (.cells rl.toArray 41)) (kin (l.take (k + 1)) S ty) v) := Lib.hid (by rw [HSn.out, hb1]; exact HP1.out)
        clear HSn HP1 HP
        go_wp2_with (first
          | (refine wpList_load_agg rfl 41 (.tmp 14) rfl ⟨b, o + k * 21, none⟩ rfl rl.toArray _ HYC.out Try.underlying41 rfl HYS.out ?_; go_simp)
          | (refine wpList_alloc_z rfl 41 rfl (RV.cells ⟨emp, 0, 0, zero16, emp, emp⟩) HZ.out ?_; go_simp)
          | (refine wpList_store_new rfl 41 (.tmp 9) (.tmp 15) rfl wr.heap.size rfl (RV.cells ⟨emp, 0, 0, zero16, emp, emp⟩) rl.toArray 41 rfl rfl HYS.out HYZ.out HYO.out ?_; go_simp))
        go_roundw
        case rel => exact ⟨k + 1, _, by omega, by first | rfl | go_num, rfl, HN⟩
        case measure => simp [intOf]; omega
      | true =>
        cases hb2 : (yt == ty) with
        | false =>
          have HN : Hid (KnAt w (wr.alloc (.cells rl.toArray 41)) (kin (l.take (k + 1)) S ty) v) := Lib.hid (by rw [HSn.out, hb1, hb2]; exact HP1.out)
          clear HSn HP1 HP
          go_wp2_with (first
            | (refine wpList_load_agg rfl 41 (.tmp 14) rfl ⟨b, o + k * 21, none⟩ rfl rl.toArray _ HYC.out Try.underlying41 rfl HYS.out ?_; go_simp)
            | (refine wpList_alloc_z rfl 41 rfl (RV.cells ⟨emp, 0, 0, zero16, emp, emp⟩) HZ.out ?_; go_simp)
            | (refine wpList_store_new rfl 41 (.tmp 9) (.tmp 15) rfl wr.heap.size rfl (RV.cells ⟨emp, 0, 0, zero16, emp, emp⟩) rl.toArray 41 rfl rfl HYS.out HYZ.out HYO.out ?_; go_simp))
          go_roundw
          case rel => exact ⟨k + 1, _, by omega, by first | rfl | go_num, rfl, HN⟩
          case measure => simp [intOf]; omega
        | true =>
          have HB6 : Hid (w.heap.size ≤ ((wr.alloc (.cells rl.toArray 41)).alloc (.cells rl.toArray 41)).heap.size) := Lib.hid (HP1.out.to ((Below.refl _ _).alloc (Nat.le_refl _) (.cells rl.toArray 41))).below.size
          have HO6 := Lib.hid (HP1.out.to ((Below.refl _ _).alloc (Nat.le_refl _) (.cells rl.toArray 41))).own
          have HN : Hid (∀ v1 w1, w1.ownsRow w.heap.size 41 21 v1 ((kin (l.take k) S ty).length + 1) (rcs (kin (l.take k) S ty) ++ rl) → ((wr.alloc (.cells rl.toArray 41)).alloc (.cells rl.toArray 41)).grownBy w1 v.ownBlock → KnAt w w1 (kin (l.take (k + 1)) S ty) v1) := Lib.hid (fun v1 w1 h1 h2 => by
            rw [HSn.out, hb1, hb2]
            show KnAt w w1 (kin (l.take k) S ty ++ [y]) v1
            rw [← HRl.out] at h1
            exact (HP1.out.to ((Below.refl _ _).alloc (Nat.le_refl _) (.cells rl.toArray 41))).app h1 h2)
          have HRw : Hid (∀ j y, rl[j]? = some y → ((wr.alloc (.cells rl.toArray 41)).alloc (.cells rl.toArray 41)).cell? ⟨wr.heap.size + 1, j, none⟩ = some y) := Lib.hid (fun j y hj => by
            have h := heap_alloc_last (wr.alloc (.cells rl.toArray 41)) (.cells rl.toArray 41)
            rw [World.size_alloc] at h
            exact (cell_of_row _ _ j _ _ _ h).trans (by rw [List.getElem?_toArray]; exact hj))
          clear HP1 HP HSn HRl
          generalize rcs (kin (l.take k) S ty) = rcs0 at HO6 HN
          generalize (kin (l.take k) S ty).length = nrs at HO6 HN hlen2
          have hnrs : (nrs : Int) ≤ 1000 := by omega
          go_wp2_with (first
            | (refine wpList_load_agg rfl 41 (.tmp 14) rfl ⟨b, o + k * 21, none⟩ rfl rl.toArray _ HYC.out Try.underlying41 rfl HYS.out ?_; go_simp)
            | (refine wpList_alloc_z rfl 41 rfl (RV.cells ⟨emp, 0, 0, zero16, emp, emp⟩) HZ.out ?_; go_simp)
            | (refine wpList_store_new rfl 41 (.tmp 9) (.tmp 15) rfl wr.heap.size rfl (RV.cells ⟨emp, 0, 0, zero16, emp, emp⟩) rl.toArray 41 rfl rfl HYS.out HYZ.out HYO.out ?_; go_simp)
            | (refine wpList_load_row rfl 41 (.tmp 9) rfl wr.heap.size rfl 41 rl.toArray (0, 0) _ HG1.out Try.underlying41 rfl HYS.out ?_; go_simp)
            | (refine wpList_buildSlice rfl 30 41 1 #[(0, .tmp 27)] rfl rl.toArray i0 _ Try.underlying30 HI.out HZ0.out (by rw [HZ1.out]; decide) (by rw [HZ1.out]; decide) (by rw [HZ1.out]; refine (congrArg _ (?_ : _ = [(0, Value.agg rl.toArray)])).trans (fill21c HCL.out); rw [Array.toList_map]; rfl) ?_; go_simp)
            | (at_builtin; refine wpList_append_own (w := (wr.alloc (.cells rl.toArray 41)).alloc (.cells rl.toArray 41)) rfl (.tmp 26) (.tmp 28) 30 rfl w.heap.size 41 i0 _ 21 80 Try.underlying30 HI.out HZ0.out HZ1.out HZ2.out rfl (by decide) v nrs rcs0 rfl HO6.out ⟨wr.heap.size + 1, 0, none⟩ 1 1 rl rfl (by rw [HCL.out]) (fun j u hj => by rw [Addr.add_lit, Nat.zero_add]; exact HRw.out j u hj) HC1.out (by unfold maxLen; omega) (by omega) HB6.out ?_; intro v1 w9 ho1 hg1 hnil; clear hnil; have HNX := Lib.hid (HN.out v1 w9 ho1 hg1); clear ho1 hg1; go_simp))
          go_roundw
          case rel => exact ⟨k + 1, _, by omega, by first | rfl | go_num, rfl, HNX⟩
          case measure => simp [intOf]; omega
    · have hkI : ¬ (k : Int) < (l.length : Int) := by omega
      obtain rfl : k = l.length := by omega
      rw [List.take_length] at HP
      obtain ⟨Av, cv, rfl⟩ := own_sl4 HP.out.own
      go_wp2_with fail
      go_ret
      exact ⟨_, _, rfl, HP.out.below, own_recs HP.out.own (fun r hr => HAD.out r (kin_mem hr).1), fun b o e => by rw [e] at HP; exact own_base HP.out.own⟩
end Go.Proofs.Ytgbijhinihchgaa
