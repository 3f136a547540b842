/-
  The walk of AddrShared: addresses share just the bits up to the first one by which they part. Condition: the library's variables hold what their initialisers lay.
-/
import Derived.Test.YtohjkfhjkghhfaaDoorAddrSharedFn
import Derived.Test.YtohjkfhjkghhfaaDoorAddrBackLaw
namespace Go.Proofs.YtohjkfhjkghhfaaDoor
open Go.RowKit

theorem and127 (x : Int) : ∃ k : Nat, k < 128 ∧ bits .and .i64 x 127 = (k : Int) := by
  refine ⟨(BitVec.ofInt 64 x).toNat &&& 127, by have := Nat.and_le_right (n := (BitVec.ofInt 64 x).toNat) (m := 127); omega, ?_⟩
  have h1 : (BitVec.ofInt 64 (127 : Int)).toNat = 127 := by decide
  show IntKind.i64.wrap ((BitVec.ofInt 64 x &&& BitVec.ofInt 64 (127 : Int)).toNat : Int) = _
  rw [BitVec.toNat_and, h1, IntKind.wrap_i64]
  have := Nat.and_le_right (n := (BitVec.ofInt 64 x).toNat) (m := 127)
  omega
theorem sh_self : ∀ a : List UInt8, sh a a = 8 * a.length
  | [] => rfl
  | x :: a => by rw [sh, if_pos rfl, sh_self a, List.length_cons]; omega
theorem sh_at : ∀ (q : Nat) (a b : List UInt8), q < a.length → q < b.length → (∀ j, j < q → a.getD j 0 = b.getD j 0) → a.getD q 0 ≠ b.getD q 0 → sh a b = 8 * q + part8 (a.getD q 0) (b.getD q 0)
  | 0, x :: a, y :: b, _, _, _, h => by
    rw [sh, if_neg (by simpa using h)]; simp
  | q + 1, x :: a, y :: b, ha, hb, hj, h => by
    have h0 := hj 0 (Nat.succ_pos q)
    simp only [List.getD_cons_zero] at h0
    have := sh_at q a b (by simpa using ha) (by simpa using hb) (fun j hj' => by have := hj (j + 1) (by omega); simpa using this) (by simpa using h)
    rw [sh, if_pos h0, this]
    simp only [List.getD_cons_succ]
    omega
  | _, [], _, h, _, _, _ => absurd h (Nat.not_lt_zero _)
  | _, _ :: _, [], _, h, _, _ => absurd h (Nat.not_lt_zero _)
theorem bit_len : ∀ r : Fin 8, Lib.bitLen (128 / 2 ^ r.val) = 8 - r.val ∧ 128 / 2 ^ r.val ≠ 0 ∧ 128 / 2 ^ r.val < 256 := by decide +kernel
/-- a byte, one bit of it turned -/
def flip (x : UInt8) (r : Nat) : UInt8 := UInt8.ofNat (x.toNat ^^^ (128 / 2 ^ r))
theorem flip_nat {x : UInt8} {r : Nat} (h : r < 8) : (flip x r).toNat = x.toNat ^^^ (128 / 2 ^ r) := by
  have h1 := (xor8 x.toNat (128 / 2 ^ r) x.toNat_lt (bit_len ⟨r, h⟩).2.2).2
  unfold flip
  rw [UInt8.toNat_ofNat']
  exact Nat.mod_eq_of_lt (by omega)
theorem flip_part {x : UInt8} {r : Nat} (h : r < 8) : x ≠ flip x r ∧ part8 x (flip x r) = r ∧ part8 (flip x r) x = r := by
  obtain ⟨h1, h2, _⟩ := bit_len ⟨r, h⟩
  simp only at h1 h2
  have hx : x.toNat ^^^ (flip x r).toNat = 128 / 2 ^ r := by rw [flip_nat h, ← Nat.xor_assoc, Nat.xor_self, Nat.zero_xor]
  refine ⟨fun e => ?_, ?_, ?_⟩
  · rw [← e, Nat.xor_self] at hx
    exact h2 hx.symm
  · unfold part8; rw [hx, h1]; omega
  · unfold part8; rw [Nat.xor_comm, hx, h1]; omega
/-- what the law makes of an address -/
def farB (a : List UInt8) (q r i j : Nat) : UInt8 := if j < q then a.getD j 0 else if j = q then flip (a.getD q 0) r else if j < i then UInt8.ofNat ((a.getD j 0).toNat + 3 * j) else a.getD j 0
def far (a : List UInt8) (q r : Nat) : List UInt8 := (List.range 16).map (farB a q r 16)
theorem far_len (a : List UInt8) (q r : Nat) : (far a q r).length = 16 := by unfold far; simp
theorem far_at {a : List UInt8} {q r j : Nat} (h : j < 16) : (far a q r).getD j 0 = farB a q r 16 j := by
  unfold far; simp [List.getD, h]
theorem far_sh {a : List UInt8} (ha : a.length = 16) {q r : Nat} (hq : q < 16) (hr : r < 8) : sh a (far a q r) = 8 * q + r ∧ sh (far a q r) a = 8 * q + r := by
  have hl := far_len a q r
  have hj : ∀ j, j < q → a.getD j 0 = (far a q r).getD j 0 := fun j hj => by
    rw [far_at (by omega)]; unfold farB; rw [if_pos hj]
  have hqq : (far a q r).getD q 0 = flip (a.getD q 0) r := by
    rw [far_at hq]; unfold farB; rw [if_neg (Nat.lt_irrefl q), if_pos rfl]
  obtain ⟨h1, h2, h3⟩ := flip_part (x := a.getD q 0) hr
  constructor
  · rw [sh_at q a _ (by omega) (by omega) hj (by rw [hqq]; exact h1), hqq, h2]
  · rw [sh_at q _ a (by omega) (by omega) (fun j h => (hj j h).symm) (by rw [hqq]; exact h1.symm), hqq, h3]
theorem cells_below {w w' : World} {g : Nat} {cs : Array Value} (h : ∀ j v, cs.toList[j]? = some v → w.cell? ((⟨g, 0, none⟩ : Addr).add j) = some v) (hg : g < w.heap.size) (hb : Below w.heap.size w w') : ∀ j v, cs.toList[j]? = some v → w'.cell? ((⟨g, 0, none⟩ : Addr).add j) = some v := fun j v hj => by
  have := h j v hj
  rw [Addr.add_lit] at this ⊢
  exact (hb.cell (p := ⟨g, 0 + j, none⟩) hg).trans this
/-- a whole value is loaded cell by cell, under a guard that holds -/
theorem wpList_aggr_g {P : Program} {ops : Array Oper} {rest : List Oper} {o : Oper} {a : Act} {Q : Exit → Act → World → Prop} {w : World} (ty : TypeId) (x : Operand) (hw : Region.wanted o (yielded ops a.tmps) = true) (ho : o.op = .load ty x) (p : Addr) (cs : Array Value)
    (hx : a.eval x = .pointer (some p)) (hc : ∀ j v, cs.toList[j]? = some v → w.cell? (p.add j) = some v) (n : Nat) (e : TypeId)
    (hu : P.underlying ty = some (.array n e)) (hi : (P.info? ty).map (·.size) = some cs.size)
    (h : wpList P ops Q rest (a.put o.dst (.agg cs)) w) : wpList P ops Q (o :: rest) a w := by
  unfold wpList
  rw [if_pos hw]
  left
  have hlv := run_load_agg (P := P) (w := w) ty p cs (.array n e) hc hu rfl hi
  unfold Oper.wp execOp
  simp only [ho, hx, Instr.loadAt, Instr.sureAddr, Sem.run_bind, Sem.run_pure, Result.andThen_ok, hlv]
  exact h
set_option maxRecDepth 100000 in
set_option maxHeartbeats 1000000 in
theorem addrShared_walk (a : List UInt8) (ha : a.length = 16) (n : Int) (w : World) (he : AEnv w) :
    Calls Tryd.prog 6 #[.agg (bvs a).toArray, .int .i64 n] w fun e w' => e = .returned (.bool true) ∧ Below w.heap.size w w' := by
  obtain ⟨k, hk, hand⟩ := and127 n
  obtain ⟨q, hq⟩ : ∃ q, q = k / 8 := ⟨_, rfl⟩
  obtain ⟨r, hr⟩ : ∃ r, r = k % 8 := ⟨_, rfl⟩
  have hq16 : q < 16 := by omega
  have hr8 : r < 8 := by omega
  have hkq : (k : Int) / 8 = (q : Int) := by omega
  have hkr : (k : Int) % 8 = (r : Int) := by omega
  have hat : ∀ j, j < 16 → (bvs a)[j]? = some (.int .u8 (a.getD j 0).toNat) := fun j hj => bvs_at (by omega)
  have hS := sizeBv ha
  have h1 := oneBv a
  obtain ⟨Z, hZ⟩ : ∃ Z, Z = (bvs zero16).toArray := ⟨_, rfl⟩
  have zA : (Tryd.prog.info? 23).map (·.zero) = some (some (.agg Z)) := by rw [hZ]; exact zeroAddr
  have hzr : Z.size = (bvs a).toArray.size := by rw [hZ, List.size_toArray, List.size_toArray, bvs_length, bvs_length, ha]; rfl
  have hu := Tryd.underlying23
  have hS2 := sizeBv (far_len a q r)
  obtain ⟨hs1, hs2⟩ := far_sh ha hq16 hr8
  have hs3 := sh_self a
  rw [ha] at hs3
  have C1 := fun W => shared_e a (far a q r) ha (far_len a q r) W
  have C2 := fun W => shared_e (far a q r) a (far_len a q r) ha W
  have C3 := fun W => shared_e a a ha ha W
  rw [hs1, show 8 * q + r = k by omega] at C1
  rw [hs2, show 8 * q + r = k by omega] at C2
  rw [hs3] at C3
  have hst : ∀ W : World, Below w.heap.size w W → Blk w ((W.alloc (.cells ((bvs a).toArray.setIfInBounds q (.int .u8 (flip (a.getD q 0) r).toNat)) 23)).drew) W.heap.size 16 (fun j => .int .u8 (farB a q r (q + 1) j).toNat) := fun W hW => Blk.drew (Blk.new hW fun j hj => by
    rw [Array.getElem?_setIfInBounds]
    unfold farB
    by_cases e : q = j
    · subst e
      rw [if_pos rfl, if_pos (by rw [List.size_toArray, bvs_length]; omega), if_neg (Nat.lt_irrefl q), if_pos rfl]
    · rw [if_neg e, List.getElem?_toArray, hat j hj]
      by_cases l : j < q
      · rw [if_pos l]
      · rw [if_neg l, if_neg (fun h => e h.symm), if_neg (by omega)])
  have hx : bits .xor .u8 ((a.getD q 0).toNat : Int) (128 / 2 ^ r) = ((flip (a.getD q 0) r).toNat : Int) := by
    have h := (xor8 (a.getD q 0).toNat (128 / 2 ^ r) (a.getD q 0).toNat_lt (bit_len ⟨r, hr8⟩).2.2).1
    have e : ((128 / 2 ^ r : Nat) : Int) = 128 / 2 ^ r := by simp
    rw [e] at h
    rw [h, flip_nat hr8]
  have hcell : ∀ W : World, (W.alloc (.cells (bvs a).toArray 23)).cell? ⟨W.heap.size, q, none⟩ = some (.int .u8 (a.getD q 0).toNat) ∧ (W.alloc (.cells (bvs a).toArray 23)).frozen? ⟨W.heap.size, q, none⟩ = false := fun W => by
    refine ⟨by rw [World.cell?_alloc_mark, List.getElem?_toArray]; exact hat q hq16, ?_⟩
    show (W.alloc _).frozen? _ = _
    rw [World.frozen?_alloc_mark]; simp
  have hgetc : (bvs a).toArray[q]? = some (.int .u8 (a.getD q 0).toNat) := by rw [List.getElem?_toArray]; exact hat q hq16
  have hrc : ∀ (wr : World) (g : Nat), Blk w wr g 16 (fun j => .int .u8 (farB a q r 16 j).toNat) → ∀ j v, (bvs (far a q r)).toArray.toList[j]? = some v → wr.cell? ((⟨g, 0, none⟩ : Addr).add j) = some v := fun wr g h j v hj => by
    have hj' : j < 16 := by have := (List.getElem?_eq_some_iff.1 hj).1; simp only [bvs_length, far_len] at this; exact this
    rw [Addr.add_lit, Nat.zero_add, h.cells j hj', ← hj, ← far_at (q := q) (r := r) hj']
    exact (bvs_at (by rw [far_len]; exact hj')).symm
  obtain ⟨c1, hc1⟩ : ∃ c, c = (bvs a).toArray := ⟨_, rfl⟩
  obtain ⟨c2, hc2⟩ : ∃ c, c = (bvs (far a q r)).toArray := ⟨_, rfl⟩
  simp only [← hc1, ← hc2] at hS h1 hzr hS2 C1 C2 C3 hst hrc hcell hgetc ⊢
  have hrc' : ∀ (wr : World) (g : Nat), Blk w wr g 16 (fun j => .int .u8 (farB a q r 16 j).toNat) → ∀ j v, c2.toList[j]? = some v → wr.cell? ((⟨g, 0, none⟩ : Addr).add j) = some v := by rw [hc2]; exact hrc
  have hb0 : Below w.heap.size w (w.alloc (.cells c1 23)) := (Below.refl _ w).alloc (Nat.le_refl _) _
  have HE := Lib.hid (he.below hb0)
  have HB0 := Lib.hid hb0
  have HR0 := Lib.hid (Row.new w c1)
  have ZA := Lib.hid zA
  have HS := Lib.hid hS
  have HS2 := Lib.hid hS2
  have H1 := Lib.hid h1
  have HZR := Lib.hid hzr
  have HC1 := Lib.hid C1
  have HC2 := Lib.hid C2
  have HC3 := Lib.hid C3
  have HST := Lib.hid hst
  have HCell := Lib.hid hcell
  have HRC := Lib.hid hrc'
  clear zA hS hS2 h1 hzr C1 C2 C3 hst hrc hrc' hc1 hc2 hb0 hcell he ha hat hZ hs1 hs2 hs3 hq hr
  go_enter Tryd.func6, Tryd.ntmps6
  go_wp2_with fail
  refine (fit_e _ HE.out).mono ?_
  rintro e w1 ⟨rfl, hb1⟩
  have HB1 := Lib.hid (HB0.out.trans (hb1.mono HB0.out.size))
  have HR1 := Lib.hid (HR0.out.below hb1)
  have HBlk := Lib.hid (HST.out w1 HB1.out)
  have HR2 := Lib.hid (HR1.out.alloc (.cells c1 23))
  clear hb1
  go_wp2_with (first
    | (refine wpList_load_row rfl 23 (.tmp 2) rfl w.heap.size rfl 23 c1 (0, 0) _ HR1.out hu rfl HS.out ?_; go_simp)
    | (refine wpList_alloc_z rfl 23 rfl Z ZA.out ?_; go_simp)
    | (refine wpList_store_new rfl 23 (.tmp 5) (.tmp 11) rfl w1.heap.size rfl Z c1 23 rfl rfl HS.out HZR.out H1.out ?_; go_simp))
  obtain ⟨c0, f0⟩ := HCell.out w1
  have hxl := (a.getD q 0).toNat_lt
  revert HBlk
  generalize (flip (a.getD q 0) r).toNat = y at hx
  generalize (a.getD q 0).toNat = x at c0 hx hxl hgetc
  intro HBlk
  go_region
  clear c0 f0 hx hxl hgetc
  have hr5 : Row ((w1.alloc (.cells (c1.setIfInBounds q (.int .u8 (y : Nat))) 23)).drew) w.heap.size c1 := HR1.out.alloc _
  have HR5 := Lib.hid hr5
  clear hr5
  revert HR5 HBlk
  generalize (w1.alloc (.cells (c1.setIfInBounds q (.int .u8 (y : Nat))) 23)).drew = w5
  intro HBlk HR5
  obtain ⟨g, hg⟩ : ∃ g, g = w1.heap.size := ⟨_, rfl⟩
  rw [← hg] at HBlk ⊢
  have hgw : w.heap.size < g := Nat.lt_of_lt_of_le (heap_lt HR1.out) (by omega)
  clear hg
  go_wp2
  go_loopw [6] (fun i wr => ∃ i' : Nat, q + 1 ≤ i' ∧ i' ≤ 16 ∧ i = .int .i64 i' ∧ Blk w wr g 16 (fun j => .int .u8 (farB a q r i' j).toNat) ∧ Row wr w.heap.size c1) (fun i _ => 16 - (intOf i).toNat)
  case atStart => exact ⟨q + 1, Nat.le_refl _, by omega, by go_num, HBlk.out, HR5.out⟩
  case round =>
    obtain ⟨i, hi1, hi2, rfl, hat, hrow⟩ := hrel
    by_cases hlt : i < 16
    · have c0 := hat.cells i hlt
      have f0 := hat.free i hlt
      have hfi : farB a q r i i = a.getD i 0 := by unfold farB; rw [if_neg (by omega), if_neg (by omega), if_neg (Nat.lt_irrefl i)]
      rw [hfi] at c0
      have hnx : farB a q r (i + 1) i = UInt8.ofNat ((a.getD i 0).toNat + 3 * i) := by unfold farB; rw [if_neg (by omega), if_neg (by omega), if_pos (Nat.lt_succ_self i)]
      have hset : ∀ v : Int, v = ((((a.getD i 0).toNat + 3 * i) % 256 : Nat) : Int) → Blk w (wr.setCell ⟨g, i, none⟩ (.int .u8 v)) g 16 (fun j => .int .u8 (farB a q r (i + 1) j).toNat) ∧ Row (wr.setCell ⟨g, i, none⟩ (.int .u8 v)) w.heap.size c1 := fun v hv => by
        refine ⟨(hat.set i hlt (.int .u8 v)).congr fun j hj => ?_, ?_⟩
        · by_cases e : j = i
          · subst e
            rw [if_pos rfl, hnx, UInt8.toNat_ofNat', hv]
          · rw [if_neg e]
            have : farB a q r i j = farB a q r (i + 1) j := by
              unfold farB
              by_cases h1 : j < q
              · rw [if_pos h1, if_pos h1]
              · rw [if_neg h1, if_neg h1]
                by_cases h2 : j = q
                · rw [if_pos h2, if_pos h2]
                · rw [if_neg h2, if_neg h2]
                  by_cases h3 : j < i
                  · rw [if_pos h3, if_pos (by omega)]
                  · rw [if_neg h3, if_neg (by omega)]
            rw [this]
        · exact (Below.heap_setCell wr ⟨g, i, none⟩ _ w.heap.size (by show w.heap.size ≠ g; omega)).trans hrow
      have hx := (a.getD i 0).toNat_lt
      have HSet := Lib.hid hset
      clear hset hnx hfi hat hrow
      generalize (a.getD i 0).toNat = x at c0 hx HSet
      have hw3 : IntKind.u8.wrap (3 * (i : Int)) = 3 * (i : Int) := by rw [IntKind.wrap_u8]; omega
      go_wp2
      go_roundw
      case rel => exact ⟨i + 1, by omega, by omega, by go_num, (HSet.out _ (by first | rfl | omega | (rw [IntKind.wrap_u8]; omega))).1, (HSet.out _ (by first | rfl | omega | (rw [IntKind.wrap_u8]; omega))).2⟩
      case measure => simp [intOf]; omega
    · obtain rfl : i = 16 := by omega
      have hcs := HRC.out wr g hat
      have hgl := hat.lt
      have HB := Lib.hid hat.below
      have HCs := Lib.hid hcs
      have HRw := Lib.hid hrow
      clear hcs hat hrow
      go_wp2_with (first
        | (refine wpList_load_row rfl 23 (.tmp 2) rfl w.heap.size rfl 23 c1 (0, 0) _ HRw.out hu rfl HS.out ?_; go_simp)
        | (refine wpList_load_agg rfl 23 (.tmp 5) rfl ⟨g, 0, none⟩ rfl c2 _ HCs.out hu rfl HS2.out ?_; go_simp))
      refine (HC1.out _).mono ?_
      rintro e w6 ⟨rfl, hb6⟩
      have HB6 := Lib.hid (HB.out.trans (hb6.mono HB.out.size))
      have HR6 := Lib.hid (HRw.out.below hb6)
      have HCs6 := Lib.hid (cells_below HCs.out hgl hb6)
      clear hb6
      go_wp2_with (first
        | (refine wpList_aggr_g 23 (.tmp 5) rfl rfl ⟨g, 0, none⟩ c2 rfl HCs6.out 16 5 hu HS2.out ?_; go_simp)
        | (refine wpList_load_g 23 (.tmp 2) rfl rfl w.heap.size c1 23 (0, 0) rfl HR6.out 16 5 hu HS.out ?_; go_simp))
      refine (HC2.out _).mono ?_
      rintro e w7 ⟨rfl, hb7⟩
      have HB7 := Lib.hid (HB6.out.trans (hb7.mono HB6.out.size))
      have HR7 := Lib.hid (HR6.out.below hb7)
      clear hb7
      go_wp2_with (first
        | (refine wpList_load_g 23 (.tmp 2) rfl rfl w.heap.size c1 23 (0, 0) rfl HR7.out 16 5 hu HS.out ?_; go_simp))
      refine (HC3.out _).mono ?_
      rintro e w8 ⟨rfl, hb8⟩
      have HB8 := Lib.hid (HB7.out.trans (hb8.mono HB7.out.size))
      clear hb8
      go_wp2
      go_ret
      exact ⟨rfl, HB8.out⟩
end Go.Proofs.YtohjkfhjkghhfaaDoor
