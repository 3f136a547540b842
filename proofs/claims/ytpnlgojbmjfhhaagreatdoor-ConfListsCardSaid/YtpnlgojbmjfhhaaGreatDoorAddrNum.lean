/-
  The walks of addr.numbers and addr.stretch. Conditions: sixteen bytes; a row of numbers in memory.
-/
import Derived.Test.YtpnlgojbmjfhhaaGreatDoorAddrRows
import Derived.Laws.Bits64b
namespace Go.Proofs.YtpnlgojbmjfhhaaGreatDoor
open Go.RowKit

theorem grp_at : ∀ (k : Nat) (a : List UInt8) (j : Nat), a.length = 2 * k → j < k → (grp a).getD j 0 = (a.getD (2 * j) 0).toNat * 256 + (a.getD (2 * j + 1) 0).toNat
  | 0, a, j, _, hj => absurd hj (Nat.not_lt_zero j)
  | k + 1, a, j, h, hj => by
    match a, h with
    | x :: y :: l, h =>
      simp only [List.length_cons] at h
      cases j with
      | zero => rfl
      | succ j =>
        rw [grp]
        have := grp_at k l j (by omega) (by omega)
        simp only [List.getD_cons_succ, show 2 * (j + 1) = 2 * j + 1 + 1 by omega]
        exact this
theorem or_bytes (x y : Nat) (hx : x < 256) (hy : y < 256) : bits BinOp.or IntKind.u64 ((x : Int) * 256) (y : Int) = ((x * 256 + y : Nat) : Int) := by
  rw [show (x : Int) * 256 = ((x * 256 : Nat) : Int) by omega, bits_or_u64_nat _ _ (by omega) (by omega)]
  have h := Nat.two_pow_add_eq_or_of_lt (i := 8) (b := y) (by omega) x
  rw [show 2 ^ 8 * x = x * 256 by omega] at h
  rw [h]
set_option maxRecDepth 100000 in
set_option maxHeartbeats 1000000 in
theorem numbers_e (a : List UInt8) (ha : a.length = 16) (w : World) :
    Calls Tryz.prog 51 #[.agg (bvs a).toArray] w fun e w' => ∃ g, e = .returned (.slice (some ⟨g, 0, none⟩) 8 8) ∧ Below w.heap.size w w' ∧ U64s w' g (grp a) := by
  have hg : (grp a).length = 8 := grp_length 8 a ha
  have hat0 : ∀ j, j < 16 → (bvs a)[j]? = some (.int .u8 (a.getD j 0).toNat) := fun j hj => bvs_at (by omega)
  have hval : ∀ j, j < 8 → (grp a).getD j 0 = (a.getD (2 * j) 0).toNat * 256 + (a.getD (2 * j + 1) 0).toNat := fun j hj => grp_at 8 a j ha hj
  obtain ⟨vs, hvs⟩ : ∃ vs, vs = grp a := ⟨_, rfl⟩
  obtain ⟨cs, hcs⟩ : ∃ cs, cs = (bvs a).toArray := ⟨_, rfl⟩
  have hc : ∀ j, j < 16 → cs[j]? = some (.int .u8 (a.getD j 0).toNat) := fun j hj => by rw [hcs, List.getElem?_toArray]; exact hat0 j hj
  rw [← hvs] at hg hval ⊢
  rw [← hcs]
  have hmk : ∀ W : World, (Instr.makeSlice 94 (.int .i64 8) (.int .i64 8)).run Tryz.prog W = .ok (.slice (some ⟨W.heap.size, 0, none⟩) 8 8) (W.alloc (.cells (madeCells #[.int .u64 0] 8) 125)) := mk_u64 8 (by decide)
  have hbx : Below w.heap.size w (w.alloc (.cells cs 48)) := (Below.refl _ w).alloc (Nat.le_refl _) _
  have hst := fill_start (n := 8) (F := fun j => .int .u64 (vs.getD j 0 : Nat)) (z := .int .u64 0) (t := 125) hbx
  rw [World.size_alloc] at hst
  have hcell : ∀ j, j < 16 → ∀ wr : World, Below (w.alloc (.cells cs 48)).heap.size (w.alloc (.cells cs 48)) wr → wr.cell? ⟨w.heap.size, j, none⟩ = some (.int .u8 (a.getD j 0).toNat) := fun j hj wr hb => by
    rw [hb.cell (p := ⟨w.heap.size, j, none⟩) (by rw [World.size_alloc]; exact Nat.lt_succ_self _), World.cell?_alloc_mark]
    exact hc j hj
  have ST := Lib.hid hst
  have HX := Lib.hid hcell
  have HV := Lib.hid hval
  have HG := Lib.hid hg
  clear hst hcell hval hg hcs hvs hat0 hc ha hbx
  go_enter Tryz.func51, Tryz.ntmps51
  go_wp2
  go_loopw [8, 4] (fun i _ wr => ∃ k : Nat, k ≤ 8 ∧ i = .int .i64 k ∧ Below (w.alloc (.cells cs 48)).heap.size (w.alloc (.cells cs 48)) wr ∧ Blk w wr (w.heap.size + 1) 8 (fillF (fun j => .int .u64 (vs.getD j 0 : Nat)) (.int .u64 0) k)) (fun i _ _ => 8 - (intOf i).toNat)
  case atStart => exact ⟨0, by decide, rfl, (Below.refl _ _).alloc (Nat.le_refl _) _, ST.out⟩
  case round =>
    obtain ⟨k, hk, rfl, hbw, hat⟩ := hrel
    by_cases hlt : k < 8
    · have c0 := HX.out (2 * k) (by omega) wr hbw
      have c1 := HX.out (2 * k + 1) (by omega) wr hbw
      obtain ⟨f0, ⟨u, c2⟩, hnext⟩ := hat.fill hlt (Below.refl _ wr)
      have hv := HV.out k hlt
      have h0 := (a.getD (2 * k) 0).toNat_lt
      have h1 := (a.getD (2 * k + 1) 0).toNat_lt
      have hor := or_bytes (a.getD (2 * k) 0).toNat (a.getD (2 * k + 1) 0).toNat h0 h1
      have HN := Lib.hid (hnext (.int .u64 ((a.getD (2 * k) 0).toNat * 256 + (a.getD (2 * k + 1) 0).toNat : Nat)) (by rw [hv]))
      have HB := Lib.hid hbw
      clear hnext hat hv hbw
      generalize (a.getD (2 * k) 0).toNat = x at c0 h0 hor HN
      generalize (a.getD (2 * k + 1) 0).toNat = y at c1 h1 hor HN
      go_wp2_with fail
      go_region
      all_goals go_wp2
      all_goals go_roundw
      case rel => exact ⟨k + 1, by omega, by go_num, ((HB.out.setCell (p := ⟨w.heap.size + 1, k, none⟩) (by rw [World.size_alloc]; exact Nat.le_refl _) _)).drew, HN.out.drew⟩
      case measure => simp [intOf]; omega
    · obtain rfl : k = 8 := by omega
      have H := Lib.hid hat
      clear hat hbw
      go_wp2
      go_ret
      have hf := H.out
      rw [← HG.out] at hf
      exact ⟨_, rfl, H.out.below, hf.nums⟩

theorem zr_stop (l : List Nat) (h : zr l < l.length) : l[zr l]? ≠ some 0 := by
  induction l with
  | nil => simp at h
  | cons v l ih =>
    unfold zr at h ⊢
    split
    · rename_i hv
      rw [if_pos hv, List.length_cons] at h
      rw [List.getElem?_cons_succ]
      exact ih (by omega)
    · rename_i hv
      simpa using hv
theorem drop_at {n : List Nat} {i j : Nat} (h : i + j < n.length) : (n.drop i)[j]? = some (n.getD (i + j) 0) := by
  rw [List.getElem?_drop, List.getD, List.getElem?_eq_getElem h]; rfl
/-- how stretch's outer loop stands -/
structure StAt (n : List Nat) (i f t m : Nat) : Prop where
  eq : stF n 0 (0, 0, 1) = stF (n.drop i) i (f, t, m)
  ft : t ≤ n.length
  ff : f ≤ n.length
  mm : m ≤ n.length + 1
theorem StAt.next {n : List Nat} {i f t m : Nat} (h : StAt n i f t m) (hi : i < n.length) (e : Nat) (he : e = i + zr (n.drop i)) :
    (m < e - i → StAt n (i + 1) i e (e - i)) ∧ (¬ m < e - i → StAt n (i + 1) f t m) := by
  have hz := zr_le (n.drop i)
  rw [List.length_drop] at hz
  have hd : n.drop i = n.getD i 0 :: n.drop (i + 1) := by
    rw [List.drop_eq_getElem_cons hi]; simp [List.getD, List.getElem?_eq_getElem hi]
  have hs : stF (n.drop i) i (f, t, m) = stF (n.drop (i + 1)) (i + 1) (if m < zr (n.drop i) then (i, i + zr (n.drop i), zr (n.drop i)) else (f, t, m)) := by
    conv => lhs; rw [hd, stF]
    rw [← hd]
  have hei : e - i = zr (n.drop i) := by omega
  constructor
  · intro hm
    refine ⟨by rw [h.eq, hs, if_pos (by omega), ← he, hei], by omega, by omega, by omega⟩
  · intro hm
    exact ⟨by rw [h.eq, hs, if_neg (by omega)], h.ft, h.ff, h.mm⟩
theorem StAt.done {n : List Nat} {f t m : Nat} (h : StAt n n.length f t m) : st n = (f, t) := by
  unfold st
  rw [h.eq, List.drop_length]; rfl
set_option maxRecDepth 100000 in
set_option maxHeartbeats 1000000 in
theorem stretch_e (g cap : Nat) (n : List Nat) (w : World) (hn : n.length ≤ 1000) (hg : U64s w g n) :
    Calls Tryz.prog 52 #[.slice (some ⟨g, 0, none⟩) n.length cap] w fun e w' => e = .returned (.tuple #[.int .i64 (st n).1, .int .i64 (st n).2]) ∧ Below w.heap.size w w' := by
  obtain ⟨L, hL⟩ : ∃ L, n.length = L := ⟨_, rfl⟩
  have hcell : ∀ j, j < L → w.cell? ⟨g, j, none⟩ = some (.int .u64 (n.getD j 0 : Nat)) := fun j hj => hg.cells j (by omega)
  have hlt := hg.lt
  have S0 := Lib.hid (show StAt n 0 0 0 1 from ⟨by rw [List.drop_zero], Nat.zero_le _, Nat.zero_le _, by omega⟩)
  have HC := Lib.hid hcell
  have HL := Lib.hid hL
  have HE : Hid (∀ f t m, StAt n L f t m → st n = (f, t)) := Lib.hid fun f t m h => (by rw [← hL] at h; exact h.done)
  rw [hL] at hn ⊢
  clear hcell hg hL
  go_enter Tryz.func52, Tryz.ntmps52
  go_wp2
  go_loopw [9, 2, 3, 4, 5, 6] (fun i f t m _ _ wr => ∃ k f' t' m' : Nat, k ≤ L ∧ i = .int .i64 k ∧ f = .int .i64 f' ∧ t = .int .i64 t' ∧ m = .int .i64 m' ∧ StAt n k f' t' m' ∧ Below w.heap.size w wr) (fun i _ _ _ _ _ _ => L - (intOf i).toNat)
  case atStart => exact ⟨0, 0, 0, 1, Nat.zero_le _, rfl, rfl, rfl, rfl, S0.out, Below.refl _ _⟩
  case round =>
    obtain ⟨k, f, t, m, hk, rfl, rfl, rfl, rfl, hat, hbw⟩ := hrel
    by_cases hlt2 : k < L
    · have hm := hat.mm
      have hf := hat.ff
      have ht := hat.ft
      rw [HL.out] at hm hf ht
      obtain ⟨z, hz⟩ : ∃ z, z = zr (n.drop k) := ⟨_, rfl⟩
      have hzl : k + z ≤ L := by
        have := zr_le (n.drop k)
        rw [List.length_drop, HL.out] at this; omega
      have hzero : ∀ j, k ≤ j → j < k + z → n.getD j 0 = 0 := fun j h1 h2 => by
        have h3 := zr_at (n.drop k) (j - k) (by omega)
        rw [drop_at (by rw [HL.out]; omega), show k + (j - k) = j by omega] at h3
        exact Option.some.inj h3
      have hstop : k + z < L → n.getD (k + z) 0 ≠ 0 := fun h => by
        have h3 := zr_stop (n.drop k) (by rw [List.length_drop, HL.out]; omega)
        rw [← hz, drop_at (by rw [HL.out]; exact h)] at h3
        exact fun e => h3 (by rw [e])
      have hnext := hat.next (by rw [HL.out]; exact hlt2) (k + z) (by rw [hz])
      have HN := Lib.hid hnext
      have HZ := Lib.hid hzero
      have HT := Lib.hid hstop
      have HB := Lib.hid hbw
      clear hnext hzero hstop hat hz hbw
      go_wp2
      go_loop [6] (fun e => ∃ j : Nat, k ≤ j ∧ j ≤ k + z ∧ e = .int .i64 j) (fun e => L - (intOf e).toNat)
      case atStart => exact ⟨k, Nat.le_refl _, by omega, rfl⟩
      case round =>
        obtain ⟨j, hj1, hj2, rfl⟩ := hrel
        have FIN : Hid (∀ e : Nat, e = k + z → (m < z → StAt n (k + 1) k e z) ∧ (¬ m < z → StAt n (k + 1) f t m)) := Lib.hid fun e he => by
          have := HN.out
          rw [show k + z - k = z by omega] at this
          rw [he]; exact this
        by_cases hjl : j < L
        · have c0 := (HB.out.cell (p := ⟨g, j, none⟩) hlt).trans (HC.out j hjl)
          by_cases hjz : j < k + z
          · have hv0 := HZ.out j hj1 hjz
            rw [hv0] at c0
            go_wp2
            exact ⟨⟨j + 1, by omega, by omega, by go_num⟩, by simp [intOf]; omega⟩
          · obtain rfl : j = k + z := by omega
            have hv0 := HT.out hjl
            have hvi : ¬ ((n.getD (k + z) 0 : Nat) : Int) = 0 := by omega
            generalize n.getD (k + z) 0 = x at c0 hvi
            clear hv0
            by_cases hmz : m < z
            · have hm2 : (m : Int) < (↑(k + z) : Int) - (k : Int) := by omega
              go_wp2
              exact ⟨⟨k + 1, k, k + z, z, by omega, by go_num, rfl, by go_num, by congr 1; omega, (FIN.out _ rfl).1 hmz, HB.out⟩, by simp [intOf]; omega⟩
            · have hm2 : ¬ (m : Int) < (↑(k + z) : Int) - (k : Int) := by omega
              go_wp2
              exact ⟨⟨k + 1, f, t, m, by omega, by go_num, rfl, rfl, rfl, (FIN.out _ rfl).2 hmz, HB.out⟩, by simp [intOf]; omega⟩
        · obtain rfl : j = k + z := by omega
          by_cases hmz : m < z
          · have hm2 : (m : Int) < (↑(k + z) : Int) - (k : Int) := by omega
            go_wp2
            exact ⟨⟨k + 1, k, k + z, z, by omega, by go_num, rfl, by go_num, by congr 1; omega, (FIN.out _ rfl).1 hmz, HB.out⟩, by simp [intOf]; omega⟩
          · have hm2 : ¬ (m : Int) < (↑(k + z) : Int) - (k : Int) := by omega
            go_wp2
            exact ⟨⟨k + 1, f, t, m, by omega, by go_num, rfl, rfl, rfl, (FIN.out _ rfl).2 hmz, HB.out⟩, by simp [intOf]; omega⟩
    · obtain rfl : k = L := by omega
      have H := Lib.hid (HE.out _ _ _ hat)
      have HB := Lib.hid hbw
      clear hat hbw
      go_wp2
      go_ret2
      refine ⟨?_, HB.out⟩
      rw [H.out]; rfl
end Go.Proofs.YtpnlgojbmjfhhaaGreatDoor
