/-
  The walks of the document's own answers bit and Shared. Condition: sixteen bytes.
-/
import Derived.Test.YtoaedlllnkcfnaaDoorRankRef2
import Derived.Deep.RegionHeld3
namespace Go.Proofs.YtoaedlllnkcfnaaDoor
open Go.RowKit

theorem neq_nat (a b : Nat) : (!((a : Int) == (b : Int))) = (!(a == b)) := by
  congr 1
  rw [Bool.eq_iff_iff, beq_iff_eq, beq_iff_eq]; omega
/-- a bit of an address -/
def bitN (a : List UInt8) (k : Nat) : Nat := (a.getD (k / 8) 0).toNat / 2 ^ (7 - k % 8) % 2
theorem low_bits : ∀ (z : Fin 256) (r : Fin 9), (∀ q : Fin 8, q.val < r.val → z.val / 2 ^ (7 - q.val) % 2 = 0) ↔ r.val ≤ 8 - Lib.bitLen z.val := by decide +kernel
theorem bit_xor (x y i : Nat) : (x ^^^ y) / 2 ^ i % 2 = 0 ↔ x / 2 ^ i % 2 = y / 2 ^ i % 2 := by
  have h := Nat.testBit_xor x y i
  rw [Nat.testBit_eq_decide_div_mod_eq, Nat.testBit_eq_decide_div_mod_eq, Nat.testBit_eq_decide_div_mod_eq] at h
  have hx := Nat.mod_two_eq_zero_or_one (x / 2 ^ i)
  have hy := Nat.mod_two_eq_zero_or_one (y / 2 ^ i)
  have hz := Nat.mod_two_eq_zero_or_one ((x ^^^ y) / 2 ^ i)
  rcases hx with hx | hx <;> rcases hy with hy | hy <;> rcases hz with hz | hz <;> rw [hx, hy, hz] at h ⊢ <;> simp at h ⊢
theorem part_bits (x y : UInt8) (r : Nat) (hr : r < 8) : (x = y ∨ r ≤ part8 x y) ↔ ∀ q, q < r → x.toNat / 2 ^ (7 - q) % 2 = y.toNat / 2 ^ (7 - q) % 2 := by
  have hz := (xor8 x.toNat y.toNat x.toNat_lt y.toNat_lt).2
  have h := low_bits ⟨_, hz⟩ ⟨r, by omega⟩
  simp only at h
  unfold part8
  constructor
  · rintro (rfl | h1) q hq
    · rfl
    · exact (bit_xor _ _ _).1 (h.2 h1 ⟨q, by omega⟩ hq)
  · intro h1
    exact Or.inr (h.1 fun q hq => (bit_xor _ _ _).2 (h1 q.val hq))
theorem byte_bits (x y : UInt8) : x = y ↔ ∀ q, q < 8 → x.toNat / 2 ^ (7 - q) % 2 = y.toNat / 2 ^ (7 - q) % 2 := by
  have hz := (xor8 x.toNat y.toNat x.toNat_lt y.toNat_lt).2
  have h := low_bits ⟨_, hz⟩ ⟨8, by omega⟩
  simp only at h
  constructor
  · rintro rfl q _; rfl
  · intro h1
    have h2 := h.1 fun q hq => (bit_xor _ _ _).2 (h1 q.val hq)
    by_cases e : x = y
    · exact e
    · have := part8_lt' e
      have h3 : 1 ≤ Lib.bitLen (x.toNat ^^^ y.toNat) := by
        refine bitLen_byte ⟨_, hz⟩ (fun e0 => e (UInt8.toNat_inj.1 ?_))
        have := congrArg (fun z => z ^^^ y.toNat) e0
        simpa [Nat.xor_assoc] using this
      omega
/-- so many first bits are the same -/
theorem sh_bits {a b : List UInt8} (ha : a.length = 16) (hb : b.length = 16) (k : Nat) (hk : k < 128) : k ≤ sh a b ↔ ∀ j, j < k → bitN a j = bitN b j := by
  have hg := sh_ge (k / 8) (k % 8) a b (Nat.mod_lt _ (by decide)) (by omega) (by omega)
  rw [Nat.div_add_mod] at hg
  rw [hg, part_bits _ _ _ (Nat.mod_lt _ (by decide))]
  constructor
  · rintro ⟨h1, h2⟩ j hj
    unfold bitN
    rcases Nat.lt_or_ge (j / 8) (k / 8) with h | h
    · rw [h1 _ h]
    · have e : j / 8 = k / 8 := by omega
      rw [e]
      exact h2 _ (by omega)
  · intro h
    refine ⟨fun j hj => (byte_bits _ _).2 fun q hq => ?_, fun q hq => ?_⟩
    · have := h (8 * j + q) (by omega)
      unfold bitN at this
      rw [show (8 * j + q) / 8 = j by omega, show (8 * j + q) % 8 = q by omega] at this
      exact this
    · have := h (8 * (k / 8) + q) (by omega)
      unfold bitN at this
      rw [show (8 * (k / 8) + q) / 8 = k / 8 by omega, show (8 * (k / 8) + q) % 8 = q by omega] at this
      exact this
theorem sh_128 {a b : List UInt8} (ha : a.length = 16) (hb : b.length = 16) (h : ∀ j, j < 128 → bitN a j = bitN b j) : sh a b = 128 := by
  have h1 := (sh_bits ha hb 127 (by decide)).2 (fun j hj => h j (by omega))
  have hab : a = b := by
    apply List.ext_getElem?
    intro i
    rcases Nat.lt_or_ge i 16 with hi | hi
    · have hx : a.getD i 0 = b.getD i 0 := (byte_bits _ _).2 fun q hq => by
        have := h (8 * i + q) (by omega)
        unfold bitN at this
        rw [show (8 * i + q) / 8 = i by omega, show (8 * i + q) % 8 = q by omega] at this
        exact this
      rw [List.getElem?_eq_getElem (by omega), List.getElem?_eq_getElem (by omega)]
      simpa [List.getD, List.getElem?_eq_getElem (show i < a.length by omega), List.getElem?_eq_getElem (show i < b.length by omega)] using hx
    · rw [List.getElem?_eq_none (by omega), List.getElem?_eq_none (by omega)]
  subst hab
  have := (sh_full a a rfl).2 rfl
  have hle : ∀ c : List UInt8, sh c c = 8 * c.length := fun c => by
    induction c with
    | nil => rfl
    | cons x c ih => rw [sh, if_pos rfl, ih, List.length_cons]; omega
  rw [hle, ha]
theorem sh_at_bit {a b : List UInt8} (ha : a.length = 16) (hb : b.length = 16) (k : Nat) (hk : k < 128) (h : ∀ j, j < k → bitN a j = bitN b j) (hne : bitN a k ≠ bitN b k) : sh a b = k := by
  have h1 := (sh_bits ha hb k hk).2 h
  rcases Nat.lt_or_ge k (sh a b) with h2 | h2
  · exfalso
    rcases Nat.lt_or_ge (k + 1) 128 with h3 | h3
    · exact hne ((sh_bits ha hb (k + 1) h3).1 h2 k (by omega))
    · obtain rfl : k = 127 := by omega
      have h4 := (sh_full a b (by omega)).1 (by omega)
      exact hne (by rw [h4])
  · omega
set_option maxRecDepth 100000 in
set_option maxHeartbeats 1000000 in
theorem bit_e (a : List UInt8) (ha : a.length = 16) (k : Nat) (hk : k < 128) (w : World) :
    Calls Tryd.prog 34 #[.agg (bvs a).toArray, .int .i64 k] w fun e w' => e = .returned (.int .u8 (bitN a k)) ∧ Below w.heap.size w w' := by
  obtain ⟨q, hq⟩ : ∃ q, q = k / 8 := ⟨_, rfl⟩
  obtain ⟨r, hr⟩ : ∃ r, r = k % 8 := ⟨_, rfl⟩
  have hq16 : q < 16 := by omega
  have hr8 : r < 8 := by omega
  have hd : (k : Int).tdiv 8 = (q : Int) := by rw [Int.tdiv_eq_ediv_of_nonneg (by omega)]; omega
  have hm : (k : Int).tmod 8 = (r : Int) := by rw [Int.tmod_eq_emod_of_nonneg (by omega)]; omega
  have hb0 : Below w.heap.size w (w.alloc (.cells (bvs a).toArray 27)) := (Below.refl _ w).alloc (Nat.le_refl _) _
  have hc : (w.alloc (.cells (bvs a).toArray 27)).cell? ⟨w.heap.size, q, none⟩ = some (.int .u8 (a.getD q 0).toNat) := by
    rw [World.cell?_alloc_mark, List.getElem?_toArray]
    exact bvs_at (by omega)
  have hbit : bitN a k = (a.getD q 0).toNat / 2 ^ (7 - r) % 2 := by unfold bitN; rw [hq, hr]
  rw [hbit]
  have hx := (a.getD q 0).toNat_lt
  generalize (a.getD q 0).toNat = x at *
  generalize (bvs a).toArray = c at *
  have HB0 := Lib.hid hb0
  have h7 : IntKind.i64.wrap (7 - (r : Int)) = ((7 - r : Nat) : Int) := by rw [IntKind.wrap_i64]; omega
  have hqI : (q : Int) < 16 := by omega
  clear hb0 hbit hq hr ha
  obtain ⟨s, hs⟩ : ∃ s, s = 7 - r := ⟨_, rfl⟩
  have hs8 : s < 8 := by omega
  rw [← hs] at h7 ⊢
  have hand := (and_u8 (x / 2 ^ s) 1 (Nat.lt_of_le_of_lt (Nat.div_le_self _ _) hx) (by decide)).1
  rw [Nat.and_one_is_mod] at hand
  clear hs
  go_enter Tryd.func34, Tryd.ntmps34
  go_wp2
  go_ret
  refine ⟨?_, HB0.out⟩
  show Ending.returned (Value.int .u8 (bits .and .u8 ((x : Int) / 2 ^ s) 1)) = _
  have e : ((x / 2 ^ s : Nat) : Int) = (x : Int) / 2 ^ s := by simp
  rw [← e]
  have h1 : bits .and .u8 ((x / 2 ^ s : Nat) : Int) 1 = ((x / 2 ^ s % 2 : Nat) : Int) := hand
  rw [h1]
set_option maxRecDepth 100000 in
set_option maxHeartbeats 1000000 in
theorem refShared_e (a b : List UInt8) (ha : a.length = 16) (hb : b.length = 16) (w : World) :
    Calls Tryd.prog 24 #[.agg (bvs a).toArray, .agg (bvs b).toArray] w fun e w' => e = .returned (.int .i64 (sh a b)) ∧ Below w.heap.size w w' := by
  have hSx := sizeBv ha
  have hSy := sizeBv hb
  rw [List.size_toArray] at hSx hSy
  have hu := Tryd.underlying27
  have bx := fun k (hk : k < 128) W => bit_e a ha k hk W
  have by' := fun k (hk : k < 128) W => bit_e b hb k hk W
  have h128 := sh_128 ha hb
  have hat := sh_at_bit ha hb
  obtain ⟨f, hf⟩ : ∃ f : Nat → Nat, ∀ k, f k = bitN a k := ⟨_, fun _ => rfl⟩
  obtain ⟨g, hg⟩ : ∃ f : Nat → Nat, ∀ k, f k = bitN b k := ⟨_, fun _ => rfl⟩
  simp only [← hf, ← hg] at bx by' h128 hat
  generalize sh a b = s at *
  generalize bvs a = x at *
  generalize bvs b = y at *
  obtain ⟨w2, hw2⟩ : ∃ w2, w2 = (w.alloc (.cells x.toArray 27)).alloc (.cells y.toArray 27) := ⟨_, rfl⟩
  have b1 : w2.heap[w.heap.size]? = some (.cells x.toArray 27 (0, 0)) := by rw [hw2]; exact heap_alloc2_old _ _ _
  have b2 : w2.heap[w.heap.size + 1]? = some (.cells y.toArray 27 (0, 0)) := by rw [hw2]; exact heap_alloc2_new _ _ _
  have hb2 : Below w.heap.size w w2 := by rw [hw2]; exact ((Below.refl _ w).alloc (Nat.le_refl _) _).alloc (by rw [World.size_alloc]; omega) _
  have B1 := Lib.hid b1
  have B2 := Lib.hid b2
  have HB2 := Lib.hid hb2
  have BX := Lib.hid bx
  have BY := Lib.hid by'
  have H128 := Lib.hid h128
  have HAt := Lib.hid hat
  have HW2 := Lib.hid hw2
  clear b1 b2 hb2 bx by' h128 hat hf hg ha hb hw2
  go_enter Tryd.func24, Tryd.ntmps24
  go_wp2
  rw [← HW2.out]
  clear HW2
  go_loopg [5] 128 (fun gk i wr => ∃ k : Nat, i = .int .i64 k ∧ k + gk = 128 ∧ Hid (∀ j, j < k → f j = g j) ∧ Hid (Below w2.heap.size w2 wr))
  case atStart => exact ⟨0, rfl, by simp, Lib.hid (fun j hj => absurd hj (Nat.not_lt_zero _)), Lib.hid (Below.refl _ _)⟩
  case round =>
    obtain ⟨k, rfl, hk, HJ, HBw⟩ := hrel
    by_cases hlt : k < 128
    · obtain ⟨m, rfl⟩ : ∃ m, gk = m + 1 := ⟨gk - 1, by omega⟩
      have hkI : (k : Int) < 128 := by omega
      have c1 := (HBw.out.block _ (heap_lt B1.out)).trans B1.out
      have c2 := (HBw.out.block _ (heap_lt B2.out)).trans B2.out
      have RX := Lib.hid (fun (W : World) (hb : Below wr.heap.size wr W) => (fun j v hj => by rw [Nat.zero_add, hb.cell (p := ⟨w.heap.size, j, none⟩) (heap_lt c1), cell_of_row _ _ _ _ _ _ c1, List.getElem?_toArray]; exact hj : W.rangeAt w.heap.size 0 x))
      have RY := Lib.hid (fun (W : World) (hb : Below wr.heap.size wr W) => (fun j v hj => by rw [Nat.zero_add, hb.cell (p := ⟨w.heap.size + 1, j, none⟩) (heap_lt c2), cell_of_row _ _ _ _ _ _ c2, List.getElem?_toArray]; exact hj : W.rangeAt (w.heap.size + 1) 0 y))
      clear c1 c2
      go_wp2_with fail
      refine wp_region_held_drew (S := (fun W : World => Below wr.heap.size wr W)) (by kernel_rfl) (Below.refl _ wr).drew (fun hHeld => ?_)
      refine wpAnyH_take (i := 0) (oi := ({ dst := some 10, op := Go.Op.load 27 (Go.Operand.tmp 2), type := 27, pos := "ref.go:12", after := #[], guard := none } : Oper)) (v := .agg (x).toArray) rfl (by kernel_rfl) (by kernel_rfl) (by kernel_rfl) (fun _ _ _ h => h) (yieldsIf_load_mid (by rfl) _ _ rfl _ _ rfl _ _ (fun W h => RX.out W h) hu rfl hSx) hHeld ?_
      simp only [Act.put, List.setIfInBounds_toArray, List.set_cons_zero, List.set_cons_succ]
      refine wpAnyH_take (i := 1) (oi := ({ dst := some 11, op := Go.Op.move (Go.Operand.tmp 5), type := 3, pos := "ref.go:12", after := #[], guard := none } : Oper)) (v := .int .i64 k) rfl (by kernel_rfl) (by kernel_rfl) (by kernel_rfl) (fun _ _ _ h => h) (Or.inl ⟨by rfl, fun w' _ => ?_⟩) hHeld ?_
      · go_simp
      simp only [Act.put, List.setIfInBounds_toArray, List.set_cons_zero, List.set_cons_succ]
      refine wpAnyH_take (i := 3) (oi := ({ dst := some 13, op := Go.Op.load 27 (Go.Operand.tmp 3), type := 27, pos := "ref.go:12", after := #[], guard := none } : Oper)) (v := .agg (y).toArray) rfl (by kernel_rfl) (by kernel_rfl) (by kernel_rfl) (fun _ _ _ h => h) (yieldsIf_load_mid (by rfl) _ _ rfl _ _ rfl _ _ (fun W h => RY.out W h) hu rfl hSy) hHeld ?_
      simp only [Act.put, List.setIfInBounds_toArray, List.set_cons_zero, List.set_cons_succ]
      refine wpAnyH_take (i := 4) (oi := ({ dst := some 14, op := Go.Op.move (Go.Operand.tmp 5), type := 3, pos := "ref.go:12", after := #[], guard := none } : Oper)) (v := .int .i64 k) rfl (by kernel_rfl) (by kernel_rfl) (by kernel_rfl) (fun _ _ _ h => h) (Or.inl ⟨by rfl, fun w' _ => ?_⟩) hHeld ?_
      · go_simp
      simp only [Act.put, List.setIfInBounds_toArray, List.set_cons_zero, List.set_cons_succ]
      refine wpAnyH_ready (rs := [2]) (by kernel_rfl) (by simp) ?_
      refine AllReadyH.cons (o := ({ dst := some 12, op := Go.Op.call { callee := Go.Callee.value (Go.Operand.func 34), args := #[Go.Operand.tmp 10, Go.Operand.tmp 11], argTypes := #[27, 3] }, type := 5, pos := "ref.go:12", after := #[{ on := 0, ground := Go.Ground.data }, { on := 1, ground := Go.Ground.data }], guard := none } : Oper)) rfl (fun K hK => ?_) AllReadyH.nil
      go_simp
      go_at_call 34
      refine (BX.out k hlt _).mono ?_
      rintro e' wc ⟨rfl, hbc⟩
      refine hK.out _ _ (Below.trans hHeld (Below.mono hbc (Below.size hHeld))) (fun hHeld' => ?_)
      clear hK K hbc
      try clear hHeld
      try simp only [Act.put, List.setIfInBounds_toArray, List.set_cons_zero, List.set_cons_succ]
      refine wpAnyH_ready (rs := [5]) (by kernel_rfl) (by simp) ?_
      refine AllReadyH.cons (o := ({ dst := some 15, op := Go.Op.call { callee := Go.Callee.value (Go.Operand.func 34), args := #[Go.Operand.tmp 13, Go.Operand.tmp 14], argTypes := #[27, 3] }, type := 5, pos := "ref.go:12", after := #[{ on := 3, ground := Go.Ground.data }, { on := 4, ground := Go.Ground.data }, { on := 2, ground := Go.Ground.chain }], guard := none } : Oper)) rfl (fun K hK => ?_) AllReadyH.nil
      go_simp
      go_at_call 34
      refine (BY.out k hlt _).mono ?_
      rintro e' wc ⟨rfl, hbc⟩
      refine hK.out _ _ (Below.trans hHeld' (Below.mono hbc (Below.size hHeld'))) (fun hHeld'' => ?_)
      clear hK K hbc
      try clear hHeld'
      try simp only [Act.put, List.setIfInBounds_toArray, List.set_cons_zero, List.set_cons_succ]
      refine wpAnyH_take (i := 6) (oi := ({ dst := some 16, op := Go.Op.binOp Go.BinOp.neq 5 (Go.Operand.tmp 12) (Go.Operand.tmp 15) 5, type := 4, pos := "ref.go:12", after := #[{ on := 2, ground := Go.Ground.data }, { on := 5, ground := Go.Ground.data }], guard := none } : Oper)) (v := .bool (!(f k == g k))) rfl (by kernel_rfl) (by kernel_rfl) (by kernel_rfl) (fun _ _ _ h => h) (Or.inl ⟨by rfl, fun w' _ => ?_⟩) hHeld'' ?_
      · (go_simp; exact neq_nat _ _)
      simp only [Act.put, List.setIfInBounds_toArray, List.set_cons_zero, List.set_cons_succ]
      refine wpAnyH_done (by kernel_rfl) ?_ _
      have HBn := Lib.hid (HBw.out.trans (Below.mono hHeld'' HBw.out.size))
      obtain ⟨q, hq⟩ : ∃ q, q = !(f k == g k) := ⟨_, rfl⟩
      rw [← hq]
      by_cases hfg : f k = g k
      · obtain rfl : q = false := by rw [hq, hfg]; simp
        have HJ' := Lib.hid (fun j (hj : j < k + 1) => (by
          rcases Nat.lt_or_ge j k with h | h
          · exact HJ.out j h
          · obtain rfl : j = k := by omega
            exact hfg : f j = g j))
        clear hq hfg
        go_wp2_with fail
        go_roundg m
        case measure => omega
        case rel => exact ⟨k + 1, by go_num, by omega, HJ', HBn⟩
      · obtain rfl : q = true := by rw [hq]; simp [hfg]
        have HS := Lib.hid (HAt.out k hlt HJ.out hfg)
        clear hq hfg
        go_wp2_with fail
        go_ret
        refine ⟨?_, HB2.out.trans (HBn.out.mono HB2.out.size)⟩
        rw [HS.out]; rfl
    · obtain rfl : k = 128 := by omega
      have HS := Lib.hid (H128.out HJ.out)
      go_wp2_with fail
      go_ret
      refine ⟨?_, HB2.out.trans (HBw.out.mono HB2.out.size)⟩
      rw [HS.out]; rfl
end Go.Proofs.YtoaedlllnkcfnaaDoor
