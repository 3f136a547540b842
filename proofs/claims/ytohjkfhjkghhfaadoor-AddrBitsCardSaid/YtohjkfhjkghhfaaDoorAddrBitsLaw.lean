/-
  The walk of AddrBits: shared bits are those of the nearer one: of three the least two are the same. Condition: the library's variables hold what their initialisers lay.
-/
import Derived.Test.YtohjkfhjkghhfaaDoorAddrSharedLaw
import Derived.Deep.RegionHeld3
import Derived.Laws.Cover1
namespace Go.Proofs.YtohjkfhjkghhfaaDoor
open Go.RowKit

theorem range_row {w : World} {g : Nat} {cs : List Value} {t : TypeId} {fr : Nat × Nat} (hg : w.heap[g]? = some (.cells cs.toArray t fr)) : w.rangeAt g 0 cs := fun j v hj => by
  rw [Nat.zero_add, cell_of_row w g j _ t fr hg]; simpa using hj
theorem range_below {w w' : World} {g : Nat} {cs : List Value} (h : w.rangeAt g 0 cs) (hlt : g < w.heap.size) (hb : Below w.heap.size w w') : w'.rangeAt g 0 cs := fun j v hj => (hb.cell (p := ⟨g, 0 + j, none⟩) hlt).trans (h j v hj)
/-- three addresses lie in memory -/
structure APS3 (w : World) (g1 g2 g3 : Nat) (c1 c2 c3 : List Value) (wr : World) : Prop where
  ra : wr.rangeAt g1 0 c1
  rb : wr.rangeAt g2 0 c2
  rc : wr.rangeAt g3 0 c3
  la : g1 < wr.heap.size
  lb : g2 < wr.heap.size
  lc : g3 < wr.heap.size
  below : Below w.heap.size w wr
theorem APS3.step {w wr w2 : World} {g1 g2 g3 : Nat} {c1 c2 c3 : List Value} (h : APS3 w g1 g2 g3 c1 c2 c3 wr) (hb : Below wr.heap.size wr w2) : APS3 w g1 g2 g3 c1 c2 c3 w2 :=
  ⟨range_below h.ra h.la hb, range_below h.rb h.lb hb, range_below h.rc h.lc hb, Nat.lt_of_lt_of_le h.la hb.size, Nat.lt_of_lt_of_le h.lb hb.size, Nat.lt_of_lt_of_le h.lc hb.size, h.below.trans (hb.mono h.below.size)⟩
theorem APS3.drew {w wr : World} {g1 g2 g3 : Nat} {c1 c2 c3 : List Value} (h : APS3 w g1 g2 g3 c1 c2 c3 wr) : APS3 w g1 g2 g3 c1 c2 c3 wr.drew := h.step (Below.refl _ wr).drew
theorem bl_lt : ∀ k : Fin 256, k.val < 2 ^ Lib.bitLen k.val ∧ Lib.bitLen k.val ≤ 8 := by decide +kernel
theorem bl_xor {u v : Nat} (hu : u < 256) (hv : v < 256) : Lib.bitLen (u ^^^ v) ≤ Lib.bitLen u ∨ Lib.bitLen (u ^^^ v) ≤ Lib.bitLen v := by
  obtain ⟨h1, h2⟩ := bl_lt ⟨u, hu⟩
  obtain ⟨h3, h4⟩ := bl_lt ⟨v, hv⟩
  simp only at h1 h2 h3 h4
  rcases Nat.le_total (Lib.bitLen u) (Lib.bitLen v) with h | h
  · right
    exact Lib.bitLen_le _ _ (by omega) (Nat.xor_lt_two_pow (Nat.lt_of_lt_of_le h1 (Nat.pow_le_pow_right (by decide) h)) h3)
  · left
    exact Lib.bitLen_le _ _ (by omega) (Nat.xor_lt_two_pow h1 (Nat.lt_of_lt_of_le h3 (Nat.pow_le_pow_right (by decide) h)))
/-- of three bytes the least two of the shared bits are the same -/
theorem part_three {u v : Nat} (hu : u < 256) (hv : v < 256) :
    (8 - Lib.bitLen u = 8 - Lib.bitLen v ∧ 8 - Lib.bitLen u ≤ 8 - Lib.bitLen (u ^^^ v)) ∨ (8 - Lib.bitLen u = 8 - Lib.bitLen (u ^^^ v) ∧ 8 - Lib.bitLen u ≤ 8 - Lib.bitLen v) ∨ (8 - Lib.bitLen v = 8 - Lib.bitLen (u ^^^ v) ∧ 8 - Lib.bitLen v ≤ 8 - Lib.bitLen u) := by
  have hx := (xor8 u v hu hv).2
  have h1 := bl_xor hu hv
  have h2 := bl_xor hu hx
  have h3 := bl_xor hv hx
  rw [← Nat.xor_assoc, Nat.xor_self, Nat.zero_xor] at h2
  rw [Nat.xor_comm u v, ← Nat.xor_assoc, Nat.xor_self, Nat.zero_xor] at h3
  rw [Nat.xor_comm v u] at h3
  omega
theorem bitLen_byte : ∀ k : Fin 256, k.val ≠ 0 → 1 ≤ Lib.bitLen k.val := by decide +kernel
theorem part8_lt {x y : UInt8} (h : x ≠ y) : part8 x y < 8 := by
  have hx : x.toNat ^^^ y.toNat ≠ 0 := fun e => h (UInt8.toNat_inj.1 (by
    have := congrArg (fun z => z ^^^ y.toNat) e
    simpa [Nat.xor_assoc] using this))
  unfold part8
  have := bitLen_byte ⟨_, (xor8 x.toNat y.toNat x.toNat_lt y.toNat_lt).2⟩ hx
  simp only at this
  omega
theorem part8_comm (x y : UInt8) : part8 x y = part8 y x := by unfold part8; rw [Nat.xor_comm]
def Two (x y z : Nat) : Prop := (x = y ∧ x ≤ z) ∨ (x = z ∧ x ≤ y) ∨ (y = z ∧ y ≤ x)
theorem sh_three : ∀ (a b c : List UInt8), a.length = b.length → b.length = c.length → Two (sh a b) (sh b c) (sh a c)
  | [], [], [], _, _ => .inl ⟨rfl, Nat.le_refl _⟩
  | x :: a, y :: b, z :: c, h1, h2 => by
    have ih := sh_three a b c (by simpa using h1) (by simpa using h2)
    unfold sh
    by_cases hxy : x = y
    · subst hxy
      rw [if_pos rfl]
      by_cases hxz : x = z
      · subst hxz
        rw [if_pos rfl, if_pos rfl]
        rcases ih with ⟨h, h'⟩ | ⟨h, h'⟩ | ⟨h, h'⟩
        · exact .inl ⟨by omega, by omega⟩
        · exact .inr (.inl ⟨by omega, by omega⟩)
        · exact .inr (.inr ⟨by omega, by omega⟩)
      · rw [if_neg hxz, if_neg hxz]
        have := part8_lt hxz
        exact .inr (.inr ⟨rfl, by omega⟩)
    · rw [if_neg hxy]
      have hl := part8_lt hxy
      by_cases hyz : y = z
      · subst hyz
        rw [if_pos rfl, if_neg hxy]
        exact .inr (.inl ⟨rfl, by omega⟩)
      · rw [if_neg hyz]
        by_cases hxz : x = z
        · subst hxz
          rw [if_pos rfl]
          exact .inl ⟨part8_comm _ _, by omega⟩
        · rw [if_neg hxz]
          have e : (x.toNat ^^^ y.toNat) ^^^ (y.toNat ^^^ z.toNat) = x.toNat ^^^ z.toNat := by
            rw [Nat.xor_assoc, ← Nat.xor_assoc y.toNat y.toNat, Nat.xor_self, Nat.zero_xor]
          have := part_three (xor8 x.toNat y.toNat x.toNat_lt y.toNat_lt).2 (xor8 y.toNat z.toNat y.toNat_lt z.toNat_lt).2
          rw [e] at this
          exact this
theorem sh_le : ∀ (a b : List UInt8), sh a b ≤ 8 * a.length
  | [], _ => Nat.zero_le _
  | x :: a, [] => Nat.zero_le _
  | x :: a, y :: b => by
    unfold sh
    split
    · have := sh_le a b
      rw [List.length_cons]; omega
    · unfold part8
      rw [List.length_cons]; omega
theorem sh_full : ∀ {a b : List UInt8}, a.length = b.length → sh a b = 8 * a.length → a = b
  | [], [], _, _ => rfl
  | x :: a, y :: b, hl, h => by
    unfold sh at h
    split at h
    · rename_i e
      rw [List.length_cons] at h
      subst e
      rw [sh_full (by simpa using hl) (show sh a b = 8 * a.length by omega)]
    · rename_i e
      have := part8_lt e
      rw [List.length_cons] at h
      omega
theorem idx0 (a b c : Int) (W : World) : (Instr.index 41 (.agg #[.int .i64 a, .int .i64 b, .int .i64 c]) (.int .i64 0)).run Tryd.prog W = .ok (.int .i64 a) W := by kernel_rfl
theorem idx1 (a b c : Int) (W : World) : (Instr.index 41 (.agg #[.int .i64 a, .int .i64 b, .int .i64 c]) (.int .i64 1)).run Tryd.prog W = .ok (.int .i64 b) W := by kernel_rfl
theorem idx2 (a b c : Int) (W : World) : (Instr.index 41 (.agg #[.int .i64 a, .int .i64 b, .int .i64 c]) (.int .i64 2)).run Tryd.prog W = .ok (.int .i64 c) W := by kernel_rfl
/-- an element of a value of several -/
theorem wpList_index {P : Program} {ops : Array Oper} {rest : List Oper} {o : Oper} {a : Act} {Q : Exit → Act → World → Prop} {w : World} (hgd : o.guard = none) (ty : TypeId) (x y : Operand) (ho : o.op = .index ty x y) (v : Value)
    (hr : (Instr.index ty (a.eval x) (a.eval y)).run P w = .ok v w) (h : wpList P ops Q rest (a.put o.dst v) w) : wpList P ops Q (o :: rest) a w :=
  wpList_plain hgd fun _ hK => by
    unfold Oper.wp execOp
    simp only [ho, Sem.run_bind, hr, Result.andThen_ok, Sem.run_pure]
    exact hK _ _ h
set_option maxRecDepth 100000 in
set_option maxHeartbeats 4000000 in
theorem addrBits_walk (a : List UInt8) (ha : a.length = 16) (b : List UInt8) (hb : b.length = 16) (c : List UInt8) (hc : c.length = 16) (w : World) (he : AEnv w) :
    Calls Tryd.prog 9 #[.agg (bvs a).toArray, .agg (bvs b).toArray, .agg (bvs c).toArray] w fun e w' => e = .returned (.bool true) ∧ Below w.heap.size w w' := by
  have hq : ∀ W : World, (Op.equalIn 10000 23 (.agg (bvs a).toArray) (.agg (bvs b).toArray)).run Tryd.prog W = .ok (a == b) W := fun W => run_eq_addr W ha hb
  have hS : (Tryd.prog.info? 23).map (·.size) = some (bvs a).length := by rw [sizeAddr, bvs_length, ha]
  have hS2 : (Tryd.prog.info? 23).map (·.size) = some (bvs b).length := by rw [sizeAddr, bvs_length, hb]
  have hS3 : (Tryd.prog.info? 23).map (·.size) = some (bvs c).length := by rw [sizeAddr, bvs_length, hc]
  have hu := Tryd.underlying23
  have hpa := fun W => shared_e a b ha hb W
  have hpb := fun W => shared_e b c hb hc W
  have hpc := fun W => shared_e a c ha hc W
  have htwo := sh_three a b c (by omega) (by omega)
  have hx128 : sh a b ≤ 128 := by have := sh_le a b; omega
  have hres : (a == b) = decide (sh a b = 128) := by
    rw [Bool.eq_iff_iff, beq_iff_eq, decide_eq_true_iff]
    exact ⟨fun e => by rw [e, sh_self, hb], fun e => sh_full (by omega) (by rw [e, ha])⟩
  generalize sh a b = x at hpa htwo hx128 hres
  generalize sh b c = y at hpb htwo
  generalize sh a c = z at hpc htwo
  rw [hres] at hq
  clear hres
  generalize bvs a = c1 at *
  generalize bvs b = c2 at *
  generalize bvs c = c3 at *
  have hb2 : Below w.heap.size w (((w.alloc (.cells c1.toArray 23)).alloc (.cells c2.toArray 23)).alloc (.cells c3.toArray 23)) := (((Below.refl _ w).alloc (Nat.le_refl _) _).alloc (by rw [World.size_alloc]; omega) _).alloc (by rw [World.size_alloc, World.size_alloc]; omega) _
  have hp0 : APS3 w w.heap.size (w.heap.size + 1) (w.heap.size + 2) c1 c2 c3 (((w.alloc (.cells c1.toArray 23)).alloc (.cells c2.toArray 23)).alloc (.cells c3.toArray 23)) := by
    have h2 : Below ((w.alloc (.cells c1.toArray 23)).alloc (.cells c2.toArray 23)).heap.size ((w.alloc (.cells c1.toArray 23)).alloc (.cells c2.toArray 23)) (((w.alloc (.cells c1.toArray 23)).alloc (.cells c2.toArray 23)).alloc (.cells c3.toArray 23)) := (Below.refl _ _).alloc (Nat.le_refl _) _
    have e3 : ((w.alloc (.cells c1.toArray 23)).alloc (.cells c2.toArray 23)).heap.size = w.heap.size + 2 := by rw [World.size_alloc, World.size_alloc]
    have r3 := range_row (heap_alloc_last ((w.alloc (.cells c1.toArray 23)).alloc (.cells c2.toArray 23)) (.cells c3.toArray 23))
    rw [e3] at r3
    exact ⟨range_below (range_row (heap_alloc2_old w _ _)) (by rw [e3]; omega) h2, range_below (range_row (heap_alloc2_new w _ _)) (by rw [e3]; omega) h2, r3, by rw [World.size_alloc, e3]; omega, by rw [World.size_alloc, e3]; omega, by rw [World.size_alloc, e3]; omega, hb2⟩
  have HP0 := Lib.hid hp0
  have HF := Lib.hid (fit_e _ (he.below hb2))
  have CA : ∀ W, APS3 w w.heap.size (w.heap.size + 1) (w.heap.size + 2) c1 c2 c3 W → Calls Tryd.prog 18 #[.agg c1.toArray, .agg c2.toArray] W fun e w' => e = .returned (.int .i64 (x : Nat)) ∧ APS3 w w.heap.size (w.heap.size + 1) (w.heap.size + 2) c1 c2 c3 w' := fun W hW => (hpa W).mono fun _ _ ⟨h1, h2⟩ => ⟨h1, hW.step h2⟩
  have CB : ∀ W, APS3 w w.heap.size (w.heap.size + 1) (w.heap.size + 2) c1 c2 c3 W → Calls Tryd.prog 18 #[.agg c2.toArray, .agg c3.toArray] W fun e w' => e = .returned (.int .i64 (y : Nat)) ∧ APS3 w w.heap.size (w.heap.size + 1) (w.heap.size + 2) c1 c2 c3 w' := fun W hW => (hpb W).mono fun _ _ ⟨h1, h2⟩ => ⟨h1, hW.step h2⟩
  have CC : ∀ W, APS3 w w.heap.size (w.heap.size + 1) (w.heap.size + 2) c1 c2 c3 W → Calls Tryd.prog 18 #[.agg c1.toArray, .agg c3.toArray] W fun e w' => e = .returned (.int .i64 (z : Nat)) ∧ APS3 w w.heap.size (w.heap.size + 1) (w.heap.size + 2) c1 c2 c3 w' := fun W hW => (hpc W).mono fun _ _ ⟨h1, h2⟩ => ⟨h1, hW.step h2⟩
  have HA := Lib.hid CA
  have HB := Lib.hid CB
  have HC := Lib.hid CC
  have HQ := Lib.hid hq
  have HTwo := Lib.hid htwo
  clear hpa hpb hpc hp0 CA CB CC he ha hb hc hb2 hq htwo
  go_enter Tryd.func9, Tryd.ntmps9
  go_wp2_with fail
  refine HF.out.mono ?_
  rintro e w1 ⟨rfl, hb1⟩
  have h0 := HP0.out.step hb1
  clear hb1
  go_wp2_with fail
  refine wp_region_held_drew (S := APS3 w w.heap.size (w.heap.size + 1) (w.heap.size + 2) c1 c2 c3) (by kernel_rfl) h0.drew (fun hHeld => ?_)
  refine wpAnyH_take (i := 0) (oi := ({ dst := some 16, op := Go.Op.load 23 (Go.Operand.tmp 3), type := 23, pos := "law.go:135", after := #[], guard := none } : Oper)) (v := .agg c1.toArray) rfl (by kernel_rfl) (by kernel_rfl) (by kernel_rfl) (fun _ _ _ h => h) (yieldsIf_load_mid (by rfl) _ _ rfl _ _ rfl _ _ (fun w h => h.ra) hu rfl hS) hHeld ?_
  refine wpAnyH_take (i := 1) (oi := ({ dst := some 17, op := Go.Op.load 23 (Go.Operand.tmp 4), type := 23, pos := "law.go:135", after := #[], guard := none } : Oper)) (v := .agg c2.toArray) rfl (by kernel_rfl) (by kernel_rfl) (by kernel_rfl) (fun _ _ _ h => h) (yieldsIf_load_mid (by rfl) _ _ rfl _ _ rfl _ _ (fun w h => h.rb) hu rfl hS2) hHeld ?_
  refine wpAnyH_take (i := 3) (oi := ({ dst := some 19, op := Go.Op.load 23 (Go.Operand.tmp 4), type := 23, pos := "law.go:135", after := #[], guard := none } : Oper)) (v := .agg c2.toArray) rfl (by kernel_rfl) (by kernel_rfl) (by kernel_rfl) (fun _ _ _ h => h) (yieldsIf_load_mid (by rfl) _ _ rfl _ _ rfl _ _ (fun w h => h.rb) hu rfl hS2) hHeld ?_
  refine wpAnyH_take (i := 4) (oi := ({ dst := some 20, op := Go.Op.load 23 (Go.Operand.tmp 5), type := 23, pos := "law.go:135", after := #[], guard := none } : Oper)) (v := .agg c3.toArray) rfl (by kernel_rfl) (by kernel_rfl) (by kernel_rfl) (fun _ _ _ h => h) (yieldsIf_load_mid (by rfl) _ _ rfl _ _ rfl _ _ (fun w h => h.rc) hu rfl hS3) hHeld ?_
  refine wpAnyH_take (i := 6) (oi := ({ dst := some 22, op := Go.Op.load 23 (Go.Operand.tmp 3), type := 23, pos := "law.go:135", after := #[], guard := none } : Oper)) (v := .agg c1.toArray) rfl (by kernel_rfl) (by kernel_rfl) (by kernel_rfl) (fun _ _ _ h => h) (yieldsIf_load_mid (by rfl) _ _ rfl _ _ rfl _ _ (fun w h => h.ra) hu rfl hS) hHeld ?_
  refine wpAnyH_take (i := 7) (oi := ({ dst := some 23, op := Go.Op.load 23 (Go.Operand.tmp 5), type := 23, pos := "law.go:135", after := #[], guard := none } : Oper)) (v := .agg c3.toArray) rfl (by kernel_rfl) (by kernel_rfl) (by kernel_rfl) (fun _ _ _ h => h) (yieldsIf_load_mid (by rfl) _ _ rfl _ _ rfl _ _ (fun w h => h.rc) hu rfl hS3) hHeld ?_
  simp only [Act.put, List.setIfInBounds_toArray, List.set_cons_zero, List.set_cons_succ]
  refine wpAnyH_ready (rs := [2]) (by kernel_rfl) (by simp) ?_
  refine AllReadyH.cons (o := ({ dst := some 18, op := Go.Op.call { callee := Go.Callee.value (Go.Operand.func 18), args := #[Go.Operand.tmp 16, Go.Operand.tmp 17], argTypes := #[23, 23] }, type := 3, pos := "law.go:135", after := #[{ on := 0, ground := Go.Ground.data }, { on := 1, ground := Go.Ground.data }], guard := none } : Oper)) rfl (fun K hK => ?_) AllReadyH.nil
  go_simp
  go_at_call 18
  refine (HA.out _ hHeld).mono ?_
  rintro e' w5 ⟨rfl, hp5⟩
  refine hK.out _ _ hp5 (fun hHeld1 => ?_)
  clear hK K
  refine wpAnyH_ready (rs := [5]) (by kernel_rfl) (by simp) ?_
  refine AllReadyH.cons (o := ({ dst := some 21, op := Go.Op.call { callee := Go.Callee.value (Go.Operand.func 18), args := #[Go.Operand.tmp 19, Go.Operand.tmp 20], argTypes := #[23, 23] }, type := 3, pos := "law.go:135", after := #[{ on := 3, ground := Go.Ground.data }, { on := 4, ground := Go.Ground.data }, { on := 2, ground := Go.Ground.chain }], guard := none } : Oper)) rfl (fun K hK => ?_) AllReadyH.nil
  go_simp
  go_at_call 18
  refine (HB.out _ hHeld1).mono ?_
  rintro e' w8 ⟨rfl, hp8⟩
  refine hK.out _ _ hp8 (fun hHeld2 => ?_)
  clear hK K
  refine wpAnyH_ready (rs := [8]) (by kernel_rfl) (by simp) ?_
  refine AllReadyH.cons (o := ({ dst := some 24, op := Go.Op.call { callee := Go.Callee.value (Go.Operand.func 18), args := #[Go.Operand.tmp 22, Go.Operand.tmp 23], argTypes := #[23, 23] }, type := 3, pos := "law.go:135", after := #[{ on := 6, ground := Go.Ground.data }, { on := 7, ground := Go.Ground.data }, { on := 5, ground := Go.Ground.chain }], guard := none } : Oper)) rfl (fun K hK => ?_) AllReadyH.nil
  go_simp
  go_at_call 18
  refine (HC.out _ hHeld2).mono ?_
  rintro e' w11 ⟨rfl, hp11⟩
  refine hK.out _ _ hp11 (fun hHeld3 => ?_)
  clear hK K
  refine wpAnyH_take (i := 9) (oi := ({ dst := some 7, op := Go.Op.assign (Go.Operand.tmp 18), type := 3, pos := "law.go:135", after := #[{ on := 2, ground := Go.Ground.data }, { on := 8, ground := Go.Ground.chain }, { on := 0, ground := Go.Ground.phase }, { on := 1, ground := Go.Ground.phase }, { on := 2, ground := Go.Ground.phase }, { on := 3, ground := Go.Ground.textOnly Go.Departure.lateStores }, { on := 4, ground := Go.Ground.textOnly Go.Departure.lateStores }, { on := 5, ground := Go.Ground.textOnly Go.Departure.lateStoresUnsure }, { on := 6, ground := Go.Ground.textOnly Go.Departure.lateStores }, { on := 7, ground := Go.Ground.textOnly Go.Departure.lateStores }, { on := 8, ground := Go.Ground.textOnly Go.Departure.lateStoresUnsure }], guard := none } : Oper)) (v := .int .i64 (x : Nat)) rfl (by kernel_rfl) (by kernel_rfl) (by kernel_rfl) (fun _ _ _ h => h) (Or.inl ⟨by rfl, fun w' _ => ?_⟩) hHeld3 ?_
  · go_simp
  refine wpAnyH_take (i := 10) (oi := ({ dst := some 8, op := Go.Op.assign (Go.Operand.tmp 21), type := 3, pos := "law.go:135", after := #[{ on := 5, ground := Go.Ground.data }, { on := 9, ground := Go.Ground.chain }, { on := 0, ground := Go.Ground.phase }, { on := 1, ground := Go.Ground.phase }, { on := 2, ground := Go.Ground.phase }, { on := 3, ground := Go.Ground.phase }, { on := 4, ground := Go.Ground.phase }, { on := 5, ground := Go.Ground.phase }, { on := 6, ground := Go.Ground.textOnly Go.Departure.lateStores }, { on := 7, ground := Go.Ground.textOnly Go.Departure.lateStores }, { on := 8, ground := Go.Ground.textOnly Go.Departure.lateStoresUnsure }, { on := 9, ground := Go.Ground.phase }], guard := none } : Oper)) (v := .int .i64 (y : Nat)) rfl (by kernel_rfl) (by kernel_rfl) (by kernel_rfl) (fun _ _ _ h => h) (Or.inl ⟨by rfl, fun w' _ => ?_⟩) hHeld3 ?_
  · go_simp
  refine wpAnyH_take (i := 11) (oi := ({ dst := some 9, op := Go.Op.assign (Go.Operand.tmp 24), type := 3, pos := "law.go:135", after := #[{ on := 8, ground := Go.Ground.data }, { on := 10, ground := Go.Ground.chain }, { on := 0, ground := Go.Ground.phase }, { on := 1, ground := Go.Ground.phase }, { on := 2, ground := Go.Ground.phase }, { on := 3, ground := Go.Ground.phase }, { on := 4, ground := Go.Ground.phase }, { on := 5, ground := Go.Ground.phase }, { on := 6, ground := Go.Ground.phase }, { on := 7, ground := Go.Ground.phase }, { on := 8, ground := Go.Ground.phase }, { on := 9, ground := Go.Ground.phase }, { on := 10, ground := Go.Ground.phase }], guard := none } : Oper)) (v := .int .i64 (z : Nat)) rfl (by kernel_rfl) (by kernel_rfl) (by kernel_rfl) (fun _ _ _ h => h) (Or.inl ⟨by rfl, fun w' _ => ?_⟩) hHeld3 ?_
  · go_simp
  simp only [Act.put, List.setIfInBounds_toArray, List.set_cons_zero, List.set_cons_succ]
  refine wpAnyH_done (by kernel_rfl) ?_ _
  have r1 := hHeld3.ra
  have r2 := hHeld3.rb
  have HB3 := Lib.hid hHeld3.below
  have hq := HQ.out
  have hcase : (y = x ∧ z = x) ∨ (y = x ∧ x < z) ∨ (z = x ∧ x < y) ∨ (z = y ∧ y < x) := by
    rcases HTwo.out with ⟨h, h'⟩ | ⟨h, h'⟩ | ⟨h, h'⟩ <;> omega
  clear hHeld hHeld1 hHeld2 hHeld3 hp5 hp8 hp11 h0
  have r1' : ∀ j v, c1.toArray.toList[j]? = some v → w11.cell? ((⟨w.heap.size, 0, none⟩ : Addr).add j) = some v := fun j v hj => by rw [Addr.add_lit]; exact r1 j v hj
  have r2' : ∀ j v, c2.toArray.toList[j]? = some v → w11.cell? ((⟨w.heap.size + 1, 0, none⟩ : Addr).add j) = some v := fun j v hj => by rw [Addr.add_lit]; exact r2 j v hj
  have hSa : (Tryd.prog.info? 23).map (·.size) = some c1.toArray.size := by rw [hS, List.size_toArray]
  have hSb : (Tryd.prog.info? 23).map (·.size) = some c2.toArray.size := by rw [hS2, List.size_toArray]
  have HR1 := Lib.hid r1'
  have HR2 := Lib.hid r2'
  have HSa := Lib.hid hSa
  have HSb := Lib.hid hSb
  clear r1 r2 r1' r2' hS hS2 hS3 hSa hSb hq
  rcases hcase with ⟨h1, h2⟩ | ⟨h1, hlt⟩ | ⟨h1, hlt⟩ | ⟨h1, hlt⟩
  · subst h1; subst h2
    rcases Decidable.em ((z : Int) = 128) with h128 | h128
    · have hqv : ∀ W : World, (Op.equalIn 10000 23 (.agg c1.toArray) (.agg c2.toArray)).run Tryd.prog W = .ok true W := fun W => by
        rw [HQ.out W, decide_eq_true (by omega)]
      go_wp2
      go_loop [33, 11, 13] (fun i n _ => (i = .int .i64 0 ∧ n = .int .i64 0) ∨ (i = .int .i64 1 ∧ n = .int .i64 1) ∨ (i = .int .i64 2 ∧ n = .int .i64 2) ∨ (i = .int .i64 3 ∧ n = .int .i64 3)) (fun i _ _ => 3 - (intOf i).toNat)
      case atStart => exact .inl ⟨rfl, rfl⟩
      case round =>
        rcases hrel with ⟨rfl, rfl⟩ | ⟨rfl, rfl⟩ | ⟨rfl, rfl⟩ | ⟨rfl, rfl⟩
        · go_wp2_with ((refine wpList_index rfl 41 (.tmp 32) (.tmp 33) rfl _ (idx0 _ _ _ _) ?_; go_simp))
          exact ⟨.inr (.inl ⟨rfl, rfl⟩), by decide⟩
        · go_wp2_with ((refine wpList_index rfl 41 (.tmp 32) (.tmp 33) rfl _ (idx1 _ _ _ _) ?_; go_simp))
          exact ⟨.inr (.inr (.inl ⟨rfl, rfl⟩)), by decide⟩
        · go_wp2_with ((refine wpList_index rfl 41 (.tmp 32) (.tmp 33) rfl _ (idx2 _ _ _ _) ?_; go_simp))
          exact ⟨.inr (.inr (.inr ⟨rfl, rfl⟩)), by decide⟩
        · go_wp2_with (first
            | (refine wpList_aggr_g 23 (.tmp 3) rfl rfl ⟨w.heap.size, 0, none⟩ c1.toArray rfl HR1.out 16 5 hu HSa.out ?_; go_simp)
            | (refine wpList_aggr_g 23 (.tmp 4) rfl rfl ⟨w.heap.size + 1, 0, none⟩ c2.toArray rfl HR2.out 16 5 hu HSb.out ?_; go_simp))
          go_ret
          exact ⟨rfl, HB3.out⟩
    · have hqv : ∀ W : World, (Op.equalIn 10000 23 (.agg c1.toArray) (.agg c2.toArray)).run Tryd.prog W = .ok false W := fun W => by
        rw [HQ.out W, decide_eq_false (by omega)]
      go_wp2
      go_loop [33, 11, 13] (fun i n _ => (i = .int .i64 0 ∧ n = .int .i64 0) ∨ (i = .int .i64 1 ∧ n = .int .i64 1) ∨ (i = .int .i64 2 ∧ n = .int .i64 2) ∨ (i = .int .i64 3 ∧ n = .int .i64 3)) (fun i _ _ => 3 - (intOf i).toNat)
      case atStart => exact .inl ⟨rfl, rfl⟩
      case round =>
        rcases hrel with ⟨rfl, rfl⟩ | ⟨rfl, rfl⟩ | ⟨rfl, rfl⟩ | ⟨rfl, rfl⟩
        · go_wp2_with ((refine wpList_index rfl 41 (.tmp 32) (.tmp 33) rfl _ (idx0 _ _ _ _) ?_; go_simp))
          exact ⟨.inr (.inl ⟨rfl, rfl⟩), by decide⟩
        · go_wp2_with ((refine wpList_index rfl 41 (.tmp 32) (.tmp 33) rfl _ (idx1 _ _ _ _) ?_; go_simp))
          exact ⟨.inr (.inr (.inl ⟨rfl, rfl⟩)), by decide⟩
        · go_wp2_with ((refine wpList_index rfl 41 (.tmp 32) (.tmp 33) rfl _ (idx2 _ _ _ _) ?_; go_simp))
          exact ⟨.inr (.inr (.inr ⟨rfl, rfl⟩)), by decide⟩
        · go_wp2_with (first
            | (refine wpList_aggr_g 23 (.tmp 3) rfl rfl ⟨w.heap.size, 0, none⟩ c1.toArray rfl HR1.out 16 5 hu HSa.out ?_; go_simp)
            | (refine wpList_aggr_g 23 (.tmp 4) rfl rfl ⟨w.heap.size + 1, 0, none⟩ c2.toArray rfl HR2.out 16 5 hu HSb.out ?_; go_simp))
          go_ret
          refine ⟨?_, HB3.out⟩
          have e1 : ((z : Int) == 128) = false := by simpa using h128
          have e2 : decide ((z : Int) ≤ 128) = true := decide_eq_true (by omega)
          show Ending.returned (Value.bool (!((z : Int) == 128) && decide ((z : Int) ≤ 128))) = _
          rw [e1, e2]; rfl
  · subst h1
    rcases Decidable.em ((y : Int) = 128) with h128 | h128
    · have hqv : ∀ W : World, (Op.equalIn 10000 23 (.agg c1.toArray) (.agg c2.toArray)).run Tryd.prog W = .ok true W := fun W => by
        rw [HQ.out W, decide_eq_true (by omega)]
      go_wp2
      go_loop [33, 11, 13] (fun i n _ => (i = .int .i64 0 ∧ n = .int .i64 0) ∨ (i = .int .i64 1 ∧ n = .int .i64 1) ∨ (i = .int .i64 2 ∧ n = .int .i64 2) ∨ (i = .int .i64 3 ∧ n = .int .i64 2)) (fun i _ _ => 3 - (intOf i).toNat)
      case atStart => exact .inl ⟨rfl, rfl⟩
      case round =>
        rcases hrel with ⟨rfl, rfl⟩ | ⟨rfl, rfl⟩ | ⟨rfl, rfl⟩ | ⟨rfl, rfl⟩
        · go_wp2_with ((refine wpList_index rfl 41 (.tmp 32) (.tmp 33) rfl _ (idx0 _ _ _ _) ?_; go_simp))
          exact ⟨.inr (.inl ⟨rfl, rfl⟩), by decide⟩
        · go_wp2_with ((refine wpList_index rfl 41 (.tmp 32) (.tmp 33) rfl _ (idx1 _ _ _ _) ?_; go_simp))
          exact ⟨.inr (.inr (.inl ⟨rfl, rfl⟩)), by decide⟩
        · go_wp2_with ((refine wpList_index rfl 41 (.tmp 32) (.tmp 33) rfl _ (idx2 _ _ _ _) ?_; go_simp))
          exact ⟨.inr (.inr (.inr ⟨rfl, rfl⟩)), by decide⟩
        · go_wp2_with (first
            | (refine wpList_aggr_g 23 (.tmp 3) rfl rfl ⟨w.heap.size, 0, none⟩ c1.toArray rfl HR1.out 16 5 hu HSa.out ?_; go_simp)
            | (refine wpList_aggr_g 23 (.tmp 4) rfl rfl ⟨w.heap.size + 1, 0, none⟩ c2.toArray rfl HR2.out 16 5 hu HSb.out ?_; go_simp))
          go_ret
          exact ⟨rfl, HB3.out⟩
    · have hqv : ∀ W : World, (Op.equalIn 10000 23 (.agg c1.toArray) (.agg c2.toArray)).run Tryd.prog W = .ok false W := fun W => by
        rw [HQ.out W, decide_eq_false (by omega)]
      go_wp2
      go_loop [33, 11, 13] (fun i n _ => (i = .int .i64 0 ∧ n = .int .i64 0) ∨ (i = .int .i64 1 ∧ n = .int .i64 1) ∨ (i = .int .i64 2 ∧ n = .int .i64 2) ∨ (i = .int .i64 3 ∧ n = .int .i64 2)) (fun i _ _ => 3 - (intOf i).toNat)
      case atStart => exact .inl ⟨rfl, rfl⟩
      case round =>
        rcases hrel with ⟨rfl, rfl⟩ | ⟨rfl, rfl⟩ | ⟨rfl, rfl⟩ | ⟨rfl, rfl⟩
        · go_wp2_with ((refine wpList_index rfl 41 (.tmp 32) (.tmp 33) rfl _ (idx0 _ _ _ _) ?_; go_simp))
          exact ⟨.inr (.inl ⟨rfl, rfl⟩), by decide⟩
        · go_wp2_with ((refine wpList_index rfl 41 (.tmp 32) (.tmp 33) rfl _ (idx1 _ _ _ _) ?_; go_simp))
          exact ⟨.inr (.inr (.inl ⟨rfl, rfl⟩)), by decide⟩
        · go_wp2_with ((refine wpList_index rfl 41 (.tmp 32) (.tmp 33) rfl _ (idx2 _ _ _ _) ?_; go_simp))
          exact ⟨.inr (.inr (.inr ⟨rfl, rfl⟩)), by decide⟩
        · go_wp2_with (first
            | (refine wpList_aggr_g 23 (.tmp 3) rfl rfl ⟨w.heap.size, 0, none⟩ c1.toArray rfl HR1.out 16 5 hu HSa.out ?_; go_simp)
            | (refine wpList_aggr_g 23 (.tmp 4) rfl rfl ⟨w.heap.size + 1, 0, none⟩ c2.toArray rfl HR2.out 16 5 hu HSb.out ?_; go_simp))
          go_ret
          refine ⟨?_, HB3.out⟩
          have e1 : ((y : Int) == 128) = false := by simpa using h128
          have e2 : decide ((y : Int) ≤ 128) = true := decide_eq_true (by omega)
          show Ending.returned (Value.bool (!((y : Int) == 128) && decide ((y : Int) ≤ 128))) = _
          rw [e1, e2]; rfl
  · subst h1
    rcases Decidable.em ((z : Int) = 128) with h128 | h128
    · have hqv : ∀ W : World, (Op.equalIn 10000 23 (.agg c1.toArray) (.agg c2.toArray)).run Tryd.prog W = .ok true W := fun W => by
        rw [HQ.out W, decide_eq_true (by omega)]
      go_wp2
      go_loop [33, 11, 13] (fun i n _ => (i = .int .i64 0 ∧ n = .int .i64 0) ∨ (i = .int .i64 1 ∧ n = .int .i64 1) ∨ (i = .int .i64 2 ∧ n = .int .i64 1) ∨ (i = .int .i64 3 ∧ n = .int .i64 2)) (fun i _ _ => 3 - (intOf i).toNat)
      case atStart => exact .inl ⟨rfl, rfl⟩
      case round =>
        rcases hrel with ⟨rfl, rfl⟩ | ⟨rfl, rfl⟩ | ⟨rfl, rfl⟩ | ⟨rfl, rfl⟩
        · go_wp2_with ((refine wpList_index rfl 41 (.tmp 32) (.tmp 33) rfl _ (idx0 _ _ _ _) ?_; go_simp))
          exact ⟨.inr (.inl ⟨rfl, rfl⟩), by decide⟩
        · go_wp2_with ((refine wpList_index rfl 41 (.tmp 32) (.tmp 33) rfl _ (idx1 _ _ _ _) ?_; go_simp))
          exact ⟨.inr (.inr (.inl ⟨rfl, rfl⟩)), by decide⟩
        · go_wp2_with ((refine wpList_index rfl 41 (.tmp 32) (.tmp 33) rfl _ (idx2 _ _ _ _) ?_; go_simp))
          exact ⟨.inr (.inr (.inr ⟨rfl, rfl⟩)), by decide⟩
        · go_wp2_with (first
            | (refine wpList_aggr_g 23 (.tmp 3) rfl rfl ⟨w.heap.size, 0, none⟩ c1.toArray rfl HR1.out 16 5 hu HSa.out ?_; go_simp)
            | (refine wpList_aggr_g 23 (.tmp 4) rfl rfl ⟨w.heap.size + 1, 0, none⟩ c2.toArray rfl HR2.out 16 5 hu HSb.out ?_; go_simp))
          go_ret
          exact ⟨rfl, HB3.out⟩
    · have hqv : ∀ W : World, (Op.equalIn 10000 23 (.agg c1.toArray) (.agg c2.toArray)).run Tryd.prog W = .ok false W := fun W => by
        rw [HQ.out W, decide_eq_false (by omega)]
      go_wp2
      go_loop [33, 11, 13] (fun i n _ => (i = .int .i64 0 ∧ n = .int .i64 0) ∨ (i = .int .i64 1 ∧ n = .int .i64 1) ∨ (i = .int .i64 2 ∧ n = .int .i64 1) ∨ (i = .int .i64 3 ∧ n = .int .i64 2)) (fun i _ _ => 3 - (intOf i).toNat)
      case atStart => exact .inl ⟨rfl, rfl⟩
      case round =>
        rcases hrel with ⟨rfl, rfl⟩ | ⟨rfl, rfl⟩ | ⟨rfl, rfl⟩ | ⟨rfl, rfl⟩
        · go_wp2_with ((refine wpList_index rfl 41 (.tmp 32) (.tmp 33) rfl _ (idx0 _ _ _ _) ?_; go_simp))
          exact ⟨.inr (.inl ⟨rfl, rfl⟩), by decide⟩
        · go_wp2_with ((refine wpList_index rfl 41 (.tmp 32) (.tmp 33) rfl _ (idx1 _ _ _ _) ?_; go_simp))
          exact ⟨.inr (.inr (.inl ⟨rfl, rfl⟩)), by decide⟩
        · go_wp2_with ((refine wpList_index rfl 41 (.tmp 32) (.tmp 33) rfl _ (idx2 _ _ _ _) ?_; go_simp))
          exact ⟨.inr (.inr (.inr ⟨rfl, rfl⟩)), by decide⟩
        · go_wp2_with (first
            | (refine wpList_aggr_g 23 (.tmp 3) rfl rfl ⟨w.heap.size, 0, none⟩ c1.toArray rfl HR1.out 16 5 hu HSa.out ?_; go_simp)
            | (refine wpList_aggr_g 23 (.tmp 4) rfl rfl ⟨w.heap.size + 1, 0, none⟩ c2.toArray rfl HR2.out 16 5 hu HSb.out ?_; go_simp))
          go_ret
          refine ⟨?_, HB3.out⟩
          have e1 : ((z : Int) == 128) = false := by simpa using h128
          have e2 : decide ((z : Int) ≤ 128) = true := decide_eq_true (by omega)
          show Ending.returned (Value.bool (!((z : Int) == 128) && decide ((z : Int) ≤ 128))) = _
          rw [e1, e2]; rfl
  · subst h1
    rcases Decidable.em ((x : Int) = 128) with h128 | h128
    · have hqv : ∀ W : World, (Op.equalIn 10000 23 (.agg c1.toArray) (.agg c2.toArray)).run Tryd.prog W = .ok true W := fun W => by
        rw [HQ.out W, decide_eq_true (by omega)]
      go_wp2
      go_loop [33, 11, 13] (fun i n _ => (i = .int .i64 0 ∧ n = .int .i64 0) ∨ (i = .int .i64 1 ∧ n = .int .i64 0) ∨ (i = .int .i64 2 ∧ n = .int .i64 1) ∨ (i = .int .i64 3 ∧ n = .int .i64 2)) (fun i _ _ => 3 - (intOf i).toNat)
      case atStart => exact .inl ⟨rfl, rfl⟩
      case round =>
        rcases hrel with ⟨rfl, rfl⟩ | ⟨rfl, rfl⟩ | ⟨rfl, rfl⟩ | ⟨rfl, rfl⟩
        · go_wp2_with ((refine wpList_index rfl 41 (.tmp 32) (.tmp 33) rfl _ (idx0 _ _ _ _) ?_; go_simp))
          exact ⟨.inr (.inl ⟨rfl, rfl⟩), by decide⟩
        · go_wp2_with ((refine wpList_index rfl 41 (.tmp 32) (.tmp 33) rfl _ (idx1 _ _ _ _) ?_; go_simp))
          exact ⟨.inr (.inr (.inl ⟨rfl, rfl⟩)), by decide⟩
        · go_wp2_with ((refine wpList_index rfl 41 (.tmp 32) (.tmp 33) rfl _ (idx2 _ _ _ _) ?_; go_simp))
          exact ⟨.inr (.inr (.inr ⟨rfl, rfl⟩)), by decide⟩
        · go_wp2_with (first
            | (refine wpList_aggr_g 23 (.tmp 3) rfl rfl ⟨w.heap.size, 0, none⟩ c1.toArray rfl HR1.out 16 5 hu HSa.out ?_; go_simp)
            | (refine wpList_aggr_g 23 (.tmp 4) rfl rfl ⟨w.heap.size + 1, 0, none⟩ c2.toArray rfl HR2.out 16 5 hu HSb.out ?_; go_simp))
          go_ret
          exact ⟨rfl, HB3.out⟩
    · have hqv : ∀ W : World, (Op.equalIn 10000 23 (.agg c1.toArray) (.agg c2.toArray)).run Tryd.prog W = .ok false W := fun W => by
        rw [HQ.out W, decide_eq_false (by omega)]
      go_wp2
      go_loop [33, 11, 13] (fun i n _ => (i = .int .i64 0 ∧ n = .int .i64 0) ∨ (i = .int .i64 1 ∧ n = .int .i64 0) ∨ (i = .int .i64 2 ∧ n = .int .i64 1) ∨ (i = .int .i64 3 ∧ n = .int .i64 2)) (fun i _ _ => 3 - (intOf i).toNat)
      case atStart => exact .inl ⟨rfl, rfl⟩
      case round =>
        rcases hrel with ⟨rfl, rfl⟩ | ⟨rfl, rfl⟩ | ⟨rfl, rfl⟩ | ⟨rfl, rfl⟩
        · go_wp2_with ((refine wpList_index rfl 41 (.tmp 32) (.tmp 33) rfl _ (idx0 _ _ _ _) ?_; go_simp))
          exact ⟨.inr (.inl ⟨rfl, rfl⟩), by decide⟩
        · go_wp2_with ((refine wpList_index rfl 41 (.tmp 32) (.tmp 33) rfl _ (idx1 _ _ _ _) ?_; go_simp))
          exact ⟨.inr (.inr (.inl ⟨rfl, rfl⟩)), by decide⟩
        · go_wp2_with ((refine wpList_index rfl 41 (.tmp 32) (.tmp 33) rfl _ (idx2 _ _ _ _) ?_; go_simp))
          exact ⟨.inr (.inr (.inr ⟨rfl, rfl⟩)), by decide⟩
        · go_wp2_with (first
            | (refine wpList_aggr_g 23 (.tmp 3) rfl rfl ⟨w.heap.size, 0, none⟩ c1.toArray rfl HR1.out 16 5 hu HSa.out ?_; go_simp)
            | (refine wpList_aggr_g 23 (.tmp 4) rfl rfl ⟨w.heap.size + 1, 0, none⟩ c2.toArray rfl HR2.out 16 5 hu HSb.out ?_; go_simp))
          go_ret
          refine ⟨?_, HB3.out⟩
          have e1 : ((x : Int) == 128) = false := by simpa using h128
          have e2 : decide ((x : Int) ≤ 128) = true := decide_eq_true (by omega)
          show Ending.returned (Value.bool (!((x : Int) == 128) && decide ((x : Int) ≤ 128))) = _
          rw [e1, e2]; rfl
end Go.Proofs.YtohjkfhjkghhfaaDoor
