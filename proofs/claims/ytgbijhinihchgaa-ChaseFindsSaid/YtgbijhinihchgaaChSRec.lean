/-
  Records, messages and seeds as they lie in memory. Conditions: each states its own.
-/
import Derived.Test.YtgbijhinihchgaaChBase
namespace Go.Proofs.Ytgbijhinihchgaa
open Go.RowKit
theorem SV.c0 (s : SV) : s.cells[0]? = some (.int .i64 s.n) := by unfold SV.cells; simp
theorem SV.c1 (s : SV) : s.cells[1]? = some (.int .i64 s.k) := by unfold SV.cells; simp
theorem SV.c2 (s : SV) : s.cells[2]? = some (.int .i64 s.t) := by unfold SV.cells; simp
theorem builtSr (S : ByteArray) (T : Int) : Try.prog.built 41 [(0, .string S), (2, .int .i64 T)] = some (RV.cells ⟨S, 0, T, zero16, emp, emp⟩) := by kernel_rfl
theorem step_store_sr {P : Program} {ops : Array Oper} {o : Oper} {a : Act} {Q : Exit → Act → World → Prop} {w : World} {K : Act → World → Prop} {E : Prop} (hgd : o.guard = none) (ty : TypeId) (x y : Operand) (ho : o.op = .store ty x y) (g : Nat) (z cells : Array Value) (t : TypeId) (hg : w.heap[g]? = some (.cells z t (0, 0)))
    (hx : a.eval x = .pointer (some ⟨g, 0, none⟩)) (hy : a.eval y = .agg cells) (hi : (P.info? ty).map (·.size) = some cells.size) (hz : z.size = cells.size) (h1 : cells.all (·.oneCell') = true)
    (h : ∀ w', Hid (w'.heap[g]? = some (.cells cells t (0, 0))) → Hid (w.grownBy w' (some g)) → w'.heap.size = w.heap.size → K (a.put o.dst undef) w') : if Region.wanted o (yielded ops a.tmps) = true then Oper.wp P o a w K Q else E := by
  have hw : Region.wanted o (yielded ops a.tmps) = true := by simp [Region.wanted, hgd]
  rw [if_pos hw]
  exact wp_store_row ty x y ho g cells hx hy t z hg hi hz h1 (h _ (setRow_heap w g z cells t _ hg) ⟨rfl, rfl, rfl, by simp, fun k _ hk => setRow_other w g k cells (fun e => hk (by rw [e]))⟩ (by simp))
set_option maxRecDepth 100000 in
theorem step_store_part {P : Program} {ops : Array Oper} {o : Oper} {a : Act} {Q : Exit → Act → World → Prop} {w : World} {K : Act → World → Prop} {E : Prop} (hgd : o.guard = none) (ty : TypeId) (x y : Operand) (ho : o.op = .store ty x y) (g off : Nat) (z cells z' : Array Value) (t : TypeId) (hg : w.heap[g]? = some (.cells z t (0, 0)))
    (hx : a.eval x = .pointer (some ⟨g, off, none⟩)) (hy : a.eval y = .agg cells) (hi : (P.info? ty).map (·.size) = some cells.size) (hz : off + cells.size ≤ z.size) (h1 : cells.all (·.oneCell') = true)
    (he : (z.toList.take off ++ cells.toList ++ z.toList.drop (off + cells.size)).toArray = z')
    (h : ∀ w', Hid (w'.heap[g]? = some (.cells z' t (0, 0))) → Hid (w.grownBy w' (some g)) → w'.heap.size = w.heap.size → K (a.put o.dst undef) w') : if Region.wanted o (yielded ops a.tmps) = true then Oper.wp P o a w K Q else E := by
  have hw : Region.wanted o (yielded ops a.tmps) = true := by simp [Region.wanted, hgd]
  rw [if_pos hw]
  have hst := run_storeCells_at P g off t cells.toList 0 z w hg (by simpa using hz) (fun v hv => (Array.all_eq_true_iff_forall_mem.1 h1) v (by simpa using hv))
  simp only [Nat.add_zero, Array.length_toList, he] at hst
  have hsv : (storeVar ty ⟨g, off, none⟩ (.agg cells)).run P w = .ok () (w.setRow g z') := by
    cases hq : P.info? ty with
    | none => simp [hq] at hi
    | some i =>
      have hs : cells.size = i.size := by simp [hq] at hi; omega
      simp [storeVar, sizeOf, typeInfo, hq, Value.cells, hs, hst]
  unfold Oper.wp execOp
  simp only [ho, hx, hy, Instr.storeAt, Instr.sureAddr, Sem.run_bind, Sem.run_pure, Result.andThen_ok, hsv]
  exact h _ (setRow_heap w g z z' t _ hg) ⟨rfl, rfl, rfl, by simp, fun k _ hk => setRow_other w g k z' (fun e => hk (by rw [e]))⟩ (by simp)
def cut255 (d : ByteArray) : ByteArray := d.extract 0 (min d.size 255)
/-- the record of a seed: its names, its TTL, its kind -/
def srV (S S2 : ByteArray) (T : Nat) (ad : List UInt8) (da : ByteArray) : Nat → RV
  | 0 | 1 => ⟨S, 1, T, pre4 ++ ad.take 4, emp, emp⟩
  | 2 | 3 => ⟨S, 28, T, ad, emp, emp⟩
  | 4 => ⟨S, 5, T, zero16, S2, emp⟩
  | 5 => ⟨S, 12, T, zero16, S2, emp⟩
  | 6 => ⟨S, 6, T, zero16, emp, cut255 da⟩
  | _ => ⟨S, 16, T, zero16, emp, cut255 da⟩
def recL (S : ByteArray) (T : Nat) : Array Value := #[.string S, .int .i64 0, .int .i64 T, .int .u8 0, .int .u8 0, .int .u8 0, .int .u8 0, .int .u8 0, .int .u8 0, .int .u8 0, .int .u8 0, .int .u8 0, .int .u8 0, .int .u8 0, .int .u8 0, .int .u8 0, .int .u8 0, .int .u8 0, .int .u8 0, .string ⟨#[]⟩, .string ⟨#[]⟩]
/-- the seed's record as it stands in memory ahead of its kind -/
structure SrAt (w wx : World) (g : Nat) (cs rs : Array Value) : Prop where
  z : wx.heap[w.heap.size + 1]? = some (.cells (recL ⟨#[]⟩ 0) 41 (0, 0))
  s : wx.heap[w.heap.size]? = some (.cells cs 25 (0, 0))
  r : wx.heap[g]? = some (.cells rs 41 (0, 0))
  below : Below w.heap.size w wx
  hg : w.heap.size + 1 < g
set_option maxRecDepth 100000 in
set_option maxHeartbeats 8000000 in
theorem srec_e (s : SV) (hf : s.Fits) (i i2 T j : Nat) (hi : i ≤ 7) (hi2 : i2 ≤ 7) (hb2 : bits BinOp.and IntKind.i64 (s.n / 8) 7 = (i2 : Int)) (hj : j ≤ 7) (hk : bits BinOp.and IntKind.i64 s.k 7 = (j : Int)) (hb : bits BinOp.and IntKind.i64 s.n 7 = (i : Int)) (hT : bits BinOp.and IntKind.i64 s.t 65535 = (T : Int)) (w : World) :
    Calls Try.prog 15 #[.agg s.cells] w fun e w' => e = .returned (.agg (srV (bs (plN i)) (bs (plN i2)) T s.ad s.da j).cells) ∧ Below w.heap.size w w' := by
  have HN := Lib.hid (fun W => name4_e s.n i hi hb W)
  have HN2 := Lib.hid (fun W => name4_e (s.n / 8) i2 hi2 hb2 W)
  have ZR := Lib.hid zeroRec
  have c0 := s.c0
  have c1 := s.c1
  have c2 := s.c2
  have c19 := SV.c19 hf.ad
  have BR := Lib.hid (builtSr (bs (plN i)) T)
  have SR : Hid ((Try.prog.info? 41).map (·.size) = some (RV.cells ⟨bs (plN i), 0, T, zero16, emp, emp⟩).size) := Lib.hid (sizeRv rfl)
  have SZ : Hid ((RV.cells ⟨emp, 0, 0, zero16, emp, emp⟩).size = (RV.cells ⟨bs (plN i), 0, T, zero16, emp, emp⟩).size) := Lib.hid rfl
  have OR := Lib.hid (RV.one ⟨bs (plN i), 0, T, zero16, emp, emp⟩)
  have hT' : bits BinOp.and IntKind.i64 s.t 65535 = (T : Int) := hT
  generalize hcs : s.cells = cs at c0 c1 c2 c19 ⊢
  clear BR SR SZ OR
  generalize bs (plN i) = S at HN ⊢
  generalize bs (plN i2) = S2 at HN2 ⊢
  have HCS := Lib.hid hcs
  clear hcs
  go_enter Try.func15, Try.ntmps15
  go_upto_region 1 with fail
  go_cut [3] from 4 to 10 (fun t3 wx => ∃ g, t3 = .pointer (some ⟨g, 0, none⟩) ∧ Hid (SrAt w wx g cs (recL S T)))
  case first =>
    have hB0 : Below w.heap.size w ((w.alloc (.cells cs 25)).alloc (.cells (recL ⟨#[]⟩ 0) 41)) := ((Below.refl _ w).alloc (Nat.le_refl _) _).alloc (by simp) _
    have hM0 : ((w.alloc (.cells cs 25)).alloc (.cells (recL ⟨#[]⟩ 0) 41)).heap[w.heap.size]? = some (.cells cs 25 (0, 0)) := (Below.heap_alloc _ _ _ (by simp)).trans (heap_alloc_last w _)
    have hZ0 : ((w.alloc (.cells cs 25)).alloc (.cells (recL ⟨#[]⟩ 0) 41)).heap[w.heap.size + 1]? = some (.cells (recL ⟨#[]⟩ 0) 41 (0, 0)) := by
      have h := heap_alloc_last (w.alloc (.cells cs 25)) (.cells (recL ⟨#[]⟩ 0) 41)
      rwa [World.size_alloc] at h
    obtain ⟨W0, hW0⟩ : ∃ W0, W0 = (w.alloc (.cells cs 25)).alloc (.cells (recL ⟨#[]⟩ 0) 41) := ⟨_, rfl⟩
    rw [← hW0] at hB0 hM0 hZ0
    unfold recL at hW0
    simp only [Int.ofNat_zero] at hW0
    rw [← hW0]
    clear hW0
    have hl0 := heap_lt hM0
    have d0 := (cell_of_row W0 w.heap.size 0 _ _ _ hM0).trans c0
    have d2 := (cell_of_row W0 w.heap.size 2 _ _ _ hM0).trans c2
    have sizeL : (Try.prog.info? 41).map (·.size) = some (recL S T).size := by kernel_rfl
    have oneL : (recL S T).all (·.oneCell') = true := by simp [recL, Value.oneCell']
    have HX0 := Lib.hid (fun W (h : Below W0.heap.size W0 W) => (h.cell (p := ⟨w.heap.size, 0, none⟩) hl0).trans d0)
    have HX2 := Lib.hid (fun W (h : Below W0.heap.size W0 W) => (h.cell (p := ⟨w.heap.size, 2, none⟩) hl0).trans d2)
    clear d0 d2
    refine wp_region_held_drew (S := (fun W : World => Below W0.heap.size W0 W)) (by kernel_rfl) (Below.refl _ W0).drew (fun hHeld => ?_)
    refine wpAnyH_take (i := 0) (oi := ({ dst := some 4, op := Go.Op.fieldAddr 25 (Go.Operand.tmp 1) 0, type := 0, pos := "law.go:33", after := #[], guard := none } : Oper)) (v := .pointer (some ⟨w.heap.size, 0, none⟩)) rfl (by kernel_rfl) (by kernel_rfl) (by kernel_rfl) (fun _ _ _ h => h) (Or.inl ⟨by rfl, fun w' hS' => ?_⟩) hHeld ?_
    · go_simp
    try simp only [Act.put, List.setIfInBounds_toArray, List.set_cons_zero, List.set_cons_succ]
    refine wpAnyH_take (i := 3) (oi := ({ dst := some 7, op := Go.Op.fieldAddr 25 (Go.Operand.tmp 1) 2, type := 0, pos := "law.go:33", after := #[], guard := none } : Oper)) (v := .pointer (some ⟨w.heap.size, 2, none⟩)) rfl (by kernel_rfl) (by kernel_rfl) (by kernel_rfl) (fun _ _ _ h => h) (Or.inl ⟨by rfl, fun w' hS' => ?_⟩) hHeld ?_
    · go_simp
    try simp only [Act.put, List.setIfInBounds_toArray, List.set_cons_zero, List.set_cons_succ]
    refine wpAnyH_take (i := 1) (oi := ({ dst := some 5, op := Go.Op.load 3 (Go.Operand.tmp 4), type := 3, pos := "law.go:33", after := #[{ on := 0, ground := Go.Ground.data }], guard := none } : Oper)) (v := .int .i64 s.n) rfl (by kernel_rfl) (by kernel_rfl) (by kernel_rfl) (fun _ _ _ h => h) (Or.inl ⟨by rfl, fun w' hS' => ?_⟩) hHeld ?_
    · have d := HX0.out w' hS'; go_simp
    try simp only [Act.put, List.setIfInBounds_toArray, List.set_cons_zero, List.set_cons_succ]
    refine wpAnyH_take (i := 4) (oi := ({ dst := some 8, op := Go.Op.load 3 (Go.Operand.tmp 7), type := 3, pos := "law.go:33", after := #[{ on := 3, ground := Go.Ground.data }], guard := none } : Oper)) (v := .int .i64 s.t) rfl (by kernel_rfl) (by kernel_rfl) (by kernel_rfl) (fun _ _ _ h => h) (Or.inl ⟨by rfl, fun w' hS' => ?_⟩) hHeld ?_
    · have d := HX2.out w' hS'; go_simp
    try simp only [Act.put, List.setIfInBounds_toArray, List.set_cons_zero, List.set_cons_succ]
    refine wpAnyH_take (i := 5) (oi := ({ dst := some 9, op := Go.Op.binOp Go.BinOp.and 3 (Go.Operand.tmp 8) (Go.Operand.const (Go.Value.int Go.IntKind.i64 65535)) 3, type := 3, pos := "law.go:33", after := #[{ on := 4, ground := Go.Ground.data }], guard := none } : Oper)) (v := .int .i64 (T : Nat)) rfl (by kernel_rfl) (by kernel_rfl) (by kernel_rfl) (fun _ _ _ h => h) (Or.inl ⟨by rfl, fun w' hS' => ?_⟩) hHeld ?_
    · go_simp
    try simp only [Act.put, List.setIfInBounds_toArray, List.set_cons_zero, List.set_cons_succ]
    refine wpAnyH_ready (rs := [2, 7]) (by kernel_rfl) (by simp) ?_
    refine (AllReadyH.cons (o := ({ dst := some 6, op := Go.Op.call { callee := Go.Callee.value (Go.Operand.func 17), args := #[Go.Operand.tmp 5], argTypes := #[3] }, type := 9, pos := "law.go:33", after := #[{ on := 1, ground := Go.Ground.data }], guard := none } : Oper)) rfl (fun K hK => ?_) (AllReadyH.cons (o := ({ dst := some 3, op := Go.Op.alloc 41, type := 0, pos := "law.go:33", after := #[], guard := none } : Oper)) rfl (fun K hK => ?_) AllReadyH.nil))
    · go_simp
      go_at_call 17
      refine (HN.out _).mono ?_
      rintro e' w3 ⟨rfl, hbb⟩
      have HBn : Hid (Below W0.heap.size W0 w3) := Lib.hid ((Below.refl _ W0).drew.trans hbb)
      refine hK.out _ _ HBn.out (fun hHeld => ?_)
      clear hK K hbb
      try simp only [Act.put, List.setIfInBounds_toArray, List.set_cons_zero, List.set_cons_succ]
      refine wpAnyH_take (i := 6) (oi := ({ dst := some 10, op := Go.Op.build 41 #[(0, Go.Operand.tmp 6), (2, Go.Operand.tmp 9)], type := 41, pos := "law.go:33", after := #[{ on := 2, ground := Go.Ground.data }, { on := 5, ground := Go.Ground.data }], guard := none } : Oper)) (v := .agg (recL S T)) rfl (by kernel_rfl) (by kernel_rfl) (by kernel_rfl) (fun _ _ _ h => h) (Or.inl ⟨by rfl, fun w' hS' => ?_⟩) hHeld ?_
      · go_simp; rfl
      try simp only [Act.put, List.setIfInBounds_toArray, List.set_cons_zero, List.set_cons_succ]
      refine wpAnyH_ready (rs := [7]) (by kernel_rfl) (by simp) ?_
      refine AllReadyH.cons (o := ({ dst := some 3, op := Go.Op.alloc 41, type := 0, pos := "law.go:33", after := #[], guard := none } : Oper)) rfl (fun K hK => ?_) AllReadyH.nil
      go_simp
      refine hK.out _ _ (HBn.out.alloc HBn.out.size _) (fun hHeld => ?_)
      clear hK K
      try simp only [Act.put, List.setIfInBounds_toArray, List.set_cons_zero, List.set_cons_succ]
      refine wpAnyH_ready (rs := [8]) (by kernel_rfl) (by simp) ?_
      refine AllReadyH.cons (o := ({ dst := none, op := Go.Op.store 41 (Go.Operand.tmp 3) (Go.Operand.tmp 10), type := 0, pos := "law.go:33", after := #[{ on := 7, ground := Go.Ground.data }, { on := 6, ground := Go.Ground.data }, { on := 2, ground := Go.Ground.chain }, { on := 0, ground := Go.Ground.phase }, { on := 1, ground := Go.Ground.phase }, { on := 2, ground := Go.Ground.phase }, { on := 3, ground := Go.Ground.phase }, { on := 4, ground := Go.Ground.phase }, { on := 5, ground := Go.Ground.phase }, { on := 6, ground := Go.Ground.phase }, { on := 7, ground := Go.Ground.phase }], guard := none } : Oper)) rfl (fun K hK => ?_) AllReadyH.nil
      refine step_store_sr rfl 41 (.tmp 3) (.tmp 10) rfl w3.heap.size (recL ⟨#[]⟩ 0) (recL S T) 41 (heap_alloc_last w3 _) rfl rfl sizeL rfl oneL (fun w4 hg4 hw4 hs4 => ?_)
      have hB4 : Below W0.heap.size W0 w4 := (HBn.out.alloc HBn.out.size _).grown hw4.out (HBn.out.alloc HBn.out.size _).size (fun k e => by injection e with e; have := HBn.out.size; omega)
      refine hK.out _ _ hB4 (fun hHeld => ?_)
      clear hK K
      refine wpAnyH_done (by kernel_rfl) ?_ _
      try (go_wp2_with fail)
      go_meet
      case rel => exact ⟨_, rfl, Lib.hid ⟨(hB4.block _ (heap_lt hZ0)).trans hZ0, (hB4.block _ (heap_lt hM0)).trans hM0, hg4.out, hB0.trans (hB4.mono hB0.size), by have := heap_lt hZ0; have := HBn.out.size; omega⟩⟩
    · go_simp
      refine hK.out _ _ ((Below.refl _ W0).drew.alloc (Nat.le_refl _) _) (fun hHeld => ?_)
      clear hK K
      try simp only [Act.put, List.setIfInBounds_toArray, List.set_cons_zero, List.set_cons_succ]
      refine wpAnyH_ready (rs := [2]) (by kernel_rfl) (by simp) ?_
      refine AllReadyH.cons (o := ({ dst := some 6, op := Go.Op.call { callee := Go.Callee.value (Go.Operand.func 17), args := #[Go.Operand.tmp 5], argTypes := #[3] }, type := 9, pos := "law.go:33", after := #[{ on := 1, ground := Go.Ground.data }], guard := none } : Oper)) rfl (fun K hK => ?_) AllReadyH.nil
      go_simp
      go_at_call 17
      refine (HN.out _).mono ?_
      rintro e' w3 ⟨rfl, hbb⟩
      have HBn : Hid (Below W0.heap.size W0 w3) := Lib.hid (((Below.refl _ W0).drew.alloc (Nat.le_refl _) _).trans (hbb.mono (by simp)))
      have h3 : w3.heap[W0.heap.size]? = some (.cells (recL ⟨#[]⟩ 0) 41 (0, 0)) := (hbb.block W0.heap.size (by simp)).trans (heap_alloc_last W0.drew _)
      refine hK.out _ _ HBn.out (fun hHeld => ?_)
      clear hK K hbb
      try simp only [Act.put, List.setIfInBounds_toArray, List.set_cons_zero, List.set_cons_succ]
      refine wpAnyH_take (i := 6) (oi := ({ dst := some 10, op := Go.Op.build 41 #[(0, Go.Operand.tmp 6), (2, Go.Operand.tmp 9)], type := 41, pos := "law.go:33", after := #[{ on := 2, ground := Go.Ground.data }, { on := 5, ground := Go.Ground.data }], guard := none } : Oper)) (v := .agg (recL S T)) rfl (by kernel_rfl) (by kernel_rfl) (by kernel_rfl) (fun _ _ _ h => h) (Or.inl ⟨by rfl, fun w' hS' => ?_⟩) hHeld ?_
      · go_simp; rfl
      try simp only [Act.put, List.setIfInBounds_toArray, List.set_cons_zero, List.set_cons_succ]
      refine wpAnyH_ready (rs := [8]) (by kernel_rfl) (by simp) ?_
      refine AllReadyH.cons (o := ({ dst := none, op := Go.Op.store 41 (Go.Operand.tmp 3) (Go.Operand.tmp 10), type := 0, pos := "law.go:33", after := #[{ on := 7, ground := Go.Ground.data }, { on := 6, ground := Go.Ground.data }, { on := 2, ground := Go.Ground.chain }, { on := 0, ground := Go.Ground.phase }, { on := 1, ground := Go.Ground.phase }, { on := 2, ground := Go.Ground.phase }, { on := 3, ground := Go.Ground.phase }, { on := 4, ground := Go.Ground.phase }, { on := 5, ground := Go.Ground.phase }, { on := 6, ground := Go.Ground.phase }, { on := 7, ground := Go.Ground.phase }], guard := none } : Oper)) rfl (fun K hK => ?_) AllReadyH.nil
      refine step_store_sr rfl 41 (.tmp 3) (.tmp 10) rfl W0.heap.size (recL ⟨#[]⟩ 0) (recL S T) 41 h3 rfl rfl sizeL rfl oneL (fun w4 hg4 hw4 hs4 => ?_)
      have hB4 : Below W0.heap.size W0 w4 := HBn.out.grown hw4.out HBn.out.size (fun k e => by injection e with e; omega)
      refine hK.out _ _ hB4 (fun hHeld => ?_)
      clear hK K
      refine wpAnyH_done (by kernel_rfl) ?_ _
      try (go_wp2_with fail)
      go_meet
      case rel => exact ⟨_, rfl, Lib.hid ⟨(hB4.block _ (heap_lt hZ0)).trans hZ0, (hB4.block _ (heap_lt hM0)).trans hM0, hg4.out, hB0.trans (hB4.mono hB0.size), by have := heap_lt hZ0; have := HBn.out.size; omega⟩⟩
  case rest =>
    obtain ⟨g, rfl, HS⟩ := hcut
    have d0 := (cell_of_row wc w.heap.size 0 _ _ _ HS.out.s).trans c0
    have d1 := (cell_of_row wc w.heap.size 1 _ _ _ HS.out.s).trans c1
    have hk' : bits BinOp.and IntKind.i64 s.k 7 = (j : Int) := hk
    have hgl := heap_lt HS.out.r
    have hgg := HS.out.hg
    rcases (show j = 0 ∨ j = 1 ∨ j = 2 ∨ j = 3 ∨ j = 4 ∨ j = 5 ∨ j = 6 ∨ j = 7 by omega) with rfl | rfl | rfl | rfl | rfl | rfl | rfl | rfl
    · obtain ⟨x0, x1, x2, x3, rest, hx⟩ : ∃ x0 x1 x2 x3 rest, s.ad = x0 :: x1 :: x2 :: x3 :: rest := by
        have h16 := hf.ad
        match hs : s.ad with
        | [] => rw [hs] at h16; cases h16
        | [_] => rw [hs] at h16; cases h16
        | [_, _] => rw [hs] at h16; cases h16
        | [_, _, _] => rw [hs] at h16; cases h16
        | a :: b :: c :: d :: r => exact ⟨a, b, c, d, r, rfl⟩
      have hcx : ∀ k, k < 4 → cs[3 + k]? = some (.int .u8 ([x0, x1, x2, x3].getD k 0).toNat) := fun k hk4 => by
        rw [← HCS.out]
        unfold SV.cells
        rw [hx, List.getElem?_toArray, show 3 + k = k + 1 + 1 + 1 by omega]
        simp only [List.getElem?_cons_succ]
        rcases (show k = 0 ∨ k = 1 ∨ k = 2 ∨ k = 3 by omega) with rfl | rfl | rfl | rfl <;> rfl
      have hr3 := HS.out.r
      have hz3 := HS.out.z
      have dx0 := (cell_of_row wc w.heap.size 3 _ _ _ HS.out.s).trans (hcx 0 (by omega))
      have dx1 := (cell_of_row wc w.heap.size 4 _ _ _ HS.out.s).trans (hcx 1 (by omega))
      have dx2 := (cell_of_row wc w.heap.size 5 _ _ _ HS.out.s).trans (hcx 2 (by omega))
      have dx3 := (cell_of_row wc w.heap.size 6 _ _ _ HS.out.s).trans (hcx 3 (by omega))
      have d1' := cell_of_row wc g 1 _ _ _ hr3
      have f1' := frozen_of_row wc g 1 _ _ hr3
      have d13 := cell_of_row wc g 13 _ _ _ hr3
      have f13 := frozen_of_row wc g 13 _ _ hr3
      have d14 := cell_of_row wc g 14 _ _ _ hr3
      have f14 := frozen_of_row wc g 14 _ _ hr3
      have d15 := cell_of_row wc g 15 _ _ _ hr3
      have f15 := frozen_of_row wc g 15 _ _ hr3
      have d16 := cell_of_row wc g 16 _ _ _ hr3
      have f16 := frozen_of_row wc g 16 _ _ hr3
      have d17 := cell_of_row wc g 17 _ _ _ hr3
      have f17 := frozen_of_row wc g 17 _ _ hr3
      have d18 := cell_of_row wc g 18 _ _ _ hr3
      have f18 := frozen_of_row wc g 18 _ _ hr3
      unfold recL at d1' d13 d14 d15 d16 d17 d18
      simp only [List.getElem?_toArray, List.getElem?_cons_succ, List.getElem?_cons_zero, List.getD_cons_zero, List.getD_cons_succ] at d1' d13 d14 d15 d16 d17 d18 dx0 dx1 dx2 dx3
      have hu8 : (Try.prog.info? 5).map (·.size) = some 1 := by kernel_rfl
      have hRw : (((wc.setCell ⟨g, 1, none⟩ (.int .i64 1)).alloc (.cells #[.int .u8 255, .int .u8 255, .int .u8 x0.toNat, .int .u8 x1.toNat, .int .u8 x2.toNat, .int .u8 x3.toNat] 5)).drew).heap[g]? = some (.cells ((recL S T).setIfInBounds 1 (.int .i64 1)) 41 (0, 0)) :=
        (Below.heap_alloc (wc.setCell ⟨g, 1, none⟩ (.int .i64 1)) _ g (by rw [World.size_setCell]; exact heap_lt hr3)).trans (heap_setCell_same wc g 1 _ _ _ hr3)
      have hBw : Below w.heap.size w (((wc.setCell ⟨g, 1, none⟩ (.int .i64 1)).alloc (.cells #[.int .u8 255, .int .u8 255, .int .u8 x0.toNat, .int .u8 x1.toNat, .int .u8 x2.toNat, .int .u8 x3.toNat] 5)).drew) := ((HS.out.below.setCell (p := ⟨g, 1, none⟩) (by show w.heap.size ≤ g; omega) _).alloc (by rw [World.size_setCell]; exact HS.out.below.size) _).drew
      have hZw : (((wc.setCell ⟨g, 1, none⟩ (.int .i64 1)).alloc (.cells #[.int .u8 255, .int .u8 255, .int .u8 x0.toNat, .int .u8 x1.toNat, .int .u8 x2.toNat, .int .u8 x3.toNat] 5)).drew).heap[w.heap.size + 1]? = some (.cells (recL ⟨#[]⟩ 0) 41 (0, 0)) :=
        (Below.heap_alloc (wc.setCell ⟨g, 1, none⟩ (.int .i64 1)) _ (w.heap.size + 1) (by rw [World.size_setCell]; exact heap_lt hz3)).trans ((Below.heap_setCell wc ⟨g, 1, none⟩ _ (w.heap.size + 1) (by show w.heap.size + 1 ≠ g; omega)).trans hz3)
      obtain ⟨W6, hW6⟩ : ∃ W6, W6 = (((wc.setCell ⟨g, 1, none⟩ (.int .i64 1)).alloc (.cells #[.int .u8 255, .int .u8 255, .int .u8 x0.toNat, .int .u8 x1.toNat, .int .u8 x2.toNat, .int .u8 x3.toNat] 5)).drew).setRow g (((recL S T).setIfInBounds 1 (.int .i64 1)).toList.take 13 ++ [Value.int .u8 255, .int .u8 255, .int .u8 x0.toNat, .int .u8 x1.toNat, .int .u8 x2.toNat, .int .u8 x3.toNat] ++ ((recL S T).setIfInBounds 1 (.int .i64 1)).toList.drop (13 + [Value.int .u8 255, .int .u8 255, .int .u8 x0.toNat, .int .u8 x1.toNat, .int .u8 x2.toNat, .int .u8 x3.toNat].length)).toArray := ⟨_, rfl⟩
      have hcp : (Builtin.copy_ #[43, 43] 3 #[.slice (some ⟨g, 13, none⟩) 6 6, .slice (some ⟨wc.heap.size, 0, none⟩) 6 6]).run Try.prog (((wc.setCell ⟨g, 1, none⟩ (.int .i64 1)).alloc (.cells #[.int .u8 255, .int .u8 255, .int .u8 x0.toNat, .int .u8 x1.toNat, .int .u8 x2.toNat, .int .u8 x3.toNat] 5)).drew) = .ok (.int .i64 6) W6 := by
        rw [hW6]
        refine run_copy_row Try.prog (((wc.setCell ⟨g, 1, none⟩ (.int .i64 1)).alloc (.cells #[.int .u8 255, .int .u8 255, .int .u8 x0.toNat, .int .u8 x1.toNat, .int .u8 x2.toNat, .int .u8 x3.toNat] 5)).drew) 43 43 3 5 g 13 6 6 ⟨wc.heap.size, 0, none⟩ 6 6 ((recL S T).setIfInBounds 1 (.int .i64 1)) 41 [Value.int .u8 255, .int .u8 255, .int .u8 x0.toNat, .int .u8 x1.toNat, .int .u8 x2.toNat, .int .u8 x3.toNat] Try.underlying43 hu8 hRw rfl (fun j v hj => ?_) (by show 19 ≤ 21; omega) (by simp [Value.oneCell'])
        rw [Addr.add_lit, Nat.zero_add]
        have h := World.cell?_alloc_mark (wc.setCell ⟨g, 1, none⟩ (.int .i64 1)) #[.int .u8 255, .int .u8 255, .int .u8 x0.toNat, .int .u8 x1.toNat, .int .u8 x2.toNat, .int .u8 x3.toNat] 5 (0, 0) j
        rw [World.size_setCell] at h
        exact h.trans (by rw [List.getElem?_toArray]; exact hj)
      have HR6 : Hid (W6.heap[g]? = some (.cells (srV S S2 T s.ad s.da 0).cells 41 (0, 0))) := Lib.hid (by
        rw [hW6]
        refine (setRow_heap _ g _ _ _ _ hRw).trans ?_
        unfold srV
        rw [hx]
        rfl)
      have hg6 : (((wc.setCell ⟨g, 1, none⟩ (.int .i64 1)).alloc (.cells #[.int .u8 255, .int .u8 255, .int .u8 x0.toNat, .int .u8 x1.toNat, .int .u8 x2.toNat, .int .u8 x3.toNat] 5)).drew).grownBy W6 (some g) := by rw [hW6]; exact ⟨rfl, rfl, rfl, by simp, fun k _ hk => setRow_other _ g k _ (fun e => hk (by rw [e]))⟩
      have HB6 : Hid (Below w.heap.size w W6) := Lib.hid (hBw.grown hg6 hBw.size (fun k e => by injection e with e; omega))
      have HZ6 : Hid (W6.heap[w.heap.size + 1]? = some (.cells (recL ⟨#[]⟩ 0) 41 (0, 0))) := Lib.hid ((hg6.block _ (heap_lt hZw) (fun e => by injection e with e; omega)).trans hZw)
      have SV6 : Hid ((Try.prog.info? 41).map (·.size) = some (srV S S2 T s.ad s.da 0).cells.size) := Lib.hid (sizeRv (by unfold srV; rw [hx]; rfl))
      have ZV6 : Hid ((recL ⟨#[]⟩ 0).size = (srV S S2 T s.ad s.da 0).cells.size) := Lib.hid (by rw [RV.size (show (srV S S2 T s.ad s.da 0).ad.length = 16 by unfold srV; rw [hx]; rfl)]; rfl)
      have OV6 := Lib.hid (RV.one (srV S S2 T s.ad s.da 0))
      clear hx hcx hr3 hz3 hW6 hg6 hRw hBw hZw hu8
      generalize hRC : (srV S S2 T s.ad s.da 0).cells = RC at HR6 SV6 ZV6 OV6
      have HRC := Lib.hid hRC
      clear hRC
      go_wp2_with fail
      go_region
      clear d1' f1' d13 f13 d14 f14 d15 f15 d16 f16 d17 f17 d18 f18 dx0 dx1 dx2 dx3 hcp
      go_wp2_with (first
        | (refine wpList_load_row rfl 41 (.tmp 3) rfl g rfl 41 RC (0, 0) _ HR6.out Try.underlying41 rfl SV6.out ?_; go_simp)
        | (refine wpList_store_blk rfl 41 (.tmp 2) (.tmp 77) rfl (w.heap.size + 1) (recL ⟨#[]⟩ 0) RC 41 HZ6.out rfl rfl SV6.out ZV6.out OV6.out ?_; intro w9 hg9 hw9 hz9; go_simp))
      exact bodyPost_ret (results_cell_row rfl _ w9 (w.heap.size + 1) 41 RC (0, 0) _ rfl hg9.out Try.underlying41 rfl SV6.out) rfl ⟨by rw [HRC.out], HB6.out.grown hw9.out HB6.out.size (fun k e => by injection e with e; omega)⟩
    · obtain ⟨x0, x1, x2, x3, rest, hx⟩ : ∃ x0 x1 x2 x3 rest, s.ad = x0 :: x1 :: x2 :: x3 :: rest := by
        have h16 := hf.ad
        match hs : s.ad with
        | [] => rw [hs] at h16; cases h16
        | [_] => rw [hs] at h16; cases h16
        | [_, _] => rw [hs] at h16; cases h16
        | [_, _, _] => rw [hs] at h16; cases h16
        | a :: b :: c :: d :: r => exact ⟨a, b, c, d, r, rfl⟩
      have hcx : ∀ k, k < 4 → cs[3 + k]? = some (.int .u8 ([x0, x1, x2, x3].getD k 0).toNat) := fun k hk4 => by
        rw [← HCS.out]
        unfold SV.cells
        rw [hx, List.getElem?_toArray, show 3 + k = k + 1 + 1 + 1 by omega]
        simp only [List.getElem?_cons_succ]
        rcases (show k = 0 ∨ k = 1 ∨ k = 2 ∨ k = 3 by omega) with rfl | rfl | rfl | rfl <;> rfl
      have hr3 := HS.out.r
      have hz3 := HS.out.z
      have dx0 := (cell_of_row wc w.heap.size 3 _ _ _ HS.out.s).trans (hcx 0 (by omega))
      have dx1 := (cell_of_row wc w.heap.size 4 _ _ _ HS.out.s).trans (hcx 1 (by omega))
      have dx2 := (cell_of_row wc w.heap.size 5 _ _ _ HS.out.s).trans (hcx 2 (by omega))
      have dx3 := (cell_of_row wc w.heap.size 6 _ _ _ HS.out.s).trans (hcx 3 (by omega))
      have d1' := cell_of_row wc g 1 _ _ _ hr3
      have f1' := frozen_of_row wc g 1 _ _ hr3
      have d13 := cell_of_row wc g 13 _ _ _ hr3
      have f13 := frozen_of_row wc g 13 _ _ hr3
      have d14 := cell_of_row wc g 14 _ _ _ hr3
      have f14 := frozen_of_row wc g 14 _ _ hr3
      have d15 := cell_of_row wc g 15 _ _ _ hr3
      have f15 := frozen_of_row wc g 15 _ _ hr3
      have d16 := cell_of_row wc g 16 _ _ _ hr3
      have f16 := frozen_of_row wc g 16 _ _ hr3
      have d17 := cell_of_row wc g 17 _ _ _ hr3
      have f17 := frozen_of_row wc g 17 _ _ hr3
      have d18 := cell_of_row wc g 18 _ _ _ hr3
      have f18 := frozen_of_row wc g 18 _ _ hr3
      unfold recL at d1' d13 d14 d15 d16 d17 d18
      simp only [List.getElem?_toArray, List.getElem?_cons_succ, List.getElem?_cons_zero, List.getD_cons_zero, List.getD_cons_succ] at d1' d13 d14 d15 d16 d17 d18 dx0 dx1 dx2 dx3
      have hu8 : (Try.prog.info? 5).map (·.size) = some 1 := by kernel_rfl
      have hRw : (((wc.setCell ⟨g, 1, none⟩ (.int .i64 1)).alloc (.cells #[.int .u8 255, .int .u8 255, .int .u8 x0.toNat, .int .u8 x1.toNat, .int .u8 x2.toNat, .int .u8 x3.toNat] 5)).drew).heap[g]? = some (.cells ((recL S T).setIfInBounds 1 (.int .i64 1)) 41 (0, 0)) :=
        (Below.heap_alloc (wc.setCell ⟨g, 1, none⟩ (.int .i64 1)) _ g (by rw [World.size_setCell]; exact heap_lt hr3)).trans (heap_setCell_same wc g 1 _ _ _ hr3)
      have hBw : Below w.heap.size w (((wc.setCell ⟨g, 1, none⟩ (.int .i64 1)).alloc (.cells #[.int .u8 255, .int .u8 255, .int .u8 x0.toNat, .int .u8 x1.toNat, .int .u8 x2.toNat, .int .u8 x3.toNat] 5)).drew) := ((HS.out.below.setCell (p := ⟨g, 1, none⟩) (by show w.heap.size ≤ g; omega) _).alloc (by rw [World.size_setCell]; exact HS.out.below.size) _).drew
      have hZw : (((wc.setCell ⟨g, 1, none⟩ (.int .i64 1)).alloc (.cells #[.int .u8 255, .int .u8 255, .int .u8 x0.toNat, .int .u8 x1.toNat, .int .u8 x2.toNat, .int .u8 x3.toNat] 5)).drew).heap[w.heap.size + 1]? = some (.cells (recL ⟨#[]⟩ 0) 41 (0, 0)) :=
        (Below.heap_alloc (wc.setCell ⟨g, 1, none⟩ (.int .i64 1)) _ (w.heap.size + 1) (by rw [World.size_setCell]; exact heap_lt hz3)).trans ((Below.heap_setCell wc ⟨g, 1, none⟩ _ (w.heap.size + 1) (by show w.heap.size + 1 ≠ g; omega)).trans hz3)
      obtain ⟨W6, hW6⟩ : ∃ W6, W6 = (((wc.setCell ⟨g, 1, none⟩ (.int .i64 1)).alloc (.cells #[.int .u8 255, .int .u8 255, .int .u8 x0.toNat, .int .u8 x1.toNat, .int .u8 x2.toNat, .int .u8 x3.toNat] 5)).drew).setRow g (((recL S T).setIfInBounds 1 (.int .i64 1)).toList.take 13 ++ [Value.int .u8 255, .int .u8 255, .int .u8 x0.toNat, .int .u8 x1.toNat, .int .u8 x2.toNat, .int .u8 x3.toNat] ++ ((recL S T).setIfInBounds 1 (.int .i64 1)).toList.drop (13 + [Value.int .u8 255, .int .u8 255, .int .u8 x0.toNat, .int .u8 x1.toNat, .int .u8 x2.toNat, .int .u8 x3.toNat].length)).toArray := ⟨_, rfl⟩
      have hcp : (Builtin.copy_ #[43, 43] 3 #[.slice (some ⟨g, 13, none⟩) 6 6, .slice (some ⟨wc.heap.size, 0, none⟩) 6 6]).run Try.prog (((wc.setCell ⟨g, 1, none⟩ (.int .i64 1)).alloc (.cells #[.int .u8 255, .int .u8 255, .int .u8 x0.toNat, .int .u8 x1.toNat, .int .u8 x2.toNat, .int .u8 x3.toNat] 5)).drew) = .ok (.int .i64 6) W6 := by
        rw [hW6]
        refine run_copy_row Try.prog (((wc.setCell ⟨g, 1, none⟩ (.int .i64 1)).alloc (.cells #[.int .u8 255, .int .u8 255, .int .u8 x0.toNat, .int .u8 x1.toNat, .int .u8 x2.toNat, .int .u8 x3.toNat] 5)).drew) 43 43 3 5 g 13 6 6 ⟨wc.heap.size, 0, none⟩ 6 6 ((recL S T).setIfInBounds 1 (.int .i64 1)) 41 [Value.int .u8 255, .int .u8 255, .int .u8 x0.toNat, .int .u8 x1.toNat, .int .u8 x2.toNat, .int .u8 x3.toNat] Try.underlying43 hu8 hRw rfl (fun j v hj => ?_) (by show 19 ≤ 21; omega) (by simp [Value.oneCell'])
        rw [Addr.add_lit, Nat.zero_add]
        have h := World.cell?_alloc_mark (wc.setCell ⟨g, 1, none⟩ (.int .i64 1)) #[.int .u8 255, .int .u8 255, .int .u8 x0.toNat, .int .u8 x1.toNat, .int .u8 x2.toNat, .int .u8 x3.toNat] 5 (0, 0) j
        rw [World.size_setCell] at h
        exact h.trans (by rw [List.getElem?_toArray]; exact hj)
      have HR6 : Hid (W6.heap[g]? = some (.cells (srV S S2 T s.ad s.da 1).cells 41 (0, 0))) := Lib.hid (by
        rw [hW6]
        refine (setRow_heap _ g _ _ _ _ hRw).trans ?_
        unfold srV
        rw [hx]
        rfl)
      have hg6 : (((wc.setCell ⟨g, 1, none⟩ (.int .i64 1)).alloc (.cells #[.int .u8 255, .int .u8 255, .int .u8 x0.toNat, .int .u8 x1.toNat, .int .u8 x2.toNat, .int .u8 x3.toNat] 5)).drew).grownBy W6 (some g) := by rw [hW6]; exact ⟨rfl, rfl, rfl, by simp, fun k _ hk => setRow_other _ g k _ (fun e => hk (by rw [e]))⟩
      have HB6 : Hid (Below w.heap.size w W6) := Lib.hid (hBw.grown hg6 hBw.size (fun k e => by injection e with e; omega))
      have HZ6 : Hid (W6.heap[w.heap.size + 1]? = some (.cells (recL ⟨#[]⟩ 0) 41 (0, 0))) := Lib.hid ((hg6.block _ (heap_lt hZw) (fun e => by injection e with e; omega)).trans hZw)
      have SV6 : Hid ((Try.prog.info? 41).map (·.size) = some (srV S S2 T s.ad s.da 1).cells.size) := Lib.hid (sizeRv (by unfold srV; rw [hx]; rfl))
      have ZV6 : Hid ((recL ⟨#[]⟩ 0).size = (srV S S2 T s.ad s.da 1).cells.size) := Lib.hid (by rw [RV.size (show (srV S S2 T s.ad s.da 1).ad.length = 16 by unfold srV; rw [hx]; rfl)]; rfl)
      have OV6 := Lib.hid (RV.one (srV S S2 T s.ad s.da 1))
      clear hx hcx hr3 hz3 hW6 hg6 hRw hBw hZw hu8
      generalize hRC : (srV S S2 T s.ad s.da 1).cells = RC at HR6 SV6 ZV6 OV6
      have HRC := Lib.hid hRC
      clear hRC
      go_wp2_with fail
      go_region
      clear d1' f1' d13 f13 d14 f14 d15 f15 d16 f16 d17 f17 d18 f18 dx0 dx1 dx2 dx3 hcp
      go_wp2_with (first
        | (refine wpList_load_row rfl 41 (.tmp 3) rfl g rfl 41 RC (0, 0) _ HR6.out Try.underlying41 rfl SV6.out ?_; go_simp)
        | (refine wpList_store_blk rfl 41 (.tmp 2) (.tmp 77) rfl (w.heap.size + 1) (recL ⟨#[]⟩ 0) RC 41 HZ6.out rfl rfl SV6.out ZV6.out OV6.out ?_; intro w9 hg9 hw9 hz9; go_simp))
      exact bodyPost_ret (results_cell_row rfl _ w9 (w.heap.size + 1) 41 RC (0, 0) _ rfl hg9.out Try.underlying41 rfl SV6.out) rfl ⟨by rw [HRC.out], HB6.out.grown hw9.out HB6.out.size (fun k e => by injection e with e; omega)⟩
    · have hr3 := HS.out.r
      have hz3 := HS.out.z
      have hs3 := HS.out.s
      have d1' : wc.drew.cell? ⟨g, 1, none⟩ = _ := cell_of_row wc g 1 _ _ _ hr3
      have f1' : wc.drew.frozen? ⟨g, 1, none⟩ = _ := frozen_of_row wc g 1 _ _ hr3
      unfold recL at d1'
      simp only [List.getElem?_toArray, List.getElem?_cons_succ, List.getElem?_cons_zero] at d1'
      have HSB := Lib.hid (HS.out.below)
      have hAd : (bvs s.ad).length = 16 := by rw [bvs_length]; exact hf.ad
      have HAR : Hid (∀ W : World, W.heap[w.heap.size]? = some (.cells cs 25 (0, 0)) → W.rangeAt w.heap.size 3 (bvs s.ad)) := Lib.hid (fun W h j v hv => by
        rw [cell_of_row W w.heap.size (3 + j) _ _ _ h, ← HCS.out]
        unfold SV.cells
        rw [List.getElem?_toArray, show 3 + j = j + 1 + 1 + 1 by omega]
        simp only [List.getElem?_cons_succ]
        rw [List.getElem?_append_left (List.getElem?_eq_some_iff.1 hv).1]
        exact hv)
      have SA : Hid ((Try.prog.info? 23).map (·.size) = some (bvs s.ad).toArray.size) := Lib.hid (by rw [List.size_toArray, hAd]; kernel_rfl)
      have SAl : Hid ((Try.prog.info? 23).map (·.size) = some (bvs s.ad).length) := Lib.hid (by rw [hAd]; kernel_rfl)
      have OA : Hid ((bvs s.ad).toArray.all (·.oneCell') = true) := Lib.hid (all_oneCell_toArray (bvs_one s.ad))
      have hE : ((((recL S T).setIfInBounds 1 (.int .i64 28)).toList.take 3) ++ (bvs s.ad).toArray.toList ++ (((recL S T).setIfInBounds 1 (.int .i64 28)).toList.drop (3 + (bvs s.ad).toArray.size))).toArray = (srV S S2 T s.ad s.da 2).cells := by
        rw [List.size_toArray, hAd]; rfl
      have HEq := Lib.hid hE
      have hz19 : 3 + (bvs s.ad).toArray.size ≤ ((recL S T).setIfInBounds 1 (.int .i64 28)).size := by rw [List.size_toArray, hAd]; show 19 ≤ 21; omega
      have HZ19 := Lib.hid hz19
      have SV6 : Hid ((Try.prog.info? 41).map (·.size) = some (srV S S2 T s.ad s.da 2).cells.size) := Lib.hid (sizeRv hf.ad)
      have ZV6 : Hid ((recL ⟨#[]⟩ 0).size = (srV S S2 T s.ad s.da 2).cells.size) := Lib.hid (by rw [RV.size (show (srV S S2 T s.ad s.da 2).ad.length = 16 from hf.ad)]; rfl)
      have OV6 := Lib.hid (RV.one (srV S S2 T s.ad s.da 2))
      have HR3 := Lib.hid hr3
      clear hz19 hE hAd hr3
      generalize hRC : (srV S S2 T s.ad s.da 2).cells = RC at SV6 ZV6 OV6 HEq
      have HRC := Lib.hid hRC
      clear hRC
      go_wp2_with fail
      refine wp_region_held_drew (S := (fun W : World => W.heap[w.heap.size]? = some (.cells cs 25 (0, 0)))) (by kernel_rfl) hs3 (fun hHeld => ?_)
      refine wpAnyH_take (i := 0) (oi := ({ dst := some 46, op := Go.Op.fieldAddr 25 (Go.Operand.tmp 1) 3, type := 0, pos := "law.go:39", after := #[{ on := 3, ground := Go.Ground.gcOnly Go.Departure.lateStores }], guard := none } : Oper)) (v := .pointer (some ⟨w.heap.size, 3, none⟩)) rfl (by kernel_rfl) (by kernel_rfl) (by kernel_rfl) (fun _ _ _ h => h) (Or.inl ⟨by rfl, fun w' hS' => ?_⟩) hHeld ?_
      · go_simp
      try simp only [Act.put, List.setIfInBounds_toArray, List.set_cons_zero, List.set_cons_succ]
      refine wpAnyH_take (i := 1) (oi := ({ dst := some 47, op := Go.Op.load 23 (Go.Operand.tmp 46), type := 23, pos := "law.go:39", after := #[{ on := 0, ground := Go.Ground.data }, { on := 3, ground := Go.Ground.gcOnly Go.Departure.lateStores }], guard := none } : Oper)) (v := .agg (bvs s.ad).toArray) rfl (by kernel_rfl) (by kernel_rfl) (by kernel_rfl) (fun _ _ _ h => h) (yieldsIf_load_mid (by rfl) _ _ rfl _ _ rfl _ _ (fun W h => HAR.out W h) Try.underlying23 rfl SAl.out) hHeld ?_
      try simp only [Act.put, List.setIfInBounds_toArray, List.set_cons_zero, List.set_cons_succ]
      refine wpAnyH_take (i := 2) (oi := ({ dst := some 48, op := Go.Op.fieldAddr 41 (Go.Operand.tmp 3) 1, type := 0, pos := "law.go:39", after := #[{ on := 0, ground := Go.Ground.textOnly Go.Departure.lateStores }, { on := 1, ground := Go.Ground.textOnly Go.Departure.lateStores }], guard := none } : Oper)) (v := .pointer (some ⟨g, 1, none⟩)) rfl (by kernel_rfl) (by kernel_rfl) (by kernel_rfl) (fun _ _ _ h => h) (Or.inl ⟨by rfl, fun w' hS' => ?_⟩) hHeld ?_
      · go_simp
      try simp only [Act.put, List.setIfInBounds_toArray, List.set_cons_zero, List.set_cons_succ]
      refine wpAnyH_ready (rs := [3]) (by kernel_rfl) (by simp) ?_
      refine AllReadyH.cons (o := ({ dst := none, op := Go.Op.store 3 (Go.Operand.tmp 48) (Go.Operand.const (Go.Value.int Go.IntKind.i64 28)), type := 0, pos := "law.go:39", after := #[{ on := 2, ground := Go.Ground.data }, { on := 0, ground := Go.Ground.textOnly Go.Departure.lateStores }, { on := 1, ground := Go.Ground.textOnly Go.Departure.lateStores }], guard := none } : Oper)) rfl (fun K hK => ?_) AllReadyH.nil
      go_simp
      refine hK.out _ _ ((Below.heap_setCell wc.drew ⟨g, 1, none⟩ _ w.heap.size (by show w.heap.size ≠ g; omega)).trans hs3) (fun hHeld => ?_)
      clear hK K
      try simp only [Act.put, List.setIfInBounds_toArray, List.set_cons_zero, List.set_cons_succ]
      refine wpAnyH_take (i := 4) (oi := ({ dst := some 49, op := Go.Op.fieldAddr 41 (Go.Operand.tmp 3) 3, type := 0, pos := "law.go:39", after := #[{ on := 0, ground := Go.Ground.phase }, { on := 1, ground := Go.Ground.phase }, { on := 2, ground := Go.Ground.phase }, { on := 3, ground := Go.Ground.phase }], guard := none } : Oper)) (v := .pointer (some ⟨g, 3, none⟩)) rfl (by kernel_rfl) (by kernel_rfl) (by kernel_rfl) (fun _ _ _ h => h) (Or.inl ⟨by rfl, fun w' hS' => ?_⟩) hHeld ?_
      · go_simp
      try simp only [Act.put, List.setIfInBounds_toArray, List.set_cons_zero, List.set_cons_succ]
      refine wpAnyH_ready (rs := [5]) (by kernel_rfl) (by simp) ?_
      refine AllReadyH.cons (o := ({ dst := none, op := Go.Op.store 23 (Go.Operand.tmp 49) (Go.Operand.tmp 47), type := 0, pos := "law.go:39", after := #[{ on := 4, ground := Go.Ground.data }, { on := 1, ground := Go.Ground.data }, { on := 3, ground := Go.Ground.chain }, { on := 0, ground := Go.Ground.phase }, { on := 1, ground := Go.Ground.phase }, { on := 2, ground := Go.Ground.phase }, { on := 3, ground := Go.Ground.phase }], guard := none } : Oper)) rfl (fun K hK => ?_) AllReadyH.nil
      refine step_store_part rfl 23 (.tmp 49) (.tmp 47) rfl g 3 ((recL S T).setIfInBounds 1 (.int .i64 28)) (bvs s.ad).toArray RC 41 (heap_setCell_same wc.drew g 1 _ _ _ HR3.out) rfl rfl SA.out HZ19.out OA.out HEq.out (fun W6 hg6 hw6 hs6 => ?_)
      have HB6 : Hid (Below w.heap.size w W6) := Lib.hid ((HSB.out.drew.setCell (p := ⟨g, 1, none⟩) (by show w.heap.size ≤ g; omega) _).grown hw6.out (HSB.out.drew.setCell (p := ⟨g, 1, none⟩) (by show w.heap.size ≤ g; omega) _).size (fun k e => by injection e with e; omega))
      have HZ6 : Hid (W6.heap[w.heap.size + 1]? = some (.cells (recL ⟨#[]⟩ 0) 41 (0, 0))) := Lib.hid ((hw6.out.block _ (by show _ < (wc.setCell ⟨g, 1, none⟩ (.int .i64 28)).heap.size; rw [World.size_setCell]; exact heap_lt hz3) (fun e => by injection e with e; omega)).trans ((Below.heap_setCell wc.drew ⟨g, 1, none⟩ _ (w.heap.size + 1) (by show w.heap.size + 1 ≠ g; omega)).trans hz3))
      refine hK.out _ _ ((hw6.out.block _ (by show _ < (wc.setCell ⟨g, 1, none⟩ (.int .i64 28)).heap.size; rw [World.size_setCell]; exact heap_lt hs3) (fun e => by injection e with e; omega)).trans ((Below.heap_setCell wc.drew ⟨g, 1, none⟩ _ w.heap.size (by show w.heap.size ≠ g; omega)).trans hs3)) (fun hHeld => ?_)
      clear hK K d1' f1' hz3 hs3
      refine wpAnyH_done (by kernel_rfl) ?_ _
      go_wp2_with (first
        | (refine wpList_load_row rfl 41 (.tmp 3) rfl g rfl 41 RC (0, 0) _ hg6.out Try.underlying41 rfl SV6.out ?_; go_simp)
        | (refine wpList_store_blk rfl 41 (.tmp 2) (.tmp 77) rfl (w.heap.size + 1) (recL ⟨#[]⟩ 0) RC 41 HZ6.out rfl rfl SV6.out ZV6.out OV6.out ?_; intro w9 hg9 hw9 hz9; go_simp))
      exact bodyPost_ret (results_cell_row rfl _ w9 (w.heap.size + 1) 41 RC (0, 0) _ rfl hg9.out Try.underlying41 rfl SV6.out) rfl ⟨by rw [HRC.out], HB6.out.grown hw9.out HB6.out.size (fun k e => by injection e with e; omega)⟩
    · have hr3 := HS.out.r
      have hz3 := HS.out.z
      have hs3 := HS.out.s
      have d1' : wc.drew.cell? ⟨g, 1, none⟩ = _ := cell_of_row wc g 1 _ _ _ hr3
      have f1' : wc.drew.frozen? ⟨g, 1, none⟩ = _ := frozen_of_row wc g 1 _ _ hr3
      unfold recL at d1'
      simp only [List.getElem?_toArray, List.getElem?_cons_succ, List.getElem?_cons_zero] at d1'
      have HSB := Lib.hid (HS.out.below)
      have hAd : (bvs s.ad).length = 16 := by rw [bvs_length]; exact hf.ad
      have HAR : Hid (∀ W : World, W.heap[w.heap.size]? = some (.cells cs 25 (0, 0)) → W.rangeAt w.heap.size 3 (bvs s.ad)) := Lib.hid (fun W h j v hv => by
        rw [cell_of_row W w.heap.size (3 + j) _ _ _ h, ← HCS.out]
        unfold SV.cells
        rw [List.getElem?_toArray, show 3 + j = j + 1 + 1 + 1 by omega]
        simp only [List.getElem?_cons_succ]
        rw [List.getElem?_append_left (List.getElem?_eq_some_iff.1 hv).1]
        exact hv)
      have SA : Hid ((Try.prog.info? 23).map (·.size) = some (bvs s.ad).toArray.size) := Lib.hid (by rw [List.size_toArray, hAd]; kernel_rfl)
      have SAl : Hid ((Try.prog.info? 23).map (·.size) = some (bvs s.ad).length) := Lib.hid (by rw [hAd]; kernel_rfl)
      have OA : Hid ((bvs s.ad).toArray.all (·.oneCell') = true) := Lib.hid (all_oneCell_toArray (bvs_one s.ad))
      have hE : ((((recL S T).setIfInBounds 1 (.int .i64 28)).toList.take 3) ++ (bvs s.ad).toArray.toList ++ (((recL S T).setIfInBounds 1 (.int .i64 28)).toList.drop (3 + (bvs s.ad).toArray.size))).toArray = (srV S S2 T s.ad s.da 3).cells := by
        rw [List.size_toArray, hAd]; rfl
      have HEq := Lib.hid hE
      have hz19 : 3 + (bvs s.ad).toArray.size ≤ ((recL S T).setIfInBounds 1 (.int .i64 28)).size := by rw [List.size_toArray, hAd]; show 19 ≤ 21; omega
      have HZ19 := Lib.hid hz19
      have SV6 : Hid ((Try.prog.info? 41).map (·.size) = some (srV S S2 T s.ad s.da 3).cells.size) := Lib.hid (sizeRv hf.ad)
      have ZV6 : Hid ((recL ⟨#[]⟩ 0).size = (srV S S2 T s.ad s.da 3).cells.size) := Lib.hid (by rw [RV.size (show (srV S S2 T s.ad s.da 3).ad.length = 16 from hf.ad)]; rfl)
      have OV6 := Lib.hid (RV.one (srV S S2 T s.ad s.da 3))
      have HR3 := Lib.hid hr3
      clear hz19 hE hAd hr3
      generalize hRC : (srV S S2 T s.ad s.da 3).cells = RC at SV6 ZV6 OV6 HEq
      have HRC := Lib.hid hRC
      clear hRC
      go_wp2_with fail
      refine wp_region_held_drew (S := (fun W : World => W.heap[w.heap.size]? = some (.cells cs 25 (0, 0)))) (by kernel_rfl) hs3 (fun hHeld => ?_)
      refine wpAnyH_take (i := 0) (oi := ({ dst := some 46, op := Go.Op.fieldAddr 25 (Go.Operand.tmp 1) 3, type := 0, pos := "law.go:39", after := #[{ on := 3, ground := Go.Ground.gcOnly Go.Departure.lateStores }], guard := none } : Oper)) (v := .pointer (some ⟨w.heap.size, 3, none⟩)) rfl (by kernel_rfl) (by kernel_rfl) (by kernel_rfl) (fun _ _ _ h => h) (Or.inl ⟨by rfl, fun w' hS' => ?_⟩) hHeld ?_
      · go_simp
      try simp only [Act.put, List.setIfInBounds_toArray, List.set_cons_zero, List.set_cons_succ]
      refine wpAnyH_take (i := 1) (oi := ({ dst := some 47, op := Go.Op.load 23 (Go.Operand.tmp 46), type := 23, pos := "law.go:39", after := #[{ on := 0, ground := Go.Ground.data }, { on := 3, ground := Go.Ground.gcOnly Go.Departure.lateStores }], guard := none } : Oper)) (v := .agg (bvs s.ad).toArray) rfl (by kernel_rfl) (by kernel_rfl) (by kernel_rfl) (fun _ _ _ h => h) (yieldsIf_load_mid (by rfl) _ _ rfl _ _ rfl _ _ (fun W h => HAR.out W h) Try.underlying23 rfl SAl.out) hHeld ?_
      try simp only [Act.put, List.setIfInBounds_toArray, List.set_cons_zero, List.set_cons_succ]
      refine wpAnyH_take (i := 2) (oi := ({ dst := some 48, op := Go.Op.fieldAddr 41 (Go.Operand.tmp 3) 1, type := 0, pos := "law.go:39", after := #[{ on := 0, ground := Go.Ground.textOnly Go.Departure.lateStores }, { on := 1, ground := Go.Ground.textOnly Go.Departure.lateStores }], guard := none } : Oper)) (v := .pointer (some ⟨g, 1, none⟩)) rfl (by kernel_rfl) (by kernel_rfl) (by kernel_rfl) (fun _ _ _ h => h) (Or.inl ⟨by rfl, fun w' hS' => ?_⟩) hHeld ?_
      · go_simp
      try simp only [Act.put, List.setIfInBounds_toArray, List.set_cons_zero, List.set_cons_succ]
      refine wpAnyH_ready (rs := [3]) (by kernel_rfl) (by simp) ?_
      refine AllReadyH.cons (o := ({ dst := none, op := Go.Op.store 3 (Go.Operand.tmp 48) (Go.Operand.const (Go.Value.int Go.IntKind.i64 28)), type := 0, pos := "law.go:39", after := #[{ on := 2, ground := Go.Ground.data }, { on := 0, ground := Go.Ground.textOnly Go.Departure.lateStores }, { on := 1, ground := Go.Ground.textOnly Go.Departure.lateStores }], guard := none } : Oper)) rfl (fun K hK => ?_) AllReadyH.nil
      go_simp
      refine hK.out _ _ ((Below.heap_setCell wc.drew ⟨g, 1, none⟩ _ w.heap.size (by show w.heap.size ≠ g; omega)).trans hs3) (fun hHeld => ?_)
      clear hK K
      try simp only [Act.put, List.setIfInBounds_toArray, List.set_cons_zero, List.set_cons_succ]
      refine wpAnyH_take (i := 4) (oi := ({ dst := some 49, op := Go.Op.fieldAddr 41 (Go.Operand.tmp 3) 3, type := 0, pos := "law.go:39", after := #[{ on := 0, ground := Go.Ground.phase }, { on := 1, ground := Go.Ground.phase }, { on := 2, ground := Go.Ground.phase }, { on := 3, ground := Go.Ground.phase }], guard := none } : Oper)) (v := .pointer (some ⟨g, 3, none⟩)) rfl (by kernel_rfl) (by kernel_rfl) (by kernel_rfl) (fun _ _ _ h => h) (Or.inl ⟨by rfl, fun w' hS' => ?_⟩) hHeld ?_
      · go_simp
      try simp only [Act.put, List.setIfInBounds_toArray, List.set_cons_zero, List.set_cons_succ]
      refine wpAnyH_ready (rs := [5]) (by kernel_rfl) (by simp) ?_
      refine AllReadyH.cons (o := ({ dst := none, op := Go.Op.store 23 (Go.Operand.tmp 49) (Go.Operand.tmp 47), type := 0, pos := "law.go:39", after := #[{ on := 4, ground := Go.Ground.data }, { on := 1, ground := Go.Ground.data }, { on := 3, ground := Go.Ground.chain }, { on := 0, ground := Go.Ground.phase }, { on := 1, ground := Go.Ground.phase }, { on := 2, ground := Go.Ground.phase }, { on := 3, ground := Go.Ground.phase }], guard := none } : Oper)) rfl (fun K hK => ?_) AllReadyH.nil
      refine step_store_part rfl 23 (.tmp 49) (.tmp 47) rfl g 3 ((recL S T).setIfInBounds 1 (.int .i64 28)) (bvs s.ad).toArray RC 41 (heap_setCell_same wc.drew g 1 _ _ _ HR3.out) rfl rfl SA.out HZ19.out OA.out HEq.out (fun W6 hg6 hw6 hs6 => ?_)
      have HB6 : Hid (Below w.heap.size w W6) := Lib.hid ((HSB.out.drew.setCell (p := ⟨g, 1, none⟩) (by show w.heap.size ≤ g; omega) _).grown hw6.out (HSB.out.drew.setCell (p := ⟨g, 1, none⟩) (by show w.heap.size ≤ g; omega) _).size (fun k e => by injection e with e; omega))
      have HZ6 : Hid (W6.heap[w.heap.size + 1]? = some (.cells (recL ⟨#[]⟩ 0) 41 (0, 0))) := Lib.hid ((hw6.out.block _ (by show _ < (wc.setCell ⟨g, 1, none⟩ (.int .i64 28)).heap.size; rw [World.size_setCell]; exact heap_lt hz3) (fun e => by injection e with e; omega)).trans ((Below.heap_setCell wc.drew ⟨g, 1, none⟩ _ (w.heap.size + 1) (by show w.heap.size + 1 ≠ g; omega)).trans hz3))
      refine hK.out _ _ ((hw6.out.block _ (by show _ < (wc.setCell ⟨g, 1, none⟩ (.int .i64 28)).heap.size; rw [World.size_setCell]; exact heap_lt hs3) (fun e => by injection e with e; omega)).trans ((Below.heap_setCell wc.drew ⟨g, 1, none⟩ _ w.heap.size (by show w.heap.size ≠ g; omega)).trans hs3)) (fun hHeld => ?_)
      clear hK K d1' f1' hz3 hs3
      refine wpAnyH_done (by kernel_rfl) ?_ _
      go_wp2_with (first
        | (refine wpList_load_row rfl 41 (.tmp 3) rfl g rfl 41 RC (0, 0) _ hg6.out Try.underlying41 rfl SV6.out ?_; go_simp)
        | (refine wpList_store_blk rfl 41 (.tmp 2) (.tmp 77) rfl (w.heap.size + 1) (recL ⟨#[]⟩ 0) RC 41 HZ6.out rfl rfl SV6.out ZV6.out OV6.out ?_; intro w9 hg9 hw9 hz9; go_simp))
      exact bodyPost_ret (results_cell_row rfl _ w9 (w.heap.size + 1) 41 RC (0, 0) _ rfl hg9.out Try.underlying41 rfl SV6.out) rfl ⟨by rw [HRC.out], HB6.out.grown hw9.out HB6.out.size (fun k e => by injection e with e; omega)⟩
    · go_wp2_with fail
      refine (HN2.out wc).mono ?_
      rintro e w3 ⟨rfl, hb3⟩
      have hr3 := (hb3.block g hgl).trans HS.out.r
      have hz3 := (hb3.block (w.heap.size + 1) (heap_lt HS.out.z)).trans HS.out.z
      have d1' := cell_of_row w3 g 1 _ _ _ hr3
      have f1' := frozen_of_row w3 g 1 _ _ hr3
      have d19 := cell_of_row w3 g 19 _ _ _ hr3
      have f19 := frozen_of_row w3 g 19 _ _ hr3
      unfold recL at d1' d19
      simp only [List.getElem?_toArray, List.getElem?_cons_succ, List.getElem?_cons_zero] at d1' d19
      obtain ⟨W6, hW6⟩ : ∃ W6, W6 = (w3.setCell ⟨g, 1, none⟩ (.int .i64 5)).setCell ⟨g, 19, none⟩ (.string S2) := ⟨_, rfl⟩
      have HR6 : Hid (W6.heap[g]? = some (.cells (srV S S2 T s.ad s.da 4).cells 41 (0, 0))) := Lib.hid (by
        rw [hW6]
        exact (heap_setCell_same (w3.setCell ⟨g, 1, none⟩ (.int .i64 5)) g 19 _ _ _ (heap_setCell_same w3 g 1 _ _ _ hr3)).trans rfl)
      have HB6 : Hid (Below w.heap.size w W6) := Lib.hid (by
        rw [hW6]
        have h := HS.out.below.trans (hb3.mono HS.out.below.size)
        exact (h.setCell (p := ⟨g, 1, none⟩) (by show w.heap.size ≤ g; omega) _).setCell (p := ⟨g, 19, none⟩) (by show w.heap.size ≤ g; omega) _)
      have HZ6 : Hid (W6.heap[w.heap.size + 1]? = some (.cells (recL ⟨#[]⟩ 0) 41 (0, 0))) := Lib.hid (by
        rw [hW6]
        exact (Below.heap_setCell _ ⟨g, 19, none⟩ _ _ (by show w.heap.size + 1 ≠ g; omega)).trans ((Below.heap_setCell _ ⟨g, 1, none⟩ _ _ (by show w.heap.size + 1 ≠ g; omega)).trans hz3))
      have SV6 : Hid ((Try.prog.info? 41).map (·.size) = some (srV S S2 T s.ad s.da 4).cells.size) := Lib.hid (sizeRv rfl)
      have ZV6 : Hid ((recL ⟨#[]⟩ 0).size = (srV S S2 T s.ad s.da 4).cells.size) := Lib.hid rfl
      have OV6 := Lib.hid (RV.one (srV S S2 T s.ad s.da 4))
      clear hr3 hz3 hb3
      generalize hRC : (srV S S2 T s.ad s.da 4).cells = RC at HR6 SV6 ZV6 OV6
      have HRC := Lib.hid hRC
      clear hRC
      go_wp2_with (first
        | (refine wpList_load_row rfl 41 (.tmp 3) rfl g rfl 41 RC (0, 0) _ (by rw [← hW6]; exact HR6.out) Try.underlying41 rfl SV6.out ?_; rw [← hW6]; clear d1' f1' d19 f19 hW6; go_simp)
        | (refine wpList_store_blk rfl 41 (.tmp 2) (.tmp 77) rfl (w.heap.size + 1) (recL ⟨#[]⟩ 0) RC 41 HZ6.out rfl rfl SV6.out ZV6.out OV6.out ?_; intro w9 hg9 hw9 hz9; go_simp))
      exact bodyPost_ret (results_cell_row rfl _ w9 (w.heap.size + 1) 41 RC (0, 0) _ rfl hg9.out Try.underlying41 rfl SV6.out) rfl ⟨by rw [HRC.out], HB6.out.grown hw9.out HB6.out.size (fun k e => by injection e with e; omega)⟩
    · go_wp2_with fail
      refine (HN2.out wc).mono ?_
      rintro e w3 ⟨rfl, hb3⟩
      have hr3 := (hb3.block g hgl).trans HS.out.r
      have hz3 := (hb3.block (w.heap.size + 1) (heap_lt HS.out.z)).trans HS.out.z
      have d1' := cell_of_row w3 g 1 _ _ _ hr3
      have f1' := frozen_of_row w3 g 1 _ _ hr3
      have d19 := cell_of_row w3 g 19 _ _ _ hr3
      have f19 := frozen_of_row w3 g 19 _ _ hr3
      unfold recL at d1' d19
      simp only [List.getElem?_toArray, List.getElem?_cons_succ, List.getElem?_cons_zero] at d1' d19
      obtain ⟨W6, hW6⟩ : ∃ W6, W6 = (w3.setCell ⟨g, 1, none⟩ (.int .i64 12)).setCell ⟨g, 19, none⟩ (.string S2) := ⟨_, rfl⟩
      have HR6 : Hid (W6.heap[g]? = some (.cells (srV S S2 T s.ad s.da 5).cells 41 (0, 0))) := Lib.hid (by
        rw [hW6]
        exact (heap_setCell_same (w3.setCell ⟨g, 1, none⟩ (.int .i64 12)) g 19 _ _ _ (heap_setCell_same w3 g 1 _ _ _ hr3)).trans rfl)
      have HB6 : Hid (Below w.heap.size w W6) := Lib.hid (by
        rw [hW6]
        have h := HS.out.below.trans (hb3.mono HS.out.below.size)
        exact (h.setCell (p := ⟨g, 1, none⟩) (by show w.heap.size ≤ g; omega) _).setCell (p := ⟨g, 19, none⟩) (by show w.heap.size ≤ g; omega) _)
      have HZ6 : Hid (W6.heap[w.heap.size + 1]? = some (.cells (recL ⟨#[]⟩ 0) 41 (0, 0))) := Lib.hid (by
        rw [hW6]
        exact (Below.heap_setCell _ ⟨g, 19, none⟩ _ _ (by show w.heap.size + 1 ≠ g; omega)).trans ((Below.heap_setCell _ ⟨g, 1, none⟩ _ _ (by show w.heap.size + 1 ≠ g; omega)).trans hz3))
      have SV6 : Hid ((Try.prog.info? 41).map (·.size) = some (srV S S2 T s.ad s.da 5).cells.size) := Lib.hid (sizeRv rfl)
      have ZV6 : Hid ((recL ⟨#[]⟩ 0).size = (srV S S2 T s.ad s.da 5).cells.size) := Lib.hid rfl
      have OV6 := Lib.hid (RV.one (srV S S2 T s.ad s.da 5))
      clear hr3 hz3 hb3
      generalize hRC : (srV S S2 T s.ad s.da 5).cells = RC at HR6 SV6 ZV6 OV6
      have HRC := Lib.hid hRC
      clear hRC
      go_wp2_with (first
        | (refine wpList_load_row rfl 41 (.tmp 3) rfl g rfl 41 RC (0, 0) _ (by rw [← hW6]; exact HR6.out) Try.underlying41 rfl SV6.out ?_; rw [← hW6]; clear d1' f1' d19 f19 hW6; go_simp)
        | (refine wpList_store_blk rfl 41 (.tmp 2) (.tmp 77) rfl (w.heap.size + 1) (recL ⟨#[]⟩ 0) RC 41 HZ6.out rfl rfl SV6.out ZV6.out OV6.out ?_; intro w9 hg9 hw9 hz9; go_simp))
      exact bodyPost_ret (results_cell_row rfl _ w9 (w.heap.size + 1) 41 RC (0, 0) _ rfl hg9.out Try.underlying41 rfl SV6.out) rfl ⟨by rw [HRC.out], HB6.out.grown hw9.out HB6.out.size (fun k e => by injection e with e; omega)⟩
    · have dD := (cell_of_row wc w.heap.size 19 _ _ _ HS.out.s).trans c19
      have hr3 := HS.out.r
      have hz3 := HS.out.z
      have d1' := cell_of_row wc g 1 _ _ _ hr3
      have f1' := frozen_of_row wc g 1 _ _ hr3
      have d20 := cell_of_row wc g 20 _ _ _ hr3
      have f20 := frozen_of_row wc g 20 _ _ hr3
      unfold recL at d1' d20
      simp only [List.getElem?_toArray, List.getElem?_cons_succ, List.getElem?_cons_zero] at d1' d20
      obtain ⟨M, hM, hMs, hM2⟩ : ∃ M : Nat, min (s.da.size : Int) 255 = (M : Int) ∧ M ≤ s.da.size ∧ min s.da.size 255 = M := ⟨min s.da.size 255, by omega, by omega, rfl⟩
      have HMX := Lib.hid hM2
      clear hM2
      obtain ⟨W6, hW6⟩ : ∃ W6, W6 = ((wc.setCell ⟨g, 1, none⟩ (.int .i64 6)).setCell ⟨g, 20, none⟩ (.string (s.da.extract 0 M))).drew := ⟨_, rfl⟩
      have HR6 : Hid (W6.heap[g]? = some (.cells (srV S S2 T s.ad s.da 6).cells 41 (0, 0))) := Lib.hid (by
        rw [hW6]
        refine (show ((wc.setCell ⟨g, 1, none⟩ (.int .i64 6)).setCell ⟨g, 20, none⟩ (.string (s.da.extract 0 M))).heap[g]? = _ from heap_setCell_same (wc.setCell ⟨g, 1, none⟩ (.int .i64 6)) g 20 _ _ _ (heap_setCell_same wc g 1 _ _ _ hr3)).trans ?_
        unfold srV cut255
        rw [HMX.out]
        rfl)
      have HB6 : Hid (Below w.heap.size w W6) := Lib.hid (by
        rw [hW6]
        exact ((HS.out.below.setCell (p := ⟨g, 1, none⟩) (by show w.heap.size ≤ g; omega) _).setCell (p := ⟨g, 20, none⟩) (by show w.heap.size ≤ g; omega) _).drew)
      have HZ6 : Hid (W6.heap[w.heap.size + 1]? = some (.cells (recL ⟨#[]⟩ 0) 41 (0, 0))) := Lib.hid (by
        rw [hW6]
        exact (Below.heap_setCell (wc.setCell ⟨g, 1, none⟩ (.int .i64 6)) ⟨g, 20, none⟩ _ _ (by show w.heap.size + 1 ≠ g; omega)).trans ((Below.heap_setCell _ ⟨g, 1, none⟩ _ _ (by show w.heap.size + 1 ≠ g; omega)).trans hz3))
      have SV6 : Hid ((Try.prog.info? 41).map (·.size) = some (srV S S2 T s.ad s.da 6).cells.size) := Lib.hid (sizeRv rfl)
      have ZV6 : Hid ((recL ⟨#[]⟩ 0).size = (srV S S2 T s.ad s.da 6).cells.size) := Lib.hid rfl
      have OV6 := Lib.hid (RV.one (srV S S2 T s.ad s.da 6))
      clear hr3 hz3
      generalize hRC : (srV S S2 T s.ad s.da 6).cells = RC at HR6 SV6 ZV6 OV6
      have HRC := Lib.hid hRC
      have HW6 := Lib.hid hW6
      clear hRC hW6
      go_wp2_with fail
      go_region
      rw [← HW6.out]
      clear d1' f1' d20 f20 dD hM hMs HW6
      go_wp2_with (first
        | (refine wpList_load_row rfl 41 (.tmp 3) rfl g rfl 41 RC (0, 0) _ HR6.out Try.underlying41 rfl SV6.out ?_; go_simp)
        | (refine wpList_store_blk rfl 41 (.tmp 2) (.tmp 77) rfl (w.heap.size + 1) (recL ⟨#[]⟩ 0) RC 41 HZ6.out rfl rfl SV6.out ZV6.out OV6.out ?_; intro w9 hg9 hw9 hz9; go_simp))
      exact bodyPost_ret (results_cell_row rfl _ w9 (w.heap.size + 1) 41 RC (0, 0) _ rfl hg9.out Try.underlying41 rfl SV6.out) rfl ⟨by rw [HRC.out], HB6.out.grown hw9.out HB6.out.size (fun k e => by injection e with e; omega)⟩
    · have dD := (cell_of_row wc w.heap.size 19 _ _ _ HS.out.s).trans c19
      have hr3 := HS.out.r
      have hz3 := HS.out.z
      have d1' := cell_of_row wc g 1 _ _ _ hr3
      have f1' := frozen_of_row wc g 1 _ _ hr3
      have d20 := cell_of_row wc g 20 _ _ _ hr3
      have f20 := frozen_of_row wc g 20 _ _ hr3
      unfold recL at d1' d20
      simp only [List.getElem?_toArray, List.getElem?_cons_succ, List.getElem?_cons_zero] at d1' d20
      obtain ⟨M, hM, hMs, hM2⟩ : ∃ M : Nat, min (s.da.size : Int) 255 = (M : Int) ∧ M ≤ s.da.size ∧ min s.da.size 255 = M := ⟨min s.da.size 255, by omega, by omega, rfl⟩
      have HMX := Lib.hid hM2
      clear hM2
      obtain ⟨W6, hW6⟩ : ∃ W6, W6 = ((wc.setCell ⟨g, 1, none⟩ (.int .i64 16)).setCell ⟨g, 20, none⟩ (.string (s.da.extract 0 M))).drew := ⟨_, rfl⟩
      have HR6 : Hid (W6.heap[g]? = some (.cells (srV S S2 T s.ad s.da 7).cells 41 (0, 0))) := Lib.hid (by
        rw [hW6]
        refine (show ((wc.setCell ⟨g, 1, none⟩ (.int .i64 16)).setCell ⟨g, 20, none⟩ (.string (s.da.extract 0 M))).heap[g]? = _ from heap_setCell_same (wc.setCell ⟨g, 1, none⟩ (.int .i64 16)) g 20 _ _ _ (heap_setCell_same wc g 1 _ _ _ hr3)).trans ?_
        unfold srV cut255
        rw [HMX.out]
        rfl)
      have HB6 : Hid (Below w.heap.size w W6) := Lib.hid (by
        rw [hW6]
        exact ((HS.out.below.setCell (p := ⟨g, 1, none⟩) (by show w.heap.size ≤ g; omega) _).setCell (p := ⟨g, 20, none⟩) (by show w.heap.size ≤ g; omega) _).drew)
      have HZ6 : Hid (W6.heap[w.heap.size + 1]? = some (.cells (recL ⟨#[]⟩ 0) 41 (0, 0))) := Lib.hid (by
        rw [hW6]
        exact (Below.heap_setCell (wc.setCell ⟨g, 1, none⟩ (.int .i64 16)) ⟨g, 20, none⟩ _ _ (by show w.heap.size + 1 ≠ g; omega)).trans ((Below.heap_setCell _ ⟨g, 1, none⟩ _ _ (by show w.heap.size + 1 ≠ g; omega)).trans hz3))
      have SV6 : Hid ((Try.prog.info? 41).map (·.size) = some (srV S S2 T s.ad s.da 7).cells.size) := Lib.hid (sizeRv rfl)
      have ZV6 : Hid ((recL ⟨#[]⟩ 0).size = (srV S S2 T s.ad s.da 7).cells.size) := Lib.hid rfl
      have OV6 := Lib.hid (RV.one (srV S S2 T s.ad s.da 7))
      clear hr3 hz3
      generalize hRC : (srV S S2 T s.ad s.da 7).cells = RC at HR6 SV6 ZV6 OV6
      have HRC := Lib.hid hRC
      have HW6 := Lib.hid hW6
      clear hRC hW6
      go_wp2_with fail
      go_region
      rw [← HW6.out]
      clear d1' f1' d20 f20 dD hM hMs HW6
      go_wp2_with (first
        | (refine wpList_load_row rfl 41 (.tmp 3) rfl g rfl 41 RC (0, 0) _ HR6.out Try.underlying41 rfl SV6.out ?_; go_simp)
        | (refine wpList_store_blk rfl 41 (.tmp 2) (.tmp 77) rfl (w.heap.size + 1) (recL ⟨#[]⟩ 0) RC 41 HZ6.out rfl rfl SV6.out ZV6.out OV6.out ?_; intro w9 hg9 hw9 hz9; go_simp))
      exact bodyPost_ret (results_cell_row rfl _ w9 (w.heap.size + 1) 41 RC (0, 0) _ rfl hg9.out Try.underlying41 rfl SV6.out) rfl ⟨by rw [HRC.out], HB6.out.grown hw9.out HB6.out.size (fun k e => by injection e with e; omega)⟩
end Go.Proofs.Ytgbijhinihchgaa
namespace Go.Proofs.Ytgbijhinihchgaa
open Go.RowKit
def rcs (rs : List RV) : List Value := rs.flatMap (·.cells.toList)
theorem rcs_snoc (rs : List RV) (r : RV) : rcs (rs ++ [r]) = rcs rs ++ r.cells.toList := by unfold rcs; rw [List.flatMap_append]; simp
end Go.Proofs.Ytgbijhinihchgaa
namespace Go.Proofs.Ytgbijhinihchgaa
open Go.RowKit
theorem rcs_at : ∀ {rs : List RV} {i : Nat} {r : RV} {j : Nat} {v : Value}, (∀ r ∈ rs, r.ad.length = 16) → rs[i]? = some r → r.cells.toList[j]? = some v → (rcs rs)[i * 21 + j]? = some v
  | [], i, r, j, v, _, h, _ => by simp at h
  | t :: rs, 0, r, j, v, hl, h, hj => by
    rw [List.getElem?_cons_zero, Option.some.injEq] at h
    subst h
    have hj' : j < t.cells.toList.length := (List.getElem?_eq_some_iff.1 hj).1
    unfold rcs
    rw [List.flatMap_cons, Nat.zero_mul, Nat.zero_add, List.getElem?_append_left hj']
    exact hj
  | t :: rs, i + 1, r, j, v, hl, h, hj => by
    have ih := rcs_at (rs := rs) (i := i) (r := r) (j := j) (v := v) (fun x hx => hl x (List.mem_cons_of_mem _ hx)) (by simpa using h) hj
    have h21 : t.cells.toList.length = 21 := by rw [Array.length_toList, RV.size (hl t List.mem_cons_self)]
    unfold rcs at ih ⊢
    rw [List.flatMap_cons, List.getElem?_append_right (by rw [h21]; omega), h21, show (i + 1) * 21 + j - 21 = i * 21 + j by omega]
    exact ih
/-- a part of a row of records that lies in block g2 -/
theorem recs_part {w : World} {g2 k : Nat} {rs : List RV} (hc : ∀ i u, (rcs rs)[i]? = some u → w.cell? ⟨g2, i, none⟩ = some u) (hl : g2 < w.heap.size) (had : ∀ r ∈ rs, r.ad.length = 16) (a : Nat) (xs : List RV) (hx : ∀ i r, xs[i]? = some r → rs[a + i]? = some r) (ha : k = a * 21) : RecsAt w (some ⟨g2, k, none⟩) xs := fun _ => by
  subst ha
  refine ⟨g2, a * 21, rfl, hl, fun i r hr j v hv => ?_⟩
  rw [Addr.add_lit]
  show w.cell? ⟨g2, a * 21 + i * 21 + j, none⟩ = some v
  rw [show a * 21 + i * 21 + j = (a + i) * 21 + j by omega]
  exact hc _ _ (rcs_at had (hx i r hr) hv)
end Go.Proofs.Ytgbijhinihchgaa
namespace Go.Proofs.Ytgbijhinihchgaa
open Go.RowKit
theorem RecsAt.move {w w' : World} {A : Option Addr} {rs : List RV} {base : Nat} (h : RecsAt w A rs) (hA : ∀ k o, A = some ⟨k, o, none⟩ → k ≠ base) (hk : ∀ k, k < w.heap.size → k ≠ base → w'.heap[k]? = w.heap[k]?) (hs : w.heap.size ≤ w'.heap.size) : RecsAt w' A rs := fun h0 => by
  obtain ⟨q, o, rfl, hlt, hc⟩ := h h0
  refine ⟨q, o, rfl, Nat.lt_of_lt_of_le hlt hs, fun k r hr j v hv => ?_⟩
  have h1 := hc k r hr j v hv
  rw [Addr.add_lit] at h1 ⊢
  exact (World.cell?_of_block (a := ⟨q, o + k * 21 + j, none⟩) (hk q hlt (hA q o rfl))).trans h1
theorem MV.one (m : MV) : m.cells.all (·.oneCell') = true := by simp [MV.cells, Value.oneCell']
end Go.Proofs.Ytgbijhinihchgaa
