/-
  The walk of Message at flags 1 and no seeds beside the question's. Condition: the seed has its form.
-/
import Derived.Test.YtogojnlfglbefaaDoorMsgSRec
import Derived.Test.YtogojnlfglbefaaDoorMsgDec0
import Derived.Test.YtogojnlfglbefaaDoorMsgCapMath
namespace Go.Proofs.YtogojnlfglbefaaDoor
open Go.RowKit

/-- a question's message as it stands in memory -/
def cpC (D : Nat) (S : ByteArray) (ty : Nat) : Array Value := #[.int .i64 (D : Nat), .bool true, .bool false, .bool false, .int .i64 0, .string S, .int .i64 (ty : Nat), .slice none 0 0, .slice none 0 0]
/-- what is made while the message is built: the codes, the message's block -/
structure MgAt (W0 x : World) (B A : Option Nat) : Prop where
  below : Below W0.heap.size W0 x
  b : ∀ g, B = some g → x.cell? ⟨g, 0, none⟩ = some (.int .i64 0) ∧ g < x.heap.size
  a : ∀ g, A = some g → x.heap[g]? = some (.cells zMsg 29 (0, 0)) ∧ W0.heap.size ≤ g
theorem MgAt.to {W0 x y : World} {B A : Option Nat} (h : MgAt W0 x B A) (hb : Below x.heap.size x y) : MgAt W0 y B A :=
  ⟨h.below.trans (hb.mono h.below.size), fun g e => ⟨(hb.cell (p := ⟨g, 0, none⟩) (h.b g e).2).trans (h.b g e).1, Nat.lt_of_lt_of_le (h.b g e).2 hb.size⟩, fun g e => ⟨(hb.block g (heap_lt (h.a g e).1)).trans (h.a g e).1, (h.a g e).2⟩⟩
theorem MgAt.withB {W0 x : World} {A : Option Nat} (h : MgAt W0 x none A) : MgAt W0 (x.alloc (.cells #[.int .i64 0, .int .i64 0, .int .i64 3, .int .i64 2] 3)) (some x.heap.size) A := by
  have h2 := h.to ((Below.refl _ x).alloc (Nat.le_refl _) (.cells #[.int .i64 0, .int .i64 0, .int .i64 3, .int .i64 2] 3))
  refine ⟨h2.below, fun g e => ?_, h2.a⟩
  injection e with e
  subst e
  exact ⟨by rw [World.cell?_alloc_mark]; rfl, by rw [World.size_alloc]; omega⟩
theorem MgAt.withA {W0 x : World} {B : Option Nat} (h : MgAt W0 x B none) : MgAt W0 (x.alloc (.cells zMsg 29)) B (some x.heap.size) := by
  have h2 := h.to ((Below.refl _ x).alloc (Nat.le_refl _) (.cells zMsg 29))
  refine ⟨h2.below, h2.b, fun g e => ?_⟩
  injection e with e
  subst e
  exact ⟨heap_alloc_last x _, h.below.size⟩
structure MgFin (w wx : World) (g : Nat) (C : Array Value) : Prop where
  z : wx.heap[w.heap.size + 1]? = some (.cells zMsg 29 (0, 0))
  m : wx.heap[g]? = some (.cells C 29 (0, 0))
  below : Below w.heap.size w wx
  hg : w.heap.size + 1 < g
theorem oneC (D : Nat) (S : ByteArray) (ty : Nat) : (cpC D S ty).all (·.oneCell') = true := by simp [cpC, Value.oneCell']
theorem srV_ad {S S2 da : ByteArray} {T : Nat} {ad : List UInt8} (h : ad.length = 16) (j : Nat) : (srV S S2 T ad da j).ad.length = 16 := by
  unfold srV
  split <;> simp [pre4, zero16, h]
set_option maxRecDepth 100000 in
theorem field_ty (r : RV) (h : r.ad.length = 16) (W : World) : (Instr.field 44 (.agg r.cells) 1).run Tryd.prog W = .ok (.int .i64 r.ty) W := by
  obtain ⟨nm, ty, ttl, ad, tx, da⟩ := r
  rcases ad with _ | ⟨a0, _ | ⟨a1, _ | ⟨a2, _ | ⟨a3, _ | ⟨a4, _ | ⟨a5, _ | ⟨a6, _ | ⟨a7, _ | ⟨a8, _ | ⟨a9, _ | ⟨a10, _ | ⟨a11, _ | ⟨a12, _ | ⟨a13, _ | ⟨a14, _ | ⟨a15, _ | ⟨b, l⟩⟩⟩⟩⟩⟩⟩⟩⟩⟩⟩⟩⟩⟩⟩⟩⟩ <;> first | (simp at h; done) | kernel_rfl
set_option maxRecDepth 100000 in
set_option maxHeartbeats 16000000 in
theorem message1_e (id0 : Int) (s : SV) (hf : s.Fits) (D i i2 T j ty : Nat) (hD : bits BinOp.and IntKind.i64 id0 65535 = (D : Int)) (hi : i ≤ 7) (hi2 : i2 ≤ 7) (hb2 : bits BinOp.and IntKind.i64 (s.n / 8) 7 = (i2 : Int)) (hj : j ≤ 7) (hk : bits BinOp.and IntKind.i64 s.k 7 = (j : Int)) (hb : bits BinOp.and IntKind.i64 s.n 7 = (i : Int)) (hT : bits BinOp.and IntKind.i64 s.t 65535 = (T : Int))
    (hty : (srV (bs (plN i)) (bs (plN i2)) T s.ad s.da j).ty = (ty : Int)) (w : World) :
    Calls Tryd.prog 13 #[.int .i64 id0, .int .i64 1, .agg s.cells, .slice none 0 0] w fun e w' => e = .returned (.agg (cpC D (bs (plN i)) ty)) ∧ Below w.heap.size w w' := by
  have HN := Lib.hid (fun W => name4_e s.n i hi hb W)
  have HRc := Lib.hid (fun W => srec_e s hf i i2 T j hi hi2 hb2 hj hk hb hT W)
  have hfd : ∀ W, (Instr.field 44 (.agg (srV (bs (plN i)) (bs (plN i2)) T s.ad s.da j).cells) 1).run Tryd.prog W = .ok (.int .i64 (ty : Nat)) W := fun W => by
    have h := field_ty (srV (bs (plN i)) (bs (plN i2)) T s.ad s.da j) (srV_ad hf.ad j) W
    rw [hty] at h
    exact h
  have hD' : bits BinOp.and IntKind.i64 id0 65535 = (D : Int) := hD
  have c0 := s.c0
  have SSl : Hid ((Tryd.prog.info? 34).map (·.size) = some s.cells.toList.length) := Lib.hid (by rw [Array.length_toList, SV.size hf.ad]; exact sizeSeed)
  have oneL := oneC D (bs (plN i)) ty
  generalize (srV (bs (plN i)) (bs (plN i2)) T s.ad s.da j).cells = RC at HRc hfd
  generalize s.cells = cs at HRc c0 SSl ⊢
  generalize bs (plN i) = S at HN oneL ⊢
  clear hb hb2 hk hT hty hf hD
  have ZM := Lib.hid zeroM
  go_enter Tryd.func13, Tryd.ntmps13
  go_upto_region 1 with fail
  go_cut [9] from 13 to 37 (fun t9 wx => ∃ g, t9 = .pointer (some ⟨g, 0, none⟩) ∧ Hid (MgFin w wx g (cpC D S ty)))
  case first =>
    have hB0 : Below w.heap.size w ((w.alloc (.cells cs 34)).alloc (.cells zMsg 29)) := ((Below.refl _ w).alloc (Nat.le_refl _) _).alloc (by simp) _
    have hM0 : ((w.alloc (.cells cs 34)).alloc (.cells zMsg 29)).heap[w.heap.size]? = some (.cells cs 34 (0, 0)) := (Below.heap_alloc _ _ _ (by simp)).trans (heap_alloc_last w _)
    have hZ0 : ((w.alloc (.cells cs 34)).alloc (.cells zMsg 29)).heap[w.heap.size + 1]? = some (.cells zMsg 29 (0, 0)) := by
      have h := heap_alloc_last (w.alloc (.cells cs 34)) (.cells zMsg 29)
      rwa [World.size_alloc] at h
    obtain ⟨W0, hW0⟩ : ∃ W0, W0 = (w.alloc (.cells cs 34)).alloc (.cells zMsg 29) := ⟨_, rfl⟩
    rw [← hW0] at hB0 hM0 hZ0
    unfold zMsg at hW0
    rw [← hW0]
    clear hW0
    have HX0 := Lib.hid (fun W (h : Below W0.heap.size W0 W) => (h.cell (p := ⟨w.heap.size, 0, none⟩) (heap_lt hM0)).trans ((cell_of_row W0 w.heap.size 0 _ _ _ hM0).trans c0))
    have HXR : Hid (∀ W, Below W0.heap.size W0 W → W.rangeAt w.heap.size 0 cs.toList) := Lib.hid (fun W h j v hv => by
      rw [cell_of_row W w.heap.size (0 + j) _ _ _ ((h.block _ (heap_lt hM0)).trans hM0), Nat.zero_add, ← Array.getElem?_toList]
      exact hv)
    refine wp_region_held_drew (S := (fun W : World => Below W0.heap.size W0 W)) (by kernel_rfl) (Below.refl _ W0).drew (fun hHeld => ?_)
    have HM0 : Hid (MgAt W0 W0.drew none none) := Lib.hid ⟨(Below.refl _ W0).drew, (fun g h => by cases h), (fun g h => by cases h)⟩
    generalize W0.drew = V0 at HM0 hHeld ⊢
    refine wpAnyH_take (i := 0) (oi := ({ dst := some 13, op := Go.Op.move (Go.Operand.tmp 0), type := 3, pos := "law.go:54", after := #[], guard := none } : Oper)) (v := .int .i64 id0) rfl (by kernel_rfl) (by kernel_rfl) (by kernel_rfl) (fun _ _ _ h => h) (Or.inl ⟨by rfl, fun w' hS' => ?_⟩) hHeld ?_
    · go_simp
    try simp only [Act.put, List.setIfInBounds_toArray, List.set_cons_zero, List.set_cons_succ]
    refine wpAnyH_take (i := 1) (oi := ({ dst := some 14, op := Go.Op.binOp Go.BinOp.and 3 (Go.Operand.tmp 13) (Go.Operand.const (Go.Value.int Go.IntKind.i64 65535)) 3, type := 3, pos := "law.go:54", after := #[{ on := 0, ground := Go.Ground.data }], guard := none } : Oper)) (v := .int .i64 (D : Nat)) rfl (by kernel_rfl) (by kernel_rfl) (by kernel_rfl) (fun _ _ _ h => h) (Or.inl ⟨by rfl, fun w' hS' => ?_⟩) hHeld ?_
    · go_simp
    try simp only [Act.put, List.setIfInBounds_toArray, List.set_cons_zero, List.set_cons_succ]
    refine wpAnyH_take (i := 2) (oi := ({ dst := some 15, op := Go.Op.move (Go.Operand.tmp 1), type := 3, pos := "law.go:54", after := #[], guard := none } : Oper)) (v := .int .i64 1) rfl (by kernel_rfl) (by kernel_rfl) (by kernel_rfl) (fun _ _ _ h => h) (Or.inl ⟨by rfl, fun w' hS' => ?_⟩) hHeld ?_
    · go_simp
    try simp only [Act.put, List.setIfInBounds_toArray, List.set_cons_zero, List.set_cons_succ]
    refine wpAnyH_take (i := 3) (oi := ({ dst := some 16, op := Go.Op.binOp Go.BinOp.and 3 (Go.Operand.tmp 15) (Go.Operand.const (Go.Value.int Go.IntKind.i64 1)) 3, type := 3, pos := "law.go:54", after := #[{ on := 2, ground := Go.Ground.data }], guard := none } : Oper)) (v := .int .i64 1) rfl (by kernel_rfl) (by kernel_rfl) (by kernel_rfl) (fun _ _ _ h => h) (Or.inl ⟨by rfl, fun w' hS' => ?_⟩) hHeld ?_
    · go_simp; decide +kernel
    try simp only [Act.put, List.setIfInBounds_toArray, List.set_cons_zero, List.set_cons_succ]
    refine wpAnyH_take (i := 4) (oi := ({ dst := some 17, op := Go.Op.binOp Go.BinOp.gtr 3 (Go.Operand.tmp 16) (Go.Operand.const (Go.Value.int Go.IntKind.i64 0)) 3, type := 4, pos := "law.go:54", after := #[{ on := 3, ground := Go.Ground.data }], guard := none } : Oper)) (v := .bool true) rfl (by kernel_rfl) (by kernel_rfl) (by kernel_rfl) (fun _ _ _ h => h) (Or.inl ⟨by rfl, fun w' hS' => ?_⟩) hHeld ?_
    · go_simp
    try simp only [Act.put, List.setIfInBounds_toArray, List.set_cons_zero, List.set_cons_succ]
    refine wpAnyH_take (i := 5) (oi := ({ dst := some 18, op := Go.Op.move (Go.Operand.tmp 1), type := 3, pos := "law.go:54", after := #[], guard := none } : Oper)) (v := .int .i64 1) rfl (by kernel_rfl) (by kernel_rfl) (by kernel_rfl) (fun _ _ _ h => h) (Or.inl ⟨by rfl, fun w' hS' => ?_⟩) hHeld ?_
    · go_simp
    try simp only [Act.put, List.setIfInBounds_toArray, List.set_cons_zero, List.set_cons_succ]
    refine wpAnyH_take (i := 6) (oi := ({ dst := some 19, op := Go.Op.binOp Go.BinOp.and 3 (Go.Operand.tmp 18) (Go.Operand.const (Go.Value.int Go.IntKind.i64 2)) 3, type := 3, pos := "law.go:54", after := #[{ on := 5, ground := Go.Ground.data }], guard := none } : Oper)) (v := .int .i64 0) rfl (by kernel_rfl) (by kernel_rfl) (by kernel_rfl) (fun _ _ _ h => h) (Or.inl ⟨by rfl, fun w' hS' => ?_⟩) hHeld ?_
    · go_simp; decide +kernel
    try simp only [Act.put, List.setIfInBounds_toArray, List.set_cons_zero, List.set_cons_succ]
    refine wpAnyH_take (i := 7) (oi := ({ dst := some 20, op := Go.Op.binOp Go.BinOp.gtr 3 (Go.Operand.tmp 19) (Go.Operand.const (Go.Value.int Go.IntKind.i64 0)) 3, type := 4, pos := "law.go:54", after := #[{ on := 6, ground := Go.Ground.data }], guard := none } : Oper)) (v := .bool false) rfl (by kernel_rfl) (by kernel_rfl) (by kernel_rfl) (fun _ _ _ h => h) (Or.inl ⟨by rfl, fun w' hS' => ?_⟩) hHeld ?_
    · go_simp
    try simp only [Act.put, List.setIfInBounds_toArray, List.set_cons_zero, List.set_cons_succ]
    refine wpAnyH_take (i := 8) (oi := ({ dst := some 21, op := Go.Op.move (Go.Operand.tmp 1), type := 3, pos := "law.go:54", after := #[], guard := none } : Oper)) (v := .int .i64 1) rfl (by kernel_rfl) (by kernel_rfl) (by kernel_rfl) (fun _ _ _ h => h) (Or.inl ⟨by rfl, fun w' hS' => ?_⟩) hHeld ?_
    · go_simp
    try simp only [Act.put, List.setIfInBounds_toArray, List.set_cons_zero, List.set_cons_succ]
    refine wpAnyH_take (i := 9) (oi := ({ dst := some 22, op := Go.Op.binOp Go.BinOp.and 3 (Go.Operand.tmp 21) (Go.Operand.const (Go.Value.int Go.IntKind.i64 4)) 3, type := 3, pos := "law.go:54", after := #[{ on := 8, ground := Go.Ground.data }], guard := none } : Oper)) (v := .int .i64 0) rfl (by kernel_rfl) (by kernel_rfl) (by kernel_rfl) (fun _ _ _ h => h) (Or.inl ⟨by rfl, fun w' hS' => ?_⟩) hHeld ?_
    · go_simp; decide +kernel
    try simp only [Act.put, List.setIfInBounds_toArray, List.set_cons_zero, List.set_cons_succ]
    refine wpAnyH_take (i := 10) (oi := ({ dst := some 23, op := Go.Op.binOp Go.BinOp.gtr 3 (Go.Operand.tmp 22) (Go.Operand.const (Go.Value.int Go.IntKind.i64 0)) 3, type := 4, pos := "law.go:54", after := #[{ on := 9, ground := Go.Ground.data }], guard := none } : Oper)) (v := .bool false) rfl (by kernel_rfl) (by kernel_rfl) (by kernel_rfl) (fun _ _ _ h => h) (Or.inl ⟨by rfl, fun w' hS' => ?_⟩) hHeld ?_
    · go_simp
    try simp only [Act.put, List.setIfInBounds_toArray, List.set_cons_zero, List.set_cons_succ]
    refine wpAnyH_take (i := 12) (oi := ({ dst := some 25, op := Go.Op.move (Go.Operand.tmp 1), type := 3, pos := "law.go:54", after := #[], guard := none } : Oper)) (v := .int .i64 1) rfl (by kernel_rfl) (by kernel_rfl) (by kernel_rfl) (fun _ _ _ h => h) (Or.inl ⟨by rfl, fun w' hS' => ?_⟩) hHeld ?_
    · go_simp
    try simp only [Act.put, List.setIfInBounds_toArray, List.set_cons_zero, List.set_cons_succ]
    refine wpAnyH_take (i := 13) (oi := ({ dst := some 26, op := Go.Op.binOp Go.BinOp.shr 3 (Go.Operand.tmp 25) (Go.Operand.const (Go.Value.int Go.IntKind.u64 3)) 61, type := 3, pos := "law.go:54", after := #[{ on := 12, ground := Go.Ground.data }], guard := none } : Oper)) (v := .int .i64 0) rfl (by kernel_rfl) (by kernel_rfl) (by kernel_rfl) (fun _ _ _ h => h) (Or.inl ⟨by rfl, fun w' hS' => ?_⟩) hHeld ?_
    · go_simp
    try simp only [Act.put, List.setIfInBounds_toArray, List.set_cons_zero, List.set_cons_succ]
    refine wpAnyH_take (i := 14) (oi := ({ dst := some 27, op := Go.Op.binOp Go.BinOp.and 3 (Go.Operand.tmp 26) (Go.Operand.const (Go.Value.int Go.IntKind.i64 3)) 3, type := 3, pos := "law.go:54", after := #[{ on := 13, ground := Go.Ground.data }], guard := none } : Oper)) (v := .int .i64 0) rfl (by kernel_rfl) (by kernel_rfl) (by kernel_rfl) (fun _ _ _ h => h) (Or.inl ⟨by rfl, fun w' hS' => ?_⟩) hHeld ?_
    · go_simp; decide +kernel
    try simp only [Act.put, List.setIfInBounds_toArray, List.set_cons_zero, List.set_cons_succ]
    refine wpAnyH_take (i := 17) (oi := ({ dst := some 30, op := Go.Op.fieldAddr 34 (Go.Operand.tmp 6) 0, type := 0, pos := "law.go:54", after := #[], guard := none } : Oper)) (v := .pointer (some ⟨w.heap.size, 0, none⟩)) rfl (by kernel_rfl) (by kernel_rfl) (by kernel_rfl) (fun _ _ _ h => h) (Or.inl ⟨by rfl, fun w' hS' => ?_⟩) hHeld ?_
    · go_simp
    try simp only [Act.put, List.setIfInBounds_toArray, List.set_cons_zero, List.set_cons_succ]
    refine wpAnyH_take (i := 18) (oi := ({ dst := some 31, op := Go.Op.load 3 (Go.Operand.tmp 30), type := 3, pos := "law.go:54", after := #[{ on := 17, ground := Go.Ground.data }], guard := none } : Oper)) (v := .int .i64 s.n) rfl (by kernel_rfl) (by kernel_rfl) (by kernel_rfl) (fun _ _ _ h => h) (Or.inl ⟨by rfl, fun w' hS' => ?_⟩) hHeld ?_
    · have d := HX0.out w' hS'; go_simp
    try simp only [Act.put, List.setIfInBounds_toArray, List.set_cons_zero, List.set_cons_succ]
    refine wpAnyH_take (i := 20) (oi := ({ dst := some 33, op := Go.Op.load 34 (Go.Operand.tmp 6), type := 34, pos := "law.go:54", after := #[], guard := none } : Oper)) (v := .agg cs.toList.toArray) rfl (by kernel_rfl) (by kernel_rfl) (by kernel_rfl) (fun _ _ _ h => h) (yieldsIf_load_mid (by rfl) _ _ rfl _ _ rfl _ _ (fun W h => HXR.out W h) Tryd.underlying34 rfl SSl.out) hHeld ?_
    try simp only [Act.put, List.setIfInBounds_toArray, List.set_cons_zero, List.set_cons_succ]
    refine wpAnyH_ready (rs := [11, 19, 25]) (by kernel_rfl) (by simp) ?_
    refine (AllReadyH.cons (o := ({ dst := some 24, op := Go.Op.buildSlice 60 4 #[(0, Go.Operand.const (Go.Value.int Go.IntKind.i64 0)), (1, Go.Operand.const (Go.Value.int Go.IntKind.i64 0)), (2, Go.Operand.const (Go.Value.int Go.IntKind.i64 3)), (3, Go.Operand.const (Go.Value.int Go.IntKind.i64 2))], type := 60, pos := "law.go:54", after := #[], guard := none } : Oper)) rfl (fun K hK => ?_) (AllReadyH.cons (o := ({ dst := some 32, op := Go.Op.call { callee := Go.Callee.value (Go.Operand.func 23), args := #[Go.Operand.tmp 31], argTypes := #[3] }, type := 9, pos := "law.go:54", after := #[{ on := 18, ground := Go.Ground.data }], guard := none } : Oper)) rfl (fun K hK => ?_) (AllReadyH.cons (o := ({ dst := some 9, op := Go.Op.alloc 29, type := 0, pos := "law.go:54", after := #[], guard := none } : Oper)) rfl (fun K hK => ?_) AllReadyH.nil)))
    · go_simp
      refine hK.out _ _ (HM0.out.below.alloc HM0.out.below.size _) (fun hHeld => ?_)
      clear hK K
      try simp only [Act.put, List.setIfInBounds_toArray, List.set_cons_zero, List.set_cons_succ]
      have HM2 := Lib.hid (HM0.out.withB)
      generalize V0.alloc (.cells #[.int .i64 0, .int .i64 0, .int .i64 3, .int .i64 2] 3) = u1 at HM2 hHeld ⊢
      refine wpAnyH_take (i := 15) (oi := ({ dst := some 28, op := Go.Op.indexAddr 60 (Go.Operand.tmp 24) (Go.Operand.tmp 27), type := 0, pos := "law.go:54", after := #[{ on := 11, ground := Go.Ground.data }, { on := 14, ground := Go.Ground.data }], guard := none } : Oper)) (v := .pointer (some ⟨V0.heap.size, 0, none⟩)) rfl (by kernel_rfl) (by kernel_rfl) (by kernel_rfl) (fun _ _ _ h => h) (Or.inl ⟨by rfl, fun w' hS' => ?_⟩) hHeld ?_
      · go_simp
      try simp only [Act.put, List.setIfInBounds_toArray, List.set_cons_zero, List.set_cons_succ]
      refine wpAnyH_ready (rs := [16, 19, 25]) (by kernel_rfl) (by simp) ?_
      refine (AllReadyH.cons (o := ({ dst := some 29, op := Go.Op.load 3 (Go.Operand.tmp 28), type := 3, pos := "law.go:54", after := #[{ on := 15, ground := Go.Ground.data }], guard := none } : Oper)) rfl (fun K hK => ?_) (AllReadyH.cons (o := ({ dst := some 32, op := Go.Op.call { callee := Go.Callee.value (Go.Operand.func 23), args := #[Go.Operand.tmp 31], argTypes := #[3] }, type := 9, pos := "law.go:54", after := #[{ on := 18, ground := Go.Ground.data }], guard := none } : Oper)) rfl (fun K hK => ?_) (AllReadyH.cons (o := ({ dst := some 9, op := Go.Op.alloc 29, type := 0, pos := "law.go:54", after := #[], guard := none } : Oper)) rfl (fun K hK => ?_) AllReadyH.nil)))
      · have d := (HM2.out.b _ rfl).1
        go_simp
        refine hK.out _ _ HM2.out.below (fun hHeld => ?_)
        clear hK K d
        try simp only [Act.put, List.setIfInBounds_toArray, List.set_cons_zero, List.set_cons_succ]
        refine wpAnyH_ready (rs := [19, 25]) (by kernel_rfl) (by simp) ?_
        refine (AllReadyH.cons (o := ({ dst := some 32, op := Go.Op.call { callee := Go.Callee.value (Go.Operand.func 23), args := #[Go.Operand.tmp 31], argTypes := #[3] }, type := 9, pos := "law.go:54", after := #[{ on := 18, ground := Go.Ground.data }], guard := none } : Oper)) rfl (fun K hK => ?_) (AllReadyH.cons (o := ({ dst := some 9, op := Go.Op.alloc 29, type := 0, pos := "law.go:54", after := #[], guard := none } : Oper)) rfl (fun K hK => ?_) AllReadyH.nil))
        · go_simp
          go_at_call 23
          refine (HN.out _).mono ?_
          rintro e' u3 ⟨rfl, hbb⟩
          have HM4 := Lib.hid (HM2.out.to hbb)
          refine hK.out _ _ HM4.out.below (fun hHeld => ?_)
          clear hK K hbb
          try simp only [Act.put, List.setIfInBounds_toArray, List.set_cons_zero, List.set_cons_succ]
          refine wpAnyH_ready (rs := [21, 25]) (by kernel_rfl) (by simp) ?_
          refine (AllReadyH.cons (o := ({ dst := some 34, op := Go.Op.call { callee := Go.Callee.value (Go.Operand.func 25), args := #[Go.Operand.tmp 33], argTypes := #[34] }, type := 44, pos := "law.go:54", after := #[{ on := 20, ground := Go.Ground.data }, { on := 19, ground := Go.Ground.chain }], guard := none } : Oper)) rfl (fun K hK => ?_) (AllReadyH.cons (o := ({ dst := some 9, op := Go.Op.alloc 29, type := 0, pos := "law.go:54", after := #[], guard := none } : Oper)) rfl (fun K hK => ?_) AllReadyH.nil))
          · go_simp
            go_at_call 25
            refine (HRc.out _).mono ?_
            rintro e' u5 ⟨rfl, hbb⟩
            have HM6 := Lib.hid (HM4.out.to hbb)
            refine hK.out _ _ HM6.out.below (fun hHeld => ?_)
            clear hK K hbb
            try simp only [Act.put, List.setIfInBounds_toArray, List.set_cons_zero, List.set_cons_succ]
            refine wpAnyH_take (i := 22) (oi := ({ dst := some 35, op := Go.Op.field 44 (Go.Operand.tmp 34) 1, type := 3, pos := "law.go:54", after := #[{ on := 21, ground := Go.Ground.data }], guard := none } : Oper)) (v := .int .i64 (ty : Nat)) rfl (by kernel_rfl) (by kernel_rfl) (by kernel_rfl) (fun _ _ _ h => h) (Or.inl ⟨by rfl, fun w' hS' => ?_⟩) hHeld ?_
            · go_simp
            try simp only [Act.put, List.setIfInBounds_toArray, List.set_cons_zero, List.set_cons_succ]
            refine wpAnyH_take (i := 23) (oi := ({ dst := some 36, op := Go.Op.build 26 #[(0, Go.Operand.tmp 32), (1, Go.Operand.tmp 35)], type := 26, pos := "law.go:54", after := #[{ on := 19, ground := Go.Ground.data }, { on := 22, ground := Go.Ground.data }], guard := none } : Oper)) (v := .agg #[.string S, .int .i64 (ty : Nat)]) rfl (by kernel_rfl) (by kernel_rfl) (by kernel_rfl) (fun _ _ _ h => h) (Or.inl ⟨by rfl, fun w' hS' => ?_⟩) hHeld ?_
            · go_simp
            try simp only [Act.put, List.setIfInBounds_toArray, List.set_cons_zero, List.set_cons_succ]
            refine wpAnyH_take (i := 24) (oi := ({ dst := some 37, op := Go.Op.build 29 #[(0, Go.Operand.tmp 14), (1, Go.Operand.tmp 17), (2, Go.Operand.tmp 20), (3, Go.Operand.tmp 23), (4, Go.Operand.tmp 29), (5, Go.Operand.tmp 36)], type := 29, pos := "law.go:54", after := #[{ on := 1, ground := Go.Ground.data }, { on := 4, ground := Go.Ground.data }, { on := 7, ground := Go.Ground.data }, { on := 10, ground := Go.Ground.data }, { on := 16, ground := Go.Ground.data }, { on := 23, ground := Go.Ground.data }], guard := none } : Oper)) (v := .agg (cpC D S ty)) rfl (by kernel_rfl) (by kernel_rfl) (by kernel_rfl) (fun _ _ _ h => h) (Or.inl ⟨by rfl, fun w' hS' => ?_⟩) hHeld ?_
            · go_simp; rfl
            try simp only [Act.put, List.setIfInBounds_toArray, List.set_cons_zero, List.set_cons_succ]
            refine wpAnyH_ready (rs := [25]) (by kernel_rfl) (by simp) ?_
            refine (AllReadyH.cons (o := ({ dst := some 9, op := Go.Op.alloc 29, type := 0, pos := "law.go:54", after := #[], guard := none } : Oper)) rfl (fun K hK => ?_) AllReadyH.nil)
            go_simp
            refine hK.out _ _ (HM6.out.below.alloc HM6.out.below.size _) (fun hHeld => ?_)
            clear hK K
            try simp only [Act.put, List.setIfInBounds_toArray, List.set_cons_zero, List.set_cons_succ]
            have HM8 := Lib.hid (HM6.out.withA)
            unfold zMsg at HM8
            generalize u5.alloc (.cells #[.int .i64 0, .bool false, .bool false, .bool false, .int .i64 0, .string ⟨#[]⟩, .int .i64 0, .slice none 0 0, .slice none 0 0] 29) = u7 at HM8 hHeld ⊢
            refine wpAnyH_ready (rs := [26]) (by kernel_rfl) (by simp) ?_
            refine (AllReadyH.cons (o := ({ dst := none, op := Go.Op.store 29 (Go.Operand.tmp 9) (Go.Operand.tmp 37), type := 0, pos := "law.go:54", after := #[{ on := 25, ground := Go.Ground.data }, { on := 24, ground := Go.Ground.data }, { on := 21, ground := Go.Ground.chain }, { on := 0, ground := Go.Ground.phase }, { on := 1, ground := Go.Ground.phase }, { on := 2, ground := Go.Ground.phase }, { on := 3, ground := Go.Ground.phase }, { on := 4, ground := Go.Ground.phase }, { on := 5, ground := Go.Ground.phase }, { on := 6, ground := Go.Ground.phase }, { on := 7, ground := Go.Ground.phase }, { on := 8, ground := Go.Ground.phase }, { on := 9, ground := Go.Ground.phase }, { on := 10, ground := Go.Ground.phase }, { on := 11, ground := Go.Ground.phase }, { on := 12, ground := Go.Ground.phase }, { on := 13, ground := Go.Ground.phase }, { on := 14, ground := Go.Ground.phase }, { on := 15, ground := Go.Ground.phase }, { on := 16, ground := Go.Ground.phase }, { on := 17, ground := Go.Ground.phase }, { on := 18, ground := Go.Ground.phase }, { on := 19, ground := Go.Ground.phase }, { on := 20, ground := Go.Ground.phase }, { on := 21, ground := Go.Ground.phase }, { on := 22, ground := Go.Ground.phase }, { on := 23, ground := Go.Ground.phase }, { on := 24, ground := Go.Ground.phase }, { on := 25, ground := Go.Ground.phase }], guard := none } : Oper)) rfl (fun K hK => ?_) AllReadyH.nil)
            refine step_store_sr rfl 29 (.tmp 9) (.tmp 37) rfl (u5.heap.size) zMsg (cpC D S ty) 29 (HM8.out.a _ rfl).1 rfl rfl sizeM rfl oneL (fun w4 hg4 hw4 hs4 => ?_)
            have hB4 : Below W0.heap.size W0 w4 := HM8.out.below.grown hw4.out HM8.out.below.size (fun k e => by injection e with e; have := (HM8.out.a _ rfl).2; omega)
            refine hK.out _ _ hB4 (fun hHeld => ?_)
            clear hK K
            refine wpAnyH_done (by kernel_rfl) ?_ _
            try (go_wp2_with fail)
            go_meet
            case rel => exact ⟨_, rfl, Lib.hid ⟨(hB4.block _ (heap_lt hZ0)).trans hZ0, hg4.out, hB0.trans (hB4.mono hB0.size), by have := heap_lt hZ0; have := (HM8.out.a _ rfl).2; omega⟩⟩
          · go_simp
            refine hK.out _ _ (HM4.out.below.alloc HM4.out.below.size _) (fun hHeld => ?_)
            clear hK K
            try simp only [Act.put, List.setIfInBounds_toArray, List.set_cons_zero, List.set_cons_succ]
            have HM10 := Lib.hid (HM4.out.withA)
            unfold zMsg at HM10
            generalize u3.alloc (.cells #[.int .i64 0, .bool false, .bool false, .bool false, .int .i64 0, .string ⟨#[]⟩, .int .i64 0, .slice none 0 0, .slice none 0 0] 29) = u9 at HM10 hHeld ⊢
            refine wpAnyH_ready (rs := [21]) (by kernel_rfl) (by simp) ?_
            refine (AllReadyH.cons (o := ({ dst := some 34, op := Go.Op.call { callee := Go.Callee.value (Go.Operand.func 25), args := #[Go.Operand.tmp 33], argTypes := #[34] }, type := 44, pos := "law.go:54", after := #[{ on := 20, ground := Go.Ground.data }, { on := 19, ground := Go.Ground.chain }], guard := none } : Oper)) rfl (fun K hK => ?_) AllReadyH.nil)
            go_simp
            go_at_call 25
            refine (HRc.out _).mono ?_
            rintro e' u11 ⟨rfl, hbb⟩
            have HM12 := Lib.hid (HM10.out.to hbb)
            refine hK.out _ _ HM12.out.below (fun hHeld => ?_)
            clear hK K hbb
            try simp only [Act.put, List.setIfInBounds_toArray, List.set_cons_zero, List.set_cons_succ]
            refine wpAnyH_take (i := 22) (oi := ({ dst := some 35, op := Go.Op.field 44 (Go.Operand.tmp 34) 1, type := 3, pos := "law.go:54", after := #[{ on := 21, ground := Go.Ground.data }], guard := none } : Oper)) (v := .int .i64 (ty : Nat)) rfl (by kernel_rfl) (by kernel_rfl) (by kernel_rfl) (fun _ _ _ h => h) (Or.inl ⟨by rfl, fun w' hS' => ?_⟩) hHeld ?_
            · go_simp
            try simp only [Act.put, List.setIfInBounds_toArray, List.set_cons_zero, List.set_cons_succ]
            refine wpAnyH_take (i := 23) (oi := ({ dst := some 36, op := Go.Op.build 26 #[(0, Go.Operand.tmp 32), (1, Go.Operand.tmp 35)], type := 26, pos := "law.go:54", after := #[{ on := 19, ground := Go.Ground.data }, { on := 22, ground := Go.Ground.data }], guard := none } : Oper)) (v := .agg #[.string S, .int .i64 (ty : Nat)]) rfl (by kernel_rfl) (by kernel_rfl) (by kernel_rfl) (fun _ _ _ h => h) (Or.inl ⟨by rfl, fun w' hS' => ?_⟩) hHeld ?_
            · go_simp
            try simp only [Act.put, List.setIfInBounds_toArray, List.set_cons_zero, List.set_cons_succ]
            refine wpAnyH_take (i := 24) (oi := ({ dst := some 37, op := Go.Op.build 29 #[(0, Go.Operand.tmp 14), (1, Go.Operand.tmp 17), (2, Go.Operand.tmp 20), (3, Go.Operand.tmp 23), (4, Go.Operand.tmp 29), (5, Go.Operand.tmp 36)], type := 29, pos := "law.go:54", after := #[{ on := 1, ground := Go.Ground.data }, { on := 4, ground := Go.Ground.data }, { on := 7, ground := Go.Ground.data }, { on := 10, ground := Go.Ground.data }, { on := 16, ground := Go.Ground.data }, { on := 23, ground := Go.Ground.data }], guard := none } : Oper)) (v := .agg (cpC D S ty)) rfl (by kernel_rfl) (by kernel_rfl) (by kernel_rfl) (fun _ _ _ h => h) (Or.inl ⟨by rfl, fun w' hS' => ?_⟩) hHeld ?_
            · go_simp; rfl
            try simp only [Act.put, List.setIfInBounds_toArray, List.set_cons_zero, List.set_cons_succ]
            refine wpAnyH_ready (rs := [26]) (by kernel_rfl) (by simp) ?_
            refine (AllReadyH.cons (o := ({ dst := none, op := Go.Op.store 29 (Go.Operand.tmp 9) (Go.Operand.tmp 37), type := 0, pos := "law.go:54", after := #[{ on := 25, ground := Go.Ground.data }, { on := 24, ground := Go.Ground.data }, { on := 21, ground := Go.Ground.chain }, { on := 0, ground := Go.Ground.phase }, { on := 1, ground := Go.Ground.phase }, { on := 2, ground := Go.Ground.phase }, { on := 3, ground := Go.Ground.phase }, { on := 4, ground := Go.Ground.phase }, { on := 5, ground := Go.Ground.phase }, { on := 6, ground := Go.Ground.phase }, { on := 7, ground := Go.Ground.phase }, { on := 8, ground := Go.Ground.phase }, { on := 9, ground := Go.Ground.phase }, { on := 10, ground := Go.Ground.phase }, { on := 11, ground := Go.Ground.phase }, { on := 12, ground := Go.Ground.phase }, { on := 13, ground := Go.Ground.phase }, { on := 14, ground := Go.Ground.phase }, { on := 15, ground := Go.Ground.phase }, { on := 16, ground := Go.Ground.phase }, { on := 17, ground := Go.Ground.phase }, { on := 18, ground := Go.Ground.phase }, { on := 19, ground := Go.Ground.phase }, { on := 20, ground := Go.Ground.phase }, { on := 21, ground := Go.Ground.phase }, { on := 22, ground := Go.Ground.phase }, { on := 23, ground := Go.Ground.phase }, { on := 24, ground := Go.Ground.phase }, { on := 25, ground := Go.Ground.phase }], guard := none } : Oper)) rfl (fun K hK => ?_) AllReadyH.nil)
            refine step_store_sr rfl 29 (.tmp 9) (.tmp 37) rfl (u3.heap.size) zMsg (cpC D S ty) 29 (HM12.out.a _ rfl).1 rfl rfl sizeM rfl oneL (fun w4 hg4 hw4 hs4 => ?_)
            have hB4 : Below W0.heap.size W0 w4 := HM12.out.below.grown hw4.out HM12.out.below.size (fun k e => by injection e with e; have := (HM12.out.a _ rfl).2; omega)
            refine hK.out _ _ hB4 (fun hHeld => ?_)
            clear hK K
            refine wpAnyH_done (by kernel_rfl) ?_ _
            try (go_wp2_with fail)
            go_meet
            case rel => exact ⟨_, rfl, Lib.hid ⟨(hB4.block _ (heap_lt hZ0)).trans hZ0, hg4.out, hB0.trans (hB4.mono hB0.size), by have := heap_lt hZ0; have := (HM12.out.a _ rfl).2; omega⟩⟩
        · go_simp
          refine hK.out _ _ (HM2.out.below.alloc HM2.out.below.size _) (fun hHeld => ?_)
          clear hK K
          try simp only [Act.put, List.setIfInBounds_toArray, List.set_cons_zero, List.set_cons_succ]
          have HM14 := Lib.hid (HM2.out.withA)
          unfold zMsg at HM14
          generalize u1.alloc (.cells #[.int .i64 0, .bool false, .bool false, .bool false, .int .i64 0, .string ⟨#[]⟩, .int .i64 0, .slice none 0 0, .slice none 0 0] 29) = u13 at HM14 hHeld ⊢
          refine wpAnyH_ready (rs := [19]) (by kernel_rfl) (by simp) ?_
          refine (AllReadyH.cons (o := ({ dst := some 32, op := Go.Op.call { callee := Go.Callee.value (Go.Operand.func 23), args := #[Go.Operand.tmp 31], argTypes := #[3] }, type := 9, pos := "law.go:54", after := #[{ on := 18, ground := Go.Ground.data }], guard := none } : Oper)) rfl (fun K hK => ?_) AllReadyH.nil)
          go_simp
          go_at_call 23
          refine (HN.out _).mono ?_
          rintro e' u15 ⟨rfl, hbb⟩
          have HM16 := Lib.hid (HM14.out.to hbb)
          refine hK.out _ _ HM16.out.below (fun hHeld => ?_)
          clear hK K hbb
          try simp only [Act.put, List.setIfInBounds_toArray, List.set_cons_zero, List.set_cons_succ]
          refine wpAnyH_ready (rs := [21]) (by kernel_rfl) (by simp) ?_
          refine (AllReadyH.cons (o := ({ dst := some 34, op := Go.Op.call { callee := Go.Callee.value (Go.Operand.func 25), args := #[Go.Operand.tmp 33], argTypes := #[34] }, type := 44, pos := "law.go:54", after := #[{ on := 20, ground := Go.Ground.data }, { on := 19, ground := Go.Ground.chain }], guard := none } : Oper)) rfl (fun K hK => ?_) AllReadyH.nil)
          go_simp
          go_at_call 25
          refine (HRc.out _).mono ?_
          rintro e' u17 ⟨rfl, hbb⟩
          have HM18 := Lib.hid (HM16.out.to hbb)
          refine hK.out _ _ HM18.out.below (fun hHeld => ?_)
          clear hK K hbb
          try simp only [Act.put, List.setIfInBounds_toArray, List.set_cons_zero, List.set_cons_succ]
          refine wpAnyH_take (i := 22) (oi := ({ dst := some 35, op := Go.Op.field 44 (Go.Operand.tmp 34) 1, type := 3, pos := "law.go:54", after := #[{ on := 21, ground := Go.Ground.data }], guard := none } : Oper)) (v := .int .i64 (ty : Nat)) rfl (by kernel_rfl) (by kernel_rfl) (by kernel_rfl) (fun _ _ _ h => h) (Or.inl ⟨by rfl, fun w' hS' => ?_⟩) hHeld ?_
          · go_simp
          try simp only [Act.put, List.setIfInBounds_toArray, List.set_cons_zero, List.set_cons_succ]
          refine wpAnyH_take (i := 23) (oi := ({ dst := some 36, op := Go.Op.build 26 #[(0, Go.Operand.tmp 32), (1, Go.Operand.tmp 35)], type := 26, pos := "law.go:54", after := #[{ on := 19, ground := Go.Ground.data }, { on := 22, ground := Go.Ground.data }], guard := none } : Oper)) (v := .agg #[.string S, .int .i64 (ty : Nat)]) rfl (by kernel_rfl) (by kernel_rfl) (by kernel_rfl) (fun _ _ _ h => h) (Or.inl ⟨by rfl, fun w' hS' => ?_⟩) hHeld ?_
          · go_simp
          try simp only [Act.put, List.setIfInBounds_toArray, List.set_cons_zero, List.set_cons_succ]
          refine wpAnyH_take (i := 24) (oi := ({ dst := some 37, op := Go.Op.build 29 #[(0, Go.Operand.tmp 14), (1, Go.Operand.tmp 17), (2, Go.Operand.tmp 20), (3, Go.Operand.tmp 23), (4, Go.Operand.tmp 29), (5, Go.Operand.tmp 36)], type := 29, pos := "law.go:54", after := #[{ on := 1, ground := Go.Ground.data }, { on := 4, ground := Go.Ground.data }, { on := 7, ground := Go.Ground.data }, { on := 10, ground := Go.Ground.data }, { on := 16, ground := Go.Ground.data }, { on := 23, ground := Go.Ground.data }], guard := none } : Oper)) (v := .agg (cpC D S ty)) rfl (by kernel_rfl) (by kernel_rfl) (by kernel_rfl) (fun _ _ _ h => h) (Or.inl ⟨by rfl, fun w' hS' => ?_⟩) hHeld ?_
          · go_simp; rfl
          try simp only [Act.put, List.setIfInBounds_toArray, List.set_cons_zero, List.set_cons_succ]
          refine wpAnyH_ready (rs := [26]) (by kernel_rfl) (by simp) ?_
          refine (AllReadyH.cons (o := ({ dst := none, op := Go.Op.store 29 (Go.Operand.tmp 9) (Go.Operand.tmp 37), type := 0, pos := "law.go:54", after := #[{ on := 25, ground := Go.Ground.data }, { on := 24, ground := Go.Ground.data }, { on := 21, ground := Go.Ground.chain }, { on := 0, ground := Go.Ground.phase }, { on := 1, ground := Go.Ground.phase }, { on := 2, ground := Go.Ground.phase }, { on := 3, ground := Go.Ground.phase }, { on := 4, ground := Go.Ground.phase }, { on := 5, ground := Go.Ground.phase }, { on := 6, ground := Go.Ground.phase }, { on := 7, ground := Go.Ground.phase }, { on := 8, ground := Go.Ground.phase }, { on := 9, ground := Go.Ground.phase }, { on := 10, ground := Go.Ground.phase }, { on := 11, ground := Go.Ground.phase }, { on := 12, ground := Go.Ground.phase }, { on := 13, ground := Go.Ground.phase }, { on := 14, ground := Go.Ground.phase }, { on := 15, ground := Go.Ground.phase }, { on := 16, ground := Go.Ground.phase }, { on := 17, ground := Go.Ground.phase }, { on := 18, ground := Go.Ground.phase }, { on := 19, ground := Go.Ground.phase }, { on := 20, ground := Go.Ground.phase }, { on := 21, ground := Go.Ground.phase }, { on := 22, ground := Go.Ground.phase }, { on := 23, ground := Go.Ground.phase }, { on := 24, ground := Go.Ground.phase }, { on := 25, ground := Go.Ground.phase }], guard := none } : Oper)) rfl (fun K hK => ?_) AllReadyH.nil)
          refine step_store_sr rfl 29 (.tmp 9) (.tmp 37) rfl (u1.heap.size) zMsg (cpC D S ty) 29 (HM18.out.a _ rfl).1 rfl rfl sizeM rfl oneL (fun w4 hg4 hw4 hs4 => ?_)
          have hB4 : Below W0.heap.size W0 w4 := HM18.out.below.grown hw4.out HM18.out.below.size (fun k e => by injection e with e; have := (HM18.out.a _ rfl).2; omega)
          refine hK.out _ _ hB4 (fun hHeld => ?_)
          clear hK K
          refine wpAnyH_done (by kernel_rfl) ?_ _
          try (go_wp2_with fail)
          go_meet
          case rel => exact ⟨_, rfl, Lib.hid ⟨(hB4.block _ (heap_lt hZ0)).trans hZ0, hg4.out, hB0.trans (hB4.mono hB0.size), by have := heap_lt hZ0; have := (HM18.out.a _ rfl).2; omega⟩⟩
      · go_simp
        go_at_call 23
        refine (HN.out _).mono ?_
        rintro e' u19 ⟨rfl, hbb⟩
        have HM20 := Lib.hid (HM2.out.to hbb)
        refine hK.out _ _ HM20.out.below (fun hHeld => ?_)
        clear hK K hbb
        try simp only [Act.put, List.setIfInBounds_toArray, List.set_cons_zero, List.set_cons_succ]
        refine wpAnyH_ready (rs := [16, 21, 25]) (by kernel_rfl) (by simp) ?_
        refine (AllReadyH.cons (o := ({ dst := some 29, op := Go.Op.load 3 (Go.Operand.tmp 28), type := 3, pos := "law.go:54", after := #[{ on := 15, ground := Go.Ground.data }], guard := none } : Oper)) rfl (fun K hK => ?_) (AllReadyH.cons (o := ({ dst := some 34, op := Go.Op.call { callee := Go.Callee.value (Go.Operand.func 25), args := #[Go.Operand.tmp 33], argTypes := #[34] }, type := 44, pos := "law.go:54", after := #[{ on := 20, ground := Go.Ground.data }, { on := 19, ground := Go.Ground.chain }], guard := none } : Oper)) rfl (fun K hK => ?_) (AllReadyH.cons (o := ({ dst := some 9, op := Go.Op.alloc 29, type := 0, pos := "law.go:54", after := #[], guard := none } : Oper)) rfl (fun K hK => ?_) AllReadyH.nil)))
        · have d := (HM20.out.b _ rfl).1
          go_simp
          refine hK.out _ _ HM20.out.below (fun hHeld => ?_)
          clear hK K d
          try simp only [Act.put, List.setIfInBounds_toArray, List.set_cons_zero, List.set_cons_succ]
          refine wpAnyH_ready (rs := [21, 25]) (by kernel_rfl) (by simp) ?_
          refine (AllReadyH.cons (o := ({ dst := some 34, op := Go.Op.call { callee := Go.Callee.value (Go.Operand.func 25), args := #[Go.Operand.tmp 33], argTypes := #[34] }, type := 44, pos := "law.go:54", after := #[{ on := 20, ground := Go.Ground.data }, { on := 19, ground := Go.Ground.chain }], guard := none } : Oper)) rfl (fun K hK => ?_) (AllReadyH.cons (o := ({ dst := some 9, op := Go.Op.alloc 29, type := 0, pos := "law.go:54", after := #[], guard := none } : Oper)) rfl (fun K hK => ?_) AllReadyH.nil))
          · go_simp
            go_at_call 25
            refine (HRc.out _).mono ?_
            rintro e' u21 ⟨rfl, hbb⟩
            have HM22 := Lib.hid (HM20.out.to hbb)
            refine hK.out _ _ HM22.out.below (fun hHeld => ?_)
            clear hK K hbb
            try simp only [Act.put, List.setIfInBounds_toArray, List.set_cons_zero, List.set_cons_succ]
            refine wpAnyH_take (i := 22) (oi := ({ dst := some 35, op := Go.Op.field 44 (Go.Operand.tmp 34) 1, type := 3, pos := "law.go:54", after := #[{ on := 21, ground := Go.Ground.data }], guard := none } : Oper)) (v := .int .i64 (ty : Nat)) rfl (by kernel_rfl) (by kernel_rfl) (by kernel_rfl) (fun _ _ _ h => h) (Or.inl ⟨by rfl, fun w' hS' => ?_⟩) hHeld ?_
            · go_simp
            try simp only [Act.put, List.setIfInBounds_toArray, List.set_cons_zero, List.set_cons_succ]
            refine wpAnyH_take (i := 23) (oi := ({ dst := some 36, op := Go.Op.build 26 #[(0, Go.Operand.tmp 32), (1, Go.Operand.tmp 35)], type := 26, pos := "law.go:54", after := #[{ on := 19, ground := Go.Ground.data }, { on := 22, ground := Go.Ground.data }], guard := none } : Oper)) (v := .agg #[.string S, .int .i64 (ty : Nat)]) rfl (by kernel_rfl) (by kernel_rfl) (by kernel_rfl) (fun _ _ _ h => h) (Or.inl ⟨by rfl, fun w' hS' => ?_⟩) hHeld ?_
            · go_simp
            try simp only [Act.put, List.setIfInBounds_toArray, List.set_cons_zero, List.set_cons_succ]
            refine wpAnyH_take (i := 24) (oi := ({ dst := some 37, op := Go.Op.build 29 #[(0, Go.Operand.tmp 14), (1, Go.Operand.tmp 17), (2, Go.Operand.tmp 20), (3, Go.Operand.tmp 23), (4, Go.Operand.tmp 29), (5, Go.Operand.tmp 36)], type := 29, pos := "law.go:54", after := #[{ on := 1, ground := Go.Ground.data }, { on := 4, ground := Go.Ground.data }, { on := 7, ground := Go.Ground.data }, { on := 10, ground := Go.Ground.data }, { on := 16, ground := Go.Ground.data }, { on := 23, ground := Go.Ground.data }], guard := none } : Oper)) (v := .agg (cpC D S ty)) rfl (by kernel_rfl) (by kernel_rfl) (by kernel_rfl) (fun _ _ _ h => h) (Or.inl ⟨by rfl, fun w' hS' => ?_⟩) hHeld ?_
            · go_simp; rfl
            try simp only [Act.put, List.setIfInBounds_toArray, List.set_cons_zero, List.set_cons_succ]
            refine wpAnyH_ready (rs := [25]) (by kernel_rfl) (by simp) ?_
            refine (AllReadyH.cons (o := ({ dst := some 9, op := Go.Op.alloc 29, type := 0, pos := "law.go:54", after := #[], guard := none } : Oper)) rfl (fun K hK => ?_) AllReadyH.nil)
            go_simp
            refine hK.out _ _ (HM22.out.below.alloc HM22.out.below.size _) (fun hHeld => ?_)
            clear hK K
            try simp only [Act.put, List.setIfInBounds_toArray, List.set_cons_zero, List.set_cons_succ]
            have HM24 := Lib.hid (HM22.out.withA)
            unfold zMsg at HM24
            generalize u21.alloc (.cells #[.int .i64 0, .bool false, .bool false, .bool false, .int .i64 0, .string ⟨#[]⟩, .int .i64 0, .slice none 0 0, .slice none 0 0] 29) = u23 at HM24 hHeld ⊢
            refine wpAnyH_ready (rs := [26]) (by kernel_rfl) (by simp) ?_
            refine (AllReadyH.cons (o := ({ dst := none, op := Go.Op.store 29 (Go.Operand.tmp 9) (Go.Operand.tmp 37), type := 0, pos := "law.go:54", after := #[{ on := 25, ground := Go.Ground.data }, { on := 24, ground := Go.Ground.data }, { on := 21, ground := Go.Ground.chain }, { on := 0, ground := Go.Ground.phase }, { on := 1, ground := Go.Ground.phase }, { on := 2, ground := Go.Ground.phase }, { on := 3, ground := Go.Ground.phase }, { on := 4, ground := Go.Ground.phase }, { on := 5, ground := Go.Ground.phase }, { on := 6, ground := Go.Ground.phase }, { on := 7, ground := Go.Ground.phase }, { on := 8, ground := Go.Ground.phase }, { on := 9, ground := Go.Ground.phase }, { on := 10, ground := Go.Ground.phase }, { on := 11, ground := Go.Ground.phase }, { on := 12, ground := Go.Ground.phase }, { on := 13, ground := Go.Ground.phase }, { on := 14, ground := Go.Ground.phase }, { on := 15, ground := Go.Ground.phase }, { on := 16, ground := Go.Ground.phase }, { on := 17, ground := Go.Ground.phase }, { on := 18, ground := Go.Ground.phase }, { on := 19, ground := Go.Ground.phase }, { on := 20, ground := Go.Ground.phase }, { on := 21, ground := Go.Ground.phase }, { on := 22, ground := Go.Ground.phase }, { on := 23, ground := Go.Ground.phase }, { on := 24, ground := Go.Ground.phase }, { on := 25, ground := Go.Ground.phase }], guard := none } : Oper)) rfl (fun K hK => ?_) AllReadyH.nil)
            refine step_store_sr rfl 29 (.tmp 9) (.tmp 37) rfl (u21.heap.size) zMsg (cpC D S ty) 29 (HM24.out.a _ rfl).1 rfl rfl sizeM rfl oneL (fun w4 hg4 hw4 hs4 => ?_)
            have hB4 : Below W0.heap.size W0 w4 := HM24.out.below.grown hw4.out HM24.out.below.size (fun k e => by injection e with e; have := (HM24.out.a _ rfl).2; omega)
            refine hK.out _ _ hB4 (fun hHeld => ?_)
            clear hK K
            refine wpAnyH_done (by kernel_rfl) ?_ _
            try (go_wp2_with fail)
            go_meet
            case rel => exact ⟨_, rfl, Lib.hid ⟨(hB4.block _ (heap_lt hZ0)).trans hZ0, hg4.out, hB0.trans (hB4.mono hB0.size), by have := heap_lt hZ0; have := (HM24.out.a _ rfl).2; omega⟩⟩
          · go_simp
            refine hK.out _ _ (HM20.out.below.alloc HM20.out.below.size _) (fun hHeld => ?_)
            clear hK K
            try simp only [Act.put, List.setIfInBounds_toArray, List.set_cons_zero, List.set_cons_succ]
            have HM26 := Lib.hid (HM20.out.withA)
            unfold zMsg at HM26
            generalize u19.alloc (.cells #[.int .i64 0, .bool false, .bool false, .bool false, .int .i64 0, .string ⟨#[]⟩, .int .i64 0, .slice none 0 0, .slice none 0 0] 29) = u25 at HM26 hHeld ⊢
            refine wpAnyH_ready (rs := [21]) (by kernel_rfl) (by simp) ?_
            refine (AllReadyH.cons (o := ({ dst := some 34, op := Go.Op.call { callee := Go.Callee.value (Go.Operand.func 25), args := #[Go.Operand.tmp 33], argTypes := #[34] }, type := 44, pos := "law.go:54", after := #[{ on := 20, ground := Go.Ground.data }, { on := 19, ground := Go.Ground.chain }], guard := none } : Oper)) rfl (fun K hK => ?_) AllReadyH.nil)
            go_simp
            go_at_call 25
            refine (HRc.out _).mono ?_
            rintro e' u27 ⟨rfl, hbb⟩
            have HM28 := Lib.hid (HM26.out.to hbb)
            refine hK.out _ _ HM28.out.below (fun hHeld => ?_)
            clear hK K hbb
            try simp only [Act.put, List.setIfInBounds_toArray, List.set_cons_zero, List.set_cons_succ]
            refine wpAnyH_take (i := 22) (oi := ({ dst := some 35, op := Go.Op.field 44 (Go.Operand.tmp 34) 1, type := 3, pos := "law.go:54", after := #[{ on := 21, ground := Go.Ground.data }], guard := none } : Oper)) (v := .int .i64 (ty : Nat)) rfl (by kernel_rfl) (by kernel_rfl) (by kernel_rfl) (fun _ _ _ h => h) (Or.inl ⟨by rfl, fun w' hS' => ?_⟩) hHeld ?_
            · go_simp
            try simp only [Act.put, List.setIfInBounds_toArray, List.set_cons_zero, List.set_cons_succ]
            refine wpAnyH_take (i := 23) (oi := ({ dst := some 36, op := Go.Op.build 26 #[(0, Go.Operand.tmp 32), (1, Go.Operand.tmp 35)], type := 26, pos := "law.go:54", after := #[{ on := 19, ground := Go.Ground.data }, { on := 22, ground := Go.Ground.data }], guard := none } : Oper)) (v := .agg #[.string S, .int .i64 (ty : Nat)]) rfl (by kernel_rfl) (by kernel_rfl) (by kernel_rfl) (fun _ _ _ h => h) (Or.inl ⟨by rfl, fun w' hS' => ?_⟩) hHeld ?_
            · go_simp
            try simp only [Act.put, List.setIfInBounds_toArray, List.set_cons_zero, List.set_cons_succ]
            refine wpAnyH_take (i := 24) (oi := ({ dst := some 37, op := Go.Op.build 29 #[(0, Go.Operand.tmp 14), (1, Go.Operand.tmp 17), (2, Go.Operand.tmp 20), (3, Go.Operand.tmp 23), (4, Go.Operand.tmp 29), (5, Go.Operand.tmp 36)], type := 29, pos := "law.go:54", after := #[{ on := 1, ground := Go.Ground.data }, { on := 4, ground := Go.Ground.data }, { on := 7, ground := Go.Ground.data }, { on := 10, ground := Go.Ground.data }, { on := 16, ground := Go.Ground.data }, { on := 23, ground := Go.Ground.data }], guard := none } : Oper)) (v := .agg (cpC D S ty)) rfl (by kernel_rfl) (by kernel_rfl) (by kernel_rfl) (fun _ _ _ h => h) (Or.inl ⟨by rfl, fun w' hS' => ?_⟩) hHeld ?_
            · go_simp; rfl
            try simp only [Act.put, List.setIfInBounds_toArray, List.set_cons_zero, List.set_cons_succ]
            refine wpAnyH_ready (rs := [26]) (by kernel_rfl) (by simp) ?_
            refine (AllReadyH.cons (o := ({ dst := none, op := Go.Op.store 29 (Go.Operand.tmp 9) (Go.Operand.tmp 37), type := 0, pos := "law.go:54", after := #[{ on := 25, ground := Go.Ground.data }, { on := 24, ground := Go.Ground.data }, { on := 21, ground := Go.Ground.chain }, { on := 0, ground := Go.Ground.phase }, { on := 1, ground := Go.Ground.phase }, { on := 2, ground := Go.Ground.phase }, { on := 3, ground := Go.Ground.phase }, { on := 4, ground := Go.Ground.phase }, { on := 5, ground := Go.Ground.phase }, { on := 6, ground := Go.Ground.phase }, { on := 7, ground := Go.Ground.phase }, { on := 8, ground := Go.Ground.phase }, { on := 9, ground := Go.Ground.phase }, { on := 10, ground := Go.Ground.phase }, { on := 11, ground := Go.Ground.phase }, { on := 12, ground := Go.Ground.phase }, { on := 13, ground := Go.Ground.phase }, { on := 14, ground := Go.Ground.phase }, { on := 15, ground := Go.Ground.phase }, { on := 16, ground := Go.Ground.phase }, { on := 17, ground := Go.Ground.phase }, { on := 18, ground := Go.Ground.phase }, { on := 19, ground := Go.Ground.phase }, { on := 20, ground := Go.Ground.phase }, { on := 21, ground := Go.Ground.phase }, { on := 22, ground := Go.Ground.phase }, { on := 23, ground := Go.Ground.phase }, { on := 24, ground := Go.Ground.phase }, { on := 25, ground := Go.Ground.phase }], guard := none } : Oper)) rfl (fun K hK => ?_) AllReadyH.nil)
            refine step_store_sr rfl 29 (.tmp 9) (.tmp 37) rfl (u19.heap.size) zMsg (cpC D S ty) 29 (HM28.out.a _ rfl).1 rfl rfl sizeM rfl oneL (fun w4 hg4 hw4 hs4 => ?_)
            have hB4 : Below W0.heap.size W0 w4 := HM28.out.below.grown hw4.out HM28.out.below.size (fun k e => by injection e with e; have := (HM28.out.a _ rfl).2; omega)
            refine hK.out _ _ hB4 (fun hHeld => ?_)
            clear hK K
            refine wpAnyH_done (by kernel_rfl) ?_ _
            try (go_wp2_with fail)
            go_meet
            case rel => exact ⟨_, rfl, Lib.hid ⟨(hB4.block _ (heap_lt hZ0)).trans hZ0, hg4.out, hB0.trans (hB4.mono hB0.size), by have := heap_lt hZ0; have := (HM28.out.a _ rfl).2; omega⟩⟩
        · go_simp
          go_at_call 25
          refine (HRc.out _).mono ?_
          rintro e' u29 ⟨rfl, hbb⟩
          have HM30 := Lib.hid (HM20.out.to hbb)
          refine hK.out _ _ HM30.out.below (fun hHeld => ?_)
          clear hK K hbb
          try simp only [Act.put, List.setIfInBounds_toArray, List.set_cons_zero, List.set_cons_succ]
          refine wpAnyH_take (i := 22) (oi := ({ dst := some 35, op := Go.Op.field 44 (Go.Operand.tmp 34) 1, type := 3, pos := "law.go:54", after := #[{ on := 21, ground := Go.Ground.data }], guard := none } : Oper)) (v := .int .i64 (ty : Nat)) rfl (by kernel_rfl) (by kernel_rfl) (by kernel_rfl) (fun _ _ _ h => h) (Or.inl ⟨by rfl, fun w' hS' => ?_⟩) hHeld ?_
          · go_simp
          try simp only [Act.put, List.setIfInBounds_toArray, List.set_cons_zero, List.set_cons_succ]
          refine wpAnyH_take (i := 23) (oi := ({ dst := some 36, op := Go.Op.build 26 #[(0, Go.Operand.tmp 32), (1, Go.Operand.tmp 35)], type := 26, pos := "law.go:54", after := #[{ on := 19, ground := Go.Ground.data }, { on := 22, ground := Go.Ground.data }], guard := none } : Oper)) (v := .agg #[.string S, .int .i64 (ty : Nat)]) rfl (by kernel_rfl) (by kernel_rfl) (by kernel_rfl) (fun _ _ _ h => h) (Or.inl ⟨by rfl, fun w' hS' => ?_⟩) hHeld ?_
          · go_simp
          try simp only [Act.put, List.setIfInBounds_toArray, List.set_cons_zero, List.set_cons_succ]
          refine wpAnyH_ready (rs := [16, 25]) (by kernel_rfl) (by simp) ?_
          refine (AllReadyH.cons (o := ({ dst := some 29, op := Go.Op.load 3 (Go.Operand.tmp 28), type := 3, pos := "law.go:54", after := #[{ on := 15, ground := Go.Ground.data }], guard := none } : Oper)) rfl (fun K hK => ?_) (AllReadyH.cons (o := ({ dst := some 9, op := Go.Op.alloc 29, type := 0, pos := "law.go:54", after := #[], guard := none } : Oper)) rfl (fun K hK => ?_) AllReadyH.nil))
          · have d := (HM30.out.b _ rfl).1
            go_simp
            refine hK.out _ _ HM30.out.below (fun hHeld => ?_)
            clear hK K d
            try simp only [Act.put, List.setIfInBounds_toArray, List.set_cons_zero, List.set_cons_succ]
            refine wpAnyH_take (i := 24) (oi := ({ dst := some 37, op := Go.Op.build 29 #[(0, Go.Operand.tmp 14), (1, Go.Operand.tmp 17), (2, Go.Operand.tmp 20), (3, Go.Operand.tmp 23), (4, Go.Operand.tmp 29), (5, Go.Operand.tmp 36)], type := 29, pos := "law.go:54", after := #[{ on := 1, ground := Go.Ground.data }, { on := 4, ground := Go.Ground.data }, { on := 7, ground := Go.Ground.data }, { on := 10, ground := Go.Ground.data }, { on := 16, ground := Go.Ground.data }, { on := 23, ground := Go.Ground.data }], guard := none } : Oper)) (v := .agg (cpC D S ty)) rfl (by kernel_rfl) (by kernel_rfl) (by kernel_rfl) (fun _ _ _ h => h) (Or.inl ⟨by rfl, fun w' hS' => ?_⟩) hHeld ?_
            · go_simp; rfl
            try simp only [Act.put, List.setIfInBounds_toArray, List.set_cons_zero, List.set_cons_succ]
            refine wpAnyH_ready (rs := [25]) (by kernel_rfl) (by simp) ?_
            refine (AllReadyH.cons (o := ({ dst := some 9, op := Go.Op.alloc 29, type := 0, pos := "law.go:54", after := #[], guard := none } : Oper)) rfl (fun K hK => ?_) AllReadyH.nil)
            go_simp
            refine hK.out _ _ (HM30.out.below.alloc HM30.out.below.size _) (fun hHeld => ?_)
            clear hK K
            try simp only [Act.put, List.setIfInBounds_toArray, List.set_cons_zero, List.set_cons_succ]
            have HM32 := Lib.hid (HM30.out.withA)
            unfold zMsg at HM32
            generalize u29.alloc (.cells #[.int .i64 0, .bool false, .bool false, .bool false, .int .i64 0, .string ⟨#[]⟩, .int .i64 0, .slice none 0 0, .slice none 0 0] 29) = u31 at HM32 hHeld ⊢
            refine wpAnyH_ready (rs := [26]) (by kernel_rfl) (by simp) ?_
            refine (AllReadyH.cons (o := ({ dst := none, op := Go.Op.store 29 (Go.Operand.tmp 9) (Go.Operand.tmp 37), type := 0, pos := "law.go:54", after := #[{ on := 25, ground := Go.Ground.data }, { on := 24, ground := Go.Ground.data }, { on := 21, ground := Go.Ground.chain }, { on := 0, ground := Go.Ground.phase }, { on := 1, ground := Go.Ground.phase }, { on := 2, ground := Go.Ground.phase }, { on := 3, ground := Go.Ground.phase }, { on := 4, ground := Go.Ground.phase }, { on := 5, ground := Go.Ground.phase }, { on := 6, ground := Go.Ground.phase }, { on := 7, ground := Go.Ground.phase }, { on := 8, ground := Go.Ground.phase }, { on := 9, ground := Go.Ground.phase }, { on := 10, ground := Go.Ground.phase }, { on := 11, ground := Go.Ground.phase }, { on := 12, ground := Go.Ground.phase }, { on := 13, ground := Go.Ground.phase }, { on := 14, ground := Go.Ground.phase }, { on := 15, ground := Go.Ground.phase }, { on := 16, ground := Go.Ground.phase }, { on := 17, ground := Go.Ground.phase }, { on := 18, ground := Go.Ground.phase }, { on := 19, ground := Go.Ground.phase }, { on := 20, ground := Go.Ground.phase }, { on := 21, ground := Go.Ground.phase }, { on := 22, ground := Go.Ground.phase }, { on := 23, ground := Go.Ground.phase }, { on := 24, ground := Go.Ground.phase }, { on := 25, ground := Go.Ground.phase }], guard := none } : Oper)) rfl (fun K hK => ?_) AllReadyH.nil)
            refine step_store_sr rfl 29 (.tmp 9) (.tmp 37) rfl (u29.heap.size) zMsg (cpC D S ty) 29 (HM32.out.a _ rfl).1 rfl rfl sizeM rfl oneL (fun w4 hg4 hw4 hs4 => ?_)
            have hB4 : Below W0.heap.size W0 w4 := HM32.out.below.grown hw4.out HM32.out.below.size (fun k e => by injection e with e; have := (HM32.out.a _ rfl).2; omega)
            refine hK.out _ _ hB4 (fun hHeld => ?_)
            clear hK K
            refine wpAnyH_done (by kernel_rfl) ?_ _
            try (go_wp2_with fail)
            go_meet
            case rel => exact ⟨_, rfl, Lib.hid ⟨(hB4.block _ (heap_lt hZ0)).trans hZ0, hg4.out, hB0.trans (hB4.mono hB0.size), by have := heap_lt hZ0; have := (HM32.out.a _ rfl).2; omega⟩⟩
          · go_simp
            refine hK.out _ _ (HM30.out.below.alloc HM30.out.below.size _) (fun hHeld => ?_)
            clear hK K
            try simp only [Act.put, List.setIfInBounds_toArray, List.set_cons_zero, List.set_cons_succ]
            have HM34 := Lib.hid (HM30.out.withA)
            unfold zMsg at HM34
            generalize u29.alloc (.cells #[.int .i64 0, .bool false, .bool false, .bool false, .int .i64 0, .string ⟨#[]⟩, .int .i64 0, .slice none 0 0, .slice none 0 0] 29) = u33 at HM34 hHeld ⊢
            refine wpAnyH_ready (rs := [16]) (by kernel_rfl) (by simp) ?_
            refine (AllReadyH.cons (o := ({ dst := some 29, op := Go.Op.load 3 (Go.Operand.tmp 28), type := 3, pos := "law.go:54", after := #[{ on := 15, ground := Go.Ground.data }], guard := none } : Oper)) rfl (fun K hK => ?_) AllReadyH.nil)
            have d := (HM34.out.b _ rfl).1
            go_simp
            refine hK.out _ _ HM34.out.below (fun hHeld => ?_)
            clear hK K d
            try simp only [Act.put, List.setIfInBounds_toArray, List.set_cons_zero, List.set_cons_succ]
            refine wpAnyH_take (i := 24) (oi := ({ dst := some 37, op := Go.Op.build 29 #[(0, Go.Operand.tmp 14), (1, Go.Operand.tmp 17), (2, Go.Operand.tmp 20), (3, Go.Operand.tmp 23), (4, Go.Operand.tmp 29), (5, Go.Operand.tmp 36)], type := 29, pos := "law.go:54", after := #[{ on := 1, ground := Go.Ground.data }, { on := 4, ground := Go.Ground.data }, { on := 7, ground := Go.Ground.data }, { on := 10, ground := Go.Ground.data }, { on := 16, ground := Go.Ground.data }, { on := 23, ground := Go.Ground.data }], guard := none } : Oper)) (v := .agg (cpC D S ty)) rfl (by kernel_rfl) (by kernel_rfl) (by kernel_rfl) (fun _ _ _ h => h) (Or.inl ⟨by rfl, fun w' hS' => ?_⟩) hHeld ?_
            · go_simp; rfl
            try simp only [Act.put, List.setIfInBounds_toArray, List.set_cons_zero, List.set_cons_succ]
            refine wpAnyH_ready (rs := [26]) (by kernel_rfl) (by simp) ?_
            refine (AllReadyH.cons (o := ({ dst := none, op := Go.Op.store 29 (Go.Operand.tmp 9) (Go.Operand.tmp 37), type := 0, pos := "law.go:54", after := #[{ on := 25, ground := Go.Ground.data }, { on := 24, ground := Go.Ground.data }, { on := 21, ground := Go.Ground.chain }, { on := 0, ground := Go.Ground.phase }, { on := 1, ground := Go.Ground.phase }, { on := 2, ground := Go.Ground.phase }, { on := 3, ground := Go.Ground.phase }, { on := 4, ground := Go.Ground.phase }, { on := 5, ground := Go.Ground.phase }, { on := 6, ground := Go.Ground.phase }, { on := 7, ground := Go.Ground.phase }, { on := 8, ground := Go.Ground.phase }, { on := 9, ground := Go.Ground.phase }, { on := 10, ground := Go.Ground.phase }, { on := 11, ground := Go.Ground.phase }, { on := 12, ground := Go.Ground.phase }, { on := 13, ground := Go.Ground.phase }, { on := 14, ground := Go.Ground.phase }, { on := 15, ground := Go.Ground.phase }, { on := 16, ground := Go.Ground.phase }, { on := 17, ground := Go.Ground.phase }, { on := 18, ground := Go.Ground.phase }, { on := 19, ground := Go.Ground.phase }, { on := 20, ground := Go.Ground.phase }, { on := 21, ground := Go.Ground.phase }, { on := 22, ground := Go.Ground.phase }, { on := 23, ground := Go.Ground.phase }, { on := 24, ground := Go.Ground.phase }, { on := 25, ground := Go.Ground.phase }], guard := none } : Oper)) rfl (fun K hK => ?_) AllReadyH.nil)
            refine step_store_sr rfl 29 (.tmp 9) (.tmp 37) rfl (u29.heap.size) zMsg (cpC D S ty) 29 (HM34.out.a _ rfl).1 rfl rfl sizeM rfl oneL (fun w4 hg4 hw4 hs4 => ?_)
            have hB4 : Below W0.heap.size W0 w4 := HM34.out.below.grown hw4.out HM34.out.below.size (fun k e => by injection e with e; have := (HM34.out.a _ rfl).2; omega)
            refine hK.out _ _ hB4 (fun hHeld => ?_)
            clear hK K
            refine wpAnyH_done (by kernel_rfl) ?_ _
            try (go_wp2_with fail)
            go_meet
            case rel => exact ⟨_, rfl, Lib.hid ⟨(hB4.block _ (heap_lt hZ0)).trans hZ0, hg4.out, hB0.trans (hB4.mono hB0.size), by have := heap_lt hZ0; have := (HM34.out.a _ rfl).2; omega⟩⟩
        · go_simp
          refine hK.out _ _ (HM20.out.below.alloc HM20.out.below.size _) (fun hHeld => ?_)
          clear hK K
          try simp only [Act.put, List.setIfInBounds_toArray, List.set_cons_zero, List.set_cons_succ]
          have HM36 := Lib.hid (HM20.out.withA)
          unfold zMsg at HM36
          generalize u19.alloc (.cells #[.int .i64 0, .bool false, .bool false, .bool false, .int .i64 0, .string ⟨#[]⟩, .int .i64 0, .slice none 0 0, .slice none 0 0] 29) = u35 at HM36 hHeld ⊢
          refine wpAnyH_ready (rs := [16, 21]) (by kernel_rfl) (by simp) ?_
          refine (AllReadyH.cons (o := ({ dst := some 29, op := Go.Op.load 3 (Go.Operand.tmp 28), type := 3, pos := "law.go:54", after := #[{ on := 15, ground := Go.Ground.data }], guard := none } : Oper)) rfl (fun K hK => ?_) (AllReadyH.cons (o := ({ dst := some 34, op := Go.Op.call { callee := Go.Callee.value (Go.Operand.func 25), args := #[Go.Operand.tmp 33], argTypes := #[34] }, type := 44, pos := "law.go:54", after := #[{ on := 20, ground := Go.Ground.data }, { on := 19, ground := Go.Ground.chain }], guard := none } : Oper)) rfl (fun K hK => ?_) AllReadyH.nil))
          · have d := (HM36.out.b _ rfl).1
            go_simp
            refine hK.out _ _ HM36.out.below (fun hHeld => ?_)
            clear hK K d
            try simp only [Act.put, List.setIfInBounds_toArray, List.set_cons_zero, List.set_cons_succ]
            refine wpAnyH_ready (rs := [21]) (by kernel_rfl) (by simp) ?_
            refine (AllReadyH.cons (o := ({ dst := some 34, op := Go.Op.call { callee := Go.Callee.value (Go.Operand.func 25), args := #[Go.Operand.tmp 33], argTypes := #[34] }, type := 44, pos := "law.go:54", after := #[{ on := 20, ground := Go.Ground.data }, { on := 19, ground := Go.Ground.chain }], guard := none } : Oper)) rfl (fun K hK => ?_) AllReadyH.nil)
            go_simp
            go_at_call 25
            refine (HRc.out _).mono ?_
            rintro e' u37 ⟨rfl, hbb⟩
            have HM38 := Lib.hid (HM36.out.to hbb)
            refine hK.out _ _ HM38.out.below (fun hHeld => ?_)
            clear hK K hbb
            try simp only [Act.put, List.setIfInBounds_toArray, List.set_cons_zero, List.set_cons_succ]
            refine wpAnyH_take (i := 22) (oi := ({ dst := some 35, op := Go.Op.field 44 (Go.Operand.tmp 34) 1, type := 3, pos := "law.go:54", after := #[{ on := 21, ground := Go.Ground.data }], guard := none } : Oper)) (v := .int .i64 (ty : Nat)) rfl (by kernel_rfl) (by kernel_rfl) (by kernel_rfl) (fun _ _ _ h => h) (Or.inl ⟨by rfl, fun w' hS' => ?_⟩) hHeld ?_
            · go_simp
            try simp only [Act.put, List.setIfInBounds_toArray, List.set_cons_zero, List.set_cons_succ]
            refine wpAnyH_take (i := 23) (oi := ({ dst := some 36, op := Go.Op.build 26 #[(0, Go.Operand.tmp 32), (1, Go.Operand.tmp 35)], type := 26, pos := "law.go:54", after := #[{ on := 19, ground := Go.Ground.data }, { on := 22, ground := Go.Ground.data }], guard := none } : Oper)) (v := .agg #[.string S, .int .i64 (ty : Nat)]) rfl (by kernel_rfl) (by kernel_rfl) (by kernel_rfl) (fun _ _ _ h => h) (Or.inl ⟨by rfl, fun w' hS' => ?_⟩) hHeld ?_
            · go_simp
            try simp only [Act.put, List.setIfInBounds_toArray, List.set_cons_zero, List.set_cons_succ]
            refine wpAnyH_take (i := 24) (oi := ({ dst := some 37, op := Go.Op.build 29 #[(0, Go.Operand.tmp 14), (1, Go.Operand.tmp 17), (2, Go.Operand.tmp 20), (3, Go.Operand.tmp 23), (4, Go.Operand.tmp 29), (5, Go.Operand.tmp 36)], type := 29, pos := "law.go:54", after := #[{ on := 1, ground := Go.Ground.data }, { on := 4, ground := Go.Ground.data }, { on := 7, ground := Go.Ground.data }, { on := 10, ground := Go.Ground.data }, { on := 16, ground := Go.Ground.data }, { on := 23, ground := Go.Ground.data }], guard := none } : Oper)) (v := .agg (cpC D S ty)) rfl (by kernel_rfl) (by kernel_rfl) (by kernel_rfl) (fun _ _ _ h => h) (Or.inl ⟨by rfl, fun w' hS' => ?_⟩) hHeld ?_
            · go_simp; rfl
            try simp only [Act.put, List.setIfInBounds_toArray, List.set_cons_zero, List.set_cons_succ]
            refine wpAnyH_ready (rs := [26]) (by kernel_rfl) (by simp) ?_
            refine (AllReadyH.cons (o := ({ dst := none, op := Go.Op.store 29 (Go.Operand.tmp 9) (Go.Operand.tmp 37), type := 0, pos := "law.go:54", after := #[{ on := 25, ground := Go.Ground.data }, { on := 24, ground := Go.Ground.data }, { on := 21, ground := Go.Ground.chain }, { on := 0, ground := Go.Ground.phase }, { on := 1, ground := Go.Ground.phase }, { on := 2, ground := Go.Ground.phase }, { on := 3, ground := Go.Ground.phase }, { on := 4, ground := Go.Ground.phase }, { on := 5, ground := Go.Ground.phase }, { on := 6, ground := Go.Ground.phase }, { on := 7, ground := Go.Ground.phase }, { on := 8, ground := Go.Ground.phase }, { on := 9, ground := Go.Ground.phase }, { on := 10, ground := Go.Ground.phase }, { on := 11, ground := Go.Ground.phase }, { on := 12, ground := Go.Ground.phase }, { on := 13, ground := Go.Ground.phase }, { on := 14, ground := Go.Ground.phase }, { on := 15, ground := Go.Ground.phase }, { on := 16, ground := Go.Ground.phase }, { on := 17, ground := Go.Ground.phase }, { on := 18, ground := Go.Ground.phase }, { on := 19, ground := Go.Ground.phase }, { on := 20, ground := Go.Ground.phase }, { on := 21, ground := Go.Ground.phase }, { on := 22, ground := Go.Ground.phase }, { on := 23, ground := Go.Ground.phase }, { on := 24, ground := Go.Ground.phase }, { on := 25, ground := Go.Ground.phase }], guard := none } : Oper)) rfl (fun K hK => ?_) AllReadyH.nil)
            refine step_store_sr rfl 29 (.tmp 9) (.tmp 37) rfl (u19.heap.size) zMsg (cpC D S ty) 29 (HM38.out.a _ rfl).1 rfl rfl sizeM rfl oneL (fun w4 hg4 hw4 hs4 => ?_)
            have hB4 : Below W0.heap.size W0 w4 := HM38.out.below.grown hw4.out HM38.out.below.size (fun k e => by injection e with e; have := (HM38.out.a _ rfl).2; omega)
            refine hK.out _ _ hB4 (fun hHeld => ?_)
            clear hK K
            refine wpAnyH_done (by kernel_rfl) ?_ _
            try (go_wp2_with fail)
            go_meet
            case rel => exact ⟨_, rfl, Lib.hid ⟨(hB4.block _ (heap_lt hZ0)).trans hZ0, hg4.out, hB0.trans (hB4.mono hB0.size), by have := heap_lt hZ0; have := (HM38.out.a _ rfl).2; omega⟩⟩
          · go_simp
            go_at_call 25
            refine (HRc.out _).mono ?_
            rintro e' u39 ⟨rfl, hbb⟩
            have HM40 := Lib.hid (HM36.out.to hbb)
            refine hK.out _ _ HM40.out.below (fun hHeld => ?_)
            clear hK K hbb
            try simp only [Act.put, List.setIfInBounds_toArray, List.set_cons_zero, List.set_cons_succ]
            refine wpAnyH_take (i := 22) (oi := ({ dst := some 35, op := Go.Op.field 44 (Go.Operand.tmp 34) 1, type := 3, pos := "law.go:54", after := #[{ on := 21, ground := Go.Ground.data }], guard := none } : Oper)) (v := .int .i64 (ty : Nat)) rfl (by kernel_rfl) (by kernel_rfl) (by kernel_rfl) (fun _ _ _ h => h) (Or.inl ⟨by rfl, fun w' hS' => ?_⟩) hHeld ?_
            · go_simp
            try simp only [Act.put, List.setIfInBounds_toArray, List.set_cons_zero, List.set_cons_succ]
            refine wpAnyH_take (i := 23) (oi := ({ dst := some 36, op := Go.Op.build 26 #[(0, Go.Operand.tmp 32), (1, Go.Operand.tmp 35)], type := 26, pos := "law.go:54", after := #[{ on := 19, ground := Go.Ground.data }, { on := 22, ground := Go.Ground.data }], guard := none } : Oper)) (v := .agg #[.string S, .int .i64 (ty : Nat)]) rfl (by kernel_rfl) (by kernel_rfl) (by kernel_rfl) (fun _ _ _ h => h) (Or.inl ⟨by rfl, fun w' hS' => ?_⟩) hHeld ?_
            · go_simp
            try simp only [Act.put, List.setIfInBounds_toArray, List.set_cons_zero, List.set_cons_succ]
            refine wpAnyH_ready (rs := [16]) (by kernel_rfl) (by simp) ?_
            refine (AllReadyH.cons (o := ({ dst := some 29, op := Go.Op.load 3 (Go.Operand.tmp 28), type := 3, pos := "law.go:54", after := #[{ on := 15, ground := Go.Ground.data }], guard := none } : Oper)) rfl (fun K hK => ?_) AllReadyH.nil)
            have d := (HM40.out.b _ rfl).1
            go_simp
            refine hK.out _ _ HM40.out.below (fun hHeld => ?_)
            clear hK K d
            try simp only [Act.put, List.setIfInBounds_toArray, List.set_cons_zero, List.set_cons_succ]
            refine wpAnyH_take (i := 24) (oi := ({ dst := some 37, op := Go.Op.build 29 #[(0, Go.Operand.tmp 14), (1, Go.Operand.tmp 17), (2, Go.Operand.tmp 20), (3, Go.Operand.tmp 23), (4, Go.Operand.tmp 29), (5, Go.Operand.tmp 36)], type := 29, pos := "law.go:54", after := #[{ on := 1, ground := Go.Ground.data }, { on := 4, ground := Go.Ground.data }, { on := 7, ground := Go.Ground.data }, { on := 10, ground := Go.Ground.data }, { on := 16, ground := Go.Ground.data }, { on := 23, ground := Go.Ground.data }], guard := none } : Oper)) (v := .agg (cpC D S ty)) rfl (by kernel_rfl) (by kernel_rfl) (by kernel_rfl) (fun _ _ _ h => h) (Or.inl ⟨by rfl, fun w' hS' => ?_⟩) hHeld ?_
            · go_simp; rfl
            try simp only [Act.put, List.setIfInBounds_toArray, List.set_cons_zero, List.set_cons_succ]
            refine wpAnyH_ready (rs := [26]) (by kernel_rfl) (by simp) ?_
            refine (AllReadyH.cons (o := ({ dst := none, op := Go.Op.store 29 (Go.Operand.tmp 9) (Go.Operand.tmp 37), type := 0, pos := "law.go:54", after := #[{ on := 25, ground := Go.Ground.data }, { on := 24, ground := Go.Ground.data }, { on := 21, ground := Go.Ground.chain }, { on := 0, ground := Go.Ground.phase }, { on := 1, ground := Go.Ground.phase }, { on := 2, ground := Go.Ground.phase }, { on := 3, ground := Go.Ground.phase }, { on := 4, ground := Go.Ground.phase }, { on := 5, ground := Go.Ground.phase }, { on := 6, ground := Go.Ground.phase }, { on := 7, ground := Go.Ground.phase }, { on := 8, ground := Go.Ground.phase }, { on := 9, ground := Go.Ground.phase }, { on := 10, ground := Go.Ground.phase }, { on := 11, ground := Go.Ground.phase }, { on := 12, ground := Go.Ground.phase }, { on := 13, ground := Go.Ground.phase }, { on := 14, ground := Go.Ground.phase }, { on := 15, ground := Go.Ground.phase }, { on := 16, ground := Go.Ground.phase }, { on := 17, ground := Go.Ground.phase }, { on := 18, ground := Go.Ground.phase }, { on := 19, ground := Go.Ground.phase }, { on := 20, ground := Go.Ground.phase }, { on := 21, ground := Go.Ground.phase }, { on := 22, ground := Go.Ground.phase }, { on := 23, ground := Go.Ground.phase }, { on := 24, ground := Go.Ground.phase }, { on := 25, ground := Go.Ground.phase }], guard := none } : Oper)) rfl (fun K hK => ?_) AllReadyH.nil)
            refine step_store_sr rfl 29 (.tmp 9) (.tmp 37) rfl (u19.heap.size) zMsg (cpC D S ty) 29 (HM40.out.a _ rfl).1 rfl rfl sizeM rfl oneL (fun w4 hg4 hw4 hs4 => ?_)
            have hB4 : Below W0.heap.size W0 w4 := HM40.out.below.grown hw4.out HM40.out.below.size (fun k e => by injection e with e; have := (HM40.out.a _ rfl).2; omega)
            refine hK.out _ _ hB4 (fun hHeld => ?_)
            clear hK K
            refine wpAnyH_done (by kernel_rfl) ?_ _
            try (go_wp2_with fail)
            go_meet
            case rel => exact ⟨_, rfl, Lib.hid ⟨(hB4.block _ (heap_lt hZ0)).trans hZ0, hg4.out, hB0.trans (hB4.mono hB0.size), by have := heap_lt hZ0; have := (HM40.out.a _ rfl).2; omega⟩⟩
      · go_simp
        refine hK.out _ _ (HM2.out.below.alloc HM2.out.below.size _) (fun hHeld => ?_)
        clear hK K
        try simp only [Act.put, List.setIfInBounds_toArray, List.set_cons_zero, List.set_cons_succ]
        have HM42 := Lib.hid (HM2.out.withA)
        unfold zMsg at HM42
        generalize u1.alloc (.cells #[.int .i64 0, .bool false, .bool false, .bool false, .int .i64 0, .string ⟨#[]⟩, .int .i64 0, .slice none 0 0, .slice none 0 0] 29) = u41 at HM42 hHeld ⊢
        refine wpAnyH_ready (rs := [16, 19]) (by kernel_rfl) (by simp) ?_
        refine (AllReadyH.cons (o := ({ dst := some 29, op := Go.Op.load 3 (Go.Operand.tmp 28), type := 3, pos := "law.go:54", after := #[{ on := 15, ground := Go.Ground.data }], guard := none } : Oper)) rfl (fun K hK => ?_) (AllReadyH.cons (o := ({ dst := some 32, op := Go.Op.call { callee := Go.Callee.value (Go.Operand.func 23), args := #[Go.Operand.tmp 31], argTypes := #[3] }, type := 9, pos := "law.go:54", after := #[{ on := 18, ground := Go.Ground.data }], guard := none } : Oper)) rfl (fun K hK => ?_) AllReadyH.nil))
        · have d := (HM42.out.b _ rfl).1
          go_simp
          refine hK.out _ _ HM42.out.below (fun hHeld => ?_)
          clear hK K d
          try simp only [Act.put, List.setIfInBounds_toArray, List.set_cons_zero, List.set_cons_succ]
          refine wpAnyH_ready (rs := [19]) (by kernel_rfl) (by simp) ?_
          refine (AllReadyH.cons (o := ({ dst := some 32, op := Go.Op.call { callee := Go.Callee.value (Go.Operand.func 23), args := #[Go.Operand.tmp 31], argTypes := #[3] }, type := 9, pos := "law.go:54", after := #[{ on := 18, ground := Go.Ground.data }], guard := none } : Oper)) rfl (fun K hK => ?_) AllReadyH.nil)
          go_simp
          go_at_call 23
          refine (HN.out _).mono ?_
          rintro e' u43 ⟨rfl, hbb⟩
          have HM44 := Lib.hid (HM42.out.to hbb)
          refine hK.out _ _ HM44.out.below (fun hHeld => ?_)
          clear hK K hbb
          try simp only [Act.put, List.setIfInBounds_toArray, List.set_cons_zero, List.set_cons_succ]
          refine wpAnyH_ready (rs := [21]) (by kernel_rfl) (by simp) ?_
          refine (AllReadyH.cons (o := ({ dst := some 34, op := Go.Op.call { callee := Go.Callee.value (Go.Operand.func 25), args := #[Go.Operand.tmp 33], argTypes := #[34] }, type := 44, pos := "law.go:54", after := #[{ on := 20, ground := Go.Ground.data }, { on := 19, ground := Go.Ground.chain }], guard := none } : Oper)) rfl (fun K hK => ?_) AllReadyH.nil)
          go_simp
          go_at_call 25
          refine (HRc.out _).mono ?_
          rintro e' u45 ⟨rfl, hbb⟩
          have HM46 := Lib.hid (HM44.out.to hbb)
          refine hK.out _ _ HM46.out.below (fun hHeld => ?_)
          clear hK K hbb
          try simp only [Act.put, List.setIfInBounds_toArray, List.set_cons_zero, List.set_cons_succ]
          refine wpAnyH_take (i := 22) (oi := ({ dst := some 35, op := Go.Op.field 44 (Go.Operand.tmp 34) 1, type := 3, pos := "law.go:54", after := #[{ on := 21, ground := Go.Ground.data }], guard := none } : Oper)) (v := .int .i64 (ty : Nat)) rfl (by kernel_rfl) (by kernel_rfl) (by kernel_rfl) (fun _ _ _ h => h) (Or.inl ⟨by rfl, fun w' hS' => ?_⟩) hHeld ?_
          · go_simp
          try simp only [Act.put, List.setIfInBounds_toArray, List.set_cons_zero, List.set_cons_succ]
          refine wpAnyH_take (i := 23) (oi := ({ dst := some 36, op := Go.Op.build 26 #[(0, Go.Operand.tmp 32), (1, Go.Operand.tmp 35)], type := 26, pos := "law.go:54", after := #[{ on := 19, ground := Go.Ground.data }, { on := 22, ground := Go.Ground.data }], guard := none } : Oper)) (v := .agg #[.string S, .int .i64 (ty : Nat)]) rfl (by kernel_rfl) (by kernel_rfl) (by kernel_rfl) (fun _ _ _ h => h) (Or.inl ⟨by rfl, fun w' hS' => ?_⟩) hHeld ?_
          · go_simp
          try simp only [Act.put, List.setIfInBounds_toArray, List.set_cons_zero, List.set_cons_succ]
          refine wpAnyH_take (i := 24) (oi := ({ dst := some 37, op := Go.Op.build 29 #[(0, Go.Operand.tmp 14), (1, Go.Operand.tmp 17), (2, Go.Operand.tmp 20), (3, Go.Operand.tmp 23), (4, Go.Operand.tmp 29), (5, Go.Operand.tmp 36)], type := 29, pos := "law.go:54", after := #[{ on := 1, ground := Go.Ground.data }, { on := 4, ground := Go.Ground.data }, { on := 7, ground := Go.Ground.data }, { on := 10, ground := Go.Ground.data }, { on := 16, ground := Go.Ground.data }, { on := 23, ground := Go.Ground.data }], guard := none } : Oper)) (v := .agg (cpC D S ty)) rfl (by kernel_rfl) (by kernel_rfl) (by kernel_rfl) (fun _ _ _ h => h) (Or.inl ⟨by rfl, fun w' hS' => ?_⟩) hHeld ?_
          · go_simp; rfl
          try simp only [Act.put, List.setIfInBounds_toArray, List.set_cons_zero, List.set_cons_succ]
          refine wpAnyH_ready (rs := [26]) (by kernel_rfl) (by simp) ?_
          refine (AllReadyH.cons (o := ({ dst := none, op := Go.Op.store 29 (Go.Operand.tmp 9) (Go.Operand.tmp 37), type := 0, pos := "law.go:54", after := #[{ on := 25, ground := Go.Ground.data }, { on := 24, ground := Go.Ground.data }, { on := 21, ground := Go.Ground.chain }, { on := 0, ground := Go.Ground.phase }, { on := 1, ground := Go.Ground.phase }, { on := 2, ground := Go.Ground.phase }, { on := 3, ground := Go.Ground.phase }, { on := 4, ground := Go.Ground.phase }, { on := 5, ground := Go.Ground.phase }, { on := 6, ground := Go.Ground.phase }, { on := 7, ground := Go.Ground.phase }, { on := 8, ground := Go.Ground.phase }, { on := 9, ground := Go.Ground.phase }, { on := 10, ground := Go.Ground.phase }, { on := 11, ground := Go.Ground.phase }, { on := 12, ground := Go.Ground.phase }, { on := 13, ground := Go.Ground.phase }, { on := 14, ground := Go.Ground.phase }, { on := 15, ground := Go.Ground.phase }, { on := 16, ground := Go.Ground.phase }, { on := 17, ground := Go.Ground.phase }, { on := 18, ground := Go.Ground.phase }, { on := 19, ground := Go.Ground.phase }, { on := 20, ground := Go.Ground.phase }, { on := 21, ground := Go.Ground.phase }, { on := 22, ground := Go.Ground.phase }, { on := 23, ground := Go.Ground.phase }, { on := 24, ground := Go.Ground.phase }, { on := 25, ground := Go.Ground.phase }], guard := none } : Oper)) rfl (fun K hK => ?_) AllReadyH.nil)
          refine step_store_sr rfl 29 (.tmp 9) (.tmp 37) rfl (u1.heap.size) zMsg (cpC D S ty) 29 (HM46.out.a _ rfl).1 rfl rfl sizeM rfl oneL (fun w4 hg4 hw4 hs4 => ?_)
          have hB4 : Below W0.heap.size W0 w4 := HM46.out.below.grown hw4.out HM46.out.below.size (fun k e => by injection e with e; have := (HM46.out.a _ rfl).2; omega)
          refine hK.out _ _ hB4 (fun hHeld => ?_)
          clear hK K
          refine wpAnyH_done (by kernel_rfl) ?_ _
          try (go_wp2_with fail)
          go_meet
          case rel => exact ⟨_, rfl, Lib.hid ⟨(hB4.block _ (heap_lt hZ0)).trans hZ0, hg4.out, hB0.trans (hB4.mono hB0.size), by have := heap_lt hZ0; have := (HM46.out.a _ rfl).2; omega⟩⟩
        · go_simp
          go_at_call 23
          refine (HN.out _).mono ?_
          rintro e' u47 ⟨rfl, hbb⟩
          have HM48 := Lib.hid (HM42.out.to hbb)
          refine hK.out _ _ HM48.out.below (fun hHeld => ?_)
          clear hK K hbb
          try simp only [Act.put, List.setIfInBounds_toArray, List.set_cons_zero, List.set_cons_succ]
          refine wpAnyH_ready (rs := [16, 21]) (by kernel_rfl) (by simp) ?_
          refine (AllReadyH.cons (o := ({ dst := some 29, op := Go.Op.load 3 (Go.Operand.tmp 28), type := 3, pos := "law.go:54", after := #[{ on := 15, ground := Go.Ground.data }], guard := none } : Oper)) rfl (fun K hK => ?_) (AllReadyH.cons (o := ({ dst := some 34, op := Go.Op.call { callee := Go.Callee.value (Go.Operand.func 25), args := #[Go.Operand.tmp 33], argTypes := #[34] }, type := 44, pos := "law.go:54", after := #[{ on := 20, ground := Go.Ground.data }, { on := 19, ground := Go.Ground.chain }], guard := none } : Oper)) rfl (fun K hK => ?_) AllReadyH.nil))
          · have d := (HM48.out.b _ rfl).1
            go_simp
            refine hK.out _ _ HM48.out.below (fun hHeld => ?_)
            clear hK K d
            try simp only [Act.put, List.setIfInBounds_toArray, List.set_cons_zero, List.set_cons_succ]
            refine wpAnyH_ready (rs := [21]) (by kernel_rfl) (by simp) ?_
            refine (AllReadyH.cons (o := ({ dst := some 34, op := Go.Op.call { callee := Go.Callee.value (Go.Operand.func 25), args := #[Go.Operand.tmp 33], argTypes := #[34] }, type := 44, pos := "law.go:54", after := #[{ on := 20, ground := Go.Ground.data }, { on := 19, ground := Go.Ground.chain }], guard := none } : Oper)) rfl (fun K hK => ?_) AllReadyH.nil)
            go_simp
            go_at_call 25
            refine (HRc.out _).mono ?_
            rintro e' u49 ⟨rfl, hbb⟩
            have HM50 := Lib.hid (HM48.out.to hbb)
            refine hK.out _ _ HM50.out.below (fun hHeld => ?_)
            clear hK K hbb
            try simp only [Act.put, List.setIfInBounds_toArray, List.set_cons_zero, List.set_cons_succ]
            refine wpAnyH_take (i := 22) (oi := ({ dst := some 35, op := Go.Op.field 44 (Go.Operand.tmp 34) 1, type := 3, pos := "law.go:54", after := #[{ on := 21, ground := Go.Ground.data }], guard := none } : Oper)) (v := .int .i64 (ty : Nat)) rfl (by kernel_rfl) (by kernel_rfl) (by kernel_rfl) (fun _ _ _ h => h) (Or.inl ⟨by rfl, fun w' hS' => ?_⟩) hHeld ?_
            · go_simp
            try simp only [Act.put, List.setIfInBounds_toArray, List.set_cons_zero, List.set_cons_succ]
            refine wpAnyH_take (i := 23) (oi := ({ dst := some 36, op := Go.Op.build 26 #[(0, Go.Operand.tmp 32), (1, Go.Operand.tmp 35)], type := 26, pos := "law.go:54", after := #[{ on := 19, ground := Go.Ground.data }, { on := 22, ground := Go.Ground.data }], guard := none } : Oper)) (v := .agg #[.string S, .int .i64 (ty : Nat)]) rfl (by kernel_rfl) (by kernel_rfl) (by kernel_rfl) (fun _ _ _ h => h) (Or.inl ⟨by rfl, fun w' hS' => ?_⟩) hHeld ?_
            · go_simp
            try simp only [Act.put, List.setIfInBounds_toArray, List.set_cons_zero, List.set_cons_succ]
            refine wpAnyH_take (i := 24) (oi := ({ dst := some 37, op := Go.Op.build 29 #[(0, Go.Operand.tmp 14), (1, Go.Operand.tmp 17), (2, Go.Operand.tmp 20), (3, Go.Operand.tmp 23), (4, Go.Operand.tmp 29), (5, Go.Operand.tmp 36)], type := 29, pos := "law.go:54", after := #[{ on := 1, ground := Go.Ground.data }, { on := 4, ground := Go.Ground.data }, { on := 7, ground := Go.Ground.data }, { on := 10, ground := Go.Ground.data }, { on := 16, ground := Go.Ground.data }, { on := 23, ground := Go.Ground.data }], guard := none } : Oper)) (v := .agg (cpC D S ty)) rfl (by kernel_rfl) (by kernel_rfl) (by kernel_rfl) (fun _ _ _ h => h) (Or.inl ⟨by rfl, fun w' hS' => ?_⟩) hHeld ?_
            · go_simp; rfl
            try simp only [Act.put, List.setIfInBounds_toArray, List.set_cons_zero, List.set_cons_succ]
            refine wpAnyH_ready (rs := [26]) (by kernel_rfl) (by simp) ?_
            refine (AllReadyH.cons (o := ({ dst := none, op := Go.Op.store 29 (Go.Operand.tmp 9) (Go.Operand.tmp 37), type := 0, pos := "law.go:54", after := #[{ on := 25, ground := Go.Ground.data }, { on := 24, ground := Go.Ground.data }, { on := 21, ground := Go.Ground.chain }, { on := 0, ground := Go.Ground.phase }, { on := 1, ground := Go.Ground.phase }, { on := 2, ground := Go.Ground.phase }, { on := 3, ground := Go.Ground.phase }, { on := 4, ground := Go.Ground.phase }, { on := 5, ground := Go.Ground.phase }, { on := 6, ground := Go.Ground.phase }, { on := 7, ground := Go.Ground.phase }, { on := 8, ground := Go.Ground.phase }, { on := 9, ground := Go.Ground.phase }, { on := 10, ground := Go.Ground.phase }, { on := 11, ground := Go.Ground.phase }, { on := 12, ground := Go.Ground.phase }, { on := 13, ground := Go.Ground.phase }, { on := 14, ground := Go.Ground.phase }, { on := 15, ground := Go.Ground.phase }, { on := 16, ground := Go.Ground.phase }, { on := 17, ground := Go.Ground.phase }, { on := 18, ground := Go.Ground.phase }, { on := 19, ground := Go.Ground.phase }, { on := 20, ground := Go.Ground.phase }, { on := 21, ground := Go.Ground.phase }, { on := 22, ground := Go.Ground.phase }, { on := 23, ground := Go.Ground.phase }, { on := 24, ground := Go.Ground.phase }, { on := 25, ground := Go.Ground.phase }], guard := none } : Oper)) rfl (fun K hK => ?_) AllReadyH.nil)
            refine step_store_sr rfl 29 (.tmp 9) (.tmp 37) rfl (u1.heap.size) zMsg (cpC D S ty) 29 (HM50.out.a _ rfl).1 rfl rfl sizeM rfl oneL (fun w4 hg4 hw4 hs4 => ?_)
            have hB4 : Below W0.heap.size W0 w4 := HM50.out.below.grown hw4.out HM50.out.below.size (fun k e => by injection e with e; have := (HM50.out.a _ rfl).2; omega)
            refine hK.out _ _ hB4 (fun hHeld => ?_)
            clear hK K
            refine wpAnyH_done (by kernel_rfl) ?_ _
            try (go_wp2_with fail)
            go_meet
            case rel => exact ⟨_, rfl, Lib.hid ⟨(hB4.block _ (heap_lt hZ0)).trans hZ0, hg4.out, hB0.trans (hB4.mono hB0.size), by have := heap_lt hZ0; have := (HM50.out.a _ rfl).2; omega⟩⟩
          · go_simp
            go_at_call 25
            refine (HRc.out _).mono ?_
            rintro e' u51 ⟨rfl, hbb⟩
            have HM52 := Lib.hid (HM48.out.to hbb)
            refine hK.out _ _ HM52.out.below (fun hHeld => ?_)
            clear hK K hbb
            try simp only [Act.put, List.setIfInBounds_toArray, List.set_cons_zero, List.set_cons_succ]
            refine wpAnyH_take (i := 22) (oi := ({ dst := some 35, op := Go.Op.field 44 (Go.Operand.tmp 34) 1, type := 3, pos := "law.go:54", after := #[{ on := 21, ground := Go.Ground.data }], guard := none } : Oper)) (v := .int .i64 (ty : Nat)) rfl (by kernel_rfl) (by kernel_rfl) (by kernel_rfl) (fun _ _ _ h => h) (Or.inl ⟨by rfl, fun w' hS' => ?_⟩) hHeld ?_
            · go_simp
            try simp only [Act.put, List.setIfInBounds_toArray, List.set_cons_zero, List.set_cons_succ]
            refine wpAnyH_take (i := 23) (oi := ({ dst := some 36, op := Go.Op.build 26 #[(0, Go.Operand.tmp 32), (1, Go.Operand.tmp 35)], type := 26, pos := "law.go:54", after := #[{ on := 19, ground := Go.Ground.data }, { on := 22, ground := Go.Ground.data }], guard := none } : Oper)) (v := .agg #[.string S, .int .i64 (ty : Nat)]) rfl (by kernel_rfl) (by kernel_rfl) (by kernel_rfl) (fun _ _ _ h => h) (Or.inl ⟨by rfl, fun w' hS' => ?_⟩) hHeld ?_
            · go_simp
            try simp only [Act.put, List.setIfInBounds_toArray, List.set_cons_zero, List.set_cons_succ]
            refine wpAnyH_ready (rs := [16]) (by kernel_rfl) (by simp) ?_
            refine (AllReadyH.cons (o := ({ dst := some 29, op := Go.Op.load 3 (Go.Operand.tmp 28), type := 3, pos := "law.go:54", after := #[{ on := 15, ground := Go.Ground.data }], guard := none } : Oper)) rfl (fun K hK => ?_) AllReadyH.nil)
            have d := (HM52.out.b _ rfl).1
            go_simp
            refine hK.out _ _ HM52.out.below (fun hHeld => ?_)
            clear hK K d
            try simp only [Act.put, List.setIfInBounds_toArray, List.set_cons_zero, List.set_cons_succ]
            refine wpAnyH_take (i := 24) (oi := ({ dst := some 37, op := Go.Op.build 29 #[(0, Go.Operand.tmp 14), (1, Go.Operand.tmp 17), (2, Go.Operand.tmp 20), (3, Go.Operand.tmp 23), (4, Go.Operand.tmp 29), (5, Go.Operand.tmp 36)], type := 29, pos := "law.go:54", after := #[{ on := 1, ground := Go.Ground.data }, { on := 4, ground := Go.Ground.data }, { on := 7, ground := Go.Ground.data }, { on := 10, ground := Go.Ground.data }, { on := 16, ground := Go.Ground.data }, { on := 23, ground := Go.Ground.data }], guard := none } : Oper)) (v := .agg (cpC D S ty)) rfl (by kernel_rfl) (by kernel_rfl) (by kernel_rfl) (fun _ _ _ h => h) (Or.inl ⟨by rfl, fun w' hS' => ?_⟩) hHeld ?_
            · go_simp; rfl
            try simp only [Act.put, List.setIfInBounds_toArray, List.set_cons_zero, List.set_cons_succ]
            refine wpAnyH_ready (rs := [26]) (by kernel_rfl) (by simp) ?_
            refine (AllReadyH.cons (o := ({ dst := none, op := Go.Op.store 29 (Go.Operand.tmp 9) (Go.Operand.tmp 37), type := 0, pos := "law.go:54", after := #[{ on := 25, ground := Go.Ground.data }, { on := 24, ground := Go.Ground.data }, { on := 21, ground := Go.Ground.chain }, { on := 0, ground := Go.Ground.phase }, { on := 1, ground := Go.Ground.phase }, { on := 2, ground := Go.Ground.phase }, { on := 3, ground := Go.Ground.phase }, { on := 4, ground := Go.Ground.phase }, { on := 5, ground := Go.Ground.phase }, { on := 6, ground := Go.Ground.phase }, { on := 7, ground := Go.Ground.phase }, { on := 8, ground := Go.Ground.phase }, { on := 9, ground := Go.Ground.phase }, { on := 10, ground := Go.Ground.phase }, { on := 11, ground := Go.Ground.phase }, { on := 12, ground := Go.Ground.phase }, { on := 13, ground := Go.Ground.phase }, { on := 14, ground := Go.Ground.phase }, { on := 15, ground := Go.Ground.phase }, { on := 16, ground := Go.Ground.phase }, { on := 17, ground := Go.Ground.phase }, { on := 18, ground := Go.Ground.phase }, { on := 19, ground := Go.Ground.phase }, { on := 20, ground := Go.Ground.phase }, { on := 21, ground := Go.Ground.phase }, { on := 22, ground := Go.Ground.phase }, { on := 23, ground := Go.Ground.phase }, { on := 24, ground := Go.Ground.phase }, { on := 25, ground := Go.Ground.phase }], guard := none } : Oper)) rfl (fun K hK => ?_) AllReadyH.nil)
            refine step_store_sr rfl 29 (.tmp 9) (.tmp 37) rfl (u1.heap.size) zMsg (cpC D S ty) 29 (HM52.out.a _ rfl).1 rfl rfl sizeM rfl oneL (fun w4 hg4 hw4 hs4 => ?_)
            have hB4 : Below W0.heap.size W0 w4 := HM52.out.below.grown hw4.out HM52.out.below.size (fun k e => by injection e with e; have := (HM52.out.a _ rfl).2; omega)
            refine hK.out _ _ hB4 (fun hHeld => ?_)
            clear hK K
            refine wpAnyH_done (by kernel_rfl) ?_ _
            try (go_wp2_with fail)
            go_meet
            case rel => exact ⟨_, rfl, Lib.hid ⟨(hB4.block _ (heap_lt hZ0)).trans hZ0, hg4.out, hB0.trans (hB4.mono hB0.size), by have := heap_lt hZ0; have := (HM52.out.a _ rfl).2; omega⟩⟩
    · go_simp
      go_at_call 23
      refine (HN.out _).mono ?_
      rintro e' u53 ⟨rfl, hbb⟩
      have HM54 := Lib.hid (HM0.out.to hbb)
      refine hK.out _ _ HM54.out.below (fun hHeld => ?_)
      clear hK K hbb
      try simp only [Act.put, List.setIfInBounds_toArray, List.set_cons_zero, List.set_cons_succ]
      refine wpAnyH_ready (rs := [11, 21, 25]) (by kernel_rfl) (by simp) ?_
      refine (AllReadyH.cons (o := ({ dst := some 24, op := Go.Op.buildSlice 60 4 #[(0, Go.Operand.const (Go.Value.int Go.IntKind.i64 0)), (1, Go.Operand.const (Go.Value.int Go.IntKind.i64 0)), (2, Go.Operand.const (Go.Value.int Go.IntKind.i64 3)), (3, Go.Operand.const (Go.Value.int Go.IntKind.i64 2))], type := 60, pos := "law.go:54", after := #[], guard := none } : Oper)) rfl (fun K hK => ?_) (AllReadyH.cons (o := ({ dst := some 34, op := Go.Op.call { callee := Go.Callee.value (Go.Operand.func 25), args := #[Go.Operand.tmp 33], argTypes := #[34] }, type := 44, pos := "law.go:54", after := #[{ on := 20, ground := Go.Ground.data }, { on := 19, ground := Go.Ground.chain }], guard := none } : Oper)) rfl (fun K hK => ?_) (AllReadyH.cons (o := ({ dst := some 9, op := Go.Op.alloc 29, type := 0, pos := "law.go:54", after := #[], guard := none } : Oper)) rfl (fun K hK => ?_) AllReadyH.nil)))
      · go_simp
        refine hK.out _ _ (HM54.out.below.alloc HM54.out.below.size _) (fun hHeld => ?_)
        clear hK K
        try simp only [Act.put, List.setIfInBounds_toArray, List.set_cons_zero, List.set_cons_succ]
        have HM56 := Lib.hid (HM54.out.withB)
        generalize u53.alloc (.cells #[.int .i64 0, .int .i64 0, .int .i64 3, .int .i64 2] 3) = u55 at HM56 hHeld ⊢
        refine wpAnyH_take (i := 15) (oi := ({ dst := some 28, op := Go.Op.indexAddr 60 (Go.Operand.tmp 24) (Go.Operand.tmp 27), type := 0, pos := "law.go:54", after := #[{ on := 11, ground := Go.Ground.data }, { on := 14, ground := Go.Ground.data }], guard := none } : Oper)) (v := .pointer (some ⟨u53.heap.size, 0, none⟩)) rfl (by kernel_rfl) (by kernel_rfl) (by kernel_rfl) (fun _ _ _ h => h) (Or.inl ⟨by rfl, fun w' hS' => ?_⟩) hHeld ?_
        · go_simp
        try simp only [Act.put, List.setIfInBounds_toArray, List.set_cons_zero, List.set_cons_succ]
        refine wpAnyH_ready (rs := [16, 21, 25]) (by kernel_rfl) (by simp) ?_
        refine (AllReadyH.cons (o := ({ dst := some 29, op := Go.Op.load 3 (Go.Operand.tmp 28), type := 3, pos := "law.go:54", after := #[{ on := 15, ground := Go.Ground.data }], guard := none } : Oper)) rfl (fun K hK => ?_) (AllReadyH.cons (o := ({ dst := some 34, op := Go.Op.call { callee := Go.Callee.value (Go.Operand.func 25), args := #[Go.Operand.tmp 33], argTypes := #[34] }, type := 44, pos := "law.go:54", after := #[{ on := 20, ground := Go.Ground.data }, { on := 19, ground := Go.Ground.chain }], guard := none } : Oper)) rfl (fun K hK => ?_) (AllReadyH.cons (o := ({ dst := some 9, op := Go.Op.alloc 29, type := 0, pos := "law.go:54", after := #[], guard := none } : Oper)) rfl (fun K hK => ?_) AllReadyH.nil)))
        · have d := (HM56.out.b _ rfl).1
          go_simp
          refine hK.out _ _ HM56.out.below (fun hHeld => ?_)
          clear hK K d
          try simp only [Act.put, List.setIfInBounds_toArray, List.set_cons_zero, List.set_cons_succ]
          refine wpAnyH_ready (rs := [21, 25]) (by kernel_rfl) (by simp) ?_
          refine (AllReadyH.cons (o := ({ dst := some 34, op := Go.Op.call { callee := Go.Callee.value (Go.Operand.func 25), args := #[Go.Operand.tmp 33], argTypes := #[34] }, type := 44, pos := "law.go:54", after := #[{ on := 20, ground := Go.Ground.data }, { on := 19, ground := Go.Ground.chain }], guard := none } : Oper)) rfl (fun K hK => ?_) (AllReadyH.cons (o := ({ dst := some 9, op := Go.Op.alloc 29, type := 0, pos := "law.go:54", after := #[], guard := none } : Oper)) rfl (fun K hK => ?_) AllReadyH.nil))
          · go_simp
            go_at_call 25
            refine (HRc.out _).mono ?_
            rintro e' u57 ⟨rfl, hbb⟩
            have HM58 := Lib.hid (HM56.out.to hbb)
            refine hK.out _ _ HM58.out.below (fun hHeld => ?_)
            clear hK K hbb
            try simp only [Act.put, List.setIfInBounds_toArray, List.set_cons_zero, List.set_cons_succ]
            refine wpAnyH_take (i := 22) (oi := ({ dst := some 35, op := Go.Op.field 44 (Go.Operand.tmp 34) 1, type := 3, pos := "law.go:54", after := #[{ on := 21, ground := Go.Ground.data }], guard := none } : Oper)) (v := .int .i64 (ty : Nat)) rfl (by kernel_rfl) (by kernel_rfl) (by kernel_rfl) (fun _ _ _ h => h) (Or.inl ⟨by rfl, fun w' hS' => ?_⟩) hHeld ?_
            · go_simp
            try simp only [Act.put, List.setIfInBounds_toArray, List.set_cons_zero, List.set_cons_succ]
            refine wpAnyH_take (i := 23) (oi := ({ dst := some 36, op := Go.Op.build 26 #[(0, Go.Operand.tmp 32), (1, Go.Operand.tmp 35)], type := 26, pos := "law.go:54", after := #[{ on := 19, ground := Go.Ground.data }, { on := 22, ground := Go.Ground.data }], guard := none } : Oper)) (v := .agg #[.string S, .int .i64 (ty : Nat)]) rfl (by kernel_rfl) (by kernel_rfl) (by kernel_rfl) (fun _ _ _ h => h) (Or.inl ⟨by rfl, fun w' hS' => ?_⟩) hHeld ?_
            · go_simp
            try simp only [Act.put, List.setIfInBounds_toArray, List.set_cons_zero, List.set_cons_succ]
            refine wpAnyH_take (i := 24) (oi := ({ dst := some 37, op := Go.Op.build 29 #[(0, Go.Operand.tmp 14), (1, Go.Operand.tmp 17), (2, Go.Operand.tmp 20), (3, Go.Operand.tmp 23), (4, Go.Operand.tmp 29), (5, Go.Operand.tmp 36)], type := 29, pos := "law.go:54", after := #[{ on := 1, ground := Go.Ground.data }, { on := 4, ground := Go.Ground.data }, { on := 7, ground := Go.Ground.data }, { on := 10, ground := Go.Ground.data }, { on := 16, ground := Go.Ground.data }, { on := 23, ground := Go.Ground.data }], guard := none } : Oper)) (v := .agg (cpC D S ty)) rfl (by kernel_rfl) (by kernel_rfl) (by kernel_rfl) (fun _ _ _ h => h) (Or.inl ⟨by rfl, fun w' hS' => ?_⟩) hHeld ?_
            · go_simp; rfl
            try simp only [Act.put, List.setIfInBounds_toArray, List.set_cons_zero, List.set_cons_succ]
            refine wpAnyH_ready (rs := [25]) (by kernel_rfl) (by simp) ?_
            refine (AllReadyH.cons (o := ({ dst := some 9, op := Go.Op.alloc 29, type := 0, pos := "law.go:54", after := #[], guard := none } : Oper)) rfl (fun K hK => ?_) AllReadyH.nil)
            go_simp
            refine hK.out _ _ (HM58.out.below.alloc HM58.out.below.size _) (fun hHeld => ?_)
            clear hK K
            try simp only [Act.put, List.setIfInBounds_toArray, List.set_cons_zero, List.set_cons_succ]
            have HM60 := Lib.hid (HM58.out.withA)
            unfold zMsg at HM60
            generalize u57.alloc (.cells #[.int .i64 0, .bool false, .bool false, .bool false, .int .i64 0, .string ⟨#[]⟩, .int .i64 0, .slice none 0 0, .slice none 0 0] 29) = u59 at HM60 hHeld ⊢
            refine wpAnyH_ready (rs := [26]) (by kernel_rfl) (by simp) ?_
            refine (AllReadyH.cons (o := ({ dst := none, op := Go.Op.store 29 (Go.Operand.tmp 9) (Go.Operand.tmp 37), type := 0, pos := "law.go:54", after := #[{ on := 25, ground := Go.Ground.data }, { on := 24, ground := Go.Ground.data }, { on := 21, ground := Go.Ground.chain }, { on := 0, ground := Go.Ground.phase }, { on := 1, ground := Go.Ground.phase }, { on := 2, ground := Go.Ground.phase }, { on := 3, ground := Go.Ground.phase }, { on := 4, ground := Go.Ground.phase }, { on := 5, ground := Go.Ground.phase }, { on := 6, ground := Go.Ground.phase }, { on := 7, ground := Go.Ground.phase }, { on := 8, ground := Go.Ground.phase }, { on := 9, ground := Go.Ground.phase }, { on := 10, ground := Go.Ground.phase }, { on := 11, ground := Go.Ground.phase }, { on := 12, ground := Go.Ground.phase }, { on := 13, ground := Go.Ground.phase }, { on := 14, ground := Go.Ground.phase }, { on := 15, ground := Go.Ground.phase }, { on := 16, ground := Go.Ground.phase }, { on := 17, ground := Go.Ground.phase }, { on := 18, ground := Go.Ground.phase }, { on := 19, ground := Go.Ground.phase }, { on := 20, ground := Go.Ground.phase }, { on := 21, ground := Go.Ground.phase }, { on := 22, ground := Go.Ground.phase }, { on := 23, ground := Go.Ground.phase }, { on := 24, ground := Go.Ground.phase }, { on := 25, ground := Go.Ground.phase }], guard := none } : Oper)) rfl (fun K hK => ?_) AllReadyH.nil)
            refine step_store_sr rfl 29 (.tmp 9) (.tmp 37) rfl (u57.heap.size) zMsg (cpC D S ty) 29 (HM60.out.a _ rfl).1 rfl rfl sizeM rfl oneL (fun w4 hg4 hw4 hs4 => ?_)
            have hB4 : Below W0.heap.size W0 w4 := HM60.out.below.grown hw4.out HM60.out.below.size (fun k e => by injection e with e; have := (HM60.out.a _ rfl).2; omega)
            refine hK.out _ _ hB4 (fun hHeld => ?_)
            clear hK K
            refine wpAnyH_done (by kernel_rfl) ?_ _
            try (go_wp2_with fail)
            go_meet
            case rel => exact ⟨_, rfl, Lib.hid ⟨(hB4.block _ (heap_lt hZ0)).trans hZ0, hg4.out, hB0.trans (hB4.mono hB0.size), by have := heap_lt hZ0; have := (HM60.out.a _ rfl).2; omega⟩⟩
          · go_simp
            refine hK.out _ _ (HM56.out.below.alloc HM56.out.below.size _) (fun hHeld => ?_)
            clear hK K
            try simp only [Act.put, List.setIfInBounds_toArray, List.set_cons_zero, List.set_cons_succ]
            have HM62 := Lib.hid (HM56.out.withA)
            unfold zMsg at HM62
            generalize u55.alloc (.cells #[.int .i64 0, .bool false, .bool false, .bool false, .int .i64 0, .string ⟨#[]⟩, .int .i64 0, .slice none 0 0, .slice none 0 0] 29) = u61 at HM62 hHeld ⊢
            refine wpAnyH_ready (rs := [21]) (by kernel_rfl) (by simp) ?_
            refine (AllReadyH.cons (o := ({ dst := some 34, op := Go.Op.call { callee := Go.Callee.value (Go.Operand.func 25), args := #[Go.Operand.tmp 33], argTypes := #[34] }, type := 44, pos := "law.go:54", after := #[{ on := 20, ground := Go.Ground.data }, { on := 19, ground := Go.Ground.chain }], guard := none } : Oper)) rfl (fun K hK => ?_) AllReadyH.nil)
            go_simp
            go_at_call 25
            refine (HRc.out _).mono ?_
            rintro e' u63 ⟨rfl, hbb⟩
            have HM64 := Lib.hid (HM62.out.to hbb)
            refine hK.out _ _ HM64.out.below (fun hHeld => ?_)
            clear hK K hbb
            try simp only [Act.put, List.setIfInBounds_toArray, List.set_cons_zero, List.set_cons_succ]
            refine wpAnyH_take (i := 22) (oi := ({ dst := some 35, op := Go.Op.field 44 (Go.Operand.tmp 34) 1, type := 3, pos := "law.go:54", after := #[{ on := 21, ground := Go.Ground.data }], guard := none } : Oper)) (v := .int .i64 (ty : Nat)) rfl (by kernel_rfl) (by kernel_rfl) (by kernel_rfl) (fun _ _ _ h => h) (Or.inl ⟨by rfl, fun w' hS' => ?_⟩) hHeld ?_
            · go_simp
            try simp only [Act.put, List.setIfInBounds_toArray, List.set_cons_zero, List.set_cons_succ]
            refine wpAnyH_take (i := 23) (oi := ({ dst := some 36, op := Go.Op.build 26 #[(0, Go.Operand.tmp 32), (1, Go.Operand.tmp 35)], type := 26, pos := "law.go:54", after := #[{ on := 19, ground := Go.Ground.data }, { on := 22, ground := Go.Ground.data }], guard := none } : Oper)) (v := .agg #[.string S, .int .i64 (ty : Nat)]) rfl (by kernel_rfl) (by kernel_rfl) (by kernel_rfl) (fun _ _ _ h => h) (Or.inl ⟨by rfl, fun w' hS' => ?_⟩) hHeld ?_
            · go_simp
            try simp only [Act.put, List.setIfInBounds_toArray, List.set_cons_zero, List.set_cons_succ]
            refine wpAnyH_take (i := 24) (oi := ({ dst := some 37, op := Go.Op.build 29 #[(0, Go.Operand.tmp 14), (1, Go.Operand.tmp 17), (2, Go.Operand.tmp 20), (3, Go.Operand.tmp 23), (4, Go.Operand.tmp 29), (5, Go.Operand.tmp 36)], type := 29, pos := "law.go:54", after := #[{ on := 1, ground := Go.Ground.data }, { on := 4, ground := Go.Ground.data }, { on := 7, ground := Go.Ground.data }, { on := 10, ground := Go.Ground.data }, { on := 16, ground := Go.Ground.data }, { on := 23, ground := Go.Ground.data }], guard := none } : Oper)) (v := .agg (cpC D S ty)) rfl (by kernel_rfl) (by kernel_rfl) (by kernel_rfl) (fun _ _ _ h => h) (Or.inl ⟨by rfl, fun w' hS' => ?_⟩) hHeld ?_
            · go_simp; rfl
            try simp only [Act.put, List.setIfInBounds_toArray, List.set_cons_zero, List.set_cons_succ]
            refine wpAnyH_ready (rs := [26]) (by kernel_rfl) (by simp) ?_
            refine (AllReadyH.cons (o := ({ dst := none, op := Go.Op.store 29 (Go.Operand.tmp 9) (Go.Operand.tmp 37), type := 0, pos := "law.go:54", after := #[{ on := 25, ground := Go.Ground.data }, { on := 24, ground := Go.Ground.data }, { on := 21, ground := Go.Ground.chain }, { on := 0, ground := Go.Ground.phase }, { on := 1, ground := Go.Ground.phase }, { on := 2, ground := Go.Ground.phase }, { on := 3, ground := Go.Ground.phase }, { on := 4, ground := Go.Ground.phase }, { on := 5, ground := Go.Ground.phase }, { on := 6, ground := Go.Ground.phase }, { on := 7, ground := Go.Ground.phase }, { on := 8, ground := Go.Ground.phase }, { on := 9, ground := Go.Ground.phase }, { on := 10, ground := Go.Ground.phase }, { on := 11, ground := Go.Ground.phase }, { on := 12, ground := Go.Ground.phase }, { on := 13, ground := Go.Ground.phase }, { on := 14, ground := Go.Ground.phase }, { on := 15, ground := Go.Ground.phase }, { on := 16, ground := Go.Ground.phase }, { on := 17, ground := Go.Ground.phase }, { on := 18, ground := Go.Ground.phase }, { on := 19, ground := Go.Ground.phase }, { on := 20, ground := Go.Ground.phase }, { on := 21, ground := Go.Ground.phase }, { on := 22, ground := Go.Ground.phase }, { on := 23, ground := Go.Ground.phase }, { on := 24, ground := Go.Ground.phase }, { on := 25, ground := Go.Ground.phase }], guard := none } : Oper)) rfl (fun K hK => ?_) AllReadyH.nil)
            refine step_store_sr rfl 29 (.tmp 9) (.tmp 37) rfl (u55.heap.size) zMsg (cpC D S ty) 29 (HM64.out.a _ rfl).1 rfl rfl sizeM rfl oneL (fun w4 hg4 hw4 hs4 => ?_)
            have hB4 : Below W0.heap.size W0 w4 := HM64.out.below.grown hw4.out HM64.out.below.size (fun k e => by injection e with e; have := (HM64.out.a _ rfl).2; omega)
            refine hK.out _ _ hB4 (fun hHeld => ?_)
            clear hK K
            refine wpAnyH_done (by kernel_rfl) ?_ _
            try (go_wp2_with fail)
            go_meet
            case rel => exact ⟨_, rfl, Lib.hid ⟨(hB4.block _ (heap_lt hZ0)).trans hZ0, hg4.out, hB0.trans (hB4.mono hB0.size), by have := heap_lt hZ0; have := (HM64.out.a _ rfl).2; omega⟩⟩
        · go_simp
          go_at_call 25
          refine (HRc.out _).mono ?_
          rintro e' u65 ⟨rfl, hbb⟩
          have HM66 := Lib.hid (HM56.out.to hbb)
          refine hK.out _ _ HM66.out.below (fun hHeld => ?_)
          clear hK K hbb
          try simp only [Act.put, List.setIfInBounds_toArray, List.set_cons_zero, List.set_cons_succ]
          refine wpAnyH_take (i := 22) (oi := ({ dst := some 35, op := Go.Op.field 44 (Go.Operand.tmp 34) 1, type := 3, pos := "law.go:54", after := #[{ on := 21, ground := Go.Ground.data }], guard := none } : Oper)) (v := .int .i64 (ty : Nat)) rfl (by kernel_rfl) (by kernel_rfl) (by kernel_rfl) (fun _ _ _ h => h) (Or.inl ⟨by rfl, fun w' hS' => ?_⟩) hHeld ?_
          · go_simp
          try simp only [Act.put, List.setIfInBounds_toArray, List.set_cons_zero, List.set_cons_succ]
          refine wpAnyH_take (i := 23) (oi := ({ dst := some 36, op := Go.Op.build 26 #[(0, Go.Operand.tmp 32), (1, Go.Operand.tmp 35)], type := 26, pos := "law.go:54", after := #[{ on := 19, ground := Go.Ground.data }, { on := 22, ground := Go.Ground.data }], guard := none } : Oper)) (v := .agg #[.string S, .int .i64 (ty : Nat)]) rfl (by kernel_rfl) (by kernel_rfl) (by kernel_rfl) (fun _ _ _ h => h) (Or.inl ⟨by rfl, fun w' hS' => ?_⟩) hHeld ?_
          · go_simp
          try simp only [Act.put, List.setIfInBounds_toArray, List.set_cons_zero, List.set_cons_succ]
          refine wpAnyH_ready (rs := [16, 25]) (by kernel_rfl) (by simp) ?_
          refine (AllReadyH.cons (o := ({ dst := some 29, op := Go.Op.load 3 (Go.Operand.tmp 28), type := 3, pos := "law.go:54", after := #[{ on := 15, ground := Go.Ground.data }], guard := none } : Oper)) rfl (fun K hK => ?_) (AllReadyH.cons (o := ({ dst := some 9, op := Go.Op.alloc 29, type := 0, pos := "law.go:54", after := #[], guard := none } : Oper)) rfl (fun K hK => ?_) AllReadyH.nil))
          · have d := (HM66.out.b _ rfl).1
            go_simp
            refine hK.out _ _ HM66.out.below (fun hHeld => ?_)
            clear hK K d
            try simp only [Act.put, List.setIfInBounds_toArray, List.set_cons_zero, List.set_cons_succ]
            refine wpAnyH_take (i := 24) (oi := ({ dst := some 37, op := Go.Op.build 29 #[(0, Go.Operand.tmp 14), (1, Go.Operand.tmp 17), (2, Go.Operand.tmp 20), (3, Go.Operand.tmp 23), (4, Go.Operand.tmp 29), (5, Go.Operand.tmp 36)], type := 29, pos := "law.go:54", after := #[{ on := 1, ground := Go.Ground.data }, { on := 4, ground := Go.Ground.data }, { on := 7, ground := Go.Ground.data }, { on := 10, ground := Go.Ground.data }, { on := 16, ground := Go.Ground.data }, { on := 23, ground := Go.Ground.data }], guard := none } : Oper)) (v := .agg (cpC D S ty)) rfl (by kernel_rfl) (by kernel_rfl) (by kernel_rfl) (fun _ _ _ h => h) (Or.inl ⟨by rfl, fun w' hS' => ?_⟩) hHeld ?_
            · go_simp; rfl
            try simp only [Act.put, List.setIfInBounds_toArray, List.set_cons_zero, List.set_cons_succ]
            refine wpAnyH_ready (rs := [25]) (by kernel_rfl) (by simp) ?_
            refine (AllReadyH.cons (o := ({ dst := some 9, op := Go.Op.alloc 29, type := 0, pos := "law.go:54", after := #[], guard := none } : Oper)) rfl (fun K hK => ?_) AllReadyH.nil)
            go_simp
            refine hK.out _ _ (HM66.out.below.alloc HM66.out.below.size _) (fun hHeld => ?_)
            clear hK K
            try simp only [Act.put, List.setIfInBounds_toArray, List.set_cons_zero, List.set_cons_succ]
            have HM68 := Lib.hid (HM66.out.withA)
            unfold zMsg at HM68
            generalize u65.alloc (.cells #[.int .i64 0, .bool false, .bool false, .bool false, .int .i64 0, .string ⟨#[]⟩, .int .i64 0, .slice none 0 0, .slice none 0 0] 29) = u67 at HM68 hHeld ⊢
            refine wpAnyH_ready (rs := [26]) (by kernel_rfl) (by simp) ?_
            refine (AllReadyH.cons (o := ({ dst := none, op := Go.Op.store 29 (Go.Operand.tmp 9) (Go.Operand.tmp 37), type := 0, pos := "law.go:54", after := #[{ on := 25, ground := Go.Ground.data }, { on := 24, ground := Go.Ground.data }, { on := 21, ground := Go.Ground.chain }, { on := 0, ground := Go.Ground.phase }, { on := 1, ground := Go.Ground.phase }, { on := 2, ground := Go.Ground.phase }, { on := 3, ground := Go.Ground.phase }, { on := 4, ground := Go.Ground.phase }, { on := 5, ground := Go.Ground.phase }, { on := 6, ground := Go.Ground.phase }, { on := 7, ground := Go.Ground.phase }, { on := 8, ground := Go.Ground.phase }, { on := 9, ground := Go.Ground.phase }, { on := 10, ground := Go.Ground.phase }, { on := 11, ground := Go.Ground.phase }, { on := 12, ground := Go.Ground.phase }, { on := 13, ground := Go.Ground.phase }, { on := 14, ground := Go.Ground.phase }, { on := 15, ground := Go.Ground.phase }, { on := 16, ground := Go.Ground.phase }, { on := 17, ground := Go.Ground.phase }, { on := 18, ground := Go.Ground.phase }, { on := 19, ground := Go.Ground.phase }, { on := 20, ground := Go.Ground.phase }, { on := 21, ground := Go.Ground.phase }, { on := 22, ground := Go.Ground.phase }, { on := 23, ground := Go.Ground.phase }, { on := 24, ground := Go.Ground.phase }, { on := 25, ground := Go.Ground.phase }], guard := none } : Oper)) rfl (fun K hK => ?_) AllReadyH.nil)
            refine step_store_sr rfl 29 (.tmp 9) (.tmp 37) rfl (u65.heap.size) zMsg (cpC D S ty) 29 (HM68.out.a _ rfl).1 rfl rfl sizeM rfl oneL (fun w4 hg4 hw4 hs4 => ?_)
            have hB4 : Below W0.heap.size W0 w4 := HM68.out.below.grown hw4.out HM68.out.below.size (fun k e => by injection e with e; have := (HM68.out.a _ rfl).2; omega)
            refine hK.out _ _ hB4 (fun hHeld => ?_)
            clear hK K
            refine wpAnyH_done (by kernel_rfl) ?_ _
            try (go_wp2_with fail)
            go_meet
            case rel => exact ⟨_, rfl, Lib.hid ⟨(hB4.block _ (heap_lt hZ0)).trans hZ0, hg4.out, hB0.trans (hB4.mono hB0.size), by have := heap_lt hZ0; have := (HM68.out.a _ rfl).2; omega⟩⟩
          · go_simp
            refine hK.out _ _ (HM66.out.below.alloc HM66.out.below.size _) (fun hHeld => ?_)
            clear hK K
            try simp only [Act.put, List.setIfInBounds_toArray, List.set_cons_zero, List.set_cons_succ]
            have HM70 := Lib.hid (HM66.out.withA)
            unfold zMsg at HM70
            generalize u65.alloc (.cells #[.int .i64 0, .bool false, .bool false, .bool false, .int .i64 0, .string ⟨#[]⟩, .int .i64 0, .slice none 0 0, .slice none 0 0] 29) = u69 at HM70 hHeld ⊢
            refine wpAnyH_ready (rs := [16]) (by kernel_rfl) (by simp) ?_
            refine (AllReadyH.cons (o := ({ dst := some 29, op := Go.Op.load 3 (Go.Operand.tmp 28), type := 3, pos := "law.go:54", after := #[{ on := 15, ground := Go.Ground.data }], guard := none } : Oper)) rfl (fun K hK => ?_) AllReadyH.nil)
            have d := (HM70.out.b _ rfl).1
            go_simp
            refine hK.out _ _ HM70.out.below (fun hHeld => ?_)
            clear hK K d
            try simp only [Act.put, List.setIfInBounds_toArray, List.set_cons_zero, List.set_cons_succ]
            refine wpAnyH_take (i := 24) (oi := ({ dst := some 37, op := Go.Op.build 29 #[(0, Go.Operand.tmp 14), (1, Go.Operand.tmp 17), (2, Go.Operand.tmp 20), (3, Go.Operand.tmp 23), (4, Go.Operand.tmp 29), (5, Go.Operand.tmp 36)], type := 29, pos := "law.go:54", after := #[{ on := 1, ground := Go.Ground.data }, { on := 4, ground := Go.Ground.data }, { on := 7, ground := Go.Ground.data }, { on := 10, ground := Go.Ground.data }, { on := 16, ground := Go.Ground.data }, { on := 23, ground := Go.Ground.data }], guard := none } : Oper)) (v := .agg (cpC D S ty)) rfl (by kernel_rfl) (by kernel_rfl) (by kernel_rfl) (fun _ _ _ h => h) (Or.inl ⟨by rfl, fun w' hS' => ?_⟩) hHeld ?_
            · go_simp; rfl
            try simp only [Act.put, List.setIfInBounds_toArray, List.set_cons_zero, List.set_cons_succ]
            refine wpAnyH_ready (rs := [26]) (by kernel_rfl) (by simp) ?_
            refine (AllReadyH.cons (o := ({ dst := none, op := Go.Op.store 29 (Go.Operand.tmp 9) (Go.Operand.tmp 37), type := 0, pos := "law.go:54", after := #[{ on := 25, ground := Go.Ground.data }, { on := 24, ground := Go.Ground.data }, { on := 21, ground := Go.Ground.chain }, { on := 0, ground := Go.Ground.phase }, { on := 1, ground := Go.Ground.phase }, { on := 2, ground := Go.Ground.phase }, { on := 3, ground := Go.Ground.phase }, { on := 4, ground := Go.Ground.phase }, { on := 5, ground := Go.Ground.phase }, { on := 6, ground := Go.Ground.phase }, { on := 7, ground := Go.Ground.phase }, { on := 8, ground := Go.Ground.phase }, { on := 9, ground := Go.Ground.phase }, { on := 10, ground := Go.Ground.phase }, { on := 11, ground := Go.Ground.phase }, { on := 12, ground := Go.Ground.phase }, { on := 13, ground := Go.Ground.phase }, { on := 14, ground := Go.Ground.phase }, { on := 15, ground := Go.Ground.phase }, { on := 16, ground := Go.Ground.phase }, { on := 17, ground := Go.Ground.phase }, { on := 18, ground := Go.Ground.phase }, { on := 19, ground := Go.Ground.phase }, { on := 20, ground := Go.Ground.phase }, { on := 21, ground := Go.Ground.phase }, { on := 22, ground := Go.Ground.phase }, { on := 23, ground := Go.Ground.phase }, { on := 24, ground := Go.Ground.phase }, { on := 25, ground := Go.Ground.phase }], guard := none } : Oper)) rfl (fun K hK => ?_) AllReadyH.nil)
            refine step_store_sr rfl 29 (.tmp 9) (.tmp 37) rfl (u65.heap.size) zMsg (cpC D S ty) 29 (HM70.out.a _ rfl).1 rfl rfl sizeM rfl oneL (fun w4 hg4 hw4 hs4 => ?_)
            have hB4 : Below W0.heap.size W0 w4 := HM70.out.below.grown hw4.out HM70.out.below.size (fun k e => by injection e with e; have := (HM70.out.a _ rfl).2; omega)
            refine hK.out _ _ hB4 (fun hHeld => ?_)
            clear hK K
            refine wpAnyH_done (by kernel_rfl) ?_ _
            try (go_wp2_with fail)
            go_meet
            case rel => exact ⟨_, rfl, Lib.hid ⟨(hB4.block _ (heap_lt hZ0)).trans hZ0, hg4.out, hB0.trans (hB4.mono hB0.size), by have := heap_lt hZ0; have := (HM70.out.a _ rfl).2; omega⟩⟩
        · go_simp
          refine hK.out _ _ (HM56.out.below.alloc HM56.out.below.size _) (fun hHeld => ?_)
          clear hK K
          try simp only [Act.put, List.setIfInBounds_toArray, List.set_cons_zero, List.set_cons_succ]
          have HM72 := Lib.hid (HM56.out.withA)
          unfold zMsg at HM72
          generalize u55.alloc (.cells #[.int .i64 0, .bool false, .bool false, .bool false, .int .i64 0, .string ⟨#[]⟩, .int .i64 0, .slice none 0 0, .slice none 0 0] 29) = u71 at HM72 hHeld ⊢
          refine wpAnyH_ready (rs := [16, 21]) (by kernel_rfl) (by simp) ?_
          refine (AllReadyH.cons (o := ({ dst := some 29, op := Go.Op.load 3 (Go.Operand.tmp 28), type := 3, pos := "law.go:54", after := #[{ on := 15, ground := Go.Ground.data }], guard := none } : Oper)) rfl (fun K hK => ?_) (AllReadyH.cons (o := ({ dst := some 34, op := Go.Op.call { callee := Go.Callee.value (Go.Operand.func 25), args := #[Go.Operand.tmp 33], argTypes := #[34] }, type := 44, pos := "law.go:54", after := #[{ on := 20, ground := Go.Ground.data }, { on := 19, ground := Go.Ground.chain }], guard := none } : Oper)) rfl (fun K hK => ?_) AllReadyH.nil))
          · have d := (HM72.out.b _ rfl).1
            go_simp
            refine hK.out _ _ HM72.out.below (fun hHeld => ?_)
            clear hK K d
            try simp only [Act.put, List.setIfInBounds_toArray, List.set_cons_zero, List.set_cons_succ]
            refine wpAnyH_ready (rs := [21]) (by kernel_rfl) (by simp) ?_
            refine (AllReadyH.cons (o := ({ dst := some 34, op := Go.Op.call { callee := Go.Callee.value (Go.Operand.func 25), args := #[Go.Operand.tmp 33], argTypes := #[34] }, type := 44, pos := "law.go:54", after := #[{ on := 20, ground := Go.Ground.data }, { on := 19, ground := Go.Ground.chain }], guard := none } : Oper)) rfl (fun K hK => ?_) AllReadyH.nil)
            go_simp
            go_at_call 25
            refine (HRc.out _).mono ?_
            rintro e' u73 ⟨rfl, hbb⟩
            have HM74 := Lib.hid (HM72.out.to hbb)
            refine hK.out _ _ HM74.out.below (fun hHeld => ?_)
            clear hK K hbb
            try simp only [Act.put, List.setIfInBounds_toArray, List.set_cons_zero, List.set_cons_succ]
            refine wpAnyH_take (i := 22) (oi := ({ dst := some 35, op := Go.Op.field 44 (Go.Operand.tmp 34) 1, type := 3, pos := "law.go:54", after := #[{ on := 21, ground := Go.Ground.data }], guard := none } : Oper)) (v := .int .i64 (ty : Nat)) rfl (by kernel_rfl) (by kernel_rfl) (by kernel_rfl) (fun _ _ _ h => h) (Or.inl ⟨by rfl, fun w' hS' => ?_⟩) hHeld ?_
            · go_simp
            try simp only [Act.put, List.setIfInBounds_toArray, List.set_cons_zero, List.set_cons_succ]
            refine wpAnyH_take (i := 23) (oi := ({ dst := some 36, op := Go.Op.build 26 #[(0, Go.Operand.tmp 32), (1, Go.Operand.tmp 35)], type := 26, pos := "law.go:54", after := #[{ on := 19, ground := Go.Ground.data }, { on := 22, ground := Go.Ground.data }], guard := none } : Oper)) (v := .agg #[.string S, .int .i64 (ty : Nat)]) rfl (by kernel_rfl) (by kernel_rfl) (by kernel_rfl) (fun _ _ _ h => h) (Or.inl ⟨by rfl, fun w' hS' => ?_⟩) hHeld ?_
            · go_simp
            try simp only [Act.put, List.setIfInBounds_toArray, List.set_cons_zero, List.set_cons_succ]
            refine wpAnyH_take (i := 24) (oi := ({ dst := some 37, op := Go.Op.build 29 #[(0, Go.Operand.tmp 14), (1, Go.Operand.tmp 17), (2, Go.Operand.tmp 20), (3, Go.Operand.tmp 23), (4, Go.Operand.tmp 29), (5, Go.Operand.tmp 36)], type := 29, pos := "law.go:54", after := #[{ on := 1, ground := Go.Ground.data }, { on := 4, ground := Go.Ground.data }, { on := 7, ground := Go.Ground.data }, { on := 10, ground := Go.Ground.data }, { on := 16, ground := Go.Ground.data }, { on := 23, ground := Go.Ground.data }], guard := none } : Oper)) (v := .agg (cpC D S ty)) rfl (by kernel_rfl) (by kernel_rfl) (by kernel_rfl) (fun _ _ _ h => h) (Or.inl ⟨by rfl, fun w' hS' => ?_⟩) hHeld ?_
            · go_simp; rfl
            try simp only [Act.put, List.setIfInBounds_toArray, List.set_cons_zero, List.set_cons_succ]
            refine wpAnyH_ready (rs := [26]) (by kernel_rfl) (by simp) ?_
            refine (AllReadyH.cons (o := ({ dst := none, op := Go.Op.store 29 (Go.Operand.tmp 9) (Go.Operand.tmp 37), type := 0, pos := "law.go:54", after := #[{ on := 25, ground := Go.Ground.data }, { on := 24, ground := Go.Ground.data }, { on := 21, ground := Go.Ground.chain }, { on := 0, ground := Go.Ground.phase }, { on := 1, ground := Go.Ground.phase }, { on := 2, ground := Go.Ground.phase }, { on := 3, ground := Go.Ground.phase }, { on := 4, ground := Go.Ground.phase }, { on := 5, ground := Go.Ground.phase }, { on := 6, ground := Go.Ground.phase }, { on := 7, ground := Go.Ground.phase }, { on := 8, ground := Go.Ground.phase }, { on := 9, ground := Go.Ground.phase }, { on := 10, ground := Go.Ground.phase }, { on := 11, ground := Go.Ground.phase }, { on := 12, ground := Go.Ground.phase }, { on := 13, ground := Go.Ground.phase }, { on := 14, ground := Go.Ground.phase }, { on := 15, ground := Go.Ground.phase }, { on := 16, ground := Go.Ground.phase }, { on := 17, ground := Go.Ground.phase }, { on := 18, ground := Go.Ground.phase }, { on := 19, ground := Go.Ground.phase }, { on := 20, ground := Go.Ground.phase }, { on := 21, ground := Go.Ground.phase }, { on := 22, ground := Go.Ground.phase }, { on := 23, ground := Go.Ground.phase }, { on := 24, ground := Go.Ground.phase }, { on := 25, ground := Go.Ground.phase }], guard := none } : Oper)) rfl (fun K hK => ?_) AllReadyH.nil)
            refine step_store_sr rfl 29 (.tmp 9) (.tmp 37) rfl (u55.heap.size) zMsg (cpC D S ty) 29 (HM74.out.a _ rfl).1 rfl rfl sizeM rfl oneL (fun w4 hg4 hw4 hs4 => ?_)
            have hB4 : Below W0.heap.size W0 w4 := HM74.out.below.grown hw4.out HM74.out.below.size (fun k e => by injection e with e; have := (HM74.out.a _ rfl).2; omega)
            refine hK.out _ _ hB4 (fun hHeld => ?_)
            clear hK K
            refine wpAnyH_done (by kernel_rfl) ?_ _
            try (go_wp2_with fail)
            go_meet
            case rel => exact ⟨_, rfl, Lib.hid ⟨(hB4.block _ (heap_lt hZ0)).trans hZ0, hg4.out, hB0.trans (hB4.mono hB0.size), by have := heap_lt hZ0; have := (HM74.out.a _ rfl).2; omega⟩⟩
          · go_simp
            go_at_call 25
            refine (HRc.out _).mono ?_
            rintro e' u75 ⟨rfl, hbb⟩
            have HM76 := Lib.hid (HM72.out.to hbb)
            refine hK.out _ _ HM76.out.below (fun hHeld => ?_)
            clear hK K hbb
            try simp only [Act.put, List.setIfInBounds_toArray, List.set_cons_zero, List.set_cons_succ]
            refine wpAnyH_take (i := 22) (oi := ({ dst := some 35, op := Go.Op.field 44 (Go.Operand.tmp 34) 1, type := 3, pos := "law.go:54", after := #[{ on := 21, ground := Go.Ground.data }], guard := none } : Oper)) (v := .int .i64 (ty : Nat)) rfl (by kernel_rfl) (by kernel_rfl) (by kernel_rfl) (fun _ _ _ h => h) (Or.inl ⟨by rfl, fun w' hS' => ?_⟩) hHeld ?_
            · go_simp
            try simp only [Act.put, List.setIfInBounds_toArray, List.set_cons_zero, List.set_cons_succ]
            refine wpAnyH_take (i := 23) (oi := ({ dst := some 36, op := Go.Op.build 26 #[(0, Go.Operand.tmp 32), (1, Go.Operand.tmp 35)], type := 26, pos := "law.go:54", after := #[{ on := 19, ground := Go.Ground.data }, { on := 22, ground := Go.Ground.data }], guard := none } : Oper)) (v := .agg #[.string S, .int .i64 (ty : Nat)]) rfl (by kernel_rfl) (by kernel_rfl) (by kernel_rfl) (fun _ _ _ h => h) (Or.inl ⟨by rfl, fun w' hS' => ?_⟩) hHeld ?_
            · go_simp
            try simp only [Act.put, List.setIfInBounds_toArray, List.set_cons_zero, List.set_cons_succ]
            refine wpAnyH_ready (rs := [16]) (by kernel_rfl) (by simp) ?_
            refine (AllReadyH.cons (o := ({ dst := some 29, op := Go.Op.load 3 (Go.Operand.tmp 28), type := 3, pos := "law.go:54", after := #[{ on := 15, ground := Go.Ground.data }], guard := none } : Oper)) rfl (fun K hK => ?_) AllReadyH.nil)
            have d := (HM76.out.b _ rfl).1
            go_simp
            refine hK.out _ _ HM76.out.below (fun hHeld => ?_)
            clear hK K d
            try simp only [Act.put, List.setIfInBounds_toArray, List.set_cons_zero, List.set_cons_succ]
            refine wpAnyH_take (i := 24) (oi := ({ dst := some 37, op := Go.Op.build 29 #[(0, Go.Operand.tmp 14), (1, Go.Operand.tmp 17), (2, Go.Operand.tmp 20), (3, Go.Operand.tmp 23), (4, Go.Operand.tmp 29), (5, Go.Operand.tmp 36)], type := 29, pos := "law.go:54", after := #[{ on := 1, ground := Go.Ground.data }, { on := 4, ground := Go.Ground.data }, { on := 7, ground := Go.Ground.data }, { on := 10, ground := Go.Ground.data }, { on := 16, ground := Go.Ground.data }, { on := 23, ground := Go.Ground.data }], guard := none } : Oper)) (v := .agg (cpC D S ty)) rfl (by kernel_rfl) (by kernel_rfl) (by kernel_rfl) (fun _ _ _ h => h) (Or.inl ⟨by rfl, fun w' hS' => ?_⟩) hHeld ?_
            · go_simp; rfl
            try simp only [Act.put, List.setIfInBounds_toArray, List.set_cons_zero, List.set_cons_succ]
            refine wpAnyH_ready (rs := [26]) (by kernel_rfl) (by simp) ?_
            refine (AllReadyH.cons (o := ({ dst := none, op := Go.Op.store 29 (Go.Operand.tmp 9) (Go.Operand.tmp 37), type := 0, pos := "law.go:54", after := #[{ on := 25, ground := Go.Ground.data }, { on := 24, ground := Go.Ground.data }, { on := 21, ground := Go.Ground.chain }, { on := 0, ground := Go.Ground.phase }, { on := 1, ground := Go.Ground.phase }, { on := 2, ground := Go.Ground.phase }, { on := 3, ground := Go.Ground.phase }, { on := 4, ground := Go.Ground.phase }, { on := 5, ground := Go.Ground.phase }, { on := 6, ground := Go.Ground.phase }, { on := 7, ground := Go.Ground.phase }, { on := 8, ground := Go.Ground.phase }, { on := 9, ground := Go.Ground.phase }, { on := 10, ground := Go.Ground.phase }, { on := 11, ground := Go.Ground.phase }, { on := 12, ground := Go.Ground.phase }, { on := 13, ground := Go.Ground.phase }, { on := 14, ground := Go.Ground.phase }, { on := 15, ground := Go.Ground.phase }, { on := 16, ground := Go.Ground.phase }, { on := 17, ground := Go.Ground.phase }, { on := 18, ground := Go.Ground.phase }, { on := 19, ground := Go.Ground.phase }, { on := 20, ground := Go.Ground.phase }, { on := 21, ground := Go.Ground.phase }, { on := 22, ground := Go.Ground.phase }, { on := 23, ground := Go.Ground.phase }, { on := 24, ground := Go.Ground.phase }, { on := 25, ground := Go.Ground.phase }], guard := none } : Oper)) rfl (fun K hK => ?_) AllReadyH.nil)
            refine step_store_sr rfl 29 (.tmp 9) (.tmp 37) rfl (u55.heap.size) zMsg (cpC D S ty) 29 (HM76.out.a _ rfl).1 rfl rfl sizeM rfl oneL (fun w4 hg4 hw4 hs4 => ?_)
            have hB4 : Below W0.heap.size W0 w4 := HM76.out.below.grown hw4.out HM76.out.below.size (fun k e => by injection e with e; have := (HM76.out.a _ rfl).2; omega)
            refine hK.out _ _ hB4 (fun hHeld => ?_)
            clear hK K
            refine wpAnyH_done (by kernel_rfl) ?_ _
            try (go_wp2_with fail)
            go_meet
            case rel => exact ⟨_, rfl, Lib.hid ⟨(hB4.block _ (heap_lt hZ0)).trans hZ0, hg4.out, hB0.trans (hB4.mono hB0.size), by have := heap_lt hZ0; have := (HM76.out.a _ rfl).2; omega⟩⟩
      · go_simp
        go_at_call 25
        refine (HRc.out _).mono ?_
        rintro e' u77 ⟨rfl, hbb⟩
        have HM78 := Lib.hid (HM54.out.to hbb)
        refine hK.out _ _ HM78.out.below (fun hHeld => ?_)
        clear hK K hbb
        try simp only [Act.put, List.setIfInBounds_toArray, List.set_cons_zero, List.set_cons_succ]
        refine wpAnyH_take (i := 22) (oi := ({ dst := some 35, op := Go.Op.field 44 (Go.Operand.tmp 34) 1, type := 3, pos := "law.go:54", after := #[{ on := 21, ground := Go.Ground.data }], guard := none } : Oper)) (v := .int .i64 (ty : Nat)) rfl (by kernel_rfl) (by kernel_rfl) (by kernel_rfl) (fun _ _ _ h => h) (Or.inl ⟨by rfl, fun w' hS' => ?_⟩) hHeld ?_
        · go_simp
        try simp only [Act.put, List.setIfInBounds_toArray, List.set_cons_zero, List.set_cons_succ]
        refine wpAnyH_take (i := 23) (oi := ({ dst := some 36, op := Go.Op.build 26 #[(0, Go.Operand.tmp 32), (1, Go.Operand.tmp 35)], type := 26, pos := "law.go:54", after := #[{ on := 19, ground := Go.Ground.data }, { on := 22, ground := Go.Ground.data }], guard := none } : Oper)) (v := .agg #[.string S, .int .i64 (ty : Nat)]) rfl (by kernel_rfl) (by kernel_rfl) (by kernel_rfl) (fun _ _ _ h => h) (Or.inl ⟨by rfl, fun w' hS' => ?_⟩) hHeld ?_
        · go_simp
        try simp only [Act.put, List.setIfInBounds_toArray, List.set_cons_zero, List.set_cons_succ]
        refine wpAnyH_ready (rs := [11, 25]) (by kernel_rfl) (by simp) ?_
        refine (AllReadyH.cons (o := ({ dst := some 24, op := Go.Op.buildSlice 60 4 #[(0, Go.Operand.const (Go.Value.int Go.IntKind.i64 0)), (1, Go.Operand.const (Go.Value.int Go.IntKind.i64 0)), (2, Go.Operand.const (Go.Value.int Go.IntKind.i64 3)), (3, Go.Operand.const (Go.Value.int Go.IntKind.i64 2))], type := 60, pos := "law.go:54", after := #[], guard := none } : Oper)) rfl (fun K hK => ?_) (AllReadyH.cons (o := ({ dst := some 9, op := Go.Op.alloc 29, type := 0, pos := "law.go:54", after := #[], guard := none } : Oper)) rfl (fun K hK => ?_) AllReadyH.nil))
        · go_simp
          refine hK.out _ _ (HM78.out.below.alloc HM78.out.below.size _) (fun hHeld => ?_)
          clear hK K
          try simp only [Act.put, List.setIfInBounds_toArray, List.set_cons_zero, List.set_cons_succ]
          have HM80 := Lib.hid (HM78.out.withB)
          generalize u77.alloc (.cells #[.int .i64 0, .int .i64 0, .int .i64 3, .int .i64 2] 3) = u79 at HM80 hHeld ⊢
          refine wpAnyH_take (i := 15) (oi := ({ dst := some 28, op := Go.Op.indexAddr 60 (Go.Operand.tmp 24) (Go.Operand.tmp 27), type := 0, pos := "law.go:54", after := #[{ on := 11, ground := Go.Ground.data }, { on := 14, ground := Go.Ground.data }], guard := none } : Oper)) (v := .pointer (some ⟨u77.heap.size, 0, none⟩)) rfl (by kernel_rfl) (by kernel_rfl) (by kernel_rfl) (fun _ _ _ h => h) (Or.inl ⟨by rfl, fun w' hS' => ?_⟩) hHeld ?_
          · go_simp
          try simp only [Act.put, List.setIfInBounds_toArray, List.set_cons_zero, List.set_cons_succ]
          refine wpAnyH_ready (rs := [16, 25]) (by kernel_rfl) (by simp) ?_
          refine (AllReadyH.cons (o := ({ dst := some 29, op := Go.Op.load 3 (Go.Operand.tmp 28), type := 3, pos := "law.go:54", after := #[{ on := 15, ground := Go.Ground.data }], guard := none } : Oper)) rfl (fun K hK => ?_) (AllReadyH.cons (o := ({ dst := some 9, op := Go.Op.alloc 29, type := 0, pos := "law.go:54", after := #[], guard := none } : Oper)) rfl (fun K hK => ?_) AllReadyH.nil))
          · have d := (HM80.out.b _ rfl).1
            go_simp
            refine hK.out _ _ HM80.out.below (fun hHeld => ?_)
            clear hK K d
            try simp only [Act.put, List.setIfInBounds_toArray, List.set_cons_zero, List.set_cons_succ]
            refine wpAnyH_take (i := 24) (oi := ({ dst := some 37, op := Go.Op.build 29 #[(0, Go.Operand.tmp 14), (1, Go.Operand.tmp 17), (2, Go.Operand.tmp 20), (3, Go.Operand.tmp 23), (4, Go.Operand.tmp 29), (5, Go.Operand.tmp 36)], type := 29, pos := "law.go:54", after := #[{ on := 1, ground := Go.Ground.data }, { on := 4, ground := Go.Ground.data }, { on := 7, ground := Go.Ground.data }, { on := 10, ground := Go.Ground.data }, { on := 16, ground := Go.Ground.data }, { on := 23, ground := Go.Ground.data }], guard := none } : Oper)) (v := .agg (cpC D S ty)) rfl (by kernel_rfl) (by kernel_rfl) (by kernel_rfl) (fun _ _ _ h => h) (Or.inl ⟨by rfl, fun w' hS' => ?_⟩) hHeld ?_
            · go_simp; rfl
            try simp only [Act.put, List.setIfInBounds_toArray, List.set_cons_zero, List.set_cons_succ]
            refine wpAnyH_ready (rs := [25]) (by kernel_rfl) (by simp) ?_
            refine (AllReadyH.cons (o := ({ dst := some 9, op := Go.Op.alloc 29, type := 0, pos := "law.go:54", after := #[], guard := none } : Oper)) rfl (fun K hK => ?_) AllReadyH.nil)
            go_simp
            refine hK.out _ _ (HM80.out.below.alloc HM80.out.below.size _) (fun hHeld => ?_)
            clear hK K
            try simp only [Act.put, List.setIfInBounds_toArray, List.set_cons_zero, List.set_cons_succ]
            have HM82 := Lib.hid (HM80.out.withA)
            unfold zMsg at HM82
            generalize u79.alloc (.cells #[.int .i64 0, .bool false, .bool false, .bool false, .int .i64 0, .string ⟨#[]⟩, .int .i64 0, .slice none 0 0, .slice none 0 0] 29) = u81 at HM82 hHeld ⊢
            refine wpAnyH_ready (rs := [26]) (by kernel_rfl) (by simp) ?_
            refine (AllReadyH.cons (o := ({ dst := none, op := Go.Op.store 29 (Go.Operand.tmp 9) (Go.Operand.tmp 37), type := 0, pos := "law.go:54", after := #[{ on := 25, ground := Go.Ground.data }, { on := 24, ground := Go.Ground.data }, { on := 21, ground := Go.Ground.chain }, { on := 0, ground := Go.Ground.phase }, { on := 1, ground := Go.Ground.phase }, { on := 2, ground := Go.Ground.phase }, { on := 3, ground := Go.Ground.phase }, { on := 4, ground := Go.Ground.phase }, { on := 5, ground := Go.Ground.phase }, { on := 6, ground := Go.Ground.phase }, { on := 7, ground := Go.Ground.phase }, { on := 8, ground := Go.Ground.phase }, { on := 9, ground := Go.Ground.phase }, { on := 10, ground := Go.Ground.phase }, { on := 11, ground := Go.Ground.phase }, { on := 12, ground := Go.Ground.phase }, { on := 13, ground := Go.Ground.phase }, { on := 14, ground := Go.Ground.phase }, { on := 15, ground := Go.Ground.phase }, { on := 16, ground := Go.Ground.phase }, { on := 17, ground := Go.Ground.phase }, { on := 18, ground := Go.Ground.phase }, { on := 19, ground := Go.Ground.phase }, { on := 20, ground := Go.Ground.phase }, { on := 21, ground := Go.Ground.phase }, { on := 22, ground := Go.Ground.phase }, { on := 23, ground := Go.Ground.phase }, { on := 24, ground := Go.Ground.phase }, { on := 25, ground := Go.Ground.phase }], guard := none } : Oper)) rfl (fun K hK => ?_) AllReadyH.nil)
            refine step_store_sr rfl 29 (.tmp 9) (.tmp 37) rfl (u79.heap.size) zMsg (cpC D S ty) 29 (HM82.out.a _ rfl).1 rfl rfl sizeM rfl oneL (fun w4 hg4 hw4 hs4 => ?_)
            have hB4 : Below W0.heap.size W0 w4 := HM82.out.below.grown hw4.out HM82.out.below.size (fun k e => by injection e with e; have := (HM82.out.a _ rfl).2; omega)
            refine hK.out _ _ hB4 (fun hHeld => ?_)
            clear hK K
            refine wpAnyH_done (by kernel_rfl) ?_ _
            try (go_wp2_with fail)
            go_meet
            case rel => exact ⟨_, rfl, Lib.hid ⟨(hB4.block _ (heap_lt hZ0)).trans hZ0, hg4.out, hB0.trans (hB4.mono hB0.size), by have := heap_lt hZ0; have := (HM82.out.a _ rfl).2; omega⟩⟩
          · go_simp
            refine hK.out _ _ (HM80.out.below.alloc HM80.out.below.size _) (fun hHeld => ?_)
            clear hK K
            try simp only [Act.put, List.setIfInBounds_toArray, List.set_cons_zero, List.set_cons_succ]
            have HM84 := Lib.hid (HM80.out.withA)
            unfold zMsg at HM84
            generalize u79.alloc (.cells #[.int .i64 0, .bool false, .bool false, .bool false, .int .i64 0, .string ⟨#[]⟩, .int .i64 0, .slice none 0 0, .slice none 0 0] 29) = u83 at HM84 hHeld ⊢
            refine wpAnyH_ready (rs := [16]) (by kernel_rfl) (by simp) ?_
            refine (AllReadyH.cons (o := ({ dst := some 29, op := Go.Op.load 3 (Go.Operand.tmp 28), type := 3, pos := "law.go:54", after := #[{ on := 15, ground := Go.Ground.data }], guard := none } : Oper)) rfl (fun K hK => ?_) AllReadyH.nil)
            have d := (HM84.out.b _ rfl).1
            go_simp
            refine hK.out _ _ HM84.out.below (fun hHeld => ?_)
            clear hK K d
            try simp only [Act.put, List.setIfInBounds_toArray, List.set_cons_zero, List.set_cons_succ]
            refine wpAnyH_take (i := 24) (oi := ({ dst := some 37, op := Go.Op.build 29 #[(0, Go.Operand.tmp 14), (1, Go.Operand.tmp 17), (2, Go.Operand.tmp 20), (3, Go.Operand.tmp 23), (4, Go.Operand.tmp 29), (5, Go.Operand.tmp 36)], type := 29, pos := "law.go:54", after := #[{ on := 1, ground := Go.Ground.data }, { on := 4, ground := Go.Ground.data }, { on := 7, ground := Go.Ground.data }, { on := 10, ground := Go.Ground.data }, { on := 16, ground := Go.Ground.data }, { on := 23, ground := Go.Ground.data }], guard := none } : Oper)) (v := .agg (cpC D S ty)) rfl (by kernel_rfl) (by kernel_rfl) (by kernel_rfl) (fun _ _ _ h => h) (Or.inl ⟨by rfl, fun w' hS' => ?_⟩) hHeld ?_
            · go_simp; rfl
            try simp only [Act.put, List.setIfInBounds_toArray, List.set_cons_zero, List.set_cons_succ]
            refine wpAnyH_ready (rs := [26]) (by kernel_rfl) (by simp) ?_
            refine (AllReadyH.cons (o := ({ dst := none, op := Go.Op.store 29 (Go.Operand.tmp 9) (Go.Operand.tmp 37), type := 0, pos := "law.go:54", after := #[{ on := 25, ground := Go.Ground.data }, { on := 24, ground := Go.Ground.data }, { on := 21, ground := Go.Ground.chain }, { on := 0, ground := Go.Ground.phase }, { on := 1, ground := Go.Ground.phase }, { on := 2, ground := Go.Ground.phase }, { on := 3, ground := Go.Ground.phase }, { on := 4, ground := Go.Ground.phase }, { on := 5, ground := Go.Ground.phase }, { on := 6, ground := Go.Ground.phase }, { on := 7, ground := Go.Ground.phase }, { on := 8, ground := Go.Ground.phase }, { on := 9, ground := Go.Ground.phase }, { on := 10, ground := Go.Ground.phase }, { on := 11, ground := Go.Ground.phase }, { on := 12, ground := Go.Ground.phase }, { on := 13, ground := Go.Ground.phase }, { on := 14, ground := Go.Ground.phase }, { on := 15, ground := Go.Ground.phase }, { on := 16, ground := Go.Ground.phase }, { on := 17, ground := Go.Ground.phase }, { on := 18, ground := Go.Ground.phase }, { on := 19, ground := Go.Ground.phase }, { on := 20, ground := Go.Ground.phase }, { on := 21, ground := Go.Ground.phase }, { on := 22, ground := Go.Ground.phase }, { on := 23, ground := Go.Ground.phase }, { on := 24, ground := Go.Ground.phase }, { on := 25, ground := Go.Ground.phase }], guard := none } : Oper)) rfl (fun K hK => ?_) AllReadyH.nil)
            refine step_store_sr rfl 29 (.tmp 9) (.tmp 37) rfl (u79.heap.size) zMsg (cpC D S ty) 29 (HM84.out.a _ rfl).1 rfl rfl sizeM rfl oneL (fun w4 hg4 hw4 hs4 => ?_)
            have hB4 : Below W0.heap.size W0 w4 := HM84.out.below.grown hw4.out HM84.out.below.size (fun k e => by injection e with e; have := (HM84.out.a _ rfl).2; omega)
            refine hK.out _ _ hB4 (fun hHeld => ?_)
            clear hK K
            refine wpAnyH_done (by kernel_rfl) ?_ _
            try (go_wp2_with fail)
            go_meet
            case rel => exact ⟨_, rfl, Lib.hid ⟨(hB4.block _ (heap_lt hZ0)).trans hZ0, hg4.out, hB0.trans (hB4.mono hB0.size), by have := heap_lt hZ0; have := (HM84.out.a _ rfl).2; omega⟩⟩
        · go_simp
          refine hK.out _ _ (HM78.out.below.alloc HM78.out.below.size _) (fun hHeld => ?_)
          clear hK K
          try simp only [Act.put, List.setIfInBounds_toArray, List.set_cons_zero, List.set_cons_succ]
          have HM86 := Lib.hid (HM78.out.withA)
          unfold zMsg at HM86
          generalize u77.alloc (.cells #[.int .i64 0, .bool false, .bool false, .bool false, .int .i64 0, .string ⟨#[]⟩, .int .i64 0, .slice none 0 0, .slice none 0 0] 29) = u85 at HM86 hHeld ⊢
          refine wpAnyH_ready (rs := [11]) (by kernel_rfl) (by simp) ?_
          refine (AllReadyH.cons (o := ({ dst := some 24, op := Go.Op.buildSlice 60 4 #[(0, Go.Operand.const (Go.Value.int Go.IntKind.i64 0)), (1, Go.Operand.const (Go.Value.int Go.IntKind.i64 0)), (2, Go.Operand.const (Go.Value.int Go.IntKind.i64 3)), (3, Go.Operand.const (Go.Value.int Go.IntKind.i64 2))], type := 60, pos := "law.go:54", after := #[], guard := none } : Oper)) rfl (fun K hK => ?_) AllReadyH.nil)
          go_simp
          refine hK.out _ _ (HM86.out.below.alloc HM86.out.below.size _) (fun hHeld => ?_)
          clear hK K
          try simp only [Act.put, List.setIfInBounds_toArray, List.set_cons_zero, List.set_cons_succ]
          have HM88 := Lib.hid (HM86.out.withB)
          generalize u85.alloc (.cells #[.int .i64 0, .int .i64 0, .int .i64 3, .int .i64 2] 3) = u87 at HM88 hHeld ⊢
          refine wpAnyH_take (i := 15) (oi := ({ dst := some 28, op := Go.Op.indexAddr 60 (Go.Operand.tmp 24) (Go.Operand.tmp 27), type := 0, pos := "law.go:54", after := #[{ on := 11, ground := Go.Ground.data }, { on := 14, ground := Go.Ground.data }], guard := none } : Oper)) (v := .pointer (some ⟨u85.heap.size, 0, none⟩)) rfl (by kernel_rfl) (by kernel_rfl) (by kernel_rfl) (fun _ _ _ h => h) (Or.inl ⟨by rfl, fun w' hS' => ?_⟩) hHeld ?_
          · go_simp
          try simp only [Act.put, List.setIfInBounds_toArray, List.set_cons_zero, List.set_cons_succ]
          refine wpAnyH_ready (rs := [16]) (by kernel_rfl) (by simp) ?_
          refine (AllReadyH.cons (o := ({ dst := some 29, op := Go.Op.load 3 (Go.Operand.tmp 28), type := 3, pos := "law.go:54", after := #[{ on := 15, ground := Go.Ground.data }], guard := none } : Oper)) rfl (fun K hK => ?_) AllReadyH.nil)
          have d := (HM88.out.b _ rfl).1
          go_simp
          refine hK.out _ _ HM88.out.below (fun hHeld => ?_)
          clear hK K d
          try simp only [Act.put, List.setIfInBounds_toArray, List.set_cons_zero, List.set_cons_succ]
          refine wpAnyH_take (i := 24) (oi := ({ dst := some 37, op := Go.Op.build 29 #[(0, Go.Operand.tmp 14), (1, Go.Operand.tmp 17), (2, Go.Operand.tmp 20), (3, Go.Operand.tmp 23), (4, Go.Operand.tmp 29), (5, Go.Operand.tmp 36)], type := 29, pos := "law.go:54", after := #[{ on := 1, ground := Go.Ground.data }, { on := 4, ground := Go.Ground.data }, { on := 7, ground := Go.Ground.data }, { on := 10, ground := Go.Ground.data }, { on := 16, ground := Go.Ground.data }, { on := 23, ground := Go.Ground.data }], guard := none } : Oper)) (v := .agg (cpC D S ty)) rfl (by kernel_rfl) (by kernel_rfl) (by kernel_rfl) (fun _ _ _ h => h) (Or.inl ⟨by rfl, fun w' hS' => ?_⟩) hHeld ?_
          · go_simp; rfl
          try simp only [Act.put, List.setIfInBounds_toArray, List.set_cons_zero, List.set_cons_succ]
          refine wpAnyH_ready (rs := [26]) (by kernel_rfl) (by simp) ?_
          refine (AllReadyH.cons (o := ({ dst := none, op := Go.Op.store 29 (Go.Operand.tmp 9) (Go.Operand.tmp 37), type := 0, pos := "law.go:54", after := #[{ on := 25, ground := Go.Ground.data }, { on := 24, ground := Go.Ground.data }, { on := 21, ground := Go.Ground.chain }, { on := 0, ground := Go.Ground.phase }, { on := 1, ground := Go.Ground.phase }, { on := 2, ground := Go.Ground.phase }, { on := 3, ground := Go.Ground.phase }, { on := 4, ground := Go.Ground.phase }, { on := 5, ground := Go.Ground.phase }, { on := 6, ground := Go.Ground.phase }, { on := 7, ground := Go.Ground.phase }, { on := 8, ground := Go.Ground.phase }, { on := 9, ground := Go.Ground.phase }, { on := 10, ground := Go.Ground.phase }, { on := 11, ground := Go.Ground.phase }, { on := 12, ground := Go.Ground.phase }, { on := 13, ground := Go.Ground.phase }, { on := 14, ground := Go.Ground.phase }, { on := 15, ground := Go.Ground.phase }, { on := 16, ground := Go.Ground.phase }, { on := 17, ground := Go.Ground.phase }, { on := 18, ground := Go.Ground.phase }, { on := 19, ground := Go.Ground.phase }, { on := 20, ground := Go.Ground.phase }, { on := 21, ground := Go.Ground.phase }, { on := 22, ground := Go.Ground.phase }, { on := 23, ground := Go.Ground.phase }, { on := 24, ground := Go.Ground.phase }, { on := 25, ground := Go.Ground.phase }], guard := none } : Oper)) rfl (fun K hK => ?_) AllReadyH.nil)
          refine step_store_sr rfl 29 (.tmp 9) (.tmp 37) rfl (u77.heap.size) zMsg (cpC D S ty) 29 (HM88.out.a _ rfl).1 rfl rfl sizeM rfl oneL (fun w4 hg4 hw4 hs4 => ?_)
          have hB4 : Below W0.heap.size W0 w4 := HM88.out.below.grown hw4.out HM88.out.below.size (fun k e => by injection e with e; have := (HM88.out.a _ rfl).2; omega)
          refine hK.out _ _ hB4 (fun hHeld => ?_)
          clear hK K
          refine wpAnyH_done (by kernel_rfl) ?_ _
          try (go_wp2_with fail)
          go_meet
          case rel => exact ⟨_, rfl, Lib.hid ⟨(hB4.block _ (heap_lt hZ0)).trans hZ0, hg4.out, hB0.trans (hB4.mono hB0.size), by have := heap_lt hZ0; have := (HM88.out.a _ rfl).2; omega⟩⟩
      · go_simp
        refine hK.out _ _ (HM54.out.below.alloc HM54.out.below.size _) (fun hHeld => ?_)
        clear hK K
        try simp only [Act.put, List.setIfInBounds_toArray, List.set_cons_zero, List.set_cons_succ]
        have HM90 := Lib.hid (HM54.out.withA)
        unfold zMsg at HM90
        generalize u53.alloc (.cells #[.int .i64 0, .bool false, .bool false, .bool false, .int .i64 0, .string ⟨#[]⟩, .int .i64 0, .slice none 0 0, .slice none 0 0] 29) = u89 at HM90 hHeld ⊢
        refine wpAnyH_ready (rs := [11, 21]) (by kernel_rfl) (by simp) ?_
        refine (AllReadyH.cons (o := ({ dst := some 24, op := Go.Op.buildSlice 60 4 #[(0, Go.Operand.const (Go.Value.int Go.IntKind.i64 0)), (1, Go.Operand.const (Go.Value.int Go.IntKind.i64 0)), (2, Go.Operand.const (Go.Value.int Go.IntKind.i64 3)), (3, Go.Operand.const (Go.Value.int Go.IntKind.i64 2))], type := 60, pos := "law.go:54", after := #[], guard := none } : Oper)) rfl (fun K hK => ?_) (AllReadyH.cons (o := ({ dst := some 34, op := Go.Op.call { callee := Go.Callee.value (Go.Operand.func 25), args := #[Go.Operand.tmp 33], argTypes := #[34] }, type := 44, pos := "law.go:54", after := #[{ on := 20, ground := Go.Ground.data }, { on := 19, ground := Go.Ground.chain }], guard := none } : Oper)) rfl (fun K hK => ?_) AllReadyH.nil))
        · go_simp
          refine hK.out _ _ (HM90.out.below.alloc HM90.out.below.size _) (fun hHeld => ?_)
          clear hK K
          try simp only [Act.put, List.setIfInBounds_toArray, List.set_cons_zero, List.set_cons_succ]
          have HM92 := Lib.hid (HM90.out.withB)
          generalize u89.alloc (.cells #[.int .i64 0, .int .i64 0, .int .i64 3, .int .i64 2] 3) = u91 at HM92 hHeld ⊢
          refine wpAnyH_take (i := 15) (oi := ({ dst := some 28, op := Go.Op.indexAddr 60 (Go.Operand.tmp 24) (Go.Operand.tmp 27), type := 0, pos := "law.go:54", after := #[{ on := 11, ground := Go.Ground.data }, { on := 14, ground := Go.Ground.data }], guard := none } : Oper)) (v := .pointer (some ⟨u89.heap.size, 0, none⟩)) rfl (by kernel_rfl) (by kernel_rfl) (by kernel_rfl) (fun _ _ _ h => h) (Or.inl ⟨by rfl, fun w' hS' => ?_⟩) hHeld ?_
          · go_simp
          try simp only [Act.put, List.setIfInBounds_toArray, List.set_cons_zero, List.set_cons_succ]
          refine wpAnyH_ready (rs := [16, 21]) (by kernel_rfl) (by simp) ?_
          refine (AllReadyH.cons (o := ({ dst := some 29, op := Go.Op.load 3 (Go.Operand.tmp 28), type := 3, pos := "law.go:54", after := #[{ on := 15, ground := Go.Ground.data }], guard := none } : Oper)) rfl (fun K hK => ?_) (AllReadyH.cons (o := ({ dst := some 34, op := Go.Op.call { callee := Go.Callee.value (Go.Operand.func 25), args := #[Go.Operand.tmp 33], argTypes := #[34] }, type := 44, pos := "law.go:54", after := #[{ on := 20, ground := Go.Ground.data }, { on := 19, ground := Go.Ground.chain }], guard := none } : Oper)) rfl (fun K hK => ?_) AllReadyH.nil))
          · have d := (HM92.out.b _ rfl).1
            go_simp
            refine hK.out _ _ HM92.out.below (fun hHeld => ?_)
            clear hK K d
            try simp only [Act.put, List.setIfInBounds_toArray, List.set_cons_zero, List.set_cons_succ]
            refine wpAnyH_ready (rs := [21]) (by kernel_rfl) (by simp) ?_
            refine (AllReadyH.cons (o := ({ dst := some 34, op := Go.Op.call { callee := Go.Callee.value (Go.Operand.func 25), args := #[Go.Operand.tmp 33], argTypes := #[34] }, type := 44, pos := "law.go:54", after := #[{ on := 20, ground := Go.Ground.data }, { on := 19, ground := Go.Ground.chain }], guard := none } : Oper)) rfl (fun K hK => ?_) AllReadyH.nil)
            go_simp
            go_at_call 25
            refine (HRc.out _).mono ?_
            rintro e' u93 ⟨rfl, hbb⟩
            have HM94 := Lib.hid (HM92.out.to hbb)
            refine hK.out _ _ HM94.out.below (fun hHeld => ?_)
            clear hK K hbb
            try simp only [Act.put, List.setIfInBounds_toArray, List.set_cons_zero, List.set_cons_succ]
            refine wpAnyH_take (i := 22) (oi := ({ dst := some 35, op := Go.Op.field 44 (Go.Operand.tmp 34) 1, type := 3, pos := "law.go:54", after := #[{ on := 21, ground := Go.Ground.data }], guard := none } : Oper)) (v := .int .i64 (ty : Nat)) rfl (by kernel_rfl) (by kernel_rfl) (by kernel_rfl) (fun _ _ _ h => h) (Or.inl ⟨by rfl, fun w' hS' => ?_⟩) hHeld ?_
            · go_simp
            try simp only [Act.put, List.setIfInBounds_toArray, List.set_cons_zero, List.set_cons_succ]
            refine wpAnyH_take (i := 23) (oi := ({ dst := some 36, op := Go.Op.build 26 #[(0, Go.Operand.tmp 32), (1, Go.Operand.tmp 35)], type := 26, pos := "law.go:54", after := #[{ on := 19, ground := Go.Ground.data }, { on := 22, ground := Go.Ground.data }], guard := none } : Oper)) (v := .agg #[.string S, .int .i64 (ty : Nat)]) rfl (by kernel_rfl) (by kernel_rfl) (by kernel_rfl) (fun _ _ _ h => h) (Or.inl ⟨by rfl, fun w' hS' => ?_⟩) hHeld ?_
            · go_simp
            try simp only [Act.put, List.setIfInBounds_toArray, List.set_cons_zero, List.set_cons_succ]
            refine wpAnyH_take (i := 24) (oi := ({ dst := some 37, op := Go.Op.build 29 #[(0, Go.Operand.tmp 14), (1, Go.Operand.tmp 17), (2, Go.Operand.tmp 20), (3, Go.Operand.tmp 23), (4, Go.Operand.tmp 29), (5, Go.Operand.tmp 36)], type := 29, pos := "law.go:54", after := #[{ on := 1, ground := Go.Ground.data }, { on := 4, ground := Go.Ground.data }, { on := 7, ground := Go.Ground.data }, { on := 10, ground := Go.Ground.data }, { on := 16, ground := Go.Ground.data }, { on := 23, ground := Go.Ground.data }], guard := none } : Oper)) (v := .agg (cpC D S ty)) rfl (by kernel_rfl) (by kernel_rfl) (by kernel_rfl) (fun _ _ _ h => h) (Or.inl ⟨by rfl, fun w' hS' => ?_⟩) hHeld ?_
            · go_simp; rfl
            try simp only [Act.put, List.setIfInBounds_toArray, List.set_cons_zero, List.set_cons_succ]
            refine wpAnyH_ready (rs := [26]) (by kernel_rfl) (by simp) ?_
            refine (AllReadyH.cons (o := ({ dst := none, op := Go.Op.store 29 (Go.Operand.tmp 9) (Go.Operand.tmp 37), type := 0, pos := "law.go:54", after := #[{ on := 25, ground := Go.Ground.data }, { on := 24, ground := Go.Ground.data }, { on := 21, ground := Go.Ground.chain }, { on := 0, ground := Go.Ground.phase }, { on := 1, ground := Go.Ground.phase }, { on := 2, ground := Go.Ground.phase }, { on := 3, ground := Go.Ground.phase }, { on := 4, ground := Go.Ground.phase }, { on := 5, ground := Go.Ground.phase }, { on := 6, ground := Go.Ground.phase }, { on := 7, ground := Go.Ground.phase }, { on := 8, ground := Go.Ground.phase }, { on := 9, ground := Go.Ground.phase }, { on := 10, ground := Go.Ground.phase }, { on := 11, ground := Go.Ground.phase }, { on := 12, ground := Go.Ground.phase }, { on := 13, ground := Go.Ground.phase }, { on := 14, ground := Go.Ground.phase }, { on := 15, ground := Go.Ground.phase }, { on := 16, ground := Go.Ground.phase }, { on := 17, ground := Go.Ground.phase }, { on := 18, ground := Go.Ground.phase }, { on := 19, ground := Go.Ground.phase }, { on := 20, ground := Go.Ground.phase }, { on := 21, ground := Go.Ground.phase }, { on := 22, ground := Go.Ground.phase }, { on := 23, ground := Go.Ground.phase }, { on := 24, ground := Go.Ground.phase }, { on := 25, ground := Go.Ground.phase }], guard := none } : Oper)) rfl (fun K hK => ?_) AllReadyH.nil)
            refine step_store_sr rfl 29 (.tmp 9) (.tmp 37) rfl (u53.heap.size) zMsg (cpC D S ty) 29 (HM94.out.a _ rfl).1 rfl rfl sizeM rfl oneL (fun w4 hg4 hw4 hs4 => ?_)
            have hB4 : Below W0.heap.size W0 w4 := HM94.out.below.grown hw4.out HM94.out.below.size (fun k e => by injection e with e; have := (HM94.out.a _ rfl).2; omega)
            refine hK.out _ _ hB4 (fun hHeld => ?_)
            clear hK K
            refine wpAnyH_done (by kernel_rfl) ?_ _
            try (go_wp2_with fail)
            go_meet
            case rel => exact ⟨_, rfl, Lib.hid ⟨(hB4.block _ (heap_lt hZ0)).trans hZ0, hg4.out, hB0.trans (hB4.mono hB0.size), by have := heap_lt hZ0; have := (HM94.out.a _ rfl).2; omega⟩⟩
          · go_simp
            go_at_call 25
            refine (HRc.out _).mono ?_
            rintro e' u95 ⟨rfl, hbb⟩
            have HM96 := Lib.hid (HM92.out.to hbb)
            refine hK.out _ _ HM96.out.below (fun hHeld => ?_)
            clear hK K hbb
            try simp only [Act.put, List.setIfInBounds_toArray, List.set_cons_zero, List.set_cons_succ]
            refine wpAnyH_take (i := 22) (oi := ({ dst := some 35, op := Go.Op.field 44 (Go.Operand.tmp 34) 1, type := 3, pos := "law.go:54", after := #[{ on := 21, ground := Go.Ground.data }], guard := none } : Oper)) (v := .int .i64 (ty : Nat)) rfl (by kernel_rfl) (by kernel_rfl) (by kernel_rfl) (fun _ _ _ h => h) (Or.inl ⟨by rfl, fun w' hS' => ?_⟩) hHeld ?_
            · go_simp
            try simp only [Act.put, List.setIfInBounds_toArray, List.set_cons_zero, List.set_cons_succ]
            refine wpAnyH_take (i := 23) (oi := ({ dst := some 36, op := Go.Op.build 26 #[(0, Go.Operand.tmp 32), (1, Go.Operand.tmp 35)], type := 26, pos := "law.go:54", after := #[{ on := 19, ground := Go.Ground.data }, { on := 22, ground := Go.Ground.data }], guard := none } : Oper)) (v := .agg #[.string S, .int .i64 (ty : Nat)]) rfl (by kernel_rfl) (by kernel_rfl) (by kernel_rfl) (fun _ _ _ h => h) (Or.inl ⟨by rfl, fun w' hS' => ?_⟩) hHeld ?_
            · go_simp
            try simp only [Act.put, List.setIfInBounds_toArray, List.set_cons_zero, List.set_cons_succ]
            refine wpAnyH_ready (rs := [16]) (by kernel_rfl) (by simp) ?_
            refine (AllReadyH.cons (o := ({ dst := some 29, op := Go.Op.load 3 (Go.Operand.tmp 28), type := 3, pos := "law.go:54", after := #[{ on := 15, ground := Go.Ground.data }], guard := none } : Oper)) rfl (fun K hK => ?_) AllReadyH.nil)
            have d := (HM96.out.b _ rfl).1
            go_simp
            refine hK.out _ _ HM96.out.below (fun hHeld => ?_)
            clear hK K d
            try simp only [Act.put, List.setIfInBounds_toArray, List.set_cons_zero, List.set_cons_succ]
            refine wpAnyH_take (i := 24) (oi := ({ dst := some 37, op := Go.Op.build 29 #[(0, Go.Operand.tmp 14), (1, Go.Operand.tmp 17), (2, Go.Operand.tmp 20), (3, Go.Operand.tmp 23), (4, Go.Operand.tmp 29), (5, Go.Operand.tmp 36)], type := 29, pos := "law.go:54", after := #[{ on := 1, ground := Go.Ground.data }, { on := 4, ground := Go.Ground.data }, { on := 7, ground := Go.Ground.data }, { on := 10, ground := Go.Ground.data }, { on := 16, ground := Go.Ground.data }, { on := 23, ground := Go.Ground.data }], guard := none } : Oper)) (v := .agg (cpC D S ty)) rfl (by kernel_rfl) (by kernel_rfl) (by kernel_rfl) (fun _ _ _ h => h) (Or.inl ⟨by rfl, fun w' hS' => ?_⟩) hHeld ?_
            · go_simp; rfl
            try simp only [Act.put, List.setIfInBounds_toArray, List.set_cons_zero, List.set_cons_succ]
            refine wpAnyH_ready (rs := [26]) (by kernel_rfl) (by simp) ?_
            refine (AllReadyH.cons (o := ({ dst := none, op := Go.Op.store 29 (Go.Operand.tmp 9) (Go.Operand.tmp 37), type := 0, pos := "law.go:54", after := #[{ on := 25, ground := Go.Ground.data }, { on := 24, ground := Go.Ground.data }, { on := 21, ground := Go.Ground.chain }, { on := 0, ground := Go.Ground.phase }, { on := 1, ground := Go.Ground.phase }, { on := 2, ground := Go.Ground.phase }, { on := 3, ground := Go.Ground.phase }, { on := 4, ground := Go.Ground.phase }, { on := 5, ground := Go.Ground.phase }, { on := 6, ground := Go.Ground.phase }, { on := 7, ground := Go.Ground.phase }, { on := 8, ground := Go.Ground.phase }, { on := 9, ground := Go.Ground.phase }, { on := 10, ground := Go.Ground.phase }, { on := 11, ground := Go.Ground.phase }, { on := 12, ground := Go.Ground.phase }, { on := 13, ground := Go.Ground.phase }, { on := 14, ground := Go.Ground.phase }, { on := 15, ground := Go.Ground.phase }, { on := 16, ground := Go.Ground.phase }, { on := 17, ground := Go.Ground.phase }, { on := 18, ground := Go.Ground.phase }, { on := 19, ground := Go.Ground.phase }, { on := 20, ground := Go.Ground.phase }, { on := 21, ground := Go.Ground.phase }, { on := 22, ground := Go.Ground.phase }, { on := 23, ground := Go.Ground.phase }, { on := 24, ground := Go.Ground.phase }, { on := 25, ground := Go.Ground.phase }], guard := none } : Oper)) rfl (fun K hK => ?_) AllReadyH.nil)
            refine step_store_sr rfl 29 (.tmp 9) (.tmp 37) rfl (u53.heap.size) zMsg (cpC D S ty) 29 (HM96.out.a _ rfl).1 rfl rfl sizeM rfl oneL (fun w4 hg4 hw4 hs4 => ?_)
            have hB4 : Below W0.heap.size W0 w4 := HM96.out.below.grown hw4.out HM96.out.below.size (fun k e => by injection e with e; have := (HM96.out.a _ rfl).2; omega)
            refine hK.out _ _ hB4 (fun hHeld => ?_)
            clear hK K
            refine wpAnyH_done (by kernel_rfl) ?_ _
            try (go_wp2_with fail)
            go_meet
            case rel => exact ⟨_, rfl, Lib.hid ⟨(hB4.block _ (heap_lt hZ0)).trans hZ0, hg4.out, hB0.trans (hB4.mono hB0.size), by have := heap_lt hZ0; have := (HM96.out.a _ rfl).2; omega⟩⟩
        · go_simp
          go_at_call 25
          refine (HRc.out _).mono ?_
          rintro e' u97 ⟨rfl, hbb⟩
          have HM98 := Lib.hid (HM90.out.to hbb)
          refine hK.out _ _ HM98.out.below (fun hHeld => ?_)
          clear hK K hbb
          try simp only [Act.put, List.setIfInBounds_toArray, List.set_cons_zero, List.set_cons_succ]
          refine wpAnyH_take (i := 22) (oi := ({ dst := some 35, op := Go.Op.field 44 (Go.Operand.tmp 34) 1, type := 3, pos := "law.go:54", after := #[{ on := 21, ground := Go.Ground.data }], guard := none } : Oper)) (v := .int .i64 (ty : Nat)) rfl (by kernel_rfl) (by kernel_rfl) (by kernel_rfl) (fun _ _ _ h => h) (Or.inl ⟨by rfl, fun w' hS' => ?_⟩) hHeld ?_
          · go_simp
          try simp only [Act.put, List.setIfInBounds_toArray, List.set_cons_zero, List.set_cons_succ]
          refine wpAnyH_take (i := 23) (oi := ({ dst := some 36, op := Go.Op.build 26 #[(0, Go.Operand.tmp 32), (1, Go.Operand.tmp 35)], type := 26, pos := "law.go:54", after := #[{ on := 19, ground := Go.Ground.data }, { on := 22, ground := Go.Ground.data }], guard := none } : Oper)) (v := .agg #[.string S, .int .i64 (ty : Nat)]) rfl (by kernel_rfl) (by kernel_rfl) (by kernel_rfl) (fun _ _ _ h => h) (Or.inl ⟨by rfl, fun w' hS' => ?_⟩) hHeld ?_
          · go_simp
          try simp only [Act.put, List.setIfInBounds_toArray, List.set_cons_zero, List.set_cons_succ]
          refine wpAnyH_ready (rs := [11]) (by kernel_rfl) (by simp) ?_
          refine (AllReadyH.cons (o := ({ dst := some 24, op := Go.Op.buildSlice 60 4 #[(0, Go.Operand.const (Go.Value.int Go.IntKind.i64 0)), (1, Go.Operand.const (Go.Value.int Go.IntKind.i64 0)), (2, Go.Operand.const (Go.Value.int Go.IntKind.i64 3)), (3, Go.Operand.const (Go.Value.int Go.IntKind.i64 2))], type := 60, pos := "law.go:54", after := #[], guard := none } : Oper)) rfl (fun K hK => ?_) AllReadyH.nil)
          go_simp
          refine hK.out _ _ (HM98.out.below.alloc HM98.out.below.size _) (fun hHeld => ?_)
          clear hK K
          try simp only [Act.put, List.setIfInBounds_toArray, List.set_cons_zero, List.set_cons_succ]
          have HM100 := Lib.hid (HM98.out.withB)
          generalize u97.alloc (.cells #[.int .i64 0, .int .i64 0, .int .i64 3, .int .i64 2] 3) = u99 at HM100 hHeld ⊢
          refine wpAnyH_take (i := 15) (oi := ({ dst := some 28, op := Go.Op.indexAddr 60 (Go.Operand.tmp 24) (Go.Operand.tmp 27), type := 0, pos := "law.go:54", after := #[{ on := 11, ground := Go.Ground.data }, { on := 14, ground := Go.Ground.data }], guard := none } : Oper)) (v := .pointer (some ⟨u97.heap.size, 0, none⟩)) rfl (by kernel_rfl) (by kernel_rfl) (by kernel_rfl) (fun _ _ _ h => h) (Or.inl ⟨by rfl, fun w' hS' => ?_⟩) hHeld ?_
          · go_simp
          try simp only [Act.put, List.setIfInBounds_toArray, List.set_cons_zero, List.set_cons_succ]
          refine wpAnyH_ready (rs := [16]) (by kernel_rfl) (by simp) ?_
          refine (AllReadyH.cons (o := ({ dst := some 29, op := Go.Op.load 3 (Go.Operand.tmp 28), type := 3, pos := "law.go:54", after := #[{ on := 15, ground := Go.Ground.data }], guard := none } : Oper)) rfl (fun K hK => ?_) AllReadyH.nil)
          have d := (HM100.out.b _ rfl).1
          go_simp
          refine hK.out _ _ HM100.out.below (fun hHeld => ?_)
          clear hK K d
          try simp only [Act.put, List.setIfInBounds_toArray, List.set_cons_zero, List.set_cons_succ]
          refine wpAnyH_take (i := 24) (oi := ({ dst := some 37, op := Go.Op.build 29 #[(0, Go.Operand.tmp 14), (1, Go.Operand.tmp 17), (2, Go.Operand.tmp 20), (3, Go.Operand.tmp 23), (4, Go.Operand.tmp 29), (5, Go.Operand.tmp 36)], type := 29, pos := "law.go:54", after := #[{ on := 1, ground := Go.Ground.data }, { on := 4, ground := Go.Ground.data }, { on := 7, ground := Go.Ground.data }, { on := 10, ground := Go.Ground.data }, { on := 16, ground := Go.Ground.data }, { on := 23, ground := Go.Ground.data }], guard := none } : Oper)) (v := .agg (cpC D S ty)) rfl (by kernel_rfl) (by kernel_rfl) (by kernel_rfl) (fun _ _ _ h => h) (Or.inl ⟨by rfl, fun w' hS' => ?_⟩) hHeld ?_
          · go_simp; rfl
          try simp only [Act.put, List.setIfInBounds_toArray, List.set_cons_zero, List.set_cons_succ]
          refine wpAnyH_ready (rs := [26]) (by kernel_rfl) (by simp) ?_
          refine (AllReadyH.cons (o := ({ dst := none, op := Go.Op.store 29 (Go.Operand.tmp 9) (Go.Operand.tmp 37), type := 0, pos := "law.go:54", after := #[{ on := 25, ground := Go.Ground.data }, { on := 24, ground := Go.Ground.data }, { on := 21, ground := Go.Ground.chain }, { on := 0, ground := Go.Ground.phase }, { on := 1, ground := Go.Ground.phase }, { on := 2, ground := Go.Ground.phase }, { on := 3, ground := Go.Ground.phase }, { on := 4, ground := Go.Ground.phase }, { on := 5, ground := Go.Ground.phase }, { on := 6, ground := Go.Ground.phase }, { on := 7, ground := Go.Ground.phase }, { on := 8, ground := Go.Ground.phase }, { on := 9, ground := Go.Ground.phase }, { on := 10, ground := Go.Ground.phase }, { on := 11, ground := Go.Ground.phase }, { on := 12, ground := Go.Ground.phase }, { on := 13, ground := Go.Ground.phase }, { on := 14, ground := Go.Ground.phase }, { on := 15, ground := Go.Ground.phase }, { on := 16, ground := Go.Ground.phase }, { on := 17, ground := Go.Ground.phase }, { on := 18, ground := Go.Ground.phase }, { on := 19, ground := Go.Ground.phase }, { on := 20, ground := Go.Ground.phase }, { on := 21, ground := Go.Ground.phase }, { on := 22, ground := Go.Ground.phase }, { on := 23, ground := Go.Ground.phase }, { on := 24, ground := Go.Ground.phase }, { on := 25, ground := Go.Ground.phase }], guard := none } : Oper)) rfl (fun K hK => ?_) AllReadyH.nil)
          refine step_store_sr rfl 29 (.tmp 9) (.tmp 37) rfl (u53.heap.size) zMsg (cpC D S ty) 29 (HM100.out.a _ rfl).1 rfl rfl sizeM rfl oneL (fun w4 hg4 hw4 hs4 => ?_)
          have hB4 : Below W0.heap.size W0 w4 := HM100.out.below.grown hw4.out HM100.out.below.size (fun k e => by injection e with e; have := (HM100.out.a _ rfl).2; omega)
          refine hK.out _ _ hB4 (fun hHeld => ?_)
          clear hK K
          refine wpAnyH_done (by kernel_rfl) ?_ _
          try (go_wp2_with fail)
          go_meet
          case rel => exact ⟨_, rfl, Lib.hid ⟨(hB4.block _ (heap_lt hZ0)).trans hZ0, hg4.out, hB0.trans (hB4.mono hB0.size), by have := heap_lt hZ0; have := (HM100.out.a _ rfl).2; omega⟩⟩
    · go_simp
      refine hK.out _ _ (HM0.out.below.alloc HM0.out.below.size _) (fun hHeld => ?_)
      clear hK K
      try simp only [Act.put, List.setIfInBounds_toArray, List.set_cons_zero, List.set_cons_succ]
      have HM102 := Lib.hid (HM0.out.withA)
      unfold zMsg at HM102
      generalize V0.alloc (.cells #[.int .i64 0, .bool false, .bool false, .bool false, .int .i64 0, .string ⟨#[]⟩, .int .i64 0, .slice none 0 0, .slice none 0 0] 29) = u101 at HM102 hHeld ⊢
      refine wpAnyH_ready (rs := [11, 19]) (by kernel_rfl) (by simp) ?_
      refine (AllReadyH.cons (o := ({ dst := some 24, op := Go.Op.buildSlice 60 4 #[(0, Go.Operand.const (Go.Value.int Go.IntKind.i64 0)), (1, Go.Operand.const (Go.Value.int Go.IntKind.i64 0)), (2, Go.Operand.const (Go.Value.int Go.IntKind.i64 3)), (3, Go.Operand.const (Go.Value.int Go.IntKind.i64 2))], type := 60, pos := "law.go:54", after := #[], guard := none } : Oper)) rfl (fun K hK => ?_) (AllReadyH.cons (o := ({ dst := some 32, op := Go.Op.call { callee := Go.Callee.value (Go.Operand.func 23), args := #[Go.Operand.tmp 31], argTypes := #[3] }, type := 9, pos := "law.go:54", after := #[{ on := 18, ground := Go.Ground.data }], guard := none } : Oper)) rfl (fun K hK => ?_) AllReadyH.nil))
      · go_simp
        refine hK.out _ _ (HM102.out.below.alloc HM102.out.below.size _) (fun hHeld => ?_)
        clear hK K
        try simp only [Act.put, List.setIfInBounds_toArray, List.set_cons_zero, List.set_cons_succ]
        have HM104 := Lib.hid (HM102.out.withB)
        generalize u101.alloc (.cells #[.int .i64 0, .int .i64 0, .int .i64 3, .int .i64 2] 3) = u103 at HM104 hHeld ⊢
        refine wpAnyH_take (i := 15) (oi := ({ dst := some 28, op := Go.Op.indexAddr 60 (Go.Operand.tmp 24) (Go.Operand.tmp 27), type := 0, pos := "law.go:54", after := #[{ on := 11, ground := Go.Ground.data }, { on := 14, ground := Go.Ground.data }], guard := none } : Oper)) (v := .pointer (some ⟨u101.heap.size, 0, none⟩)) rfl (by kernel_rfl) (by kernel_rfl) (by kernel_rfl) (fun _ _ _ h => h) (Or.inl ⟨by rfl, fun w' hS' => ?_⟩) hHeld ?_
        · go_simp
        try simp only [Act.put, List.setIfInBounds_toArray, List.set_cons_zero, List.set_cons_succ]
        refine wpAnyH_ready (rs := [16, 19]) (by kernel_rfl) (by simp) ?_
        refine (AllReadyH.cons (o := ({ dst := some 29, op := Go.Op.load 3 (Go.Operand.tmp 28), type := 3, pos := "law.go:54", after := #[{ on := 15, ground := Go.Ground.data }], guard := none } : Oper)) rfl (fun K hK => ?_) (AllReadyH.cons (o := ({ dst := some 32, op := Go.Op.call { callee := Go.Callee.value (Go.Operand.func 23), args := #[Go.Operand.tmp 31], argTypes := #[3] }, type := 9, pos := "law.go:54", after := #[{ on := 18, ground := Go.Ground.data }], guard := none } : Oper)) rfl (fun K hK => ?_) AllReadyH.nil))
        · have d := (HM104.out.b _ rfl).1
          go_simp
          refine hK.out _ _ HM104.out.below (fun hHeld => ?_)
          clear hK K d
          try simp only [Act.put, List.setIfInBounds_toArray, List.set_cons_zero, List.set_cons_succ]
          refine wpAnyH_ready (rs := [19]) (by kernel_rfl) (by simp) ?_
          refine (AllReadyH.cons (o := ({ dst := some 32, op := Go.Op.call { callee := Go.Callee.value (Go.Operand.func 23), args := #[Go.Operand.tmp 31], argTypes := #[3] }, type := 9, pos := "law.go:54", after := #[{ on := 18, ground := Go.Ground.data }], guard := none } : Oper)) rfl (fun K hK => ?_) AllReadyH.nil)
          go_simp
          go_at_call 23
          refine (HN.out _).mono ?_
          rintro e' u105 ⟨rfl, hbb⟩
          have HM106 := Lib.hid (HM104.out.to hbb)
          refine hK.out _ _ HM106.out.below (fun hHeld => ?_)
          clear hK K hbb
          try simp only [Act.put, List.setIfInBounds_toArray, List.set_cons_zero, List.set_cons_succ]
          refine wpAnyH_ready (rs := [21]) (by kernel_rfl) (by simp) ?_
          refine (AllReadyH.cons (o := ({ dst := some 34, op := Go.Op.call { callee := Go.Callee.value (Go.Operand.func 25), args := #[Go.Operand.tmp 33], argTypes := #[34] }, type := 44, pos := "law.go:54", after := #[{ on := 20, ground := Go.Ground.data }, { on := 19, ground := Go.Ground.chain }], guard := none } : Oper)) rfl (fun K hK => ?_) AllReadyH.nil)
          go_simp
          go_at_call 25
          refine (HRc.out _).mono ?_
          rintro e' u107 ⟨rfl, hbb⟩
          have HM108 := Lib.hid (HM106.out.to hbb)
          refine hK.out _ _ HM108.out.below (fun hHeld => ?_)
          clear hK K hbb
          try simp only [Act.put, List.setIfInBounds_toArray, List.set_cons_zero, List.set_cons_succ]
          refine wpAnyH_take (i := 22) (oi := ({ dst := some 35, op := Go.Op.field 44 (Go.Operand.tmp 34) 1, type := 3, pos := "law.go:54", after := #[{ on := 21, ground := Go.Ground.data }], guard := none } : Oper)) (v := .int .i64 (ty : Nat)) rfl (by kernel_rfl) (by kernel_rfl) (by kernel_rfl) (fun _ _ _ h => h) (Or.inl ⟨by rfl, fun w' hS' => ?_⟩) hHeld ?_
          · go_simp
          try simp only [Act.put, List.setIfInBounds_toArray, List.set_cons_zero, List.set_cons_succ]
          refine wpAnyH_take (i := 23) (oi := ({ dst := some 36, op := Go.Op.build 26 #[(0, Go.Operand.tmp 32), (1, Go.Operand.tmp 35)], type := 26, pos := "law.go:54", after := #[{ on := 19, ground := Go.Ground.data }, { on := 22, ground := Go.Ground.data }], guard := none } : Oper)) (v := .agg #[.string S, .int .i64 (ty : Nat)]) rfl (by kernel_rfl) (by kernel_rfl) (by kernel_rfl) (fun _ _ _ h => h) (Or.inl ⟨by rfl, fun w' hS' => ?_⟩) hHeld ?_
          · go_simp
          try simp only [Act.put, List.setIfInBounds_toArray, List.set_cons_zero, List.set_cons_succ]
          refine wpAnyH_take (i := 24) (oi := ({ dst := some 37, op := Go.Op.build 29 #[(0, Go.Operand.tmp 14), (1, Go.Operand.tmp 17), (2, Go.Operand.tmp 20), (3, Go.Operand.tmp 23), (4, Go.Operand.tmp 29), (5, Go.Operand.tmp 36)], type := 29, pos := "law.go:54", after := #[{ on := 1, ground := Go.Ground.data }, { on := 4, ground := Go.Ground.data }, { on := 7, ground := Go.Ground.data }, { on := 10, ground := Go.Ground.data }, { on := 16, ground := Go.Ground.data }, { on := 23, ground := Go.Ground.data }], guard := none } : Oper)) (v := .agg (cpC D S ty)) rfl (by kernel_rfl) (by kernel_rfl) (by kernel_rfl) (fun _ _ _ h => h) (Or.inl ⟨by rfl, fun w' hS' => ?_⟩) hHeld ?_
          · go_simp; rfl
          try simp only [Act.put, List.setIfInBounds_toArray, List.set_cons_zero, List.set_cons_succ]
          refine wpAnyH_ready (rs := [26]) (by kernel_rfl) (by simp) ?_
          refine (AllReadyH.cons (o := ({ dst := none, op := Go.Op.store 29 (Go.Operand.tmp 9) (Go.Operand.tmp 37), type := 0, pos := "law.go:54", after := #[{ on := 25, ground := Go.Ground.data }, { on := 24, ground := Go.Ground.data }, { on := 21, ground := Go.Ground.chain }, { on := 0, ground := Go.Ground.phase }, { on := 1, ground := Go.Ground.phase }, { on := 2, ground := Go.Ground.phase }, { on := 3, ground := Go.Ground.phase }, { on := 4, ground := Go.Ground.phase }, { on := 5, ground := Go.Ground.phase }, { on := 6, ground := Go.Ground.phase }, { on := 7, ground := Go.Ground.phase }, { on := 8, ground := Go.Ground.phase }, { on := 9, ground := Go.Ground.phase }, { on := 10, ground := Go.Ground.phase }, { on := 11, ground := Go.Ground.phase }, { on := 12, ground := Go.Ground.phase }, { on := 13, ground := Go.Ground.phase }, { on := 14, ground := Go.Ground.phase }, { on := 15, ground := Go.Ground.phase }, { on := 16, ground := Go.Ground.phase }, { on := 17, ground := Go.Ground.phase }, { on := 18, ground := Go.Ground.phase }, { on := 19, ground := Go.Ground.phase }, { on := 20, ground := Go.Ground.phase }, { on := 21, ground := Go.Ground.phase }, { on := 22, ground := Go.Ground.phase }, { on := 23, ground := Go.Ground.phase }, { on := 24, ground := Go.Ground.phase }, { on := 25, ground := Go.Ground.phase }], guard := none } : Oper)) rfl (fun K hK => ?_) AllReadyH.nil)
          refine step_store_sr rfl 29 (.tmp 9) (.tmp 37) rfl (V0.heap.size) zMsg (cpC D S ty) 29 (HM108.out.a _ rfl).1 rfl rfl sizeM rfl oneL (fun w4 hg4 hw4 hs4 => ?_)
          have hB4 : Below W0.heap.size W0 w4 := HM108.out.below.grown hw4.out HM108.out.below.size (fun k e => by injection e with e; have := (HM108.out.a _ rfl).2; omega)
          refine hK.out _ _ hB4 (fun hHeld => ?_)
          clear hK K
          refine wpAnyH_done (by kernel_rfl) ?_ _
          try (go_wp2_with fail)
          go_meet
          case rel => exact ⟨_, rfl, Lib.hid ⟨(hB4.block _ (heap_lt hZ0)).trans hZ0, hg4.out, hB0.trans (hB4.mono hB0.size), by have := heap_lt hZ0; have := (HM108.out.a _ rfl).2; omega⟩⟩
        · go_simp
          go_at_call 23
          refine (HN.out _).mono ?_
          rintro e' u109 ⟨rfl, hbb⟩
          have HM110 := Lib.hid (HM104.out.to hbb)
          refine hK.out _ _ HM110.out.below (fun hHeld => ?_)
          clear hK K hbb
          try simp only [Act.put, List.setIfInBounds_toArray, List.set_cons_zero, List.set_cons_succ]
          refine wpAnyH_ready (rs := [16, 21]) (by kernel_rfl) (by simp) ?_
          refine (AllReadyH.cons (o := ({ dst := some 29, op := Go.Op.load 3 (Go.Operand.tmp 28), type := 3, pos := "law.go:54", after := #[{ on := 15, ground := Go.Ground.data }], guard := none } : Oper)) rfl (fun K hK => ?_) (AllReadyH.cons (o := ({ dst := some 34, op := Go.Op.call { callee := Go.Callee.value (Go.Operand.func 25), args := #[Go.Operand.tmp 33], argTypes := #[34] }, type := 44, pos := "law.go:54", after := #[{ on := 20, ground := Go.Ground.data }, { on := 19, ground := Go.Ground.chain }], guard := none } : Oper)) rfl (fun K hK => ?_) AllReadyH.nil))
          · have d := (HM110.out.b _ rfl).1
            go_simp
            refine hK.out _ _ HM110.out.below (fun hHeld => ?_)
            clear hK K d
            try simp only [Act.put, List.setIfInBounds_toArray, List.set_cons_zero, List.set_cons_succ]
            refine wpAnyH_ready (rs := [21]) (by kernel_rfl) (by simp) ?_
            refine (AllReadyH.cons (o := ({ dst := some 34, op := Go.Op.call { callee := Go.Callee.value (Go.Operand.func 25), args := #[Go.Operand.tmp 33], argTypes := #[34] }, type := 44, pos := "law.go:54", after := #[{ on := 20, ground := Go.Ground.data }, { on := 19, ground := Go.Ground.chain }], guard := none } : Oper)) rfl (fun K hK => ?_) AllReadyH.nil)
            go_simp
            go_at_call 25
            refine (HRc.out _).mono ?_
            rintro e' u111 ⟨rfl, hbb⟩
            have HM112 := Lib.hid (HM110.out.to hbb)
            refine hK.out _ _ HM112.out.below (fun hHeld => ?_)
            clear hK K hbb
            try simp only [Act.put, List.setIfInBounds_toArray, List.set_cons_zero, List.set_cons_succ]
            refine wpAnyH_take (i := 22) (oi := ({ dst := some 35, op := Go.Op.field 44 (Go.Operand.tmp 34) 1, type := 3, pos := "law.go:54", after := #[{ on := 21, ground := Go.Ground.data }], guard := none } : Oper)) (v := .int .i64 (ty : Nat)) rfl (by kernel_rfl) (by kernel_rfl) (by kernel_rfl) (fun _ _ _ h => h) (Or.inl ⟨by rfl, fun w' hS' => ?_⟩) hHeld ?_
            · go_simp
            try simp only [Act.put, List.setIfInBounds_toArray, List.set_cons_zero, List.set_cons_succ]
            refine wpAnyH_take (i := 23) (oi := ({ dst := some 36, op := Go.Op.build 26 #[(0, Go.Operand.tmp 32), (1, Go.Operand.tmp 35)], type := 26, pos := "law.go:54", after := #[{ on := 19, ground := Go.Ground.data }, { on := 22, ground := Go.Ground.data }], guard := none } : Oper)) (v := .agg #[.string S, .int .i64 (ty : Nat)]) rfl (by kernel_rfl) (by kernel_rfl) (by kernel_rfl) (fun _ _ _ h => h) (Or.inl ⟨by rfl, fun w' hS' => ?_⟩) hHeld ?_
            · go_simp
            try simp only [Act.put, List.setIfInBounds_toArray, List.set_cons_zero, List.set_cons_succ]
            refine wpAnyH_take (i := 24) (oi := ({ dst := some 37, op := Go.Op.build 29 #[(0, Go.Operand.tmp 14), (1, Go.Operand.tmp 17), (2, Go.Operand.tmp 20), (3, Go.Operand.tmp 23), (4, Go.Operand.tmp 29), (5, Go.Operand.tmp 36)], type := 29, pos := "law.go:54", after := #[{ on := 1, ground := Go.Ground.data }, { on := 4, ground := Go.Ground.data }, { on := 7, ground := Go.Ground.data }, { on := 10, ground := Go.Ground.data }, { on := 16, ground := Go.Ground.data }, { on := 23, ground := Go.Ground.data }], guard := none } : Oper)) (v := .agg (cpC D S ty)) rfl (by kernel_rfl) (by kernel_rfl) (by kernel_rfl) (fun _ _ _ h => h) (Or.inl ⟨by rfl, fun w' hS' => ?_⟩) hHeld ?_
            · go_simp; rfl
            try simp only [Act.put, List.setIfInBounds_toArray, List.set_cons_zero, List.set_cons_succ]
            refine wpAnyH_ready (rs := [26]) (by kernel_rfl) (by simp) ?_
            refine (AllReadyH.cons (o := ({ dst := none, op := Go.Op.store 29 (Go.Operand.tmp 9) (Go.Operand.tmp 37), type := 0, pos := "law.go:54", after := #[{ on := 25, ground := Go.Ground.data }, { on := 24, ground := Go.Ground.data }, { on := 21, ground := Go.Ground.chain }, { on := 0, ground := Go.Ground.phase }, { on := 1, ground := Go.Ground.phase }, { on := 2, ground := Go.Ground.phase }, { on := 3, ground := Go.Ground.phase }, { on := 4, ground := Go.Ground.phase }, { on := 5, ground := Go.Ground.phase }, { on := 6, ground := Go.Ground.phase }, { on := 7, ground := Go.Ground.phase }, { on := 8, ground := Go.Ground.phase }, { on := 9, ground := Go.Ground.phase }, { on := 10, ground := Go.Ground.phase }, { on := 11, ground := Go.Ground.phase }, { on := 12, ground := Go.Ground.phase }, { on := 13, ground := Go.Ground.phase }, { on := 14, ground := Go.Ground.phase }, { on := 15, ground := Go.Ground.phase }, { on := 16, ground := Go.Ground.phase }, { on := 17, ground := Go.Ground.phase }, { on := 18, ground := Go.Ground.phase }, { on := 19, ground := Go.Ground.phase }, { on := 20, ground := Go.Ground.phase }, { on := 21, ground := Go.Ground.phase }, { on := 22, ground := Go.Ground.phase }, { on := 23, ground := Go.Ground.phase }, { on := 24, ground := Go.Ground.phase }, { on := 25, ground := Go.Ground.phase }], guard := none } : Oper)) rfl (fun K hK => ?_) AllReadyH.nil)
            refine step_store_sr rfl 29 (.tmp 9) (.tmp 37) rfl (V0.heap.size) zMsg (cpC D S ty) 29 (HM112.out.a _ rfl).1 rfl rfl sizeM rfl oneL (fun w4 hg4 hw4 hs4 => ?_)
            have hB4 : Below W0.heap.size W0 w4 := HM112.out.below.grown hw4.out HM112.out.below.size (fun k e => by injection e with e; have := (HM112.out.a _ rfl).2; omega)
            refine hK.out _ _ hB4 (fun hHeld => ?_)
            clear hK K
            refine wpAnyH_done (by kernel_rfl) ?_ _
            try (go_wp2_with fail)
            go_meet
            case rel => exact ⟨_, rfl, Lib.hid ⟨(hB4.block _ (heap_lt hZ0)).trans hZ0, hg4.out, hB0.trans (hB4.mono hB0.size), by have := heap_lt hZ0; have := (HM112.out.a _ rfl).2; omega⟩⟩
          · go_simp
            go_at_call 25
            refine (HRc.out _).mono ?_
            rintro e' u113 ⟨rfl, hbb⟩
            have HM114 := Lib.hid (HM110.out.to hbb)
            refine hK.out _ _ HM114.out.below (fun hHeld => ?_)
            clear hK K hbb
            try simp only [Act.put, List.setIfInBounds_toArray, List.set_cons_zero, List.set_cons_succ]
            refine wpAnyH_take (i := 22) (oi := ({ dst := some 35, op := Go.Op.field 44 (Go.Operand.tmp 34) 1, type := 3, pos := "law.go:54", after := #[{ on := 21, ground := Go.Ground.data }], guard := none } : Oper)) (v := .int .i64 (ty : Nat)) rfl (by kernel_rfl) (by kernel_rfl) (by kernel_rfl) (fun _ _ _ h => h) (Or.inl ⟨by rfl, fun w' hS' => ?_⟩) hHeld ?_
            · go_simp
            try simp only [Act.put, List.setIfInBounds_toArray, List.set_cons_zero, List.set_cons_succ]
            refine wpAnyH_take (i := 23) (oi := ({ dst := some 36, op := Go.Op.build 26 #[(0, Go.Operand.tmp 32), (1, Go.Operand.tmp 35)], type := 26, pos := "law.go:54", after := #[{ on := 19, ground := Go.Ground.data }, { on := 22, ground := Go.Ground.data }], guard := none } : Oper)) (v := .agg #[.string S, .int .i64 (ty : Nat)]) rfl (by kernel_rfl) (by kernel_rfl) (by kernel_rfl) (fun _ _ _ h => h) (Or.inl ⟨by rfl, fun w' hS' => ?_⟩) hHeld ?_
            · go_simp
            try simp only [Act.put, List.setIfInBounds_toArray, List.set_cons_zero, List.set_cons_succ]
            refine wpAnyH_ready (rs := [16]) (by kernel_rfl) (by simp) ?_
            refine (AllReadyH.cons (o := ({ dst := some 29, op := Go.Op.load 3 (Go.Operand.tmp 28), type := 3, pos := "law.go:54", after := #[{ on := 15, ground := Go.Ground.data }], guard := none } : Oper)) rfl (fun K hK => ?_) AllReadyH.nil)
            have d := (HM114.out.b _ rfl).1
            go_simp
            refine hK.out _ _ HM114.out.below (fun hHeld => ?_)
            clear hK K d
            try simp only [Act.put, List.setIfInBounds_toArray, List.set_cons_zero, List.set_cons_succ]
            refine wpAnyH_take (i := 24) (oi := ({ dst := some 37, op := Go.Op.build 29 #[(0, Go.Operand.tmp 14), (1, Go.Operand.tmp 17), (2, Go.Operand.tmp 20), (3, Go.Operand.tmp 23), (4, Go.Operand.tmp 29), (5, Go.Operand.tmp 36)], type := 29, pos := "law.go:54", after := #[{ on := 1, ground := Go.Ground.data }, { on := 4, ground := Go.Ground.data }, { on := 7, ground := Go.Ground.data }, { on := 10, ground := Go.Ground.data }, { on := 16, ground := Go.Ground.data }, { on := 23, ground := Go.Ground.data }], guard := none } : Oper)) (v := .agg (cpC D S ty)) rfl (by kernel_rfl) (by kernel_rfl) (by kernel_rfl) (fun _ _ _ h => h) (Or.inl ⟨by rfl, fun w' hS' => ?_⟩) hHeld ?_
            · go_simp; rfl
            try simp only [Act.put, List.setIfInBounds_toArray, List.set_cons_zero, List.set_cons_succ]
            refine wpAnyH_ready (rs := [26]) (by kernel_rfl) (by simp) ?_
            refine (AllReadyH.cons (o := ({ dst := none, op := Go.Op.store 29 (Go.Operand.tmp 9) (Go.Operand.tmp 37), type := 0, pos := "law.go:54", after := #[{ on := 25, ground := Go.Ground.data }, { on := 24, ground := Go.Ground.data }, { on := 21, ground := Go.Ground.chain }, { on := 0, ground := Go.Ground.phase }, { on := 1, ground := Go.Ground.phase }, { on := 2, ground := Go.Ground.phase }, { on := 3, ground := Go.Ground.phase }, { on := 4, ground := Go.Ground.phase }, { on := 5, ground := Go.Ground.phase }, { on := 6, ground := Go.Ground.phase }, { on := 7, ground := Go.Ground.phase }, { on := 8, ground := Go.Ground.phase }, { on := 9, ground := Go.Ground.phase }, { on := 10, ground := Go.Ground.phase }, { on := 11, ground := Go.Ground.phase }, { on := 12, ground := Go.Ground.phase }, { on := 13, ground := Go.Ground.phase }, { on := 14, ground := Go.Ground.phase }, { on := 15, ground := Go.Ground.phase }, { on := 16, ground := Go.Ground.phase }, { on := 17, ground := Go.Ground.phase }, { on := 18, ground := Go.Ground.phase }, { on := 19, ground := Go.Ground.phase }, { on := 20, ground := Go.Ground.phase }, { on := 21, ground := Go.Ground.phase }, { on := 22, ground := Go.Ground.phase }, { on := 23, ground := Go.Ground.phase }, { on := 24, ground := Go.Ground.phase }, { on := 25, ground := Go.Ground.phase }], guard := none } : Oper)) rfl (fun K hK => ?_) AllReadyH.nil)
            refine step_store_sr rfl 29 (.tmp 9) (.tmp 37) rfl (V0.heap.size) zMsg (cpC D S ty) 29 (HM114.out.a _ rfl).1 rfl rfl sizeM rfl oneL (fun w4 hg4 hw4 hs4 => ?_)
            have hB4 : Below W0.heap.size W0 w4 := HM114.out.below.grown hw4.out HM114.out.below.size (fun k e => by injection e with e; have := (HM114.out.a _ rfl).2; omega)
            refine hK.out _ _ hB4 (fun hHeld => ?_)
            clear hK K
            refine wpAnyH_done (by kernel_rfl) ?_ _
            try (go_wp2_with fail)
            go_meet
            case rel => exact ⟨_, rfl, Lib.hid ⟨(hB4.block _ (heap_lt hZ0)).trans hZ0, hg4.out, hB0.trans (hB4.mono hB0.size), by have := heap_lt hZ0; have := (HM114.out.a _ rfl).2; omega⟩⟩
      · go_simp
        go_at_call 23
        refine (HN.out _).mono ?_
        rintro e' u115 ⟨rfl, hbb⟩
        have HM116 := Lib.hid (HM102.out.to hbb)
        refine hK.out _ _ HM116.out.below (fun hHeld => ?_)
        clear hK K hbb
        try simp only [Act.put, List.setIfInBounds_toArray, List.set_cons_zero, List.set_cons_succ]
        refine wpAnyH_ready (rs := [11, 21]) (by kernel_rfl) (by simp) ?_
        refine (AllReadyH.cons (o := ({ dst := some 24, op := Go.Op.buildSlice 60 4 #[(0, Go.Operand.const (Go.Value.int Go.IntKind.i64 0)), (1, Go.Operand.const (Go.Value.int Go.IntKind.i64 0)), (2, Go.Operand.const (Go.Value.int Go.IntKind.i64 3)), (3, Go.Operand.const (Go.Value.int Go.IntKind.i64 2))], type := 60, pos := "law.go:54", after := #[], guard := none } : Oper)) rfl (fun K hK => ?_) (AllReadyH.cons (o := ({ dst := some 34, op := Go.Op.call { callee := Go.Callee.value (Go.Operand.func 25), args := #[Go.Operand.tmp 33], argTypes := #[34] }, type := 44, pos := "law.go:54", after := #[{ on := 20, ground := Go.Ground.data }, { on := 19, ground := Go.Ground.chain }], guard := none } : Oper)) rfl (fun K hK => ?_) AllReadyH.nil))
        · go_simp
          refine hK.out _ _ (HM116.out.below.alloc HM116.out.below.size _) (fun hHeld => ?_)
          clear hK K
          try simp only [Act.put, List.setIfInBounds_toArray, List.set_cons_zero, List.set_cons_succ]
          have HM118 := Lib.hid (HM116.out.withB)
          generalize u115.alloc (.cells #[.int .i64 0, .int .i64 0, .int .i64 3, .int .i64 2] 3) = u117 at HM118 hHeld ⊢
          refine wpAnyH_take (i := 15) (oi := ({ dst := some 28, op := Go.Op.indexAddr 60 (Go.Operand.tmp 24) (Go.Operand.tmp 27), type := 0, pos := "law.go:54", after := #[{ on := 11, ground := Go.Ground.data }, { on := 14, ground := Go.Ground.data }], guard := none } : Oper)) (v := .pointer (some ⟨u115.heap.size, 0, none⟩)) rfl (by kernel_rfl) (by kernel_rfl) (by kernel_rfl) (fun _ _ _ h => h) (Or.inl ⟨by rfl, fun w' hS' => ?_⟩) hHeld ?_
          · go_simp
          try simp only [Act.put, List.setIfInBounds_toArray, List.set_cons_zero, List.set_cons_succ]
          refine wpAnyH_ready (rs := [16, 21]) (by kernel_rfl) (by simp) ?_
          refine (AllReadyH.cons (o := ({ dst := some 29, op := Go.Op.load 3 (Go.Operand.tmp 28), type := 3, pos := "law.go:54", after := #[{ on := 15, ground := Go.Ground.data }], guard := none } : Oper)) rfl (fun K hK => ?_) (AllReadyH.cons (o := ({ dst := some 34, op := Go.Op.call { callee := Go.Callee.value (Go.Operand.func 25), args := #[Go.Operand.tmp 33], argTypes := #[34] }, type := 44, pos := "law.go:54", after := #[{ on := 20, ground := Go.Ground.data }, { on := 19, ground := Go.Ground.chain }], guard := none } : Oper)) rfl (fun K hK => ?_) AllReadyH.nil))
          · have d := (HM118.out.b _ rfl).1
            go_simp
            refine hK.out _ _ HM118.out.below (fun hHeld => ?_)
            clear hK K d
            try simp only [Act.put, List.setIfInBounds_toArray, List.set_cons_zero, List.set_cons_succ]
            refine wpAnyH_ready (rs := [21]) (by kernel_rfl) (by simp) ?_
            refine (AllReadyH.cons (o := ({ dst := some 34, op := Go.Op.call { callee := Go.Callee.value (Go.Operand.func 25), args := #[Go.Operand.tmp 33], argTypes := #[34] }, type := 44, pos := "law.go:54", after := #[{ on := 20, ground := Go.Ground.data }, { on := 19, ground := Go.Ground.chain }], guard := none } : Oper)) rfl (fun K hK => ?_) AllReadyH.nil)
            go_simp
            go_at_call 25
            refine (HRc.out _).mono ?_
            rintro e' u119 ⟨rfl, hbb⟩
            have HM120 := Lib.hid (HM118.out.to hbb)
            refine hK.out _ _ HM120.out.below (fun hHeld => ?_)
            clear hK K hbb
            try simp only [Act.put, List.setIfInBounds_toArray, List.set_cons_zero, List.set_cons_succ]
            refine wpAnyH_take (i := 22) (oi := ({ dst := some 35, op := Go.Op.field 44 (Go.Operand.tmp 34) 1, type := 3, pos := "law.go:54", after := #[{ on := 21, ground := Go.Ground.data }], guard := none } : Oper)) (v := .int .i64 (ty : Nat)) rfl (by kernel_rfl) (by kernel_rfl) (by kernel_rfl) (fun _ _ _ h => h) (Or.inl ⟨by rfl, fun w' hS' => ?_⟩) hHeld ?_
            · go_simp
            try simp only [Act.put, List.setIfInBounds_toArray, List.set_cons_zero, List.set_cons_succ]
            refine wpAnyH_take (i := 23) (oi := ({ dst := some 36, op := Go.Op.build 26 #[(0, Go.Operand.tmp 32), (1, Go.Operand.tmp 35)], type := 26, pos := "law.go:54", after := #[{ on := 19, ground := Go.Ground.data }, { on := 22, ground := Go.Ground.data }], guard := none } : Oper)) (v := .agg #[.string S, .int .i64 (ty : Nat)]) rfl (by kernel_rfl) (by kernel_rfl) (by kernel_rfl) (fun _ _ _ h => h) (Or.inl ⟨by rfl, fun w' hS' => ?_⟩) hHeld ?_
            · go_simp
            try simp only [Act.put, List.setIfInBounds_toArray, List.set_cons_zero, List.set_cons_succ]
            refine wpAnyH_take (i := 24) (oi := ({ dst := some 37, op := Go.Op.build 29 #[(0, Go.Operand.tmp 14), (1, Go.Operand.tmp 17), (2, Go.Operand.tmp 20), (3, Go.Operand.tmp 23), (4, Go.Operand.tmp 29), (5, Go.Operand.tmp 36)], type := 29, pos := "law.go:54", after := #[{ on := 1, ground := Go.Ground.data }, { on := 4, ground := Go.Ground.data }, { on := 7, ground := Go.Ground.data }, { on := 10, ground := Go.Ground.data }, { on := 16, ground := Go.Ground.data }, { on := 23, ground := Go.Ground.data }], guard := none } : Oper)) (v := .agg (cpC D S ty)) rfl (by kernel_rfl) (by kernel_rfl) (by kernel_rfl) (fun _ _ _ h => h) (Or.inl ⟨by rfl, fun w' hS' => ?_⟩) hHeld ?_
            · go_simp; rfl
            try simp only [Act.put, List.setIfInBounds_toArray, List.set_cons_zero, List.set_cons_succ]
            refine wpAnyH_ready (rs := [26]) (by kernel_rfl) (by simp) ?_
            refine (AllReadyH.cons (o := ({ dst := none, op := Go.Op.store 29 (Go.Operand.tmp 9) (Go.Operand.tmp 37), type := 0, pos := "law.go:54", after := #[{ on := 25, ground := Go.Ground.data }, { on := 24, ground := Go.Ground.data }, { on := 21, ground := Go.Ground.chain }, { on := 0, ground := Go.Ground.phase }, { on := 1, ground := Go.Ground.phase }, { on := 2, ground := Go.Ground.phase }, { on := 3, ground := Go.Ground.phase }, { on := 4, ground := Go.Ground.phase }, { on := 5, ground := Go.Ground.phase }, { on := 6, ground := Go.Ground.phase }, { on := 7, ground := Go.Ground.phase }, { on := 8, ground := Go.Ground.phase }, { on := 9, ground := Go.Ground.phase }, { on := 10, ground := Go.Ground.phase }, { on := 11, ground := Go.Ground.phase }, { on := 12, ground := Go.Ground.phase }, { on := 13, ground := Go.Ground.phase }, { on := 14, ground := Go.Ground.phase }, { on := 15, ground := Go.Ground.phase }, { on := 16, ground := Go.Ground.phase }, { on := 17, ground := Go.Ground.phase }, { on := 18, ground := Go.Ground.phase }, { on := 19, ground := Go.Ground.phase }, { on := 20, ground := Go.Ground.phase }, { on := 21, ground := Go.Ground.phase }, { on := 22, ground := Go.Ground.phase }, { on := 23, ground := Go.Ground.phase }, { on := 24, ground := Go.Ground.phase }, { on := 25, ground := Go.Ground.phase }], guard := none } : Oper)) rfl (fun K hK => ?_) AllReadyH.nil)
            refine step_store_sr rfl 29 (.tmp 9) (.tmp 37) rfl (V0.heap.size) zMsg (cpC D S ty) 29 (HM120.out.a _ rfl).1 rfl rfl sizeM rfl oneL (fun w4 hg4 hw4 hs4 => ?_)
            have hB4 : Below W0.heap.size W0 w4 := HM120.out.below.grown hw4.out HM120.out.below.size (fun k e => by injection e with e; have := (HM120.out.a _ rfl).2; omega)
            refine hK.out _ _ hB4 (fun hHeld => ?_)
            clear hK K
            refine wpAnyH_done (by kernel_rfl) ?_ _
            try (go_wp2_with fail)
            go_meet
            case rel => exact ⟨_, rfl, Lib.hid ⟨(hB4.block _ (heap_lt hZ0)).trans hZ0, hg4.out, hB0.trans (hB4.mono hB0.size), by have := heap_lt hZ0; have := (HM120.out.a _ rfl).2; omega⟩⟩
          · go_simp
            go_at_call 25
            refine (HRc.out _).mono ?_
            rintro e' u121 ⟨rfl, hbb⟩
            have HM122 := Lib.hid (HM118.out.to hbb)
            refine hK.out _ _ HM122.out.below (fun hHeld => ?_)
            clear hK K hbb
            try simp only [Act.put, List.setIfInBounds_toArray, List.set_cons_zero, List.set_cons_succ]
            refine wpAnyH_take (i := 22) (oi := ({ dst := some 35, op := Go.Op.field 44 (Go.Operand.tmp 34) 1, type := 3, pos := "law.go:54", after := #[{ on := 21, ground := Go.Ground.data }], guard := none } : Oper)) (v := .int .i64 (ty : Nat)) rfl (by kernel_rfl) (by kernel_rfl) (by kernel_rfl) (fun _ _ _ h => h) (Or.inl ⟨by rfl, fun w' hS' => ?_⟩) hHeld ?_
            · go_simp
            try simp only [Act.put, List.setIfInBounds_toArray, List.set_cons_zero, List.set_cons_succ]
            refine wpAnyH_take (i := 23) (oi := ({ dst := some 36, op := Go.Op.build 26 #[(0, Go.Operand.tmp 32), (1, Go.Operand.tmp 35)], type := 26, pos := "law.go:54", after := #[{ on := 19, ground := Go.Ground.data }, { on := 22, ground := Go.Ground.data }], guard := none } : Oper)) (v := .agg #[.string S, .int .i64 (ty : Nat)]) rfl (by kernel_rfl) (by kernel_rfl) (by kernel_rfl) (fun _ _ _ h => h) (Or.inl ⟨by rfl, fun w' hS' => ?_⟩) hHeld ?_
            · go_simp
            try simp only [Act.put, List.setIfInBounds_toArray, List.set_cons_zero, List.set_cons_succ]
            refine wpAnyH_ready (rs := [16]) (by kernel_rfl) (by simp) ?_
            refine (AllReadyH.cons (o := ({ dst := some 29, op := Go.Op.load 3 (Go.Operand.tmp 28), type := 3, pos := "law.go:54", after := #[{ on := 15, ground := Go.Ground.data }], guard := none } : Oper)) rfl (fun K hK => ?_) AllReadyH.nil)
            have d := (HM122.out.b _ rfl).1
            go_simp
            refine hK.out _ _ HM122.out.below (fun hHeld => ?_)
            clear hK K d
            try simp only [Act.put, List.setIfInBounds_toArray, List.set_cons_zero, List.set_cons_succ]
            refine wpAnyH_take (i := 24) (oi := ({ dst := some 37, op := Go.Op.build 29 #[(0, Go.Operand.tmp 14), (1, Go.Operand.tmp 17), (2, Go.Operand.tmp 20), (3, Go.Operand.tmp 23), (4, Go.Operand.tmp 29), (5, Go.Operand.tmp 36)], type := 29, pos := "law.go:54", after := #[{ on := 1, ground := Go.Ground.data }, { on := 4, ground := Go.Ground.data }, { on := 7, ground := Go.Ground.data }, { on := 10, ground := Go.Ground.data }, { on := 16, ground := Go.Ground.data }, { on := 23, ground := Go.Ground.data }], guard := none } : Oper)) (v := .agg (cpC D S ty)) rfl (by kernel_rfl) (by kernel_rfl) (by kernel_rfl) (fun _ _ _ h => h) (Or.inl ⟨by rfl, fun w' hS' => ?_⟩) hHeld ?_
            · go_simp; rfl
            try simp only [Act.put, List.setIfInBounds_toArray, List.set_cons_zero, List.set_cons_succ]
            refine wpAnyH_ready (rs := [26]) (by kernel_rfl) (by simp) ?_
            refine (AllReadyH.cons (o := ({ dst := none, op := Go.Op.store 29 (Go.Operand.tmp 9) (Go.Operand.tmp 37), type := 0, pos := "law.go:54", after := #[{ on := 25, ground := Go.Ground.data }, { on := 24, ground := Go.Ground.data }, { on := 21, ground := Go.Ground.chain }, { on := 0, ground := Go.Ground.phase }, { on := 1, ground := Go.Ground.phase }, { on := 2, ground := Go.Ground.phase }, { on := 3, ground := Go.Ground.phase }, { on := 4, ground := Go.Ground.phase }, { on := 5, ground := Go.Ground.phase }, { on := 6, ground := Go.Ground.phase }, { on := 7, ground := Go.Ground.phase }, { on := 8, ground := Go.Ground.phase }, { on := 9, ground := Go.Ground.phase }, { on := 10, ground := Go.Ground.phase }, { on := 11, ground := Go.Ground.phase }, { on := 12, ground := Go.Ground.phase }, { on := 13, ground := Go.Ground.phase }, { on := 14, ground := Go.Ground.phase }, { on := 15, ground := Go.Ground.phase }, { on := 16, ground := Go.Ground.phase }, { on := 17, ground := Go.Ground.phase }, { on := 18, ground := Go.Ground.phase }, { on := 19, ground := Go.Ground.phase }, { on := 20, ground := Go.Ground.phase }, { on := 21, ground := Go.Ground.phase }, { on := 22, ground := Go.Ground.phase }, { on := 23, ground := Go.Ground.phase }, { on := 24, ground := Go.Ground.phase }, { on := 25, ground := Go.Ground.phase }], guard := none } : Oper)) rfl (fun K hK => ?_) AllReadyH.nil)
            refine step_store_sr rfl 29 (.tmp 9) (.tmp 37) rfl (V0.heap.size) zMsg (cpC D S ty) 29 (HM122.out.a _ rfl).1 rfl rfl sizeM rfl oneL (fun w4 hg4 hw4 hs4 => ?_)
            have hB4 : Below W0.heap.size W0 w4 := HM122.out.below.grown hw4.out HM122.out.below.size (fun k e => by injection e with e; have := (HM122.out.a _ rfl).2; omega)
            refine hK.out _ _ hB4 (fun hHeld => ?_)
            clear hK K
            refine wpAnyH_done (by kernel_rfl) ?_ _
            try (go_wp2_with fail)
            go_meet
            case rel => exact ⟨_, rfl, Lib.hid ⟨(hB4.block _ (heap_lt hZ0)).trans hZ0, hg4.out, hB0.trans (hB4.mono hB0.size), by have := heap_lt hZ0; have := (HM122.out.a _ rfl).2; omega⟩⟩
        · go_simp
          go_at_call 25
          refine (HRc.out _).mono ?_
          rintro e' u123 ⟨rfl, hbb⟩
          have HM124 := Lib.hid (HM116.out.to hbb)
          refine hK.out _ _ HM124.out.below (fun hHeld => ?_)
          clear hK K hbb
          try simp only [Act.put, List.setIfInBounds_toArray, List.set_cons_zero, List.set_cons_succ]
          refine wpAnyH_take (i := 22) (oi := ({ dst := some 35, op := Go.Op.field 44 (Go.Operand.tmp 34) 1, type := 3, pos := "law.go:54", after := #[{ on := 21, ground := Go.Ground.data }], guard := none } : Oper)) (v := .int .i64 (ty : Nat)) rfl (by kernel_rfl) (by kernel_rfl) (by kernel_rfl) (fun _ _ _ h => h) (Or.inl ⟨by rfl, fun w' hS' => ?_⟩) hHeld ?_
          · go_simp
          try simp only [Act.put, List.setIfInBounds_toArray, List.set_cons_zero, List.set_cons_succ]
          refine wpAnyH_take (i := 23) (oi := ({ dst := some 36, op := Go.Op.build 26 #[(0, Go.Operand.tmp 32), (1, Go.Operand.tmp 35)], type := 26, pos := "law.go:54", after := #[{ on := 19, ground := Go.Ground.data }, { on := 22, ground := Go.Ground.data }], guard := none } : Oper)) (v := .agg #[.string S, .int .i64 (ty : Nat)]) rfl (by kernel_rfl) (by kernel_rfl) (by kernel_rfl) (fun _ _ _ h => h) (Or.inl ⟨by rfl, fun w' hS' => ?_⟩) hHeld ?_
          · go_simp
          try simp only [Act.put, List.setIfInBounds_toArray, List.set_cons_zero, List.set_cons_succ]
          refine wpAnyH_ready (rs := [11]) (by kernel_rfl) (by simp) ?_
          refine (AllReadyH.cons (o := ({ dst := some 24, op := Go.Op.buildSlice 60 4 #[(0, Go.Operand.const (Go.Value.int Go.IntKind.i64 0)), (1, Go.Operand.const (Go.Value.int Go.IntKind.i64 0)), (2, Go.Operand.const (Go.Value.int Go.IntKind.i64 3)), (3, Go.Operand.const (Go.Value.int Go.IntKind.i64 2))], type := 60, pos := "law.go:54", after := #[], guard := none } : Oper)) rfl (fun K hK => ?_) AllReadyH.nil)
          go_simp
          refine hK.out _ _ (HM124.out.below.alloc HM124.out.below.size _) (fun hHeld => ?_)
          clear hK K
          try simp only [Act.put, List.setIfInBounds_toArray, List.set_cons_zero, List.set_cons_succ]
          have HM126 := Lib.hid (HM124.out.withB)
          generalize u123.alloc (.cells #[.int .i64 0, .int .i64 0, .int .i64 3, .int .i64 2] 3) = u125 at HM126 hHeld ⊢
          refine wpAnyH_take (i := 15) (oi := ({ dst := some 28, op := Go.Op.indexAddr 60 (Go.Operand.tmp 24) (Go.Operand.tmp 27), type := 0, pos := "law.go:54", after := #[{ on := 11, ground := Go.Ground.data }, { on := 14, ground := Go.Ground.data }], guard := none } : Oper)) (v := .pointer (some ⟨u123.heap.size, 0, none⟩)) rfl (by kernel_rfl) (by kernel_rfl) (by kernel_rfl) (fun _ _ _ h => h) (Or.inl ⟨by rfl, fun w' hS' => ?_⟩) hHeld ?_
          · go_simp
          try simp only [Act.put, List.setIfInBounds_toArray, List.set_cons_zero, List.set_cons_succ]
          refine wpAnyH_ready (rs := [16]) (by kernel_rfl) (by simp) ?_
          refine (AllReadyH.cons (o := ({ dst := some 29, op := Go.Op.load 3 (Go.Operand.tmp 28), type := 3, pos := "law.go:54", after := #[{ on := 15, ground := Go.Ground.data }], guard := none } : Oper)) rfl (fun K hK => ?_) AllReadyH.nil)
          have d := (HM126.out.b _ rfl).1
          go_simp
          refine hK.out _ _ HM126.out.below (fun hHeld => ?_)
          clear hK K d
          try simp only [Act.put, List.setIfInBounds_toArray, List.set_cons_zero, List.set_cons_succ]
          refine wpAnyH_take (i := 24) (oi := ({ dst := some 37, op := Go.Op.build 29 #[(0, Go.Operand.tmp 14), (1, Go.Operand.tmp 17), (2, Go.Operand.tmp 20), (3, Go.Operand.tmp 23), (4, Go.Operand.tmp 29), (5, Go.Operand.tmp 36)], type := 29, pos := "law.go:54", after := #[{ on := 1, ground := Go.Ground.data }, { on := 4, ground := Go.Ground.data }, { on := 7, ground := Go.Ground.data }, { on := 10, ground := Go.Ground.data }, { on := 16, ground := Go.Ground.data }, { on := 23, ground := Go.Ground.data }], guard := none } : Oper)) (v := .agg (cpC D S ty)) rfl (by kernel_rfl) (by kernel_rfl) (by kernel_rfl) (fun _ _ _ h => h) (Or.inl ⟨by rfl, fun w' hS' => ?_⟩) hHeld ?_
          · go_simp; rfl
          try simp only [Act.put, List.setIfInBounds_toArray, List.set_cons_zero, List.set_cons_succ]
          refine wpAnyH_ready (rs := [26]) (by kernel_rfl) (by simp) ?_
          refine (AllReadyH.cons (o := ({ dst := none, op := Go.Op.store 29 (Go.Operand.tmp 9) (Go.Operand.tmp 37), type := 0, pos := "law.go:54", after := #[{ on := 25, ground := Go.Ground.data }, { on := 24, ground := Go.Ground.data }, { on := 21, ground := Go.Ground.chain }, { on := 0, ground := Go.Ground.phase }, { on := 1, ground := Go.Ground.phase }, { on := 2, ground := Go.Ground.phase }, { on := 3, ground := Go.Ground.phase }, { on := 4, ground := Go.Ground.phase }, { on := 5, ground := Go.Ground.phase }, { on := 6, ground := Go.Ground.phase }, { on := 7, ground := Go.Ground.phase }, { on := 8, ground := Go.Ground.phase }, { on := 9, ground := Go.Ground.phase }, { on := 10, ground := Go.Ground.phase }, { on := 11, ground := Go.Ground.phase }, { on := 12, ground := Go.Ground.phase }, { on := 13, ground := Go.Ground.phase }, { on := 14, ground := Go.Ground.phase }, { on := 15, ground := Go.Ground.phase }, { on := 16, ground := Go.Ground.phase }, { on := 17, ground := Go.Ground.phase }, { on := 18, ground := Go.Ground.phase }, { on := 19, ground := Go.Ground.phase }, { on := 20, ground := Go.Ground.phase }, { on := 21, ground := Go.Ground.phase }, { on := 22, ground := Go.Ground.phase }, { on := 23, ground := Go.Ground.phase }, { on := 24, ground := Go.Ground.phase }, { on := 25, ground := Go.Ground.phase }], guard := none } : Oper)) rfl (fun K hK => ?_) AllReadyH.nil)
          refine step_store_sr rfl 29 (.tmp 9) (.tmp 37) rfl (V0.heap.size) zMsg (cpC D S ty) 29 (HM126.out.a _ rfl).1 rfl rfl sizeM rfl oneL (fun w4 hg4 hw4 hs4 => ?_)
          have hB4 : Below W0.heap.size W0 w4 := HM126.out.below.grown hw4.out HM126.out.below.size (fun k e => by injection e with e; have := (HM126.out.a _ rfl).2; omega)
          refine hK.out _ _ hB4 (fun hHeld => ?_)
          clear hK K
          refine wpAnyH_done (by kernel_rfl) ?_ _
          try (go_wp2_with fail)
          go_meet
          case rel => exact ⟨_, rfl, Lib.hid ⟨(hB4.block _ (heap_lt hZ0)).trans hZ0, hg4.out, hB0.trans (hB4.mono hB0.size), by have := heap_lt hZ0; have := (HM126.out.a _ rfl).2; omega⟩⟩
  case rest =>
    obtain ⟨g, rfl, HS⟩ := hcut
    have hgg := HS.out.hg
    have SM := Lib.hid (show (Tryd.prog.info? 29).map (·.size) = some (cpC D S ty).size from sizeM)
    have HO := Lib.hid oneL
    have HZs : Hid (zMsg.size = (cpC D S ty).size) := Lib.hid rfl
    clear oneL
    generalize hMC : cpC D S ty = MC at HS SM HO HZs
    have HMC := Lib.hid hMC
    clear hMC
    go_wp2_with fail
    go_loopw [40, 10] (fun i _ wr => i = .int .i64 0 ∧ wr = wc) (fun _ _ _ => 0)
    case atStart => exact ⟨rfl, rfl⟩
    case round =>
      obtain ⟨rfl, rfl⟩ := hrel
      go_wp2_with (first
        | (refine wpList_load_row rfl 29 (.tmp 9) rfl g rfl 29 MC (0, 0) _ HS.out.m Tryd.underlying29 rfl SM.out ?_; go_simp)
        | (refine wpList_store_blk rfl 29 (.tmp 8) (.tmp 65) rfl (w.heap.size + 1) zMsg MC 29 HS.out.z rfl rfl SM.out HZs.out HO.out ?_; intro w9 hg9 hw9 hz9; go_simp))
      exact bodyPost_ret (results_cell_row rfl _ w9 (w.heap.size + 1) 29 MC (0, 0) _ rfl hg9.out Tryd.underlying29 rfl SM.out) rfl ⟨by rw [HMC.out], HS.out.below.grown hw9.out HS.out.below.size (fun k e => by injection e with e; omega)⟩
end Go.Proofs.YtogojnlfglbefaaDoor

