/-
  Records, messages and seeds as they lie in memory. Conditions: each states its own.
-/
import Derived.Test.YtgbijhinihchgaaChMgLib
namespace Go.Proofs.Ytgbijhinihchgaa
open Go.RowKit
theorem fill21m {cs : List Value} (h : cs.length = 21) : Instr.fill (fun i => some (i * 21, 21)) ((Array.range (1 * 21)).map ((Value.agg (RV.cells ⟨emp, 0, 0, zero16, emp, emp⟩)).cells[· % (Value.agg (RV.cells ⟨emp, 0, 0, zero16, emp, emp⟩)).cells.size]!)) [(0, .agg cs.toArray)] = some cs.toArray := by
  have := Great.fill_whole (s := 21) (by decide) [Value.agg cs.toArray] ((Array.range (1 * 21)).map ((Value.agg (RV.cells ⟨emp, 0, 0, zero16, emp, emp⟩)).cells[· % (Value.agg (RV.cells ⟨emp, 0, 0, zero16, emp, emp⟩)).cells.size]!)) (by simp [Value.cells, h]) (by simp)
  simpa [Value.cells] using this
set_option maxRecDepth 100000 in
set_option maxHeartbeats 32000000 in
theorem message_e (id0 fl : Int) (s : SV) (hf : s.Fits) (A : Option Addr) (ca : Nat) (l : List SV) (hl : ∀ x ∈ l, x.Fits) (w : World) (hA : SeedsAt w A l) (hlen : l.length ≤ 100000) :
    Calls Try.prog 9 #[.int .i64 id0, .int .i64 fl, .agg s.cells, .slice A l.length ca] w fun e w' => Below w.heap.size w w' ∧ ∃ m : MV, m.nrm = mgM id0 fl s l ∧ m.Lies w' ∧ e = .returned (.agg m.cells) := by
  have HL := Lib.hid hl
  have HSe := Lib.hid hA
  have HSd := Lib.hid (fun (x : SV) (hx : x.Fits) W => seed_e x hx W)
  have HN := Lib.hid (fun W => name4_e s.n (bN s.n 7) (bN_e s.n 7 (by omega)).2 (bN_e s.n 7 (by omega)).1 W)
  have HRc := Lib.hid (fun W => seed_e s hf W)
  have hfd : ∀ W, (Instr.field 41 (.agg (seedR s).cells) 1).run Try.prog W = .ok (.int .i64 (seedR s).ty) W := fun W => field_tyM _ (seedR_ok hf).fits.ad W
  obtain ⟨hD, hDl⟩ := bN_e id0 65535 (by omega)
  obtain ⟨h1, h1l⟩ := bN_e fl 1 (by omega)
  obtain ⟨h2, h2l⟩ := bN_e fl 2 (by omega)
  obtain ⟨h4, h4l⟩ := bN_e fl 4 (by omega)
  obtain ⟨hc, hcl⟩ := bN_e (fl / 8) 3 (by omega)
  have HCD : Hid ((#[.int .i64 0, .int .i64 0, .int .i64 3, .int .i64 2] : Array Value)[bN (fl / 8) 3]? = some (.int .i64 (codeN (bN (fl / 8) 3)))) := Lib.hid (code_at hcl)
  have HMG : Hid (∀ (A : Option Addr) (c : Nat) (U : Option Addr) (k : Nat), MV.nrm ⟨(bN id0 65535 : Nat), flB fl 1, flB fl 2, flB fl 4, codeN (bN (fl / 8) 3), bs (plN (bN s.n 7)), (seedR s).ty, A, c, anL (l.take 32), U, k, auL (l.take 32)⟩ = mgM id0 fl s l) := Lib.hid (fun _ _ _ _ => rfl)
  have c0 := s.c0
  have SSl : Hid ((Try.prog.info? 25).map (·.size) = some s.cells.toList.length) := Lib.hid (by rw [Array.length_toList, SV.size hf.ad]; exact sizeSeed)
  unfold flB at HMG
  obtain ⟨rp, hrp⟩ : ∃ rp, rp = decide (0 < bN fl 1) := ⟨_, rfl⟩
  obtain ⟨tr, htr⟩ : ∃ tr, tr = decide (0 < bN fl 2) := ⟨_, rfl⟩
  obtain ⟨rc, hrc⟩ : ∃ rc, rc = decide (0 < bN fl 4) := ⟨_, rfl⟩
  rw [← hrp, ← htr, ← hrc] at HMG
  replace hrp := hrp.symm
  replace htr := htr.symm
  replace hrc := hrc.symm
  generalize bN id0 65535 = D at hD hDl HMG
  generalize bN fl 1 = f1 at h1 h1l hrp
  generalize bN fl 2 = f2 at h2 h2l htr
  generalize bN fl 4 = f4 at h4 h4l hrc
  generalize bN (fl / 8) 3 = cc at hc hcl HCD HMG
  generalize codeN cc = code at HCD HMG
  generalize bs (plN (bN s.n 7)) = S at HN HMG
  generalize (seedR s).ty = ty at hfd HMG
  generalize (seedR s).cells = RC at HRc hfd
  generalize s.cells = cs at HRc c0 SSl ⊢
  have HM00 : Hid (#[.int .i64 (D : Nat), .bool rp, .bool tr, .bool rc, .int .i64 code, .string S, .int .i64 ty, .slice none 0 0, .slice none 0 0] = mgC (D : Nat) rp tr rc code S ty (.slice none 0 0) (.slice none 0 0)) := Lib.hid rfl
  have SM0 : Hid ((Try.prog.info? 32).map (·.size) = some (mgC (D : Nat) rp tr rc code S ty (.slice none 0 0) (.slice none 0 0)).size) := Lib.hid sizeM
  have ZM0 : Hid (zMsg.size = (mgC (D : Nat) rp tr rc code S ty (.slice none 0 0) (.slice none 0 0)).size) := Lib.hid rfl
  have OM0 : Hid ((mgC (D : Nat) rp tr rc code S ty (.slice none 0 0) (.slice none 0 0)).all (·.oneCell') = true) := Lib.hid (by simp [mgC, Value.oneCell'])
  have hcI : (cc : Int) < 4 := by omega
  have hD : bits BinOp.and IntKind.i64 id0 65535 = (D : Int) := hD
  have h1 : bits BinOp.and IntKind.i64 fl 1 = (f1 : Int) := h1
  have h2 : bits BinOp.and IntKind.i64 fl 2 = (f2 : Int) := h2
  have h4 : bits BinOp.and IntKind.i64 fl 4 = (f4 : Int) := h4
  have hc : bits BinOp.and IntKind.i64 (fl / 8) 3 = (cc : Int) := hc
  clear hf hl hA h1l h2l h4l hcl hDl
  generalize mgC (D : Nat) rp tr rc code S ty (.slice none 0 0) (.slice none 0 0) = M0 at HM00 SM0 ZM0 OM0
  have HlI := Lib.hid hlen
  clear hlen
  have ZM := Lib.hid zeroM
  go_enter Try.func9, Try.ntmps9
  go_upto_region 1 with fail
  go_cut [9] from 13 to 37 (fun t9 wx => ∃ g, t9 = .pointer (some ⟨g, 0, none⟩) ∧ Hid (MgF w wx g M0))
  case first =>
    have hB0 : Below w.heap.size w ((w.alloc (.cells cs 25)).alloc (.cells zMsg 32)) := ((Below.refl _ w).alloc (Nat.le_refl _) _).alloc (by simp) _
    have hM0 : ((w.alloc (.cells cs 25)).alloc (.cells zMsg 32)).heap[w.heap.size]? = some (.cells cs 25 (0, 0)) := (Below.heap_alloc _ _ _ (by simp)).trans (heap_alloc_last w _)
    have hZ0 : ((w.alloc (.cells cs 25)).alloc (.cells zMsg 32)).heap[w.heap.size + 1]? = some (.cells zMsg 32 (0, 0)) := by
      have h := heap_alloc_last (w.alloc (.cells cs 25)) (.cells zMsg 32)
      rwa [World.size_alloc] at h
    obtain ⟨W0, hW0⟩ : ∃ W0, W0 = (w.alloc (.cells cs 25)).alloc (.cells zMsg 32) := ⟨_, rfl⟩
    rw [← hW0] at hB0 hM0 hZ0
    unfold zMsg at hW0
    rw [← hW0]
    clear hW0
    have HX0 := Lib.hid (fun W (h : Below W0.heap.size W0 W) => (h.cell (p := ⟨w.heap.size, 0, none⟩) (heap_lt hM0)).trans ((cell_of_row W0 w.heap.size 0 _ _ _ hM0).trans c0))
    have HXR : Hid (∀ W, Below W0.heap.size W0 W → W.rangeAt w.heap.size 0 cs.toList) := Lib.hid (fun W h j v hv => by
      rw [cell_of_row W w.heap.size (0 + j) _ _ _ ((h.block _ (heap_lt hM0)).trans hM0), Nat.zero_add, ← Array.getElem?_toList]
      exact hv)
    refine wp_region_held_drew (S := (fun W : World => Below W0.heap.size W0 W)) (by kernel_rfl) (Below.refl _ W0).drew (fun hHeld => ?_)
    have HM0 : Hid (MgB W0 W0.drew none none) := Lib.hid ⟨(Below.refl _ W0).drew, (fun g h => by cases h), (fun g h => by cases h)⟩
    generalize W0.drew = V0 at HM0 hHeld ⊢
    refine wpAnyH_take (i := 0) (oi := ({ dst := some 13, op := Go.Op.move (Go.Operand.tmp 0), type := 3, pos := "law.go:54", after := #[], guard := none } : Oper)) (v := .int .i64 id0) rfl (by kernel_rfl) (by kernel_rfl) (by kernel_rfl) (fun _ _ _ h => h) (Or.inl ⟨by rfl, fun w' hS' => ?_⟩) hHeld ?_
    · go_simp
    try simp only [Act.put, List.setIfInBounds_toArray, List.set_cons_zero, List.set_cons_succ]
    refine wpAnyH_take (i := 1) (oi := ({ dst := some 14, op := Go.Op.binOp Go.BinOp.and 3 (Go.Operand.tmp 13) (Go.Operand.const (Go.Value.int Go.IntKind.i64 65535)) 3, type := 3, pos := "law.go:54", after := #[{ on := 0, ground := Go.Ground.data }], guard := none } : Oper)) (v := .int .i64 (D : Nat)) rfl (by kernel_rfl) (by kernel_rfl) (by kernel_rfl) (fun _ _ _ h => h) (Or.inl ⟨by rfl, fun w' hS' => ?_⟩) hHeld ?_
    · go_simp
    try simp only [Act.put, List.setIfInBounds_toArray, List.set_cons_zero, List.set_cons_succ]
    refine wpAnyH_take (i := 2) (oi := ({ dst := some 15, op := Go.Op.move (Go.Operand.tmp 1), type := 3, pos := "law.go:54", after := #[], guard := none } : Oper)) (v := .int .i64 fl) rfl (by kernel_rfl) (by kernel_rfl) (by kernel_rfl) (fun _ _ _ h => h) (Or.inl ⟨by rfl, fun w' hS' => ?_⟩) hHeld ?_
    · go_simp
    try simp only [Act.put, List.setIfInBounds_toArray, List.set_cons_zero, List.set_cons_succ]
    refine wpAnyH_take (i := 3) (oi := ({ dst := some 16, op := Go.Op.binOp Go.BinOp.and 3 (Go.Operand.tmp 15) (Go.Operand.const (Go.Value.int Go.IntKind.i64 1)) 3, type := 3, pos := "law.go:54", after := #[{ on := 2, ground := Go.Ground.data }], guard := none } : Oper)) (v := .int .i64 (f1 : Nat)) rfl (by kernel_rfl) (by kernel_rfl) (by kernel_rfl) (fun _ _ _ h => h) (Or.inl ⟨by rfl, fun w' hS' => ?_⟩) hHeld ?_
    · go_simp
    try simp only [Act.put, List.setIfInBounds_toArray, List.set_cons_zero, List.set_cons_succ]
    refine wpAnyH_take (i := 4) (oi := ({ dst := some 17, op := Go.Op.binOp Go.BinOp.gtr 3 (Go.Operand.tmp 16) (Go.Operand.const (Go.Value.int Go.IntKind.i64 0)) 3, type := 4, pos := "law.go:54", after := #[{ on := 3, ground := Go.Ground.data }], guard := none } : Oper)) (v := .bool rp) rfl (by kernel_rfl) (by kernel_rfl) (by kernel_rfl) (fun _ _ _ h => h) (Or.inl ⟨by rfl, fun w' hS' => ?_⟩) hHeld ?_
    · go_simp
    try simp only [Act.put, List.setIfInBounds_toArray, List.set_cons_zero, List.set_cons_succ]
    refine wpAnyH_take (i := 5) (oi := ({ dst := some 18, op := Go.Op.move (Go.Operand.tmp 1), type := 3, pos := "law.go:54", after := #[], guard := none } : Oper)) (v := .int .i64 fl) rfl (by kernel_rfl) (by kernel_rfl) (by kernel_rfl) (fun _ _ _ h => h) (Or.inl ⟨by rfl, fun w' hS' => ?_⟩) hHeld ?_
    · go_simp
    try simp only [Act.put, List.setIfInBounds_toArray, List.set_cons_zero, List.set_cons_succ]
    refine wpAnyH_take (i := 6) (oi := ({ dst := some 19, op := Go.Op.binOp Go.BinOp.and 3 (Go.Operand.tmp 18) (Go.Operand.const (Go.Value.int Go.IntKind.i64 2)) 3, type := 3, pos := "law.go:54", after := #[{ on := 5, ground := Go.Ground.data }], guard := none } : Oper)) (v := .int .i64 (f2 : Nat)) rfl (by kernel_rfl) (by kernel_rfl) (by kernel_rfl) (fun _ _ _ h => h) (Or.inl ⟨by rfl, fun w' hS' => ?_⟩) hHeld ?_
    · go_simp
    try simp only [Act.put, List.setIfInBounds_toArray, List.set_cons_zero, List.set_cons_succ]
    refine wpAnyH_take (i := 7) (oi := ({ dst := some 20, op := Go.Op.binOp Go.BinOp.gtr 3 (Go.Operand.tmp 19) (Go.Operand.const (Go.Value.int Go.IntKind.i64 0)) 3, type := 4, pos := "law.go:54", after := #[{ on := 6, ground := Go.Ground.data }], guard := none } : Oper)) (v := .bool tr) rfl (by kernel_rfl) (by kernel_rfl) (by kernel_rfl) (fun _ _ _ h => h) (Or.inl ⟨by rfl, fun w' hS' => ?_⟩) hHeld ?_
    · go_simp
    try simp only [Act.put, List.setIfInBounds_toArray, List.set_cons_zero, List.set_cons_succ]
    refine wpAnyH_take (i := 8) (oi := ({ dst := some 21, op := Go.Op.move (Go.Operand.tmp 1), type := 3, pos := "law.go:54", after := #[], guard := none } : Oper)) (v := .int .i64 fl) rfl (by kernel_rfl) (by kernel_rfl) (by kernel_rfl) (fun _ _ _ h => h) (Or.inl ⟨by rfl, fun w' hS' => ?_⟩) hHeld ?_
    · go_simp
    try simp only [Act.put, List.setIfInBounds_toArray, List.set_cons_zero, List.set_cons_succ]
    refine wpAnyH_take (i := 9) (oi := ({ dst := some 22, op := Go.Op.binOp Go.BinOp.and 3 (Go.Operand.tmp 21) (Go.Operand.const (Go.Value.int Go.IntKind.i64 4)) 3, type := 3, pos := "law.go:54", after := #[{ on := 8, ground := Go.Ground.data }], guard := none } : Oper)) (v := .int .i64 (f4 : Nat)) rfl (by kernel_rfl) (by kernel_rfl) (by kernel_rfl) (fun _ _ _ h => h) (Or.inl ⟨by rfl, fun w' hS' => ?_⟩) hHeld ?_
    · go_simp
    try simp only [Act.put, List.setIfInBounds_toArray, List.set_cons_zero, List.set_cons_succ]
    refine wpAnyH_take (i := 10) (oi := ({ dst := some 23, op := Go.Op.binOp Go.BinOp.gtr 3 (Go.Operand.tmp 22) (Go.Operand.const (Go.Value.int Go.IntKind.i64 0)) 3, type := 4, pos := "law.go:54", after := #[{ on := 9, ground := Go.Ground.data }], guard := none } : Oper)) (v := .bool rc) rfl (by kernel_rfl) (by kernel_rfl) (by kernel_rfl) (fun _ _ _ h => h) (Or.inl ⟨by rfl, fun w' hS' => ?_⟩) hHeld ?_
    · go_simp
    try simp only [Act.put, List.setIfInBounds_toArray, List.set_cons_zero, List.set_cons_succ]
    refine wpAnyH_take (i := 12) (oi := ({ dst := some 25, op := Go.Op.move (Go.Operand.tmp 1), type := 3, pos := "law.go:54", after := #[], guard := none } : Oper)) (v := .int .i64 fl) rfl (by kernel_rfl) (by kernel_rfl) (by kernel_rfl) (fun _ _ _ h => h) (Or.inl ⟨by rfl, fun w' hS' => ?_⟩) hHeld ?_
    · go_simp
    try simp only [Act.put, List.setIfInBounds_toArray, List.set_cons_zero, List.set_cons_succ]
    refine wpAnyH_take (i := 13) (oi := ({ dst := some 26, op := Go.Op.binOp Go.BinOp.shr 3 (Go.Operand.tmp 25) (Go.Operand.const (Go.Value.int Go.IntKind.u64 3)) 53, type := 3, pos := "law.go:54", after := #[{ on := 12, ground := Go.Ground.data }], guard := none } : Oper)) (v := .int .i64 (fl / 8)) rfl (by kernel_rfl) (by kernel_rfl) (by kernel_rfl) (fun _ _ _ h => h) (Or.inl ⟨by rfl, fun w' hS' => ?_⟩) hHeld ?_
    · go_simp
    try simp only [Act.put, List.setIfInBounds_toArray, List.set_cons_zero, List.set_cons_succ]
    refine wpAnyH_take (i := 14) (oi := ({ dst := some 27, op := Go.Op.binOp Go.BinOp.and 3 (Go.Operand.tmp 26) (Go.Operand.const (Go.Value.int Go.IntKind.i64 3)) 3, type := 3, pos := "law.go:54", after := #[{ on := 13, ground := Go.Ground.data }], guard := none } : Oper)) (v := .int .i64 (cc : Nat)) rfl (by kernel_rfl) (by kernel_rfl) (by kernel_rfl) (fun _ _ _ h => h) (Or.inl ⟨by rfl, fun w' hS' => ?_⟩) hHeld ?_
    · go_simp
    try simp only [Act.put, List.setIfInBounds_toArray, List.set_cons_zero, List.set_cons_succ]
    refine wpAnyH_take (i := 17) (oi := ({ dst := some 30, op := Go.Op.fieldAddr 25 (Go.Operand.tmp 6) 0, type := 0, pos := "law.go:54", after := #[], guard := none } : Oper)) (v := .pointer (some ⟨w.heap.size, 0, none⟩)) rfl (by kernel_rfl) (by kernel_rfl) (by kernel_rfl) (fun _ _ _ h => h) (Or.inl ⟨by rfl, fun w' hS' => ?_⟩) hHeld ?_
    · go_simp
    try simp only [Act.put, List.setIfInBounds_toArray, List.set_cons_zero, List.set_cons_succ]
    refine wpAnyH_take (i := 18) (oi := ({ dst := some 31, op := Go.Op.load 3 (Go.Operand.tmp 30), type := 3, pos := "law.go:54", after := #[{ on := 17, ground := Go.Ground.data }], guard := none } : Oper)) (v := .int .i64 s.n) rfl (by kernel_rfl) (by kernel_rfl) (by kernel_rfl) (fun _ _ _ h => h) (Or.inl ⟨by rfl, fun w' hS' => ?_⟩) hHeld ?_
    · have d := HX0.out w' hS'; go_simp
    try simp only [Act.put, List.setIfInBounds_toArray, List.set_cons_zero, List.set_cons_succ]
    refine wpAnyH_take (i := 20) (oi := ({ dst := some 33, op := Go.Op.load 25 (Go.Operand.tmp 6), type := 25, pos := "law.go:54", after := #[], guard := none } : Oper)) (v := .agg cs.toList.toArray) rfl (by kernel_rfl) (by kernel_rfl) (by kernel_rfl) (fun _ _ _ h => h) (yieldsIf_load_mid (by rfl) _ _ rfl _ _ rfl _ _ (fun W h => HXR.out W h) Try.underlying25 rfl SSl.out) hHeld ?_
    try simp only [Act.put, List.setIfInBounds_toArray, List.set_cons_zero, List.set_cons_succ]
    refine wpAnyH_ready (rs := [11, 19, 25]) (by kernel_rfl) (by simp) ?_
    refine (AllReadyH.cons (o := ({ dst := some 24, op := Go.Op.buildSlice 50 4 #[(0, Go.Operand.const (Go.Value.int Go.IntKind.i64 0)), (1, Go.Operand.const (Go.Value.int Go.IntKind.i64 0)), (2, Go.Operand.const (Go.Value.int Go.IntKind.i64 3)), (3, Go.Operand.const (Go.Value.int Go.IntKind.i64 2))], type := 50, pos := "law.go:54", after := #[], guard := none } : Oper)) rfl (fun K hK => ?_) (AllReadyH.cons (o := ({ dst := some 32, op := Go.Op.call { callee := Go.Callee.value (Go.Operand.func 17), args := #[Go.Operand.tmp 31], argTypes := #[3] }, type := 9, pos := "law.go:54", after := #[{ on := 18, ground := Go.Ground.data }], guard := none } : Oper)) rfl (fun K hK => ?_) (AllReadyH.cons (o := ({ dst := some 9, op := Go.Op.alloc 32, type := 0, pos := "law.go:54", after := #[], guard := none } : Oper)) rfl (fun K hK => ?_) AllReadyH.nil)))
    · go_simp
      refine hK.out _ _ (HM0.out.below.alloc HM0.out.below.size _) (fun hHeld => ?_)
      clear hK K
      try simp only [Act.put, List.setIfInBounds_toArray, List.set_cons_zero, List.set_cons_succ]
      have HM2 := Lib.hid (HM0.out.withB)
      generalize V0.alloc (.cells #[.int .i64 0, .int .i64 0, .int .i64 3, .int .i64 2] 3) = u1 at HM2 hHeld ⊢
      refine wpAnyH_take (i := 15) (oi := ({ dst := some 28, op := Go.Op.indexAddr 50 (Go.Operand.tmp 24) (Go.Operand.tmp 27), type := 0, pos := "law.go:54", after := #[{ on := 11, ground := Go.Ground.data }, { on := 14, ground := Go.Ground.data }], guard := none } : Oper)) (v := .pointer (some ⟨V0.heap.size, cc, none⟩)) rfl (by kernel_rfl) (by kernel_rfl) (by kernel_rfl) (fun _ _ _ h => h) (Or.inl ⟨by rfl, fun w' hS' => ?_⟩) hHeld ?_
      · go_simp
      try simp only [Act.put, List.setIfInBounds_toArray, List.set_cons_zero, List.set_cons_succ]
      refine wpAnyH_ready (rs := [16, 19, 25]) (by kernel_rfl) (by simp) ?_
      refine (AllReadyH.cons (o := ({ dst := some 29, op := Go.Op.load 3 (Go.Operand.tmp 28), type := 3, pos := "law.go:54", after := #[{ on := 15, ground := Go.Ground.data }], guard := none } : Oper)) rfl (fun K hK => ?_) (AllReadyH.cons (o := ({ dst := some 32, op := Go.Op.call { callee := Go.Callee.value (Go.Operand.func 17), args := #[Go.Operand.tmp 31], argTypes := #[3] }, type := 9, pos := "law.go:54", after := #[{ on := 18, ground := Go.Ground.data }], guard := none } : Oper)) rfl (fun K hK => ?_) (AllReadyH.cons (o := ({ dst := some 9, op := Go.Op.alloc 32, type := 0, pos := "law.go:54", after := #[], guard := none } : Oper)) rfl (fun K hK => ?_) AllReadyH.nil)))
      · have d := (cell_of_row _ _ cc _ _ _ (HM2.out.b _ rfl)).trans HCD.out
        go_simp
        refine hK.out _ _ HM2.out.below (fun hHeld => ?_)
        clear hK K d
        try simp only [Act.put, List.setIfInBounds_toArray, List.set_cons_zero, List.set_cons_succ]
        refine wpAnyH_ready (rs := [19, 25]) (by kernel_rfl) (by simp) ?_
        refine (AllReadyH.cons (o := ({ dst := some 32, op := Go.Op.call { callee := Go.Callee.value (Go.Operand.func 17), args := #[Go.Operand.tmp 31], argTypes := #[3] }, type := 9, pos := "law.go:54", after := #[{ on := 18, ground := Go.Ground.data }], guard := none } : Oper)) rfl (fun K hK => ?_) (AllReadyH.cons (o := ({ dst := some 9, op := Go.Op.alloc 32, type := 0, pos := "law.go:54", after := #[], guard := none } : Oper)) rfl (fun K hK => ?_) AllReadyH.nil))
        · go_simp
          go_at_call 17
          refine (HN.out _).mono ?_
          rintro e' u3 ⟨rfl, hbb⟩
          have HM4 := Lib.hid (HM2.out.to hbb)
          refine hK.out _ _ HM4.out.below (fun hHeld => ?_)
          clear hK K hbb
          try simp only [Act.put, List.setIfInBounds_toArray, List.set_cons_zero, List.set_cons_succ]
          refine wpAnyH_ready (rs := [21, 25]) (by kernel_rfl) (by simp) ?_
          refine (AllReadyH.cons (o := ({ dst := some 34, op := Go.Op.call { callee := Go.Callee.value (Go.Operand.func 15), args := #[Go.Operand.tmp 33], argTypes := #[25] }, type := 41, pos := "law.go:54", after := #[{ on := 20, ground := Go.Ground.data }, { on := 19, ground := Go.Ground.chain }], guard := none } : Oper)) rfl (fun K hK => ?_) (AllReadyH.cons (o := ({ dst := some 9, op := Go.Op.alloc 32, type := 0, pos := "law.go:54", after := #[], guard := none } : Oper)) rfl (fun K hK => ?_) AllReadyH.nil))
          · go_simp
            go_at_call 15
            refine (HRc.out _).mono ?_
            rintro e' u5 ⟨rfl, hbb⟩
            have HM6 := Lib.hid (HM4.out.to hbb)
            refine hK.out _ _ HM6.out.below (fun hHeld => ?_)
            clear hK K hbb
            try simp only [Act.put, List.setIfInBounds_toArray, List.set_cons_zero, List.set_cons_succ]
            refine wpAnyH_take (i := 22) (oi := ({ dst := some 35, op := Go.Op.field 41 (Go.Operand.tmp 34) 1, type := 3, pos := "law.go:54", after := #[{ on := 21, ground := Go.Ground.data }], guard := none } : Oper)) (v := .int .i64 ty) rfl (by kernel_rfl) (by kernel_rfl) (by kernel_rfl) (fun _ _ _ h => h) (Or.inl ⟨by rfl, fun w' hS' => ?_⟩) hHeld ?_
            · go_simp
            try simp only [Act.put, List.setIfInBounds_toArray, List.set_cons_zero, List.set_cons_succ]
            refine wpAnyH_take (i := 23) (oi := ({ dst := some 36, op := Go.Op.build 29 #[(0, Go.Operand.tmp 32), (1, Go.Operand.tmp 35)], type := 29, pos := "law.go:54", after := #[{ on := 19, ground := Go.Ground.data }, { on := 22, ground := Go.Ground.data }], guard := none } : Oper)) (v := .agg #[.string S, .int .i64 ty]) rfl (by kernel_rfl) (by kernel_rfl) (by kernel_rfl) (fun _ _ _ h => h) (Or.inl ⟨by rfl, fun w' hS' => ?_⟩) hHeld ?_
            · go_simp
            try simp only [Act.put, List.setIfInBounds_toArray, List.set_cons_zero, List.set_cons_succ]
            refine wpAnyH_take (i := 24) (oi := ({ dst := some 37, op := Go.Op.build 32 #[(0, Go.Operand.tmp 14), (1, Go.Operand.tmp 17), (2, Go.Operand.tmp 20), (3, Go.Operand.tmp 23), (4, Go.Operand.tmp 29), (5, Go.Operand.tmp 36)], type := 32, pos := "law.go:54", after := #[{ on := 1, ground := Go.Ground.data }, { on := 4, ground := Go.Ground.data }, { on := 7, ground := Go.Ground.data }, { on := 10, ground := Go.Ground.data }, { on := 16, ground := Go.Ground.data }, { on := 23, ground := Go.Ground.data }], guard := none } : Oper)) (v := .agg M0) rfl (by kernel_rfl) (by kernel_rfl) (by kernel_rfl) (fun _ _ _ h => h) (Or.inl ⟨by rfl, fun w' hS' => ?_⟩) hHeld ?_
            · go_simp; exact HM00.out
            try simp only [Act.put, List.setIfInBounds_toArray, List.set_cons_zero, List.set_cons_succ]
            refine wpAnyH_ready (rs := [25]) (by kernel_rfl) (by simp) ?_
            refine (AllReadyH.cons (o := ({ dst := some 9, op := Go.Op.alloc 32, type := 0, pos := "law.go:54", after := #[], guard := none } : Oper)) rfl (fun K hK => ?_) AllReadyH.nil)
            go_simp
            refine hK.out _ _ (HM6.out.below.alloc HM6.out.below.size _) (fun hHeld => ?_)
            clear hK K
            try simp only [Act.put, List.setIfInBounds_toArray, List.set_cons_zero, List.set_cons_succ]
            have HM8 := Lib.hid (HM6.out.withA)
            unfold zMsg at HM8
            generalize u5.alloc (.cells #[.int .i64 0, .bool false, .bool false, .bool false, .int .i64 0, .string ⟨#[]⟩, .int .i64 0, .slice none 0 0, .slice none 0 0] 32) = u7 at HM8 hHeld ⊢
            refine wpAnyH_ready (rs := [26]) (by kernel_rfl) (by simp) ?_
            refine (AllReadyH.cons (o := ({ dst := none, op := Go.Op.store 32 (Go.Operand.tmp 9) (Go.Operand.tmp 37), type := 0, pos := "law.go:54", after := #[{ on := 25, ground := Go.Ground.data }, { on := 24, ground := Go.Ground.data }, { on := 21, ground := Go.Ground.chain }, { on := 0, ground := Go.Ground.phase }, { on := 1, ground := Go.Ground.phase }, { on := 2, ground := Go.Ground.phase }, { on := 3, ground := Go.Ground.phase }, { on := 4, ground := Go.Ground.phase }, { on := 5, ground := Go.Ground.phase }, { on := 6, ground := Go.Ground.phase }, { on := 7, ground := Go.Ground.phase }, { on := 8, ground := Go.Ground.phase }, { on := 9, ground := Go.Ground.phase }, { on := 10, ground := Go.Ground.phase }, { on := 11, ground := Go.Ground.phase }, { on := 12, ground := Go.Ground.phase }, { on := 13, ground := Go.Ground.phase }, { on := 14, ground := Go.Ground.phase }, { on := 15, ground := Go.Ground.phase }, { on := 16, ground := Go.Ground.phase }, { on := 17, ground := Go.Ground.phase }, { on := 18, ground := Go.Ground.phase }, { on := 19, ground := Go.Ground.phase }, { on := 20, ground := Go.Ground.phase }, { on := 21, ground := Go.Ground.phase }, { on := 22, ground := Go.Ground.phase }, { on := 23, ground := Go.Ground.phase }, { on := 24, ground := Go.Ground.phase }, { on := 25, ground := Go.Ground.phase }], guard := none } : Oper)) rfl (fun K hK => ?_) AllReadyH.nil)
            refine step_store_sr rfl 32 (.tmp 9) (.tmp 37) rfl (u5.heap.size) zMsg M0 32 (HM8.out.a _ rfl).1 rfl rfl SM0.out ZM0.out OM0.out (fun w4 hg4 hw4 hs4 => ?_)
            have hB4 : Below W0.heap.size W0 w4 := HM8.out.below.grown hw4.out HM8.out.below.size (fun k e => by injection e with e; have := (HM8.out.a _ rfl).2; omega)
            refine hK.out _ _ hB4 (fun hHeld => ?_)
            clear hK K
            refine wpAnyH_done (by kernel_rfl) ?_ _
            try (go_wp2_with fail)
            go_meet
            case rel => exact ⟨_, rfl, Lib.hid ⟨(hB4.block _ (heap_lt hZ0)).trans hZ0, hg4.out, hB0.trans (hB4.mono hB0.size), by have := heap_lt hZ0; have := (HM8.out.a _ rfl).2; omega⟩⟩
          · go_simp
            refine hK.out _ _ (HM4.out.below.alloc HM4.out.below.size _) (fun hHeld => ?_)
            clear hK K
            try simp only [Act.put, List.setIfInBounds_toArray, List.set_cons_zero, List.set_cons_succ]
            have HM10 := Lib.hid (HM4.out.withA)
            unfold zMsg at HM10
            generalize u3.alloc (.cells #[.int .i64 0, .bool false, .bool false, .bool false, .int .i64 0, .string ⟨#[]⟩, .int .i64 0, .slice none 0 0, .slice none 0 0] 32) = u9 at HM10 hHeld ⊢
            refine wpAnyH_ready (rs := [21]) (by kernel_rfl) (by simp) ?_
            refine (AllReadyH.cons (o := ({ dst := some 34, op := Go.Op.call { callee := Go.Callee.value (Go.Operand.func 15), args := #[Go.Operand.tmp 33], argTypes := #[25] }, type := 41, pos := "law.go:54", after := #[{ on := 20, ground := Go.Ground.data }, { on := 19, ground := Go.Ground.chain }], guard := none } : Oper)) rfl (fun K hK => ?_) AllReadyH.nil)
            go_simp
            go_at_call 15
            refine (HRc.out _).mono ?_
            rintro e' u11 ⟨rfl, hbb⟩
            have HM12 := Lib.hid (HM10.out.to hbb)
            refine hK.out _ _ HM12.out.below (fun hHeld => ?_)
            clear hK K hbb
            try simp only [Act.put, List.setIfInBounds_toArray, List.set_cons_zero, List.set_cons_succ]
            refine wpAnyH_take (i := 22) (oi := ({ dst := some 35, op := Go.Op.field 41 (Go.Operand.tmp 34) 1, type := 3, pos := "law.go:54", after := #[{ on := 21, ground := Go.Ground.data }], guard := none } : Oper)) (v := .int .i64 ty) rfl (by kernel_rfl) (by kernel_rfl) (by kernel_rfl) (fun _ _ _ h => h) (Or.inl ⟨by rfl, fun w' hS' => ?_⟩) hHeld ?_
            · go_simp
            try simp only [Act.put, List.setIfInBounds_toArray, List.set_cons_zero, List.set_cons_succ]
            refine wpAnyH_take (i := 23) (oi := ({ dst := some 36, op := Go.Op.build 29 #[(0, Go.Operand.tmp 32), (1, Go.Operand.tmp 35)], type := 29, pos := "law.go:54", after := #[{ on := 19, ground := Go.Ground.data }, { on := 22, ground := Go.Ground.data }], guard := none } : Oper)) (v := .agg #[.string S, .int .i64 ty]) rfl (by kernel_rfl) (by kernel_rfl) (by kernel_rfl) (fun _ _ _ h => h) (Or.inl ⟨by rfl, fun w' hS' => ?_⟩) hHeld ?_
            · go_simp
            try simp only [Act.put, List.setIfInBounds_toArray, List.set_cons_zero, List.set_cons_succ]
            refine wpAnyH_take (i := 24) (oi := ({ dst := some 37, op := Go.Op.build 32 #[(0, Go.Operand.tmp 14), (1, Go.Operand.tmp 17), (2, Go.Operand.tmp 20), (3, Go.Operand.tmp 23), (4, Go.Operand.tmp 29), (5, Go.Operand.tmp 36)], type := 32, pos := "law.go:54", after := #[{ on := 1, ground := Go.Ground.data }, { on := 4, ground := Go.Ground.data }, { on := 7, ground := Go.Ground.data }, { on := 10, ground := Go.Ground.data }, { on := 16, ground := Go.Ground.data }, { on := 23, ground := Go.Ground.data }], guard := none } : Oper)) (v := .agg M0) rfl (by kernel_rfl) (by kernel_rfl) (by kernel_rfl) (fun _ _ _ h => h) (Or.inl ⟨by rfl, fun w' hS' => ?_⟩) hHeld ?_
            · go_simp; exact HM00.out
            try simp only [Act.put, List.setIfInBounds_toArray, List.set_cons_zero, List.set_cons_succ]
            refine wpAnyH_ready (rs := [26]) (by kernel_rfl) (by simp) ?_
            refine (AllReadyH.cons (o := ({ dst := none, op := Go.Op.store 32 (Go.Operand.tmp 9) (Go.Operand.tmp 37), type := 0, pos := "law.go:54", after := #[{ on := 25, ground := Go.Ground.data }, { on := 24, ground := Go.Ground.data }, { on := 21, ground := Go.Ground.chain }, { on := 0, ground := Go.Ground.phase }, { on := 1, ground := Go.Ground.phase }, { on := 2, ground := Go.Ground.phase }, { on := 3, ground := Go.Ground.phase }, { on := 4, ground := Go.Ground.phase }, { on := 5, ground := Go.Ground.phase }, { on := 6, ground := Go.Ground.phase }, { on := 7, ground := Go.Ground.phase }, { on := 8, ground := Go.Ground.phase }, { on := 9, ground := Go.Ground.phase }, { on := 10, ground := Go.Ground.phase }, { on := 11, ground := Go.Ground.phase }, { on := 12, ground := Go.Ground.phase }, { on := 13, ground := Go.Ground.phase }, { on := 14, ground := Go.Ground.phase }, { on := 15, ground := Go.Ground.phase }, { on := 16, ground := Go.Ground.phase }, { on := 17, ground := Go.Ground.phase }, { on := 18, ground := Go.Ground.phase }, { on := 19, ground := Go.Ground.phase }, { on := 20, ground := Go.Ground.phase }, { on := 21, ground := Go.Ground.phase }, { on := 22, ground := Go.Ground.phase }, { on := 23, ground := Go.Ground.phase }, { on := 24, ground := Go.Ground.phase }, { on := 25, ground := Go.Ground.phase }], guard := none } : Oper)) rfl (fun K hK => ?_) AllReadyH.nil)
            refine step_store_sr rfl 32 (.tmp 9) (.tmp 37) rfl (u3.heap.size) zMsg M0 32 (HM12.out.a _ rfl).1 rfl rfl SM0.out ZM0.out OM0.out (fun w4 hg4 hw4 hs4 => ?_)
            have hB4 : Below W0.heap.size W0 w4 := HM12.out.below.grown hw4.out HM12.out.below.size (fun k e => by injection e with e; have := (HM12.out.a _ rfl).2; omega)
            refine hK.out _ _ hB4 (fun hHeld => ?_)
            clear hK K
            refine wpAnyH_done (by kernel_rfl) ?_ _
            try (go_wp2_with fail)
            go_meet
            case rel => exact ⟨_, rfl, Lib.hid ⟨(hB4.block _ (heap_lt hZ0)).trans hZ0, hg4.out, hB0.trans (hB4.mono hB0.size), by have := heap_lt hZ0; have := (HM12.out.a _ rfl).2; omega⟩⟩
        · go_simp
          refine hK.out _ _ (HM2.out.below.alloc HM2.out.below.size _) (fun hHeld => ?_)
          clear hK K
          try simp only [Act.put, List.setIfInBounds_toArray, List.set_cons_zero, List.set_cons_succ]
          have HM14 := Lib.hid (HM2.out.withA)
          unfold zMsg at HM14
          generalize u1.alloc (.cells #[.int .i64 0, .bool false, .bool false, .bool false, .int .i64 0, .string ⟨#[]⟩, .int .i64 0, .slice none 0 0, .slice none 0 0] 32) = u13 at HM14 hHeld ⊢
          refine wpAnyH_ready (rs := [19]) (by kernel_rfl) (by simp) ?_
          refine (AllReadyH.cons (o := ({ dst := some 32, op := Go.Op.call { callee := Go.Callee.value (Go.Operand.func 17), args := #[Go.Operand.tmp 31], argTypes := #[3] }, type := 9, pos := "law.go:54", after := #[{ on := 18, ground := Go.Ground.data }], guard := none } : Oper)) rfl (fun K hK => ?_) AllReadyH.nil)
          go_simp
          go_at_call 17
          refine (HN.out _).mono ?_
          rintro e' u15 ⟨rfl, hbb⟩
          have HM16 := Lib.hid (HM14.out.to hbb)
          refine hK.out _ _ HM16.out.below (fun hHeld => ?_)
          clear hK K hbb
          try simp only [Act.put, List.setIfInBounds_toArray, List.set_cons_zero, List.set_cons_succ]
          refine wpAnyH_ready (rs := [21]) (by kernel_rfl) (by simp) ?_
          refine (AllReadyH.cons (o := ({ dst := some 34, op := Go.Op.call { callee := Go.Callee.value (Go.Operand.func 15), args := #[Go.Operand.tmp 33], argTypes := #[25] }, type := 41, pos := "law.go:54", after := #[{ on := 20, ground := Go.Ground.data }, { on := 19, ground := Go.Ground.chain }], guard := none } : Oper)) rfl (fun K hK => ?_) AllReadyH.nil)
          go_simp
          go_at_call 15
          refine (HRc.out _).mono ?_
          rintro e' u17 ⟨rfl, hbb⟩
          have HM18 := Lib.hid (HM16.out.to hbb)
          refine hK.out _ _ HM18.out.below (fun hHeld => ?_)
          clear hK K hbb
          try simp only [Act.put, List.setIfInBounds_toArray, List.set_cons_zero, List.set_cons_succ]
          refine wpAnyH_take (i := 22) (oi := ({ dst := some 35, op := Go.Op.field 41 (Go.Operand.tmp 34) 1, type := 3, pos := "law.go:54", after := #[{ on := 21, ground := Go.Ground.data }], guard := none } : Oper)) (v := .int .i64 ty) rfl (by kernel_rfl) (by kernel_rfl) (by kernel_rfl) (fun _ _ _ h => h) (Or.inl ⟨by rfl, fun w' hS' => ?_⟩) hHeld ?_
          · go_simp
          try simp only [Act.put, List.setIfInBounds_toArray, List.set_cons_zero, List.set_cons_succ]
          refine wpAnyH_take (i := 23) (oi := ({ dst := some 36, op := Go.Op.build 29 #[(0, Go.Operand.tmp 32), (1, Go.Operand.tmp 35)], type := 29, pos := "law.go:54", after := #[{ on := 19, ground := Go.Ground.data }, { on := 22, ground := Go.Ground.data }], guard := none } : Oper)) (v := .agg #[.string S, .int .i64 ty]) rfl (by kernel_rfl) (by kernel_rfl) (by kernel_rfl) (fun _ _ _ h => h) (Or.inl ⟨by rfl, fun w' hS' => ?_⟩) hHeld ?_
          · go_simp
          try simp only [Act.put, List.setIfInBounds_toArray, List.set_cons_zero, List.set_cons_succ]
          refine wpAnyH_take (i := 24) (oi := ({ dst := some 37, op := Go.Op.build 32 #[(0, Go.Operand.tmp 14), (1, Go.Operand.tmp 17), (2, Go.Operand.tmp 20), (3, Go.Operand.tmp 23), (4, Go.Operand.tmp 29), (5, Go.Operand.tmp 36)], type := 32, pos := "law.go:54", after := #[{ on := 1, ground := Go.Ground.data }, { on := 4, ground := Go.Ground.data }, { on := 7, ground := Go.Ground.data }, { on := 10, ground := Go.Ground.data }, { on := 16, ground := Go.Ground.data }, { on := 23, ground := Go.Ground.data }], guard := none } : Oper)) (v := .agg M0) rfl (by kernel_rfl) (by kernel_rfl) (by kernel_rfl) (fun _ _ _ h => h) (Or.inl ⟨by rfl, fun w' hS' => ?_⟩) hHeld ?_
          · go_simp; exact HM00.out
          try simp only [Act.put, List.setIfInBounds_toArray, List.set_cons_zero, List.set_cons_succ]
          refine wpAnyH_ready (rs := [26]) (by kernel_rfl) (by simp) ?_
          refine (AllReadyH.cons (o := ({ dst := none, op := Go.Op.store 32 (Go.Operand.tmp 9) (Go.Operand.tmp 37), type := 0, pos := "law.go:54", after := #[{ on := 25, ground := Go.Ground.data }, { on := 24, ground := Go.Ground.data }, { on := 21, ground := Go.Ground.chain }, { on := 0, ground := Go.Ground.phase }, { on := 1, ground := Go.Ground.phase }, { on := 2, ground := Go.Ground.phase }, { on := 3, ground := Go.Ground.phase }, { on := 4, ground := Go.Ground.phase }, { on := 5, ground := Go.Ground.phase }, { on := 6, ground := Go.Ground.phase }, { on := 7, ground := Go.Ground.phase }, { on := 8, ground := Go.Ground.phase }, { on := 9, ground := Go.Ground.phase }, { on := 10, ground := Go.Ground.phase }, { on := 11, ground := Go.Ground.phase }, { on := 12, ground := Go.Ground.phase }, { on := 13, ground := Go.Ground.phase }, { on := 14, ground := Go.Ground.phase }, { on := 15, ground := Go.Ground.phase }, { on := 16, ground := Go.Ground.phase }, { on := 17, ground := Go.Ground.phase }, { on := 18, ground := Go.Ground.phase }, { on := 19, ground := Go.Ground.phase }, { on := 20, ground := Go.Ground.phase }, { on := 21, ground := Go.Ground.phase }, { on := 22, ground := Go.Ground.phase }, { on := 23, ground := Go.Ground.phase }, { on := 24, ground := Go.Ground.phase }, { on := 25, ground := Go.Ground.phase }], guard := none } : Oper)) rfl (fun K hK => ?_) AllReadyH.nil)
          refine step_store_sr rfl 32 (.tmp 9) (.tmp 37) rfl (u1.heap.size) zMsg M0 32 (HM18.out.a _ rfl).1 rfl rfl SM0.out ZM0.out OM0.out (fun w4 hg4 hw4 hs4 => ?_)
          have hB4 : Below W0.heap.size W0 w4 := HM18.out.below.grown hw4.out HM18.out.below.size (fun k e => by injection e with e; have := (HM18.out.a _ rfl).2; omega)
          refine hK.out _ _ hB4 (fun hHeld => ?_)
          clear hK K
          refine wpAnyH_done (by kernel_rfl) ?_ _
          try (go_wp2_with fail)
          go_meet
          case rel => exact ⟨_, rfl, Lib.hid ⟨(hB4.block _ (heap_lt hZ0)).trans hZ0, hg4.out, hB0.trans (hB4.mono hB0.size), by have := heap_lt hZ0; have := (HM18.out.a _ rfl).2; omega⟩⟩
      · go_simp
        go_at_call 17
        refine (HN.out _).mono ?_
        rintro e' u19 ⟨rfl, hbb⟩
        have HM20 := Lib.hid (HM2.out.to hbb)
        refine hK.out _ _ HM20.out.below (fun hHeld => ?_)
        clear hK K hbb
        try simp only [Act.put, List.setIfInBounds_toArray, List.set_cons_zero, List.set_cons_succ]
        refine wpAnyH_ready (rs := [16, 21, 25]) (by kernel_rfl) (by simp) ?_
        refine (AllReadyH.cons (o := ({ dst := some 29, op := Go.Op.load 3 (Go.Operand.tmp 28), type := 3, pos := "law.go:54", after := #[{ on := 15, ground := Go.Ground.data }], guard := none } : Oper)) rfl (fun K hK => ?_) (AllReadyH.cons (o := ({ dst := some 34, op := Go.Op.call { callee := Go.Callee.value (Go.Operand.func 15), args := #[Go.Operand.tmp 33], argTypes := #[25] }, type := 41, pos := "law.go:54", after := #[{ on := 20, ground := Go.Ground.data }, { on := 19, ground := Go.Ground.chain }], guard := none } : Oper)) rfl (fun K hK => ?_) (AllReadyH.cons (o := ({ dst := some 9, op := Go.Op.alloc 32, type := 0, pos := "law.go:54", after := #[], guard := none } : Oper)) rfl (fun K hK => ?_) AllReadyH.nil)))
        · have d := (cell_of_row _ _ cc _ _ _ (HM20.out.b _ rfl)).trans HCD.out
          go_simp
          refine hK.out _ _ HM20.out.below (fun hHeld => ?_)
          clear hK K d
          try simp only [Act.put, List.setIfInBounds_toArray, List.set_cons_zero, List.set_cons_succ]
          refine wpAnyH_ready (rs := [21, 25]) (by kernel_rfl) (by simp) ?_
          refine (AllReadyH.cons (o := ({ dst := some 34, op := Go.Op.call { callee := Go.Callee.value (Go.Operand.func 15), args := #[Go.Operand.tmp 33], argTypes := #[25] }, type := 41, pos := "law.go:54", after := #[{ on := 20, ground := Go.Ground.data }, { on := 19, ground := Go.Ground.chain }], guard := none } : Oper)) rfl (fun K hK => ?_) (AllReadyH.cons (o := ({ dst := some 9, op := Go.Op.alloc 32, type := 0, pos := "law.go:54", after := #[], guard := none } : Oper)) rfl (fun K hK => ?_) AllReadyH.nil))
          · go_simp
            go_at_call 15
            refine (HRc.out _).mono ?_
            rintro e' u21 ⟨rfl, hbb⟩
            have HM22 := Lib.hid (HM20.out.to hbb)
            refine hK.out _ _ HM22.out.below (fun hHeld => ?_)
            clear hK K hbb
            try simp only [Act.put, List.setIfInBounds_toArray, List.set_cons_zero, List.set_cons_succ]
            refine wpAnyH_take (i := 22) (oi := ({ dst := some 35, op := Go.Op.field 41 (Go.Operand.tmp 34) 1, type := 3, pos := "law.go:54", after := #[{ on := 21, ground := Go.Ground.data }], guard := none } : Oper)) (v := .int .i64 ty) rfl (by kernel_rfl) (by kernel_rfl) (by kernel_rfl) (fun _ _ _ h => h) (Or.inl ⟨by rfl, fun w' hS' => ?_⟩) hHeld ?_
            · go_simp
            try simp only [Act.put, List.setIfInBounds_toArray, List.set_cons_zero, List.set_cons_succ]
            refine wpAnyH_take (i := 23) (oi := ({ dst := some 36, op := Go.Op.build 29 #[(0, Go.Operand.tmp 32), (1, Go.Operand.tmp 35)], type := 29, pos := "law.go:54", after := #[{ on := 19, ground := Go.Ground.data }, { on := 22, ground := Go.Ground.data }], guard := none } : Oper)) (v := .agg #[.string S, .int .i64 ty]) rfl (by kernel_rfl) (by kernel_rfl) (by kernel_rfl) (fun _ _ _ h => h) (Or.inl ⟨by rfl, fun w' hS' => ?_⟩) hHeld ?_
            · go_simp
            try simp only [Act.put, List.setIfInBounds_toArray, List.set_cons_zero, List.set_cons_succ]
            refine wpAnyH_take (i := 24) (oi := ({ dst := some 37, op := Go.Op.build 32 #[(0, Go.Operand.tmp 14), (1, Go.Operand.tmp 17), (2, Go.Operand.tmp 20), (3, Go.Operand.tmp 23), (4, Go.Operand.tmp 29), (5, Go.Operand.tmp 36)], type := 32, pos := "law.go:54", after := #[{ on := 1, ground := Go.Ground.data }, { on := 4, ground := Go.Ground.data }, { on := 7, ground := Go.Ground.data }, { on := 10, ground := Go.Ground.data }, { on := 16, ground := Go.Ground.data }, { on := 23, ground := Go.Ground.data }], guard := none } : Oper)) (v := .agg M0) rfl (by kernel_rfl) (by kernel_rfl) (by kernel_rfl) (fun _ _ _ h => h) (Or.inl ⟨by rfl, fun w' hS' => ?_⟩) hHeld ?_
            · go_simp; exact HM00.out
            try simp only [Act.put, List.setIfInBounds_toArray, List.set_cons_zero, List.set_cons_succ]
            refine wpAnyH_ready (rs := [25]) (by kernel_rfl) (by simp) ?_
            refine (AllReadyH.cons (o := ({ dst := some 9, op := Go.Op.alloc 32, type := 0, pos := "law.go:54", after := #[], guard := none } : Oper)) rfl (fun K hK => ?_) AllReadyH.nil)
            go_simp
            refine hK.out _ _ (HM22.out.below.alloc HM22.out.below.size _) (fun hHeld => ?_)
            clear hK K
            try simp only [Act.put, List.setIfInBounds_toArray, List.set_cons_zero, List.set_cons_succ]
            have HM24 := Lib.hid (HM22.out.withA)
            unfold zMsg at HM24
            generalize u21.alloc (.cells #[.int .i64 0, .bool false, .bool false, .bool false, .int .i64 0, .string ⟨#[]⟩, .int .i64 0, .slice none 0 0, .slice none 0 0] 32) = u23 at HM24 hHeld ⊢
            refine wpAnyH_ready (rs := [26]) (by kernel_rfl) (by simp) ?_
            refine (AllReadyH.cons (o := ({ dst := none, op := Go.Op.store 32 (Go.Operand.tmp 9) (Go.Operand.tmp 37), type := 0, pos := "law.go:54", after := #[{ on := 25, ground := Go.Ground.data }, { on := 24, ground := Go.Ground.data }, { on := 21, ground := Go.Ground.chain }, { on := 0, ground := Go.Ground.phase }, { on := 1, ground := Go.Ground.phase }, { on := 2, ground := Go.Ground.phase }, { on := 3, ground := Go.Ground.phase }, { on := 4, ground := Go.Ground.phase }, { on := 5, ground := Go.Ground.phase }, { on := 6, ground := Go.Ground.phase }, { on := 7, ground := Go.Ground.phase }, { on := 8, ground := Go.Ground.phase }, { on := 9, ground := Go.Ground.phase }, { on := 10, ground := Go.Ground.phase }, { on := 11, ground := Go.Ground.phase }, { on := 12, ground := Go.Ground.phase }, { on := 13, ground := Go.Ground.phase }, { on := 14, ground := Go.Ground.phase }, { on := 15, ground := Go.Ground.phase }, { on := 16, ground := Go.Ground.phase }, { on := 17, ground := Go.Ground.phase }, { on := 18, ground := Go.Ground.phase }, { on := 19, ground := Go.Ground.phase }, { on := 20, ground := Go.Ground.phase }, { on := 21, ground := Go.Ground.phase }, { on := 22, ground := Go.Ground.phase }, { on := 23, ground := Go.Ground.phase }, { on := 24, ground := Go.Ground.phase }, { on := 25, ground := Go.Ground.phase }], guard := none } : Oper)) rfl (fun K hK => ?_) AllReadyH.nil)
            refine step_store_sr rfl 32 (.tmp 9) (.tmp 37) rfl (u21.heap.size) zMsg M0 32 (HM24.out.a _ rfl).1 rfl rfl SM0.out ZM0.out OM0.out (fun w4 hg4 hw4 hs4 => ?_)
            have hB4 : Below W0.heap.size W0 w4 := HM24.out.below.grown hw4.out HM24.out.below.size (fun k e => by injection e with e; have := (HM24.out.a _ rfl).2; omega)
            refine hK.out _ _ hB4 (fun hHeld => ?_)
            clear hK K
            refine wpAnyH_done (by kernel_rfl) ?_ _
            try (go_wp2_with fail)
            go_meet
            case rel => exact ⟨_, rfl, Lib.hid ⟨(hB4.block _ (heap_lt hZ0)).trans hZ0, hg4.out, hB0.trans (hB4.mono hB0.size), by have := heap_lt hZ0; have := (HM24.out.a _ rfl).2; omega⟩⟩
          · go_simp
            refine hK.out _ _ (HM20.out.below.alloc HM20.out.below.size _) (fun hHeld => ?_)
            clear hK K
            try simp only [Act.put, List.setIfInBounds_toArray, List.set_cons_zero, List.set_cons_succ]
            have HM26 := Lib.hid (HM20.out.withA)
            unfold zMsg at HM26
            generalize u19.alloc (.cells #[.int .i64 0, .bool false, .bool false, .bool false, .int .i64 0, .string ⟨#[]⟩, .int .i64 0, .slice none 0 0, .slice none 0 0] 32) = u25 at HM26 hHeld ⊢
            refine wpAnyH_ready (rs := [21]) (by kernel_rfl) (by simp) ?_
            refine (AllReadyH.cons (o := ({ dst := some 34, op := Go.Op.call { callee := Go.Callee.value (Go.Operand.func 15), args := #[Go.Operand.tmp 33], argTypes := #[25] }, type := 41, pos := "law.go:54", after := #[{ on := 20, ground := Go.Ground.data }, { on := 19, ground := Go.Ground.chain }], guard := none } : Oper)) rfl (fun K hK => ?_) AllReadyH.nil)
            go_simp
            go_at_call 15
            refine (HRc.out _).mono ?_
            rintro e' u27 ⟨rfl, hbb⟩
            have HM28 := Lib.hid (HM26.out.to hbb)
            refine hK.out _ _ HM28.out.below (fun hHeld => ?_)
            clear hK K hbb
            try simp only [Act.put, List.setIfInBounds_toArray, List.set_cons_zero, List.set_cons_succ]
            refine wpAnyH_take (i := 22) (oi := ({ dst := some 35, op := Go.Op.field 41 (Go.Operand.tmp 34) 1, type := 3, pos := "law.go:54", after := #[{ on := 21, ground := Go.Ground.data }], guard := none } : Oper)) (v := .int .i64 ty) rfl (by kernel_rfl) (by kernel_rfl) (by kernel_rfl) (fun _ _ _ h => h) (Or.inl ⟨by rfl, fun w' hS' => ?_⟩) hHeld ?_
            · go_simp
            try simp only [Act.put, List.setIfInBounds_toArray, List.set_cons_zero, List.set_cons_succ]
            refine wpAnyH_take (i := 23) (oi := ({ dst := some 36, op := Go.Op.build 29 #[(0, Go.Operand.tmp 32), (1, Go.Operand.tmp 35)], type := 29, pos := "law.go:54", after := #[{ on := 19, ground := Go.Ground.data }, { on := 22, ground := Go.Ground.data }], guard := none } : Oper)) (v := .agg #[.string S, .int .i64 ty]) rfl (by kernel_rfl) (by kernel_rfl) (by kernel_rfl) (fun _ _ _ h => h) (Or.inl ⟨by rfl, fun w' hS' => ?_⟩) hHeld ?_
            · go_simp
            try simp only [Act.put, List.setIfInBounds_toArray, List.set_cons_zero, List.set_cons_succ]
            refine wpAnyH_take (i := 24) (oi := ({ dst := some 37, op := Go.Op.build 32 #[(0, Go.Operand.tmp 14), (1, Go.Operand.tmp 17), (2, Go.Operand.tmp 20), (3, Go.Operand.tmp 23), (4, Go.Operand.tmp 29), (5, Go.Operand.tmp 36)], type := 32, pos := "law.go:54", after := #[{ on := 1, ground := Go.Ground.data }, { on := 4, ground := Go.Ground.data }, { on := 7, ground := Go.Ground.data }, { on := 10, ground := Go.Ground.data }, { on := 16, ground := Go.Ground.data }, { on := 23, ground := Go.Ground.data }], guard := none } : Oper)) (v := .agg M0) rfl (by kernel_rfl) (by kernel_rfl) (by kernel_rfl) (fun _ _ _ h => h) (Or.inl ⟨by rfl, fun w' hS' => ?_⟩) hHeld ?_
            · go_simp; exact HM00.out
            try simp only [Act.put, List.setIfInBounds_toArray, List.set_cons_zero, List.set_cons_succ]
            refine wpAnyH_ready (rs := [26]) (by kernel_rfl) (by simp) ?_
            refine (AllReadyH.cons (o := ({ dst := none, op := Go.Op.store 32 (Go.Operand.tmp 9) (Go.Operand.tmp 37), type := 0, pos := "law.go:54", after := #[{ on := 25, ground := Go.Ground.data }, { on := 24, ground := Go.Ground.data }, { on := 21, ground := Go.Ground.chain }, { on := 0, ground := Go.Ground.phase }, { on := 1, ground := Go.Ground.phase }, { on := 2, ground := Go.Ground.phase }, { on := 3, ground := Go.Ground.phase }, { on := 4, ground := Go.Ground.phase }, { on := 5, ground := Go.Ground.phase }, { on := 6, ground := Go.Ground.phase }, { on := 7, ground := Go.Ground.phase }, { on := 8, ground := Go.Ground.phase }, { on := 9, ground := Go.Ground.phase }, { on := 10, ground := Go.Ground.phase }, { on := 11, ground := Go.Ground.phase }, { on := 12, ground := Go.Ground.phase }, { on := 13, ground := Go.Ground.phase }, { on := 14, ground := Go.Ground.phase }, { on := 15, ground := Go.Ground.phase }, { on := 16, ground := Go.Ground.phase }, { on := 17, ground := Go.Ground.phase }, { on := 18, ground := Go.Ground.phase }, { on := 19, ground := Go.Ground.phase }, { on := 20, ground := Go.Ground.phase }, { on := 21, ground := Go.Ground.phase }, { on := 22, ground := Go.Ground.phase }, { on := 23, ground := Go.Ground.phase }, { on := 24, ground := Go.Ground.phase }, { on := 25, ground := Go.Ground.phase }], guard := none } : Oper)) rfl (fun K hK => ?_) AllReadyH.nil)
            refine step_store_sr rfl 32 (.tmp 9) (.tmp 37) rfl (u19.heap.size) zMsg M0 32 (HM28.out.a _ rfl).1 rfl rfl SM0.out ZM0.out OM0.out (fun w4 hg4 hw4 hs4 => ?_)
            have hB4 : Below W0.heap.size W0 w4 := HM28.out.below.grown hw4.out HM28.out.below.size (fun k e => by injection e with e; have := (HM28.out.a _ rfl).2; omega)
            refine hK.out _ _ hB4 (fun hHeld => ?_)
            clear hK K
            refine wpAnyH_done (by kernel_rfl) ?_ _
            try (go_wp2_with fail)
            go_meet
            case rel => exact ⟨_, rfl, Lib.hid ⟨(hB4.block _ (heap_lt hZ0)).trans hZ0, hg4.out, hB0.trans (hB4.mono hB0.size), by have := heap_lt hZ0; have := (HM28.out.a _ rfl).2; omega⟩⟩
        · go_simp
          go_at_call 15
          refine (HRc.out _).mono ?_
          rintro e' u29 ⟨rfl, hbb⟩
          have HM30 := Lib.hid (HM20.out.to hbb)
          refine hK.out _ _ HM30.out.below (fun hHeld => ?_)
          clear hK K hbb
          try simp only [Act.put, List.setIfInBounds_toArray, List.set_cons_zero, List.set_cons_succ]
          refine wpAnyH_take (i := 22) (oi := ({ dst := some 35, op := Go.Op.field 41 (Go.Operand.tmp 34) 1, type := 3, pos := "law.go:54", after := #[{ on := 21, ground := Go.Ground.data }], guard := none } : Oper)) (v := .int .i64 ty) rfl (by kernel_rfl) (by kernel_rfl) (by kernel_rfl) (fun _ _ _ h => h) (Or.inl ⟨by rfl, fun w' hS' => ?_⟩) hHeld ?_
          · go_simp
          try simp only [Act.put, List.setIfInBounds_toArray, List.set_cons_zero, List.set_cons_succ]
          refine wpAnyH_take (i := 23) (oi := ({ dst := some 36, op := Go.Op.build 29 #[(0, Go.Operand.tmp 32), (1, Go.Operand.tmp 35)], type := 29, pos := "law.go:54", after := #[{ on := 19, ground := Go.Ground.data }, { on := 22, ground := Go.Ground.data }], guard := none } : Oper)) (v := .agg #[.string S, .int .i64 ty]) rfl (by kernel_rfl) (by kernel_rfl) (by kernel_rfl) (fun _ _ _ h => h) (Or.inl ⟨by rfl, fun w' hS' => ?_⟩) hHeld ?_
          · go_simp
          try simp only [Act.put, List.setIfInBounds_toArray, List.set_cons_zero, List.set_cons_succ]
          refine wpAnyH_ready (rs := [16, 25]) (by kernel_rfl) (by simp) ?_
          refine (AllReadyH.cons (o := ({ dst := some 29, op := Go.Op.load 3 (Go.Operand.tmp 28), type := 3, pos := "law.go:54", after := #[{ on := 15, ground := Go.Ground.data }], guard := none } : Oper)) rfl (fun K hK => ?_) (AllReadyH.cons (o := ({ dst := some 9, op := Go.Op.alloc 32, type := 0, pos := "law.go:54", after := #[], guard := none } : Oper)) rfl (fun K hK => ?_) AllReadyH.nil))
          · have d := (cell_of_row _ _ cc _ _ _ (HM30.out.b _ rfl)).trans HCD.out
            go_simp
            refine hK.out _ _ HM30.out.below (fun hHeld => ?_)
            clear hK K d
            try simp only [Act.put, List.setIfInBounds_toArray, List.set_cons_zero, List.set_cons_succ]
            refine wpAnyH_take (i := 24) (oi := ({ dst := some 37, op := Go.Op.build 32 #[(0, Go.Operand.tmp 14), (1, Go.Operand.tmp 17), (2, Go.Operand.tmp 20), (3, Go.Operand.tmp 23), (4, Go.Operand.tmp 29), (5, Go.Operand.tmp 36)], type := 32, pos := "law.go:54", after := #[{ on := 1, ground := Go.Ground.data }, { on := 4, ground := Go.Ground.data }, { on := 7, ground := Go.Ground.data }, { on := 10, ground := Go.Ground.data }, { on := 16, ground := Go.Ground.data }, { on := 23, ground := Go.Ground.data }], guard := none } : Oper)) (v := .agg M0) rfl (by kernel_rfl) (by kernel_rfl) (by kernel_rfl) (fun _ _ _ h => h) (Or.inl ⟨by rfl, fun w' hS' => ?_⟩) hHeld ?_
            · go_simp; exact HM00.out
            try simp only [Act.put, List.setIfInBounds_toArray, List.set_cons_zero, List.set_cons_succ]
            refine wpAnyH_ready (rs := [25]) (by kernel_rfl) (by simp) ?_
            refine (AllReadyH.cons (o := ({ dst := some 9, op := Go.Op.alloc 32, type := 0, pos := "law.go:54", after := #[], guard := none } : Oper)) rfl (fun K hK => ?_) AllReadyH.nil)
            go_simp
            refine hK.out _ _ (HM30.out.below.alloc HM30.out.below.size _) (fun hHeld => ?_)
            clear hK K
            try simp only [Act.put, List.setIfInBounds_toArray, List.set_cons_zero, List.set_cons_succ]
            have HM32 := Lib.hid (HM30.out.withA)
            unfold zMsg at HM32
            generalize u29.alloc (.cells #[.int .i64 0, .bool false, .bool false, .bool false, .int .i64 0, .string ⟨#[]⟩, .int .i64 0, .slice none 0 0, .slice none 0 0] 32) = u31 at HM32 hHeld ⊢
            refine wpAnyH_ready (rs := [26]) (by kernel_rfl) (by simp) ?_
            refine (AllReadyH.cons (o := ({ dst := none, op := Go.Op.store 32 (Go.Operand.tmp 9) (Go.Operand.tmp 37), type := 0, pos := "law.go:54", after := #[{ on := 25, ground := Go.Ground.data }, { on := 24, ground := Go.Ground.data }, { on := 21, ground := Go.Ground.chain }, { on := 0, ground := Go.Ground.phase }, { on := 1, ground := Go.Ground.phase }, { on := 2, ground := Go.Ground.phase }, { on := 3, ground := Go.Ground.phase }, { on := 4, ground := Go.Ground.phase }, { on := 5, ground := Go.Ground.phase }, { on := 6, ground := Go.Ground.phase }, { on := 7, ground := Go.Ground.phase }, { on := 8, ground := Go.Ground.phase }, { on := 9, ground := Go.Ground.phase }, { on := 10, ground := Go.Ground.phase }, { on := 11, ground := Go.Ground.phase }, { on := 12, ground := Go.Ground.phase }, { on := 13, ground := Go.Ground.phase }, { on := 14, ground := Go.Ground.phase }, { on := 15, ground := Go.Ground.phase }, { on := 16, ground := Go.Ground.phase }, { on := 17, ground := Go.Ground.phase }, { on := 18, ground := Go.Ground.phase }, { on := 19, ground := Go.Ground.phase }, { on := 20, ground := Go.Ground.phase }, { on := 21, ground := Go.Ground.phase }, { on := 22, ground := Go.Ground.phase }, { on := 23, ground := Go.Ground.phase }, { on := 24, ground := Go.Ground.phase }, { on := 25, ground := Go.Ground.phase }], guard := none } : Oper)) rfl (fun K hK => ?_) AllReadyH.nil)
            refine step_store_sr rfl 32 (.tmp 9) (.tmp 37) rfl (u29.heap.size) zMsg M0 32 (HM32.out.a _ rfl).1 rfl rfl SM0.out ZM0.out OM0.out (fun w4 hg4 hw4 hs4 => ?_)
            have hB4 : Below W0.heap.size W0 w4 := HM32.out.below.grown hw4.out HM32.out.below.size (fun k e => by injection e with e; have := (HM32.out.a _ rfl).2; omega)
            refine hK.out _ _ hB4 (fun hHeld => ?_)
            clear hK K
            refine wpAnyH_done (by kernel_rfl) ?_ _
            try (go_wp2_with fail)
            go_meet
            case rel => exact ⟨_, rfl, Lib.hid ⟨(hB4.block _ (heap_lt hZ0)).trans hZ0, hg4.out, hB0.trans (hB4.mono hB0.size), by have := heap_lt hZ0; have := (HM32.out.a _ rfl).2; omega⟩⟩
          · go_simp
            refine hK.out _ _ (HM30.out.below.alloc HM30.out.below.size _) (fun hHeld => ?_)
            clear hK K
            try simp only [Act.put, List.setIfInBounds_toArray, List.set_cons_zero, List.set_cons_succ]
            have HM34 := Lib.hid (HM30.out.withA)
            unfold zMsg at HM34
            generalize u29.alloc (.cells #[.int .i64 0, .bool false, .bool false, .bool false, .int .i64 0, .string ⟨#[]⟩, .int .i64 0, .slice none 0 0, .slice none 0 0] 32) = u33 at HM34 hHeld ⊢
            refine wpAnyH_ready (rs := [16]) (by kernel_rfl) (by simp) ?_
            refine (AllReadyH.cons (o := ({ dst := some 29, op := Go.Op.load 3 (Go.Operand.tmp 28), type := 3, pos := "law.go:54", after := #[{ on := 15, ground := Go.Ground.data }], guard := none } : Oper)) rfl (fun K hK => ?_) AllReadyH.nil)
            have d := (cell_of_row _ _ cc _ _ _ (HM34.out.b _ rfl)).trans HCD.out
            go_simp
            refine hK.out _ _ HM34.out.below (fun hHeld => ?_)
            clear hK K d
            try simp only [Act.put, List.setIfInBounds_toArray, List.set_cons_zero, List.set_cons_succ]
            refine wpAnyH_take (i := 24) (oi := ({ dst := some 37, op := Go.Op.build 32 #[(0, Go.Operand.tmp 14), (1, Go.Operand.tmp 17), (2, Go.Operand.tmp 20), (3, Go.Operand.tmp 23), (4, Go.Operand.tmp 29), (5, Go.Operand.tmp 36)], type := 32, pos := "law.go:54", after := #[{ on := 1, ground := Go.Ground.data }, { on := 4, ground := Go.Ground.data }, { on := 7, ground := Go.Ground.data }, { on := 10, ground := Go.Ground.data }, { on := 16, ground := Go.Ground.data }, { on := 23, ground := Go.Ground.data }], guard := none } : Oper)) (v := .agg M0) rfl (by kernel_rfl) (by kernel_rfl) (by kernel_rfl) (fun _ _ _ h => h) (Or.inl ⟨by rfl, fun w' hS' => ?_⟩) hHeld ?_
            · go_simp; exact HM00.out
            try simp only [Act.put, List.setIfInBounds_toArray, List.set_cons_zero, List.set_cons_succ]
            refine wpAnyH_ready (rs := [26]) (by kernel_rfl) (by simp) ?_
            refine (AllReadyH.cons (o := ({ dst := none, op := Go.Op.store 32 (Go.Operand.tmp 9) (Go.Operand.tmp 37), type := 0, pos := "law.go:54", after := #[{ on := 25, ground := Go.Ground.data }, { on := 24, ground := Go.Ground.data }, { on := 21, ground := Go.Ground.chain }, { on := 0, ground := Go.Ground.phase }, { on := 1, ground := Go.Ground.phase }, { on := 2, ground := Go.Ground.phase }, { on := 3, ground := Go.Ground.phase }, { on := 4, ground := Go.Ground.phase }, { on := 5, ground := Go.Ground.phase }, { on := 6, ground := Go.Ground.phase }, { on := 7, ground := Go.Ground.phase }, { on := 8, ground := Go.Ground.phase }, { on := 9, ground := Go.Ground.phase }, { on := 10, ground := Go.Ground.phase }, { on := 11, ground := Go.Ground.phase }, { on := 12, ground := Go.Ground.phase }, { on := 13, ground := Go.Ground.phase }, { on := 14, ground := Go.Ground.phase }, { on := 15, ground := Go.Ground.phase }, { on := 16, ground := Go.Ground.phase }, { on := 17, ground := Go.Ground.phase }, { on := 18, ground := Go.Ground.phase }, { on := 19, ground := Go.Ground.phase }, { on := 20, ground := Go.Ground.phase }, { on := 21, ground := Go.Ground.phase }, { on := 22, ground := Go.Ground.phase }, { on := 23, ground := Go.Ground.phase }, { on := 24, ground := Go.Ground.phase }, { on := 25, ground := Go.Ground.phase }], guard := none } : Oper)) rfl (fun K hK => ?_) AllReadyH.nil)
            refine step_store_sr rfl 32 (.tmp 9) (.tmp 37) rfl (u29.heap.size) zMsg M0 32 (HM34.out.a _ rfl).1 rfl rfl SM0.out ZM0.out OM0.out (fun w4 hg4 hw4 hs4 => ?_)
            have hB4 : Below W0.heap.size W0 w4 := HM34.out.below.grown hw4.out HM34.out.below.size (fun k e => by injection e with e; have := (HM34.out.a _ rfl).2; omega)
            refine hK.out _ _ hB4 (fun hHeld => ?_)
            clear hK K
            refine wpAnyH_done (by kernel_rfl) ?_ _
            try (go_wp2_with fail)
            go_meet
            case rel => exact ⟨_, rfl, Lib.hid ⟨(hB4.block _ (heap_lt hZ0)).trans hZ0, hg4.out, hB0.trans (hB4.mono hB0.size), by have := heap_lt hZ0; have := (HM34.out.a _ rfl).2; omega⟩⟩
        · go_simp
          refine hK.out _ _ (HM20.out.below.alloc HM20.out.below.size _) (fun hHeld => ?_)
          clear hK K
          try simp only [Act.put, List.setIfInBounds_toArray, List.set_cons_zero, List.set_cons_succ]
          have HM36 := Lib.hid (HM20.out.withA)
          unfold zMsg at HM36
          generalize u19.alloc (.cells #[.int .i64 0, .bool false, .bool false, .bool false, .int .i64 0, .string ⟨#[]⟩, .int .i64 0, .slice none 0 0, .slice none 0 0] 32) = u35 at HM36 hHeld ⊢
          refine wpAnyH_ready (rs := [16, 21]) (by kernel_rfl) (by simp) ?_
          refine (AllReadyH.cons (o := ({ dst := some 29, op := Go.Op.load 3 (Go.Operand.tmp 28), type := 3, pos := "law.go:54", after := #[{ on := 15, ground := Go.Ground.data }], guard := none } : Oper)) rfl (fun K hK => ?_) (AllReadyH.cons (o := ({ dst := some 34, op := Go.Op.call { callee := Go.Callee.value (Go.Operand.func 15), args := #[Go.Operand.tmp 33], argTypes := #[25] }, type := 41, pos := "law.go:54", after := #[{ on := 20, ground := Go.Ground.data }, { on := 19, ground := Go.Ground.chain }], guard := none } : Oper)) rfl (fun K hK => ?_) AllReadyH.nil))
          · have d := (cell_of_row _ _ cc _ _ _ (HM36.out.b _ rfl)).trans HCD.out
            go_simp
            refine hK.out _ _ HM36.out.below (fun hHeld => ?_)
            clear hK K d
            try simp only [Act.put, List.setIfInBounds_toArray, List.set_cons_zero, List.set_cons_succ]
            refine wpAnyH_ready (rs := [21]) (by kernel_rfl) (by simp) ?_
            refine (AllReadyH.cons (o := ({ dst := some 34, op := Go.Op.call { callee := Go.Callee.value (Go.Operand.func 15), args := #[Go.Operand.tmp 33], argTypes := #[25] }, type := 41, pos := "law.go:54", after := #[{ on := 20, ground := Go.Ground.data }, { on := 19, ground := Go.Ground.chain }], guard := none } : Oper)) rfl (fun K hK => ?_) AllReadyH.nil)
            go_simp
            go_at_call 15
            refine (HRc.out _).mono ?_
            rintro e' u37 ⟨rfl, hbb⟩
            have HM38 := Lib.hid (HM36.out.to hbb)
            refine hK.out _ _ HM38.out.below (fun hHeld => ?_)
            clear hK K hbb
            try simp only [Act.put, List.setIfInBounds_toArray, List.set_cons_zero, List.set_cons_succ]
            refine wpAnyH_take (i := 22) (oi := ({ dst := some 35, op := Go.Op.field 41 (Go.Operand.tmp 34) 1, type := 3, pos := "law.go:54", after := #[{ on := 21, ground := Go.Ground.data }], guard := none } : Oper)) (v := .int .i64 ty) rfl (by kernel_rfl) (by kernel_rfl) (by kernel_rfl) (fun _ _ _ h => h) (Or.inl ⟨by rfl, fun w' hS' => ?_⟩) hHeld ?_
            · go_simp
            try simp only [Act.put, List.setIfInBounds_toArray, List.set_cons_zero, List.set_cons_succ]
            refine wpAnyH_take (i := 23) (oi := ({ dst := some 36, op := Go.Op.build 29 #[(0, Go.Operand.tmp 32), (1, Go.Operand.tmp 35)], type := 29, pos := "law.go:54", after := #[{ on := 19, ground := Go.Ground.data }, { on := 22, ground := Go.Ground.data }], guard := none } : Oper)) (v := .agg #[.string S, .int .i64 ty]) rfl (by kernel_rfl) (by kernel_rfl) (by kernel_rfl) (fun _ _ _ h => h) (Or.inl ⟨by rfl, fun w' hS' => ?_⟩) hHeld ?_
            · go_simp
            try simp only [Act.put, List.setIfInBounds_toArray, List.set_cons_zero, List.set_cons_succ]
            refine wpAnyH_take (i := 24) (oi := ({ dst := some 37, op := Go.Op.build 32 #[(0, Go.Operand.tmp 14), (1, Go.Operand.tmp 17), (2, Go.Operand.tmp 20), (3, Go.Operand.tmp 23), (4, Go.Operand.tmp 29), (5, Go.Operand.tmp 36)], type := 32, pos := "law.go:54", after := #[{ on := 1, ground := Go.Ground.data }, { on := 4, ground := Go.Ground.data }, { on := 7, ground := Go.Ground.data }, { on := 10, ground := Go.Ground.data }, { on := 16, ground := Go.Ground.data }, { on := 23, ground := Go.Ground.data }], guard := none } : Oper)) (v := .agg M0) rfl (by kernel_rfl) (by kernel_rfl) (by kernel_rfl) (fun _ _ _ h => h) (Or.inl ⟨by rfl, fun w' hS' => ?_⟩) hHeld ?_
            · go_simp; exact HM00.out
            try simp only [Act.put, List.setIfInBounds_toArray, List.set_cons_zero, List.set_cons_succ]
            refine wpAnyH_ready (rs := [26]) (by kernel_rfl) (by simp) ?_
            refine (AllReadyH.cons (o := ({ dst := none, op := Go.Op.store 32 (Go.Operand.tmp 9) (Go.Operand.tmp 37), type := 0, pos := "law.go:54", after := #[{ on := 25, ground := Go.Ground.data }, { on := 24, ground := Go.Ground.data }, { on := 21, ground := Go.Ground.chain }, { on := 0, ground := Go.Ground.phase }, { on := 1, ground := Go.Ground.phase }, { on := 2, ground := Go.Ground.phase }, { on := 3, ground := Go.Ground.phase }, { on := 4, ground := Go.Ground.phase }, { on := 5, ground := Go.Ground.phase }, { on := 6, ground := Go.Ground.phase }, { on := 7, ground := Go.Ground.phase }, { on := 8, ground := Go.Ground.phase }, { on := 9, ground := Go.Ground.phase }, { on := 10, ground := Go.Ground.phase }, { on := 11, ground := Go.Ground.phase }, { on := 12, ground := Go.Ground.phase }, { on := 13, ground := Go.Ground.phase }, { on := 14, ground := Go.Ground.phase }, { on := 15, ground := Go.Ground.phase }, { on := 16, ground := Go.Ground.phase }, { on := 17, ground := Go.Ground.phase }, { on := 18, ground := Go.Ground.phase }, { on := 19, ground := Go.Ground.phase }, { on := 20, ground := Go.Ground.phase }, { on := 21, ground := Go.Ground.phase }, { on := 22, ground := Go.Ground.phase }, { on := 23, ground := Go.Ground.phase }, { on := 24, ground := Go.Ground.phase }, { on := 25, ground := Go.Ground.phase }], guard := none } : Oper)) rfl (fun K hK => ?_) AllReadyH.nil)
            refine step_store_sr rfl 32 (.tmp 9) (.tmp 37) rfl (u19.heap.size) zMsg M0 32 (HM38.out.a _ rfl).1 rfl rfl SM0.out ZM0.out OM0.out (fun w4 hg4 hw4 hs4 => ?_)
            have hB4 : Below W0.heap.size W0 w4 := HM38.out.below.grown hw4.out HM38.out.below.size (fun k e => by injection e with e; have := (HM38.out.a _ rfl).2; omega)
            refine hK.out _ _ hB4 (fun hHeld => ?_)
            clear hK K
            refine wpAnyH_done (by kernel_rfl) ?_ _
            try (go_wp2_with fail)
            go_meet
            case rel => exact ⟨_, rfl, Lib.hid ⟨(hB4.block _ (heap_lt hZ0)).trans hZ0, hg4.out, hB0.trans (hB4.mono hB0.size), by have := heap_lt hZ0; have := (HM38.out.a _ rfl).2; omega⟩⟩
          · go_simp
            go_at_call 15
            refine (HRc.out _).mono ?_
            rintro e' u39 ⟨rfl, hbb⟩
            have HM40 := Lib.hid (HM36.out.to hbb)
            refine hK.out _ _ HM40.out.below (fun hHeld => ?_)
            clear hK K hbb
            try simp only [Act.put, List.setIfInBounds_toArray, List.set_cons_zero, List.set_cons_succ]
            refine wpAnyH_take (i := 22) (oi := ({ dst := some 35, op := Go.Op.field 41 (Go.Operand.tmp 34) 1, type := 3, pos := "law.go:54", after := #[{ on := 21, ground := Go.Ground.data }], guard := none } : Oper)) (v := .int .i64 ty) rfl (by kernel_rfl) (by kernel_rfl) (by kernel_rfl) (fun _ _ _ h => h) (Or.inl ⟨by rfl, fun w' hS' => ?_⟩) hHeld ?_
            · go_simp
            try simp only [Act.put, List.setIfInBounds_toArray, List.set_cons_zero, List.set_cons_succ]
            refine wpAnyH_take (i := 23) (oi := ({ dst := some 36, op := Go.Op.build 29 #[(0, Go.Operand.tmp 32), (1, Go.Operand.tmp 35)], type := 29, pos := "law.go:54", after := #[{ on := 19, ground := Go.Ground.data }, { on := 22, ground := Go.Ground.data }], guard := none } : Oper)) (v := .agg #[.string S, .int .i64 ty]) rfl (by kernel_rfl) (by kernel_rfl) (by kernel_rfl) (fun _ _ _ h => h) (Or.inl ⟨by rfl, fun w' hS' => ?_⟩) hHeld ?_
            · go_simp
            try simp only [Act.put, List.setIfInBounds_toArray, List.set_cons_zero, List.set_cons_succ]
            refine wpAnyH_ready (rs := [16]) (by kernel_rfl) (by simp) ?_
            refine (AllReadyH.cons (o := ({ dst := some 29, op := Go.Op.load 3 (Go.Operand.tmp 28), type := 3, pos := "law.go:54", after := #[{ on := 15, ground := Go.Ground.data }], guard := none } : Oper)) rfl (fun K hK => ?_) AllReadyH.nil)
            have d := (cell_of_row _ _ cc _ _ _ (HM40.out.b _ rfl)).trans HCD.out
            go_simp
            refine hK.out _ _ HM40.out.below (fun hHeld => ?_)
            clear hK K d
            try simp only [Act.put, List.setIfInBounds_toArray, List.set_cons_zero, List.set_cons_succ]
            refine wpAnyH_take (i := 24) (oi := ({ dst := some 37, op := Go.Op.build 32 #[(0, Go.Operand.tmp 14), (1, Go.Operand.tmp 17), (2, Go.Operand.tmp 20), (3, Go.Operand.tmp 23), (4, Go.Operand.tmp 29), (5, Go.Operand.tmp 36)], type := 32, pos := "law.go:54", after := #[{ on := 1, ground := Go.Ground.data }, { on := 4, ground := Go.Ground.data }, { on := 7, ground := Go.Ground.data }, { on := 10, ground := Go.Ground.data }, { on := 16, ground := Go.Ground.data }, { on := 23, ground := Go.Ground.data }], guard := none } : Oper)) (v := .agg M0) rfl (by kernel_rfl) (by kernel_rfl) (by kernel_rfl) (fun _ _ _ h => h) (Or.inl ⟨by rfl, fun w' hS' => ?_⟩) hHeld ?_
            · go_simp; exact HM00.out
            try simp only [Act.put, List.setIfInBounds_toArray, List.set_cons_zero, List.set_cons_succ]
            refine wpAnyH_ready (rs := [26]) (by kernel_rfl) (by simp) ?_
            refine (AllReadyH.cons (o := ({ dst := none, op := Go.Op.store 32 (Go.Operand.tmp 9) (Go.Operand.tmp 37), type := 0, pos := "law.go:54", after := #[{ on := 25, ground := Go.Ground.data }, { on := 24, ground := Go.Ground.data }, { on := 21, ground := Go.Ground.chain }, { on := 0, ground := Go.Ground.phase }, { on := 1, ground := Go.Ground.phase }, { on := 2, ground := Go.Ground.phase }, { on := 3, ground := Go.Ground.phase }, { on := 4, ground := Go.Ground.phase }, { on := 5, ground := Go.Ground.phase }, { on := 6, ground := Go.Ground.phase }, { on := 7, ground := Go.Ground.phase }, { on := 8, ground := Go.Ground.phase }, { on := 9, ground := Go.Ground.phase }, { on := 10, ground := Go.Ground.phase }, { on := 11, ground := Go.Ground.phase }, { on := 12, ground := Go.Ground.phase }, { on := 13, ground := Go.Ground.phase }, { on := 14, ground := Go.Ground.phase }, { on := 15, ground := Go.Ground.phase }, { on := 16, ground := Go.Ground.phase }, { on := 17, ground := Go.Ground.phase }, { on := 18, ground := Go.Ground.phase }, { on := 19, ground := Go.Ground.phase }, { on := 20, ground := Go.Ground.phase }, { on := 21, ground := Go.Ground.phase }, { on := 22, ground := Go.Ground.phase }, { on := 23, ground := Go.Ground.phase }, { on := 24, ground := Go.Ground.phase }, { on := 25, ground := Go.Ground.phase }], guard := none } : Oper)) rfl (fun K hK => ?_) AllReadyH.nil)
            refine step_store_sr rfl 32 (.tmp 9) (.tmp 37) rfl (u19.heap.size) zMsg M0 32 (HM40.out.a _ rfl).1 rfl rfl SM0.out ZM0.out OM0.out (fun w4 hg4 hw4 hs4 => ?_)
            have hB4 : Below W0.heap.size W0 w4 := HM40.out.below.grown hw4.out HM40.out.below.size (fun k e => by injection e with e; have := (HM40.out.a _ rfl).2; omega)
            refine hK.out _ _ hB4 (fun hHeld => ?_)
            clear hK K
            refine wpAnyH_done (by kernel_rfl) ?_ _
            try (go_wp2_with fail)
            go_meet
            case rel => exact ⟨_, rfl, Lib.hid ⟨(hB4.block _ (heap_lt hZ0)).trans hZ0, hg4.out, hB0.trans (hB4.mono hB0.size), by have := heap_lt hZ0; have := (HM40.out.a _ rfl).2; omega⟩⟩
      · go_simp
        refine hK.out _ _ (HM2.out.below.alloc HM2.out.below.size _) (fun hHeld => ?_)
        clear hK K
        try simp only [Act.put, List.setIfInBounds_toArray, List.set_cons_zero, List.set_cons_succ]
        have HM42 := Lib.hid (HM2.out.withA)
        unfold zMsg at HM42
        generalize u1.alloc (.cells #[.int .i64 0, .bool false, .bool false, .bool false, .int .i64 0, .string ⟨#[]⟩, .int .i64 0, .slice none 0 0, .slice none 0 0] 32) = u41 at HM42 hHeld ⊢
        refine wpAnyH_ready (rs := [16, 19]) (by kernel_rfl) (by simp) ?_
        refine (AllReadyH.cons (o := ({ dst := some 29, op := Go.Op.load 3 (Go.Operand.tmp 28), type := 3, pos := "law.go:54", after := #[{ on := 15, ground := Go.Ground.data }], guard := none } : Oper)) rfl (fun K hK => ?_) (AllReadyH.cons (o := ({ dst := some 32, op := Go.Op.call { callee := Go.Callee.value (Go.Operand.func 17), args := #[Go.Operand.tmp 31], argTypes := #[3] }, type := 9, pos := "law.go:54", after := #[{ on := 18, ground := Go.Ground.data }], guard := none } : Oper)) rfl (fun K hK => ?_) AllReadyH.nil))
        · have d := (cell_of_row _ _ cc _ _ _ (HM42.out.b _ rfl)).trans HCD.out
          go_simp
          refine hK.out _ _ HM42.out.below (fun hHeld => ?_)
          clear hK K d
          try simp only [Act.put, List.setIfInBounds_toArray, List.set_cons_zero, List.set_cons_succ]
          refine wpAnyH_ready (rs := [19]) (by kernel_rfl) (by simp) ?_
          refine (AllReadyH.cons (o := ({ dst := some 32, op := Go.Op.call { callee := Go.Callee.value (Go.Operand.func 17), args := #[Go.Operand.tmp 31], argTypes := #[3] }, type := 9, pos := "law.go:54", after := #[{ on := 18, ground := Go.Ground.data }], guard := none } : Oper)) rfl (fun K hK => ?_) AllReadyH.nil)
          go_simp
          go_at_call 17
          refine (HN.out _).mono ?_
          rintro e' u43 ⟨rfl, hbb⟩
          have HM44 := Lib.hid (HM42.out.to hbb)
          refine hK.out _ _ HM44.out.below (fun hHeld => ?_)
          clear hK K hbb
          try simp only [Act.put, List.setIfInBounds_toArray, List.set_cons_zero, List.set_cons_succ]
          refine wpAnyH_ready (rs := [21]) (by kernel_rfl) (by simp) ?_
          refine (AllReadyH.cons (o := ({ dst := some 34, op := Go.Op.call { callee := Go.Callee.value (Go.Operand.func 15), args := #[Go.Operand.tmp 33], argTypes := #[25] }, type := 41, pos := "law.go:54", after := #[{ on := 20, ground := Go.Ground.data }, { on := 19, ground := Go.Ground.chain }], guard := none } : Oper)) rfl (fun K hK => ?_) AllReadyH.nil)
          go_simp
          go_at_call 15
          refine (HRc.out _).mono ?_
          rintro e' u45 ⟨rfl, hbb⟩
          have HM46 := Lib.hid (HM44.out.to hbb)
          refine hK.out _ _ HM46.out.below (fun hHeld => ?_)
          clear hK K hbb
          try simp only [Act.put, List.setIfInBounds_toArray, List.set_cons_zero, List.set_cons_succ]
          refine wpAnyH_take (i := 22) (oi := ({ dst := some 35, op := Go.Op.field 41 (Go.Operand.tmp 34) 1, type := 3, pos := "law.go:54", after := #[{ on := 21, ground := Go.Ground.data }], guard := none } : Oper)) (v := .int .i64 ty) rfl (by kernel_rfl) (by kernel_rfl) (by kernel_rfl) (fun _ _ _ h => h) (Or.inl ⟨by rfl, fun w' hS' => ?_⟩) hHeld ?_
          · go_simp
          try simp only [Act.put, List.setIfInBounds_toArray, List.set_cons_zero, List.set_cons_succ]
          refine wpAnyH_take (i := 23) (oi := ({ dst := some 36, op := Go.Op.build 29 #[(0, Go.Operand.tmp 32), (1, Go.Operand.tmp 35)], type := 29, pos := "law.go:54", after := #[{ on := 19, ground := Go.Ground.data }, { on := 22, ground := Go.Ground.data }], guard := none } : Oper)) (v := .agg #[.string S, .int .i64 ty]) rfl (by kernel_rfl) (by kernel_rfl) (by kernel_rfl) (fun _ _ _ h => h) (Or.inl ⟨by rfl, fun w' hS' => ?_⟩) hHeld ?_
          · go_simp
          try simp only [Act.put, List.setIfInBounds_toArray, List.set_cons_zero, List.set_cons_succ]
          refine wpAnyH_take (i := 24) (oi := ({ dst := some 37, op := Go.Op.build 32 #[(0, Go.Operand.tmp 14), (1, Go.Operand.tmp 17), (2, Go.Operand.tmp 20), (3, Go.Operand.tmp 23), (4, Go.Operand.tmp 29), (5, Go.Operand.tmp 36)], type := 32, pos := "law.go:54", after := #[{ on := 1, ground := Go.Ground.data }, { on := 4, ground := Go.Ground.data }, { on := 7, ground := Go.Ground.data }, { on := 10, ground := Go.Ground.data }, { on := 16, ground := Go.Ground.data }, { on := 23, ground := Go.Ground.data }], guard := none } : Oper)) (v := .agg M0) rfl (by kernel_rfl) (by kernel_rfl) (by kernel_rfl) (fun _ _ _ h => h) (Or.inl ⟨by rfl, fun w' hS' => ?_⟩) hHeld ?_
          · go_simp; exact HM00.out
          try simp only [Act.put, List.setIfInBounds_toArray, List.set_cons_zero, List.set_cons_succ]
          refine wpAnyH_ready (rs := [26]) (by kernel_rfl) (by simp) ?_
          refine (AllReadyH.cons (o := ({ dst := none, op := Go.Op.store 32 (Go.Operand.tmp 9) (Go.Operand.tmp 37), type := 0, pos := "law.go:54", after := #[{ on := 25, ground := Go.Ground.data }, { on := 24, ground := Go.Ground.data }, { on := 21, ground := Go.Ground.chain }, { on := 0, ground := Go.Ground.phase }, { on := 1, ground := Go.Ground.phase }, { on := 2, ground := Go.Ground.phase }, { on := 3, ground := Go.Ground.phase }, { on := 4, ground := Go.Ground.phase }, { on := 5, ground := Go.Ground.phase }, { on := 6, ground := Go.Ground.phase }, { on := 7, ground := Go.Ground.phase }, { on := 8, ground := Go.Ground.phase }, { on := 9, ground := Go.Ground.phase }, { on := 10, ground := Go.Ground.phase }, { on := 11, ground := Go.Ground.phase }, { on := 12, ground := Go.Ground.phase }, { on := 13, ground := Go.Ground.phase }, { on := 14, ground := Go.Ground.phase }, { on := 15, ground := Go.Ground.phase }, { on := 16, ground := Go.Ground.phase }, { on := 17, ground := Go.Ground.phase }, { on := 18, ground := Go.Ground.phase }, { on := 19, ground := Go.Ground.phase }, { on := 20, ground := Go.Ground.phase }, { on := 21, ground := Go.Ground.phase }, { on := 22, ground := Go.Ground.phase }, { on := 23, ground := Go.Ground.phase }, { on := 24, ground := Go.Ground.phase }, { on := 25, ground := Go.Ground.phase }], guard := none } : Oper)) rfl (fun K hK => ?_) AllReadyH.nil)
          refine step_store_sr rfl 32 (.tmp 9) (.tmp 37) rfl (u1.heap.size) zMsg M0 32 (HM46.out.a _ rfl).1 rfl rfl SM0.out ZM0.out OM0.out (fun w4 hg4 hw4 hs4 => ?_)
          have hB4 : Below W0.heap.size W0 w4 := HM46.out.below.grown hw4.out HM46.out.below.size (fun k e => by injection e with e; have := (HM46.out.a _ rfl).2; omega)
          refine hK.out _ _ hB4 (fun hHeld => ?_)
          clear hK K
          refine wpAnyH_done (by kernel_rfl) ?_ _
          try (go_wp2_with fail)
          go_meet
          case rel => exact ⟨_, rfl, Lib.hid ⟨(hB4.block _ (heap_lt hZ0)).trans hZ0, hg4.out, hB0.trans (hB4.mono hB0.size), by have := heap_lt hZ0; have := (HM46.out.a _ rfl).2; omega⟩⟩
        · go_simp
          go_at_call 17
          refine (HN.out _).mono ?_
          rintro e' u47 ⟨rfl, hbb⟩
          have HM48 := Lib.hid (HM42.out.to hbb)
          refine hK.out _ _ HM48.out.below (fun hHeld => ?_)
          clear hK K hbb
          try simp only [Act.put, List.setIfInBounds_toArray, List.set_cons_zero, List.set_cons_succ]
          refine wpAnyH_ready (rs := [16, 21]) (by kernel_rfl) (by simp) ?_
          refine (AllReadyH.cons (o := ({ dst := some 29, op := Go.Op.load 3 (Go.Operand.tmp 28), type := 3, pos := "law.go:54", after := #[{ on := 15, ground := Go.Ground.data }], guard := none } : Oper)) rfl (fun K hK => ?_) (AllReadyH.cons (o := ({ dst := some 34, op := Go.Op.call { callee := Go.Callee.value (Go.Operand.func 15), args := #[Go.Operand.tmp 33], argTypes := #[25] }, type := 41, pos := "law.go:54", after := #[{ on := 20, ground := Go.Ground.data }, { on := 19, ground := Go.Ground.chain }], guard := none } : Oper)) rfl (fun K hK => ?_) AllReadyH.nil))
          · have d := (cell_of_row _ _ cc _ _ _ (HM48.out.b _ rfl)).trans HCD.out
            go_simp
            refine hK.out _ _ HM48.out.below (fun hHeld => ?_)
            clear hK K d
            try simp only [Act.put, List.setIfInBounds_toArray, List.set_cons_zero, List.set_cons_succ]
            refine wpAnyH_ready (rs := [21]) (by kernel_rfl) (by simp) ?_
            refine (AllReadyH.cons (o := ({ dst := some 34, op := Go.Op.call { callee := Go.Callee.value (Go.Operand.func 15), args := #[Go.Operand.tmp 33], argTypes := #[25] }, type := 41, pos := "law.go:54", after := #[{ on := 20, ground := Go.Ground.data }, { on := 19, ground := Go.Ground.chain }], guard := none } : Oper)) rfl (fun K hK => ?_) AllReadyH.nil)
            go_simp
            go_at_call 15
            refine (HRc.out _).mono ?_
            rintro e' u49 ⟨rfl, hbb⟩
            have HM50 := Lib.hid (HM48.out.to hbb)
            refine hK.out _ _ HM50.out.below (fun hHeld => ?_)
            clear hK K hbb
            try simp only [Act.put, List.setIfInBounds_toArray, List.set_cons_zero, List.set_cons_succ]
            refine wpAnyH_take (i := 22) (oi := ({ dst := some 35, op := Go.Op.field 41 (Go.Operand.tmp 34) 1, type := 3, pos := "law.go:54", after := #[{ on := 21, ground := Go.Ground.data }], guard := none } : Oper)) (v := .int .i64 ty) rfl (by kernel_rfl) (by kernel_rfl) (by kernel_rfl) (fun _ _ _ h => h) (Or.inl ⟨by rfl, fun w' hS' => ?_⟩) hHeld ?_
            · go_simp
            try simp only [Act.put, List.setIfInBounds_toArray, List.set_cons_zero, List.set_cons_succ]
            refine wpAnyH_take (i := 23) (oi := ({ dst := some 36, op := Go.Op.build 29 #[(0, Go.Operand.tmp 32), (1, Go.Operand.tmp 35)], type := 29, pos := "law.go:54", after := #[{ on := 19, ground := Go.Ground.data }, { on := 22, ground := Go.Ground.data }], guard := none } : Oper)) (v := .agg #[.string S, .int .i64 ty]) rfl (by kernel_rfl) (by kernel_rfl) (by kernel_rfl) (fun _ _ _ h => h) (Or.inl ⟨by rfl, fun w' hS' => ?_⟩) hHeld ?_
            · go_simp
            try simp only [Act.put, List.setIfInBounds_toArray, List.set_cons_zero, List.set_cons_succ]
            refine wpAnyH_take (i := 24) (oi := ({ dst := some 37, op := Go.Op.build 32 #[(0, Go.Operand.tmp 14), (1, Go.Operand.tmp 17), (2, Go.Operand.tmp 20), (3, Go.Operand.tmp 23), (4, Go.Operand.tmp 29), (5, Go.Operand.tmp 36)], type := 32, pos := "law.go:54", after := #[{ on := 1, ground := Go.Ground.data }, { on := 4, ground := Go.Ground.data }, { on := 7, ground := Go.Ground.data }, { on := 10, ground := Go.Ground.data }, { on := 16, ground := Go.Ground.data }, { on := 23, ground := Go.Ground.data }], guard := none } : Oper)) (v := .agg M0) rfl (by kernel_rfl) (by kernel_rfl) (by kernel_rfl) (fun _ _ _ h => h) (Or.inl ⟨by rfl, fun w' hS' => ?_⟩) hHeld ?_
            · go_simp; exact HM00.out
            try simp only [Act.put, List.setIfInBounds_toArray, List.set_cons_zero, List.set_cons_succ]
            refine wpAnyH_ready (rs := [26]) (by kernel_rfl) (by simp) ?_
            refine (AllReadyH.cons (o := ({ dst := none, op := Go.Op.store 32 (Go.Operand.tmp 9) (Go.Operand.tmp 37), type := 0, pos := "law.go:54", after := #[{ on := 25, ground := Go.Ground.data }, { on := 24, ground := Go.Ground.data }, { on := 21, ground := Go.Ground.chain }, { on := 0, ground := Go.Ground.phase }, { on := 1, ground := Go.Ground.phase }, { on := 2, ground := Go.Ground.phase }, { on := 3, ground := Go.Ground.phase }, { on := 4, ground := Go.Ground.phase }, { on := 5, ground := Go.Ground.phase }, { on := 6, ground := Go.Ground.phase }, { on := 7, ground := Go.Ground.phase }, { on := 8, ground := Go.Ground.phase }, { on := 9, ground := Go.Ground.phase }, { on := 10, ground := Go.Ground.phase }, { on := 11, ground := Go.Ground.phase }, { on := 12, ground := Go.Ground.phase }, { on := 13, ground := Go.Ground.phase }, { on := 14, ground := Go.Ground.phase }, { on := 15, ground := Go.Ground.phase }, { on := 16, ground := Go.Ground.phase }, { on := 17, ground := Go.Ground.phase }, { on := 18, ground := Go.Ground.phase }, { on := 19, ground := Go.Ground.phase }, { on := 20, ground := Go.Ground.phase }, { on := 21, ground := Go.Ground.phase }, { on := 22, ground := Go.Ground.phase }, { on := 23, ground := Go.Ground.phase }, { on := 24, ground := Go.Ground.phase }, { on := 25, ground := Go.Ground.phase }], guard := none } : Oper)) rfl (fun K hK => ?_) AllReadyH.nil)
            refine step_store_sr rfl 32 (.tmp 9) (.tmp 37) rfl (u1.heap.size) zMsg M0 32 (HM50.out.a _ rfl).1 rfl rfl SM0.out ZM0.out OM0.out (fun w4 hg4 hw4 hs4 => ?_)
            have hB4 : Below W0.heap.size W0 w4 := HM50.out.below.grown hw4.out HM50.out.below.size (fun k e => by injection e with e; have := (HM50.out.a _ rfl).2; omega)
            refine hK.out _ _ hB4 (fun hHeld => ?_)
            clear hK K
            refine wpAnyH_done (by kernel_rfl) ?_ _
            try (go_wp2_with fail)
            go_meet
            case rel => exact ⟨_, rfl, Lib.hid ⟨(hB4.block _ (heap_lt hZ0)).trans hZ0, hg4.out, hB0.trans (hB4.mono hB0.size), by have := heap_lt hZ0; have := (HM50.out.a _ rfl).2; omega⟩⟩
          · go_simp
            go_at_call 15
            refine (HRc.out _).mono ?_
            rintro e' u51 ⟨rfl, hbb⟩
            have HM52 := Lib.hid (HM48.out.to hbb)
            refine hK.out _ _ HM52.out.below (fun hHeld => ?_)
            clear hK K hbb
            try simp only [Act.put, List.setIfInBounds_toArray, List.set_cons_zero, List.set_cons_succ]
            refine wpAnyH_take (i := 22) (oi := ({ dst := some 35, op := Go.Op.field 41 (Go.Operand.tmp 34) 1, type := 3, pos := "law.go:54", after := #[{ on := 21, ground := Go.Ground.data }], guard := none } : Oper)) (v := .int .i64 ty) rfl (by kernel_rfl) (by kernel_rfl) (by kernel_rfl) (fun _ _ _ h => h) (Or.inl ⟨by rfl, fun w' hS' => ?_⟩) hHeld ?_
            · go_simp
            try simp only [Act.put, List.setIfInBounds_toArray, List.set_cons_zero, List.set_cons_succ]
            refine wpAnyH_take (i := 23) (oi := ({ dst := some 36, op := Go.Op.build 29 #[(0, Go.Operand.tmp 32), (1, Go.Operand.tmp 35)], type := 29, pos := "law.go:54", after := #[{ on := 19, ground := Go.Ground.data }, { on := 22, ground := Go.Ground.data }], guard := none } : Oper)) (v := .agg #[.string S, .int .i64 ty]) rfl (by kernel_rfl) (by kernel_rfl) (by kernel_rfl) (fun _ _ _ h => h) (Or.inl ⟨by rfl, fun w' hS' => ?_⟩) hHeld ?_
            · go_simp
            try simp only [Act.put, List.setIfInBounds_toArray, List.set_cons_zero, List.set_cons_succ]
            refine wpAnyH_ready (rs := [16]) (by kernel_rfl) (by simp) ?_
            refine (AllReadyH.cons (o := ({ dst := some 29, op := Go.Op.load 3 (Go.Operand.tmp 28), type := 3, pos := "law.go:54", after := #[{ on := 15, ground := Go.Ground.data }], guard := none } : Oper)) rfl (fun K hK => ?_) AllReadyH.nil)
            have d := (cell_of_row _ _ cc _ _ _ (HM52.out.b _ rfl)).trans HCD.out
            go_simp
            refine hK.out _ _ HM52.out.below (fun hHeld => ?_)
            clear hK K d
            try simp only [Act.put, List.setIfInBounds_toArray, List.set_cons_zero, List.set_cons_succ]
            refine wpAnyH_take (i := 24) (oi := ({ dst := some 37, op := Go.Op.build 32 #[(0, Go.Operand.tmp 14), (1, Go.Operand.tmp 17), (2, Go.Operand.tmp 20), (3, Go.Operand.tmp 23), (4, Go.Operand.tmp 29), (5, Go.Operand.tmp 36)], type := 32, pos := "law.go:54", after := #[{ on := 1, ground := Go.Ground.data }, { on := 4, ground := Go.Ground.data }, { on := 7, ground := Go.Ground.data }, { on := 10, ground := Go.Ground.data }, { on := 16, ground := Go.Ground.data }, { on := 23, ground := Go.Ground.data }], guard := none } : Oper)) (v := .agg M0) rfl (by kernel_rfl) (by kernel_rfl) (by kernel_rfl) (fun _ _ _ h => h) (Or.inl ⟨by rfl, fun w' hS' => ?_⟩) hHeld ?_
            · go_simp; exact HM00.out
            try simp only [Act.put, List.setIfInBounds_toArray, List.set_cons_zero, List.set_cons_succ]
            refine wpAnyH_ready (rs := [26]) (by kernel_rfl) (by simp) ?_
            refine (AllReadyH.cons (o := ({ dst := none, op := Go.Op.store 32 (Go.Operand.tmp 9) (Go.Operand.tmp 37), type := 0, pos := "law.go:54", after := #[{ on := 25, ground := Go.Ground.data }, { on := 24, ground := Go.Ground.data }, { on := 21, ground := Go.Ground.chain }, { on := 0, ground := Go.Ground.phase }, { on := 1, ground := Go.Ground.phase }, { on := 2, ground := Go.Ground.phase }, { on := 3, ground := Go.Ground.phase }, { on := 4, ground := Go.Ground.phase }, { on := 5, ground := Go.Ground.phase }, { on := 6, ground := Go.Ground.phase }, { on := 7, ground := Go.Ground.phase }, { on := 8, ground := Go.Ground.phase }, { on := 9, ground := Go.Ground.phase }, { on := 10, ground := Go.Ground.phase }, { on := 11, ground := Go.Ground.phase }, { on := 12, ground := Go.Ground.phase }, { on := 13, ground := Go.Ground.phase }, { on := 14, ground := Go.Ground.phase }, { on := 15, ground := Go.Ground.phase }, { on := 16, ground := Go.Ground.phase }, { on := 17, ground := Go.Ground.phase }, { on := 18, ground := Go.Ground.phase }, { on := 19, ground := Go.Ground.phase }, { on := 20, ground := Go.Ground.phase }, { on := 21, ground := Go.Ground.phase }, { on := 22, ground := Go.Ground.phase }, { on := 23, ground := Go.Ground.phase }, { on := 24, ground := Go.Ground.phase }, { on := 25, ground := Go.Ground.phase }], guard := none } : Oper)) rfl (fun K hK => ?_) AllReadyH.nil)
            refine step_store_sr rfl 32 (.tmp 9) (.tmp 37) rfl (u1.heap.size) zMsg M0 32 (HM52.out.a _ rfl).1 rfl rfl SM0.out ZM0.out OM0.out (fun w4 hg4 hw4 hs4 => ?_)
            have hB4 : Below W0.heap.size W0 w4 := HM52.out.below.grown hw4.out HM52.out.below.size (fun k e => by injection e with e; have := (HM52.out.a _ rfl).2; omega)
            refine hK.out _ _ hB4 (fun hHeld => ?_)
            clear hK K
            refine wpAnyH_done (by kernel_rfl) ?_ _
            try (go_wp2_with fail)
            go_meet
            case rel => exact ⟨_, rfl, Lib.hid ⟨(hB4.block _ (heap_lt hZ0)).trans hZ0, hg4.out, hB0.trans (hB4.mono hB0.size), by have := heap_lt hZ0; have := (HM52.out.a _ rfl).2; omega⟩⟩
    · go_simp
      go_at_call 17
      refine (HN.out _).mono ?_
      rintro e' u53 ⟨rfl, hbb⟩
      have HM54 := Lib.hid (HM0.out.to hbb)
      refine hK.out _ _ HM54.out.below (fun hHeld => ?_)
      clear hK K hbb
      try simp only [Act.put, List.setIfInBounds_toArray, List.set_cons_zero, List.set_cons_succ]
      refine wpAnyH_ready (rs := [11, 21, 25]) (by kernel_rfl) (by simp) ?_
      refine (AllReadyH.cons (o := ({ dst := some 24, op := Go.Op.buildSlice 50 4 #[(0, Go.Operand.const (Go.Value.int Go.IntKind.i64 0)), (1, Go.Operand.const (Go.Value.int Go.IntKind.i64 0)), (2, Go.Operand.const (Go.Value.int Go.IntKind.i64 3)), (3, Go.Operand.const (Go.Value.int Go.IntKind.i64 2))], type := 50, pos := "law.go:54", after := #[], guard := none } : Oper)) rfl (fun K hK => ?_) (AllReadyH.cons (o := ({ dst := some 34, op := Go.Op.call { callee := Go.Callee.value (Go.Operand.func 15), args := #[Go.Operand.tmp 33], argTypes := #[25] }, type := 41, pos := "law.go:54", after := #[{ on := 20, ground := Go.Ground.data }, { on := 19, ground := Go.Ground.chain }], guard := none } : Oper)) rfl (fun K hK => ?_) (AllReadyH.cons (o := ({ dst := some 9, op := Go.Op.alloc 32, type := 0, pos := "law.go:54", after := #[], guard := none } : Oper)) rfl (fun K hK => ?_) AllReadyH.nil)))
      · go_simp
        refine hK.out _ _ (HM54.out.below.alloc HM54.out.below.size _) (fun hHeld => ?_)
        clear hK K
        try simp only [Act.put, List.setIfInBounds_toArray, List.set_cons_zero, List.set_cons_succ]
        have HM56 := Lib.hid (HM54.out.withB)
        generalize u53.alloc (.cells #[.int .i64 0, .int .i64 0, .int .i64 3, .int .i64 2] 3) = u55 at HM56 hHeld ⊢
        refine wpAnyH_take (i := 15) (oi := ({ dst := some 28, op := Go.Op.indexAddr 50 (Go.Operand.tmp 24) (Go.Operand.tmp 27), type := 0, pos := "law.go:54", after := #[{ on := 11, ground := Go.Ground.data }, { on := 14, ground := Go.Ground.data }], guard := none } : Oper)) (v := .pointer (some ⟨u53.heap.size, cc, none⟩)) rfl (by kernel_rfl) (by kernel_rfl) (by kernel_rfl) (fun _ _ _ h => h) (Or.inl ⟨by rfl, fun w' hS' => ?_⟩) hHeld ?_
        · go_simp
        try simp only [Act.put, List.setIfInBounds_toArray, List.set_cons_zero, List.set_cons_succ]
        refine wpAnyH_ready (rs := [16, 21, 25]) (by kernel_rfl) (by simp) ?_
        refine (AllReadyH.cons (o := ({ dst := some 29, op := Go.Op.load 3 (Go.Operand.tmp 28), type := 3, pos := "law.go:54", after := #[{ on := 15, ground := Go.Ground.data }], guard := none } : Oper)) rfl (fun K hK => ?_) (AllReadyH.cons (o := ({ dst := some 34, op := Go.Op.call { callee := Go.Callee.value (Go.Operand.func 15), args := #[Go.Operand.tmp 33], argTypes := #[25] }, type := 41, pos := "law.go:54", after := #[{ on := 20, ground := Go.Ground.data }, { on := 19, ground := Go.Ground.chain }], guard := none } : Oper)) rfl (fun K hK => ?_) (AllReadyH.cons (o := ({ dst := some 9, op := Go.Op.alloc 32, type := 0, pos := "law.go:54", after := #[], guard := none } : Oper)) rfl (fun K hK => ?_) AllReadyH.nil)))
        · have d := (cell_of_row _ _ cc _ _ _ (HM56.out.b _ rfl)).trans HCD.out
          go_simp
          refine hK.out _ _ HM56.out.below (fun hHeld => ?_)
          clear hK K d
          try simp only [Act.put, List.setIfInBounds_toArray, List.set_cons_zero, List.set_cons_succ]
          refine wpAnyH_ready (rs := [21, 25]) (by kernel_rfl) (by simp) ?_
          refine (AllReadyH.cons (o := ({ dst := some 34, op := Go.Op.call { callee := Go.Callee.value (Go.Operand.func 15), args := #[Go.Operand.tmp 33], argTypes := #[25] }, type := 41, pos := "law.go:54", after := #[{ on := 20, ground := Go.Ground.data }, { on := 19, ground := Go.Ground.chain }], guard := none } : Oper)) rfl (fun K hK => ?_) (AllReadyH.cons (o := ({ dst := some 9, op := Go.Op.alloc 32, type := 0, pos := "law.go:54", after := #[], guard := none } : Oper)) rfl (fun K hK => ?_) AllReadyH.nil))
          · go_simp
            go_at_call 15
            refine (HRc.out _).mono ?_
            rintro e' u57 ⟨rfl, hbb⟩
            have HM58 := Lib.hid (HM56.out.to hbb)
            refine hK.out _ _ HM58.out.below (fun hHeld => ?_)
            clear hK K hbb
            try simp only [Act.put, List.setIfInBounds_toArray, List.set_cons_zero, List.set_cons_succ]
            refine wpAnyH_take (i := 22) (oi := ({ dst := some 35, op := Go.Op.field 41 (Go.Operand.tmp 34) 1, type := 3, pos := "law.go:54", after := #[{ on := 21, ground := Go.Ground.data }], guard := none } : Oper)) (v := .int .i64 ty) rfl (by kernel_rfl) (by kernel_rfl) (by kernel_rfl) (fun _ _ _ h => h) (Or.inl ⟨by rfl, fun w' hS' => ?_⟩) hHeld ?_
            · go_simp
            try simp only [Act.put, List.setIfInBounds_toArray, List.set_cons_zero, List.set_cons_succ]
            refine wpAnyH_take (i := 23) (oi := ({ dst := some 36, op := Go.Op.build 29 #[(0, Go.Operand.tmp 32), (1, Go.Operand.tmp 35)], type := 29, pos := "law.go:54", after := #[{ on := 19, ground := Go.Ground.data }, { on := 22, ground := Go.Ground.data }], guard := none } : Oper)) (v := .agg #[.string S, .int .i64 ty]) rfl (by kernel_rfl) (by kernel_rfl) (by kernel_rfl) (fun _ _ _ h => h) (Or.inl ⟨by rfl, fun w' hS' => ?_⟩) hHeld ?_
            · go_simp
            try simp only [Act.put, List.setIfInBounds_toArray, List.set_cons_zero, List.set_cons_succ]
            refine wpAnyH_take (i := 24) (oi := ({ dst := some 37, op := Go.Op.build 32 #[(0, Go.Operand.tmp 14), (1, Go.Operand.tmp 17), (2, Go.Operand.tmp 20), (3, Go.Operand.tmp 23), (4, Go.Operand.tmp 29), (5, Go.Operand.tmp 36)], type := 32, pos := "law.go:54", after := #[{ on := 1, ground := Go.Ground.data }, { on := 4, ground := Go.Ground.data }, { on := 7, ground := Go.Ground.data }, { on := 10, ground := Go.Ground.data }, { on := 16, ground := Go.Ground.data }, { on := 23, ground := Go.Ground.data }], guard := none } : Oper)) (v := .agg M0) rfl (by kernel_rfl) (by kernel_rfl) (by kernel_rfl) (fun _ _ _ h => h) (Or.inl ⟨by rfl, fun w' hS' => ?_⟩) hHeld ?_
            · go_simp; exact HM00.out
            try simp only [Act.put, List.setIfInBounds_toArray, List.set_cons_zero, List.set_cons_succ]
            refine wpAnyH_ready (rs := [25]) (by kernel_rfl) (by simp) ?_
            refine (AllReadyH.cons (o := ({ dst := some 9, op := Go.Op.alloc 32, type := 0, pos := "law.go:54", after := #[], guard := none } : Oper)) rfl (fun K hK => ?_) AllReadyH.nil)
            go_simp
            refine hK.out _ _ (HM58.out.below.alloc HM58.out.below.size _) (fun hHeld => ?_)
            clear hK K
            try simp only [Act.put, List.setIfInBounds_toArray, List.set_cons_zero, List.set_cons_succ]
            have HM60 := Lib.hid (HM58.out.withA)
            unfold zMsg at HM60
            generalize u57.alloc (.cells #[.int .i64 0, .bool false, .bool false, .bool false, .int .i64 0, .string ⟨#[]⟩, .int .i64 0, .slice none 0 0, .slice none 0 0] 32) = u59 at HM60 hHeld ⊢
            refine wpAnyH_ready (rs := [26]) (by kernel_rfl) (by simp) ?_
            refine (AllReadyH.cons (o := ({ dst := none, op := Go.Op.store 32 (Go.Operand.tmp 9) (Go.Operand.tmp 37), type := 0, pos := "law.go:54", after := #[{ on := 25, ground := Go.Ground.data }, { on := 24, ground := Go.Ground.data }, { on := 21, ground := Go.Ground.chain }, { on := 0, ground := Go.Ground.phase }, { on := 1, ground := Go.Ground.phase }, { on := 2, ground := Go.Ground.phase }, { on := 3, ground := Go.Ground.phase }, { on := 4, ground := Go.Ground.phase }, { on := 5, ground := Go.Ground.phase }, { on := 6, ground := Go.Ground.phase }, { on := 7, ground := Go.Ground.phase }, { on := 8, ground := Go.Ground.phase }, { on := 9, ground := Go.Ground.phase }, { on := 10, ground := Go.Ground.phase }, { on := 11, ground := Go.Ground.phase }, { on := 12, ground := Go.Ground.phase }, { on := 13, ground := Go.Ground.phase }, { on := 14, ground := Go.Ground.phase }, { on := 15, ground := Go.Ground.phase }, { on := 16, ground := Go.Ground.phase }, { on := 17, ground := Go.Ground.phase }, { on := 18, ground := Go.Ground.phase }, { on := 19, ground := Go.Ground.phase }, { on := 20, ground := Go.Ground.phase }, { on := 21, ground := Go.Ground.phase }, { on := 22, ground := Go.Ground.phase }, { on := 23, ground := Go.Ground.phase }, { on := 24, ground := Go.Ground.phase }, { on := 25, ground := Go.Ground.phase }], guard := none } : Oper)) rfl (fun K hK => ?_) AllReadyH.nil)
            refine step_store_sr rfl 32 (.tmp 9) (.tmp 37) rfl (u57.heap.size) zMsg M0 32 (HM60.out.a _ rfl).1 rfl rfl SM0.out ZM0.out OM0.out (fun w4 hg4 hw4 hs4 => ?_)
            have hB4 : Below W0.heap.size W0 w4 := HM60.out.below.grown hw4.out HM60.out.below.size (fun k e => by injection e with e; have := (HM60.out.a _ rfl).2; omega)
            refine hK.out _ _ hB4 (fun hHeld => ?_)
            clear hK K
            refine wpAnyH_done (by kernel_rfl) ?_ _
            try (go_wp2_with fail)
            go_meet
            case rel => exact ⟨_, rfl, Lib.hid ⟨(hB4.block _ (heap_lt hZ0)).trans hZ0, hg4.out, hB0.trans (hB4.mono hB0.size), by have := heap_lt hZ0; have := (HM60.out.a _ rfl).2; omega⟩⟩
          · go_simp
            refine hK.out _ _ (HM56.out.below.alloc HM56.out.below.size _) (fun hHeld => ?_)
            clear hK K
            try simp only [Act.put, List.setIfInBounds_toArray, List.set_cons_zero, List.set_cons_succ]
            have HM62 := Lib.hid (HM56.out.withA)
            unfold zMsg at HM62
            generalize u55.alloc (.cells #[.int .i64 0, .bool false, .bool false, .bool false, .int .i64 0, .string ⟨#[]⟩, .int .i64 0, .slice none 0 0, .slice none 0 0] 32) = u61 at HM62 hHeld ⊢
            refine wpAnyH_ready (rs := [21]) (by kernel_rfl) (by simp) ?_
            refine (AllReadyH.cons (o := ({ dst := some 34, op := Go.Op.call { callee := Go.Callee.value (Go.Operand.func 15), args := #[Go.Operand.tmp 33], argTypes := #[25] }, type := 41, pos := "law.go:54", after := #[{ on := 20, ground := Go.Ground.data }, { on := 19, ground := Go.Ground.chain }], guard := none } : Oper)) rfl (fun K hK => ?_) AllReadyH.nil)
            go_simp
            go_at_call 15
            refine (HRc.out _).mono ?_
            rintro e' u63 ⟨rfl, hbb⟩
            have HM64 := Lib.hid (HM62.out.to hbb)
            refine hK.out _ _ HM64.out.below (fun hHeld => ?_)
            clear hK K hbb
            try simp only [Act.put, List.setIfInBounds_toArray, List.set_cons_zero, List.set_cons_succ]
            refine wpAnyH_take (i := 22) (oi := ({ dst := some 35, op := Go.Op.field 41 (Go.Operand.tmp 34) 1, type := 3, pos := "law.go:54", after := #[{ on := 21, ground := Go.Ground.data }], guard := none } : Oper)) (v := .int .i64 ty) rfl (by kernel_rfl) (by kernel_rfl) (by kernel_rfl) (fun _ _ _ h => h) (Or.inl ⟨by rfl, fun w' hS' => ?_⟩) hHeld ?_
            · go_simp
            try simp only [Act.put, List.setIfInBounds_toArray, List.set_cons_zero, List.set_cons_succ]
            refine wpAnyH_take (i := 23) (oi := ({ dst := some 36, op := Go.Op.build 29 #[(0, Go.Operand.tmp 32), (1, Go.Operand.tmp 35)], type := 29, pos := "law.go:54", after := #[{ on := 19, ground := Go.Ground.data }, { on := 22, ground := Go.Ground.data }], guard := none } : Oper)) (v := .agg #[.string S, .int .i64 ty]) rfl (by kernel_rfl) (by kernel_rfl) (by kernel_rfl) (fun _ _ _ h => h) (Or.inl ⟨by rfl, fun w' hS' => ?_⟩) hHeld ?_
            · go_simp
            try simp only [Act.put, List.setIfInBounds_toArray, List.set_cons_zero, List.set_cons_succ]
            refine wpAnyH_take (i := 24) (oi := ({ dst := some 37, op := Go.Op.build 32 #[(0, Go.Operand.tmp 14), (1, Go.Operand.tmp 17), (2, Go.Operand.tmp 20), (3, Go.Operand.tmp 23), (4, Go.Operand.tmp 29), (5, Go.Operand.tmp 36)], type := 32, pos := "law.go:54", after := #[{ on := 1, ground := Go.Ground.data }, { on := 4, ground := Go.Ground.data }, { on := 7, ground := Go.Ground.data }, { on := 10, ground := Go.Ground.data }, { on := 16, ground := Go.Ground.data }, { on := 23, ground := Go.Ground.data }], guard := none } : Oper)) (v := .agg M0) rfl (by kernel_rfl) (by kernel_rfl) (by kernel_rfl) (fun _ _ _ h => h) (Or.inl ⟨by rfl, fun w' hS' => ?_⟩) hHeld ?_
            · go_simp; exact HM00.out
            try simp only [Act.put, List.setIfInBounds_toArray, List.set_cons_zero, List.set_cons_succ]
            refine wpAnyH_ready (rs := [26]) (by kernel_rfl) (by simp) ?_
            refine (AllReadyH.cons (o := ({ dst := none, op := Go.Op.store 32 (Go.Operand.tmp 9) (Go.Operand.tmp 37), type := 0, pos := "law.go:54", after := #[{ on := 25, ground := Go.Ground.data }, { on := 24, ground := Go.Ground.data }, { on := 21, ground := Go.Ground.chain }, { on := 0, ground := Go.Ground.phase }, { on := 1, ground := Go.Ground.phase }, { on := 2, ground := Go.Ground.phase }, { on := 3, ground := Go.Ground.phase }, { on := 4, ground := Go.Ground.phase }, { on := 5, ground := Go.Ground.phase }, { on := 6, ground := Go.Ground.phase }, { on := 7, ground := Go.Ground.phase }, { on := 8, ground := Go.Ground.phase }, { on := 9, ground := Go.Ground.phase }, { on := 10, ground := Go.Ground.phase }, { on := 11, ground := Go.Ground.phase }, { on := 12, ground := Go.Ground.phase }, { on := 13, ground := Go.Ground.phase }, { on := 14, ground := Go.Ground.phase }, { on := 15, ground := Go.Ground.phase }, { on := 16, ground := Go.Ground.phase }, { on := 17, ground := Go.Ground.phase }, { on := 18, ground := Go.Ground.phase }, { on := 19, ground := Go.Ground.phase }, { on := 20, ground := Go.Ground.phase }, { on := 21, ground := Go.Ground.phase }, { on := 22, ground := Go.Ground.phase }, { on := 23, ground := Go.Ground.phase }, { on := 24, ground := Go.Ground.phase }, { on := 25, ground := Go.Ground.phase }], guard := none } : Oper)) rfl (fun K hK => ?_) AllReadyH.nil)
            refine step_store_sr rfl 32 (.tmp 9) (.tmp 37) rfl (u55.heap.size) zMsg M0 32 (HM64.out.a _ rfl).1 rfl rfl SM0.out ZM0.out OM0.out (fun w4 hg4 hw4 hs4 => ?_)
            have hB4 : Below W0.heap.size W0 w4 := HM64.out.below.grown hw4.out HM64.out.below.size (fun k e => by injection e with e; have := (HM64.out.a _ rfl).2; omega)
            refine hK.out _ _ hB4 (fun hHeld => ?_)
            clear hK K
            refine wpAnyH_done (by kernel_rfl) ?_ _
            try (go_wp2_with fail)
            go_meet
            case rel => exact ⟨_, rfl, Lib.hid ⟨(hB4.block _ (heap_lt hZ0)).trans hZ0, hg4.out, hB0.trans (hB4.mono hB0.size), by have := heap_lt hZ0; have := (HM64.out.a _ rfl).2; omega⟩⟩
        · go_simp
          go_at_call 15
          refine (HRc.out _).mono ?_
          rintro e' u65 ⟨rfl, hbb⟩
          have HM66 := Lib.hid (HM56.out.to hbb)
          refine hK.out _ _ HM66.out.below (fun hHeld => ?_)
          clear hK K hbb
          try simp only [Act.put, List.setIfInBounds_toArray, List.set_cons_zero, List.set_cons_succ]
          refine wpAnyH_take (i := 22) (oi := ({ dst := some 35, op := Go.Op.field 41 (Go.Operand.tmp 34) 1, type := 3, pos := "law.go:54", after := #[{ on := 21, ground := Go.Ground.data }], guard := none } : Oper)) (v := .int .i64 ty) rfl (by kernel_rfl) (by kernel_rfl) (by kernel_rfl) (fun _ _ _ h => h) (Or.inl ⟨by rfl, fun w' hS' => ?_⟩) hHeld ?_
          · go_simp
          try simp only [Act.put, List.setIfInBounds_toArray, List.set_cons_zero, List.set_cons_succ]
          refine wpAnyH_take (i := 23) (oi := ({ dst := some 36, op := Go.Op.build 29 #[(0, Go.Operand.tmp 32), (1, Go.Operand.tmp 35)], type := 29, pos := "law.go:54", after := #[{ on := 19, ground := Go.Ground.data }, { on := 22, ground := Go.Ground.data }], guard := none } : Oper)) (v := .agg #[.string S, .int .i64 ty]) rfl (by kernel_rfl) (by kernel_rfl) (by kernel_rfl) (fun _ _ _ h => h) (Or.inl ⟨by rfl, fun w' hS' => ?_⟩) hHeld ?_
          · go_simp
          try simp only [Act.put, List.setIfInBounds_toArray, List.set_cons_zero, List.set_cons_succ]
          refine wpAnyH_ready (rs := [16, 25]) (by kernel_rfl) (by simp) ?_
          refine (AllReadyH.cons (o := ({ dst := some 29, op := Go.Op.load 3 (Go.Operand.tmp 28), type := 3, pos := "law.go:54", after := #[{ on := 15, ground := Go.Ground.data }], guard := none } : Oper)) rfl (fun K hK => ?_) (AllReadyH.cons (o := ({ dst := some 9, op := Go.Op.alloc 32, type := 0, pos := "law.go:54", after := #[], guard := none } : Oper)) rfl (fun K hK => ?_) AllReadyH.nil))
          · have d := (cell_of_row _ _ cc _ _ _ (HM66.out.b _ rfl)).trans HCD.out
            go_simp
            refine hK.out _ _ HM66.out.below (fun hHeld => ?_)
            clear hK K d
            try simp only [Act.put, List.setIfInBounds_toArray, List.set_cons_zero, List.set_cons_succ]
            refine wpAnyH_take (i := 24) (oi := ({ dst := some 37, op := Go.Op.build 32 #[(0, Go.Operand.tmp 14), (1, Go.Operand.tmp 17), (2, Go.Operand.tmp 20), (3, Go.Operand.tmp 23), (4, Go.Operand.tmp 29), (5, Go.Operand.tmp 36)], type := 32, pos := "law.go:54", after := #[{ on := 1, ground := Go.Ground.data }, { on := 4, ground := Go.Ground.data }, { on := 7, ground := Go.Ground.data }, { on := 10, ground := Go.Ground.data }, { on := 16, ground := Go.Ground.data }, { on := 23, ground := Go.Ground.data }], guard := none } : Oper)) (v := .agg M0) rfl (by kernel_rfl) (by kernel_rfl) (by kernel_rfl) (fun _ _ _ h => h) (Or.inl ⟨by rfl, fun w' hS' => ?_⟩) hHeld ?_
            · go_simp; exact HM00.out
            try simp only [Act.put, List.setIfInBounds_toArray, List.set_cons_zero, List.set_cons_succ]
            refine wpAnyH_ready (rs := [25]) (by kernel_rfl) (by simp) ?_
            refine (AllReadyH.cons (o := ({ dst := some 9, op := Go.Op.alloc 32, type := 0, pos := "law.go:54", after := #[], guard := none } : Oper)) rfl (fun K hK => ?_) AllReadyH.nil)
            go_simp
            refine hK.out _ _ (HM66.out.below.alloc HM66.out.below.size _) (fun hHeld => ?_)
            clear hK K
            try simp only [Act.put, List.setIfInBounds_toArray, List.set_cons_zero, List.set_cons_succ]
            have HM68 := Lib.hid (HM66.out.withA)
            unfold zMsg at HM68
            generalize u65.alloc (.cells #[.int .i64 0, .bool false, .bool false, .bool false, .int .i64 0, .string ⟨#[]⟩, .int .i64 0, .slice none 0 0, .slice none 0 0] 32) = u67 at HM68 hHeld ⊢
            refine wpAnyH_ready (rs := [26]) (by kernel_rfl) (by simp) ?_
            refine (AllReadyH.cons (o := ({ dst := none, op := Go.Op.store 32 (Go.Operand.tmp 9) (Go.Operand.tmp 37), type := 0, pos := "law.go:54", after := #[{ on := 25, ground := Go.Ground.data }, { on := 24, ground := Go.Ground.data }, { on := 21, ground := Go.Ground.chain }, { on := 0, ground := Go.Ground.phase }, { on := 1, ground := Go.Ground.phase }, { on := 2, ground := Go.Ground.phase }, { on := 3, ground := Go.Ground.phase }, { on := 4, ground := Go.Ground.phase }, { on := 5, ground := Go.Ground.phase }, { on := 6, ground := Go.Ground.phase }, { on := 7, ground := Go.Ground.phase }, { on := 8, ground := Go.Ground.phase }, { on := 9, ground := Go.Ground.phase }, { on := 10, ground := Go.Ground.phase }, { on := 11, ground := Go.Ground.phase }, { on := 12, ground := Go.Ground.phase }, { on := 13, ground := Go.Ground.phase }, { on := 14, ground := Go.Ground.phase }, { on := 15, ground := Go.Ground.phase }, { on := 16, ground := Go.Ground.phase }, { on := 17, ground := Go.Ground.phase }, { on := 18, ground := Go.Ground.phase }, { on := 19, ground := Go.Ground.phase }, { on := 20, ground := Go.Ground.phase }, { on := 21, ground := Go.Ground.phase }, { on := 22, ground := Go.Ground.phase }, { on := 23, ground := Go.Ground.phase }, { on := 24, ground := Go.Ground.phase }, { on := 25, ground := Go.Ground.phase }], guard := none } : Oper)) rfl (fun K hK => ?_) AllReadyH.nil)
            refine step_store_sr rfl 32 (.tmp 9) (.tmp 37) rfl (u65.heap.size) zMsg M0 32 (HM68.out.a _ rfl).1 rfl rfl SM0.out ZM0.out OM0.out (fun w4 hg4 hw4 hs4 => ?_)
            have hB4 : Below W0.heap.size W0 w4 := HM68.out.below.grown hw4.out HM68.out.below.size (fun k e => by injection e with e; have := (HM68.out.a _ rfl).2; omega)
            refine hK.out _ _ hB4 (fun hHeld => ?_)
            clear hK K
            refine wpAnyH_done (by kernel_rfl) ?_ _
            try (go_wp2_with fail)
            go_meet
            case rel => exact ⟨_, rfl, Lib.hid ⟨(hB4.block _ (heap_lt hZ0)).trans hZ0, hg4.out, hB0.trans (hB4.mono hB0.size), by have := heap_lt hZ0; have := (HM68.out.a _ rfl).2; omega⟩⟩
          · go_simp
            refine hK.out _ _ (HM66.out.below.alloc HM66.out.below.size _) (fun hHeld => ?_)
            clear hK K
            try simp only [Act.put, List.setIfInBounds_toArray, List.set_cons_zero, List.set_cons_succ]
            have HM70 := Lib.hid (HM66.out.withA)
            unfold zMsg at HM70
            generalize u65.alloc (.cells #[.int .i64 0, .bool false, .bool false, .bool false, .int .i64 0, .string ⟨#[]⟩, .int .i64 0, .slice none 0 0, .slice none 0 0] 32) = u69 at HM70 hHeld ⊢
            refine wpAnyH_ready (rs := [16]) (by kernel_rfl) (by simp) ?_
            refine (AllReadyH.cons (o := ({ dst := some 29, op := Go.Op.load 3 (Go.Operand.tmp 28), type := 3, pos := "law.go:54", after := #[{ on := 15, ground := Go.Ground.data }], guard := none } : Oper)) rfl (fun K hK => ?_) AllReadyH.nil)
            have d := (cell_of_row _ _ cc _ _ _ (HM70.out.b _ rfl)).trans HCD.out
            go_simp
            refine hK.out _ _ HM70.out.below (fun hHeld => ?_)
            clear hK K d
            try simp only [Act.put, List.setIfInBounds_toArray, List.set_cons_zero, List.set_cons_succ]
            refine wpAnyH_take (i := 24) (oi := ({ dst := some 37, op := Go.Op.build 32 #[(0, Go.Operand.tmp 14), (1, Go.Operand.tmp 17), (2, Go.Operand.tmp 20), (3, Go.Operand.tmp 23), (4, Go.Operand.tmp 29), (5, Go.Operand.tmp 36)], type := 32, pos := "law.go:54", after := #[{ on := 1, ground := Go.Ground.data }, { on := 4, ground := Go.Ground.data }, { on := 7, ground := Go.Ground.data }, { on := 10, ground := Go.Ground.data }, { on := 16, ground := Go.Ground.data }, { on := 23, ground := Go.Ground.data }], guard := none } : Oper)) (v := .agg M0) rfl (by kernel_rfl) (by kernel_rfl) (by kernel_rfl) (fun _ _ _ h => h) (Or.inl ⟨by rfl, fun w' hS' => ?_⟩) hHeld ?_
            · go_simp; exact HM00.out
            try simp only [Act.put, List.setIfInBounds_toArray, List.set_cons_zero, List.set_cons_succ]
            refine wpAnyH_ready (rs := [26]) (by kernel_rfl) (by simp) ?_
            refine (AllReadyH.cons (o := ({ dst := none, op := Go.Op.store 32 (Go.Operand.tmp 9) (Go.Operand.tmp 37), type := 0, pos := "law.go:54", after := #[{ on := 25, ground := Go.Ground.data }, { on := 24, ground := Go.Ground.data }, { on := 21, ground := Go.Ground.chain }, { on := 0, ground := Go.Ground.phase }, { on := 1, ground := Go.Ground.phase }, { on := 2, ground := Go.Ground.phase }, { on := 3, ground := Go.Ground.phase }, { on := 4, ground := Go.Ground.phase }, { on := 5, ground := Go.Ground.phase }, { on := 6, ground := Go.Ground.phase }, { on := 7, ground := Go.Ground.phase }, { on := 8, ground := Go.Ground.phase }, { on := 9, ground := Go.Ground.phase }, { on := 10, ground := Go.Ground.phase }, { on := 11, ground := Go.Ground.phase }, { on := 12, ground := Go.Ground.phase }, { on := 13, ground := Go.Ground.phase }, { on := 14, ground := Go.Ground.phase }, { on := 15, ground := Go.Ground.phase }, { on := 16, ground := Go.Ground.phase }, { on := 17, ground := Go.Ground.phase }, { on := 18, ground := Go.Ground.phase }, { on := 19, ground := Go.Ground.phase }, { on := 20, ground := Go.Ground.phase }, { on := 21, ground := Go.Ground.phase }, { on := 22, ground := Go.Ground.phase }, { on := 23, ground := Go.Ground.phase }, { on := 24, ground := Go.Ground.phase }, { on := 25, ground := Go.Ground.phase }], guard := none } : Oper)) rfl (fun K hK => ?_) AllReadyH.nil)
            refine step_store_sr rfl 32 (.tmp 9) (.tmp 37) rfl (u65.heap.size) zMsg M0 32 (HM70.out.a _ rfl).1 rfl rfl SM0.out ZM0.out OM0.out (fun w4 hg4 hw4 hs4 => ?_)
            have hB4 : Below W0.heap.size W0 w4 := HM70.out.below.grown hw4.out HM70.out.below.size (fun k e => by injection e with e; have := (HM70.out.a _ rfl).2; omega)
            refine hK.out _ _ hB4 (fun hHeld => ?_)
            clear hK K
            refine wpAnyH_done (by kernel_rfl) ?_ _
            try (go_wp2_with fail)
            go_meet
            case rel => exact ⟨_, rfl, Lib.hid ⟨(hB4.block _ (heap_lt hZ0)).trans hZ0, hg4.out, hB0.trans (hB4.mono hB0.size), by have := heap_lt hZ0; have := (HM70.out.a _ rfl).2; omega⟩⟩
        · go_simp
          refine hK.out _ _ (HM56.out.below.alloc HM56.out.below.size _) (fun hHeld => ?_)
          clear hK K
          try simp only [Act.put, List.setIfInBounds_toArray, List.set_cons_zero, List.set_cons_succ]
          have HM72 := Lib.hid (HM56.out.withA)
          unfold zMsg at HM72
          generalize u55.alloc (.cells #[.int .i64 0, .bool false, .bool false, .bool false, .int .i64 0, .string ⟨#[]⟩, .int .i64 0, .slice none 0 0, .slice none 0 0] 32) = u71 at HM72 hHeld ⊢
          refine wpAnyH_ready (rs := [16, 21]) (by kernel_rfl) (by simp) ?_
          refine (AllReadyH.cons (o := ({ dst := some 29, op := Go.Op.load 3 (Go.Operand.tmp 28), type := 3, pos := "law.go:54", after := #[{ on := 15, ground := Go.Ground.data }], guard := none } : Oper)) rfl (fun K hK => ?_) (AllReadyH.cons (o := ({ dst := some 34, op := Go.Op.call { callee := Go.Callee.value (Go.Operand.func 15), args := #[Go.Operand.tmp 33], argTypes := #[25] }, type := 41, pos := "law.go:54", after := #[{ on := 20, ground := Go.Ground.data }, { on := 19, ground := Go.Ground.chain }], guard := none } : Oper)) rfl (fun K hK => ?_) AllReadyH.nil))
          · have d := (cell_of_row _ _ cc _ _ _ (HM72.out.b _ rfl)).trans HCD.out
            go_simp
            refine hK.out _ _ HM72.out.below (fun hHeld => ?_)
            clear hK K d
            try simp only [Act.put, List.setIfInBounds_toArray, List.set_cons_zero, List.set_cons_succ]
            refine wpAnyH_ready (rs := [21]) (by kernel_rfl) (by simp) ?_
            refine (AllReadyH.cons (o := ({ dst := some 34, op := Go.Op.call { callee := Go.Callee.value (Go.Operand.func 15), args := #[Go.Operand.tmp 33], argTypes := #[25] }, type := 41, pos := "law.go:54", after := #[{ on := 20, ground := Go.Ground.data }, { on := 19, ground := Go.Ground.chain }], guard := none } : Oper)) rfl (fun K hK => ?_) AllReadyH.nil)
            go_simp
            go_at_call 15
            refine (HRc.out _).mono ?_
            rintro e' u73 ⟨rfl, hbb⟩
            have HM74 := Lib.hid (HM72.out.to hbb)
            refine hK.out _ _ HM74.out.below (fun hHeld => ?_)
            clear hK K hbb
            try simp only [Act.put, List.setIfInBounds_toArray, List.set_cons_zero, List.set_cons_succ]
            refine wpAnyH_take (i := 22) (oi := ({ dst := some 35, op := Go.Op.field 41 (Go.Operand.tmp 34) 1, type := 3, pos := "law.go:54", after := #[{ on := 21, ground := Go.Ground.data }], guard := none } : Oper)) (v := .int .i64 ty) rfl (by kernel_rfl) (by kernel_rfl) (by kernel_rfl) (fun _ _ _ h => h) (Or.inl ⟨by rfl, fun w' hS' => ?_⟩) hHeld ?_
            · go_simp
            try simp only [Act.put, List.setIfInBounds_toArray, List.set_cons_zero, List.set_cons_succ]
            refine wpAnyH_take (i := 23) (oi := ({ dst := some 36, op := Go.Op.build 29 #[(0, Go.Operand.tmp 32), (1, Go.Operand.tmp 35)], type := 29, pos := "law.go:54", after := #[{ on := 19, ground := Go.Ground.data }, { on := 22, ground := Go.Ground.data }], guard := none } : Oper)) (v := .agg #[.string S, .int .i64 ty]) rfl (by kernel_rfl) (by kernel_rfl) (by kernel_rfl) (fun _ _ _ h => h) (Or.inl ⟨by rfl, fun w' hS' => ?_⟩) hHeld ?_
            · go_simp
            try simp only [Act.put, List.setIfInBounds_toArray, List.set_cons_zero, List.set_cons_succ]
            refine wpAnyH_take (i := 24) (oi := ({ dst := some 37, op := Go.Op.build 32 #[(0, Go.Operand.tmp 14), (1, Go.Operand.tmp 17), (2, Go.Operand.tmp 20), (3, Go.Operand.tmp 23), (4, Go.Operand.tmp 29), (5, Go.Operand.tmp 36)], type := 32, pos := "law.go:54", after := #[{ on := 1, ground := Go.Ground.data }, { on := 4, ground := Go.Ground.data }, { on := 7, ground := Go.Ground.data }, { on := 10, ground := Go.Ground.data }, { on := 16, ground := Go.Ground.data }, { on := 23, ground := Go.Ground.data }], guard := none } : Oper)) (v := .agg M0) rfl (by kernel_rfl) (by kernel_rfl) (by kernel_rfl) (fun _ _ _ h => h) (Or.inl ⟨by rfl, fun w' hS' => ?_⟩) hHeld ?_
            · go_simp; exact HM00.out
            try simp only [Act.put, List.setIfInBounds_toArray, List.set_cons_zero, List.set_cons_succ]
            refine wpAnyH_ready (rs := [26]) (by kernel_rfl) (by simp) ?_
            refine (AllReadyH.cons (o := ({ dst := none, op := Go.Op.store 32 (Go.Operand.tmp 9) (Go.Operand.tmp 37), type := 0, pos := "law.go:54", after := #[{ on := 25, ground := Go.Ground.data }, { on := 24, ground := Go.Ground.data }, { on := 21, ground := Go.Ground.chain }, { on := 0, ground := Go.Ground.phase }, { on := 1, ground := Go.Ground.phase }, { on := 2, ground := Go.Ground.phase }, { on := 3, ground := Go.Ground.phase }, { on := 4, ground := Go.Ground.phase }, { on := 5, ground := Go.Ground.phase }, { on := 6, ground := Go.Ground.phase }, { on := 7, ground := Go.Ground.phase }, { on := 8, ground := Go.Ground.phase }, { on := 9, ground := Go.Ground.phase }, { on := 10, ground := Go.Ground.phase }, { on := 11, ground := Go.Ground.phase }, { on := 12, ground := Go.Ground.phase }, { on := 13, ground := Go.Ground.phase }, { on := 14, ground := Go.Ground.phase }, { on := 15, ground := Go.Ground.phase }, { on := 16, ground := Go.Ground.phase }, { on := 17, ground := Go.Ground.phase }, { on := 18, ground := Go.Ground.phase }, { on := 19, ground := Go.Ground.phase }, { on := 20, ground := Go.Ground.phase }, { on := 21, ground := Go.Ground.phase }, { on := 22, ground := Go.Ground.phase }, { on := 23, ground := Go.Ground.phase }, { on := 24, ground := Go.Ground.phase }, { on := 25, ground := Go.Ground.phase }], guard := none } : Oper)) rfl (fun K hK => ?_) AllReadyH.nil)
            refine step_store_sr rfl 32 (.tmp 9) (.tmp 37) rfl (u55.heap.size) zMsg M0 32 (HM74.out.a _ rfl).1 rfl rfl SM0.out ZM0.out OM0.out (fun w4 hg4 hw4 hs4 => ?_)
            have hB4 : Below W0.heap.size W0 w4 := HM74.out.below.grown hw4.out HM74.out.below.size (fun k e => by injection e with e; have := (HM74.out.a _ rfl).2; omega)
            refine hK.out _ _ hB4 (fun hHeld => ?_)
            clear hK K
            refine wpAnyH_done (by kernel_rfl) ?_ _
            try (go_wp2_with fail)
            go_meet
            case rel => exact ⟨_, rfl, Lib.hid ⟨(hB4.block _ (heap_lt hZ0)).trans hZ0, hg4.out, hB0.trans (hB4.mono hB0.size), by have := heap_lt hZ0; have := (HM74.out.a _ rfl).2; omega⟩⟩
          · go_simp
            go_at_call 15
            refine (HRc.out _).mono ?_
            rintro e' u75 ⟨rfl, hbb⟩
            have HM76 := Lib.hid (HM72.out.to hbb)
            refine hK.out _ _ HM76.out.below (fun hHeld => ?_)
            clear hK K hbb
            try simp only [Act.put, List.setIfInBounds_toArray, List.set_cons_zero, List.set_cons_succ]
            refine wpAnyH_take (i := 22) (oi := ({ dst := some 35, op := Go.Op.field 41 (Go.Operand.tmp 34) 1, type := 3, pos := "law.go:54", after := #[{ on := 21, ground := Go.Ground.data }], guard := none } : Oper)) (v := .int .i64 ty) rfl (by kernel_rfl) (by kernel_rfl) (by kernel_rfl) (fun _ _ _ h => h) (Or.inl ⟨by rfl, fun w' hS' => ?_⟩) hHeld ?_
            · go_simp
            try simp only [Act.put, List.setIfInBounds_toArray, List.set_cons_zero, List.set_cons_succ]
            refine wpAnyH_take (i := 23) (oi := ({ dst := some 36, op := Go.Op.build 29 #[(0, Go.Operand.tmp 32), (1, Go.Operand.tmp 35)], type := 29, pos := "law.go:54", after := #[{ on := 19, ground := Go.Ground.data }, { on := 22, ground := Go.Ground.data }], guard := none } : Oper)) (v := .agg #[.string S, .int .i64 ty]) rfl (by kernel_rfl) (by kernel_rfl) (by kernel_rfl) (fun _ _ _ h => h) (Or.inl ⟨by rfl, fun w' hS' => ?_⟩) hHeld ?_
            · go_simp
            try simp only [Act.put, List.setIfInBounds_toArray, List.set_cons_zero, List.set_cons_succ]
            refine wpAnyH_ready (rs := [16]) (by kernel_rfl) (by simp) ?_
            refine (AllReadyH.cons (o := ({ dst := some 29, op := Go.Op.load 3 (Go.Operand.tmp 28), type := 3, pos := "law.go:54", after := #[{ on := 15, ground := Go.Ground.data }], guard := none } : Oper)) rfl (fun K hK => ?_) AllReadyH.nil)
            have d := (cell_of_row _ _ cc _ _ _ (HM76.out.b _ rfl)).trans HCD.out
            go_simp
            refine hK.out _ _ HM76.out.below (fun hHeld => ?_)
            clear hK K d
            try simp only [Act.put, List.setIfInBounds_toArray, List.set_cons_zero, List.set_cons_succ]
            refine wpAnyH_take (i := 24) (oi := ({ dst := some 37, op := Go.Op.build 32 #[(0, Go.Operand.tmp 14), (1, Go.Operand.tmp 17), (2, Go.Operand.tmp 20), (3, Go.Operand.tmp 23), (4, Go.Operand.tmp 29), (5, Go.Operand.tmp 36)], type := 32, pos := "law.go:54", after := #[{ on := 1, ground := Go.Ground.data }, { on := 4, ground := Go.Ground.data }, { on := 7, ground := Go.Ground.data }, { on := 10, ground := Go.Ground.data }, { on := 16, ground := Go.Ground.data }, { on := 23, ground := Go.Ground.data }], guard := none } : Oper)) (v := .agg M0) rfl (by kernel_rfl) (by kernel_rfl) (by kernel_rfl) (fun _ _ _ h => h) (Or.inl ⟨by rfl, fun w' hS' => ?_⟩) hHeld ?_
            · go_simp; exact HM00.out
            try simp only [Act.put, List.setIfInBounds_toArray, List.set_cons_zero, List.set_cons_succ]
            refine wpAnyH_ready (rs := [26]) (by kernel_rfl) (by simp) ?_
            refine (AllReadyH.cons (o := ({ dst := none, op := Go.Op.store 32 (Go.Operand.tmp 9) (Go.Operand.tmp 37), type := 0, pos := "law.go:54", after := #[{ on := 25, ground := Go.Ground.data }, { on := 24, ground := Go.Ground.data }, { on := 21, ground := Go.Ground.chain }, { on := 0, ground := Go.Ground.phase }, { on := 1, ground := Go.Ground.phase }, { on := 2, ground := Go.Ground.phase }, { on := 3, ground := Go.Ground.phase }, { on := 4, ground := Go.Ground.phase }, { on := 5, ground := Go.Ground.phase }, { on := 6, ground := Go.Ground.phase }, { on := 7, ground := Go.Ground.phase }, { on := 8, ground := Go.Ground.phase }, { on := 9, ground := Go.Ground.phase }, { on := 10, ground := Go.Ground.phase }, { on := 11, ground := Go.Ground.phase }, { on := 12, ground := Go.Ground.phase }, { on := 13, ground := Go.Ground.phase }, { on := 14, ground := Go.Ground.phase }, { on := 15, ground := Go.Ground.phase }, { on := 16, ground := Go.Ground.phase }, { on := 17, ground := Go.Ground.phase }, { on := 18, ground := Go.Ground.phase }, { on := 19, ground := Go.Ground.phase }, { on := 20, ground := Go.Ground.phase }, { on := 21, ground := Go.Ground.phase }, { on := 22, ground := Go.Ground.phase }, { on := 23, ground := Go.Ground.phase }, { on := 24, ground := Go.Ground.phase }, { on := 25, ground := Go.Ground.phase }], guard := none } : Oper)) rfl (fun K hK => ?_) AllReadyH.nil)
            refine step_store_sr rfl 32 (.tmp 9) (.tmp 37) rfl (u55.heap.size) zMsg M0 32 (HM76.out.a _ rfl).1 rfl rfl SM0.out ZM0.out OM0.out (fun w4 hg4 hw4 hs4 => ?_)
            have hB4 : Below W0.heap.size W0 w4 := HM76.out.below.grown hw4.out HM76.out.below.size (fun k e => by injection e with e; have := (HM76.out.a _ rfl).2; omega)
            refine hK.out _ _ hB4 (fun hHeld => ?_)
            clear hK K
            refine wpAnyH_done (by kernel_rfl) ?_ _
            try (go_wp2_with fail)
            go_meet
            case rel => exact ⟨_, rfl, Lib.hid ⟨(hB4.block _ (heap_lt hZ0)).trans hZ0, hg4.out, hB0.trans (hB4.mono hB0.size), by have := heap_lt hZ0; have := (HM76.out.a _ rfl).2; omega⟩⟩
      · go_simp
        go_at_call 15
        refine (HRc.out _).mono ?_
        rintro e' u77 ⟨rfl, hbb⟩
        have HM78 := Lib.hid (HM54.out.to hbb)
        refine hK.out _ _ HM78.out.below (fun hHeld => ?_)
        clear hK K hbb
        try simp only [Act.put, List.setIfInBounds_toArray, List.set_cons_zero, List.set_cons_succ]
        refine wpAnyH_take (i := 22) (oi := ({ dst := some 35, op := Go.Op.field 41 (Go.Operand.tmp 34) 1, type := 3, pos := "law.go:54", after := #[{ on := 21, ground := Go.Ground.data }], guard := none } : Oper)) (v := .int .i64 ty) rfl (by kernel_rfl) (by kernel_rfl) (by kernel_rfl) (fun _ _ _ h => h) (Or.inl ⟨by rfl, fun w' hS' => ?_⟩) hHeld ?_
        · go_simp
        try simp only [Act.put, List.setIfInBounds_toArray, List.set_cons_zero, List.set_cons_succ]
        refine wpAnyH_take (i := 23) (oi := ({ dst := some 36, op := Go.Op.build 29 #[(0, Go.Operand.tmp 32), (1, Go.Operand.tmp 35)], type := 29, pos := "law.go:54", after := #[{ on := 19, ground := Go.Ground.data }, { on := 22, ground := Go.Ground.data }], guard := none } : Oper)) (v := .agg #[.string S, .int .i64 ty]) rfl (by kernel_rfl) (by kernel_rfl) (by kernel_rfl) (fun _ _ _ h => h) (Or.inl ⟨by rfl, fun w' hS' => ?_⟩) hHeld ?_
        · go_simp
        try simp only [Act.put, List.setIfInBounds_toArray, List.set_cons_zero, List.set_cons_succ]
        refine wpAnyH_ready (rs := [11, 25]) (by kernel_rfl) (by simp) ?_
        refine (AllReadyH.cons (o := ({ dst := some 24, op := Go.Op.buildSlice 50 4 #[(0, Go.Operand.const (Go.Value.int Go.IntKind.i64 0)), (1, Go.Operand.const (Go.Value.int Go.IntKind.i64 0)), (2, Go.Operand.const (Go.Value.int Go.IntKind.i64 3)), (3, Go.Operand.const (Go.Value.int Go.IntKind.i64 2))], type := 50, pos := "law.go:54", after := #[], guard := none } : Oper)) rfl (fun K hK => ?_) (AllReadyH.cons (o := ({ dst := some 9, op := Go.Op.alloc 32, type := 0, pos := "law.go:54", after := #[], guard := none } : Oper)) rfl (fun K hK => ?_) AllReadyH.nil))
        · go_simp
          refine hK.out _ _ (HM78.out.below.alloc HM78.out.below.size _) (fun hHeld => ?_)
          clear hK K
          try simp only [Act.put, List.setIfInBounds_toArray, List.set_cons_zero, List.set_cons_succ]
          have HM80 := Lib.hid (HM78.out.withB)
          generalize u77.alloc (.cells #[.int .i64 0, .int .i64 0, .int .i64 3, .int .i64 2] 3) = u79 at HM80 hHeld ⊢
          refine wpAnyH_take (i := 15) (oi := ({ dst := some 28, op := Go.Op.indexAddr 50 (Go.Operand.tmp 24) (Go.Operand.tmp 27), type := 0, pos := "law.go:54", after := #[{ on := 11, ground := Go.Ground.data }, { on := 14, ground := Go.Ground.data }], guard := none } : Oper)) (v := .pointer (some ⟨u77.heap.size, cc, none⟩)) rfl (by kernel_rfl) (by kernel_rfl) (by kernel_rfl) (fun _ _ _ h => h) (Or.inl ⟨by rfl, fun w' hS' => ?_⟩) hHeld ?_
          · go_simp
          try simp only [Act.put, List.setIfInBounds_toArray, List.set_cons_zero, List.set_cons_succ]
          refine wpAnyH_ready (rs := [16, 25]) (by kernel_rfl) (by simp) ?_
          refine (AllReadyH.cons (o := ({ dst := some 29, op := Go.Op.load 3 (Go.Operand.tmp 28), type := 3, pos := "law.go:54", after := #[{ on := 15, ground := Go.Ground.data }], guard := none } : Oper)) rfl (fun K hK => ?_) (AllReadyH.cons (o := ({ dst := some 9, op := Go.Op.alloc 32, type := 0, pos := "law.go:54", after := #[], guard := none } : Oper)) rfl (fun K hK => ?_) AllReadyH.nil))
          · have d := (cell_of_row _ _ cc _ _ _ (HM80.out.b _ rfl)).trans HCD.out
            go_simp
            refine hK.out _ _ HM80.out.below (fun hHeld => ?_)
            clear hK K d
            try simp only [Act.put, List.setIfInBounds_toArray, List.set_cons_zero, List.set_cons_succ]
            refine wpAnyH_take (i := 24) (oi := ({ dst := some 37, op := Go.Op.build 32 #[(0, Go.Operand.tmp 14), (1, Go.Operand.tmp 17), (2, Go.Operand.tmp 20), (3, Go.Operand.tmp 23), (4, Go.Operand.tmp 29), (5, Go.Operand.tmp 36)], type := 32, pos := "law.go:54", after := #[{ on := 1, ground := Go.Ground.data }, { on := 4, ground := Go.Ground.data }, { on := 7, ground := Go.Ground.data }, { on := 10, ground := Go.Ground.data }, { on := 16, ground := Go.Ground.data }, { on := 23, ground := Go.Ground.data }], guard := none } : Oper)) (v := .agg M0) rfl (by kernel_rfl) (by kernel_rfl) (by kernel_rfl) (fun _ _ _ h => h) (Or.inl ⟨by rfl, fun w' hS' => ?_⟩) hHeld ?_
            · go_simp; exact HM00.out
            try simp only [Act.put, List.setIfInBounds_toArray, List.set_cons_zero, List.set_cons_succ]
            refine wpAnyH_ready (rs := [25]) (by kernel_rfl) (by simp) ?_
            refine (AllReadyH.cons (o := ({ dst := some 9, op := Go.Op.alloc 32, type := 0, pos := "law.go:54", after := #[], guard := none } : Oper)) rfl (fun K hK => ?_) AllReadyH.nil)
            go_simp
            refine hK.out _ _ (HM80.out.below.alloc HM80.out.below.size _) (fun hHeld => ?_)
            clear hK K
            try simp only [Act.put, List.setIfInBounds_toArray, List.set_cons_zero, List.set_cons_succ]
            have HM82 := Lib.hid (HM80.out.withA)
            unfold zMsg at HM82
            generalize u79.alloc (.cells #[.int .i64 0, .bool false, .bool false, .bool false, .int .i64 0, .string ⟨#[]⟩, .int .i64 0, .slice none 0 0, .slice none 0 0] 32) = u81 at HM82 hHeld ⊢
            refine wpAnyH_ready (rs := [26]) (by kernel_rfl) (by simp) ?_
            refine (AllReadyH.cons (o := ({ dst := none, op := Go.Op.store 32 (Go.Operand.tmp 9) (Go.Operand.tmp 37), type := 0, pos := "law.go:54", after := #[{ on := 25, ground := Go.Ground.data }, { on := 24, ground := Go.Ground.data }, { on := 21, ground := Go.Ground.chain }, { on := 0, ground := Go.Ground.phase }, { on := 1, ground := Go.Ground.phase }, { on := 2, ground := Go.Ground.phase }, { on := 3, ground := Go.Ground.phase }, { on := 4, ground := Go.Ground.phase }, { on := 5, ground := Go.Ground.phase }, { on := 6, ground := Go.Ground.phase }, { on := 7, ground := Go.Ground.phase }, { on := 8, ground := Go.Ground.phase }, { on := 9, ground := Go.Ground.phase }, { on := 10, ground := Go.Ground.phase }, { on := 11, ground := Go.Ground.phase }, { on := 12, ground := Go.Ground.phase }, { on := 13, ground := Go.Ground.phase }, { on := 14, ground := Go.Ground.phase }, { on := 15, ground := Go.Ground.phase }, { on := 16, ground := Go.Ground.phase }, { on := 17, ground := Go.Ground.phase }, { on := 18, ground := Go.Ground.phase }, { on := 19, ground := Go.Ground.phase }, { on := 20, ground := Go.Ground.phase }, { on := 21, ground := Go.Ground.phase }, { on := 22, ground := Go.Ground.phase }, { on := 23, ground := Go.Ground.phase }, { on := 24, ground := Go.Ground.phase }, { on := 25, ground := Go.Ground.phase }], guard := none } : Oper)) rfl (fun K hK => ?_) AllReadyH.nil)
            refine step_store_sr rfl 32 (.tmp 9) (.tmp 37) rfl (u79.heap.size) zMsg M0 32 (HM82.out.a _ rfl).1 rfl rfl SM0.out ZM0.out OM0.out (fun w4 hg4 hw4 hs4 => ?_)
            have hB4 : Below W0.heap.size W0 w4 := HM82.out.below.grown hw4.out HM82.out.below.size (fun k e => by injection e with e; have := (HM82.out.a _ rfl).2; omega)
            refine hK.out _ _ hB4 (fun hHeld => ?_)
            clear hK K
            refine wpAnyH_done (by kernel_rfl) ?_ _
            try (go_wp2_with fail)
            go_meet
            case rel => exact ⟨_, rfl, Lib.hid ⟨(hB4.block _ (heap_lt hZ0)).trans hZ0, hg4.out, hB0.trans (hB4.mono hB0.size), by have := heap_lt hZ0; have := (HM82.out.a _ rfl).2; omega⟩⟩
          · go_simp
            refine hK.out _ _ (HM80.out.below.alloc HM80.out.below.size _) (fun hHeld => ?_)
            clear hK K
            try simp only [Act.put, List.setIfInBounds_toArray, List.set_cons_zero, List.set_cons_succ]
            have HM84 := Lib.hid (HM80.out.withA)
            unfold zMsg at HM84
            generalize u79.alloc (.cells #[.int .i64 0, .bool false, .bool false, .bool false, .int .i64 0, .string ⟨#[]⟩, .int .i64 0, .slice none 0 0, .slice none 0 0] 32) = u83 at HM84 hHeld ⊢
            refine wpAnyH_ready (rs := [16]) (by kernel_rfl) (by simp) ?_
            refine (AllReadyH.cons (o := ({ dst := some 29, op := Go.Op.load 3 (Go.Operand.tmp 28), type := 3, pos := "law.go:54", after := #[{ on := 15, ground := Go.Ground.data }], guard := none } : Oper)) rfl (fun K hK => ?_) AllReadyH.nil)
            have d := (cell_of_row _ _ cc _ _ _ (HM84.out.b _ rfl)).trans HCD.out
            go_simp
            refine hK.out _ _ HM84.out.below (fun hHeld => ?_)
            clear hK K d
            try simp only [Act.put, List.setIfInBounds_toArray, List.set_cons_zero, List.set_cons_succ]
            refine wpAnyH_take (i := 24) (oi := ({ dst := some 37, op := Go.Op.build 32 #[(0, Go.Operand.tmp 14), (1, Go.Operand.tmp 17), (2, Go.Operand.tmp 20), (3, Go.Operand.tmp 23), (4, Go.Operand.tmp 29), (5, Go.Operand.tmp 36)], type := 32, pos := "law.go:54", after := #[{ on := 1, ground := Go.Ground.data }, { on := 4, ground := Go.Ground.data }, { on := 7, ground := Go.Ground.data }, { on := 10, ground := Go.Ground.data }, { on := 16, ground := Go.Ground.data }, { on := 23, ground := Go.Ground.data }], guard := none } : Oper)) (v := .agg M0) rfl (by kernel_rfl) (by kernel_rfl) (by kernel_rfl) (fun _ _ _ h => h) (Or.inl ⟨by rfl, fun w' hS' => ?_⟩) hHeld ?_
            · go_simp; exact HM00.out
            try simp only [Act.put, List.setIfInBounds_toArray, List.set_cons_zero, List.set_cons_succ]
            refine wpAnyH_ready (rs := [26]) (by kernel_rfl) (by simp) ?_
            refine (AllReadyH.cons (o := ({ dst := none, op := Go.Op.store 32 (Go.Operand.tmp 9) (Go.Operand.tmp 37), type := 0, pos := "law.go:54", after := #[{ on := 25, ground := Go.Ground.data }, { on := 24, ground := Go.Ground.data }, { on := 21, ground := Go.Ground.chain }, { on := 0, ground := Go.Ground.phase }, { on := 1, ground := Go.Ground.phase }, { on := 2, ground := Go.Ground.phase }, { on := 3, ground := Go.Ground.phase }, { on := 4, ground := Go.Ground.phase }, { on := 5, ground := Go.Ground.phase }, { on := 6, ground := Go.Ground.phase }, { on := 7, ground := Go.Ground.phase }, { on := 8, ground := Go.Ground.phase }, { on := 9, ground := Go.Ground.phase }, { on := 10, ground := Go.Ground.phase }, { on := 11, ground := Go.Ground.phase }, { on := 12, ground := Go.Ground.phase }, { on := 13, ground := Go.Ground.phase }, { on := 14, ground := Go.Ground.phase }, { on := 15, ground := Go.Ground.phase }, { on := 16, ground := Go.Ground.phase }, { on := 17, ground := Go.Ground.phase }, { on := 18, ground := Go.Ground.phase }, { on := 19, ground := Go.Ground.phase }, { on := 20, ground := Go.Ground.phase }, { on := 21, ground := Go.Ground.phase }, { on := 22, ground := Go.Ground.phase }, { on := 23, ground := Go.Ground.phase }, { on := 24, ground := Go.Ground.phase }, { on := 25, ground := Go.Ground.phase }], guard := none } : Oper)) rfl (fun K hK => ?_) AllReadyH.nil)
            refine step_store_sr rfl 32 (.tmp 9) (.tmp 37) rfl (u79.heap.size) zMsg M0 32 (HM84.out.a _ rfl).1 rfl rfl SM0.out ZM0.out OM0.out (fun w4 hg4 hw4 hs4 => ?_)
            have hB4 : Below W0.heap.size W0 w4 := HM84.out.below.grown hw4.out HM84.out.below.size (fun k e => by injection e with e; have := (HM84.out.a _ rfl).2; omega)
            refine hK.out _ _ hB4 (fun hHeld => ?_)
            clear hK K
            refine wpAnyH_done (by kernel_rfl) ?_ _
            try (go_wp2_with fail)
            go_meet
            case rel => exact ⟨_, rfl, Lib.hid ⟨(hB4.block _ (heap_lt hZ0)).trans hZ0, hg4.out, hB0.trans (hB4.mono hB0.size), by have := heap_lt hZ0; have := (HM84.out.a _ rfl).2; omega⟩⟩
        · go_simp
          refine hK.out _ _ (HM78.out.below.alloc HM78.out.below.size _) (fun hHeld => ?_)
          clear hK K
          try simp only [Act.put, List.setIfInBounds_toArray, List.set_cons_zero, List.set_cons_succ]
          have HM86 := Lib.hid (HM78.out.withA)
          unfold zMsg at HM86
          generalize u77.alloc (.cells #[.int .i64 0, .bool false, .bool false, .bool false, .int .i64 0, .string ⟨#[]⟩, .int .i64 0, .slice none 0 0, .slice none 0 0] 32) = u85 at HM86 hHeld ⊢
          refine wpAnyH_ready (rs := [11]) (by kernel_rfl) (by simp) ?_
          refine (AllReadyH.cons (o := ({ dst := some 24, op := Go.Op.buildSlice 50 4 #[(0, Go.Operand.const (Go.Value.int Go.IntKind.i64 0)), (1, Go.Operand.const (Go.Value.int Go.IntKind.i64 0)), (2, Go.Operand.const (Go.Value.int Go.IntKind.i64 3)), (3, Go.Operand.const (Go.Value.int Go.IntKind.i64 2))], type := 50, pos := "law.go:54", after := #[], guard := none } : Oper)) rfl (fun K hK => ?_) AllReadyH.nil)
          go_simp
          refine hK.out _ _ (HM86.out.below.alloc HM86.out.below.size _) (fun hHeld => ?_)
          clear hK K
          try simp only [Act.put, List.setIfInBounds_toArray, List.set_cons_zero, List.set_cons_succ]
          have HM88 := Lib.hid (HM86.out.withB)
          generalize u85.alloc (.cells #[.int .i64 0, .int .i64 0, .int .i64 3, .int .i64 2] 3) = u87 at HM88 hHeld ⊢
          refine wpAnyH_take (i := 15) (oi := ({ dst := some 28, op := Go.Op.indexAddr 50 (Go.Operand.tmp 24) (Go.Operand.tmp 27), type := 0, pos := "law.go:54", after := #[{ on := 11, ground := Go.Ground.data }, { on := 14, ground := Go.Ground.data }], guard := none } : Oper)) (v := .pointer (some ⟨u85.heap.size, cc, none⟩)) rfl (by kernel_rfl) (by kernel_rfl) (by kernel_rfl) (fun _ _ _ h => h) (Or.inl ⟨by rfl, fun w' hS' => ?_⟩) hHeld ?_
          · go_simp
          try simp only [Act.put, List.setIfInBounds_toArray, List.set_cons_zero, List.set_cons_succ]
          refine wpAnyH_ready (rs := [16]) (by kernel_rfl) (by simp) ?_
          refine (AllReadyH.cons (o := ({ dst := some 29, op := Go.Op.load 3 (Go.Operand.tmp 28), type := 3, pos := "law.go:54", after := #[{ on := 15, ground := Go.Ground.data }], guard := none } : Oper)) rfl (fun K hK => ?_) AllReadyH.nil)
          have d := (cell_of_row _ _ cc _ _ _ (HM88.out.b _ rfl)).trans HCD.out
          go_simp
          refine hK.out _ _ HM88.out.below (fun hHeld => ?_)
          clear hK K d
          try simp only [Act.put, List.setIfInBounds_toArray, List.set_cons_zero, List.set_cons_succ]
          refine wpAnyH_take (i := 24) (oi := ({ dst := some 37, op := Go.Op.build 32 #[(0, Go.Operand.tmp 14), (1, Go.Operand.tmp 17), (2, Go.Operand.tmp 20), (3, Go.Operand.tmp 23), (4, Go.Operand.tmp 29), (5, Go.Operand.tmp 36)], type := 32, pos := "law.go:54", after := #[{ on := 1, ground := Go.Ground.data }, { on := 4, ground := Go.Ground.data }, { on := 7, ground := Go.Ground.data }, { on := 10, ground := Go.Ground.data }, { on := 16, ground := Go.Ground.data }, { on := 23, ground := Go.Ground.data }], guard := none } : Oper)) (v := .agg M0) rfl (by kernel_rfl) (by kernel_rfl) (by kernel_rfl) (fun _ _ _ h => h) (Or.inl ⟨by rfl, fun w' hS' => ?_⟩) hHeld ?_
          · go_simp; exact HM00.out
          try simp only [Act.put, List.setIfInBounds_toArray, List.set_cons_zero, List.set_cons_succ]
          refine wpAnyH_ready (rs := [26]) (by kernel_rfl) (by simp) ?_
          refine (AllReadyH.cons (o := ({ dst := none, op := Go.Op.store 32 (Go.Operand.tmp 9) (Go.Operand.tmp 37), type := 0, pos := "law.go:54", after := #[{ on := 25, ground := Go.Ground.data }, { on := 24, ground := Go.Ground.data }, { on := 21, ground := Go.Ground.chain }, { on := 0, ground := Go.Ground.phase }, { on := 1, ground := Go.Ground.phase }, { on := 2, ground := Go.Ground.phase }, { on := 3, ground := Go.Ground.phase }, { on := 4, ground := Go.Ground.phase }, { on := 5, ground := Go.Ground.phase }, { on := 6, ground := Go.Ground.phase }, { on := 7, ground := Go.Ground.phase }, { on := 8, ground := Go.Ground.phase }, { on := 9, ground := Go.Ground.phase }, { on := 10, ground := Go.Ground.phase }, { on := 11, ground := Go.Ground.phase }, { on := 12, ground := Go.Ground.phase }, { on := 13, ground := Go.Ground.phase }, { on := 14, ground := Go.Ground.phase }, { on := 15, ground := Go.Ground.phase }, { on := 16, ground := Go.Ground.phase }, { on := 17, ground := Go.Ground.phase }, { on := 18, ground := Go.Ground.phase }, { on := 19, ground := Go.Ground.phase }, { on := 20, ground := Go.Ground.phase }, { on := 21, ground := Go.Ground.phase }, { on := 22, ground := Go.Ground.phase }, { on := 23, ground := Go.Ground.phase }, { on := 24, ground := Go.Ground.phase }, { on := 25, ground := Go.Ground.phase }], guard := none } : Oper)) rfl (fun K hK => ?_) AllReadyH.nil)
          refine step_store_sr rfl 32 (.tmp 9) (.tmp 37) rfl (u77.heap.size) zMsg M0 32 (HM88.out.a _ rfl).1 rfl rfl SM0.out ZM0.out OM0.out (fun w4 hg4 hw4 hs4 => ?_)
          have hB4 : Below W0.heap.size W0 w4 := HM88.out.below.grown hw4.out HM88.out.below.size (fun k e => by injection e with e; have := (HM88.out.a _ rfl).2; omega)
          refine hK.out _ _ hB4 (fun hHeld => ?_)
          clear hK K
          refine wpAnyH_done (by kernel_rfl) ?_ _
          try (go_wp2_with fail)
          go_meet
          case rel => exact ⟨_, rfl, Lib.hid ⟨(hB4.block _ (heap_lt hZ0)).trans hZ0, hg4.out, hB0.trans (hB4.mono hB0.size), by have := heap_lt hZ0; have := (HM88.out.a _ rfl).2; omega⟩⟩
      · go_simp
        refine hK.out _ _ (HM54.out.below.alloc HM54.out.below.size _) (fun hHeld => ?_)
        clear hK K
        try simp only [Act.put, List.setIfInBounds_toArray, List.set_cons_zero, List.set_cons_succ]
        have HM90 := Lib.hid (HM54.out.withA)
        unfold zMsg at HM90
        generalize u53.alloc (.cells #[.int .i64 0, .bool false, .bool false, .bool false, .int .i64 0, .string ⟨#[]⟩, .int .i64 0, .slice none 0 0, .slice none 0 0] 32) = u89 at HM90 hHeld ⊢
        refine wpAnyH_ready (rs := [11, 21]) (by kernel_rfl) (by simp) ?_
        refine (AllReadyH.cons (o := ({ dst := some 24, op := Go.Op.buildSlice 50 4 #[(0, Go.Operand.const (Go.Value.int Go.IntKind.i64 0)), (1, Go.Operand.const (Go.Value.int Go.IntKind.i64 0)), (2, Go.Operand.const (Go.Value.int Go.IntKind.i64 3)), (3, Go.Operand.const (Go.Value.int Go.IntKind.i64 2))], type := 50, pos := "law.go:54", after := #[], guard := none } : Oper)) rfl (fun K hK => ?_) (AllReadyH.cons (o := ({ dst := some 34, op := Go.Op.call { callee := Go.Callee.value (Go.Operand.func 15), args := #[Go.Operand.tmp 33], argTypes := #[25] }, type := 41, pos := "law.go:54", after := #[{ on := 20, ground := Go.Ground.data }, { on := 19, ground := Go.Ground.chain }], guard := none } : Oper)) rfl (fun K hK => ?_) AllReadyH.nil))
        · go_simp
          refine hK.out _ _ (HM90.out.below.alloc HM90.out.below.size _) (fun hHeld => ?_)
          clear hK K
          try simp only [Act.put, List.setIfInBounds_toArray, List.set_cons_zero, List.set_cons_succ]
          have HM92 := Lib.hid (HM90.out.withB)
          generalize u89.alloc (.cells #[.int .i64 0, .int .i64 0, .int .i64 3, .int .i64 2] 3) = u91 at HM92 hHeld ⊢
          refine wpAnyH_take (i := 15) (oi := ({ dst := some 28, op := Go.Op.indexAddr 50 (Go.Operand.tmp 24) (Go.Operand.tmp 27), type := 0, pos := "law.go:54", after := #[{ on := 11, ground := Go.Ground.data }, { on := 14, ground := Go.Ground.data }], guard := none } : Oper)) (v := .pointer (some ⟨u89.heap.size, cc, none⟩)) rfl (by kernel_rfl) (by kernel_rfl) (by kernel_rfl) (fun _ _ _ h => h) (Or.inl ⟨by rfl, fun w' hS' => ?_⟩) hHeld ?_
          · go_simp
          try simp only [Act.put, List.setIfInBounds_toArray, List.set_cons_zero, List.set_cons_succ]
          refine wpAnyH_ready (rs := [16, 21]) (by kernel_rfl) (by simp) ?_
          refine (AllReadyH.cons (o := ({ dst := some 29, op := Go.Op.load 3 (Go.Operand.tmp 28), type := 3, pos := "law.go:54", after := #[{ on := 15, ground := Go.Ground.data }], guard := none } : Oper)) rfl (fun K hK => ?_) (AllReadyH.cons (o := ({ dst := some 34, op := Go.Op.call { callee := Go.Callee.value (Go.Operand.func 15), args := #[Go.Operand.tmp 33], argTypes := #[25] }, type := 41, pos := "law.go:54", after := #[{ on := 20, ground := Go.Ground.data }, { on := 19, ground := Go.Ground.chain }], guard := none } : Oper)) rfl (fun K hK => ?_) AllReadyH.nil))
          · have d := (cell_of_row _ _ cc _ _ _ (HM92.out.b _ rfl)).trans HCD.out
            go_simp
            refine hK.out _ _ HM92.out.below (fun hHeld => ?_)
            clear hK K d
            try simp only [Act.put, List.setIfInBounds_toArray, List.set_cons_zero, List.set_cons_succ]
            refine wpAnyH_ready (rs := [21]) (by kernel_rfl) (by simp) ?_
            refine (AllReadyH.cons (o := ({ dst := some 34, op := Go.Op.call { callee := Go.Callee.value (Go.Operand.func 15), args := #[Go.Operand.tmp 33], argTypes := #[25] }, type := 41, pos := "law.go:54", after := #[{ on := 20, ground := Go.Ground.data }, { on := 19, ground := Go.Ground.chain }], guard := none } : Oper)) rfl (fun K hK => ?_) AllReadyH.nil)
            go_simp
            go_at_call 15
            refine (HRc.out _).mono ?_
            rintro e' u93 ⟨rfl, hbb⟩
            have HM94 := Lib.hid (HM92.out.to hbb)
            refine hK.out _ _ HM94.out.below (fun hHeld => ?_)
            clear hK K hbb
            try simp only [Act.put, List.setIfInBounds_toArray, List.set_cons_zero, List.set_cons_succ]
            refine wpAnyH_take (i := 22) (oi := ({ dst := some 35, op := Go.Op.field 41 (Go.Operand.tmp 34) 1, type := 3, pos := "law.go:54", after := #[{ on := 21, ground := Go.Ground.data }], guard := none } : Oper)) (v := .int .i64 ty) rfl (by kernel_rfl) (by kernel_rfl) (by kernel_rfl) (fun _ _ _ h => h) (Or.inl ⟨by rfl, fun w' hS' => ?_⟩) hHeld ?_
            · go_simp
            try simp only [Act.put, List.setIfInBounds_toArray, List.set_cons_zero, List.set_cons_succ]
            refine wpAnyH_take (i := 23) (oi := ({ dst := some 36, op := Go.Op.build 29 #[(0, Go.Operand.tmp 32), (1, Go.Operand.tmp 35)], type := 29, pos := "law.go:54", after := #[{ on := 19, ground := Go.Ground.data }, { on := 22, ground := Go.Ground.data }], guard := none } : Oper)) (v := .agg #[.string S, .int .i64 ty]) rfl (by kernel_rfl) (by kernel_rfl) (by kernel_rfl) (fun _ _ _ h => h) (Or.inl ⟨by rfl, fun w' hS' => ?_⟩) hHeld ?_
            · go_simp
            try simp only [Act.put, List.setIfInBounds_toArray, List.set_cons_zero, List.set_cons_succ]
            refine wpAnyH_take (i := 24) (oi := ({ dst := some 37, op := Go.Op.build 32 #[(0, Go.Operand.tmp 14), (1, Go.Operand.tmp 17), (2, Go.Operand.tmp 20), (3, Go.Operand.tmp 23), (4, Go.Operand.tmp 29), (5, Go.Operand.tmp 36)], type := 32, pos := "law.go:54", after := #[{ on := 1, ground := Go.Ground.data }, { on := 4, ground := Go.Ground.data }, { on := 7, ground := Go.Ground.data }, { on := 10, ground := Go.Ground.data }, { on := 16, ground := Go.Ground.data }, { on := 23, ground := Go.Ground.data }], guard := none } : Oper)) (v := .agg M0) rfl (by kernel_rfl) (by kernel_rfl) (by kernel_rfl) (fun _ _ _ h => h) (Or.inl ⟨by rfl, fun w' hS' => ?_⟩) hHeld ?_
            · go_simp; exact HM00.out
            try simp only [Act.put, List.setIfInBounds_toArray, List.set_cons_zero, List.set_cons_succ]
            refine wpAnyH_ready (rs := [26]) (by kernel_rfl) (by simp) ?_
            refine (AllReadyH.cons (o := ({ dst := none, op := Go.Op.store 32 (Go.Operand.tmp 9) (Go.Operand.tmp 37), type := 0, pos := "law.go:54", after := #[{ on := 25, ground := Go.Ground.data }, { on := 24, ground := Go.Ground.data }, { on := 21, ground := Go.Ground.chain }, { on := 0, ground := Go.Ground.phase }, { on := 1, ground := Go.Ground.phase }, { on := 2, ground := Go.Ground.phase }, { on := 3, ground := Go.Ground.phase }, { on := 4, ground := Go.Ground.phase }, { on := 5, ground := Go.Ground.phase }, { on := 6, ground := Go.Ground.phase }, { on := 7, ground := Go.Ground.phase }, { on := 8, ground := Go.Ground.phase }, { on := 9, ground := Go.Ground.phase }, { on := 10, ground := Go.Ground.phase }, { on := 11, ground := Go.Ground.phase }, { on := 12, ground := Go.Ground.phase }, { on := 13, ground := Go.Ground.phase }, { on := 14, ground := Go.Ground.phase }, { on := 15, ground := Go.Ground.phase }, { on := 16, ground := Go.Ground.phase }, { on := 17, ground := Go.Ground.phase }, { on := 18, ground := Go.Ground.phase }, { on := 19, ground := Go.Ground.phase }, { on := 20, ground := Go.Ground.phase }, { on := 21, ground := Go.Ground.phase }, { on := 22, ground := Go.Ground.phase }, { on := 23, ground := Go.Ground.phase }, { on := 24, ground := Go.Ground.phase }, { on := 25, ground := Go.Ground.phase }], guard := none } : Oper)) rfl (fun K hK => ?_) AllReadyH.nil)
            refine step_store_sr rfl 32 (.tmp 9) (.tmp 37) rfl (u53.heap.size) zMsg M0 32 (HM94.out.a _ rfl).1 rfl rfl SM0.out ZM0.out OM0.out (fun w4 hg4 hw4 hs4 => ?_)
            have hB4 : Below W0.heap.size W0 w4 := HM94.out.below.grown hw4.out HM94.out.below.size (fun k e => by injection e with e; have := (HM94.out.a _ rfl).2; omega)
            refine hK.out _ _ hB4 (fun hHeld => ?_)
            clear hK K
            refine wpAnyH_done (by kernel_rfl) ?_ _
            try (go_wp2_with fail)
            go_meet
            case rel => exact ⟨_, rfl, Lib.hid ⟨(hB4.block _ (heap_lt hZ0)).trans hZ0, hg4.out, hB0.trans (hB4.mono hB0.size), by have := heap_lt hZ0; have := (HM94.out.a _ rfl).2; omega⟩⟩
          · go_simp
            go_at_call 15
            refine (HRc.out _).mono ?_
            rintro e' u95 ⟨rfl, hbb⟩
            have HM96 := Lib.hid (HM92.out.to hbb)
            refine hK.out _ _ HM96.out.below (fun hHeld => ?_)
            clear hK K hbb
            try simp only [Act.put, List.setIfInBounds_toArray, List.set_cons_zero, List.set_cons_succ]
            refine wpAnyH_take (i := 22) (oi := ({ dst := some 35, op := Go.Op.field 41 (Go.Operand.tmp 34) 1, type := 3, pos := "law.go:54", after := #[{ on := 21, ground := Go.Ground.data }], guard := none } : Oper)) (v := .int .i64 ty) rfl (by kernel_rfl) (by kernel_rfl) (by kernel_rfl) (fun _ _ _ h => h) (Or.inl ⟨by rfl, fun w' hS' => ?_⟩) hHeld ?_
            · go_simp
            try simp only [Act.put, List.setIfInBounds_toArray, List.set_cons_zero, List.set_cons_succ]
            refine wpAnyH_take (i := 23) (oi := ({ dst := some 36, op := Go.Op.build 29 #[(0, Go.Operand.tmp 32), (1, Go.Operand.tmp 35)], type := 29, pos := "law.go:54", after := #[{ on := 19, ground := Go.Ground.data }, { on := 22, ground := Go.Ground.data }], guard := none } : Oper)) (v := .agg #[.string S, .int .i64 ty]) rfl (by kernel_rfl) (by kernel_rfl) (by kernel_rfl) (fun _ _ _ h => h) (Or.inl ⟨by rfl, fun w' hS' => ?_⟩) hHeld ?_
            · go_simp
            try simp only [Act.put, List.setIfInBounds_toArray, List.set_cons_zero, List.set_cons_succ]
            refine wpAnyH_ready (rs := [16]) (by kernel_rfl) (by simp) ?_
            refine (AllReadyH.cons (o := ({ dst := some 29, op := Go.Op.load 3 (Go.Operand.tmp 28), type := 3, pos := "law.go:54", after := #[{ on := 15, ground := Go.Ground.data }], guard := none } : Oper)) rfl (fun K hK => ?_) AllReadyH.nil)
            have d := (cell_of_row _ _ cc _ _ _ (HM96.out.b _ rfl)).trans HCD.out
            go_simp
            refine hK.out _ _ HM96.out.below (fun hHeld => ?_)
            clear hK K d
            try simp only [Act.put, List.setIfInBounds_toArray, List.set_cons_zero, List.set_cons_succ]
            refine wpAnyH_take (i := 24) (oi := ({ dst := some 37, op := Go.Op.build 32 #[(0, Go.Operand.tmp 14), (1, Go.Operand.tmp 17), (2, Go.Operand.tmp 20), (3, Go.Operand.tmp 23), (4, Go.Operand.tmp 29), (5, Go.Operand.tmp 36)], type := 32, pos := "law.go:54", after := #[{ on := 1, ground := Go.Ground.data }, { on := 4, ground := Go.Ground.data }, { on := 7, ground := Go.Ground.data }, { on := 10, ground := Go.Ground.data }, { on := 16, ground := Go.Ground.data }, { on := 23, ground := Go.Ground.data }], guard := none } : Oper)) (v := .agg M0) rfl (by kernel_rfl) (by kernel_rfl) (by kernel_rfl) (fun _ _ _ h => h) (Or.inl ⟨by rfl, fun w' hS' => ?_⟩) hHeld ?_
            · go_simp; exact HM00.out
            try simp only [Act.put, List.setIfInBounds_toArray, List.set_cons_zero, List.set_cons_succ]
            refine wpAnyH_ready (rs := [26]) (by kernel_rfl) (by simp) ?_
            refine (AllReadyH.cons (o := ({ dst := none, op := Go.Op.store 32 (Go.Operand.tmp 9) (Go.Operand.tmp 37), type := 0, pos := "law.go:54", after := #[{ on := 25, ground := Go.Ground.data }, { on := 24, ground := Go.Ground.data }, { on := 21, ground := Go.Ground.chain }, { on := 0, ground := Go.Ground.phase }, { on := 1, ground := Go.Ground.phase }, { on := 2, ground := Go.Ground.phase }, { on := 3, ground := Go.Ground.phase }, { on := 4, ground := Go.Ground.phase }, { on := 5, ground := Go.Ground.phase }, { on := 6, ground := Go.Ground.phase }, { on := 7, ground := Go.Ground.phase }, { on := 8, ground := Go.Ground.phase }, { on := 9, ground := Go.Ground.phase }, { on := 10, ground := Go.Ground.phase }, { on := 11, ground := Go.Ground.phase }, { on := 12, ground := Go.Ground.phase }, { on := 13, ground := Go.Ground.phase }, { on := 14, ground := Go.Ground.phase }, { on := 15, ground := Go.Ground.phase }, { on := 16, ground := Go.Ground.phase }, { on := 17, ground := Go.Ground.phase }, { on := 18, ground := Go.Ground.phase }, { on := 19, ground := Go.Ground.phase }, { on := 20, ground := Go.Ground.phase }, { on := 21, ground := Go.Ground.phase }, { on := 22, ground := Go.Ground.phase }, { on := 23, ground := Go.Ground.phase }, { on := 24, ground := Go.Ground.phase }, { on := 25, ground := Go.Ground.phase }], guard := none } : Oper)) rfl (fun K hK => ?_) AllReadyH.nil)
            refine step_store_sr rfl 32 (.tmp 9) (.tmp 37) rfl (u53.heap.size) zMsg M0 32 (HM96.out.a _ rfl).1 rfl rfl SM0.out ZM0.out OM0.out (fun w4 hg4 hw4 hs4 => ?_)
            have hB4 : Below W0.heap.size W0 w4 := HM96.out.below.grown hw4.out HM96.out.below.size (fun k e => by injection e with e; have := (HM96.out.a _ rfl).2; omega)
            refine hK.out _ _ hB4 (fun hHeld => ?_)
            clear hK K
            refine wpAnyH_done (by kernel_rfl) ?_ _
            try (go_wp2_with fail)
            go_meet
            case rel => exact ⟨_, rfl, Lib.hid ⟨(hB4.block _ (heap_lt hZ0)).trans hZ0, hg4.out, hB0.trans (hB4.mono hB0.size), by have := heap_lt hZ0; have := (HM96.out.a _ rfl).2; omega⟩⟩
        · go_simp
          go_at_call 15
          refine (HRc.out _).mono ?_
          rintro e' u97 ⟨rfl, hbb⟩
          have HM98 := Lib.hid (HM90.out.to hbb)
          refine hK.out _ _ HM98.out.below (fun hHeld => ?_)
          clear hK K hbb
          try simp only [Act.put, List.setIfInBounds_toArray, List.set_cons_zero, List.set_cons_succ]
          refine wpAnyH_take (i := 22) (oi := ({ dst := some 35, op := Go.Op.field 41 (Go.Operand.tmp 34) 1, type := 3, pos := "law.go:54", after := #[{ on := 21, ground := Go.Ground.data }], guard := none } : Oper)) (v := .int .i64 ty) rfl (by kernel_rfl) (by kernel_rfl) (by kernel_rfl) (fun _ _ _ h => h) (Or.inl ⟨by rfl, fun w' hS' => ?_⟩) hHeld ?_
          · go_simp
          try simp only [Act.put, List.setIfInBounds_toArray, List.set_cons_zero, List.set_cons_succ]
          refine wpAnyH_take (i := 23) (oi := ({ dst := some 36, op := Go.Op.build 29 #[(0, Go.Operand.tmp 32), (1, Go.Operand.tmp 35)], type := 29, pos := "law.go:54", after := #[{ on := 19, ground := Go.Ground.data }, { on := 22, ground := Go.Ground.data }], guard := none } : Oper)) (v := .agg #[.string S, .int .i64 ty]) rfl (by kernel_rfl) (by kernel_rfl) (by kernel_rfl) (fun _ _ _ h => h) (Or.inl ⟨by rfl, fun w' hS' => ?_⟩) hHeld ?_
          · go_simp
          try simp only [Act.put, List.setIfInBounds_toArray, List.set_cons_zero, List.set_cons_succ]
          refine wpAnyH_ready (rs := [11]) (by kernel_rfl) (by simp) ?_
          refine (AllReadyH.cons (o := ({ dst := some 24, op := Go.Op.buildSlice 50 4 #[(0, Go.Operand.const (Go.Value.int Go.IntKind.i64 0)), (1, Go.Operand.const (Go.Value.int Go.IntKind.i64 0)), (2, Go.Operand.const (Go.Value.int Go.IntKind.i64 3)), (3, Go.Operand.const (Go.Value.int Go.IntKind.i64 2))], type := 50, pos := "law.go:54", after := #[], guard := none } : Oper)) rfl (fun K hK => ?_) AllReadyH.nil)
          go_simp
          refine hK.out _ _ (HM98.out.below.alloc HM98.out.below.size _) (fun hHeld => ?_)
          clear hK K
          try simp only [Act.put, List.setIfInBounds_toArray, List.set_cons_zero, List.set_cons_succ]
          have HM100 := Lib.hid (HM98.out.withB)
          generalize u97.alloc (.cells #[.int .i64 0, .int .i64 0, .int .i64 3, .int .i64 2] 3) = u99 at HM100 hHeld ⊢
          refine wpAnyH_take (i := 15) (oi := ({ dst := some 28, op := Go.Op.indexAddr 50 (Go.Operand.tmp 24) (Go.Operand.tmp 27), type := 0, pos := "law.go:54", after := #[{ on := 11, ground := Go.Ground.data }, { on := 14, ground := Go.Ground.data }], guard := none } : Oper)) (v := .pointer (some ⟨u97.heap.size, cc, none⟩)) rfl (by kernel_rfl) (by kernel_rfl) (by kernel_rfl) (fun _ _ _ h => h) (Or.inl ⟨by rfl, fun w' hS' => ?_⟩) hHeld ?_
          · go_simp
          try simp only [Act.put, List.setIfInBounds_toArray, List.set_cons_zero, List.set_cons_succ]
          refine wpAnyH_ready (rs := [16]) (by kernel_rfl) (by simp) ?_
          refine (AllReadyH.cons (o := ({ dst := some 29, op := Go.Op.load 3 (Go.Operand.tmp 28), type := 3, pos := "law.go:54", after := #[{ on := 15, ground := Go.Ground.data }], guard := none } : Oper)) rfl (fun K hK => ?_) AllReadyH.nil)
          have d := (cell_of_row _ _ cc _ _ _ (HM100.out.b _ rfl)).trans HCD.out
          go_simp
          refine hK.out _ _ HM100.out.below (fun hHeld => ?_)
          clear hK K d
          try simp only [Act.put, List.setIfInBounds_toArray, List.set_cons_zero, List.set_cons_succ]
          refine wpAnyH_take (i := 24) (oi := ({ dst := some 37, op := Go.Op.build 32 #[(0, Go.Operand.tmp 14), (1, Go.Operand.tmp 17), (2, Go.Operand.tmp 20), (3, Go.Operand.tmp 23), (4, Go.Operand.tmp 29), (5, Go.Operand.tmp 36)], type := 32, pos := "law.go:54", after := #[{ on := 1, ground := Go.Ground.data }, { on := 4, ground := Go.Ground.data }, { on := 7, ground := Go.Ground.data }, { on := 10, ground := Go.Ground.data }, { on := 16, ground := Go.Ground.data }, { on := 23, ground := Go.Ground.data }], guard := none } : Oper)) (v := .agg M0) rfl (by kernel_rfl) (by kernel_rfl) (by kernel_rfl) (fun _ _ _ h => h) (Or.inl ⟨by rfl, fun w' hS' => ?_⟩) hHeld ?_
          · go_simp; exact HM00.out
          try simp only [Act.put, List.setIfInBounds_toArray, List.set_cons_zero, List.set_cons_succ]
          refine wpAnyH_ready (rs := [26]) (by kernel_rfl) (by simp) ?_
          refine (AllReadyH.cons (o := ({ dst := none, op := Go.Op.store 32 (Go.Operand.tmp 9) (Go.Operand.tmp 37), type := 0, pos := "law.go:54", after := #[{ on := 25, ground := Go.Ground.data }, { on := 24, ground := Go.Ground.data }, { on := 21, ground := Go.Ground.chain }, { on := 0, ground := Go.Ground.phase }, { on := 1, ground := Go.Ground.phase }, { on := 2, ground := Go.Ground.phase }, { on := 3, ground := Go.Ground.phase }, { on := 4, ground := Go.Ground.phase }, { on := 5, ground := Go.Ground.phase }, { on := 6, ground := Go.Ground.phase }, { on := 7, ground := Go.Ground.phase }, { on := 8, ground := Go.Ground.phase }, { on := 9, ground := Go.Ground.phase }, { on := 10, ground := Go.Ground.phase }, { on := 11, ground := Go.Ground.phase }, { on := 12, ground := Go.Ground.phase }, { on := 13, ground := Go.Ground.phase }, { on := 14, ground := Go.Ground.phase }, { on := 15, ground := Go.Ground.phase }, { on := 16, ground := Go.Ground.phase }, { on := 17, ground := Go.Ground.phase }, { on := 18, ground := Go.Ground.phase }, { on := 19, ground := Go.Ground.phase }, { on := 20, ground := Go.Ground.phase }, { on := 21, ground := Go.Ground.phase }, { on := 22, ground := Go.Ground.phase }, { on := 23, ground := Go.Ground.phase }, { on := 24, ground := Go.Ground.phase }, { on := 25, ground := Go.Ground.phase }], guard := none } : Oper)) rfl (fun K hK => ?_) AllReadyH.nil)
          refine step_store_sr rfl 32 (.tmp 9) (.tmp 37) rfl (u53.heap.size) zMsg M0 32 (HM100.out.a _ rfl).1 rfl rfl SM0.out ZM0.out OM0.out (fun w4 hg4 hw4 hs4 => ?_)
          have hB4 : Below W0.heap.size W0 w4 := HM100.out.below.grown hw4.out HM100.out.below.size (fun k e => by injection e with e; have := (HM100.out.a _ rfl).2; omega)
          refine hK.out _ _ hB4 (fun hHeld => ?_)
          clear hK K
          refine wpAnyH_done (by kernel_rfl) ?_ _
          try (go_wp2_with fail)
          go_meet
          case rel => exact ⟨_, rfl, Lib.hid ⟨(hB4.block _ (heap_lt hZ0)).trans hZ0, hg4.out, hB0.trans (hB4.mono hB0.size), by have := heap_lt hZ0; have := (HM100.out.a _ rfl).2; omega⟩⟩
    · go_simp
      refine hK.out _ _ (HM0.out.below.alloc HM0.out.below.size _) (fun hHeld => ?_)
      clear hK K
      try simp only [Act.put, List.setIfInBounds_toArray, List.set_cons_zero, List.set_cons_succ]
      have HM102 := Lib.hid (HM0.out.withA)
      unfold zMsg at HM102
      generalize V0.alloc (.cells #[.int .i64 0, .bool false, .bool false, .bool false, .int .i64 0, .string ⟨#[]⟩, .int .i64 0, .slice none 0 0, .slice none 0 0] 32) = u101 at HM102 hHeld ⊢
      refine wpAnyH_ready (rs := [11, 19]) (by kernel_rfl) (by simp) ?_
      refine (AllReadyH.cons (o := ({ dst := some 24, op := Go.Op.buildSlice 50 4 #[(0, Go.Operand.const (Go.Value.int Go.IntKind.i64 0)), (1, Go.Operand.const (Go.Value.int Go.IntKind.i64 0)), (2, Go.Operand.const (Go.Value.int Go.IntKind.i64 3)), (3, Go.Operand.const (Go.Value.int Go.IntKind.i64 2))], type := 50, pos := "law.go:54", after := #[], guard := none } : Oper)) rfl (fun K hK => ?_) (AllReadyH.cons (o := ({ dst := some 32, op := Go.Op.call { callee := Go.Callee.value (Go.Operand.func 17), args := #[Go.Operand.tmp 31], argTypes := #[3] }, type := 9, pos := "law.go:54", after := #[{ on := 18, ground := Go.Ground.data }], guard := none } : Oper)) rfl (fun K hK => ?_) AllReadyH.nil))
      · go_simp
        refine hK.out _ _ (HM102.out.below.alloc HM102.out.below.size _) (fun hHeld => ?_)
        clear hK K
        try simp only [Act.put, List.setIfInBounds_toArray, List.set_cons_zero, List.set_cons_succ]
        have HM104 := Lib.hid (HM102.out.withB)
        generalize u101.alloc (.cells #[.int .i64 0, .int .i64 0, .int .i64 3, .int .i64 2] 3) = u103 at HM104 hHeld ⊢
        refine wpAnyH_take (i := 15) (oi := ({ dst := some 28, op := Go.Op.indexAddr 50 (Go.Operand.tmp 24) (Go.Operand.tmp 27), type := 0, pos := "law.go:54", after := #[{ on := 11, ground := Go.Ground.data }, { on := 14, ground := Go.Ground.data }], guard := none } : Oper)) (v := .pointer (some ⟨u101.heap.size, cc, none⟩)) rfl (by kernel_rfl) (by kernel_rfl) (by kernel_rfl) (fun _ _ _ h => h) (Or.inl ⟨by rfl, fun w' hS' => ?_⟩) hHeld ?_
        · go_simp
        try simp only [Act.put, List.setIfInBounds_toArray, List.set_cons_zero, List.set_cons_succ]
        refine wpAnyH_ready (rs := [16, 19]) (by kernel_rfl) (by simp) ?_
        refine (AllReadyH.cons (o := ({ dst := some 29, op := Go.Op.load 3 (Go.Operand.tmp 28), type := 3, pos := "law.go:54", after := #[{ on := 15, ground := Go.Ground.data }], guard := none } : Oper)) rfl (fun K hK => ?_) (AllReadyH.cons (o := ({ dst := some 32, op := Go.Op.call { callee := Go.Callee.value (Go.Operand.func 17), args := #[Go.Operand.tmp 31], argTypes := #[3] }, type := 9, pos := "law.go:54", after := #[{ on := 18, ground := Go.Ground.data }], guard := none } : Oper)) rfl (fun K hK => ?_) AllReadyH.nil))
        · have d := (cell_of_row _ _ cc _ _ _ (HM104.out.b _ rfl)).trans HCD.out
          go_simp
          refine hK.out _ _ HM104.out.below (fun hHeld => ?_)
          clear hK K d
          try simp only [Act.put, List.setIfInBounds_toArray, List.set_cons_zero, List.set_cons_succ]
          refine wpAnyH_ready (rs := [19]) (by kernel_rfl) (by simp) ?_
          refine (AllReadyH.cons (o := ({ dst := some 32, op := Go.Op.call { callee := Go.Callee.value (Go.Operand.func 17), args := #[Go.Operand.tmp 31], argTypes := #[3] }, type := 9, pos := "law.go:54", after := #[{ on := 18, ground := Go.Ground.data }], guard := none } : Oper)) rfl (fun K hK => ?_) AllReadyH.nil)
          go_simp
          go_at_call 17
          refine (HN.out _).mono ?_
          rintro e' u105 ⟨rfl, hbb⟩
          have HM106 := Lib.hid (HM104.out.to hbb)
          refine hK.out _ _ HM106.out.below (fun hHeld => ?_)
          clear hK K hbb
          try simp only [Act.put, List.setIfInBounds_toArray, List.set_cons_zero, List.set_cons_succ]
          refine wpAnyH_ready (rs := [21]) (by kernel_rfl) (by simp) ?_
          refine (AllReadyH.cons (o := ({ dst := some 34, op := Go.Op.call { callee := Go.Callee.value (Go.Operand.func 15), args := #[Go.Operand.tmp 33], argTypes := #[25] }, type := 41, pos := "law.go:54", after := #[{ on := 20, ground := Go.Ground.data }, { on := 19, ground := Go.Ground.chain }], guard := none } : Oper)) rfl (fun K hK => ?_) AllReadyH.nil)
          go_simp
          go_at_call 15
          refine (HRc.out _).mono ?_
          rintro e' u107 ⟨rfl, hbb⟩
          have HM108 := Lib.hid (HM106.out.to hbb)
          refine hK.out _ _ HM108.out.below (fun hHeld => ?_)
          clear hK K hbb
          try simp only [Act.put, List.setIfInBounds_toArray, List.set_cons_zero, List.set_cons_succ]
          refine wpAnyH_take (i := 22) (oi := ({ dst := some 35, op := Go.Op.field 41 (Go.Operand.tmp 34) 1, type := 3, pos := "law.go:54", after := #[{ on := 21, ground := Go.Ground.data }], guard := none } : Oper)) (v := .int .i64 ty) rfl (by kernel_rfl) (by kernel_rfl) (by kernel_rfl) (fun _ _ _ h => h) (Or.inl ⟨by rfl, fun w' hS' => ?_⟩) hHeld ?_
          · go_simp
          try simp only [Act.put, List.setIfInBounds_toArray, List.set_cons_zero, List.set_cons_succ]
          refine wpAnyH_take (i := 23) (oi := ({ dst := some 36, op := Go.Op.build 29 #[(0, Go.Operand.tmp 32), (1, Go.Operand.tmp 35)], type := 29, pos := "law.go:54", after := #[{ on := 19, ground := Go.Ground.data }, { on := 22, ground := Go.Ground.data }], guard := none } : Oper)) (v := .agg #[.string S, .int .i64 ty]) rfl (by kernel_rfl) (by kernel_rfl) (by kernel_rfl) (fun _ _ _ h => h) (Or.inl ⟨by rfl, fun w' hS' => ?_⟩) hHeld ?_
          · go_simp
          try simp only [Act.put, List.setIfInBounds_toArray, List.set_cons_zero, List.set_cons_succ]
          refine wpAnyH_take (i := 24) (oi := ({ dst := some 37, op := Go.Op.build 32 #[(0, Go.Operand.tmp 14), (1, Go.Operand.tmp 17), (2, Go.Operand.tmp 20), (3, Go.Operand.tmp 23), (4, Go.Operand.tmp 29), (5, Go.Operand.tmp 36)], type := 32, pos := "law.go:54", after := #[{ on := 1, ground := Go.Ground.data }, { on := 4, ground := Go.Ground.data }, { on := 7, ground := Go.Ground.data }, { on := 10, ground := Go.Ground.data }, { on := 16, ground := Go.Ground.data }, { on := 23, ground := Go.Ground.data }], guard := none } : Oper)) (v := .agg M0) rfl (by kernel_rfl) (by kernel_rfl) (by kernel_rfl) (fun _ _ _ h => h) (Or.inl ⟨by rfl, fun w' hS' => ?_⟩) hHeld ?_
          · go_simp; exact HM00.out
          try simp only [Act.put, List.setIfInBounds_toArray, List.set_cons_zero, List.set_cons_succ]
          refine wpAnyH_ready (rs := [26]) (by kernel_rfl) (by simp) ?_
          refine (AllReadyH.cons (o := ({ dst := none, op := Go.Op.store 32 (Go.Operand.tmp 9) (Go.Operand.tmp 37), type := 0, pos := "law.go:54", after := #[{ on := 25, ground := Go.Ground.data }, { on := 24, ground := Go.Ground.data }, { on := 21, ground := Go.Ground.chain }, { on := 0, ground := Go.Ground.phase }, { on := 1, ground := Go.Ground.phase }, { on := 2, ground := Go.Ground.phase }, { on := 3, ground := Go.Ground.phase }, { on := 4, ground := Go.Ground.phase }, { on := 5, ground := Go.Ground.phase }, { on := 6, ground := Go.Ground.phase }, { on := 7, ground := Go.Ground.phase }, { on := 8, ground := Go.Ground.phase }, { on := 9, ground := Go.Ground.phase }, { on := 10, ground := Go.Ground.phase }, { on := 11, ground := Go.Ground.phase }, { on := 12, ground := Go.Ground.phase }, { on := 13, ground := Go.Ground.phase }, { on := 14, ground := Go.Ground.phase }, { on := 15, ground := Go.Ground.phase }, { on := 16, ground := Go.Ground.phase }, { on := 17, ground := Go.Ground.phase }, { on := 18, ground := Go.Ground.phase }, { on := 19, ground := Go.Ground.phase }, { on := 20, ground := Go.Ground.phase }, { on := 21, ground := Go.Ground.phase }, { on := 22, ground := Go.Ground.phase }, { on := 23, ground := Go.Ground.phase }, { on := 24, ground := Go.Ground.phase }, { on := 25, ground := Go.Ground.phase }], guard := none } : Oper)) rfl (fun K hK => ?_) AllReadyH.nil)
          refine step_store_sr rfl 32 (.tmp 9) (.tmp 37) rfl (V0.heap.size) zMsg M0 32 (HM108.out.a _ rfl).1 rfl rfl SM0.out ZM0.out OM0.out (fun w4 hg4 hw4 hs4 => ?_)
          have hB4 : Below W0.heap.size W0 w4 := HM108.out.below.grown hw4.out HM108.out.below.size (fun k e => by injection e with e; have := (HM108.out.a _ rfl).2; omega)
          refine hK.out _ _ hB4 (fun hHeld => ?_)
          clear hK K
          refine wpAnyH_done (by kernel_rfl) ?_ _
          try (go_wp2_with fail)
          go_meet
          case rel => exact ⟨_, rfl, Lib.hid ⟨(hB4.block _ (heap_lt hZ0)).trans hZ0, hg4.out, hB0.trans (hB4.mono hB0.size), by have := heap_lt hZ0; have := (HM108.out.a _ rfl).2; omega⟩⟩
        · go_simp
          go_at_call 17
          refine (HN.out _).mono ?_
          rintro e' u109 ⟨rfl, hbb⟩
          have HM110 := Lib.hid (HM104.out.to hbb)
          refine hK.out _ _ HM110.out.below (fun hHeld => ?_)
          clear hK K hbb
          try simp only [Act.put, List.setIfInBounds_toArray, List.set_cons_zero, List.set_cons_succ]
          refine wpAnyH_ready (rs := [16, 21]) (by kernel_rfl) (by simp) ?_
          refine (AllReadyH.cons (o := ({ dst := some 29, op := Go.Op.load 3 (Go.Operand.tmp 28), type := 3, pos := "law.go:54", after := #[{ on := 15, ground := Go.Ground.data }], guard := none } : Oper)) rfl (fun K hK => ?_) (AllReadyH.cons (o := ({ dst := some 34, op := Go.Op.call { callee := Go.Callee.value (Go.Operand.func 15), args := #[Go.Operand.tmp 33], argTypes := #[25] }, type := 41, pos := "law.go:54", after := #[{ on := 20, ground := Go.Ground.data }, { on := 19, ground := Go.Ground.chain }], guard := none } : Oper)) rfl (fun K hK => ?_) AllReadyH.nil))
          · have d := (cell_of_row _ _ cc _ _ _ (HM110.out.b _ rfl)).trans HCD.out
            go_simp
            refine hK.out _ _ HM110.out.below (fun hHeld => ?_)
            clear hK K d
            try simp only [Act.put, List.setIfInBounds_toArray, List.set_cons_zero, List.set_cons_succ]
            refine wpAnyH_ready (rs := [21]) (by kernel_rfl) (by simp) ?_
            refine (AllReadyH.cons (o := ({ dst := some 34, op := Go.Op.call { callee := Go.Callee.value (Go.Operand.func 15), args := #[Go.Operand.tmp 33], argTypes := #[25] }, type := 41, pos := "law.go:54", after := #[{ on := 20, ground := Go.Ground.data }, { on := 19, ground := Go.Ground.chain }], guard := none } : Oper)) rfl (fun K hK => ?_) AllReadyH.nil)
            go_simp
            go_at_call 15
            refine (HRc.out _).mono ?_
            rintro e' u111 ⟨rfl, hbb⟩
            have HM112 := Lib.hid (HM110.out.to hbb)
            refine hK.out _ _ HM112.out.below (fun hHeld => ?_)
            clear hK K hbb
            try simp only [Act.put, List.setIfInBounds_toArray, List.set_cons_zero, List.set_cons_succ]
            refine wpAnyH_take (i := 22) (oi := ({ dst := some 35, op := Go.Op.field 41 (Go.Operand.tmp 34) 1, type := 3, pos := "law.go:54", after := #[{ on := 21, ground := Go.Ground.data }], guard := none } : Oper)) (v := .int .i64 ty) rfl (by kernel_rfl) (by kernel_rfl) (by kernel_rfl) (fun _ _ _ h => h) (Or.inl ⟨by rfl, fun w' hS' => ?_⟩) hHeld ?_
            · go_simp
            try simp only [Act.put, List.setIfInBounds_toArray, List.set_cons_zero, List.set_cons_succ]
            refine wpAnyH_take (i := 23) (oi := ({ dst := some 36, op := Go.Op.build 29 #[(0, Go.Operand.tmp 32), (1, Go.Operand.tmp 35)], type := 29, pos := "law.go:54", after := #[{ on := 19, ground := Go.Ground.data }, { on := 22, ground := Go.Ground.data }], guard := none } : Oper)) (v := .agg #[.string S, .int .i64 ty]) rfl (by kernel_rfl) (by kernel_rfl) (by kernel_rfl) (fun _ _ _ h => h) (Or.inl ⟨by rfl, fun w' hS' => ?_⟩) hHeld ?_
            · go_simp
            try simp only [Act.put, List.setIfInBounds_toArray, List.set_cons_zero, List.set_cons_succ]
            refine wpAnyH_take (i := 24) (oi := ({ dst := some 37, op := Go.Op.build 32 #[(0, Go.Operand.tmp 14), (1, Go.Operand.tmp 17), (2, Go.Operand.tmp 20), (3, Go.Operand.tmp 23), (4, Go.Operand.tmp 29), (5, Go.Operand.tmp 36)], type := 32, pos := "law.go:54", after := #[{ on := 1, ground := Go.Ground.data }, { on := 4, ground := Go.Ground.data }, { on := 7, ground := Go.Ground.data }, { on := 10, ground := Go.Ground.data }, { on := 16, ground := Go.Ground.data }, { on := 23, ground := Go.Ground.data }], guard := none } : Oper)) (v := .agg M0) rfl (by kernel_rfl) (by kernel_rfl) (by kernel_rfl) (fun _ _ _ h => h) (Or.inl ⟨by rfl, fun w' hS' => ?_⟩) hHeld ?_
            · go_simp; exact HM00.out
            try simp only [Act.put, List.setIfInBounds_toArray, List.set_cons_zero, List.set_cons_succ]
            refine wpAnyH_ready (rs := [26]) (by kernel_rfl) (by simp) ?_
            refine (AllReadyH.cons (o := ({ dst := none, op := Go.Op.store 32 (Go.Operand.tmp 9) (Go.Operand.tmp 37), type := 0, pos := "law.go:54", after := #[{ on := 25, ground := Go.Ground.data }, { on := 24, ground := Go.Ground.data }, { on := 21, ground := Go.Ground.chain }, { on := 0, ground := Go.Ground.phase }, { on := 1, ground := Go.Ground.phase }, { on := 2, ground := Go.Ground.phase }, { on := 3, ground := Go.Ground.phase }, { on := 4, ground := Go.Ground.phase }, { on := 5, ground := Go.Ground.phase }, { on := 6, ground := Go.Ground.phase }, { on := 7, ground := Go.Ground.phase }, { on := 8, ground := Go.Ground.phase }, { on := 9, ground := Go.Ground.phase }, { on := 10, ground := Go.Ground.phase }, { on := 11, ground := Go.Ground.phase }, { on := 12, ground := Go.Ground.phase }, { on := 13, ground := Go.Ground.phase }, { on := 14, ground := Go.Ground.phase }, { on := 15, ground := Go.Ground.phase }, { on := 16, ground := Go.Ground.phase }, { on := 17, ground := Go.Ground.phase }, { on := 18, ground := Go.Ground.phase }, { on := 19, ground := Go.Ground.phase }, { on := 20, ground := Go.Ground.phase }, { on := 21, ground := Go.Ground.phase }, { on := 22, ground := Go.Ground.phase }, { on := 23, ground := Go.Ground.phase }, { on := 24, ground := Go.Ground.phase }, { on := 25, ground := Go.Ground.phase }], guard := none } : Oper)) rfl (fun K hK => ?_) AllReadyH.nil)
            refine step_store_sr rfl 32 (.tmp 9) (.tmp 37) rfl (V0.heap.size) zMsg M0 32 (HM112.out.a _ rfl).1 rfl rfl SM0.out ZM0.out OM0.out (fun w4 hg4 hw4 hs4 => ?_)
            have hB4 : Below W0.heap.size W0 w4 := HM112.out.below.grown hw4.out HM112.out.below.size (fun k e => by injection e with e; have := (HM112.out.a _ rfl).2; omega)
            refine hK.out _ _ hB4 (fun hHeld => ?_)
            clear hK K
            refine wpAnyH_done (by kernel_rfl) ?_ _
            try (go_wp2_with fail)
            go_meet
            case rel => exact ⟨_, rfl, Lib.hid ⟨(hB4.block _ (heap_lt hZ0)).trans hZ0, hg4.out, hB0.trans (hB4.mono hB0.size), by have := heap_lt hZ0; have := (HM112.out.a _ rfl).2; omega⟩⟩
          · go_simp
            go_at_call 15
            refine (HRc.out _).mono ?_
            rintro e' u113 ⟨rfl, hbb⟩
            have HM114 := Lib.hid (HM110.out.to hbb)
            refine hK.out _ _ HM114.out.below (fun hHeld => ?_)
            clear hK K hbb
            try simp only [Act.put, List.setIfInBounds_toArray, List.set_cons_zero, List.set_cons_succ]
            refine wpAnyH_take (i := 22) (oi := ({ dst := some 35, op := Go.Op.field 41 (Go.Operand.tmp 34) 1, type := 3, pos := "law.go:54", after := #[{ on := 21, ground := Go.Ground.data }], guard := none } : Oper)) (v := .int .i64 ty) rfl (by kernel_rfl) (by kernel_rfl) (by kernel_rfl) (fun _ _ _ h => h) (Or.inl ⟨by rfl, fun w' hS' => ?_⟩) hHeld ?_
            · go_simp
            try simp only [Act.put, List.setIfInBounds_toArray, List.set_cons_zero, List.set_cons_succ]
            refine wpAnyH_take (i := 23) (oi := ({ dst := some 36, op := Go.Op.build 29 #[(0, Go.Operand.tmp 32), (1, Go.Operand.tmp 35)], type := 29, pos := "law.go:54", after := #[{ on := 19, ground := Go.Ground.data }, { on := 22, ground := Go.Ground.data }], guard := none } : Oper)) (v := .agg #[.string S, .int .i64 ty]) rfl (by kernel_rfl) (by kernel_rfl) (by kernel_rfl) (fun _ _ _ h => h) (Or.inl ⟨by rfl, fun w' hS' => ?_⟩) hHeld ?_
            · go_simp
            try simp only [Act.put, List.setIfInBounds_toArray, List.set_cons_zero, List.set_cons_succ]
            refine wpAnyH_ready (rs := [16]) (by kernel_rfl) (by simp) ?_
            refine (AllReadyH.cons (o := ({ dst := some 29, op := Go.Op.load 3 (Go.Operand.tmp 28), type := 3, pos := "law.go:54", after := #[{ on := 15, ground := Go.Ground.data }], guard := none } : Oper)) rfl (fun K hK => ?_) AllReadyH.nil)
            have d := (cell_of_row _ _ cc _ _ _ (HM114.out.b _ rfl)).trans HCD.out
            go_simp
            refine hK.out _ _ HM114.out.below (fun hHeld => ?_)
            clear hK K d
            try simp only [Act.put, List.setIfInBounds_toArray, List.set_cons_zero, List.set_cons_succ]
            refine wpAnyH_take (i := 24) (oi := ({ dst := some 37, op := Go.Op.build 32 #[(0, Go.Operand.tmp 14), (1, Go.Operand.tmp 17), (2, Go.Operand.tmp 20), (3, Go.Operand.tmp 23), (4, Go.Operand.tmp 29), (5, Go.Operand.tmp 36)], type := 32, pos := "law.go:54", after := #[{ on := 1, ground := Go.Ground.data }, { on := 4, ground := Go.Ground.data }, { on := 7, ground := Go.Ground.data }, { on := 10, ground := Go.Ground.data }, { on := 16, ground := Go.Ground.data }, { on := 23, ground := Go.Ground.data }], guard := none } : Oper)) (v := .agg M0) rfl (by kernel_rfl) (by kernel_rfl) (by kernel_rfl) (fun _ _ _ h => h) (Or.inl ⟨by rfl, fun w' hS' => ?_⟩) hHeld ?_
            · go_simp; exact HM00.out
            try simp only [Act.put, List.setIfInBounds_toArray, List.set_cons_zero, List.set_cons_succ]
            refine wpAnyH_ready (rs := [26]) (by kernel_rfl) (by simp) ?_
            refine (AllReadyH.cons (o := ({ dst := none, op := Go.Op.store 32 (Go.Operand.tmp 9) (Go.Operand.tmp 37), type := 0, pos := "law.go:54", after := #[{ on := 25, ground := Go.Ground.data }, { on := 24, ground := Go.Ground.data }, { on := 21, ground := Go.Ground.chain }, { on := 0, ground := Go.Ground.phase }, { on := 1, ground := Go.Ground.phase }, { on := 2, ground := Go.Ground.phase }, { on := 3, ground := Go.Ground.phase }, { on := 4, ground := Go.Ground.phase }, { on := 5, ground := Go.Ground.phase }, { on := 6, ground := Go.Ground.phase }, { on := 7, ground := Go.Ground.phase }, { on := 8, ground := Go.Ground.phase }, { on := 9, ground := Go.Ground.phase }, { on := 10, ground := Go.Ground.phase }, { on := 11, ground := Go.Ground.phase }, { on := 12, ground := Go.Ground.phase }, { on := 13, ground := Go.Ground.phase }, { on := 14, ground := Go.Ground.phase }, { on := 15, ground := Go.Ground.phase }, { on := 16, ground := Go.Ground.phase }, { on := 17, ground := Go.Ground.phase }, { on := 18, ground := Go.Ground.phase }, { on := 19, ground := Go.Ground.phase }, { on := 20, ground := Go.Ground.phase }, { on := 21, ground := Go.Ground.phase }, { on := 22, ground := Go.Ground.phase }, { on := 23, ground := Go.Ground.phase }, { on := 24, ground := Go.Ground.phase }, { on := 25, ground := Go.Ground.phase }], guard := none } : Oper)) rfl (fun K hK => ?_) AllReadyH.nil)
            refine step_store_sr rfl 32 (.tmp 9) (.tmp 37) rfl (V0.heap.size) zMsg M0 32 (HM114.out.a _ rfl).1 rfl rfl SM0.out ZM0.out OM0.out (fun w4 hg4 hw4 hs4 => ?_)
            have hB4 : Below W0.heap.size W0 w4 := HM114.out.below.grown hw4.out HM114.out.below.size (fun k e => by injection e with e; have := (HM114.out.a _ rfl).2; omega)
            refine hK.out _ _ hB4 (fun hHeld => ?_)
            clear hK K
            refine wpAnyH_done (by kernel_rfl) ?_ _
            try (go_wp2_with fail)
            go_meet
            case rel => exact ⟨_, rfl, Lib.hid ⟨(hB4.block _ (heap_lt hZ0)).trans hZ0, hg4.out, hB0.trans (hB4.mono hB0.size), by have := heap_lt hZ0; have := (HM114.out.a _ rfl).2; omega⟩⟩
      · go_simp
        go_at_call 17
        refine (HN.out _).mono ?_
        rintro e' u115 ⟨rfl, hbb⟩
        have HM116 := Lib.hid (HM102.out.to hbb)
        refine hK.out _ _ HM116.out.below (fun hHeld => ?_)
        clear hK K hbb
        try simp only [Act.put, List.setIfInBounds_toArray, List.set_cons_zero, List.set_cons_succ]
        refine wpAnyH_ready (rs := [11, 21]) (by kernel_rfl) (by simp) ?_
        refine (AllReadyH.cons (o := ({ dst := some 24, op := Go.Op.buildSlice 50 4 #[(0, Go.Operand.const (Go.Value.int Go.IntKind.i64 0)), (1, Go.Operand.const (Go.Value.int Go.IntKind.i64 0)), (2, Go.Operand.const (Go.Value.int Go.IntKind.i64 3)), (3, Go.Operand.const (Go.Value.int Go.IntKind.i64 2))], type := 50, pos := "law.go:54", after := #[], guard := none } : Oper)) rfl (fun K hK => ?_) (AllReadyH.cons (o := ({ dst := some 34, op := Go.Op.call { callee := Go.Callee.value (Go.Operand.func 15), args := #[Go.Operand.tmp 33], argTypes := #[25] }, type := 41, pos := "law.go:54", after := #[{ on := 20, ground := Go.Ground.data }, { on := 19, ground := Go.Ground.chain }], guard := none } : Oper)) rfl (fun K hK => ?_) AllReadyH.nil))
        · go_simp
          refine hK.out _ _ (HM116.out.below.alloc HM116.out.below.size _) (fun hHeld => ?_)
          clear hK K
          try simp only [Act.put, List.setIfInBounds_toArray, List.set_cons_zero, List.set_cons_succ]
          have HM118 := Lib.hid (HM116.out.withB)
          generalize u115.alloc (.cells #[.int .i64 0, .int .i64 0, .int .i64 3, .int .i64 2] 3) = u117 at HM118 hHeld ⊢
          refine wpAnyH_take (i := 15) (oi := ({ dst := some 28, op := Go.Op.indexAddr 50 (Go.Operand.tmp 24) (Go.Operand.tmp 27), type := 0, pos := "law.go:54", after := #[{ on := 11, ground := Go.Ground.data }, { on := 14, ground := Go.Ground.data }], guard := none } : Oper)) (v := .pointer (some ⟨u115.heap.size, cc, none⟩)) rfl (by kernel_rfl) (by kernel_rfl) (by kernel_rfl) (fun _ _ _ h => h) (Or.inl ⟨by rfl, fun w' hS' => ?_⟩) hHeld ?_
          · go_simp
          try simp only [Act.put, List.setIfInBounds_toArray, List.set_cons_zero, List.set_cons_succ]
          refine wpAnyH_ready (rs := [16, 21]) (by kernel_rfl) (by simp) ?_
          refine (AllReadyH.cons (o := ({ dst := some 29, op := Go.Op.load 3 (Go.Operand.tmp 28), type := 3, pos := "law.go:54", after := #[{ on := 15, ground := Go.Ground.data }], guard := none } : Oper)) rfl (fun K hK => ?_) (AllReadyH.cons (o := ({ dst := some 34, op := Go.Op.call { callee := Go.Callee.value (Go.Operand.func 15), args := #[Go.Operand.tmp 33], argTypes := #[25] }, type := 41, pos := "law.go:54", after := #[{ on := 20, ground := Go.Ground.data }, { on := 19, ground := Go.Ground.chain }], guard := none } : Oper)) rfl (fun K hK => ?_) AllReadyH.nil))
          · have d := (cell_of_row _ _ cc _ _ _ (HM118.out.b _ rfl)).trans HCD.out
            go_simp
            refine hK.out _ _ HM118.out.below (fun hHeld => ?_)
            clear hK K d
            try simp only [Act.put, List.setIfInBounds_toArray, List.set_cons_zero, List.set_cons_succ]
            refine wpAnyH_ready (rs := [21]) (by kernel_rfl) (by simp) ?_
            refine (AllReadyH.cons (o := ({ dst := some 34, op := Go.Op.call { callee := Go.Callee.value (Go.Operand.func 15), args := #[Go.Operand.tmp 33], argTypes := #[25] }, type := 41, pos := "law.go:54", after := #[{ on := 20, ground := Go.Ground.data }, { on := 19, ground := Go.Ground.chain }], guard := none } : Oper)) rfl (fun K hK => ?_) AllReadyH.nil)
            go_simp
            go_at_call 15
            refine (HRc.out _).mono ?_
            rintro e' u119 ⟨rfl, hbb⟩
            have HM120 := Lib.hid (HM118.out.to hbb)
            refine hK.out _ _ HM120.out.below (fun hHeld => ?_)
            clear hK K hbb
            try simp only [Act.put, List.setIfInBounds_toArray, List.set_cons_zero, List.set_cons_succ]
            refine wpAnyH_take (i := 22) (oi := ({ dst := some 35, op := Go.Op.field 41 (Go.Operand.tmp 34) 1, type := 3, pos := "law.go:54", after := #[{ on := 21, ground := Go.Ground.data }], guard := none } : Oper)) (v := .int .i64 ty) rfl (by kernel_rfl) (by kernel_rfl) (by kernel_rfl) (fun _ _ _ h => h) (Or.inl ⟨by rfl, fun w' hS' => ?_⟩) hHeld ?_
            · go_simp
            try simp only [Act.put, List.setIfInBounds_toArray, List.set_cons_zero, List.set_cons_succ]
            refine wpAnyH_take (i := 23) (oi := ({ dst := some 36, op := Go.Op.build 29 #[(0, Go.Operand.tmp 32), (1, Go.Operand.tmp 35)], type := 29, pos := "law.go:54", after := #[{ on := 19, ground := Go.Ground.data }, { on := 22, ground := Go.Ground.data }], guard := none } : Oper)) (v := .agg #[.string S, .int .i64 ty]) rfl (by kernel_rfl) (by kernel_rfl) (by kernel_rfl) (fun _ _ _ h => h) (Or.inl ⟨by rfl, fun w' hS' => ?_⟩) hHeld ?_
            · go_simp
            try simp only [Act.put, List.setIfInBounds_toArray, List.set_cons_zero, List.set_cons_succ]
            refine wpAnyH_take (i := 24) (oi := ({ dst := some 37, op := Go.Op.build 32 #[(0, Go.Operand.tmp 14), (1, Go.Operand.tmp 17), (2, Go.Operand.tmp 20), (3, Go.Operand.tmp 23), (4, Go.Operand.tmp 29), (5, Go.Operand.tmp 36)], type := 32, pos := "law.go:54", after := #[{ on := 1, ground := Go.Ground.data }, { on := 4, ground := Go.Ground.data }, { on := 7, ground := Go.Ground.data }, { on := 10, ground := Go.Ground.data }, { on := 16, ground := Go.Ground.data }, { on := 23, ground := Go.Ground.data }], guard := none } : Oper)) (v := .agg M0) rfl (by kernel_rfl) (by kernel_rfl) (by kernel_rfl) (fun _ _ _ h => h) (Or.inl ⟨by rfl, fun w' hS' => ?_⟩) hHeld ?_
            · go_simp; exact HM00.out
            try simp only [Act.put, List.setIfInBounds_toArray, List.set_cons_zero, List.set_cons_succ]
            refine wpAnyH_ready (rs := [26]) (by kernel_rfl) (by simp) ?_
            refine (AllReadyH.cons (o := ({ dst := none, op := Go.Op.store 32 (Go.Operand.tmp 9) (Go.Operand.tmp 37), type := 0, pos := "law.go:54", after := #[{ on := 25, ground := Go.Ground.data }, { on := 24, ground := Go.Ground.data }, { on := 21, ground := Go.Ground.chain }, { on := 0, ground := Go.Ground.phase }, { on := 1, ground := Go.Ground.phase }, { on := 2, ground := Go.Ground.phase }, { on := 3, ground := Go.Ground.phase }, { on := 4, ground := Go.Ground.phase }, { on := 5, ground := Go.Ground.phase }, { on := 6, ground := Go.Ground.phase }, { on := 7, ground := Go.Ground.phase }, { on := 8, ground := Go.Ground.phase }, { on := 9, ground := Go.Ground.phase }, { on := 10, ground := Go.Ground.phase }, { on := 11, ground := Go.Ground.phase }, { on := 12, ground := Go.Ground.phase }, { on := 13, ground := Go.Ground.phase }, { on := 14, ground := Go.Ground.phase }, { on := 15, ground := Go.Ground.phase }, { on := 16, ground := Go.Ground.phase }, { on := 17, ground := Go.Ground.phase }, { on := 18, ground := Go.Ground.phase }, { on := 19, ground := Go.Ground.phase }, { on := 20, ground := Go.Ground.phase }, { on := 21, ground := Go.Ground.phase }, { on := 22, ground := Go.Ground.phase }, { on := 23, ground := Go.Ground.phase }, { on := 24, ground := Go.Ground.phase }, { on := 25, ground := Go.Ground.phase }], guard := none } : Oper)) rfl (fun K hK => ?_) AllReadyH.nil)
            refine step_store_sr rfl 32 (.tmp 9) (.tmp 37) rfl (V0.heap.size) zMsg M0 32 (HM120.out.a _ rfl).1 rfl rfl SM0.out ZM0.out OM0.out (fun w4 hg4 hw4 hs4 => ?_)
            have hB4 : Below W0.heap.size W0 w4 := HM120.out.below.grown hw4.out HM120.out.below.size (fun k e => by injection e with e; have := (HM120.out.a _ rfl).2; omega)
            refine hK.out _ _ hB4 (fun hHeld => ?_)
            clear hK K
            refine wpAnyH_done (by kernel_rfl) ?_ _
            try (go_wp2_with fail)
            go_meet
            case rel => exact ⟨_, rfl, Lib.hid ⟨(hB4.block _ (heap_lt hZ0)).trans hZ0, hg4.out, hB0.trans (hB4.mono hB0.size), by have := heap_lt hZ0; have := (HM120.out.a _ rfl).2; omega⟩⟩
          · go_simp
            go_at_call 15
            refine (HRc.out _).mono ?_
            rintro e' u121 ⟨rfl, hbb⟩
            have HM122 := Lib.hid (HM118.out.to hbb)
            refine hK.out _ _ HM122.out.below (fun hHeld => ?_)
            clear hK K hbb
            try simp only [Act.put, List.setIfInBounds_toArray, List.set_cons_zero, List.set_cons_succ]
            refine wpAnyH_take (i := 22) (oi := ({ dst := some 35, op := Go.Op.field 41 (Go.Operand.tmp 34) 1, type := 3, pos := "law.go:54", after := #[{ on := 21, ground := Go.Ground.data }], guard := none } : Oper)) (v := .int .i64 ty) rfl (by kernel_rfl) (by kernel_rfl) (by kernel_rfl) (fun _ _ _ h => h) (Or.inl ⟨by rfl, fun w' hS' => ?_⟩) hHeld ?_
            · go_simp
            try simp only [Act.put, List.setIfInBounds_toArray, List.set_cons_zero, List.set_cons_succ]
            refine wpAnyH_take (i := 23) (oi := ({ dst := some 36, op := Go.Op.build 29 #[(0, Go.Operand.tmp 32), (1, Go.Operand.tmp 35)], type := 29, pos := "law.go:54", after := #[{ on := 19, ground := Go.Ground.data }, { on := 22, ground := Go.Ground.data }], guard := none } : Oper)) (v := .agg #[.string S, .int .i64 ty]) rfl (by kernel_rfl) (by kernel_rfl) (by kernel_rfl) (fun _ _ _ h => h) (Or.inl ⟨by rfl, fun w' hS' => ?_⟩) hHeld ?_
            · go_simp
            try simp only [Act.put, List.setIfInBounds_toArray, List.set_cons_zero, List.set_cons_succ]
            refine wpAnyH_ready (rs := [16]) (by kernel_rfl) (by simp) ?_
            refine (AllReadyH.cons (o := ({ dst := some 29, op := Go.Op.load 3 (Go.Operand.tmp 28), type := 3, pos := "law.go:54", after := #[{ on := 15, ground := Go.Ground.data }], guard := none } : Oper)) rfl (fun K hK => ?_) AllReadyH.nil)
            have d := (cell_of_row _ _ cc _ _ _ (HM122.out.b _ rfl)).trans HCD.out
            go_simp
            refine hK.out _ _ HM122.out.below (fun hHeld => ?_)
            clear hK K d
            try simp only [Act.put, List.setIfInBounds_toArray, List.set_cons_zero, List.set_cons_succ]
            refine wpAnyH_take (i := 24) (oi := ({ dst := some 37, op := Go.Op.build 32 #[(0, Go.Operand.tmp 14), (1, Go.Operand.tmp 17), (2, Go.Operand.tmp 20), (3, Go.Operand.tmp 23), (4, Go.Operand.tmp 29), (5, Go.Operand.tmp 36)], type := 32, pos := "law.go:54", after := #[{ on := 1, ground := Go.Ground.data }, { on := 4, ground := Go.Ground.data }, { on := 7, ground := Go.Ground.data }, { on := 10, ground := Go.Ground.data }, { on := 16, ground := Go.Ground.data }, { on := 23, ground := Go.Ground.data }], guard := none } : Oper)) (v := .agg M0) rfl (by kernel_rfl) (by kernel_rfl) (by kernel_rfl) (fun _ _ _ h => h) (Or.inl ⟨by rfl, fun w' hS' => ?_⟩) hHeld ?_
            · go_simp; exact HM00.out
            try simp only [Act.put, List.setIfInBounds_toArray, List.set_cons_zero, List.set_cons_succ]
            refine wpAnyH_ready (rs := [26]) (by kernel_rfl) (by simp) ?_
            refine (AllReadyH.cons (o := ({ dst := none, op := Go.Op.store 32 (Go.Operand.tmp 9) (Go.Operand.tmp 37), type := 0, pos := "law.go:54", after := #[{ on := 25, ground := Go.Ground.data }, { on := 24, ground := Go.Ground.data }, { on := 21, ground := Go.Ground.chain }, { on := 0, ground := Go.Ground.phase }, { on := 1, ground := Go.Ground.phase }, { on := 2, ground := Go.Ground.phase }, { on := 3, ground := Go.Ground.phase }, { on := 4, ground := Go.Ground.phase }, { on := 5, ground := Go.Ground.phase }, { on := 6, ground := Go.Ground.phase }, { on := 7, ground := Go.Ground.phase }, { on := 8, ground := Go.Ground.phase }, { on := 9, ground := Go.Ground.phase }, { on := 10, ground := Go.Ground.phase }, { on := 11, ground := Go.Ground.phase }, { on := 12, ground := Go.Ground.phase }, { on := 13, ground := Go.Ground.phase }, { on := 14, ground := Go.Ground.phase }, { on := 15, ground := Go.Ground.phase }, { on := 16, ground := Go.Ground.phase }, { on := 17, ground := Go.Ground.phase }, { on := 18, ground := Go.Ground.phase }, { on := 19, ground := Go.Ground.phase }, { on := 20, ground := Go.Ground.phase }, { on := 21, ground := Go.Ground.phase }, { on := 22, ground := Go.Ground.phase }, { on := 23, ground := Go.Ground.phase }, { on := 24, ground := Go.Ground.phase }, { on := 25, ground := Go.Ground.phase }], guard := none } : Oper)) rfl (fun K hK => ?_) AllReadyH.nil)
            refine step_store_sr rfl 32 (.tmp 9) (.tmp 37) rfl (V0.heap.size) zMsg M0 32 (HM122.out.a _ rfl).1 rfl rfl SM0.out ZM0.out OM0.out (fun w4 hg4 hw4 hs4 => ?_)
            have hB4 : Below W0.heap.size W0 w4 := HM122.out.below.grown hw4.out HM122.out.below.size (fun k e => by injection e with e; have := (HM122.out.a _ rfl).2; omega)
            refine hK.out _ _ hB4 (fun hHeld => ?_)
            clear hK K
            refine wpAnyH_done (by kernel_rfl) ?_ _
            try (go_wp2_with fail)
            go_meet
            case rel => exact ⟨_, rfl, Lib.hid ⟨(hB4.block _ (heap_lt hZ0)).trans hZ0, hg4.out, hB0.trans (hB4.mono hB0.size), by have := heap_lt hZ0; have := (HM122.out.a _ rfl).2; omega⟩⟩
        · go_simp
          go_at_call 15
          refine (HRc.out _).mono ?_
          rintro e' u123 ⟨rfl, hbb⟩
          have HM124 := Lib.hid (HM116.out.to hbb)
          refine hK.out _ _ HM124.out.below (fun hHeld => ?_)
          clear hK K hbb
          try simp only [Act.put, List.setIfInBounds_toArray, List.set_cons_zero, List.set_cons_succ]
          refine wpAnyH_take (i := 22) (oi := ({ dst := some 35, op := Go.Op.field 41 (Go.Operand.tmp 34) 1, type := 3, pos := "law.go:54", after := #[{ on := 21, ground := Go.Ground.data }], guard := none } : Oper)) (v := .int .i64 ty) rfl (by kernel_rfl) (by kernel_rfl) (by kernel_rfl) (fun _ _ _ h => h) (Or.inl ⟨by rfl, fun w' hS' => ?_⟩) hHeld ?_
          · go_simp
          try simp only [Act.put, List.setIfInBounds_toArray, List.set_cons_zero, List.set_cons_succ]
          refine wpAnyH_take (i := 23) (oi := ({ dst := some 36, op := Go.Op.build 29 #[(0, Go.Operand.tmp 32), (1, Go.Operand.tmp 35)], type := 29, pos := "law.go:54", after := #[{ on := 19, ground := Go.Ground.data }, { on := 22, ground := Go.Ground.data }], guard := none } : Oper)) (v := .agg #[.string S, .int .i64 ty]) rfl (by kernel_rfl) (by kernel_rfl) (by kernel_rfl) (fun _ _ _ h => h) (Or.inl ⟨by rfl, fun w' hS' => ?_⟩) hHeld ?_
          · go_simp
          try simp only [Act.put, List.setIfInBounds_toArray, List.set_cons_zero, List.set_cons_succ]
          refine wpAnyH_ready (rs := [11]) (by kernel_rfl) (by simp) ?_
          refine (AllReadyH.cons (o := ({ dst := some 24, op := Go.Op.buildSlice 50 4 #[(0, Go.Operand.const (Go.Value.int Go.IntKind.i64 0)), (1, Go.Operand.const (Go.Value.int Go.IntKind.i64 0)), (2, Go.Operand.const (Go.Value.int Go.IntKind.i64 3)), (3, Go.Operand.const (Go.Value.int Go.IntKind.i64 2))], type := 50, pos := "law.go:54", after := #[], guard := none } : Oper)) rfl (fun K hK => ?_) AllReadyH.nil)
          go_simp
          refine hK.out _ _ (HM124.out.below.alloc HM124.out.below.size _) (fun hHeld => ?_)
          clear hK K
          try simp only [Act.put, List.setIfInBounds_toArray, List.set_cons_zero, List.set_cons_succ]
          have HM126 := Lib.hid (HM124.out.withB)
          generalize u123.alloc (.cells #[.int .i64 0, .int .i64 0, .int .i64 3, .int .i64 2] 3) = u125 at HM126 hHeld ⊢
          refine wpAnyH_take (i := 15) (oi := ({ dst := some 28, op := Go.Op.indexAddr 50 (Go.Operand.tmp 24) (Go.Operand.tmp 27), type := 0, pos := "law.go:54", after := #[{ on := 11, ground := Go.Ground.data }, { on := 14, ground := Go.Ground.data }], guard := none } : Oper)) (v := .pointer (some ⟨u123.heap.size, cc, none⟩)) rfl (by kernel_rfl) (by kernel_rfl) (by kernel_rfl) (fun _ _ _ h => h) (Or.inl ⟨by rfl, fun w' hS' => ?_⟩) hHeld ?_
          · go_simp
          try simp only [Act.put, List.setIfInBounds_toArray, List.set_cons_zero, List.set_cons_succ]
          refine wpAnyH_ready (rs := [16]) (by kernel_rfl) (by simp) ?_
          refine (AllReadyH.cons (o := ({ dst := some 29, op := Go.Op.load 3 (Go.Operand.tmp 28), type := 3, pos := "law.go:54", after := #[{ on := 15, ground := Go.Ground.data }], guard := none } : Oper)) rfl (fun K hK => ?_) AllReadyH.nil)
          have d := (cell_of_row _ _ cc _ _ _ (HM126.out.b _ rfl)).trans HCD.out
          go_simp
          refine hK.out _ _ HM126.out.below (fun hHeld => ?_)
          clear hK K d
          try simp only [Act.put, List.setIfInBounds_toArray, List.set_cons_zero, List.set_cons_succ]
          refine wpAnyH_take (i := 24) (oi := ({ dst := some 37, op := Go.Op.build 32 #[(0, Go.Operand.tmp 14), (1, Go.Operand.tmp 17), (2, Go.Operand.tmp 20), (3, Go.Operand.tmp 23), (4, Go.Operand.tmp 29), (5, Go.Operand.tmp 36)], type := 32, pos := "law.go:54", after := #[{ on := 1, ground := Go.Ground.data }, { on := 4, ground := Go.Ground.data }, { on := 7, ground := Go.Ground.data }, { on := 10, ground := Go.Ground.data }, { on := 16, ground := Go.Ground.data }, { on := 23, ground := Go.Ground.data }], guard := none } : Oper)) (v := .agg M0) rfl (by kernel_rfl) (by kernel_rfl) (by kernel_rfl) (fun _ _ _ h => h) (Or.inl ⟨by rfl, fun w' hS' => ?_⟩) hHeld ?_
          · go_simp; exact HM00.out
          try simp only [Act.put, List.setIfInBounds_toArray, List.set_cons_zero, List.set_cons_succ]
          refine wpAnyH_ready (rs := [26]) (by kernel_rfl) (by simp) ?_
          refine (AllReadyH.cons (o := ({ dst := none, op := Go.Op.store 32 (Go.Operand.tmp 9) (Go.Operand.tmp 37), type := 0, pos := "law.go:54", after := #[{ on := 25, ground := Go.Ground.data }, { on := 24, ground := Go.Ground.data }, { on := 21, ground := Go.Ground.chain }, { on := 0, ground := Go.Ground.phase }, { on := 1, ground := Go.Ground.phase }, { on := 2, ground := Go.Ground.phase }, { on := 3, ground := Go.Ground.phase }, { on := 4, ground := Go.Ground.phase }, { on := 5, ground := Go.Ground.phase }, { on := 6, ground := Go.Ground.phase }, { on := 7, ground := Go.Ground.phase }, { on := 8, ground := Go.Ground.phase }, { on := 9, ground := Go.Ground.phase }, { on := 10, ground := Go.Ground.phase }, { on := 11, ground := Go.Ground.phase }, { on := 12, ground := Go.Ground.phase }, { on := 13, ground := Go.Ground.phase }, { on := 14, ground := Go.Ground.phase }, { on := 15, ground := Go.Ground.phase }, { on := 16, ground := Go.Ground.phase }, { on := 17, ground := Go.Ground.phase }, { on := 18, ground := Go.Ground.phase }, { on := 19, ground := Go.Ground.phase }, { on := 20, ground := Go.Ground.phase }, { on := 21, ground := Go.Ground.phase }, { on := 22, ground := Go.Ground.phase }, { on := 23, ground := Go.Ground.phase }, { on := 24, ground := Go.Ground.phase }, { on := 25, ground := Go.Ground.phase }], guard := none } : Oper)) rfl (fun K hK => ?_) AllReadyH.nil)
          refine step_store_sr rfl 32 (.tmp 9) (.tmp 37) rfl (V0.heap.size) zMsg M0 32 (HM126.out.a _ rfl).1 rfl rfl SM0.out ZM0.out OM0.out (fun w4 hg4 hw4 hs4 => ?_)
          have hB4 : Below W0.heap.size W0 w4 := HM126.out.below.grown hw4.out HM126.out.below.size (fun k e => by injection e with e; have := (HM126.out.a _ rfl).2; omega)
          refine hK.out _ _ hB4 (fun hHeld => ?_)
          clear hK K
          refine wpAnyH_done (by kernel_rfl) ?_ _
          try (go_wp2_with fail)
          go_meet
          case rel => exact ⟨_, rfl, Lib.hid ⟨(hB4.block _ (heap_lt hZ0)).trans hZ0, hg4.out, hB0.trans (hB4.mono hB0.size), by have := heap_lt hZ0; have := (HM126.out.a _ rfl).2; omega⟩⟩
  case rest =>
    obtain ⟨g, rfl, HS⟩ := hcut
    clear HN HRc hfd hD h1 h2 h4 hc hrp htr hrc HCD c0 SSl SM0 ZM0 OM0 hcI
    have hC7 : ∀ v u v1 : Value, (mgC (D : Nat) rp tr rc code S ty v u).setIfInBounds 7 v1 = mgC (D : Nat) rp tr rc code S ty v1 u := fun _ _ _ => rfl
    have hC8 : ∀ v u v1 : Value, (mgC (D : Nat) rp tr rc code S ty v u).setIfInBounds 8 v1 = mgC (D : Nat) rp tr rc code S ty v v1 := fun _ _ _ => rfl
    have hCM : ∀ (A : Option Addr) (c : Nat) (U : Option Addr) (k : Nat) (an au : List RV), mgC (D : Nat) rp tr rc code S ty (.slice A an.length c) (.slice U au.length k) = MV.cells ⟨(D : Nat), rp, tr, rc, code, S, ty, A, c, an, U, k, au⟩ := fun _ _ _ _ _ _ => rfl
    have hCz : ∀ v u : Value, (mgC (D : Nat) rp tr rc code S ty v u).size = 9 := fun _ _ => rfl
    have hCo : ∀ (A : Option Addr) (n c : Nat) (U : Option Addr) (m k : Nat), (mgC (D : Nat) rp tr rc code S ty (.slice A n c) (.slice U m k)).all (·.oneCell') = true := fun _ _ _ _ _ _ => by simp [mgC, Value.oneCell']
    have hC77 : ∀ v u : Value, (mgC (D : Nat) rp tr rc code S ty v u)[7]? = some v := fun _ _ => rfl
    have hC88 : ∀ v u : Value, (mgC (D : Nat) rp tr rc code S ty v u)[8]? = some u := fun _ _ => rfl
    have hM0 : M0 = mgC (D : Nat) rp tr rc code S ty (.slice none 0 0) (.slice none 0 0) := HM00.out.symm
    rw [hM0] at HS
    clear HM00 hM0
    generalize mgC (D : Nat) rp tr rc code S ty = C at HS hC7 hC8 hCM hCz hCo hC77 hC88
    have H7 := Lib.hid hC7
    have H8 := Lib.hid hC8
    have HCM := Lib.hid hCM
    have HCz := Lib.hid hCz
    have HCo := Lib.hid hCo
    have H77 := Lib.hid hC77
    have H88 := Lib.hid hC88
    clear hC7 hC8 hCM hCz hCo hC77 hC88
    have hgl := heap_lt HS.out.m
    have HL0 : Hid (MgL wc.heap.size w wc g C (anL (l.take 0)) (auL (l.take 0)) (.slice none 0 0) (.slice none 0 0)) := Lib.hid ⟨HS.out.z, HS.out.m, World.ownsRow_nil _ _ _ _, World.ownsRow_nil _ _ _ _, fun _ => rfl, fun _ => rfl, HS.out.below, hgl, HS.out.hg, Nat.le_refl _⟩
    have HBase : Hid (w.heap.size ≤ wc.heap.size) := Lib.hid HS.out.below.size
    clear HS hgl
    revert HL0 HBase
    generalize wc = Wc
    generalize Wc.heap.size = base
    intro HL0 HBase
    obtain ⟨i0, hi, hz0, hz1, hz2⟩ := info_rec
    have HI := Lib.hid hi
    have HZ0 := Lib.hid hz0
    have HZ1 := Lib.hid hz1
    have HZ2 := Lib.hid hz2
    clear hi hz0 hz1 hz2
    have ZS := Lib.hid zeroSeed
    have ZR := Lib.hid zeroRv
    have HAm : Hid (∀ k, ∀ r ∈ anL (l.take k), r.ad.length = 16 ∧ r.ty ≠ 6) := Lib.hid (fun k r hr => by have := anL_mem (fun x hx => HL.out x (List.mem_of_mem_take hx)) hr; exact ⟨this.1.fits.ad, this.2⟩)
    have HUm : Hid (∀ k, ∀ r ∈ auL (l.take k), r.ad.length = 16 ∧ r.ty = 6) := Lib.hid (fun k r hr => by have := auL_mem (fun x hx => HL.out x (List.mem_of_mem_take hx)) hr; exact ⟨this.1.fits.ad, this.2⟩)
    have HAl : Hid (∀ k, (anL (l.take k)).length ≤ k) := Lib.hid (fun k => Nat.le_trans (anL_len _) (by rw [List.length_take]; omega))
    have HUl : Hid (∀ k, (auL (l.take k)).length ≤ k) := Lib.hid (fun k => Nat.le_trans (auL_len _) (by rw [List.length_take]; omega))
    have hlI : (l.length : Int) ≤ 100000 := by have := HlI.out; omega
    go_wp2_with fail
    go_loopw [40] (fun i wr => ∃ (k : Nat) (v u : Value), k ≤ l.length ∧ k ≤ 32 ∧ i = .int .i64 k ∧ Hid (MgL base w wr g C (anL (l.take k)) (auL (l.take k)) v u)) (fun i _ => l.length - (intOf i).toNat)
    case atStart => exact ⟨0, _, _, by omega, by omega, rfl, HL0⟩
    case round =>
      obtain ⟨k, v, u, hk, hk32, rfl, HP⟩ := hrel
      have hov := HP.out.ov
      have hou := HP.out.ou
      obtain ⟨Av, cv, rfl⟩ := own_sl4 hov
      obtain ⟨Au, cu, rfl⟩ := own_sl4 hou
      clear hov hou
      have HFin : Hid (∀ (wf : World), wr.grownBy wf (some (w.heap.size + 1)) → anL (l.take k) = anL (l.take 32) → auL (l.take k) = auL (l.take 32) → Below w.heap.size w wf ∧ ∃ m : MV, m.nrm = mgM id0 fl s l ∧ m.Lies wf ∧ C (.slice Av (anL (l.take k)).length cv) (.slice Au (auL (l.take k)).length cu) = m.cells) := Lib.hid (fun wf hg ha hu => by
        have p1 := HP.out.hg
        have p2 := HP.out.hw
        refine ⟨HP.out.below.grown hg HP.out.below.size (fun j e => by injection e with e; omega), _, HMG.out Av cv Au cu, ?_, by rw [HCM.out, ha, hu]⟩
        refine ⟨?_, ?_⟩
        · rw [← ha]
          exact own_recs (HP.out.ov.kept hg (.inr (fun e => by have := (HP.out.ov.lt _ e).1; omega))) (fun r hr => (HAm.out k r hr).1)
        · rw [← hu]
          exact own_recs (HP.out.ou.kept hg (.inr (fun e => by have := (HP.out.ou.lt _ e).1; omega))) (fun r hr => (HUm.out k r hr).1))
      have HGm := Lib.hid HP.out.ms
      have HZm := Lib.hid HP.out.z
      have SMf : Hid ((Try.prog.info? 32).map (·.size) = some (C (.slice Av (anL (l.take k)).length cv) (.slice Au (auL (l.take k)).length cu)).size) := Lib.hid (by rw [HCz.out]; exact sizeM_9)
      have ZMf : Hid (zMsg.size = (C (.slice Av (anL (l.take k)).length cv) (.slice Au (auL (l.take k)).length cu)).size) := Lib.hid (by rw [HCz.out]; rfl)
      have OMf := Lib.hid (HCo.out Av (anL (l.take k)).length cv Au (auL (l.take k)).length cu)
      by_cases hkT : k < l.length
      · have hkI : (k : Int) < (l.length : Int) := by omega
        obtain ⟨x, hx⟩ : ∃ x, l[k]? = some x := ⟨_, List.getElem?_eq_getElem hkT⟩
        have hxf := HL.out x (List.mem_of_getElem? hx)
        obtain ⟨b, o, rfl, hbl, hcs⟩ := (HSe.out.below HP.out.below) (by omega)
        have HXc := Lib.hid (hcs k x hx)
        have SXs : Hid ((Try.prog.info? 25).map (·.size) = some x.cells.size) := Lib.hid (by rw [SV.size hxf.ad]; exact sizeSeed)
        have ZXs : Hid (zeroS.cells.size = x.cells.size) := Lib.hid (by rw [SV.size hxf.ad]; exact SV.size rfl)
        have OXs := Lib.hid (SV.one x)
        have HRx := Lib.hid (fun W => HSd.out x hxf W)
        have HP1 := Lib.hid (HP.out.to ((Below.refl _ wr).alloc (Nat.le_refl _) (.cells x.cells 25)))
        have HG1 := Lib.hid (heap_alloc_last wr (.cells x.cells 25))
        have HTk : Hid (l.take (k + 1) = l.take k ++ [x]) := Lib.hid (by rw [List.take_add_one, hx]; rfl)
        have SRo := seedR_ok hxf
        obtain ⟨rl, hrl⟩ : ∃ rl : List Value, (seedR x).cells = rl.toArray := ⟨(seedR x).cells.toList, rfl⟩
        have hrl2 : (seedR x).cells.toList = rl := by rw [hrl]
        have SRr : Hid ((Try.prog.info? 41).map (·.size) = some rl.toArray.size) := Lib.hid (by rw [← hrl, RV.size SRo.fits.ad]; exact sizeRec)
        have ZRr : Hid ((RV.cells ⟨emp, 0, 0, zero16, emp, emp⟩).size = rl.toArray.size) := Lib.hid (by rw [← hrl, RV.size SRo.fits.ad]; exact RV.size rfl)
        have ORr : Hid (rl.toArray.all (·.oneCell') = true) := Lib.hid (by rw [← hrl]; exact RV.one (seedR x))
        have HCL : Hid (rl.length = 21) := Lib.hid (by rw [← hrl2, Array.length_toList]; exact RV.size SRo.fits.ad)
        have HC1 : Hid (∀ y ∈ rl, y.oneCell' = true) := Lib.hid (fun y hy => by
          have h := RV.one (seedR x)
          rw [Array.all_eq_true'] at h
          exact h y (by rw [hrl]; simpa using hy))
        have Rty : Hid (rl.toArray[1]? = some (.int .i64 (seedR x).ty)) := Lib.hid (by rw [← hrl]; exact (seedR x).c1)
        have HRL := Lib.hid hrl2
        rw [hrl] at HRx
        clear hcs hx hxf hbl SRo hrl hrl2
        generalize hxc : x.cells = xc at HXc SXs ZXs OXs HRx HP1 HG1
        clear hxc
        generalize zeroS.cells = zs at ZS ZXs
        by_cases h32 : (32 : Int) ≤ (k : Int)
        · have hk2 : k = 32 := by omega
          have HE32 : Hid (anL (l.take k) = anL (l.take 32) ∧ auL (l.take k) = auL (l.take 32)) := Lib.hid (by rw [hk2]; exact ⟨rfl, rfl⟩)
          have HG9 := Lib.hid HP1.out.ms
          have HZ9 := Lib.hid HP1.out.z
          have HB9 : Hid (wr.grownBy (wr.alloc (.cells xc 25)) (some (w.heap.size + 1))) := Lib.hid (grown_below ((Below.refl _ wr).alloc (Nat.le_refl _) _))
          clear hk2
          go_wp2_with (first
            | (refine wpList_load_agg rfl 25 (.tmp 43) rfl ⟨b, o + k * 20, none⟩ rfl xc _ HXc.out Try.underlying25 rfl SXs.out ?_; go_simp)
            | (refine wpList_alloc_z rfl 25 rfl zs ZS.out ?_; go_simp)
            | (refine wpList_store_new rfl 25 (.tmp 11) (.tmp 44) rfl wr.heap.size rfl zs xc 25 rfl rfl SXs.out ZXs.out OXs.out ?_; go_simp)
            | (refine wpList_load_row rfl 32 (.tmp 9) rfl g rfl 32 (C (.slice Av (anL (l.take k)).length cv) (.slice Au (auL (l.take k)).length cu)) (0, 0) _ HG9.out Try.underlying32 rfl SMf.out ?_; go_simp)
            | (refine wpList_store_blk rfl 32 (.tmp 8) (.tmp 65) rfl (w.heap.size + 1) zMsg (C (.slice Av (anL (l.take k)).length cv) (.slice Au (auL (l.take k)).length cu)) 32 HZ9.out rfl rfl SMf.out ZMf.out OMf.out ?_; intro w9 hg9 hw9 hz9; go_simp))
          obtain ⟨hbf, m, hm1, hm2, hm3⟩ := HFin.out w9 (grown_trans HB9.out hw9.out) HE32.out.1 HE32.out.2
          exact bodyPost_ret (results_cell_row rfl _ w9 (w.heap.size + 1) 32 (C (.slice Av (anL (l.take k)).length cv) (.slice Au (auL (l.take k)).length cu)) (0, 0) _ rfl hg9.out Try.underlying32 rfl SMf.out) rfl ⟨hbf, m, hm1, hm2, by rw [hm3]⟩
        · have hk31 : k + 1 ≤ 32 := by omega
          clear HFin HGm HZm SMf ZMf OMf
          go_wp2_with (first
            | (refine wpList_load_agg rfl 25 (.tmp 43) rfl ⟨b, o + k * 20, none⟩ rfl xc _ HXc.out Try.underlying25 rfl SXs.out ?_; go_simp)
            | (refine wpList_alloc_z rfl 25 rfl zs ZS.out ?_; go_simp)
            | (refine wpList_store_new rfl 25 (.tmp 11) (.tmp 44) rfl wr.heap.size rfl zs xc 25 rfl rfl SXs.out ZXs.out OXs.out ?_; go_simp)
            | (refine wpList_load_row rfl 25 (.tmp 11) rfl wr.heap.size rfl 25 xc (0, 0) _ HG1.out Try.underlying25 rfl SXs.out ?_; go_simp))
          refine (HRx.out _).mono ?_
          rintro e w3 ⟨rfl, hb3⟩
          have HP3 := Lib.hid (HP1.out.to hb3)
          have HP4 := Lib.hid (HP3.out.to ((Below.refl _ w3).alloc (Nat.le_refl _) (.cells rl.toArray 41)))
          have HG4 := Lib.hid (heap_alloc_last w3 (.cells rl.toArray 41))
          clear hb3 HP3 HP1 HG1 HXc HRx HP
          have dty : (w3.alloc (.cells rl.toArray 41)).cell? ⟨w3.heap.size, 1, none⟩ = some (.int .i64 (seedR x).ty) := (cell_of_row _ _ 1 _ _ _ HG4.out).trans Rty.out
          have d7 := (cell_of_row _ g 7 _ _ _ HP4.out.ms).trans (H77.out _ _)
          have d8 := (cell_of_row _ g 8 _ _ _ HP4.out.ms).trans (H88.out _ _)
          have HP5 := Lib.hid (HP4.out.to ((Below.refl _ (w3.alloc (.cells rl.toArray 41))).alloc (Nat.le_refl _) (.cells rl.toArray 41)))
          have HRw : Hid (∀ j y, rl[j]? = some y → ((w3.alloc (.cells rl.toArray 41)).alloc (.cells rl.toArray 41)).cell? ⟨w3.heap.size + 1, j, none⟩ = some y) := Lib.hid (fun j y hj => by
            have h := heap_alloc_last (w3.alloc (.cells rl.toArray 41)) (.cells rl.toArray 41)
            rw [World.size_alloc] at h
            exact (cell_of_row _ _ j _ _ _ h).trans (by rw [List.getElem?_toArray]; exact hj))
          have hal := HAl.out k
          have hul := HUl.out k
          have HNaS : Hid (∀ v1 w1, soaB (seedR x) = true → w1.ownsRow base 41 21 v1 ((auL (l.take k)).length + 1) (rcs (auL (l.take k)) ++ rl) → ((w3.alloc (.cells rl.toArray 41)).alloc (.cells rl.toArray 41)).grownBy w1 (Value.slice Au (auL (l.take k)).length cu).ownBlock →
              w1.heap[g]? = some (.cells (C (.slice Av (anL (l.take k)).length cv) (.slice Au (auL (l.take k)).length cu)) 32 (0, 0)) ∧ MgL base w (w1.setCell ⟨g, 8, none⟩ v1) g C (anL (l.take (k + 1))) (auL (l.take (k + 1))) (.slice Av (anL (l.take k)).length cv) v1) := Lib.hid (fun v1 w1 hsb h1 h2 => by
            rw [HTk.out, anL_snoc, auL_snoc, if_pos hsb, if_pos hsb]
            rw [← HRL.out] at h1
            exact HP5.out.appU (fun r hr => (HAm.out k r hr).2) (fun r hr => (HUm.out k r hr).2) H8.out h1 h2)
          have HNaA : Hid (∀ v1 w1, ¬ soaB (seedR x) = true → w1.ownsRow base 41 21 v1 ((anL (l.take k)).length + 1) (rcs (anL (l.take k)) ++ rl) → ((w3.alloc (.cells rl.toArray 41)).alloc (.cells rl.toArray 41)).grownBy w1 (Value.slice Av (anL (l.take k)).length cv).ownBlock →
              w1.heap[g]? = some (.cells (C (.slice Av (anL (l.take k)).length cv) (.slice Au (auL (l.take k)).length cu)) 32 (0, 0)) ∧ MgL base w (w1.setCell ⟨g, 7, none⟩ v1) g C (anL (l.take (k + 1))) (auL (l.take (k + 1))) v1 (.slice Au (auL (l.take k)).length cu)) := Lib.hid (fun v1 w1 hsb h1 h2 => by
            rw [HTk.out, anL_snoc, auL_snoc, if_neg hsb, if_neg hsb]
            rw [← HRL.out] at h1
            exact HP5.out.appA (fun r hr => (HAm.out k r hr).2) (fun r hr => (HUm.out k r hr).2) H7.out h1 h2)
          have HSB : Hid (soaB (seedR x) = ((seedR x).ty == 6)) := Lib.hid rfl
          have HZr := Lib.hid HP4.out.hb
          have HovA := Lib.hid HP5.out.ov
          have HovU := Lib.hid HP5.out.ou
          have HMsz := Lib.hid (fun (v u : Value) => H77.out v u)
          generalize soaB (seedR x) = sb at HNaS HNaA HSB
          generalize (seedR x).ty = rty at dty HSB
          generalize rcs (anL (l.take k)) = ra at HNaA HovA
          generalize rcs (auL (l.take k)) = ru at HNaS HovU
          generalize (anL (l.take k)).length = na at *
          generalize (auL (l.take k)).length = nu at *
          have hna : (na : Int) ≤ 32 := by omega
          have hnu : (nu : Int) ≤ 32 := by omega
          have HB5 := Lib.hid HP5.out.hb
          clear HP4 HP5 Rty HRL HTk
          by_cases hs : rty = 6
          · have hsb : sb = true := by rw [HSB.out, hs]; rfl
            have HAp := Lib.hid (fun v1 w1 => HNaS.out v1 w1 hsb)
            clear hsb HNaS HNaA HSB HovA
            go_wp2_with (first
              | (refine wpList_alloc_z rfl 41 rfl _ ZR.out ?_; go_simp)
              | (refine wpList_store_new rfl 41 (.tmp 12) (.tmp 48) rfl w3.heap.size rfl _ rl.toArray 41 rfl rfl SRr.out ZRr.out ORr.out ?_; go_simp)
              | (refine wpList_load_row rfl 41 (.tmp 12) rfl w3.heap.size rfl 41 rl.toArray (0, 0) _ HG4.out Try.underlying41 rfl SRr.out ?_; go_simp)
              | (refine wpList_buildSlice rfl 30 41 1 #[(0, .tmp 54)] rfl rl.toArray i0 _ Try.underlying30 HI.out HZ0.out (by rw [HZ1.out]; decide) (by rw [HZ1.out]; decide) (by rw [HZ1.out]; refine (congrArg _ (?_ : _ = [(0, Value.agg rl.toArray)])).trans (fill21m HCL.out); rw [Array.toList_map]; rfl) ?_; go_simp)
              | (at_builtin; refine wpList_append_own (w := (w3.alloc (.cells rl.toArray 41)).alloc (.cells rl.toArray 41)) rfl (.tmp 53) (.tmp 55) 30 rfl base 41 i0 _ 21 80 Try.underlying30 HI.out HZ0.out HZ1.out HZ2.out rfl (by decide) (.slice Au nu cu) nu ru rfl HovU.out ⟨w3.heap.size + 1, 0, none⟩ 1 1 rl rfl (by rw [HCL.out]) (fun j u hj => by rw [Addr.add_lit, Nat.zero_add]; exact HRw.out j u hj) HC1.out (by unfold maxLen; omega) (by omega) HB5.out ?_; intro v1 w9 ho1 hg1 hnil; clear hnil; obtain ⟨A1, ca1, rfl⟩ := own_sl4 ho1; have hap := HAp.out _ w9 ho1 hg1; have d9 := (cell_of_row w9 g 8 _ _ _ hap.1).trans (H88.out _ _); have f9 := frozen_of_row w9 g 8 _ _ hap.1; have HNX := Lib.hid hap.2; clear ho1 hg1 hap; go_simp))
            go_roundw
            case rel => exact ⟨k + 1, _, _, by omega, by omega, by first | rfl | go_num, HNX⟩
            case measure => simp [intOf]; omega
          · have hsb : ¬ sb = true := by rw [HSB.out]; simp [hs]
            have HAp := Lib.hid (fun v1 w1 => HNaA.out v1 w1 hsb)
            clear hsb HNaS HNaA HSB HovU
            go_wp2_with (first
              | (refine wpList_alloc_z rfl 41 rfl _ ZR.out ?_; go_simp)
              | (refine wpList_store_new rfl 41 (.tmp 12) (.tmp 48) rfl w3.heap.size rfl _ rl.toArray 41 rfl rfl SRr.out ZRr.out ORr.out ?_; go_simp)
              | (refine wpList_load_row rfl 41 (.tmp 12) rfl w3.heap.size rfl 41 rl.toArray (0, 0) _ HG4.out Try.underlying41 rfl SRr.out ?_; go_simp)
              | (refine wpList_buildSlice rfl 30 41 1 #[(0, .tmp 60)] rfl rl.toArray i0 _ Try.underlying30 HI.out HZ0.out (by rw [HZ1.out]; decide) (by rw [HZ1.out]; decide) (by rw [HZ1.out]; refine (congrArg _ (?_ : _ = [(0, Value.agg rl.toArray)])).trans (fill21m HCL.out); rw [Array.toList_map]; rfl) ?_; go_simp)
              | (at_builtin; refine wpList_append_own (w := (w3.alloc (.cells rl.toArray 41)).alloc (.cells rl.toArray 41)) rfl (.tmp 59) (.tmp 61) 30 rfl base 41 i0 _ 21 80 Try.underlying30 HI.out HZ0.out HZ1.out HZ2.out rfl (by decide) (.slice Av na cv) na ra rfl HovA.out ⟨w3.heap.size + 1, 0, none⟩ 1 1 rl rfl (by rw [HCL.out]) (fun j u hj => by rw [Addr.add_lit, Nat.zero_add]; exact HRw.out j u hj) HC1.out (by unfold maxLen; omega) (by omega) HB5.out ?_; intro v1 w9 ho1 hg1 hnil; clear hnil; obtain ⟨A1, ca1, rfl⟩ := own_sl4 ho1; have hap := HAp.out _ w9 ho1 hg1; have d9 := (cell_of_row w9 g 7 _ _ _ hap.1).trans (H77.out _ _); have f9 := frozen_of_row w9 g 7 _ _ hap.1; have HNX := Lib.hid hap.2; clear ho1 hg1 hap; go_simp))
            go_roundw
            case rel => exact ⟨k + 1, _, _, by omega, by omega, by first | rfl | go_num, HNX⟩
            case measure => simp [intOf]; omega
      · have hk2 : k = l.length := by omega
        have HE32 : Hid (anL (l.take k) = anL (l.take 32) ∧ auL (l.take k) = auL (l.take 32)) := Lib.hid (by
          have e : l.take k = l.take 32 := by rw [List.take_of_length_le (by omega), List.take_of_length_le (by omega)]
          rw [e]; exact ⟨rfl, rfl⟩)
        have hkI : ¬ (k : Int) < (l.length : Int) := by omega
        clear hk2
        go_wp2_with (first
          | (refine wpList_load_row rfl 32 (.tmp 9) rfl g rfl 32 (C (.slice Av (anL (l.take k)).length cv) (.slice Au (auL (l.take k)).length cu)) (0, 0) _ HGm.out Try.underlying32 rfl SMf.out ?_; go_simp)
          | (refine wpList_store_blk rfl 32 (.tmp 8) (.tmp 65) rfl (w.heap.size + 1) zMsg (C (.slice Av (anL (l.take k)).length cv) (.slice Au (auL (l.take k)).length cu)) 32 HZm.out rfl rfl SMf.out ZMf.out OMf.out ?_; intro w9 hg9 hw9 hz9; go_simp))
        obtain ⟨hbf, m, hm1, hm2, hm3⟩ := HFin.out w9 hw9.out HE32.out.1 HE32.out.2
        exact bodyPost_ret (results_cell_row rfl _ w9 (w.heap.size + 1) 32 (C (.slice Av (anL (l.take k)).length cv) (.slice Au (auL (l.take k)).length cu)) (0, 0) _ rfl hg9.out Try.underlying32 rfl SMf.out) rfl ⟨hbf, m, hm1, hm2, by rw [hm3]⟩
end Go.Proofs.Ytgbijhinihchgaa
