/-
  The walk of LlmnrAnswers: just questions for the own name are answered, with all own addresses of the type. Condition: the library's variable MaxLen holds some number.
-/
import Derived.Test.YtakfokdjdljjjaaDoorLlFit
namespace Go.Proofs.YtakfokdjdljjjaaDoor
open Go.RowKit

def bN (n : Int) (q : Nat) : Nat := (bits BinOp.and IntKind.i64 n (q : Nat)).toNat
theorem bN_e (n : Int) (q : Nat) (hq : q < 1000000) : bits BinOp.and IntKind.i64 n (q : Nat) = (bN n q : Int) ∧ bN n q ≤ q := by
  have hle : (BitVec.ofInt 64 n &&& BitVec.ofInt 64 (q : Nat)).toNat ≤ q := by
    rw [BitVec.toNat_and]
    refine Nat.le_trans Nat.and_le_right ?_
    rw [BitVec.ofInt_natCast, BitVec.toNat_ofNat]
    exact Nat.mod_le _ _
  have h : bits BinOp.and IntKind.i64 n (q : Nat) = ((BitVec.ofInt 64 n &&& BitVec.ofInt 64 (q : Nat)).toNat : Int) := by
    show IntKind.i64.wrap ((BitVec.ofInt 64 n &&& BitVec.ofInt 64 (q : Nat)).toNat : Int) = _
    exact IntWalk.i64_in _ (by omega)
  unfold bN
  rw [h]
  exact ⟨rfl, hle⟩
def kindT : Nat → Int
  | 0 => 1
  | 1 => 28
  | 2 => 16
  | _ => 12
theorem kindT_in (j : Nat) : 1 ≤ kindT j ∧ kindT j ≤ 65535 := by
  unfold kindT; split <;> omega
def nmC : ByteArray := ⟨#[99, 111, 114, 112]⟩
theorem nmC_ok : gosB nmC = true := by decide +kernel
theorem nmC_16 : lb16 nmC := by unfold lb16; decide +kernel
theorem bytes_of {a b : ByteArray} (h : (a.toList == b.toList) = true) : a = b := by
  rw [Lib.toList_data, Lib.toList_data] at h
  have h := Array.toList_inj.1 (eq_of_beq h)
  cases a; cases b
  simp only at h
  rw [h]
theorem nmC_list {x : ByteArray} (h : (x.toList == nmC.toList) = false) : (x.toList == [99, 111, 114, 112]) = false := by
  have e : nmC.toList = [99, 111, 114, 112] := by rw [Lib.toList_data]; rfl
  rw [← e]; exact h
theorem builtQ2 (S : ByteArray) (ty : Int) : Tryd.prog.built 28 [(0, .string S), (1, .int .i64 ty)] = some #[.string S, .int .i64 ty] := by kernel_rfl
theorem builtQr (D : Int) (rp : Bool) (S : ByteArray) (ty : Int) : Tryd.prog.built 31 [(0, .int .i64 D), (1, .bool rp), (5, .agg #[.string S, .int .i64 ty])] = some (qMV D rp false S ty).cells := by kernel_rfl
def wC (D : Int) (S : ByteArray) (ty : Int) (v : Value) : Array Value := #[.int .i64 D, .bool true, .bool false, .bool false, .int .i64 0, .string S, .int .i64 ty, v, .slice none 0 0]
theorem builtWant (D : Int) (S : ByteArray) (ty : Int) : Tryd.prog.built 31 [(0, .int .i64 D), (1, .bool true), (5, .agg #[.string S, .int .i64 ty])] = some (wC D S ty (.slice none 0 0)) := by kernel_rfl
theorem q_cells {W : World} {g off : Nat} {C : Array Value} {t : TypeId} {S : ByteArray} {ty : Int} (h : W.heap[g]? = some (.cells C t (0, 0))) (h0 : C[off]? = some (.string S)) (h1 : C[off + 1]? = some (.int .i64 ty)) :
    ∀ j v, (#[Value.string S, .int .i64 ty] : Array Value).toList[j]? = some v → W.cell? ((⟨g, off, none⟩ : Addr).add j) = some v := fun j v hj => by
  have hl : j < 2 := (List.getElem?_eq_some_iff.1 hj).1
  rw [Addr.add_lit]
  refine (cell_of_row W g (off + j) _ _ _ h).trans ?_
  rcases (show j = 0 ∨ j = 1 by omega) with rfl | rfl
  · exact h0.trans hj
  · exact h1.trans hj
/-- the three numbers stand in their block -/
structure B3At (w wx : World) (a0 a1 a2 : Int) : Prop where
  below : Below w.heap.size w wx
  b : wx.heap[w.heap.size]? = some (.cells #[.int .i64 a0, .int .i64 a1, .int .i64 a2] 23 (0, 0))
theorem B3At.to {w wx wy : World} {a0 a1 a2 : Int} (h : B3At w wx a0 a1 a2) (hb : Below wx.heap.size wx wy) : B3At w wy a0 a1 a2 :=
  ⟨h.below.trans (hb.mono h.below.size), (hb.block _ (heap_lt h.b)).trans h.b⟩
/-- the message that is wanted, so far -/
structure WaAt (base : Nat) (Ub U : World) (gw : Nat) (C : Value → Array Value) (rs : List RV) (v : Value) : Prop where
  ws : U.heap[gw]? = some (.cells (C v) 31 (0, 0))
  own : U.ownsRow base 45 21 v rs.length (rcs rs)
  below : Below Ub.heap.size Ub U
  hgw : gw < base
  hub : Ub.heap.size ≤ gw
  hb : base ≤ U.heap.size
theorem WaAt.to {base gw : Nat} {Ub U U' : World} {C : Value → Array Value} {rs : List RV} {v : Value} (h : WaAt base Ub U gw C rs v) (hb : Below U.heap.size U U') : WaAt base Ub U' gw C rs v :=
  ⟨(hb.block gw (heap_lt h.ws)).trans h.ws, h.own.kept (show U.grownBy U' none from ⟨hb.os, hb.tape, hb.output, hb.size, fun k hk _ => hb.block k hk⟩) (Classical.em _), h.below.trans (hb.mono h.below.size), h.hgw, h.hub, Nat.le_trans h.hb hb.size⟩
theorem WaAt.app {base gw : Nat} {Ub U w1 : World} {C : Value → Array Value} (hC : ∀ v v1, (C v).setIfInBounds 7 v1 = C v1) {rs : List RV} {v v1 : Value} {r : RV} (h : WaAt base Ub U gw C rs v) (ho : w1.ownsRow base 45 21 v1 (rs.length + 1) (rcs rs ++ r.cells.toList)) (hg : U.grownBy w1 v.ownBlock) :
    w1.heap[gw]? = some (.cells (C v) 31 (0, 0)) ∧ WaAt base Ub (w1.setCell ⟨gw, 7, none⟩ v1) gw C (rs ++ [r]) v1 := by
  have h1 : w1.heap[gw]? = some (.cells (C v) 31 (0, 0)) := (hg.block gw (heap_lt h.ws) (fun e => by have := (h.own.lt gw e.symm).1; have := h.hgw; omega)).trans h.ws
  refine ⟨h1, ?_, ?_, ?_, h.hgw, h.hub, by have := hg.size; have := h.hb; simp; omega⟩
  · rw [← hC v v1]
    exact heap_setCell_same w1 gw 7 _ _ v1 h1
  · rw [List.length_append, rcs_snoc]
    exact ho.kept (grown_set w1 gw 7 v1) (.inr (fun e => by have := (ho.lt gw e).1; have := h.hgw; omega))
  · exact (h.below.grown hg h.below.size (fun j hj => by have := (h.own.lt j hj).1; have := h.hgw; have := h.hub; omega)).setCell (p := ⟨gw, 7, none⟩) h.hub _
set_option maxRecDepth 100000 in
set_option maxHeartbeats 16000000 in
theorem llmnrAnswers_walk (ls : List LV) (hls : ∀ x ∈ ls, x.addr.length = 16) (AL : Option Addr) (cl : Nat) (a0 a1 a2 : Int) (reply : Bool) (w : World) (he : Env w) (hA : LocsAt w AL ls) :
    Calls Tryd.prog 3 #[.slice AL ls.length cl, .agg #[.int .i64 a0, .int .i64 a1, .int .i64 a2], .bool reply] w fun e w' => e = .returned (.bool true) ∧ Below w.heap.size w w' := by
  have HE := Lib.hid he
  have HFit := Lib.hid fit14_e
  have HA := Lib.hid hA
  obtain ⟨hD, hDl⟩ := bN_e a1 65535 (by omega)
  obtain ⟨hi7, hi7l⟩ := bN_e a0 7 (by omega)
  obtain ⟨hj3, hj3l⟩ := bN_e a2 3 (by omega)
  generalize bN a1 65535 = D at hD hDl
  generalize bN a0 7 = i at hi7 hi7l
  generalize bN a2 3 = j at hj3 hj3l
  have hD : bits BinOp.and IntKind.i64 a1 65535 = (D : Int) := hD
  have hj3 : bits BinOp.and IntKind.i64 a2 3 = (j : Int) := hj3
  have HB0 : Hid (B3At w (w.alloc (.cells #[.int .i64 a0, .int .i64 a1, .int .i64 a2] 23)) a0 a1 a2) := Lib.hid ⟨(Below.refl _ w).alloc (Nat.le_refl _) _, heap_alloc_last w _⟩
  by_cases h8 : ls.length ≤ 8
  · have h8I : (ls.length : Int) ≤ 8 := by omega
    have HNa := Lib.hid (fun W => name4_e a0 i hi7l hi7 W)
    obtain ⟨ty, hty⟩ : ∃ ty, ty = kindT j := ⟨_, rfl⟩
    have hty2 : 1 ≤ ty ∧ ty ≤ 65535 := by rw [hty]; exact kindT_in j
    have hqa : (qMV (D : Int) reply false (bs (plN i)) ty).Again := qMV_again (by omega) hi7l hty2
    generalize bs (plN i) = S at HNa hqa
    have HBq := Lib.hid (builtQ2 S ty)
    have HBm := Lib.hid (builtQr D reply S ty)
    have SQm : Hid ((Tryd.prog.info? 31).map (·.size) = some (qMV (D : Int) reply false S ty).cells.size) := Lib.hid sizeM
    have ZQm : Hid (zMsg.size = (qMV (D : Int) reply false S ty).cells.size) := Lib.hid rfl
    have OQm := Lib.hid (MV.one (qMV (D : Int) reply false S ty))
    have HEn := Lib.hid (fun W hW => encode_again _ hqa W hW (qMV_lies _ _ _ _ _ _))
    have HAn := Lib.hid (fun (u : World) gb cap hcap hin W hb hW hA => ask_e nmC nmC_16 ls hls AL cl (by omega) _ hqa gb cap u hcap hin W hb hW hA)
    have HRt : Hid (reply = true → repO nmC ls (some (qMV (D : Int) reply false S ty).nrm) = none) := Lib.hid (fun h => repO_reply h)
    have HRf : Hid ((S.toList == nmC.toList) = false → repO nmC ls (some (qMV (D : Int) reply false S ty).nrm) = none) := Lib.hid (fun h => repO_other h)
    have HRy : Hid (reply = false → S = nmC → repO nmC ls (some (qMV (D : Int) reply false S ty).nrm) = some (rpM (qMV (D : Int) reply false S ty) ls)) := Lib.hid (fun h h2 => repO_yes h h2)
    have HDe := Lib.hid (fun (hm : (rpM (qMV (D : Int) reply false S ty) ls).Again) (gb cap : Nat) (u : World) hcap hin W hb hW => dec_e (rpM (qMV (D : Int) reply false S ty) ls) hm gb cap u hcap hin W hb hW)
    have HRm : Hid (∀ A c U k, (dcM (rpM (qMV (D : Int) reply false S ty) ls) A c U k).nrm = ⟨(D : Int), true, false, false, 0, S, ty, none, 0, ansL S ty ls, none, 0, []⟩) := Lib.hid (fun _ _ _ _ => rfl)
    have HC5 : Hid ((qMV (D : Int) reply false S ty).cells[0]? = some (.int .i64 (D : Int)) ∧ (qMV (D : Int) reply false S ty).cells[5]? = some (.string S) ∧ (qMV (D : Int) reply false S ty).cells[5 + 1]? = some (.int .i64 ty)) := Lib.hid ⟨rfl, rfl, rfl⟩
    have HBw := Lib.hid (builtWant D nmC ty)
    have HLs := Lib.hid hls
    have HTy := Lib.hid hty
    have ZM := Lib.hid zeroM
    clear he hA hqa hls hDl hi7l hty hty2 hi7
    generalize rpM (qMV (D : Int) reply false S ty) ls = R at HRy HDe HRm
    generalize qMV (D : Int) reply false S ty = QM at HBm SQm ZQm OQm HEn HAn HRt HRf HRy HC5
    generalize hQC : QM.cells = QC at HBm SQm ZQm OQm HEn HC5
    clear hQC
    go_enter Tryd.func3, Tryd.ntmps3
    go_wp2_with fail
    refine (HFit.out _ (HE.out.below HB0.out.below)).mono ?_
    rintro e w1 ⟨rfl, hb1⟩
    have HB1 := Lib.hid (HB0.out.to hb1)
    clear hb1 HB0
    go_upto_region 5 with fail
    go_cut [7] from 21 to 26 (fun t7 wx => t7 = .int .i64 ty ∧ Hid (B3At w wx a0 a1 a2))
    case first =>
      have HB2 := Lib.hid (HB1.out.to ((Below.refl _ w1).alloc (Nat.le_refl _) (.cells #[.int .i64 1, .int .i64 28, .int .i64 16, .int .i64 12] 3)))
      have e2 := (cell_of_row _ w.heap.size 2 _ _ _ HB2.out.b).trans (rfl : _ = some (Value.int .i64 a2))
      have hty := HTy.out
      clear HTy
      rcases (show j = 0 ∨ j = 1 ∨ j = 2 ∨ j = 3 by omega) with rfl | rfl | rfl | rfl
      all_goals
        go_wp2_with fail
        go_meet
        case rel => exact ⟨by rw [hty]; rfl, HB2⟩
    case rest =>
    obtain ⟨rfl, HB2⟩ := hcut
    clear HB1 hj3 hj3l HTy
    generalize wc = W0 at *
    go_upto_region 6 with fail
    go_cut [8] from 27 to 36 (fun t8 wx => ∃ g, t8 = .pointer (some ⟨g, 0, none⟩) ∧ Hid (ApFin [] W0 wx g QC none))
    case first =>
      have D0 : Hid (∀ W, Below W0.heap.size W0 W → W.cell? ⟨w.heap.size, 0, none⟩ = some (.int .i64 a0)) := Lib.hid (fun W hb => cell_of_row W _ 0 _ _ _ (HB2.out.to hb).b)
      have D1 : Hid (∀ W, Below W0.heap.size W0 W → W.cell? ⟨w.heap.size, 1, none⟩ = some (.int .i64 a1)) := Lib.hid (fun W hb => cell_of_row W _ 1 _ _ _ (HB2.out.to hb).b)
      refine wp_region_held_drew (S := (fun W : World => Below W0.heap.size W0 W)) (by kernel_rfl) (Below.refl _ W0).drew (fun hHeld => ?_)
      have HM0 : Hid (ApAt [] W0 W0.drew none none) := Lib.hid ⟨(Below.refl _ W0).drew, (fun g h => by cases h), (fun g h => by cases h)⟩
      generalize W0.drew = V0 at HM0 hHeld ⊢
      refine wpAnyH_take (i := 0) (oi := ({ dst := some 27, op := Go.Op.indexAddr 23 (Go.Operand.tmp 4) (Go.Operand.const (Go.Value.int Go.IntKind.i64 1)), type := 0, pos := "law.go:28", after := #[], guard := none } : Oper)) (v := .pointer (some ⟨w.heap.size, 1, none⟩)) rfl (by kernel_rfl) (by kernel_rfl) (by kernel_rfl) (fun _ _ _ h => h) (Or.inl ⟨by rfl, fun w' hS' => ?_⟩) hHeld ?_
      · go_simp
      try simp only [Act.put, List.setIfInBounds_toArray, List.set_cons_zero, List.set_cons_succ]
      refine wpAnyH_take (i := 1) (oi := ({ dst := some 28, op := Go.Op.load 3 (Go.Operand.tmp 27), type := 3, pos := "law.go:28", after := #[{ on := 0, ground := Go.Ground.data }], guard := none } : Oper)) (v := .int .i64 a1) rfl (by kernel_rfl) (by kernel_rfl) (by kernel_rfl) (fun _ _ _ h => h) (Or.inl ⟨by rfl, fun w' hS' => ?_⟩) hHeld ?_
      · have d := D1.out w' hS'; go_simp
      try simp only [Act.put, List.setIfInBounds_toArray, List.set_cons_zero, List.set_cons_succ]
      refine wpAnyH_take (i := 2) (oi := ({ dst := some 29, op := Go.Op.binOp Go.BinOp.and 3 (Go.Operand.tmp 28) (Go.Operand.const (Go.Value.int Go.IntKind.i64 65535)) 3, type := 3, pos := "law.go:28", after := #[{ on := 1, ground := Go.Ground.data }], guard := none } : Oper)) (v := .int .i64 (D : Nat)) rfl (by kernel_rfl) (by kernel_rfl) (by kernel_rfl) (fun _ _ _ h => h) (Or.inl ⟨by rfl, fun w' hS' => ?_⟩) hHeld ?_
      · go_simp
      try simp only [Act.put, List.setIfInBounds_toArray, List.set_cons_zero, List.set_cons_succ]
      refine wpAnyH_take (i := 3) (oi := ({ dst := some 30, op := Go.Op.move (Go.Operand.tmp 2), type := 4, pos := "law.go:28", after := #[], guard := none } : Oper)) (v := .bool reply) rfl (by kernel_rfl) (by kernel_rfl) (by kernel_rfl) (fun _ _ _ h => h) (Or.inl ⟨by rfl, fun w' hS' => ?_⟩) hHeld ?_
      · go_simp
      try simp only [Act.put, List.setIfInBounds_toArray, List.set_cons_zero, List.set_cons_succ]
      refine wpAnyH_take (i := 4) (oi := ({ dst := some 31, op := Go.Op.indexAddr 23 (Go.Operand.tmp 4) (Go.Operand.const (Go.Value.int Go.IntKind.i64 0)), type := 0, pos := "law.go:28", after := #[], guard := none } : Oper)) (v := .pointer (some ⟨w.heap.size, 0, none⟩)) rfl (by kernel_rfl) (by kernel_rfl) (by kernel_rfl) (fun _ _ _ h => h) (Or.inl ⟨by rfl, fun w' hS' => ?_⟩) hHeld ?_
      · go_simp
      try simp only [Act.put, List.setIfInBounds_toArray, List.set_cons_zero, List.set_cons_succ]
      refine wpAnyH_take (i := 5) (oi := ({ dst := some 32, op := Go.Op.load 3 (Go.Operand.tmp 31), type := 3, pos := "law.go:28", after := #[{ on := 4, ground := Go.Ground.data }], guard := none } : Oper)) (v := .int .i64 a0) rfl (by kernel_rfl) (by kernel_rfl) (by kernel_rfl) (fun _ _ _ h => h) (Or.inl ⟨by rfl, fun w' hS' => ?_⟩) hHeld ?_
      · have d := D0.out w' hS'; go_simp
      try simp only [Act.put, List.setIfInBounds_toArray, List.set_cons_zero, List.set_cons_succ]
      refine wpAnyH_take (i := 7) (oi := ({ dst := some 34, op := Go.Op.move (Go.Operand.tmp 7), type := 3, pos := "law.go:28", after := #[], guard := none } : Oper)) (v := .int .i64 ty) rfl (by kernel_rfl) (by kernel_rfl) (by kernel_rfl) (fun _ _ _ h => h) (Or.inl ⟨by rfl, fun w' hS' => ?_⟩) hHeld ?_
      · go_simp
      try simp only [Act.put, List.setIfInBounds_toArray, List.set_cons_zero, List.set_cons_succ]
      refine wpAnyH_ready (rs := [6, 10]) (by kernel_rfl) (by simp) ?_
      refine (AllReadyH.cons (o := ({ dst := some 33, op := Go.Op.call { callee := Go.Callee.value (Go.Operand.func 7), args := #[Go.Operand.tmp 32], argTypes := #[3] }, type := 9, pos := "law.go:28", after := #[{ on := 5, ground := Go.Ground.data }], guard := none } : Oper)) rfl (fun K hK => ?_) (AllReadyH.cons (o := ({ dst := some 8, op := Go.Op.alloc 31, type := 0, pos := "law.go:28", after := #[], guard := none } : Oper)) rfl (fun K hK => ?_) AllReadyH.nil))
      · go_simp
        go_at_call 7
        refine (HNa.out _).mono ?_
        rintro e' u1 ⟨rfl, hbm⟩
        have HM2 := Lib.hid (HM0.out.to hbm)
        refine hK.out _ _ HM2.out.below (fun hHeld => ?_)
        clear hK K hbm
        try simp only [Act.put, List.setIfInBounds_toArray, List.set_cons_zero, List.set_cons_succ]
        refine wpAnyH_take (i := 8) (oi := ({ dst := some 35, op := Go.Op.build 28 #[(0, Go.Operand.tmp 33), (1, Go.Operand.tmp 34)], type := 28, pos := "law.go:28", after := #[{ on := 6, ground := Go.Ground.data }, { on := 7, ground := Go.Ground.data }], guard := none } : Oper)) (v := .agg #[.string S, .int .i64 ty]) rfl (by kernel_rfl) (by kernel_rfl) (by kernel_rfl) (fun _ _ _ h => h) (yieldsIf_build (by rfl) 28 #[(0, .tmp 33), (1, .tmp 34)] rfl [(0, .string S), (1, .int .i64 ty)] #[.string S, .int .i64 ty] rfl HBq.out) hHeld ?_
        try simp only [Act.put, List.setIfInBounds_toArray, List.set_cons_zero, List.set_cons_succ]
        refine wpAnyH_take (i := 9) (oi := ({ dst := some 36, op := Go.Op.build 31 #[(0, Go.Operand.tmp 29), (1, Go.Operand.tmp 30), (5, Go.Operand.tmp 35)], type := 31, pos := "law.go:28", after := #[{ on := 2, ground := Go.Ground.data }, { on := 3, ground := Go.Ground.data }, { on := 8, ground := Go.Ground.data }], guard := none } : Oper)) (v := .agg QC) rfl (by kernel_rfl) (by kernel_rfl) (by kernel_rfl) (fun _ _ _ h => h) (yieldsIf_build (by rfl) 31 #[(0, .tmp 29), (1, .tmp 30), (5, .tmp 35)] rfl [(0, .int .i64 (D : Nat)), (1, .bool reply), (5, .agg #[.string S, .int .i64 ty])] QC rfl HBm.out) hHeld ?_
        try simp only [Act.put, List.setIfInBounds_toArray, List.set_cons_zero, List.set_cons_succ]
        refine wpAnyH_ready (rs := [10]) (by kernel_rfl) (by simp) ?_
        refine (AllReadyH.cons (o := ({ dst := some 8, op := Go.Op.alloc 31, type := 0, pos := "law.go:28", after := #[], guard := none } : Oper)) rfl (fun K hK => ?_) AllReadyH.nil)
        go_simp
        refine hK.out _ _ (HM2.out.below.alloc HM2.out.below.size _) (fun hHeld => ?_)
        clear hK K
        try simp only [Act.put, List.setIfInBounds_toArray, List.set_cons_zero, List.set_cons_succ]
        have HM4 := Lib.hid (HM2.out.withA)
        unfold zMsg at HM4
        generalize u1.alloc (.cells #[.int .i64 0, .bool false, .bool false, .bool false, .int .i64 0, .string ⟨#[]⟩, .int .i64 0, .slice none 0 0, .slice none 0 0] 31) = u3 at HM4 hHeld ⊢
        refine wpAnyH_ready (rs := [11]) (by kernel_rfl) (by simp) ?_
        refine (AllReadyH.cons (o := ({ dst := none, op := Go.Op.store 31 (Go.Operand.tmp 8) (Go.Operand.tmp 36), type := 0, pos := "law.go:28", after := #[{ on := 10, ground := Go.Ground.data }, { on := 9, ground := Go.Ground.data }, { on := 6, ground := Go.Ground.chain }, { on := 0, ground := Go.Ground.phase }, { on := 1, ground := Go.Ground.phase }, { on := 2, ground := Go.Ground.phase }, { on := 3, ground := Go.Ground.phase }, { on := 4, ground := Go.Ground.phase }, { on := 5, ground := Go.Ground.phase }, { on := 6, ground := Go.Ground.phase }, { on := 7, ground := Go.Ground.phase }, { on := 8, ground := Go.Ground.phase }, { on := 9, ground := Go.Ground.phase }, { on := 10, ground := Go.Ground.phase }], guard := none } : Oper)) rfl (fun K hK => ?_) AllReadyH.nil)
        refine step_store_tr rfl 31 (.tmp 8) (.tmp 36) rfl (u1.heap.size) zMsg QC 31 (HM4.out.a _ rfl).1 rfl rfl SQm.out ZQm.out OQm.out (fun w4 hg4 hw4 hs4 => ?_)
        have HFn := Lib.hid ((HM4.out.withR (A := none) (fun h => absurd h (by simp))).fin hg4.out hw4.out)
        refine hK.out _ _ HFn.out.below (fun hHeld => ?_)
        clear hK K
        refine wpAnyH_done (by kernel_rfl) ?_ _
        try (go_wp2_with fail)
        go_meet
        case rel => exact ⟨_, rfl, HFn⟩
      · go_simp
        refine hK.out _ _ (HM0.out.below.alloc HM0.out.below.size _) (fun hHeld => ?_)
        clear hK K
        try simp only [Act.put, List.setIfInBounds_toArray, List.set_cons_zero, List.set_cons_succ]
        have HM6 := Lib.hid (HM0.out.withA)
        unfold zMsg at HM6
        generalize V0.alloc (.cells #[.int .i64 0, .bool false, .bool false, .bool false, .int .i64 0, .string ⟨#[]⟩, .int .i64 0, .slice none 0 0, .slice none 0 0] 31) = u5 at HM6 hHeld ⊢
        refine wpAnyH_ready (rs := [6]) (by kernel_rfl) (by simp) ?_
        refine (AllReadyH.cons (o := ({ dst := some 33, op := Go.Op.call { callee := Go.Callee.value (Go.Operand.func 7), args := #[Go.Operand.tmp 32], argTypes := #[3] }, type := 9, pos := "law.go:28", after := #[{ on := 5, ground := Go.Ground.data }], guard := none } : Oper)) rfl (fun K hK => ?_) AllReadyH.nil)
        go_simp
        go_at_call 7
        refine (HNa.out _).mono ?_
        rintro e' u7 ⟨rfl, hbm⟩
        have HM8 := Lib.hid (HM6.out.to hbm)
        refine hK.out _ _ HM8.out.below (fun hHeld => ?_)
        clear hK K hbm
        try simp only [Act.put, List.setIfInBounds_toArray, List.set_cons_zero, List.set_cons_succ]
        refine wpAnyH_take (i := 8) (oi := ({ dst := some 35, op := Go.Op.build 28 #[(0, Go.Operand.tmp 33), (1, Go.Operand.tmp 34)], type := 28, pos := "law.go:28", after := #[{ on := 6, ground := Go.Ground.data }, { on := 7, ground := Go.Ground.data }], guard := none } : Oper)) (v := .agg #[.string S, .int .i64 ty]) rfl (by kernel_rfl) (by kernel_rfl) (by kernel_rfl) (fun _ _ _ h => h) (yieldsIf_build (by rfl) 28 #[(0, .tmp 33), (1, .tmp 34)] rfl [(0, .string S), (1, .int .i64 ty)] #[.string S, .int .i64 ty] rfl HBq.out) hHeld ?_
        try simp only [Act.put, List.setIfInBounds_toArray, List.set_cons_zero, List.set_cons_succ]
        refine wpAnyH_take (i := 9) (oi := ({ dst := some 36, op := Go.Op.build 31 #[(0, Go.Operand.tmp 29), (1, Go.Operand.tmp 30), (5, Go.Operand.tmp 35)], type := 31, pos := "law.go:28", after := #[{ on := 2, ground := Go.Ground.data }, { on := 3, ground := Go.Ground.data }, { on := 8, ground := Go.Ground.data }], guard := none } : Oper)) (v := .agg QC) rfl (by kernel_rfl) (by kernel_rfl) (by kernel_rfl) (fun _ _ _ h => h) (yieldsIf_build (by rfl) 31 #[(0, .tmp 29), (1, .tmp 30), (5, .tmp 35)] rfl [(0, .int .i64 (D : Nat)), (1, .bool reply), (5, .agg #[.string S, .int .i64 ty])] QC rfl HBm.out) hHeld ?_
        try simp only [Act.put, List.setIfInBounds_toArray, List.set_cons_zero, List.set_cons_succ]
        refine wpAnyH_ready (rs := [11]) (by kernel_rfl) (by simp) ?_
        refine (AllReadyH.cons (o := ({ dst := none, op := Go.Op.store 31 (Go.Operand.tmp 8) (Go.Operand.tmp 36), type := 0, pos := "law.go:28", after := #[{ on := 10, ground := Go.Ground.data }, { on := 9, ground := Go.Ground.data }, { on := 6, ground := Go.Ground.chain }, { on := 0, ground := Go.Ground.phase }, { on := 1, ground := Go.Ground.phase }, { on := 2, ground := Go.Ground.phase }, { on := 3, ground := Go.Ground.phase }, { on := 4, ground := Go.Ground.phase }, { on := 5, ground := Go.Ground.phase }, { on := 6, ground := Go.Ground.phase }, { on := 7, ground := Go.Ground.phase }, { on := 8, ground := Go.Ground.phase }, { on := 9, ground := Go.Ground.phase }, { on := 10, ground := Go.Ground.phase }], guard := none } : Oper)) rfl (fun K hK => ?_) AllReadyH.nil)
        refine step_store_tr rfl 31 (.tmp 8) (.tmp 36) rfl (V0.heap.size) zMsg QC 31 (HM8.out.a _ rfl).1 rfl rfl SQm.out ZQm.out OQm.out (fun w4 hg4 hw4 hs4 => ?_)
        have HFn := Lib.hid ((HM8.out.withR (A := none) (fun h => absurd h (by simp))).fin hg4.out hw4.out)
        refine hK.out _ _ HFn.out.below (fun hHeld => ?_)
        clear hK K
        refine wpAnyH_done (by kernel_rfl) ?_ _
        try (go_wp2_with fail)
        go_meet
        case rel => exact ⟨_, rfl, HFn⟩
    case rest =>
    obtain ⟨g, rfl, HF⟩ := hcut
    have HB3 := Lib.hid (HB2.out.to HF.out.below)
    have HG3 := Lib.hid HF.out.blk
    clear HF HB2 HBq HBm ZQm OQm
    generalize wc = w2 at *
    go_wp2_with (first
      | (refine wpList_load_row rfl 31 (.tmp 8) rfl g rfl 31 QC (0, 0) _ HG3.out Tryd.underlying31 rfl SQm.out ?_; go_simp))
    refine (HEn.out _ (HE.out.below HB3.out.below)).mono ?_
    rintro e w3 ⟨gb, cap, rfl, hen⟩
    have HB4 := Lib.hid (HB3.out.to hen.below)
    have HG4 := Lib.hid ((hen.below.block _ (heap_lt HG3.out)).trans HG3.out)
    have HAn3 := Lib.hid (HAn.out w3 gb cap hen.le hen.inB w3 (Below.refl _ _) (HE.out.below HB4.out.below) (RowsAt.below HA.out HB4.out.below))
    clear hen HAn HEn HB3 HG3
    generalize (enc QM.msg).length = LQ at HAn3 ⊢
    go_wp2_with fail
    cases reply with
    | true =>
      rw [HRt.out rfl] at HAn3
      clear HRt HRf HRy
      refine HAn3.out.mono ?_
      rintro e w5 ⟨hb5, ⟨_, rfl⟩ | ⟨R', gb3, cap3, hR, _⟩⟩
      rotate_left
      · cases hR
      have HB5 := Lib.hid (HB4.out.to hb5)
      clear hb5 HAn3
      go_wp2_with fail
      go_ret
      exact ⟨rfl, HB5.out.below⟩
    | false =>
    cases hq : (S.toList == nmC.toList) with
    | false =>
      rw [HRf.out hq] at HAn3
      clear HRt HRf HRy
      refine HAn3.out.mono ?_
      rintro e w5 ⟨hb5, ⟨_, rfl⟩ | ⟨R', gb3, cap3, hR, _⟩⟩
      rotate_left
      · cases hR
      have HB5 := Lib.hid (HB4.out.to hb5)
      clear hb5 HAn3
      have e0 := (cell_of_row w5 w.heap.size 0 _ _ _ HB5.out.b).trans (rfl : _ = some (Value.int .i64 a0))
      have hq3 := nmC_list hq
      clear hq
      go_wp2_with (first
        | (go_at_call 7; refine (HNa.out _).mono ?_; rintro e w6 ⟨rfl, hb6⟩; have HB6 := Lib.hid (HB5.out.to hb6); clear hb6; go_simp))
      go_ret
      exact ⟨rfl, HB6.out.below⟩
    | true =>
    have hS := bytes_of hq
    subst hS
    rw [HRy.out rfl rfl] at HAn3
    clear HRt HRf HRy hq
    refine HAn3.out.mono ?_
    rintro e w5 ⟨hb5, ⟨h0, _⟩ | ⟨R', gb2, cap2, hR, hRa, rfl, hcap2, hin2, h12⟩⟩
    · cases h0
    injection hR with hR
    subst hR
    have HB5 := Lib.hid (HB4.out.to hb5)
    have HG5 := Lib.hid ((hb5.block _ (heap_lt HG4.out)).trans HG4.out)
    have HD5 := Lib.hid (HDe.out hRa gb2 cap2)
    have HI5 := Lib.hid hin2
    have HC5c := Lib.hid hcap2
    have HRa := Lib.hid hRa
    have hL0 : (12 : Int) ≤ ((enc R.msg).length : Int) := by omega
    clear hb5 hRa hcap2 hin2 h12 HAn3 HDe HB4 HG4
    have HD6 := Lib.hid (fun W hb hW => HD5.out w5 HC5c.out HI5.out W hb hW)
    clear HD5 HC5c HI5
    generalize (enc R.msg).length = LR at HD6 hL0 ⊢
    have e0 := (cell_of_row w5 w.heap.size 0 _ _ _ HB5.out.b).trans (rfl : _ = some (Value.int .i64 a0))
    have HNc : Hid (∀ W, Calls Tryd.prog 7 #[.int .i64 a0] W fun e w' => e = .returned (.string ⟨#[99, 111, 114, 112]⟩) ∧ Below W.heap.size W w') := HNa
    clear HNa
    go_wp2_with (first
      | (go_at_call 7; refine (HNc.out _).mono ?_; rintro e w6 ⟨rfl, hb6⟩; have HB6 := Lib.hid (HB5.out.to hb6); have HG6 := Lib.hid ((hb6.block _ (heap_lt HG5.out)).trans HG5.out); have HD7 := Lib.hid (HD6.out w6 hb6 (HE.out.below HB6.out.below)); clear hb6; go_simp))
    refine HD7.out.mono ?_
    rintro e w7 ⟨hb7, A, c, U, kk, rfl, hli⟩
    have HB7 := Lib.hid (HB6.out.to hb7)
    have HG7 := Lib.hid ((hb7.block _ (heap_lt HG6.out)).trans HG6.out)
    clear hb7 e0 HD7 HD6 HB5 HB6 HG5 HG6
    have HFm : Hid ((dcM R A c U kk).Fits) := Lib.hid ⟨HRa.out.fits.qn, HRa.out.fits.an, HRa.out.fits.au, HRa.out.fits.la, HRa.out.fits.lu⟩
    have HLm := Lib.hid hli
    have HNm := Lib.hid (HRm.out A c U kk)
    clear hli HRa HRm
    generalize dcM R A c U kk = M at *
    have SM : Hid ((Tryd.prog.info? 31).map (·.size) = some M.cells.size) := Lib.hid sizeM
    have ZC : Hid (zMsg.size = M.cells.size) := Lib.hid rfl
    have OM := Lib.hid (MV.one M)
    have HSa : Hid (∀ (m2 : MV) W, M.nrm = m2.nrm → M.Lies W → m2.Lies W → Calls Tryd.prog 12 #[.agg M.cells, .agg m2.cells] W fun e w' => e = .returned (.bool true) ∧ Below W.heap.size W w') := Lib.hid (fun m2 W h1 h2 h3 => same_e M m2 h1 HFm.out W h2 h3)
    generalize hMC : M.cells = MC at *
    clear HFm
    have HB8 : Hid (B3At w (w7.alloc (.cells MC 31)) a0 a1 a2) := Lib.hid (HB7.out.to ((Below.refl _ w7).alloc (Nat.le_refl _) _))
    have HG8 : Hid ((w7.alloc (.cells MC 31)).heap[g]? = some (.cells QC 31 (0, 0))) := Lib.hid ((Below.heap_alloc _ _ _ (heap_lt HG7.out)).trans HG7.out)
    have HM8 := Lib.hid (heap_alloc_last w7 (.cells MC 31))
    have HL8 : Hid (M.Lies (w7.alloc (.cells MC 31))) := Lib.hid (HLm.out.below ((Below.refl _ w7).alloc (Nat.le_refl _) _))
    have hMC2 := Lib.hid hMC
    clear hMC HB7 HG7 HLm
    have q0 := (cell_of_row _ g 0 _ _ _ HG8.out).trans HC5.out.1
    have HQc := Lib.hid (q_cells (off := 5) HG8.out HC5.out.2.1 HC5.out.2.2)
    have SQ : Hid ((Tryd.prog.info? 28).map (·.size) = some (#[Value.string nmC, .int .i64 ty] : Array Value).size) := Lib.hid sizeQl
    have SW : Hid (∀ v, (Tryd.prog.info? 31).map (·.size) = some (wC (D : Int) nmC ty v).size) := Lib.hid (fun _ => sizeM)
    have ZW : Hid (zMsg.size = (wC (D : Int) nmC ty (.slice none 0 0)).size) := Lib.hid rfl
    have OW : Hid ((wC (D : Int) nmC ty (.slice none 0 0)).all (·.oneCell') = true) := Lib.hid (by simp [wC, Value.oneCell'])
    have HC7 : Hid (∀ v, (wC (D : Int) nmC ty v)[7]? = some v) := Lib.hid (fun _ => rfl)
    have HCs : Hid (∀ v v1, (wC (D : Int) nmC ty v).setIfInBounds 7 v1 = wC (D : Int) nmC ty v1) := Lib.hid (fun _ _ => rfl)
    have HCm : Hid (∀ Av cv, wC (D : Int) nmC ty (.slice Av (ansL nmC ty ls).length cv) = MV.cells ⟨(D : Int), true, false, false, 0, nmC, ty, Av, cv, ansL nmC ty ls, none, 0, []⟩) := Lib.hid (fun _ _ => rfl)
    have hgl := heap_lt HG8.out
    generalize wC (D : Int) nmC ty = C at HBw SW ZW OW HC7 HCs HCm
    have HW0 : Hid (WaAt (w7.heap.size + 2) (w7.alloc (.cells MC 31)) ((w7.alloc (.cells MC 31)).alloc (.cells (C (.slice none 0 0)) 31)) (w7.heap.size + 1) C (ansL nmC ty (ls.take 0)) (.slice none 0 0)) := Lib.hid ⟨by
      have h := heap_alloc_last (w7.alloc (.cells MC 31)) (.cells (C (.slice none 0 0)) 31)
      rwa [World.size_alloc] at h, World.ownsRow_nil _ _ _ _, (Below.refl _ _).alloc (Nat.le_refl _) _, by omega, by rw [World.size_alloc]; omega, by rw [World.size_alloc, World.size_alloc]; omega⟩
    clear hgl
    go_wp2_with (first
      | (refine wpList_alloc_z rfl 31 rfl zMsg ZM.out ?_; go_simp)
      | (refine wpList_store_new rfl 31 (.tmp 11) (.tmp 62) rfl w7.heap.size rfl zMsg MC 31 rfl rfl SM.out ZC.out OM.out ?_; go_simp)
      | (refine wpList_load_agg rfl 28 (.tmp 66) rfl ⟨g, 5, none⟩ rfl #[.string nmC, .int .i64 ty] _ HQc.out Tryd.underlying28 rfl SQ.out ?_; go_simp)
      | (refine wpList_build_v rfl 31 #[(0, .tmp 65), (1, .const (.bool true)), (5, .tmp 67)] rfl _ (C (.slice none 0 0)) HBw.out rfl ?_; go_simp)
      | (refine wpList_store_new rfl 31 (.tmp 13) (.tmp 68) rfl (w7.heap.size + 1) (World.size_alloc ..) zMsg (C (.slice none 0 0)) 31 rfl rfl (SW.out _) ZW.out OW.out ?_; go_simp))
    clear q0 HQc SQ HG8 ZW OW HBw HC5 ZC OM ZM SQm
    generalize (w7.alloc (.cells MC 31)).alloc (.cells (C (.slice none 0 0)) 31) = w9 at HW0 ⊢
    generalize w7.alloc (.cells MC 31) = Ub at HB8 HM8 HL8 HW0
    generalize w7.heap.size = gm at HM8 HW0 ⊢
    obtain ⟨i0, hi, hz0, hz1, hz2⟩ := info_rec
    have HI := Lib.hid hi
    have HZ0 := Lib.hid hz0
    have HZ1 := Lib.hid hz1
    have HZ2 := Lib.hid hz2
    have HZ := Lib.hid lZeroAt
    obtain ⟨Z, hZd⟩ : ∃ Z, Z = lvZero.cells.toArray := ⟨_, rfl⟩
    rw [← hZd] at HZ
    have HZs : Hid (Z.size = 18) := Lib.hid (by rw [hZd, List.size_toArray]; exact LV.size rfl)
    clear hi hz0 hz1 hz2 hZd
    generalize hgw : gm + 1 = gw at *
    generalize hbase : gm + 2 = base at *
    clear hgw hbase
    go_wp2_with fail
    go_loopw [71] (fun i wr => ∃ (k : Nat) (v : Value), k ≤ ls.length ∧ i = .int .i64 k ∧ Hid (WaAt base Ub wr gw C (ansL nmC ty (ls.take k)) v)) (fun i _ => ls.length - (intOf i).toNat)
    case atStart => exact ⟨0, _, by omega, rfl, HW0⟩
    case round =>
      obtain ⟨k, v, hk, rfl, HP⟩ := hrel
      obtain ⟨Av, cv, rfl⟩ := own_sl4 HP.out.own
      clear HW0
      by_cases hlt : k < ls.length
      · have hkI : (k : Int) < (ls.length : Int) := by omega
        obtain ⟨y, hy⟩ : ∃ y, ls[k]? = some y := ⟨_, List.getElem?_eq_getElem hlt⟩
        have hyl := HLs.out y (List.mem_of_getElem? hy)
        obtain ⟨b, o, rfl, hbl, hcells⟩ := (RowsAt.below (RowsAt.below HA.out HB8.out.below) HP.out.below) (by rw [List.length_map]; omega)
        have HYC : Hid (∀ j v, y.cells.toArray.toList[j]? = some v → wr.cell? ((⟨b, o + k * 18, none⟩ : Addr).add j) = some v) := Lib.hid (fun j v hj => by
          rw [Addr.add_lit]
          exact hcells k y.cells (by rw [List.getElem?_map, hy]; rfl) j v hj)
        have HYS := Lib.hid (lSize hyl)
        have HYO := Lib.hid (LV.one y)
        have HYZ : Hid (Z.size = y.cells.toArray.size) := Lib.hid (by rw [HZs.out, List.size_toArray, LV.size hyl])
        have HP1 := Lib.hid (HP.out.to ((Below.refl _ wr).alloc (Nat.le_refl _) (.cells y.cells.toArray 42)))
        have HG1 := heap_alloc_last wr (.cells y.cells.toArray 42)
        have HIs := Lib.hid (fun W => is4a_e y.addr hyl W)
        have hsn := ansL_snoc (S := nmC) (ty := ty) hy
        have HSx : Hid ((Tryd.prog.info? 40).map (·.size) = some (bvs y.addr).toArray.size) := Lib.hid (sizeBv hyl)
        have HX1 : Hid (∀ j v, (bvs y.addr).toArray.toList[j]? = some v → (wr.alloc (.cells y.cells.toArray 42)).cell? ((⟨wr.heap.size, 0, none⟩ : Addr).add j) = some v) := Lib.hid (fun j v hj => by
          rw [Addr.add_lit, Nat.zero_add, cell_of_row _ _ _ _ _ _ HG1]
          unfold LV.cells
          rw [List.getElem?_toArray, List.getElem?_append_left (by have h := (List.getElem?_eq_some_iff.1 hj).1; simpa using h)]
          simpa using hj)
        have HBu := Lib.hid (builtR nmC ty hyl)
        obtain ⟨rl, hrl⟩ : ∃ rl : List Value, (lrec nmC ty y).cells = rl.toArray := ⟨(lrec nmC ty y).cells.toList, by rw [Array.toArray_toList]⟩
        have hrl2 : RV.cells ⟨nmC, ty, 30, y.addr, emp, emp⟩ = rl.toArray := hrl
        have HCL : Hid (rl.length = 21) := Lib.hid (by have h := RV.size (r := lrec nmC ty y) hyl; rw [hrl] at h; simpa using h)
        have HC1 : Hid (∀ u ∈ rl, u.oneCell' = true) := Lib.hid (fun u hu => by
          have h := RV.one (lrec nmC ty y)
          rw [Array.all_eq_true'] at h
          exact h u (by rw [hrl]; simpa using hu))
        rw [hrl2] at HBu
        have hlen := ansL_len nmC ty (ls.take k)
        rw [List.length_take] at hlen
        have hlen2 : (ansL nmC ty (ls.take k)).length ≤ 1000 := by omega
        have HNo : Hid ((famT y.addr == ty) = false → ∀ W, Hid (WaAt base Ub W gw C (ansL nmC ty (ls.take k)) (.slice Av (ansL nmC ty (ls.take k)).length cv)) → Hid (WaAt base Ub W gw C (ansL nmC ty (ls.take (k + 1))) (.slice Av (ansL nmC ty (ls.take k)).length cv))) := Lib.hid (fun hf W h => by
          rw [hf] at hsn
          rw [hsn]; exact h)
        have HYes : Hid ((famT y.addr == ty) = true → ∀ W v, Hid (WaAt base Ub W gw C (ansL nmC ty (ls.take k)) v) → ∀ v1 w1, w1.ownsRow base 45 21 v1 ((ansL nmC ty (ls.take k)).length + 1) (rcs (ansL nmC ty (ls.take k)) ++ rl) → W.grownBy w1 v.ownBlock →
            w1.heap[gw]? = some (.cells (C v) 31 (0, 0)) ∧ WaAt base Ub (w1.setCell ⟨gw, 7, none⟩ v1) gw C (ansL nmC ty (ls.take (k + 1))) v1) := Lib.hid (fun hf W v h v1 w1 h1 h2 => by
          rw [if_pos hf] at hsn
          rw [hsn]
          have e : rl = (lrec nmC ty y).cells.toList := by rw [hrl]
          rw [e] at h1
          exact h.out.app HCs.out h1 h2)
        have hfam : (isV4 y.addr = true → famT y.addr = 1) ∧ (isV4 y.addr = false → famT y.addr = 28) := ⟨fun h => by unfold famT; rw [if_pos h], fun h => by unfold famT; rw [h]; rfl⟩
        have HXt : Hid (∀ (W W' : World), Below W.heap.size W W' → (∀ j v, (bvs y.addr).toArray.toList[j]? = some v → W.cell? ((⟨wr.heap.size, 0, none⟩ : Addr).add j) = some v) → (∀ j v, (bvs y.addr).toArray.toList[j]? = some v → W'.cell? ((⟨wr.heap.size, 0, none⟩ : Addr).add j) = some v)) := Lib.hid (fun W W' hb h j v hj => by
          have h1 := h j v hj
          rw [Addr.add_lit] at h1 ⊢
          exact (hb.cell (p := ⟨wr.heap.size, 0 + j, none⟩) (by
            show wr.heap.size < W.heap.size
            rcases Nat.lt_or_ge wr.heap.size W.heap.size with h' | h'
            · exact h'
            · unfold World.cell? at h1
              rw [Array.getElem?_eq_none h'] at h1
              simp at h1)).trans h1)
        obtain ⟨xl, hxl⟩ : ∃ xl, xl = bvs y.addr := ⟨_, rfl⟩
        rw [← hxl] at HIs HSx HX1 HBu HXt
        generalize hft : famT y.addr = ft at HNo HYes hfam
        generalize isV4 y.addr = q at HIs hfam
        generalize y.cells.toArray = yc at HYC HYS HYO HYZ HP1 HX1
        have HFa := Lib.hid hfam
        clear hcells hbl hy hyl hsn hrl hrl2 hxl hft hfam HG1 HP HCs hlen
        by_cases h1 : ty = 1
        · subst h1
          cases q with
          | true =>
            have hft := HFa.out.1 rfl
            replace HYes := Lib.hid (HYes.out (by rw [hft]; rfl))
            clear hft HFa HNo
            have HNo : Hid True := Lib.hid trivial
            go_upto_region 17 with (first
              | (refine wpList_load_agg rfl 42 (.tmp 73) rfl ⟨b, o + k * 18, none⟩ rfl yc _ HYC.out Tryd.underlying42 rfl HYS.out ?_; go_simp)
              | (refine wpList_alloc_z rfl 42 rfl Z HZ.out ?_; go_simp)
              | (refine wpList_store_new rfl 42 (.tmp 15) (.tmp 74) rfl wr.heap.size rfl Z yc 42 rfl rfl HYS.out HYZ.out HYO.out ?_; go_simp))
            go_wp2_with (refine wpList_load_agg_gh (by kernel_rfl) 40 (.tmp 78) rfl ⟨wr.heap.size, 0, none⟩ rfl xl.toArray _ HX1.out Tryd.underlying40 rfl HSx.out ?_; go_simp)
            refine (HIs.out _).mono ?_
            rintro e w8 ⟨rfl, hb8⟩
            have HP8 := Lib.hid (HP1.out.to hb8)
            have HX8 := Lib.hid (HXt.out _ _ hb8 HX1.out)
            clear hb8 HP1 HX1
            go_upto_region 18 with fail
            have d7 := (cell_of_row _ gw 7 _ _ _ HP8.out.ws).trans (HC7.out _)
            have HPA := Lib.hid (HP8.out.to ((Below.refl _ w8).alloc (Nat.le_refl _) (.cells rl.toArray 45)))
            have HAp := Lib.hid (HYes.out _ _ HPA)
            have HOw := Lib.hid HPA.out.own
            have HBb := Lib.hid HPA.out.hb
            clear HPA HYes HNo
            generalize rcs (ansL nmC 1 (ls.take k)) = rc0 at HOw HAp
            generalize (ansL nmC 1 (ls.take k)).length = nr at *
            have hnr : (nr : Int) ≤ 1000 := by omega
            go_wp2_with (first
              | (refine wpList_load_agg rfl 40 (.tmp 95) rfl ⟨wr.heap.size, 0, none⟩ rfl xl.toArray _ HX8.out Tryd.underlying40 rfl HSx.out ?_; go_simp)
              | (refine wpList_build_v rfl 45 #[(0, .const (.string ⟨#[99, 111, 114, 112]⟩)), (1, .tmp 94), (2, .const (.int .i64 30)), (3, .tmp 96)] rfl _ rl.toArray HBu.out rfl ?_; go_simp)
              | (refine wpList_buildSlice rfl 29 45 1 #[(0, .tmp 97)] rfl rl.toArray i0 _ Tryd.underlying29 HI.out HZ0.out (by rw [HZ1.out]; decide) (by rw [HZ1.out]; decide) (by rw [HZ1.out]; refine (congrArg _ (?_ : _ = [(0, Value.agg rl.toArray)])).trans (fill21r HCL.out); rw [Array.toList_map]; rfl) ?_; go_simp)
              | (at_builtin; refine wpList_append_own (w := w8.alloc (.cells rl.toArray 45)) rfl (.tmp 93) (.tmp 98) 29 rfl base 45 i0 _ 21 80 Tryd.underlying29 HI.out HZ0.out HZ1.out HZ2.out rfl (by decide) (.slice Av nr cv) nr rc0 rfl HOw.out ⟨w8.heap.size, 0, none⟩ 1 1 rl rfl (by rw [HCL.out]) (fun j u hj => by rw [Addr.add_lit, Nat.zero_add, World.cell?_alloc_mark, List.getElem?_toArray]; exact hj) HC1.out (by unfold maxLen; omega) (by omega) HBb.out ?_; intro v1 w9 ho1 hg1 hnil; clear hnil; obtain ⟨A1, ca1, rfl⟩ := own_sl4 ho1; have hap := HAp.out _ w9 ho1 hg1; have d9 := (cell_of_row w9 gw 7 _ _ _ hap.1).trans (HC7.out _); have f9 := frozen_of_row w9 gw 7 _ _ hap.1; have HNX := Lib.hid hap.2; clear ho1 hg1 hap; go_simp))
            go_roundw
            case rel => exact ⟨k + 1, _, by omega, by first | rfl | go_num, HNX⟩
            case measure => simp [intOf]; omega
          | false =>
            have hft := HFa.out.2 rfl
            replace HNo := Lib.hid (HNo.out (by rw [hft]; rfl))
            clear hft HFa HYes
            go_upto_region 17 with (first
              | (refine wpList_load_agg rfl 42 (.tmp 73) rfl ⟨b, o + k * 18, none⟩ rfl yc _ HYC.out Tryd.underlying42 rfl HYS.out ?_; go_simp)
              | (refine wpList_alloc_z rfl 42 rfl Z HZ.out ?_; go_simp)
              | (refine wpList_store_new rfl 42 (.tmp 15) (.tmp 74) rfl wr.heap.size rfl Z yc 42 rfl rfl HYS.out HYZ.out HYO.out ?_; go_simp))
            go_wp2_with (refine wpList_load_agg_gh (by kernel_rfl) 40 (.tmp 78) rfl ⟨wr.heap.size, 0, none⟩ rfl xl.toArray _ HX1.out Tryd.underlying40 rfl HSx.out ?_; go_simp)
            refine (HIs.out _).mono ?_
            rintro e w8 ⟨rfl, hb8⟩
            have HP8 := Lib.hid (HP1.out.to hb8)
            have HX8 := Lib.hid (HXt.out _ _ hb8 HX1.out)
            clear hb8 HP1 HX1
            go_wp2_with fail
            go_roundw
            case rel => exact ⟨k + 1, _, by omega, by first | rfl | go_num, HNo.out _ HP8⟩
            case measure => simp [intOf]; omega
        · by_cases h28 : ty = 28
          · subst h28
            clear h1
            cases q with
            | true =>
              have hft := HFa.out.1 rfl
              replace HNo := Lib.hid (HNo.out (by rw [hft]; rfl))
              clear hft HFa HYes
              go_upto_region 17 with (first
                | (refine wpList_load_agg rfl 42 (.tmp 73) rfl ⟨b, o + k * 18, none⟩ rfl yc _ HYC.out Tryd.underlying42 rfl HYS.out ?_; go_simp)
                | (refine wpList_alloc_z rfl 42 rfl Z HZ.out ?_; go_simp)
                | (refine wpList_store_new rfl 42 (.tmp 15) (.tmp 74) rfl wr.heap.size rfl Z yc 42 rfl rfl HYS.out HYZ.out HYO.out ?_; go_simp))
              go_wp2_with (refine wpList_load_agg_gh (by kernel_rfl) 40 (.tmp 86) rfl ⟨wr.heap.size, 0, none⟩ rfl xl.toArray _ HX1.out Tryd.underlying40 rfl HSx.out ?_; go_simp)
              refine (HIs.out _).mono ?_
              rintro e w8 ⟨rfl, hb8⟩
              have HP8 := Lib.hid (HP1.out.to hb8)
              have HX8 := Lib.hid (HXt.out _ _ hb8 HX1.out)
              clear hb8 HP1 HX1
              go_wp2_with fail
              go_roundw
              case rel => exact ⟨k + 1, _, by omega, by first | rfl | go_num, HNo.out _ HP8⟩
              case measure => simp [intOf]; omega
            | false =>
              have hft := HFa.out.2 rfl
              replace HYes := Lib.hid (HYes.out (by rw [hft]; rfl))
              clear hft HFa HNo
              have HNo : Hid True := Lib.hid trivial
              go_upto_region 17 with (first
                | (refine wpList_load_agg rfl 42 (.tmp 73) rfl ⟨b, o + k * 18, none⟩ rfl yc _ HYC.out Tryd.underlying42 rfl HYS.out ?_; go_simp)
                | (refine wpList_alloc_z rfl 42 rfl Z HZ.out ?_; go_simp)
                | (refine wpList_store_new rfl 42 (.tmp 15) (.tmp 74) rfl wr.heap.size rfl Z yc 42 rfl rfl HYS.out HYZ.out HYO.out ?_; go_simp))
              go_wp2_with (refine wpList_load_agg_gh (by kernel_rfl) 40 (.tmp 86) rfl ⟨wr.heap.size, 0, none⟩ rfl xl.toArray _ HX1.out Tryd.underlying40 rfl HSx.out ?_; go_simp)
              refine (HIs.out _).mono ?_
              rintro e w8 ⟨rfl, hb8⟩
              have HP8 := Lib.hid (HP1.out.to hb8)
              have HX8 := Lib.hid (HXt.out _ _ hb8 HX1.out)
              clear hb8 HP1 HX1
              go_upto_region 18 with fail
              have d7 := (cell_of_row _ gw 7 _ _ _ HP8.out.ws).trans (HC7.out _)
              have HPA := Lib.hid (HP8.out.to ((Below.refl _ w8).alloc (Nat.le_refl _) (.cells rl.toArray 45)))
              have HAp := Lib.hid (HYes.out _ _ HPA)
              have HOw := Lib.hid HPA.out.own
              have HBb := Lib.hid HPA.out.hb
              clear HPA HYes HNo
              generalize rcs (ansL nmC 28 (ls.take k)) = rc0 at HOw HAp
              generalize (ansL nmC 28 (ls.take k)).length = nr at *
              have hnr : (nr : Int) ≤ 1000 := by omega
              go_wp2_with (first
                | (refine wpList_load_agg rfl 40 (.tmp 95) rfl ⟨wr.heap.size, 0, none⟩ rfl xl.toArray _ HX8.out Tryd.underlying40 rfl HSx.out ?_; go_simp)
                | (refine wpList_build_v rfl 45 #[(0, .const (.string ⟨#[99, 111, 114, 112]⟩)), (1, .tmp 94), (2, .const (.int .i64 30)), (3, .tmp 96)] rfl _ rl.toArray HBu.out rfl ?_; go_simp)
                | (refine wpList_buildSlice rfl 29 45 1 #[(0, .tmp 97)] rfl rl.toArray i0 _ Tryd.underlying29 HI.out HZ0.out (by rw [HZ1.out]; decide) (by rw [HZ1.out]; decide) (by rw [HZ1.out]; refine (congrArg _ (?_ : _ = [(0, Value.agg rl.toArray)])).trans (fill21r HCL.out); rw [Array.toList_map]; rfl) ?_; go_simp)
                | (at_builtin; refine wpList_append_own (w := w8.alloc (.cells rl.toArray 45)) rfl (.tmp 93) (.tmp 98) 29 rfl base 45 i0 _ 21 80 Tryd.underlying29 HI.out HZ0.out HZ1.out HZ2.out rfl (by decide) (.slice Av nr cv) nr rc0 rfl HOw.out ⟨w8.heap.size, 0, none⟩ 1 1 rl rfl (by rw [HCL.out]) (fun j u hj => by rw [Addr.add_lit, Nat.zero_add, World.cell?_alloc_mark, List.getElem?_toArray]; exact hj) HC1.out (by unfold maxLen; omega) (by omega) HBb.out ?_; intro v1 w9 ho1 hg1 hnil; clear hnil; obtain ⟨A1, ca1, rfl⟩ := own_sl4 ho1; have hap := HAp.out _ w9 ho1 hg1; have d9 := (cell_of_row w9 gw 7 _ _ _ hap.1).trans (HC7.out _); have f9 := frozen_of_row w9 gw 7 _ _ hap.1; have HNX := Lib.hid hap.2; clear ho1 hg1 hap; go_simp))
              go_roundw
              case rel => exact ⟨k + 1, _, by omega, by first | rfl | go_num, HNX⟩
              case measure => simp [intOf]; omega
          · have hb1 : (ty == 1) = false := by simpa using h1
            have hb28 : (ty == 28) = false := by simpa using h28
            replace HNo := Lib.hid (HNo.out (by
              cases q with
              | true => rw [HFa.out.1 rfl]; simpa using fun h => h1 h.symm
              | false => rw [HFa.out.2 rfl]; simpa using fun h => h28 h.symm))
            clear h1 h28 HFa HYes
            go_upto_region 17 with (first
              | (refine wpList_load_agg rfl 42 (.tmp 73) rfl ⟨b, o + k * 18, none⟩ rfl yc _ HYC.out Tryd.underlying42 rfl HYS.out ?_; go_simp)
              | (refine wpList_alloc_z rfl 42 rfl Z HZ.out ?_; go_simp)
              | (refine wpList_store_new rfl 42 (.tmp 15) (.tmp 74) rfl wr.heap.size rfl Z yc 42 rfl rfl HYS.out HYZ.out HYO.out ?_; go_simp))
            go_wp2_with fail
            go_roundw
            case rel => exact ⟨k + 1, _, by omega, by first | rfl | go_num, HNo.out _ HP1⟩
            case measure => simp [intOf]; omega
      · have hkI : ¬ (k : Int) < (ls.length : Int) := by omega
        obtain rfl : k = ls.length := by omega
        rw [List.take_length] at HP
        have HMr := Lib.hid ((HP.out.below.block _ (heap_lt HM8.out)).trans HM8.out)
        have HWr := Lib.hid HP.out.ws
        have HBf := Lib.hid (HB8.out.below.trans (HP.out.below.mono HB8.out.below.size))
        have HSm := Lib.hid (HSa.out ⟨(D : Int), true, false, false, 0, nmC, ty, Av, cv, ansL nmC ty ls, none, 0, []⟩ wr HNm.out (HL8.out.below HP.out.below) ⟨own_recs HP.out.own (fun r hr => by obtain ⟨x, hx, _, rfl⟩ := ansL_mem hr; exact HLs.out x hx), fun h => absurd h (by show ¬ 0 < 0; omega)⟩)
        rw [← HCm.out] at HSm
        have SWr := Lib.hid (SW.out (.slice Av (ansL nmC ty ls).length cv))
        clear HP HSa HNm HL8 HM8 HB8 HCm
        generalize C (.slice Av (ansL nmC ty ls).length cv) = CW at HSm HWr SWr
        go_wp2_with (first
          | (refine wpList_row_gh 31 (.tmp 11) (by kernel_rfl) rfl gm rfl 31 MC (0, 0) _ HMr.out Tryd.underlying31 rfl SM.out ?_; go_simp)
          | (refine wpList_row_gh 31 (.tmp 13) (by kernel_rfl) rfl gw rfl 31 CW (0, 0) _ HWr.out Tryd.underlying31 rfl SWr.out ?_; go_simp)
          | (go_at_call 12; refine HSm.out.mono ?_; rintro e w9 ⟨rfl, hb9⟩; have HB9 := Lib.hid (HBf.out.trans (hb9.mono HBf.out.size)); clear hb9; go_simp))
        go_ret
        exact ⟨rfl, HB9.out⟩
  · have h8I : (8 : Int) < (ls.length : Int) := by omega
    clear he hA hls hD hDl hi7 hi7l hj3 hj3l
    go_enter Tryd.func3, Tryd.ntmps3
    go_wp2_with fail
    refine (HFit.out _ (HE.out.below HB0.out.below)).mono ?_
    rintro e w1 ⟨rfl, hb1⟩
    have HB1 := Lib.hid (HB0.out.to hb1)
    clear hb1
    go_wp2_with fail
    go_ret
    exact ⟨rfl, HB1.out.below⟩
end Go.Proofs.YtakfokdjdljjjaaDoor
