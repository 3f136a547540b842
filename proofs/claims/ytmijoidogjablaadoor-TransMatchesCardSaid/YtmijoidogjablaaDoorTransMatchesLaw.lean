/-
  The walk of TransMatches: an answer is taken just if it comes on its link, of its generation, from its server, to its port, with its number and question. Condition: the library's variable MaxLen holds some number.
-/
import Derived.Test.YtmijoidogjablaaDoorTrTm
namespace Go.Proofs.YtmijoidogjablaaDoor
open Go.RowKit

theorem zeroA0 : (Tryd.prog.info? 32).map (·.zero) = some (some (.agg (bvs zero16).toArray)) := zeroAddr
theorem ofC_one (a0 a1 a2 a3 a4 a5 a6 : Bool) : (ofC a0 a1 a2 a3 a4 a5 a6).size = 7 := rfl
theorem range_ad {W : World} {g : Nat} {TC : Array Value} {x : List UInt8} {t : TypeId} (h : W.heap[g]? = some (.cells TC t (0, 0))) (hs : ∀ j v, (bvs x).toArray.toList[j]? = some v → TC[4 + j]? = some v) : W.rangeAt g 4 (bvs x).toArray.toList := fun j v hv =>
  (cell_of_row W g (4 + j) _ _ _ h).trans (hs j v hv)
theorem want_eq {D' D t' ty lk' lk gn' gn P' P : Int} {S : ByteArray} {y x : List UInt8} {group a0 a1 a2 a3 a4 a5 a6 : Bool} (h1 : (D' == D) = !a1) (h2 : (t' == ty) = !a2) (h3 : (lk' == lk) = !a3) (h4 : (gn' == gn) = !a4) (h5 : (y == x) = !a5) (h6 : (P' == P) = !a6) :
    wantT group a0 a1 a2 a3 a4 a5 a6 = (comB lk gn x P group lk' gn' y P' && ansB S ty D (!a0) D' S t') := by
  unfold wantT comB ansB
  rw [h1, h2, h3, h4, h5, h6]
  have hS : (S.toList == S.toList) = true := by simp
  rw [hS]
  cases a0 <;> cases a1 <;> cases a2 <;> cases a3 <;> cases a4 <;> cases a5 <;> cases a6 <;> cases group <;> rfl
set_option maxRecDepth 100000 in
set_option maxHeartbeats 16000000 in
theorem transMatches_walk (n : Int) (group a0 a1 a2 a3 a4 a5 a6 : Bool) (w : World) (he : Env w) : Calls Tryd.prog 5 #[.int .i64 n, .bool group, .agg (ofC a0 a1 a2 a3 a4 a5 a6)] w fun e w' => e = .returned (.bool true) ∧ Below w.heap.size w w' := by
  have HFit := Lib.hid fit13_e
  have HE := Lib.hid he
  obtain ⟨i, t, lk, gn, D, x, hbu⟩ := bu_ex n
  have HBd := Lib.hid (fun W => bu_e hbu group W)
  have HTo := Lib.hid (bu_ok (n := n) (group := group) (i := i) (t := t) (lk := lk) (gn := gn) (D := D) (x := x))
  have HBu := Lib.hid hbu
  have SX : Hid ((Tryd.prog.info? 46).map (·.size) = some (buC n group i t lk gn D x).size) := Lib.hid (by rw [HTo.out.size]; exact sizeT)
  have OX := Lib.hid HTo.out.one
  have ZX : Hid ((trC emp 0 0 0 zero16 0 0 false false 0).size = (buC n group i t lk gn D x).size) := Lib.hid (by rw [HTo.out.size]; rfl)
  have ZT := Lib.hid zeroT
  have ZM := Lib.hid zeroM
  have ZA := Lib.hid zeroAddr
  obtain ⟨OF, hOF⟩ : ∃ OF, OF = ofC a0 a1 a2 a3 a4 a5 a6 := ⟨_, rfl⟩
  have O0 : Hid (OF[0]? = some (.bool a0)) := Lib.hid (by rw [hOF]; rfl)
  have O1 : Hid (OF[1]? = some (.bool a1)) := Lib.hid (by rw [hOF]; rfl)
  have O2 : Hid (OF[2]? = some (.bool a2)) := Lib.hid (by rw [hOF]; rfl)
  have O3 : Hid (OF[3]? = some (.bool a3)) := Lib.hid (by rw [hOF]; rfl)
  have O4 : Hid (OF[4]? = some (.bool a4)) := Lib.hid (by rw [hOF]; rfl)
  have O5 : Hid (OF[5]? = some (.bool a5)) := Lib.hid (by rw [hOF]; rfl)
  have O6 : Hid (OF[6]? = some (.bool a6)) := Lib.hid (by rw [hOF]; rfl)
  rw [← hOF]
  clear hOF hbu he
  have hD0 : (0 : Int) ≤ (D : Int) ∧ (D : Int) ≤ 65535 := by have := HBu.out.hD; omega
  have hT0 : (1 : Int) ≤ 1 + (t : Int) ∧ 1 + (t : Int) ≤ 2 := by have := HBu.out.ht; omega
  obtain ⟨ty, hty⟩ : ∃ ty : Int, ty = 1 + (t : Int) := ⟨_, rfl⟩
  obtain ⟨PP, hPP⟩ : ∃ PP : Int, PP = (drP n : Nat) := ⟨_, rfl⟩
  obtain ⟨LK, hLK⟩ : ∃ LK : Int, LK = (lk : Int) := ⟨_, rfl⟩
  obtain ⟨GN, hGN⟩ : ∃ GN : Int, GN = (gn : Int) := ⟨_, rfl⟩
  obtain ⟨DD, hDD⟩ : ∃ DD : Int, DD = (D : Int) := ⟨_, rfl⟩
  have hPb : PP ≤ 65535 ∧ 0 ≤ PP := by have := drP_le n; omega
  have hLb : LK ≤ 3 ∧ 0 ≤ LK := by have := HBu.out.hl; omega
  have hGb : GN ≤ 3 ∧ 0 ≤ GN := by have := HBu.out.hg; omega
  have HXor : Hid (∃ d : Nat, d ≤ 65535 ∧ d ≠ D ∧ bits BinOp.xor IntKind.i64 DD 1 = (d : Int)) := Lib.hid (by rw [hDD]; exact xor_one HBu.out.hD)
  have HDD := Lib.hid hDD
  have HPl : Hid (∀ (D' t' : Int) (rp : Bool), 0 ≤ D' ∧ D' ≤ 65535 → 1 ≤ t' ∧ t' ≤ 65535 → (qMV D' rp false (bs (plN i)) t').Again) := Lib.hid (fun D' t' rp h1 h2 => qMV_again h1 HBu.out.hi h2)
  rw [← hty, ← hPP, ← hLK, ← hGN, ← hDD] at HTo
  rw [← hty] at hT0
  rw [← hDD] at hD0
  clear hty hPP hLK hGN hDD HBu
  generalize buC n group i t lk gn D x = TC at HBd HTo SX OX ZX
  generalize bs (plN i) = S at HTo HPl
  have HOne : Hid (∀ (D t : Int) (rp : Bool), (qMV D rp false S t).cells.all (·.oneCell') = true) := Lib.hid (fun D t rp => MV.one _)
  go_enter Tryd.func5, Tryd.ntmps5
  go_wp2_with fail
  refine (HFit.out _ (HE.out.below ((Below.refl _ w).alloc (Nat.le_refl _) _))).mono ?_
  rintro e w1 ⟨rfl, hb1⟩
  have HA1 : Hid (w1.heap[w.heap.size]? = some (.cells OF 44 (0, 0))) := Lib.hid ((hb1.block w.heap.size (by simp)).trans (heap_alloc_last w _))
  have HB1 : Hid (Below w.heap.size w w1) := Lib.hid (((Below.refl _ w).alloc (Nat.le_refl _) _).trans (hb1.mono (by simp)))
  clear hb1
  go_wp2_with fail
  refine (HBd.out w1).mono ?_
  rintro e wb ⟨rfl, hbb⟩
  have hl1 := heap_lt HA1.out
  have HA2 := Lib.hid ((hbb.block _ hl1).trans HA1.out)
  have HB2 := Lib.hid (HB1.out.trans (hbb.mono HB1.out.size))
  have hlb : w.heap.size < wb.heap.size := Nat.lt_of_lt_of_le hl1 hbb.size
  clear hbb HA1 HB1 hl1
  have hG1 := heap_alloc_last wb (.cells TC 46)
  have hA3 := (Below.heap_alloc wb (.cells TC 46) _ hlb).trans HA2.out
  have d20 := (cell_of_row _ wb.heap.size 20 _ _ _ hG1).trans HTo.out.c20
  have o0 := (cell_of_row _ w.heap.size 0 _ _ _ hA3).trans O0.out
  have HXQ := Lib.hid (q_cells (off := 0) hG1 HTo.out.c0 HTo.out.c1)
  have SQ := Lib.hid sizeQ
  have BM := Lib.hid (builtM0 DD (!a0) S ty)
  have HTM : Hid (TmAt w ((wb.alloc (.cells TC 46)).alloc (.cells (qMV DD (!a0) false S ty).cells 29)) OF TC (qMV DD (!a0) false S ty).cells wb.heap.size (wb.heap.size + 1)) := Lib.hid (by
    have hl := heap_lt hA3
    refine ⟨(Below.heap_alloc _ _ _ hl).trans hA3, heap_two wb _ _, ?_, hlb, by omega, (HB2.out.alloc (by omega) _).alloc (by simp; omega) _⟩
    have := heap_alloc_last (wb.alloc (.cells TC 46)) (.cells (qMV DD (!a0) false S ty).cells 29)
    rwa [World.size_alloc] at this)
  have o1 := HTM.out.off 1 O1.out
  have SM0 : Hid ((Tryd.prog.info? 29).map (·.size) = some (qMV DD (!a0) false S ty).cells.size) := Lib.hid sizeM
  have OM0 := Lib.hid (HOne.out DD ty (!a0))
  have ZMs : Hid (zMsg.size = (qMV DD (!a0) false S ty).cells.size) := Lib.hid rfl
  clear hG1 hA3
  generalize hm0 : (qMV DD (!a0) false S ty).cells = MC0 at BM HTM o1 SM0 OM0 ZMs
  have HM0 := Lib.hid hm0
  clear hm0
  go_upto_if 30 with (first
    | (refine wpList_alloc_z rfl 46 rfl _ ZT.out ?_; go_simp)
    | (refine wpList_store_new rfl 46 (.tmp 7) (.tmp 20) rfl wb.heap.size rfl _ TC 46 rfl rfl SX.out ZX.out OX.out ?_; go_simp)
    | (refine wpList_load_agg rfl 26 (.tmp 26) rfl ⟨wb.heap.size, 0, none⟩ rfl #[.string S, .int .i64 ty] _ HXQ.out Tryd.underlying26 rfl SQ.out ?_; go_simp)
    | (refine wpList_build_v rfl 29 #[(0, .tmp 22), (1, .tmp 25), (5, .tmp 27)] rfl _ MC0 BM.out rfl ?_; go_simp)
    | (refine wpList_alloc_z rfl 29 rfl zMsg ZM.out ?_; go_simp)
    | (refine wpList_store_new rfl 29 (.tmp 8) (.tmp 28) rfl (wb.heap.size + 1) (World.size_alloc ..) zMsg MC0 29 rfl rfl SM0.out ZMs.out OM0.out ?_; go_simp))
  clear d20 o0 HXQ BM SM0 OM0 ZMs HA2 HB2
  have HTM := Lib.hid (show TmAt w ((wb.alloc (.cells TC 46)).alloc (.cells MC0 29)) OF TC (qMV DD (!a0) false S ty).cells wb.heap.size (wb.heap.size + 1) from by rw [HM0.out]; exact HTM.out)
  clear HM0
  generalize (wb.alloc (.cells TC 46)).alloc (.cells MC0 29) = W2 at HTM o1 ⊢
  generalize wb.heap.size = gt at HTM hlb ⊢
  go_cut [8] from 31 to 34 (fun t8 wx => t8 = .pointer (some ⟨gt + 1, 0, none⟩) ∧ ∃ D' : Int, (0 ≤ D' ∧ D' ≤ 65535) ∧ Hid ((D' == DD) = !a1) ∧ Hid (TmAt w wx OF TC (qMV D' (!a0) false S ty).cells gt (gt + 1)))
  case first =>
    cases a1 with
    | false =>
      go_wp2_with fail
      go_meet
      case rel => exact ⟨rfl, DD, hD0, Lib.hid (by simp), HTM⟩
    | true =>
      have d0 := HTM.out.ms 0 (v := .int .i64 DD) rfl
      have f0 := frozen_of_row W2 (gt + 1) 0 _ _ HTM.out.m
      obtain ⟨d, hd, hne, hx⟩ := HXor.out
      have HNe : Hid (((d : Int) == DD) = false) := Lib.hid (by rw [HDD.out]; simp; omega)
      have HS1 := Lib.hid (HTM.out.set 0 (.int .i64 (d : Nat)))
      clear hne
      go_wp2_with fail
      go_meet
      case rel => exact ⟨rfl, (d : Nat), by omega, HNe, HS1⟩
  case rest =>
  obtain ⟨rfl, D1, hD1, HDe, HTM1⟩ := hcut
  clear HTM o1 HXor HDD hD0
  revert HTM1
  generalize wc = W3
  intro HTM1
  have o2 := HTM1.out.off 2 O2.out
  go_upto_if 36 with fail
  go_cut [8] from 37 to 42 (fun t8 wx => t8 = .pointer (some ⟨gt + 1, 0, none⟩) ∧ ∃ t' : Int, (1 ≤ t' ∧ t' ≤ 65535) ∧ Hid ((t' == ty) = !a2) ∧ Hid (TmAt w wx OF TC (qMV D1 (!a0) false S t').cells gt (gt + 1)))
  case first =>
    cases a2 with
    | false =>
      go_wp2_with fail
      go_meet
      case rel => exact ⟨rfl, ty, by omega, Lib.hid (by simp), HTM1⟩
    | true =>
      have d0 := HTM1.out.ms 6 (v := .int .i64 ty) rfl
      have f0 := frozen_of_row W3 (gt + 1) 6 _ _ HTM1.out.m
      have HNe : Hid (((ty + 1 : Int) == ty) = false) := Lib.hid (beq_eq_false_iff_ne.2 (by omega))
      have HS1 := Lib.hid (HTM1.out.set 6 (.int .i64 (ty + 1)))
      go_wp2_with fail
      go_meet
      case rel => exact ⟨rfl, ty + 1, by omega, HNe, HS1⟩
  case rest =>
  obtain ⟨rfl, t1, ht1, HTe, HTM2⟩ := hcut
  clear HTM1 o2 hT0
  revert HTM2
  generalize wc = W4
  intro HTM2
  have HAg := Lib.hid (HPl.out D1 t1 (!a0) hD1 ht1)
  have HML : Hid (∀ W, (qMV D1 (!a0) false S t1).Lies W) := Lib.hid (fun W => qMV_lies _ _ _ _ _ W)
  go_upto_region 9 with fail
  go_cut [9, 10, 11, 12] from 43 to 50 (fun t9 t10 t11 t12 wx => t9 = .int .i64 LK ∧ t10 = .int .i64 GN ∧ t12 = .int .i64 PP ∧ ∃ gy, t11 = .pointer (some ⟨gy, 0, none⟩) ∧ Hid (gt + 1 < gy ∧ wx.heap[gy]? = some (.cells (bvs (ad15 x)).toArray 32 (0, 0))) ∧ Hid (TmAt w wx OF TC (qMV D1 (!a0) false S t1).cells gt (gt + 1)))
  case first =>
    have HC2 := Lib.hid (fun W (h : Below W4.heap.size W4 W) => (HTM2.out.to h).tr 2 HTo.out.c2)
    have HC3 := Lib.hid (fun W (h : Below W4.heap.size W4 W) => (HTM2.out.to h).tr 3 HTo.out.c3)
    have HC21 := Lib.hid (fun W (h : Below W4.heap.size W4 W) => (HTM2.out.to h).tr 21 HTo.out.c21)
    have HXA : Hid (∀ W, Below W4.heap.size W4 W → W.rangeAt gt 4 (bvs (ad15 x)).toArray.toList) := Lib.hid (fun W h => range_ad (HTM2.out.to h).t HTo.out.ad)
    have SAl : Hid ((Tryd.prog.info? 32).map (·.size) = some (bvs (ad15 x)).toArray.toList.length) := Lib.hid sizeAddr
    have SA : Hid ((Tryd.prog.info? 32).map (·.size) = some (bvs (ad15 x)).toArray.size) := Lib.hid sizeAddr
    have OA := Lib.hid (oneBv (ad15 x))
    have hlm := heap_lt HTM2.out.m
    have hla : (bvs (ad15 x)).toArray.size = 16 := rfl
    have ZAs : Hid ((bvs zero16).toArray.size = (bvs (ad15 x)).toArray.size) := Lib.hid rfl
    clear hla
    generalize hXA : (bvs (ad15 x)).toArray = XA at HXA SAl SA OA ZAs
    generalize (bvs zero16).toArray = Z16 at ZA ZAs
    refine wp_region_held_drew (S := (fun W : World => Below W4.heap.size W4 W)) (by kernel_rfl) (Below.refl _ W4).drew (fun hHeld => ?_)
    have HV0 : Hid (Below W4.heap.size W4 W4.drew) := Lib.hid (Below.refl _ W4).drew
    generalize W4.drew = V0 at HV0 hHeld ⊢
    refine wpAnyH_take (i := 0) (oi := ({ dst := some 43, op := Go.Op.fieldAddr 46 (Go.Operand.tmp 7) 1, type := 0, pos := "law.go:38", after := #[], guard := none } : Oper)) (v := .pointer (some ⟨gt, 2, none⟩)) rfl (by kernel_rfl) (by kernel_rfl) (by kernel_rfl) (fun _ _ _ h => h) (Or.inl ⟨by rfl, fun w' hS' => ?_⟩) hHeld ?_
    · go_simp
    try simp only [Act.put, List.setIfInBounds_toArray, List.set_cons_zero, List.set_cons_succ]
    refine wpAnyH_take (i := 1) (oi := ({ dst := some 44, op := Go.Op.load 3 (Go.Operand.tmp 43), type := 3, pos := "law.go:38", after := #[{ on := 0, ground := Go.Ground.data }], guard := none } : Oper)) (v := .int .i64 LK) rfl (by kernel_rfl) (by kernel_rfl) (by kernel_rfl) (fun _ _ _ h => h) (Or.inl ⟨by rfl, fun w' hS' => ?_⟩) hHeld ?_
    · have d := HC2.out w' hS'; go_simp
    try simp only [Act.put, List.setIfInBounds_toArray, List.set_cons_zero, List.set_cons_succ]
    refine wpAnyH_take (i := 2) (oi := ({ dst := some 45, op := Go.Op.fieldAddr 46 (Go.Operand.tmp 7) 2, type := 0, pos := "law.go:38", after := #[{ on := 9, ground := Go.Ground.gcOnly Go.Departure.lateStores }], guard := none } : Oper)) (v := .pointer (some ⟨gt, 3, none⟩)) rfl (by kernel_rfl) (by kernel_rfl) (by kernel_rfl) (fun _ _ _ h => h) (Or.inl ⟨by rfl, fun w' hS' => ?_⟩) hHeld ?_
    · go_simp
    try simp only [Act.put, List.setIfInBounds_toArray, List.set_cons_zero, List.set_cons_succ]
    refine wpAnyH_take (i := 3) (oi := ({ dst := some 46, op := Go.Op.load 3 (Go.Operand.tmp 45), type := 3, pos := "law.go:38", after := #[{ on := 2, ground := Go.Ground.data }, { on := 9, ground := Go.Ground.gcOnly Go.Departure.lateStores }], guard := none } : Oper)) (v := .int .i64 GN) rfl (by kernel_rfl) (by kernel_rfl) (by kernel_rfl) (fun _ _ _ h => h) (Or.inl ⟨by rfl, fun w' hS' => ?_⟩) hHeld ?_
    · have d := HC3.out w' hS'; go_simp
    try simp only [Act.put, List.setIfInBounds_toArray, List.set_cons_zero, List.set_cons_succ]
    refine wpAnyH_take (i := 4) (oi := ({ dst := some 47, op := Go.Op.fieldAddr 46 (Go.Operand.tmp 7) 3, type := 0, pos := "law.go:38", after := #[{ on := 10, ground := Go.Ground.gcOnly Go.Departure.lateStores }], guard := none } : Oper)) (v := .pointer (some ⟨gt, 4, none⟩)) rfl (by kernel_rfl) (by kernel_rfl) (by kernel_rfl) (fun _ _ _ h => h) (Or.inl ⟨by rfl, fun w' hS' => ?_⟩) hHeld ?_
    · go_simp
    try simp only [Act.put, List.setIfInBounds_toArray, List.set_cons_zero, List.set_cons_succ]
    refine wpAnyH_take (i := 5) (oi := ({ dst := some 48, op := Go.Op.load 32 (Go.Operand.tmp 47), type := 32, pos := "law.go:38", after := #[{ on := 4, ground := Go.Ground.data }, { on := 10, ground := Go.Ground.gcOnly Go.Departure.lateStores }], guard := none } : Oper)) (v := .agg XA.toList.toArray) rfl (by kernel_rfl) (by kernel_rfl) (by kernel_rfl) (fun _ _ _ h => h) (yieldsIf_load_mid (by rfl) _ _ rfl _ _ rfl _ _ (fun W h => HXA.out W h) Tryd.underlying32 rfl SAl.out) hHeld ?_
    try simp only [Act.put, List.setIfInBounds_toArray, List.set_cons_zero, List.set_cons_succ]
    refine wpAnyH_take (i := 6) (oi := ({ dst := some 49, op := Go.Op.fieldAddr 46 (Go.Operand.tmp 7) 5, type := 0, pos := "law.go:38", after := #[{ on := 11, ground := Go.Ground.gcOnly Go.Departure.lateStores }], guard := none } : Oper)) (v := .pointer (some ⟨gt, 21, none⟩)) rfl (by kernel_rfl) (by kernel_rfl) (by kernel_rfl) (fun _ _ _ h => h) (Or.inl ⟨by rfl, fun w' hS' => ?_⟩) hHeld ?_
    · go_simp
    try simp only [Act.put, List.setIfInBounds_toArray, List.set_cons_zero, List.set_cons_succ]
    refine wpAnyH_take (i := 7) (oi := ({ dst := some 50, op := Go.Op.load 3 (Go.Operand.tmp 49), type := 3, pos := "law.go:38", after := #[{ on := 6, ground := Go.Ground.data }, { on := 11, ground := Go.Ground.gcOnly Go.Departure.lateStores }], guard := none } : Oper)) (v := .int .i64 PP) rfl (by kernel_rfl) (by kernel_rfl) (by kernel_rfl) (fun _ _ _ h => h) (Or.inl ⟨by rfl, fun w' hS' => ?_⟩) hHeld ?_
    · have d := HC21.out w' hS'; go_simp
    try simp only [Act.put, List.setIfInBounds_toArray, List.set_cons_zero, List.set_cons_succ]
    refine wpAnyH_ready (rs := [8]) (by kernel_rfl) (by simp) ?_
    refine AllReadyH.cons (o := ({ dst := some 11, op := Go.Op.alloc 32, type := 0, pos := "law.go:38", after := #[], guard := none } : Oper)) rfl (fun K hK => ?_) AllReadyH.nil
    refine step_alloc_z rfl 32 rfl Z16 ZA.out ?_
    refine hK.out _ _ (HV0.out.alloc HV0.out.size _) (fun hHeld => ?_)
    clear hK K
    try simp only [Act.put, List.setIfInBounds_toArray, List.set_cons_zero, List.set_cons_succ]
    have HU : Hid (Below W4.heap.size W4 (V0.alloc (.cells Z16 32))) := Lib.hid (HV0.out.alloc HV0.out.size _)
    have HUg := Lib.hid (heap_alloc_last V0 (.cells Z16 32))
    have hgy := HV0.out.size
    generalize V0.alloc (.cells Z16 32) = U at HU HUg hHeld ⊢
    generalize V0.heap.size = gy at HUg hgy ⊢
    refine wpAnyH_take (i := 9) (oi := ({ dst := some 9, op := Go.Op.assign (Go.Operand.tmp 44), type := 3, pos := "law.go:38", after := #[{ on := 1, ground := Go.Ground.data }, { on := 0, ground := Go.Ground.phase }, { on := 1, ground := Go.Ground.phase }, { on := 2, ground := Go.Ground.textOnly Go.Departure.lateStores }, { on := 3, ground := Go.Ground.textOnly Go.Departure.lateStores }, { on := 4, ground := Go.Ground.textOnly Go.Departure.lateStores }, { on := 5, ground := Go.Ground.textOnly Go.Departure.lateStores }, { on := 6, ground := Go.Ground.textOnly Go.Departure.lateStores }, { on := 7, ground := Go.Ground.textOnly Go.Departure.lateStores }, { on := 8, ground := Go.Ground.phase }], guard := none } : Oper)) (v := .int .i64 LK) rfl (by kernel_rfl) (by kernel_rfl) (by kernel_rfl) (fun _ _ _ h => h) (Or.inl ⟨by rfl, fun w' hS' => ?_⟩) hHeld ?_
    · go_simp
    try simp only [Act.put, List.setIfInBounds_toArray, List.set_cons_zero, List.set_cons_succ]
    refine wpAnyH_take (i := 10) (oi := ({ dst := some 10, op := Go.Op.assign (Go.Operand.tmp 46), type := 3, pos := "law.go:38", after := #[{ on := 3, ground := Go.Ground.data }, { on := 9, ground := Go.Ground.chain }, { on := 0, ground := Go.Ground.phase }, { on := 1, ground := Go.Ground.phase }, { on := 2, ground := Go.Ground.phase }, { on := 3, ground := Go.Ground.phase }, { on := 4, ground := Go.Ground.textOnly Go.Departure.lateStores }, { on := 5, ground := Go.Ground.textOnly Go.Departure.lateStores }, { on := 6, ground := Go.Ground.textOnly Go.Departure.lateStores }, { on := 7, ground := Go.Ground.textOnly Go.Departure.lateStores }, { on := 8, ground := Go.Ground.phase }, { on := 9, ground := Go.Ground.phase }], guard := none } : Oper)) (v := .int .i64 GN) rfl (by kernel_rfl) (by kernel_rfl) (by kernel_rfl) (fun _ _ _ h => h) (Or.inl ⟨by rfl, fun w' hS' => ?_⟩) hHeld ?_
    · go_simp
    try simp only [Act.put, List.setIfInBounds_toArray, List.set_cons_zero, List.set_cons_succ]
    refine wpAnyH_ready (rs := [11]) (by kernel_rfl) (by simp) ?_
    refine AllReadyH.cons (o := ({ dst := none, op := Go.Op.store 32 (Go.Operand.tmp 11) (Go.Operand.tmp 48), type := 0, pos := "law.go:38", after := #[{ on := 8, ground := Go.Ground.data }, { on := 5, ground := Go.Ground.data }, { on := 10, ground := Go.Ground.chain }, { on := 0, ground := Go.Ground.phase }, { on := 1, ground := Go.Ground.phase }, { on := 2, ground := Go.Ground.phase }, { on := 3, ground := Go.Ground.phase }, { on := 4, ground := Go.Ground.phase }, { on := 5, ground := Go.Ground.phase }, { on := 6, ground := Go.Ground.textOnly Go.Departure.lateStores }, { on := 7, ground := Go.Ground.textOnly Go.Departure.lateStores }, { on := 8, ground := Go.Ground.phase }, { on := 9, ground := Go.Ground.phase }, { on := 10, ground := Go.Ground.phase }], guard := none } : Oper)) rfl (fun K hK => ?_) AllReadyH.nil
    refine step_store_tr rfl 32 (.tmp 11) (.tmp 48) rfl gy Z16 XA 32 HUg.out rfl rfl SA.out ZAs.out OA.out (fun w4 hg4 hw4 hs4 => ?_)
    have hB4 : Below W4.heap.size W4 w4 := HU.out.grown hw4.out HU.out.size (fun k e => by injection e with e; omega)
    refine hK.out _ _ hB4 (fun hHeld => ?_)
    clear hK K
    refine wpAnyH_take (i := 12) (oi := ({ dst := some 12, op := Go.Op.assign (Go.Operand.tmp 50), type := 3, pos := "law.go:38", after := #[{ on := 7, ground := Go.Ground.data }, { on := 11, ground := Go.Ground.chain }, { on := 0, ground := Go.Ground.phase }, { on := 1, ground := Go.Ground.phase }, { on := 2, ground := Go.Ground.phase }, { on := 3, ground := Go.Ground.phase }, { on := 4, ground := Go.Ground.phase }, { on := 5, ground := Go.Ground.phase }, { on := 6, ground := Go.Ground.phase }, { on := 7, ground := Go.Ground.phase }, { on := 8, ground := Go.Ground.phase }, { on := 9, ground := Go.Ground.phase }, { on := 10, ground := Go.Ground.phase }, { on := 11, ground := Go.Ground.phase }], guard := none } : Oper)) (v := .int .i64 PP) rfl (by kernel_rfl) (by kernel_rfl) (by kernel_rfl) (fun _ _ _ h => h) (Or.inl ⟨by rfl, fun w' hS' => ?_⟩) hHeld ?_
    · go_simp
    try simp only [Act.put, List.setIfInBounds_toArray, List.set_cons_zero, List.set_cons_succ]
    refine wpAnyH_done (by kernel_rfl) ?_ _
    try (go_wp2_with fail)
    go_meet
    case rel => exact ⟨rfl, rfl, rfl, gy, rfl, Lib.hid ⟨by omega, by rw [hXA]; exact hg4.out⟩, Lib.hid (HTM2.out.to hB4)⟩
  case rest =>
  obtain ⟨rfl, rfl, rfl, gy, rfl, HGY, HTM3⟩ := hcut
  clear HTM2
  revert HGY HTM3
  generalize wc = W5
  intro HGY HTM3
  have o3 := HTM3.out.off 3 O3.out
  go_upto_if 52 with fail
  go_cut [9] from 53 to 54 (fun t9 wx => W5 = wx ∧ ∃ v' : Int, t9 = .int .i64 v' ∧ Hid ((v' == LK) = !a3))
  case first =>
    cases a3 with
    | false =>
      go_wp2_with fail
      go_meet
      case rel => exact ⟨rfl, LK, rfl, Lib.hid (by simp)⟩
    | true =>
      have HNe : Hid (((LK + 1 : Int) == LK) = false) := Lib.hid (beq_eq_false_iff_ne.2 (by omega))
      go_wp2_with fail
      go_meet
      case rel => exact ⟨rfl, LK + 1, rfl, HNe⟩
  case rest =>
  obtain ⟨rfl, lk', rfl, Hlk⟩ := hcut
  clear o3
  have o4 := HTM3.out.off 4 O4.out
  go_upto_if 56 with fail
  go_cut [10] from 57 to 58 (fun t10 wx => W5 = wx ∧ ∃ v' : Int, t10 = .int .i64 v' ∧ Hid ((v' == GN) = !a4))
  case first =>
    cases a4 with
    | false =>
      go_wp2_with fail
      go_meet
      case rel => exact ⟨rfl, GN, rfl, Lib.hid (by simp)⟩
    | true =>
      have HNe : Hid (((GN + 1 : Int) == GN) = false) := Lib.hid (beq_eq_false_iff_ne.2 (by omega))
      go_wp2_with fail
      go_meet
      case rel => exact ⟨rfl, GN + 1, rfl, HNe⟩
  case rest =>
  obtain ⟨rfl, gn', rfl, Hgn⟩ := hcut
  clear o4
  have o5 := HTM3.out.off 5 O5.out
  go_upto_if 60 with fail
  go_cut [11] from 61 to 64 (fun t11 wx => t11 = .pointer (some ⟨gy, 0, none⟩) ∧ ∃ y : List UInt8, y.length = 16 ∧ Hid ((y == ad15 x) = !a5) ∧ Hid (wx.heap[gy]? = some (.cells (bvs y).toArray 32 (0, 0))) ∧ Hid (TmAt w wx OF TC (qMV D1 (!a0) false S t1).cells gt (gt + 1)))
  case first =>
    cases a5 with
    | false =>
      go_wp2_with fail
      go_meet
      case rel => exact ⟨rfl, ad15 x, rfl, Lib.hid (by simp), Lib.hid HGY.out.2, HTM3⟩
    | true =>
      have d0 : W5.cell? ⟨gy, 0, none⟩ = some (.int .u8 0) := (cell_of_row W5 gy 0 _ _ _ HGY.out.2).trans rfl
      have f0 := frozen_of_row W5 gy 0 _ _ HGY.out.2
      have HNe : Hid ((((1 : UInt8) :: (ad15 x).drop 1) == ad15 x) = false) := Lib.hid rfl
      have HS1 := Lib.hid (HTM3.out.far HGY.out.1 0 (.int .u8 1))
      have HS2 : Hid ((W5.setCell ⟨gy, 0, none⟩ (.int .u8 1)).heap[gy]? = some (.cells (bvs ((1 : UInt8) :: (ad15 x).drop 1)).toArray 32 (0, 0))) := Lib.hid (heap_setCell_same W5 gy 0 _ _ _ HGY.out.2)
      go_wp2_with fail
      go_meet
      case rel => exact ⟨rfl, _, rfl, HNe, HS2, HS1⟩
  case rest =>
  obtain ⟨rfl, y, hy, HYe, HGy, HTM4⟩ := hcut
  clear HTM3 HGY o5
  revert HGy HTM4
  generalize wc = W6
  intro HGy HTM4
  have o6 := HTM4.out.off 6 O6.out
  go_upto_if 66 with fail
  go_cut [12] from 67 to 68 (fun t12 wx => W6 = wx ∧ ∃ v' : Int, t12 = .int .i64 v' ∧ Hid ((v' == PP) = !a6))
  case first =>
    cases a6 with
    | false =>
      go_wp2_with fail
      go_meet
      case rel => exact ⟨rfl, PP, rfl, Lib.hid (by simp)⟩
    | true =>
      have HNe : Hid (((PP + 1 : Int) == PP) = false) := Lib.hid (beq_eq_false_iff_ne.2 (by omega))
      go_wp2_with fail
      go_meet
      case rel => exact ⟨rfl, PP + 1, rfl, HNe⟩
  case rest =>
  obtain ⟨rfl, P', rfl, HP⟩ := hcut
  clear o6
  go_upto_region 18 with fail
  obtain ⟨okb, hokb⟩ : ∃ okb, okb = (comB LK GN (ad15 x) PP group lk' gn' y P' && ansB S ty DD (qMV D1 (!a0) false S t1).rp (qMV D1 (!a0) false S t1).id (qMV D1 (!a0) false S t1).qn (qMV D1 (!a0) false S t1).qt) := ⟨_, rfl⟩
  obtain ⟨om, hom⟩ : ∃ om, om = some (qMV D1 (!a0) false S t1).nrm := ⟨_, rfl⟩
  have HWant : Hid (wantT group a0 a1 a2 a3 a4 a5 a6 = okb) := Lib.hid (by rw [hokb]; exact want_eq HDe.out HTe.out Hlk.out Hgn.out HYe.out HP.out)
  have HMg := Lib.hid (fun gb cap u h1 h2 h3 W h4 => match_again TC S ty LK GN (ad15 x) DD PP false group HTo.out rfl lk' gn' P' y hy (qMV D1 (!a0) false S t1) HAg.out gb cap u h1 h2 h3 W h4)
  rw [← hokb, ← hom] at HMg
  have HEg := Lib.hid (fun W hW => encode_again (qMV D1 (!a0) false S t1) HAg.out W hW (HML.out W))
  have HOm := Lib.hid hom
  have HE0 := Lib.hid (HE.out.below HTM4.out.below)
  clear hokb hom HDe HTe Hlk Hgn HYe HP
  generalize hL : (enc (qMV D1 (!a0) false S t1).msg).length = LE at HMg
  have HL := Lib.hid hL
  clear hL
  have HSm : Hid (∀ (m' : MV) (W : World), m'.nrm = (qMV D1 (!a0) false S t1).nrm → m'.Fits → m'.Lies W → Calls Tryd.prog 17 #[.agg m'.cells, .agg (qMV D1 (!a0) false S t1).cells] W fun e w' => e = .returned (.bool true) ∧ Below W.heap.size W w') := Lib.hid (fun m' W h1 h2 h3 => same_e m' _ h1 h2 W h3 (HML.out W))
  have SMl : Hid ((Tryd.prog.info? 29).map (·.size) = some (qMV D1 (!a0) false S t1).cells.toList.length) := Lib.hid sizeM9
  have SMr : Hid ((Tryd.prog.info? 29).map (·.size) = some (qMV D1 (!a0) false S t1).cells.size) := Lib.hid sizeM9
  have STl : Hid ((Tryd.prog.info? 46).map (·.size) = some TC.toList.length) := Lib.hid (by rw [Array.length_toList]; exact SX.out)
  have SYl : Hid ((Tryd.prog.info? 32).map (·.size) = some (bvs y).toArray.toList.length) := Lib.hid (by rw [Array.length_toList]; exact sizeBv hy)
  clear hy
  generalize (qMV D1 (!a0) false S t1).cells = MC at HTM4 HEg HSm SMl SMr
  generalize (bvs y).toArray = YC at HGy HMg SYl
  have HXR : Hid (∀ W, Below W6.heap.size W6 W → W.rangeAt gt 0 TC.toList) := Lib.hid (fun W h => range_row (HTM4.out.to h).t)
  have HXM : Hid (∀ W, Below W6.heap.size W6 W → W.rangeAt (gt + 1) 0 MC.toList) := Lib.hid (fun W h => range_row (HTM4.out.to h).m)
  have HXY : Hid (∀ W, Below W6.heap.size W6 W → W.rangeAt gy 0 YC.toList) := Lib.hid (fun W h => range_row ((h.block _ (heap_lt HGy.out)).trans HGy.out))
  have HEn := Lib.hid (fun W (h : Below W6.heap.size W6 W) => HEg.out W (HE0.out.below h))
  rw [HL.out] at HEn
  go_cut [13, 14] from 69 to 79 (fun t13 t14 wx => ∃ g C, t13 = .pointer (some ⟨g, 0, none⟩) ∧ t14 = .bool okb ∧ Hid (EmFin okb om W6 wx g C))
  case first =>
    refine wp_region_held_drew (S := (fun W : World => Below W6.heap.size W6 W)) (by kernel_rfl) (Below.refl _ W6).drew (fun hHeld => ?_)
    have HM0 : Hid (EmAt okb om W6 W6.drew none none none) := Lib.hid ⟨(Below.refl _ W6).drew, (fun g h => by cases h), (fun g h => by cases h), (fun g h => by cases h)⟩
    generalize W6.drew = V0 at HM0 hHeld ⊢
    refine wpAnyH_take (i := 0) (oi := ({ dst := some 70, op := Go.Op.load 46 (Go.Operand.tmp 7), type := 46, pos := "law.go:51", after := #[], guard := none } : Oper)) (v := .agg TC.toList.toArray) rfl (by kernel_rfl) (by kernel_rfl) (by kernel_rfl) (fun _ _ _ h => h) (yieldsIf_load_mid (by rfl) _ _ rfl _ _ rfl _ _ (fun W h => HXR.out W h) Tryd.underlying46 rfl STl.out) hHeld ?_
    try simp only [Act.put, List.setIfInBounds_toArray, List.set_cons_zero, List.set_cons_succ]
    refine wpAnyH_take (i := 1) (oi := ({ dst := some 71, op := Go.Op.move (Go.Operand.tmp 9), type := 3, pos := "law.go:51", after := #[], guard := none } : Oper)) (v := .int .i64 lk') rfl (by kernel_rfl) (by kernel_rfl) (by kernel_rfl) (fun _ _ _ h => h) (Or.inl ⟨by rfl, fun w' hS' => ?_⟩) hHeld ?_
    · go_simp
    try simp only [Act.put, List.setIfInBounds_toArray, List.set_cons_zero, List.set_cons_succ]
    refine wpAnyH_take (i := 2) (oi := ({ dst := some 72, op := Go.Op.move (Go.Operand.tmp 10), type := 3, pos := "law.go:51", after := #[], guard := none } : Oper)) (v := .int .i64 gn') rfl (by kernel_rfl) (by kernel_rfl) (by kernel_rfl) (fun _ _ _ h => h) (Or.inl ⟨by rfl, fun w' hS' => ?_⟩) hHeld ?_
    · go_simp
    try simp only [Act.put, List.setIfInBounds_toArray, List.set_cons_zero, List.set_cons_succ]
    refine wpAnyH_take (i := 3) (oi := ({ dst := some 73, op := Go.Op.load 32 (Go.Operand.tmp 11), type := 32, pos := "law.go:51", after := #[], guard := none } : Oper)) (v := .agg YC.toList.toArray) rfl (by kernel_rfl) (by kernel_rfl) (by kernel_rfl) (fun _ _ _ h => h) (yieldsIf_load_mid (by rfl) _ _ rfl _ _ rfl _ _ (fun W h => HXY.out W h) Tryd.underlying32 rfl SYl.out) hHeld ?_
    try simp only [Act.put, List.setIfInBounds_toArray, List.set_cons_zero, List.set_cons_succ]
    refine wpAnyH_take (i := 4) (oi := ({ dst := some 74, op := Go.Op.move (Go.Operand.tmp 12), type := 3, pos := "law.go:51", after := #[], guard := none } : Oper)) (v := .int .i64 P') rfl (by kernel_rfl) (by kernel_rfl) (by kernel_rfl) (fun _ _ _ h => h) (Or.inl ⟨by rfl, fun w' hS' => ?_⟩) hHeld ?_
    · go_simp
    try simp only [Act.put, List.setIfInBounds_toArray, List.set_cons_zero, List.set_cons_succ]
    refine wpAnyH_take (i := 5) (oi := ({ dst := some 75, op := Go.Op.load 29 (Go.Operand.tmp 8), type := 29, pos := "law.go:51", after := #[], guard := none } : Oper)) (v := .agg MC.toList.toArray) rfl (by kernel_rfl) (by kernel_rfl) (by kernel_rfl) (fun _ _ _ h => h) (yieldsIf_load_mid (by rfl) _ _ rfl _ _ rfl _ _ (fun W h => HXM.out W h) Tryd.underlying29 rfl SMl.out) hHeld ?_
    try simp only [Act.put, List.setIfInBounds_toArray, List.set_cons_zero, List.set_cons_succ]
    refine wpAnyH_ready (rs := [6, 11]) (by kernel_rfl) (by simp) ?_
    refine (AllReadyH.cons (o := ({ dst := some 76, op := Go.Op.call { callee := Go.Callee.value (Go.Operand.func 15), args := #[Go.Operand.tmp 75], argTypes := #[29] }, type := 38, pos := "law.go:51", after := #[{ on := 5, ground := Go.Ground.data }], guard := none } : Oper)) rfl (fun K hK => ?_) (AllReadyH.cons (o := ({ dst := some 13, op := Go.Op.alloc 29, type := 0, pos := "law.go:51", after := #[], guard := none } : Oper)) rfl (fun K hK => ?_) AllReadyH.nil))
    · go_simp
      go_at_call 15
      refine (HEn.out _ HM0.out.below).mono ?_
      rintro e' u1 ⟨gb, cap, rfl, hen⟩
      have HM2 := Lib.hid ((HM0.out.to hen.below).withE)
      have HMt := Lib.hid (HMg.out gb cap u1 (by rw [← HL.out]; exact hen.le) hen.inB (HE0.out.below (HM0.out.to hen.below).below))
      refine hK.out _ _ HM2.out.below (fun hHeld => ?_)
      clear hK K hen
      try simp only [Act.put, List.setIfInBounds_toArray, List.set_cons_zero, List.set_cons_succ]
      refine wpAnyH_ready (rs := [7, 11]) (by kernel_rfl) (by simp) ?_
      refine (AllReadyH.cons (o := ({ dst := some 77, op := Go.Op.call { callee := Go.Callee.value (Go.Operand.func 20), args := #[Go.Operand.tmp 70, Go.Operand.tmp 71, Go.Operand.tmp 72, Go.Operand.tmp 73, Go.Operand.tmp 74, Go.Operand.tmp 76], argTypes := #[46, 3, 3, 32, 3, 38] }, type := 48, pos := "law.go:51", after := #[{ on := 0, ground := Go.Ground.data }, { on := 1, ground := Go.Ground.data }, { on := 2, ground := Go.Ground.data }, { on := 3, ground := Go.Ground.data }, { on := 4, ground := Go.Ground.data }, { on := 6, ground := Go.Ground.data }, { on := 6, ground := Go.Ground.chain }], guard := none } : Oper)) rfl (fun K hK => ?_) (AllReadyH.cons (o := ({ dst := some 13, op := Go.Op.alloc 29, type := 0, pos := "law.go:51", after := #[], guard := none } : Oper)) rfl (fun K hK => ?_) AllReadyH.nil))
      · go_simp
        go_at_call 20
        refine (HMt.out _ (HM2.out.e _ rfl)).mono ?_
        intro e' u3 hmm
        obtain ⟨C, rfl, hbm, hmr⟩ := hmm.flat
        have HM4 := Lib.hid ((HM2.out.to hbm).withM hmr)
        refine hK.out _ _ HM4.out.below (fun hHeld => ?_)
        clear hK K hbm hmm hmr
        try simp only [Act.put, List.setIfInBounds_toArray, List.set_cons_zero, List.set_cons_succ]
        refine wpAnyH_take (i := 8) (oi := ({ dst := some 69, op := Go.Op.move (Go.Operand.tmp 77), type := 48, pos := "law.go:51", after := #[{ on := 7, ground := Go.Ground.data }], guard := none } : Oper)) (v := .tuple #[.agg C, .bool okb]) rfl (by kernel_rfl) (by kernel_rfl) (by kernel_rfl) (fun _ _ _ h => h) (Or.inl ⟨by rfl, fun w' hS' => ?_⟩) hHeld ?_
        · go_simp
        try simp only [Act.put, List.setIfInBounds_toArray, List.set_cons_zero, List.set_cons_succ]
        refine wpAnyH_take (i := 9) (oi := ({ dst := some 78, op := Go.Op.extract (Go.Operand.tmp 69) 0, type := 29, pos := "law.go:51", after := #[{ on := 8, ground := Go.Ground.data }], guard := none } : Oper)) (v := .agg C) rfl (by kernel_rfl) (by kernel_rfl) (by kernel_rfl) (fun _ _ _ h => h) (Or.inl ⟨by rfl, fun w' hS' => ?_⟩) hHeld ?_
        · go_simp
        try simp only [Act.put, List.setIfInBounds_toArray, List.set_cons_zero, List.set_cons_succ]
        refine wpAnyH_take (i := 10) (oi := ({ dst := some 79, op := Go.Op.extract (Go.Operand.tmp 69) 1, type := 4, pos := "law.go:51", after := #[{ on := 8, ground := Go.Ground.data }, { on := 12, ground := Go.Ground.gcOnly Go.Departure.lateStores }], guard := none } : Oper)) (v := .bool okb) rfl (by kernel_rfl) (by kernel_rfl) (by kernel_rfl) (fun _ _ _ h => h) (Or.inl ⟨by rfl, fun w' hS' => ?_⟩) hHeld ?_
        · go_simp
        try simp only [Act.put, List.setIfInBounds_toArray, List.set_cons_zero, List.set_cons_succ]
        refine wpAnyH_ready (rs := [11]) (by kernel_rfl) (by simp) ?_
        refine (AllReadyH.cons (o := ({ dst := some 13, op := Go.Op.alloc 29, type := 0, pos := "law.go:51", after := #[], guard := none } : Oper)) rfl (fun K hK => ?_) AllReadyH.nil)
        go_simp
        refine hK.out _ _ (HM4.out.below.alloc HM4.out.below.size _) (fun hHeld => ?_)
        clear hK K
        try simp only [Act.put, List.setIfInBounds_toArray, List.set_cons_zero, List.set_cons_succ]
        have HM6 := Lib.hid (HM4.out.withA)
        unfold zMsg at HM6
        generalize u3.alloc (.cells #[.int .i64 0, .bool false, .bool false, .bool false, .int .i64 0, .string ⟨#[]⟩, .int .i64 0, .slice none 0 0, .slice none 0 0] 29) = u5 at HM6 hHeld ⊢
        refine wpAnyH_ready (rs := [12]) (by kernel_rfl) (by simp) ?_
        refine (AllReadyH.cons (o := ({ dst := none, op := Go.Op.store 29 (Go.Operand.tmp 13) (Go.Operand.tmp 78), type := 0, pos := "law.go:51", after := #[{ on := 11, ground := Go.Ground.data }, { on := 9, ground := Go.Ground.data }, { on := 7, ground := Go.Ground.chain }, { on := 0, ground := Go.Ground.phase }, { on := 1, ground := Go.Ground.phase }, { on := 2, ground := Go.Ground.phase }, { on := 3, ground := Go.Ground.phase }, { on := 4, ground := Go.Ground.phase }, { on := 5, ground := Go.Ground.phase }, { on := 6, ground := Go.Ground.phase }, { on := 7, ground := Go.Ground.phase }, { on := 8, ground := Go.Ground.phase }, { on := 9, ground := Go.Ground.phase }, { on := 10, ground := Go.Ground.textOnly Go.Departure.lateStores }, { on := 11, ground := Go.Ground.phase }], guard := none } : Oper)) rfl (fun K hK => ?_) AllReadyH.nil)
        obtain ⟨hz9, ho9⟩ := (HM6.out.c C rfl).size
        refine step_store_tr rfl 29 (.tmp 13) (.tmp 78) rfl (u3.heap.size) zMsg C 29 (HM6.out.a _ rfl).1 rfl rfl (by rw [hz9]; exact sizeM9) (by rw [hz9]; rfl) ho9 (fun w4 hg4 hw4 hs4 => ?_)
        have HFn := Lib.hid (HM6.out.fin hg4.out hw4.out)
        refine hK.out _ _ HFn.out.below (fun hHeld => ?_)
        clear hK K
        refine wpAnyH_take (i := 13) (oi := ({ dst := some 14, op := Go.Op.assign (Go.Operand.tmp 79), type := 4, pos := "law.go:51", after := #[{ on := 10, ground := Go.Ground.data }, { on := 12, ground := Go.Ground.chain }, { on := 0, ground := Go.Ground.phase }, { on := 1, ground := Go.Ground.phase }, { on := 2, ground := Go.Ground.phase }, { on := 3, ground := Go.Ground.phase }, { on := 4, ground := Go.Ground.phase }, { on := 5, ground := Go.Ground.phase }, { on := 6, ground := Go.Ground.phase }, { on := 7, ground := Go.Ground.phase }, { on := 8, ground := Go.Ground.phase }, { on := 9, ground := Go.Ground.phase }, { on := 10, ground := Go.Ground.phase }, { on := 11, ground := Go.Ground.phase }, { on := 12, ground := Go.Ground.phase }], guard := none } : Oper)) (v := .bool okb) rfl (by kernel_rfl) (by kernel_rfl) (by kernel_rfl) (fun _ _ _ h => h) (Or.inl ⟨by rfl, fun w' hS' => ?_⟩) hHeld ?_
        · go_simp
        try simp only [Act.put, List.setIfInBounds_toArray, List.set_cons_zero, List.set_cons_succ]
        refine wpAnyH_done (by kernel_rfl) ?_ _
        try (go_wp2_with fail)
        go_meet
        case rel => exact ⟨_, C, rfl, rfl, HFn⟩
      · go_simp
        refine hK.out _ _ (HM2.out.below.alloc HM2.out.below.size _) (fun hHeld => ?_)
        clear hK K
        try simp only [Act.put, List.setIfInBounds_toArray, List.set_cons_zero, List.set_cons_succ]
        have HM8 := Lib.hid (HM2.out.withA)
        unfold zMsg at HM8
        generalize u1.alloc (.cells #[.int .i64 0, .bool false, .bool false, .bool false, .int .i64 0, .string ⟨#[]⟩, .int .i64 0, .slice none 0 0, .slice none 0 0] 29) = u7 at HM8 hHeld ⊢
        refine wpAnyH_ready (rs := [7]) (by kernel_rfl) (by simp) ?_
        refine (AllReadyH.cons (o := ({ dst := some 77, op := Go.Op.call { callee := Go.Callee.value (Go.Operand.func 20), args := #[Go.Operand.tmp 70, Go.Operand.tmp 71, Go.Operand.tmp 72, Go.Operand.tmp 73, Go.Operand.tmp 74, Go.Operand.tmp 76], argTypes := #[46, 3, 3, 32, 3, 38] }, type := 48, pos := "law.go:51", after := #[{ on := 0, ground := Go.Ground.data }, { on := 1, ground := Go.Ground.data }, { on := 2, ground := Go.Ground.data }, { on := 3, ground := Go.Ground.data }, { on := 4, ground := Go.Ground.data }, { on := 6, ground := Go.Ground.data }, { on := 6, ground := Go.Ground.chain }], guard := none } : Oper)) rfl (fun K hK => ?_) AllReadyH.nil)
        go_simp
        go_at_call 20
        refine (HMt.out _ (HM8.out.e _ rfl)).mono ?_
        intro e' u9 hmm
        obtain ⟨C, rfl, hbm, hmr⟩ := hmm.flat
        have HM10 := Lib.hid ((HM8.out.to hbm).withM hmr)
        refine hK.out _ _ HM10.out.below (fun hHeld => ?_)
        clear hK K hbm hmm hmr
        try simp only [Act.put, List.setIfInBounds_toArray, List.set_cons_zero, List.set_cons_succ]
        refine wpAnyH_take (i := 8) (oi := ({ dst := some 69, op := Go.Op.move (Go.Operand.tmp 77), type := 48, pos := "law.go:51", after := #[{ on := 7, ground := Go.Ground.data }], guard := none } : Oper)) (v := .tuple #[.agg C, .bool okb]) rfl (by kernel_rfl) (by kernel_rfl) (by kernel_rfl) (fun _ _ _ h => h) (Or.inl ⟨by rfl, fun w' hS' => ?_⟩) hHeld ?_
        · go_simp
        try simp only [Act.put, List.setIfInBounds_toArray, List.set_cons_zero, List.set_cons_succ]
        refine wpAnyH_take (i := 9) (oi := ({ dst := some 78, op := Go.Op.extract (Go.Operand.tmp 69) 0, type := 29, pos := "law.go:51", after := #[{ on := 8, ground := Go.Ground.data }], guard := none } : Oper)) (v := .agg C) rfl (by kernel_rfl) (by kernel_rfl) (by kernel_rfl) (fun _ _ _ h => h) (Or.inl ⟨by rfl, fun w' hS' => ?_⟩) hHeld ?_
        · go_simp
        try simp only [Act.put, List.setIfInBounds_toArray, List.set_cons_zero, List.set_cons_succ]
        refine wpAnyH_take (i := 10) (oi := ({ dst := some 79, op := Go.Op.extract (Go.Operand.tmp 69) 1, type := 4, pos := "law.go:51", after := #[{ on := 8, ground := Go.Ground.data }, { on := 12, ground := Go.Ground.gcOnly Go.Departure.lateStores }], guard := none } : Oper)) (v := .bool okb) rfl (by kernel_rfl) (by kernel_rfl) (by kernel_rfl) (fun _ _ _ h => h) (Or.inl ⟨by rfl, fun w' hS' => ?_⟩) hHeld ?_
        · go_simp
        try simp only [Act.put, List.setIfInBounds_toArray, List.set_cons_zero, List.set_cons_succ]
        refine wpAnyH_ready (rs := [12]) (by kernel_rfl) (by simp) ?_
        refine (AllReadyH.cons (o := ({ dst := none, op := Go.Op.store 29 (Go.Operand.tmp 13) (Go.Operand.tmp 78), type := 0, pos := "law.go:51", after := #[{ on := 11, ground := Go.Ground.data }, { on := 9, ground := Go.Ground.data }, { on := 7, ground := Go.Ground.chain }, { on := 0, ground := Go.Ground.phase }, { on := 1, ground := Go.Ground.phase }, { on := 2, ground := Go.Ground.phase }, { on := 3, ground := Go.Ground.phase }, { on := 4, ground := Go.Ground.phase }, { on := 5, ground := Go.Ground.phase }, { on := 6, ground := Go.Ground.phase }, { on := 7, ground := Go.Ground.phase }, { on := 8, ground := Go.Ground.phase }, { on := 9, ground := Go.Ground.phase }, { on := 10, ground := Go.Ground.textOnly Go.Departure.lateStores }, { on := 11, ground := Go.Ground.phase }], guard := none } : Oper)) rfl (fun K hK => ?_) AllReadyH.nil)
        obtain ⟨hz9, ho9⟩ := (HM10.out.c C rfl).size
        refine step_store_tr rfl 29 (.tmp 13) (.tmp 78) rfl (u1.heap.size) zMsg C 29 (HM10.out.a _ rfl).1 rfl rfl (by rw [hz9]; exact sizeM9) (by rw [hz9]; rfl) ho9 (fun w4 hg4 hw4 hs4 => ?_)
        have HFn := Lib.hid (HM10.out.fin hg4.out hw4.out)
        refine hK.out _ _ HFn.out.below (fun hHeld => ?_)
        clear hK K
        refine wpAnyH_take (i := 13) (oi := ({ dst := some 14, op := Go.Op.assign (Go.Operand.tmp 79), type := 4, pos := "law.go:51", after := #[{ on := 10, ground := Go.Ground.data }, { on := 12, ground := Go.Ground.chain }, { on := 0, ground := Go.Ground.phase }, { on := 1, ground := Go.Ground.phase }, { on := 2, ground := Go.Ground.phase }, { on := 3, ground := Go.Ground.phase }, { on := 4, ground := Go.Ground.phase }, { on := 5, ground := Go.Ground.phase }, { on := 6, ground := Go.Ground.phase }, { on := 7, ground := Go.Ground.phase }, { on := 8, ground := Go.Ground.phase }, { on := 9, ground := Go.Ground.phase }, { on := 10, ground := Go.Ground.phase }, { on := 11, ground := Go.Ground.phase }, { on := 12, ground := Go.Ground.phase }], guard := none } : Oper)) (v := .bool okb) rfl (by kernel_rfl) (by kernel_rfl) (by kernel_rfl) (fun _ _ _ h => h) (Or.inl ⟨by rfl, fun w' hS' => ?_⟩) hHeld ?_
        · go_simp
        try simp only [Act.put, List.setIfInBounds_toArray, List.set_cons_zero, List.set_cons_succ]
        refine wpAnyH_done (by kernel_rfl) ?_ _
        try (go_wp2_with fail)
        go_meet
        case rel => exact ⟨_, C, rfl, rfl, HFn⟩
    · go_simp
      refine hK.out _ _ (HM0.out.below.alloc HM0.out.below.size _) (fun hHeld => ?_)
      clear hK K
      try simp only [Act.put, List.setIfInBounds_toArray, List.set_cons_zero, List.set_cons_succ]
      have HM12 := Lib.hid (HM0.out.withA)
      unfold zMsg at HM12
      generalize V0.alloc (.cells #[.int .i64 0, .bool false, .bool false, .bool false, .int .i64 0, .string ⟨#[]⟩, .int .i64 0, .slice none 0 0, .slice none 0 0] 29) = u11 at HM12 hHeld ⊢
      refine wpAnyH_ready (rs := [6]) (by kernel_rfl) (by simp) ?_
      refine (AllReadyH.cons (o := ({ dst := some 76, op := Go.Op.call { callee := Go.Callee.value (Go.Operand.func 15), args := #[Go.Operand.tmp 75], argTypes := #[29] }, type := 38, pos := "law.go:51", after := #[{ on := 5, ground := Go.Ground.data }], guard := none } : Oper)) rfl (fun K hK => ?_) AllReadyH.nil)
      go_simp
      go_at_call 15
      refine (HEn.out _ HM12.out.below).mono ?_
      rintro e' u13 ⟨gb, cap, rfl, hen⟩
      have HM14 := Lib.hid ((HM12.out.to hen.below).withE)
      have HMt := Lib.hid (HMg.out gb cap u13 (by rw [← HL.out]; exact hen.le) hen.inB (HE0.out.below (HM12.out.to hen.below).below))
      refine hK.out _ _ HM14.out.below (fun hHeld => ?_)
      clear hK K hen
      try simp only [Act.put, List.setIfInBounds_toArray, List.set_cons_zero, List.set_cons_succ]
      refine wpAnyH_ready (rs := [7]) (by kernel_rfl) (by simp) ?_
      refine (AllReadyH.cons (o := ({ dst := some 77, op := Go.Op.call { callee := Go.Callee.value (Go.Operand.func 20), args := #[Go.Operand.tmp 70, Go.Operand.tmp 71, Go.Operand.tmp 72, Go.Operand.tmp 73, Go.Operand.tmp 74, Go.Operand.tmp 76], argTypes := #[46, 3, 3, 32, 3, 38] }, type := 48, pos := "law.go:51", after := #[{ on := 0, ground := Go.Ground.data }, { on := 1, ground := Go.Ground.data }, { on := 2, ground := Go.Ground.data }, { on := 3, ground := Go.Ground.data }, { on := 4, ground := Go.Ground.data }, { on := 6, ground := Go.Ground.data }, { on := 6, ground := Go.Ground.chain }], guard := none } : Oper)) rfl (fun K hK => ?_) AllReadyH.nil)
      go_simp
      go_at_call 20
      refine (HMt.out _ (HM14.out.e _ rfl)).mono ?_
      intro e' u15 hmm
      obtain ⟨C, rfl, hbm, hmr⟩ := hmm.flat
      have HM16 := Lib.hid ((HM14.out.to hbm).withM hmr)
      refine hK.out _ _ HM16.out.below (fun hHeld => ?_)
      clear hK K hbm hmm hmr
      try simp only [Act.put, List.setIfInBounds_toArray, List.set_cons_zero, List.set_cons_succ]
      refine wpAnyH_take (i := 8) (oi := ({ dst := some 69, op := Go.Op.move (Go.Operand.tmp 77), type := 48, pos := "law.go:51", after := #[{ on := 7, ground := Go.Ground.data }], guard := none } : Oper)) (v := .tuple #[.agg C, .bool okb]) rfl (by kernel_rfl) (by kernel_rfl) (by kernel_rfl) (fun _ _ _ h => h) (Or.inl ⟨by rfl, fun w' hS' => ?_⟩) hHeld ?_
      · go_simp
      try simp only [Act.put, List.setIfInBounds_toArray, List.set_cons_zero, List.set_cons_succ]
      refine wpAnyH_take (i := 9) (oi := ({ dst := some 78, op := Go.Op.extract (Go.Operand.tmp 69) 0, type := 29, pos := "law.go:51", after := #[{ on := 8, ground := Go.Ground.data }], guard := none } : Oper)) (v := .agg C) rfl (by kernel_rfl) (by kernel_rfl) (by kernel_rfl) (fun _ _ _ h => h) (Or.inl ⟨by rfl, fun w' hS' => ?_⟩) hHeld ?_
      · go_simp
      try simp only [Act.put, List.setIfInBounds_toArray, List.set_cons_zero, List.set_cons_succ]
      refine wpAnyH_take (i := 10) (oi := ({ dst := some 79, op := Go.Op.extract (Go.Operand.tmp 69) 1, type := 4, pos := "law.go:51", after := #[{ on := 8, ground := Go.Ground.data }, { on := 12, ground := Go.Ground.gcOnly Go.Departure.lateStores }], guard := none } : Oper)) (v := .bool okb) rfl (by kernel_rfl) (by kernel_rfl) (by kernel_rfl) (fun _ _ _ h => h) (Or.inl ⟨by rfl, fun w' hS' => ?_⟩) hHeld ?_
      · go_simp
      try simp only [Act.put, List.setIfInBounds_toArray, List.set_cons_zero, List.set_cons_succ]
      refine wpAnyH_ready (rs := [12]) (by kernel_rfl) (by simp) ?_
      refine (AllReadyH.cons (o := ({ dst := none, op := Go.Op.store 29 (Go.Operand.tmp 13) (Go.Operand.tmp 78), type := 0, pos := "law.go:51", after := #[{ on := 11, ground := Go.Ground.data }, { on := 9, ground := Go.Ground.data }, { on := 7, ground := Go.Ground.chain }, { on := 0, ground := Go.Ground.phase }, { on := 1, ground := Go.Ground.phase }, { on := 2, ground := Go.Ground.phase }, { on := 3, ground := Go.Ground.phase }, { on := 4, ground := Go.Ground.phase }, { on := 5, ground := Go.Ground.phase }, { on := 6, ground := Go.Ground.phase }, { on := 7, ground := Go.Ground.phase }, { on := 8, ground := Go.Ground.phase }, { on := 9, ground := Go.Ground.phase }, { on := 10, ground := Go.Ground.textOnly Go.Departure.lateStores }, { on := 11, ground := Go.Ground.phase }], guard := none } : Oper)) rfl (fun K hK => ?_) AllReadyH.nil)
      obtain ⟨hz9, ho9⟩ := (HM16.out.c C rfl).size
      refine step_store_tr rfl 29 (.tmp 13) (.tmp 78) rfl (V0.heap.size) zMsg C 29 (HM16.out.a _ rfl).1 rfl rfl (by rw [hz9]; exact sizeM9) (by rw [hz9]; rfl) ho9 (fun w4 hg4 hw4 hs4 => ?_)
      have HFn := Lib.hid (HM16.out.fin hg4.out hw4.out)
      refine hK.out _ _ HFn.out.below (fun hHeld => ?_)
      clear hK K
      refine wpAnyH_take (i := 13) (oi := ({ dst := some 14, op := Go.Op.assign (Go.Operand.tmp 79), type := 4, pos := "law.go:51", after := #[{ on := 10, ground := Go.Ground.data }, { on := 12, ground := Go.Ground.chain }, { on := 0, ground := Go.Ground.phase }, { on := 1, ground := Go.Ground.phase }, { on := 2, ground := Go.Ground.phase }, { on := 3, ground := Go.Ground.phase }, { on := 4, ground := Go.Ground.phase }, { on := 5, ground := Go.Ground.phase }, { on := 6, ground := Go.Ground.phase }, { on := 7, ground := Go.Ground.phase }, { on := 8, ground := Go.Ground.phase }, { on := 9, ground := Go.Ground.phase }, { on := 10, ground := Go.Ground.phase }, { on := 11, ground := Go.Ground.phase }, { on := 12, ground := Go.Ground.phase }], guard := none } : Oper)) (v := .bool okb) rfl (by kernel_rfl) (by kernel_rfl) (by kernel_rfl) (fun _ _ _ h => h) (Or.inl ⟨by rfl, fun w' hS' => ?_⟩) hHeld ?_
      · go_simp
      try simp only [Act.put, List.setIfInBounds_toArray, List.set_cons_zero, List.set_cons_succ]
      refine wpAnyH_done (by kernel_rfl) ?_ _
      try (go_wp2_with fail)
      go_meet
      case rel => exact ⟨_, C, rfl, rfl, HFn⟩
  case rest =>
  obtain ⟨g, C, rfl, rfl, HFn⟩ := hcut
  revert HFn
  generalize wc = W7
  intro HFn
  have HTM5 := Lib.hid (HTM4.out.to HFn.out.below)
  have o0 := HTM5.out.off 0 O0.out
  have o1 := HTM5.out.off 1 O1.out
  have o2 := HTM5.out.off 2 O2.out
  have o3 := HTM5.out.off 3 O3.out
  have o4 := HTM5.out.off 4 O4.out
  have o5 := HTM5.out.off 5 O5.out
  have o6 := HTM5.out.off 6 O6.out
  go_upto_region 19 with fail
  go_cut [15] from 80 to 115 (fun t15 wx => W7 = wx ∧ t15 = .bool (wantT group a0 a1 a2 a3 a4 a5 a6))
  case first =>
    clear HWant
    cases a0 with
    | false =>
      cases a1 with
      | false =>
        cases a2 with
        | false =>
          cases a3 with
          | false =>
            cases a4 with
            | false =>
              cases a5 with
              | false =>
                cases a6 with
                | false =>
                  go_wp2_with fail
                  go_meet
                  case rel => exact ⟨rfl, by first | rfl | (simp [wantT]; done) | (cases a1 <;> cases a2 <;> cases a3 <;> cases a4 <;> cases a5 <;> cases a6 <;> cases group <;> rfl)⟩
                | true =>
                  go_wp2_with fail
                  go_meet
                  case rel => exact ⟨rfl, by first | rfl | (simp [wantT]; done) | (cases a1 <;> cases a2 <;> cases a3 <;> cases a4 <;> cases a5 <;> cases a6 <;> cases group <;> rfl)⟩
              | true =>
                cases group with
                | false =>
                  go_wp2_with fail
                  go_meet
                  case rel => exact ⟨rfl, by first | rfl | (simp [wantT]; done) | (cases a1 <;> cases a2 <;> cases a3 <;> cases a4 <;> cases a5 <;> cases a6 <;> cases group <;> rfl)⟩
                | true =>
                  cases a6 with
                  | false =>
                    go_wp2_with fail
                    go_meet
                    case rel => exact ⟨rfl, by first | rfl | (simp [wantT]; done) | (cases a1 <;> cases a2 <;> cases a3 <;> cases a4 <;> cases a5 <;> cases a6 <;> cases group <;> rfl)⟩
                  | true =>
                    go_wp2_with fail
                    go_meet
                    case rel => exact ⟨rfl, by first | rfl | (simp [wantT]; done) | (cases a1 <;> cases a2 <;> cases a3 <;> cases a4 <;> cases a5 <;> cases a6 <;> cases group <;> rfl)⟩
            | true =>
              go_wp2_with fail
              go_meet
              case rel => exact ⟨rfl, by first | rfl | (simp [wantT]; done) | (cases a1 <;> cases a2 <;> cases a3 <;> cases a4 <;> cases a5 <;> cases a6 <;> cases group <;> rfl)⟩
          | true =>
            go_wp2_with fail
            go_meet
            case rel => exact ⟨rfl, by first | rfl | (simp [wantT]; done) | (cases a1 <;> cases a2 <;> cases a3 <;> cases a4 <;> cases a5 <;> cases a6 <;> cases group <;> rfl)⟩
        | true =>
          go_wp2_with fail
          go_meet
          case rel => exact ⟨rfl, by first | rfl | (simp [wantT]; done) | (cases a1 <;> cases a2 <;> cases a3 <;> cases a4 <;> cases a5 <;> cases a6 <;> cases group <;> rfl)⟩
      | true =>
        go_wp2_with fail
        go_meet
        case rel => exact ⟨rfl, by first | rfl | (simp [wantT]; done) | (cases a1 <;> cases a2 <;> cases a3 <;> cases a4 <;> cases a5 <;> cases a6 <;> cases group <;> rfl)⟩
    | true =>
      go_wp2_with fail
      go_meet
      case rel => exact ⟨rfl, by first | rfl | (simp [wantT]; done) | (cases a1 <;> cases a2 <;> cases a3 <;> cases a4 <;> cases a5 <;> cases a6 <;> cases group <;> rfl)⟩
  case rest =>
  obtain ⟨rfl, rfl⟩ := hcut
  rw [HWant.out]
  have HBw := Lib.hid HTM5.out.below
  clear o0 o1 o2 o3 o4 o5 o6
  have hmr := HFn.out.r
  rcases hmr with ⟨rfl, _⟩ | ⟨rfl, m', hm', hf', hl', hC⟩
  · go_wp2_with fail
    go_ret
    exact ⟨rfl, HBw.out⟩
  · have HG := HFn.out.blk
    have HG := Lib.hid HG
    have SC : Hid ((Tryd.prog.info? 29).map (·.size) = some C.size) := Lib.hid (by rw [HFn.out.r.size.1]; exact sizeM9)
    have HSs := HSm.out m' W7 (by rw [HOm.out] at hm'; injection hm' with hm'; exact hm'.symm) hf' hl'
    rw [← hC] at HSs
    have HS9 := Lib.hid HSs
    clear hm' hf' hl' hC HSs
    go_wp2_with (first
      | (refine wpList_row_gh 29 (.tmp 13) (by kernel_rfl) rfl g rfl 29 C (0, 0) _ HG.out Tryd.underlying29 rfl SC.out ?_; go_simp)
      | (refine wpList_row_gh 29 (.tmp 8) (by kernel_rfl) rfl (gt + 1) rfl 29 MC (0, 0) _ HTM5.out.m Tryd.underlying29 rfl SMr.out ?_; go_simp)
      | (go_at_call 17; refine HS9.out.mono ?_; rintro e w9 ⟨rfl, hb9⟩; have HB9 := Lib.hid (HBw.out.trans (hb9.mono HBw.out.size)); clear hb9; go_simp))
    go_ret
    exact ⟨rfl, HB9.out⟩
end Go.Proofs.YtmijoidogjablaaDoor
