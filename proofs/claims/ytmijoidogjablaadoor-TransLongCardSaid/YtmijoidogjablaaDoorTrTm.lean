/-
  The walk of layer 13's fit: it answers true. Condition: the library's variable MaxLen holds some number.
  The walk of TransDraws: any draw is a number and a port that may be. Condition: the library's variable MaxLen holds some number.
  What the walk of TransMatches stands on: the blocks that it makes; build's numbers. No condition.
-/
import Derived.Test.YtmijoidogjablaaDoorTrAll
namespace Go.Proofs.YtmijoidogjablaaDoor
open Go.RowKit

theorem sizeM9 : (Tryd.prog.info? 29).map (·.size) = some 9 := sizeM
theorem builtA0 : Tryd.prog.built 32 [] = some (bvs zero16).toArray := by kernel_rfl
theorem builtT0 (S : ByteArray) (ty D P : Int) : Tryd.prog.built 46 [(0, .agg #[.string S, .int .i64 ty]), (4, .int .i64 D), (5, .int .i64 P)] = some (trC S ty 0 0 zero16 D P false false 0) := by kernel_rfl
theorem builtQM (D : Int) (rp : Bool) (S : ByteArray) (t : Int) : Tryd.prog.built 29 [(0, .int .i64 D), (1, .bool rp), (5, .agg #[.string S, .int .i64 t])] = some (qMV D rp false S t).cells := by kernel_rfl
theorem draw5 (w : World) : Calls Tryd.prog 22 #[.int .i64 5] w fun e w' => e = .returned (.tuple #[.int .i64 5, .int .i64 1024]) ∧ w = w' := draw_e 5 5 (by decide +kernel) w
theorem pl0 : bs (plN 0) = ⟨#[97]⟩ := rfl
theorem range_row {W : World} {g : Nat} {cs : Array Value} {t : TypeId} (h : W.heap[g]? = some (.cells cs t (0, 0))) : W.rangeAt g 0 cs.toList := fun j v hv => by
  rw [cell_of_row W g (0 + j) _ _ _ h, Nat.zero_add, ← Array.getElem?_toList]
  exact hv
theorem range_q {W : World} {g off : Nat} {C : Array Value} {t : TypeId} {S : ByteArray} {ty : Int} (h : W.heap[g]? = some (.cells C t (0, 0))) (h0 : C[off]? = some (.string S)) (h1 : C[off + 1]? = some (.int .i64 ty)) : W.rangeAt g off (#[Value.string S, .int .i64 ty] : Array Value).toList := fun j v hv => by
  have := q_cells h h0 h1 j v hv
  rwa [Addr.add_lit] at this
set_option maxRecDepth 100000 in
set_option maxHeartbeats 8000000 in
theorem fit13_e (w : World) (he : Env w) : Calls Tryd.prog 18 #[] w fun e w' => e = .returned (.bool true) ∧ Below w.heap.size w w' := by
  have HDr := Lib.hid draw5
  have HNa := Lib.hid (fun W => name4_e 0 0 (by omega) (by decide +kernel) W)
  rw [pl0] at HNa
  have hTo := trC_ok ⟨#[97]⟩ 1 0 0 zero16 5 1024 false false 0 rfl
  have hag := qMV_again (D := 5) (rp := true) (rc := false) (i := 0) (t := 1) (by omega) (by omega) (by omega)
  rw [pl0] at hag
  obtain ⟨okb, hokb⟩ : ∃ okb, okb = (comB 0 0 zero16 1024 false 0 0 zero16 1024 && ansB ⟨#[97]⟩ 1 5 (qMV 5 true false ⟨#[97]⟩ 1).rp (qMV 5 true false ⟨#[97]⟩ 1).id (qMV 5 true false ⟨#[97]⟩ 1).qn (qMV 5 true false ⟨#[97]⟩ 1).qt) := ⟨_, rfl⟩
  obtain ⟨om, hom⟩ : ∃ om, om = some (qMV 5 true false ⟨#[97]⟩ 1).nrm := ⟨_, rfl⟩
  have HOk : Hid (okb = true) := Lib.hid (by rw [hokb]; decide +kernel)
  have HMg := Lib.hid (fun gb cap u h1 h2 h3 W h4 => match_again (trC ⟨#[97]⟩ 1 0 0 zero16 5 1024 false false 0) ⟨#[97]⟩ 1 0 0 zero16 5 1024 false false hTo rfl 0 0 1024 zero16 rfl (qMV 5 true false ⟨#[97]⟩ 1) hag gb cap u h1 h2 h3 W h4)
  rw [← hokb, ← hom] at HMg
  have HEg := Lib.hid (fun W hW => encode_again (qMV 5 true false ⟨#[97]⟩ 1) hag W hW (qMV_lies _ _ _ _ _ W))
  have BT := Lib.hid (builtT0 ⟨#[97]⟩ 1 5 1024)
  have HAZ : Hid (#[.int .u8 0, .int .u8 0, .int .u8 0, .int .u8 0, .int .u8 0, .int .u8 0, .int .u8 0, .int .u8 0, .int .u8 0, .int .u8 0, .int .u8 0, .int .u8 0, .int .u8 0, .int .u8 0, .int .u8 0, .int .u8 0] = (bvs zero16).toArray) := Lib.hid rfl
  have HMZ : Hid (#[.int .i64 5, .bool true, .bool false, .bool false, .int .i64 0, .string ⟨#[97]⟩, .int .i64 1, .slice none 0 0, .slice none 0 0] = (qMV 5 true false ⟨#[97]⟩ 1).cells) := Lib.hid rfl
  have ST : Hid ((Tryd.prog.info? 46).map (·.size) = some (trC ⟨#[97]⟩ 1 0 0 zero16 5 1024 false false 0).size) := Lib.hid (by rw [hTo.size]; exact sizeT)
  have STl : Hid ((Tryd.prog.info? 46).map (·.size) = some (trC ⟨#[97]⟩ 1 0 0 zero16 5 1024 false false 0).toList.length) := Lib.hid (by rw [Array.length_toList]; exact ST.out)
  have OT := Lib.hid hTo.one
  have ZX : Hid ((trC emp 0 0 0 zero16 0 0 false false 0).size = (trC ⟨#[97]⟩ 1 0 0 zero16 5 1024 false false 0).size) := Lib.hid rfl
  have HT0 := Lib.hid hTo.c0
  have HT1 := Lib.hid hTo.c1
  have ZT := Lib.hid zeroT
  have HE := Lib.hid he
  clear hTo hag hokb hom he
  generalize hL : (enc (qMV 5 true false ⟨#[97]⟩ 1).msg).length = LE at HMg
  have HL := Lib.hid hL
  clear hL
  generalize (qMV 5 true false ⟨#[97]⟩ 1).cells = MC at HEg HMZ
  generalize trC ⟨#[97]⟩ 1 0 0 zero16 5 1024 false false 0 = TC at HMg BT ST STl OT ZX HT0 HT1
  generalize trC emp 0 0 0 zero16 0 0 false false 0 = Z at ZT ZX
  generalize (bvs zero16).toArray = AZ at HAZ HMg
  go_enter Tryd.func18, Tryd.ntmps18
  go_upto_region 3 with (first
    | (go_at_call 22; refine (HDr.out _).mono ?_; rintro e w1 ⟨rfl, rfl⟩; go_simp)
    | (refine wpList_build_v rfl 46 #[(0, .tmp 10), (4, .tmp 11), (5, .tmp 12)] rfl _ TC BT.out rfl ?_; go_simp)
    | (refine wpList_alloc_z rfl 46 rfl Z ZT.out ?_; go_simp)
    | (refine wpList_store_new rfl 46 (.tmp 3) (.tmp 13) rfl w.heap.size rfl Z TC 46 rfl rfl ST.out ZX.out OT.out ?_; go_simp))
  have HW0 : Hid (Below w.heap.size w (w.alloc (.cells TC 46))) := Lib.hid ((Below.refl _ w).alloc (Nat.le_refl _) _)
  have HG0 := Lib.hid (heap_alloc_last w (.cells TC 46))
  revert HW0 HG0
  generalize w.alloc (.cells TC 46) = W0
  intro HW0 HG0
  have HE0 := Lib.hid (HE.out.below HW0.out)
  have HXR : Hid (∀ W, Below W0.heap.size W0 W → W.rangeAt w.heap.size 0 TC.toList) := Lib.hid (fun W h => range_row ((h.block _ (heap_lt HG0.out)).trans HG0.out))
  have HXQ : Hid (∀ W, Below W0.heap.size W0 W → W.rangeAt w.heap.size 0 (#[Value.string ⟨#[97]⟩, .int .i64 1] : Array Value).toList) := Lib.hid (fun W h => range_q (off := 0) ((h.block _ (heap_lt HG0.out)).trans HG0.out) HT0.out HT1.out)
  have HEn := Lib.hid (fun W (h : Below W0.heap.size W0 W) => HEg.out W (HE0.out.below h))
  rw [HL.out] at HEn
  go_cut [4, 5] from 14 to 24 (fun t4 t5 wx => ∃ g C, t4 = .pointer (some ⟨g, 0, none⟩) ∧ t5 = .bool okb ∧ Hid (EmFin okb om W0 wx g C))
  case first =>
    refine wp_region_held_drew (S := (fun W : World => Below W0.heap.size W0 W)) (by kernel_rfl) (Below.refl _ W0).drew (fun hHeld => ?_)
    have HM0 : Hid (EmAt okb om W0 W0.drew none none none) := Lib.hid ⟨(Below.refl _ W0).drew, (fun g h => by cases h), (fun g h => by cases h), (fun g h => by cases h)⟩
    generalize W0.drew = V0 at HM0 hHeld ⊢
    refine wpAnyH_take (i := 0) (oi := ({ dst := some 15, op := Go.Op.load 46 (Go.Operand.tmp 3), type := 46, pos := "law.go:15", after := #[], guard := none } : Oper)) (v := .agg TC.toList.toArray) rfl (by kernel_rfl) (by kernel_rfl) (by kernel_rfl) (fun _ _ _ h => h) (yieldsIf_load_mid (by rfl) _ _ rfl _ _ rfl _ _ (fun W h => HXR.out W h) Tryd.underlying46 rfl STl.out) hHeld ?_
    try simp only [Act.put, List.setIfInBounds_toArray, List.set_cons_zero, List.set_cons_succ]
    refine wpAnyH_take (i := 1) (oi := ({ dst := some 16, op := Go.Op.build 32 #[], type := 32, pos := "law.go:15", after := #[], guard := none } : Oper)) (v := .agg AZ) rfl (by kernel_rfl) (by kernel_rfl) (by kernel_rfl) (fun _ _ _ h => h) (Or.inl ⟨by rfl, fun w' hS' => ?_⟩) hHeld ?_
    · go_simp; exact HAZ.out
    try simp only [Act.put, List.setIfInBounds_toArray, List.set_cons_zero, List.set_cons_succ]
    refine wpAnyH_take (i := 2) (oi := ({ dst := some 17, op := Go.Op.move (Go.Operand.tmp 2), type := 3, pos := "law.go:15", after := #[], guard := none } : Oper)) (v := .int .i64 1024) rfl (by kernel_rfl) (by kernel_rfl) (by kernel_rfl) (fun _ _ _ h => h) (Or.inl ⟨by rfl, fun w' hS' => ?_⟩) hHeld ?_
    · go_simp
    try simp only [Act.put, List.setIfInBounds_toArray, List.set_cons_zero, List.set_cons_succ]
    refine wpAnyH_take (i := 3) (oi := ({ dst := some 18, op := Go.Op.fieldAddr 46 (Go.Operand.tmp 3) 0, type := 0, pos := "law.go:15", after := #[], guard := none } : Oper)) (v := .pointer (some ⟨w.heap.size, 0, none⟩)) rfl (by kernel_rfl) (by kernel_rfl) (by kernel_rfl) (fun _ _ _ h => h) (Or.inl ⟨by rfl, fun w' hS' => ?_⟩) hHeld ?_
    · go_simp
    try simp only [Act.put, List.setIfInBounds_toArray, List.set_cons_zero, List.set_cons_succ]
    refine wpAnyH_take (i := 4) (oi := ({ dst := some 19, op := Go.Op.load 26 (Go.Operand.tmp 18), type := 26, pos := "law.go:15", after := #[{ on := 3, ground := Go.Ground.data }], guard := none } : Oper)) (v := .agg (#[Value.string ⟨#[97]⟩, .int .i64 1] : Array Value).toList.toArray) rfl (by kernel_rfl) (by kernel_rfl) (by kernel_rfl) (fun _ _ _ h => h) (yieldsIf_load_mid (by rfl) _ _ rfl _ _ rfl _ _ (fun W h => HXQ.out W h) Tryd.underlying26 rfl sizeQ) hHeld ?_
    try simp only [Act.put, List.setIfInBounds_toArray, List.set_cons_zero, List.set_cons_succ]
    refine wpAnyH_take (i := 5) (oi := ({ dst := some 20, op := Go.Op.build 29 #[(0, Go.Operand.const (Go.Value.int Go.IntKind.i64 5)), (1, Go.Operand.const (Go.Value.bool true)), (5, Go.Operand.tmp 19)], type := 29, pos := "law.go:15", after := #[{ on := 4, ground := Go.Ground.data }], guard := none } : Oper)) (v := .agg MC) rfl (by kernel_rfl) (by kernel_rfl) (by kernel_rfl) (fun _ _ _ h => h) (Or.inl ⟨by rfl, fun w' hS' => ?_⟩) hHeld ?_
    · go_simp; exact HMZ.out
    try simp only [Act.put, List.setIfInBounds_toArray, List.set_cons_zero, List.set_cons_succ]
    refine wpAnyH_ready (rs := [6, 11]) (by kernel_rfl) (by simp) ?_
    refine (AllReadyH.cons (o := ({ dst := some 21, op := Go.Op.call { callee := Go.Callee.value (Go.Operand.func 15), args := #[Go.Operand.tmp 20], argTypes := #[29] }, type := 38, pos := "law.go:15", after := #[{ on := 5, ground := Go.Ground.data }], guard := none } : Oper)) rfl (fun K hK => ?_) (AllReadyH.cons (o := ({ dst := some 4, op := Go.Op.alloc 29, type := 0, pos := "law.go:15", after := #[], guard := none } : Oper)) rfl (fun K hK => ?_) AllReadyH.nil))
    · go_simp
      go_at_call 15
      refine (HEn.out _ HM0.out.below).mono ?_
      rintro e' u1 ⟨gb, cap, rfl, hen⟩
      have HM2 := Lib.hid ((HM0.out.to hen.below).withE)
      have HMt := Lib.hid (HMg.out gb cap u1 (by rw [← HL.out]; exact hen.le) hen.inB (HE0.out.below (HM0.out.to hen.below).below))
      refine hK.out _ _ HM2.out.below (fun hHeld => ?_)
      clear hK K hen
      try simp only [Act.put, List.setIfInBounds_toArray, List.set_cons_zero, List.set_cons_succ]
      refine wpAnyH_ready (rs := [7, 11]) (by kernel_rfl) (by simp) ?_
      refine (AllReadyH.cons (o := ({ dst := some 22, op := Go.Op.call { callee := Go.Callee.value (Go.Operand.func 20), args := #[Go.Operand.tmp 15, Go.Operand.const (Go.Value.int Go.IntKind.i64 0), Go.Operand.const (Go.Value.int Go.IntKind.i64 0), Go.Operand.tmp 16, Go.Operand.tmp 17, Go.Operand.tmp 21], argTypes := #[46, 3, 3, 32, 3, 38] }, type := 48, pos := "law.go:15", after := #[{ on := 0, ground := Go.Ground.data }, { on := 1, ground := Go.Ground.data }, { on := 2, ground := Go.Ground.data }, { on := 6, ground := Go.Ground.data }, { on := 6, ground := Go.Ground.chain }], guard := none } : Oper)) rfl (fun K hK => ?_) (AllReadyH.cons (o := ({ dst := some 4, op := Go.Op.alloc 29, type := 0, pos := "law.go:15", after := #[], guard := none } : Oper)) rfl (fun K hK => ?_) AllReadyH.nil))
      · go_simp
        go_at_call 20
        refine (HMt.out _ (HM2.out.e _ rfl)).mono ?_
        intro e' u3 hmm
        obtain ⟨C, rfl, hbm, hmr⟩ := hmm.flat
        have HM4 := Lib.hid ((HM2.out.to hbm).withM hmr)
        refine hK.out _ _ HM4.out.below (fun hHeld => ?_)
        clear hK K hbm hmm hmr
        try simp only [Act.put, List.setIfInBounds_toArray, List.set_cons_zero, List.set_cons_succ]
        refine wpAnyH_take (i := 8) (oi := ({ dst := some 14, op := Go.Op.move (Go.Operand.tmp 22), type := 48, pos := "law.go:15", after := #[{ on := 7, ground := Go.Ground.data }], guard := none } : Oper)) (v := .tuple #[.agg C, .bool okb]) rfl (by kernel_rfl) (by kernel_rfl) (by kernel_rfl) (fun _ _ _ h => h) (Or.inl ⟨by rfl, fun w' hS' => ?_⟩) hHeld ?_
        · go_simp
        try simp only [Act.put, List.setIfInBounds_toArray, List.set_cons_zero, List.set_cons_succ]
        refine wpAnyH_take (i := 9) (oi := ({ dst := some 23, op := Go.Op.extract (Go.Operand.tmp 14) 0, type := 29, pos := "law.go:15", after := #[{ on := 8, ground := Go.Ground.data }], guard := none } : Oper)) (v := .agg C) rfl (by kernel_rfl) (by kernel_rfl) (by kernel_rfl) (fun _ _ _ h => h) (Or.inl ⟨by rfl, fun w' hS' => ?_⟩) hHeld ?_
        · go_simp
        try simp only [Act.put, List.setIfInBounds_toArray, List.set_cons_zero, List.set_cons_succ]
        refine wpAnyH_take (i := 10) (oi := ({ dst := some 24, op := Go.Op.extract (Go.Operand.tmp 14) 1, type := 4, pos := "law.go:15", after := #[{ on := 8, ground := Go.Ground.data }, { on := 12, ground := Go.Ground.gcOnly Go.Departure.lateStores }], guard := none } : Oper)) (v := .bool okb) rfl (by kernel_rfl) (by kernel_rfl) (by kernel_rfl) (fun _ _ _ h => h) (Or.inl ⟨by rfl, fun w' hS' => ?_⟩) hHeld ?_
        · go_simp
        try simp only [Act.put, List.setIfInBounds_toArray, List.set_cons_zero, List.set_cons_succ]
        refine wpAnyH_ready (rs := [11]) (by kernel_rfl) (by simp) ?_
        refine (AllReadyH.cons (o := ({ dst := some 4, op := Go.Op.alloc 29, type := 0, pos := "law.go:15", after := #[], guard := none } : Oper)) rfl (fun K hK => ?_) AllReadyH.nil)
        go_simp
        refine hK.out _ _ (HM4.out.below.alloc HM4.out.below.size _) (fun hHeld => ?_)
        clear hK K
        try simp only [Act.put, List.setIfInBounds_toArray, List.set_cons_zero, List.set_cons_succ]
        have HM6 := Lib.hid (HM4.out.withA)
        unfold zMsg at HM6
        generalize u3.alloc (.cells #[.int .i64 0, .bool false, .bool false, .bool false, .int .i64 0, .string ⟨#[]⟩, .int .i64 0, .slice none 0 0, .slice none 0 0] 29) = u5 at HM6 hHeld ⊢
        refine wpAnyH_ready (rs := [12]) (by kernel_rfl) (by simp) ?_
        refine (AllReadyH.cons (o := ({ dst := none, op := Go.Op.store 29 (Go.Operand.tmp 4) (Go.Operand.tmp 23), type := 0, pos := "law.go:15", after := #[{ on := 11, ground := Go.Ground.data }, { on := 9, ground := Go.Ground.data }, { on := 7, ground := Go.Ground.chain }, { on := 0, ground := Go.Ground.phase }, { on := 1, ground := Go.Ground.phase }, { on := 2, ground := Go.Ground.phase }, { on := 3, ground := Go.Ground.phase }, { on := 4, ground := Go.Ground.phase }, { on := 5, ground := Go.Ground.phase }, { on := 6, ground := Go.Ground.phase }, { on := 7, ground := Go.Ground.phase }, { on := 8, ground := Go.Ground.phase }, { on := 9, ground := Go.Ground.phase }, { on := 10, ground := Go.Ground.textOnly Go.Departure.lateStores }, { on := 11, ground := Go.Ground.phase }], guard := none } : Oper)) rfl (fun K hK => ?_) AllReadyH.nil)
        obtain ⟨hz9, ho9⟩ := (HM6.out.c C rfl).size
        refine step_store_tr rfl 29 (.tmp 4) (.tmp 23) rfl (u3.heap.size) zMsg C 29 (HM6.out.a _ rfl).1 rfl rfl (by rw [hz9]; exact sizeM9) (by rw [hz9]; rfl) ho9 (fun w4 hg4 hw4 hs4 => ?_)
        have HFn := Lib.hid (HM6.out.fin hg4.out hw4.out)
        refine hK.out _ _ HFn.out.below (fun hHeld => ?_)
        clear hK K
        refine wpAnyH_take (i := 13) (oi := ({ dst := some 5, op := Go.Op.assign (Go.Operand.tmp 24), type := 4, pos := "law.go:15", after := #[{ on := 10, ground := Go.Ground.data }, { on := 12, ground := Go.Ground.chain }, { on := 0, ground := Go.Ground.phase }, { on := 1, ground := Go.Ground.phase }, { on := 2, ground := Go.Ground.phase }, { on := 3, ground := Go.Ground.phase }, { on := 4, ground := Go.Ground.phase }, { on := 5, ground := Go.Ground.phase }, { on := 6, ground := Go.Ground.phase }, { on := 7, ground := Go.Ground.phase }, { on := 8, ground := Go.Ground.phase }, { on := 9, ground := Go.Ground.phase }, { on := 10, ground := Go.Ground.phase }, { on := 11, ground := Go.Ground.phase }, { on := 12, ground := Go.Ground.phase }], guard := none } : Oper)) (v := .bool okb) rfl (by kernel_rfl) (by kernel_rfl) (by kernel_rfl) (fun _ _ _ h => h) (Or.inl ⟨by rfl, fun w' hS' => ?_⟩) hHeld ?_
        · go_simp
        try simp only [Act.put, List.setIfInBounds_toArray, List.set_cons_zero, List.set_cons_succ]
        refine wpAnyH_done (by kernel_rfl) ?_ _
        try (go_wp2_with fail)
        go_meet
        case rel => exact ⟨_, C, rfl, rfl, HFn⟩
      · go_simp
        refine hK.out _ _ (HM2.out.below.alloc HM2.out.below.size _) (fun hHeld => ?_)
        clear hK K
        try simp only [Act.put, List.setIfInBounds_toArray, List.set_cons_zero, List.set_cons_succ]
        have HM8 := Lib.hid (HM2.out.withA)
        unfold zMsg at HM8
        generalize u1.alloc (.cells #[.int .i64 0, .bool false, .bool false, .bool false, .int .i64 0, .string ⟨#[]⟩, .int .i64 0, .slice none 0 0, .slice none 0 0] 29) = u7 at HM8 hHeld ⊢
        refine wpAnyH_ready (rs := [7]) (by kernel_rfl) (by simp) ?_
        refine (AllReadyH.cons (o := ({ dst := some 22, op := Go.Op.call { callee := Go.Callee.value (Go.Operand.func 20), args := #[Go.Operand.tmp 15, Go.Operand.const (Go.Value.int Go.IntKind.i64 0), Go.Operand.const (Go.Value.int Go.IntKind.i64 0), Go.Operand.tmp 16, Go.Operand.tmp 17, Go.Operand.tmp 21], argTypes := #[46, 3, 3, 32, 3, 38] }, type := 48, pos := "law.go:15", after := #[{ on := 0, ground := Go.Ground.data }, { on := 1, ground := Go.Ground.data }, { on := 2, ground := Go.Ground.data }, { on := 6, ground := Go.Ground.data }, { on := 6, ground := Go.Ground.chain }], guard := none } : Oper)) rfl (fun K hK => ?_) AllReadyH.nil)
        go_simp
        go_at_call 20
        refine (HMt.out _ (HM8.out.e _ rfl)).mono ?_
        intro e' u9 hmm
        obtain ⟨C, rfl, hbm, hmr⟩ := hmm.flat
        have HM10 := Lib.hid ((HM8.out.to hbm).withM hmr)
        refine hK.out _ _ HM10.out.below (fun hHeld => ?_)
        clear hK K hbm hmm hmr
        try simp only [Act.put, List.setIfInBounds_toArray, List.set_cons_zero, List.set_cons_succ]
        refine wpAnyH_take (i := 8) (oi := ({ dst := some 14, op := Go.Op.move (Go.Operand.tmp 22), type := 48, pos := "law.go:15", after := #[{ on := 7, ground := Go.Ground.data }], guard := none } : Oper)) (v := .tuple #[.agg C, .bool okb]) rfl (by kernel_rfl) (by kernel_rfl) (by kernel_rfl) (fun _ _ _ h => h) (Or.inl ⟨by rfl, fun w' hS' => ?_⟩) hHeld ?_
        · go_simp
        try simp only [Act.put, List.setIfInBounds_toArray, List.set_cons_zero, List.set_cons_succ]
        refine wpAnyH_take (i := 9) (oi := ({ dst := some 23, op := Go.Op.extract (Go.Operand.tmp 14) 0, type := 29, pos := "law.go:15", after := #[{ on := 8, ground := Go.Ground.data }], guard := none } : Oper)) (v := .agg C) rfl (by kernel_rfl) (by kernel_rfl) (by kernel_rfl) (fun _ _ _ h => h) (Or.inl ⟨by rfl, fun w' hS' => ?_⟩) hHeld ?_
        · go_simp
        try simp only [Act.put, List.setIfInBounds_toArray, List.set_cons_zero, List.set_cons_succ]
        refine wpAnyH_take (i := 10) (oi := ({ dst := some 24, op := Go.Op.extract (Go.Operand.tmp 14) 1, type := 4, pos := "law.go:15", after := #[{ on := 8, ground := Go.Ground.data }, { on := 12, ground := Go.Ground.gcOnly Go.Departure.lateStores }], guard := none } : Oper)) (v := .bool okb) rfl (by kernel_rfl) (by kernel_rfl) (by kernel_rfl) (fun _ _ _ h => h) (Or.inl ⟨by rfl, fun w' hS' => ?_⟩) hHeld ?_
        · go_simp
        try simp only [Act.put, List.setIfInBounds_toArray, List.set_cons_zero, List.set_cons_succ]
        refine wpAnyH_ready (rs := [12]) (by kernel_rfl) (by simp) ?_
        refine (AllReadyH.cons (o := ({ dst := none, op := Go.Op.store 29 (Go.Operand.tmp 4) (Go.Operand.tmp 23), type := 0, pos := "law.go:15", after := #[{ on := 11, ground := Go.Ground.data }, { on := 9, ground := Go.Ground.data }, { on := 7, ground := Go.Ground.chain }, { on := 0, ground := Go.Ground.phase }, { on := 1, ground := Go.Ground.phase }, { on := 2, ground := Go.Ground.phase }, { on := 3, ground := Go.Ground.phase }, { on := 4, ground := Go.Ground.phase }, { on := 5, ground := Go.Ground.phase }, { on := 6, ground := Go.Ground.phase }, { on := 7, ground := Go.Ground.phase }, { on := 8, ground := Go.Ground.phase }, { on := 9, ground := Go.Ground.phase }, { on := 10, ground := Go.Ground.textOnly Go.Departure.lateStores }, { on := 11, ground := Go.Ground.phase }], guard := none } : Oper)) rfl (fun K hK => ?_) AllReadyH.nil)
        obtain ⟨hz9, ho9⟩ := (HM10.out.c C rfl).size
        refine step_store_tr rfl 29 (.tmp 4) (.tmp 23) rfl (u1.heap.size) zMsg C 29 (HM10.out.a _ rfl).1 rfl rfl (by rw [hz9]; exact sizeM9) (by rw [hz9]; rfl) ho9 (fun w4 hg4 hw4 hs4 => ?_)
        have HFn := Lib.hid (HM10.out.fin hg4.out hw4.out)
        refine hK.out _ _ HFn.out.below (fun hHeld => ?_)
        clear hK K
        refine wpAnyH_take (i := 13) (oi := ({ dst := some 5, op := Go.Op.assign (Go.Operand.tmp 24), type := 4, pos := "law.go:15", after := #[{ on := 10, ground := Go.Ground.data }, { on := 12, ground := Go.Ground.chain }, { on := 0, ground := Go.Ground.phase }, { on := 1, ground := Go.Ground.phase }, { on := 2, ground := Go.Ground.phase }, { on := 3, ground := Go.Ground.phase }, { on := 4, ground := Go.Ground.phase }, { on := 5, ground := Go.Ground.phase }, { on := 6, ground := Go.Ground.phase }, { on := 7, ground := Go.Ground.phase }, { on := 8, ground := Go.Ground.phase }, { on := 9, ground := Go.Ground.phase }, { on := 10, ground := Go.Ground.phase }, { on := 11, ground := Go.Ground.phase }, { on := 12, ground := Go.Ground.phase }], guard := none } : Oper)) (v := .bool okb) rfl (by kernel_rfl) (by kernel_rfl) (by kernel_rfl) (fun _ _ _ h => h) (Or.inl ⟨by rfl, fun w' hS' => ?_⟩) hHeld ?_
        · go_simp
        try simp only [Act.put, List.setIfInBounds_toArray, List.set_cons_zero, List.set_cons_succ]
        refine wpAnyH_done (by kernel_rfl) ?_ _
        try (go_wp2_with fail)
        go_meet
        case rel => exact ⟨_, C, rfl, rfl, HFn⟩
    · go_simp
      refine hK.out _ _ (HM0.out.below.alloc HM0.out.below.size _) (fun hHeld => ?_)
      clear hK K
      try simp only [Act.put, List.setIfInBounds_toArray, List.set_cons_zero, List.set_cons_succ]
      have HM12 := Lib.hid (HM0.out.withA)
      unfold zMsg at HM12
      generalize V0.alloc (.cells #[.int .i64 0, .bool false, .bool false, .bool false, .int .i64 0, .string ⟨#[]⟩, .int .i64 0, .slice none 0 0, .slice none 0 0] 29) = u11 at HM12 hHeld ⊢
      refine wpAnyH_ready (rs := [6]) (by kernel_rfl) (by simp) ?_
      refine (AllReadyH.cons (o := ({ dst := some 21, op := Go.Op.call { callee := Go.Callee.value (Go.Operand.func 15), args := #[Go.Operand.tmp 20], argTypes := #[29] }, type := 38, pos := "law.go:15", after := #[{ on := 5, ground := Go.Ground.data }], guard := none } : Oper)) rfl (fun K hK => ?_) AllReadyH.nil)
      go_simp
      go_at_call 15
      refine (HEn.out _ HM12.out.below).mono ?_
      rintro e' u13 ⟨gb, cap, rfl, hen⟩
      have HM14 := Lib.hid ((HM12.out.to hen.below).withE)
      have HMt := Lib.hid (HMg.out gb cap u13 (by rw [← HL.out]; exact hen.le) hen.inB (HE0.out.below (HM12.out.to hen.below).below))
      refine hK.out _ _ HM14.out.below (fun hHeld => ?_)
      clear hK K hen
      try simp only [Act.put, List.setIfInBounds_toArray, List.set_cons_zero, List.set_cons_succ]
      refine wpAnyH_ready (rs := [7]) (by kernel_rfl) (by simp) ?_
      refine (AllReadyH.cons (o := ({ dst := some 22, op := Go.Op.call { callee := Go.Callee.value (Go.Operand.func 20), args := #[Go.Operand.tmp 15, Go.Operand.const (Go.Value.int Go.IntKind.i64 0), Go.Operand.const (Go.Value.int Go.IntKind.i64 0), Go.Operand.tmp 16, Go.Operand.tmp 17, Go.Operand.tmp 21], argTypes := #[46, 3, 3, 32, 3, 38] }, type := 48, pos := "law.go:15", after := #[{ on := 0, ground := Go.Ground.data }, { on := 1, ground := Go.Ground.data }, { on := 2, ground := Go.Ground.data }, { on := 6, ground := Go.Ground.data }, { on := 6, ground := Go.Ground.chain }], guard := none } : Oper)) rfl (fun K hK => ?_) AllReadyH.nil)
      go_simp
      go_at_call 20
      refine (HMt.out _ (HM14.out.e _ rfl)).mono ?_
      intro e' u15 hmm
      obtain ⟨C, rfl, hbm, hmr⟩ := hmm.flat
      have HM16 := Lib.hid ((HM14.out.to hbm).withM hmr)
      refine hK.out _ _ HM16.out.below (fun hHeld => ?_)
      clear hK K hbm hmm hmr
      try simp only [Act.put, List.setIfInBounds_toArray, List.set_cons_zero, List.set_cons_succ]
      refine wpAnyH_take (i := 8) (oi := ({ dst := some 14, op := Go.Op.move (Go.Operand.tmp 22), type := 48, pos := "law.go:15", after := #[{ on := 7, ground := Go.Ground.data }], guard := none } : Oper)) (v := .tuple #[.agg C, .bool okb]) rfl (by kernel_rfl) (by kernel_rfl) (by kernel_rfl) (fun _ _ _ h => h) (Or.inl ⟨by rfl, fun w' hS' => ?_⟩) hHeld ?_
      · go_simp
      try simp only [Act.put, List.setIfInBounds_toArray, List.set_cons_zero, List.set_cons_succ]
      refine wpAnyH_take (i := 9) (oi := ({ dst := some 23, op := Go.Op.extract (Go.Operand.tmp 14) 0, type := 29, pos := "law.go:15", after := #[{ on := 8, ground := Go.Ground.data }], guard := none } : Oper)) (v := .agg C) rfl (by kernel_rfl) (by kernel_rfl) (by kernel_rfl) (fun _ _ _ h => h) (Or.inl ⟨by rfl, fun w' hS' => ?_⟩) hHeld ?_
      · go_simp
      try simp only [Act.put, List.setIfInBounds_toArray, List.set_cons_zero, List.set_cons_succ]
      refine wpAnyH_take (i := 10) (oi := ({ dst := some 24, op := Go.Op.extract (Go.Operand.tmp 14) 1, type := 4, pos := "law.go:15", after := #[{ on := 8, ground := Go.Ground.data }, { on := 12, ground := Go.Ground.gcOnly Go.Departure.lateStores }], guard := none } : Oper)) (v := .bool okb) rfl (by kernel_rfl) (by kernel_rfl) (by kernel_rfl) (fun _ _ _ h => h) (Or.inl ⟨by rfl, fun w' hS' => ?_⟩) hHeld ?_
      · go_simp
      try simp only [Act.put, List.setIfInBounds_toArray, List.set_cons_zero, List.set_cons_succ]
      refine wpAnyH_ready (rs := [12]) (by kernel_rfl) (by simp) ?_
      refine (AllReadyH.cons (o := ({ dst := none, op := Go.Op.store 29 (Go.Operand.tmp 4) (Go.Operand.tmp 23), type := 0, pos := "law.go:15", after := #[{ on := 11, ground := Go.Ground.data }, { on := 9, ground := Go.Ground.data }, { on := 7, ground := Go.Ground.chain }, { on := 0, ground := Go.Ground.phase }, { on := 1, ground := Go.Ground.phase }, { on := 2, ground := Go.Ground.phase }, { on := 3, ground := Go.Ground.phase }, { on := 4, ground := Go.Ground.phase }, { on := 5, ground := Go.Ground.phase }, { on := 6, ground := Go.Ground.phase }, { on := 7, ground := Go.Ground.phase }, { on := 8, ground := Go.Ground.phase }, { on := 9, ground := Go.Ground.phase }, { on := 10, ground := Go.Ground.textOnly Go.Departure.lateStores }, { on := 11, ground := Go.Ground.phase }], guard := none } : Oper)) rfl (fun K hK => ?_) AllReadyH.nil)
      obtain ⟨hz9, ho9⟩ := (HM16.out.c C rfl).size
      refine step_store_tr rfl 29 (.tmp 4) (.tmp 23) rfl (V0.heap.size) zMsg C 29 (HM16.out.a _ rfl).1 rfl rfl (by rw [hz9]; exact sizeM9) (by rw [hz9]; rfl) ho9 (fun w4 hg4 hw4 hs4 => ?_)
      have HFn := Lib.hid (HM16.out.fin hg4.out hw4.out)
      refine hK.out _ _ HFn.out.below (fun hHeld => ?_)
      clear hK K
      refine wpAnyH_take (i := 13) (oi := ({ dst := some 5, op := Go.Op.assign (Go.Operand.tmp 24), type := 4, pos := "law.go:15", after := #[{ on := 10, ground := Go.Ground.data }, { on := 12, ground := Go.Ground.chain }, { on := 0, ground := Go.Ground.phase }, { on := 1, ground := Go.Ground.phase }, { on := 2, ground := Go.Ground.phase }, { on := 3, ground := Go.Ground.phase }, { on := 4, ground := Go.Ground.phase }, { on := 5, ground := Go.Ground.phase }, { on := 6, ground := Go.Ground.phase }, { on := 7, ground := Go.Ground.phase }, { on := 8, ground := Go.Ground.phase }, { on := 9, ground := Go.Ground.phase }, { on := 10, ground := Go.Ground.phase }, { on := 11, ground := Go.Ground.phase }, { on := 12, ground := Go.Ground.phase }], guard := none } : Oper)) (v := .bool okb) rfl (by kernel_rfl) (by kernel_rfl) (by kernel_rfl) (fun _ _ _ h => h) (Or.inl ⟨by rfl, fun w' hS' => ?_⟩) hHeld ?_
      · go_simp
      try simp only [Act.put, List.setIfInBounds_toArray, List.set_cons_zero, List.set_cons_succ]
      refine wpAnyH_done (by kernel_rfl) ?_ _
      try (go_wp2_with fail)
      go_meet
      case rel => exact ⟨_, C, rfl, rfl, HFn⟩
  case rest =>
    obtain ⟨g, C, rfl, rfl, HFn⟩ := hcut
    have HB := Lib.hid (HW0.out.trans (HFn.out.below.mono HW0.out.size))
    have hok := HOk.out
    subst hok
    go_wp2_with (go_at_call 25; refine (HNa.out _).mono ?_; rintro e w5 ⟨rfl, hb5⟩; have HB5 := Lib.hid (HB.out.trans (hb5.mono HB.out.size)); clear hb5; go_simp)
    go_ret
    exact ⟨rfl, HB5.out⟩
end Go.Proofs.YtmijoidogjablaaDoor
namespace Go.Proofs.YtmijoidogjablaaDoor
open Go.RowKit

theorem and_t (n : Int) (q : Nat) (hq : q < 1000000) : ∃ m : Nat, m ≤ q ∧ bits BinOp.and IntKind.i64 n (q : Nat) = (m : Int) := by
  have hle : (BitVec.ofInt 64 n &&& BitVec.ofInt 64 (q : Nat)).toNat ≤ q := by
    rw [BitVec.toNat_and]
    refine Nat.le_trans Nat.and_le_right ?_
    rw [BitVec.ofInt_natCast, BitVec.toNat_ofNat]
    exact Nat.mod_le _ _
  refine ⟨(BitVec.ofInt 64 n &&& BitVec.ofInt 64 (q : Nat)).toNat, hle, ?_⟩
  show IntKind.i64.wrap ((BitVec.ofInt 64 n &&& BitVec.ofInt 64 (q : Nat)).toNat : Int) = _
  exact IntWalk.i64_in _ (by omega)
theorem drP_small {n : Int} (h0 : 0 ≤ n) (h1 : n < 1073741824) : ((drP n : Nat) : Int) = 1024 + n / 65536 % 64512 := by
  unfold drP
  rw [IntWalk.u64_in n ⟨h0, by omega⟩]
  omega
set_option maxRecDepth 100000 in
set_option maxHeartbeats 4000000 in
theorem transDraws_walk (n : Int) (w : World) (he : Env w) : Calls Tryd.prog 7 #[.int .i64 n] w fun e w' => e = .returned (.bool true) ∧ Below w.heap.size w w' := by
  have HFit := Lib.hid fit13_e
  have HE := Lib.hid he
  obtain ⟨D, hD, hDB⟩ := and_t n 65535 (by omega)
  have HDr := Lib.hid (fun W => draw_e n D hDB W)
  obtain ⟨hp1, hp2⟩ := drP_le n
  have hP : 0 ≤ n → n < 1073741824 → ((drP n : Nat) : Int) = 1024 + n / 65536 % 64512 := drP_small
  clear he
  revert HDr hp1 hp2 hP
  generalize drP n = P
  intro HDr hp1 hp2 hP
  have hDB : bits BinOp.and IntKind.i64 n 65535 = (D : Int) := hDB
  have h1 : (0 : Int) ≤ (D : Int) := by omega
  have h2 : (D : Int) ≤ 65535 := by omega
  have h3 : (1024 : Int) ≤ (P : Int) := by omega
  have h4 : (P : Int) ≤ 65535 := by omega
  go_enter Tryd.func7, Tryd.ntmps7
  go_wp2_with fail
  refine (HFit.out w HE.out).mono ?_
  rintro e w1 ⟨rfl, hb1⟩
  have HB1 := Lib.hid hb1
  clear hb1
  go_wp2_with fail
  refine (HDr.out w1).mono ?_
  rintro e w2 ⟨rfl, rfl⟩
  by_cases h5 : n < 0
  · clear hP
    go_wp2_with fail
    go_ret
    exact ⟨rfl, HB1.out⟩
  · by_cases h6 : (1073741824 : Int) ≤ n
    · clear hP
      go_wp2_with fail
      go_ret
      exact ⟨rfl, HB1.out⟩
    · have hQ := hP (by omega) (by omega)
      have h7 : 0 ≤ n := by omega
      clear hP
      go_wp2_with fail
      go_ret
      exact ⟨rfl, HB1.out⟩
end Go.Proofs.YtmijoidogjablaaDoor
namespace Go.Proofs.YtmijoidogjablaaDoor
open Go.RowKit

theorem xor_one {D : Nat} (h : D ≤ 65535) : ∃ d : Nat, d ≤ 65535 ∧ d ≠ D ∧ bits BinOp.xor IntKind.i64 (D : Int) 1 = (d : Int) := by
  have e : (BitVec.ofInt 64 (D : Int) ^^^ BitVec.ofInt 64 (1 : Int)).toNat = D ^^^ 1 := by
    rw [BitVec.toNat_xor, show ((D : Int)) = ((D : Nat) : Int) from rfl, show (1 : Int) = ((1 : Nat) : Int) from rfl, BitVec.ofInt_natCast, BitVec.ofInt_natCast, BitVec.toNat_ofNat, BitVec.toNat_ofNat, Nat.mod_eq_of_lt (by omega), Nat.mod_eq_of_lt (by omega)]
  have hlt : D ^^^ 1 < 2 ^ 16 := Nat.xor_lt_two_pow (by omega) (by omega)
  refine ⟨D ^^^ 1, by omega, fun h1 => ?_, ?_⟩
  · have h2 : D ^^^ (D ^^^ 1) = D ^^^ D := by rw [h1]
    rw [← Nat.xor_assoc, Nat.xor_self, Nat.zero_xor] at h2
    omega
  · show IntKind.i64.wrap ((BitVec.ofInt 64 (D : Int) ^^^ BitVec.ofInt 64 (1 : Int)).toNat : Int) = _
    rw [e]
    exact IntWalk.i64_in _ (by omega)
/-- all that build wants of a number -/
structure BuIs (n : Int) (i t lk gn D : Nat) (x : UInt8) : Prop where
  hi : i ≤ 7
  iB : bits BinOp.and IntKind.i64 n 7 = (i : Int)
  ht : t ≤ 1
  tB : bits BinOp.and IntKind.i64 (n / 8) 1 = (t : Int)
  hl : lk ≤ 3
  lB : bits BinOp.and IntKind.i64 n 3 = (lk : Int)
  hg : gn ≤ 3
  gB : bits BinOp.and IntKind.i64 (n / 4) 3 = (gn : Int)
  xB : IntKind.u8.wrap n = (x.toNat : Int)
  hD : D ≤ 65535
  DB : bits BinOp.and IntKind.i64 n 65535 = (D : Int)
theorem bu_ex (n : Int) : ∃ (i t lk gn D : Nat) (x : UInt8), BuIs n i t lk gn D x := by
  obtain ⟨i, hi, iB⟩ := and_t n 7 (by omega)
  obtain ⟨t, ht, tB⟩ := and_t (n / 8) 1 (by omega)
  obtain ⟨lk, hl, lB⟩ := and_t n 3 (by omega)
  obtain ⟨gn, hg, gB⟩ := and_t (n / 4) 3 (by omega)
  obtain ⟨D, hD, DB⟩ := and_t n 65535 (by omega)
  refine ⟨i, t, lk, gn, D, UInt8.ofNat (IntKind.u8.wrap n).toNat, hi, iB, ht, tB, hl, lB, hg, gB, ?_, hD, DB⟩
  have h : IntKind.u8.wrap n = n % 256 := rfl
  rw [h, UInt8.toNat_ofNat']
  omega
/-- what build answers -/
def buC (n : Int) (group : Bool) (i t lk gn D : Nat) (x : UInt8) : Array Value := trC (bs (plN i)) (1 + (t : Int)) lk gn (ad15 x) D (drP n : Nat) false group 0
theorem bu_e {n : Int} {i t lk gn D : Nat} {x : UInt8} (h : BuIs n i t lk gn D x) (group : Bool) (w : World) : Calls Tryd.prog 19 #[.int .i64 n, .bool group] w fun e w' => e = .returned (.agg (buC n group i t lk gn D x)) ∧ Below w.heap.size w w' :=
  build_e n group i t lk gn D x h.hi h.iB h.ht h.tB h.lB h.gB h.xB h.DB w
theorem bu_ok {n : Int} {group : Bool} {i t lk gn D : Nat} {x : UInt8} : TrOk (buC n group i t lk gn D x) (bs (plN i)) (1 + (t : Int)) lk gn (ad15 x) D (drP n : Nat) false group := trC_ok _ _ _ _ _ _ _ _ _ _ rfl
/-- the blocks of the law, as they stand -/
structure TmAt (w W : World) (OF TC MC : Array Value) (gt gm : Nat) : Prop where
  f : W.heap[w.heap.size]? = some (.cells OF 44 (0, 0))
  t : W.heap[gt]? = some (.cells TC 46 (0, 0))
  m : W.heap[gm]? = some (.cells MC 29 (0, 0))
  h1 : w.heap.size < gt
  h2 : gt < gm
  below : Below w.heap.size w W
theorem TmAt.to {w W W' : World} {OF TC MC : Array Value} {gt gm : Nat} (h : TmAt w W OF TC MC gt gm) (hb : Below W.heap.size W W') : TmAt w W' OF TC MC gt gm :=
  ⟨(hb.block _ (heap_lt h.f)).trans h.f, (hb.block _ (heap_lt h.t)).trans h.t, (hb.block _ (heap_lt h.m)).trans h.m, h.h1, h.h2, h.below.trans (hb.mono h.below.size)⟩
theorem TmAt.set {w W : World} {OF TC MC : Array Value} {gt gm : Nat} (h : TmAt w W OF TC MC gt gm) (k : Nat) (v : Value) : TmAt w (W.setCell ⟨gm, k, none⟩ v) OF TC (MC.setIfInBounds k v) gt gm := by
  have a1 := h.h1
  have a2 := h.h2
  exact ⟨(Below.heap_setCell W ⟨gm, k, none⟩ v _ (by show w.heap.size ≠ gm; omega)).trans h.f, (Below.heap_setCell W ⟨gm, k, none⟩ v _ (by show gt ≠ gm; omega)).trans h.t, heap_setCell_same W gm k _ _ _ h.m, a1, a2, h.below.setCell (p := ⟨gm, k, none⟩) (by show w.heap.size ≤ gm; omega) v⟩
theorem TmAt.far {w W : World} {OF TC MC : Array Value} {gt gm g : Nat} (h : TmAt w W OF TC MC gt gm) (hg : gm < g) (k : Nat) (v : Value) : TmAt w (W.setCell ⟨g, k, none⟩ v) OF TC MC gt gm := by
  have a1 := h.h1
  have a2 := h.h2
  exact ⟨(Below.heap_setCell W ⟨g, k, none⟩ v _ (by show w.heap.size ≠ g; omega)).trans h.f, (Below.heap_setCell W ⟨g, k, none⟩ v _ (by show gt ≠ g; omega)).trans h.t, (Below.heap_setCell W ⟨g, k, none⟩ v _ (by show gm ≠ g; omega)).trans h.m, a1, a2, h.below.setCell (p := ⟨g, k, none⟩) (by show w.heap.size ≤ g; omega) v⟩
theorem TmAt.off {w W : World} {OF TC MC : Array Value} {gt gm : Nat} (h : TmAt w W OF TC MC gt gm) (k : Nat) {v : Value} (hv : OF[k]? = some v) : W.cell? ⟨w.heap.size, k, none⟩ = some v := (cell_of_row W _ k _ _ _ h.f).trans hv
theorem TmAt.tr {w W : World} {OF TC MC : Array Value} {gt gm : Nat} (h : TmAt w W OF TC MC gt gm) (k : Nat) {v : Value} (hv : TC[k]? = some v) : W.cell? ⟨gt, k, none⟩ = some v := (cell_of_row W _ k _ _ _ h.t).trans hv
theorem TmAt.ms {w W : World} {OF TC MC : Array Value} {gt gm : Nat} (h : TmAt w W OF TC MC gt gm) (k : Nat) {v : Value} (hv : MC[k]? = some v) : W.cell? ⟨gm, k, none⟩ = some v := (cell_of_row W _ k _ _ _ h.m).trans hv
section
variable {P : Program} {ops : Array Oper} {o : Oper} {a : Act} {Q : Exit → Act → World → Prop}
theorem wp_alloc_zz {w : World} {K : Act → World → Prop} (ty : TypeId) (ho : o.op = .alloc ty) (z : Array Value) (hz : (P.info? ty).map (·.zero) = some (some (.agg z)))
    (h : K (a.put o.dst (.pointer (some ⟨w.heap.size, 0, none⟩))) (w.alloc (.cells z ty))) : o.wp P a w K Q := by
  have hzr : (zeroValue ty).run P w = .ok (.agg z) w := by
    cases hq : P.info? ty with
    | none => simp [hq] at hz
    | some i =>
      have : i.zero = some (.agg z) := by simpa [hq] using hz
      simp [zeroValue, typeInfo, hq, this]
  unfold Oper.wp execOp
  simp only [ho, Instr.alloc, newVar, newRow, Sem.run_bind, hzr, Result.andThen_ok, run_newObj_alloc, Sem.run_pure, Value.cells]
  exact h
theorem step_alloc_z {w : World} {K : Act → World → Prop} {E : Prop} (hgd : o.guard = none) (ty : TypeId) (ho : o.op = .alloc ty) (z : Array Value) (hz : (P.info? ty).map (·.zero) = some (some (.agg z)))
    (h : K (a.put o.dst (.pointer (some ⟨w.heap.size, 0, none⟩))) (w.alloc (.cells z ty))) : if Region.wanted o (yielded ops a.tmps) = true then Oper.wp P o a w K Q else E := by
  have hw : Region.wanted o (yielded ops a.tmps) = true := by simp [Region.wanted, hgd]
  rw [if_pos hw]
  exact wp_alloc_zz ty ho z hz h
end
def ofC (a0 a1 a2 a3 a4 a5 a6 : Bool) : Array Value := #[.bool a0, .bool a1, .bool a2, .bool a3, .bool a4, .bool a5, .bool a6]
def wantT (group a0 a1 a2 a3 a4 a5 a6 : Bool) : Bool := (((((!a0 && !a1) && !a2) && !a3) && !a4) && (!a5 || group)) && !a6
theorem builtM0 (D : Int) (rp : Bool) (S : ByteArray) (t : Int) : Tryd.prog.built 29 [(0, .int .i64 D), (1, .bool rp), (5, .agg #[.string S, .int .i64 t])] = some (qMV D rp false S t).cells := by kernel_rfl
end Go.Proofs.YtmijoidogjablaaDoor
