/-
  The walk of layer 13's fit: it answers true. Condition: the library's variable MaxLen holds some number.
-/
import Derived.Test.YtmijoidogjablaaDoorTrAll
namespace Go.Proofs.YtmijoidogjablaaDoor
open Go.RowKit

theorem sizeM9 : (Tryd.prog.info? 29).map (·.size) = some 9 := sizeM
theorem builtA0 : Tryd.prog.built 32 [] = some (bvs zero16).toArray := by kernel_rfl
theorem builtT0 (S : ByteArray) (ty D P : Int) : Tryd.prog.built 46 [(0, .agg #[.string S, .int .i64 ty]), (4, .int .i64 D), (5, .int .i64 P)] = some (trC S ty 0 0 zero16 D P false false 0) := by kernel_rfl
theorem builtQM (D : Int) (rp : Bool) (S : ByteArray) (t : Int) : Tryd.prog.built 29 [(0, .int .i64 D), (1, .bool rp), (5, .agg #[.string S, .int .i64 t])] = some (qMV D rp false S t).cells := by kernel_rfl
theorem draw5 (w : World) : Calls Tryd.prog 22 #[.int .i64 5] w fun e w' => e = .returned (.tuple #[.int .i64 5, .int .i64 1024]) ∧ w = w' := draw_e 5 5 (by decide +kernel) w
theorem pl0 : bs (plN 0) = ⟨#[97]⟩ := rfl
theorem range_row {W : World} {g : Nat} {cs : Array Value} {t : TypeId} (h : W.heap[g]? = some (.cells cs t (0, 0))) : W.rangeAt g 0 cs.toList := fun j v hv => by
  rw [cell_of_row W g (0 + j) _ _ _ h, Nat.zero_add, ← Array.getElem?_toList]
  exact hv
theorem range_q {W : World} {g off : Nat} {C : Array Value} {t : TypeId} {S : ByteArray} {ty : Int} (h : W.heap[g]? = some (.cells C t (0, 0))) (h0 : C[off]? = some (.string S)) (h1 : C[off + 1]? = some (.int .i64 ty)) : W.rangeAt g off (#[Value.string S, .int .i64 ty] : Array Value).toList := fun j v hv => by
  have := q_cells h h0 h1 j v hv
  rwa [Addr.add_lit] at this
set_option maxRecDepth 100000 in
set_option maxHeartbeats 8000000 in
theorem fit13_e (w : World) (he : Env w) : Calls Tryd.prog 18 #[] w fun e w' => e = .returned (.bool true) ∧ Below w.heap.size w w' := by
  have HDr := Lib.hid draw5
  have HNa := Lib.hid (fun W => name4_e 0 0 (by omega) (by decide +kernel) W)
  rw [pl0] at HNa
  have hTo := trC_ok ⟨#[97]⟩ 1 0 0 zero16 5 1024 false false 0 rfl
  have hag := qMV_again (D := 5) (rp := true) (rc := false) (i := 0) (t := 1) (by omega) (by omega) (by omega)
  rw [pl0] at hag
  obtain ⟨okb, hokb⟩ : ∃ okb, okb = (comB 0 0 zero16 1024 false 0 0 zero16 1024 && ansB ⟨#[97]⟩ 1 5 (qMV 5 true false ⟨#[97]⟩ 1).rp (qMV 5 true false ⟨#[97]⟩ 1).id (qMV 5 true false ⟨#[97]⟩ 1).qn (qMV 5 true false ⟨#[97]⟩ 1).qt) := ⟨_, rfl⟩
  obtain ⟨om, hom⟩ : ∃ om, om = some (qMV 5 true false ⟨#[97]⟩ 1).nrm := ⟨_, rfl⟩
  have HOk : Hid (okb = true) := Lib.hid (by rw [hokb]; decide +kernel)
  have HMg := Lib.hid (fun gb cap u h1 h2 h3 W h4 => match_again (trC ⟨#[97]⟩ 1 0 0 zero16 5 1024 false false 0) ⟨#[97]⟩ 1 0 0 zero16 5 1024 false false hTo rfl 0 0 1024 zero16 rfl (qMV 5 true false ⟨#[97]⟩ 1) hag gb cap u h1 h2 h3 W h4)
  rw [← hokb, ← hom] at HMg
  have HEg := Lib.hid (fun W hW => encode_again (qMV 5 true false ⟨#[97]⟩ 1) hag W hW (qMV_lies _ _ _ _ _ W))
  have BT := Lib.hid (builtT0 ⟨#[97]⟩ 1 5 1024)
  have HAZ : Hid (#[.int .u8 0, .int .u8 0, .int .u8 0, .int .u8 0, .int .u8 0, .int .u8 0, .int .u8 0, .int .u8 0, .int .u8 0, .int .u8 0, .int .u8 0, .int .u8 0, .int .u8 0, .int .u8 0, .int .u8 0, .int .u8 0] = (bvs zero16).toArray) := Lib.hid rfl
  have HMZ : Hid (#[.int .i64 5, .bool true, .bool false, .bool false, .int .i64 0, .string ⟨#[97]⟩, .int .i64 1, .slice none 0 0, .slice none 0 0] = (qMV 5 true false ⟨#[97]⟩ 1).cells) := Lib.hid rfl
  have ST : Hid ((Tryd.prog.info? 46).map (·.size) = some (trC ⟨#[97]⟩ 1 0 0 zero16 5 1024 false false 0).size) := Lib.hid (by rw [hTo.size]; exact sizeT)
  have STl : Hid ((Tryd.prog.info? 46).map (·.size) = some (trC ⟨#[97]⟩ 1 0 0 zero16 5 1024 false false 0).toList.length) := Lib.hid (by rw [Array.length_toList]; exact ST.out)
  have OT := Lib.hid hTo.one
  have ZX : Hid ((trC emp 0 0 0 zero16 0 0 false false 0).size = (trC ⟨#[97]⟩ 1 0 0 zero16 5 1024 false false 0).size) := Lib.hid rfl
  have HT0 := Lib.hid hTo.c0
  have HT1 := Lib.hid hTo.c1
  have ZT := Lib.hid zeroT
  have HE := Lib.hid he
  clear hTo hag hokb hom he
  generalize hL : (enc (qMV 5 true false ⟨#[97]⟩ 1).msg).length = LE at HMg
  have HL := Lib.hid hL
  clear hL
  generalize (qMV 5 true false ⟨#[97]⟩ 1).cells = MC at HEg HMZ
  generalize trC ⟨#[97]⟩ 1 0 0 zero16 5 1024 false false 0 = TC at HMg BT ST STl OT ZX HT0 HT1
  generalize trC emp 0 0 0 zero16 0 0 false false 0 = Z at ZT ZX
  generalize (bvs zero16).toArray = AZ at HAZ HMg
  go_enter Tryd.func18, Tryd.ntmps18
  go_upto_region 3 with (first
    | (go_at_call 22; refine (HDr.out _).mono ?_; rintro e w1 ⟨rfl, rfl⟩; go_simp)
    | (refine wpList_build_v rfl 46 #[(0, .tmp 10), (4, .tmp 11), (5, .tmp 12)] rfl _ TC BT.out rfl ?_; go_simp)
    | (refine wpList_alloc_z rfl 46 rfl Z ZT.out ?_; go_simp)
    | (refine wpList_store_new rfl 46 (.tmp 3) (.tmp 13) rfl w.heap.size rfl Z TC 46 rfl rfl ST.out ZX.out OT.out ?_; go_simp))
  have HW0 : Hid (Below w.heap.size w (w.alloc (.cells TC 46))) := Lib.hid ((Below.refl _ w).alloc (Nat.le_refl _) _)
  have HG0 := Lib.hid (heap_alloc_last w (.cells TC 46))
  revert HW0 HG0
  generalize w.alloc (.cells TC 46) = W0
  intro HW0 HG0
  have HE0 := Lib.hid (HE.out.below HW0.out)
  have HXR : Hid (∀ W, Below W0.heap.size W0 W → W.rangeAt w.heap.size 0 TC.toList) := Lib.hid (fun W h => range_row ((h.block _ (heap_lt HG0.out)).trans HG0.out))
  have HXQ : Hid (∀ W, Below W0.heap.size W0 W → W.rangeAt w.heap.size 0 (#[Value.string ⟨#[97]⟩, .int .i64 1] : Array Value).toList) := Lib.hid (fun W h => range_q (off := 0) ((h.block _ (heap_lt HG0.out)).trans HG0.out) HT0.out HT1.out)
  have HEn := Lib.hid (fun W (h : Below W0.heap.size W0 W) => HEg.out W (HE0.out.below h))
  rw [HL.out] at HEn
  go_cut [4, 5] from 14 to 24 (fun t4 t5 wx => ∃ g C, t4 = .pointer (some ⟨g, 0, none⟩) ∧ t5 = .bool okb ∧ Hid (EmFin okb om W0 wx g C))
  case first =>
    refine wp_region_held_drew (S := (fun W : World => Below W0.heap.size W0 W)) (by kernel_rfl) (Below.refl _ W0).drew (fun hHeld => ?_)
    have HM0 : Hid (EmAt okb om W0 W0.drew none none none) := Lib.hid ⟨(Below.refl _ W0).drew, (fun g h => by cases h), (fun g h => by cases h), (fun g h => by cases h)⟩
    generalize W0.drew = V0 at HM0 hHeld ⊢
    refine wpAnyH_take (i := 0) (oi := ({ dst := some 15, op := Go.Op.load 46 (Go.Operand.tmp 3), type := 46, pos := "law.go:15", after := #[], guard := none } : Oper)) (v := .agg TC.toList.toArray) rfl (by kernel_rfl) (by kernel_rfl) (by kernel_rfl) (fun _ _ _ h => h) (yieldsIf_load_mid (by rfl) _ _ rfl _ _ rfl _ _ (fun W h => HXR.out W h) Tryd.underlying46 rfl STl.out) hHeld ?_
    try simp only [Act.put, List.setIfInBounds_toArray, List.set_cons_zero, List.set_cons_succ]
    refine wpAnyH_take (i := 1) (oi := ({ dst := some 16, op := Go.Op.build 32 #[], type := 32, pos := "law.go:15", after := #[], guard := none } : Oper)) (v := .agg AZ) rfl (by kernel_rfl) (by kernel_rfl) (by kernel_rfl) (fun _ _ _ h => h) (Or.inl ⟨by rfl, fun w' hS' => ?_⟩) hHeld ?_
    · go_simp; exact HAZ.out
    try simp only [Act.put, List.setIfInBounds_toArray, List.set_cons_zero, List.set_cons_succ]
    refine wpAnyH_take (i := 2) (oi := ({ dst := some 17, op := Go.Op.move (Go.Operand.tmp 2), type := 3, pos := "law.go:15", after := #[], guard := none } : Oper)) (v := .int .i64 1024) rfl (by kernel_rfl) (by kernel_rfl) (by kernel_rfl) (fun _ _ _ h => h) (Or.inl ⟨by rfl, fun w' hS' => ?_⟩) hHeld ?_
    · go_simp
    try simp only [Act.put, List.setIfInBounds_toArray, List.set_cons_zero, List.set_cons_succ]
    refine wpAnyH_take (i := 3) (oi := ({ dst := some 18, op := Go.Op.fieldAddr 46 (Go.Operand.tmp 3) 0, type := 0, pos := "law.go:15", after := #[], guard := none } : Oper)) (v := .pointer (some ⟨w.heap.size, 0, none⟩)) rfl (by kernel_rfl) (by kernel_rfl) (by kernel_rfl) (fun _ _ _ h => h) (Or.inl ⟨by rfl, fun w' hS' => ?_⟩) hHeld ?_
    · go_simp
    try simp only [Act.put, List.setIfInBounds_toArray, List.set_cons_zero, List.set_cons_succ]
    refine wpAnyH_take (i := 4) (oi := ({ dst := some 19, op := Go.Op.load 26 (Go.Operand.tmp 18), type := 26, pos := "law.go:15", after := #[{ on := 3, ground := Go.Ground.data }], guard := none } : Oper)) (v := .agg (#[Value.string ⟨#[97]⟩, .int .i64 1] : Array Value).toList.toArray) rfl (by kernel_rfl) (by kernel_rfl) (by kernel_rfl) (fun _ _ _ h => h) (yieldsIf_load_mid (by rfl) _ _ rfl _ _ rfl _ _ (fun W h => HXQ.out W h) Tryd.underlying26 rfl sizeQ) hHeld ?_
    try simp only [Act.put, List.setIfInBounds_toArray, List.set_cons_zero, List.set_cons_succ]
    refine wpAnyH_take (i := 5) (oi := ({ dst := some 20, op := Go.Op.build 29 #[(0, Go.Operand.const (Go.Value.int Go.IntKind.i64 5)), (1, Go.Operand.const (Go.Value.bool true)), (5, Go.Operand.tmp 19)], type := 29, pos := "law.go:15", after := #[{ on := 4, ground := Go.Ground.data }], guard := none } : Oper)) (v := .agg MC) rfl (by kernel_rfl) (by kernel_rfl) (by kernel_rfl) (fun _ _ _ h => h) (Or.inl ⟨by rfl, fun w' hS' => ?_⟩) hHeld ?_
    · go_simp; exact HMZ.out
    try simp only [Act.put, List.setIfInBounds_toArray, List.set_cons_zero, List.set_cons_succ]
    refine wpAnyH_ready (rs := [6, 11]) (by kernel_rfl) (by simp) ?_
    refine (AllReadyH.cons (o := ({ dst := some 21, op := Go.Op.call { callee := Go.Callee.value (Go.Operand.func 15), args := #[Go.Operand.tmp 20], argTypes := #[29] }, type := 38, pos := "law.go:15", after := #[{ on := 5, ground := Go.Ground.data }], guard := none } : Oper)) rfl (fun K hK => ?_) (AllReadyH.cons (o := ({ dst := some 4, op := Go.Op.alloc 29, type := 0, pos := "law.go:15", after := #[], guard := none } : Oper)) rfl (fun K hK => ?_) AllReadyH.nil))
    · go_simp
      go_at_call 15
      refine (HEn.out _ HM0.out.below).mono ?_
      rintro e' u1 ⟨gb, cap, rfl, hen⟩
      have HM2 := Lib.hid ((HM0.out.to hen.below).withE)
      have HMt := Lib.hid (HMg.out gb cap u1 (by rw [← HL.out]; exact hen.le) hen.inB (HE0.out.below (HM0.out.to hen.below).below))
      refine hK.out _ _ HM2.out.below (fun hHeld => ?_)
      clear hK K hen
      try simp only [Act.put, List.setIfInBounds_toArray, List.set_cons_zero, List.set_cons_succ]
      refine wpAnyH_ready (rs := [7, 11]) (by kernel_rfl) (by simp) ?_
      refine (AllReadyH.cons (o := ({ dst := some 22, op := Go.Op.call { callee := Go.Callee.value (Go.Operand.func 20), args := #[Go.Operand.tmp 15, Go.Operand.const (Go.Value.int Go.IntKind.i64 0), Go.Operand.const (Go.Value.int Go.IntKind.i64 0), Go.Operand.tmp 16, Go.Operand.tmp 17, Go.Operand.tmp 21], argTypes := #[46, 3, 3, 32, 3, 38] }, type := 48, pos := "law.go:15", after := #[{ on := 0, ground := Go.Ground.data }, { on := 1, ground := Go.Ground.data }, { on := 2, ground := Go.Ground.data }, { on := 6, ground := Go.Ground.data }, { on := 6, ground := Go.Ground.chain }], guard := none } : Oper)) rfl (fun K hK => ?_) (AllReadyH.cons (o := ({ dst := some 4, op := Go.Op.alloc 29, type := 0, pos := "law.go:15", after := #[], guard := none } : Oper)) rfl (fun K hK => ?_) AllReadyH.nil))
      · go_simp
        go_at_call 20
        refine (HMt.out _ (HM2.out.e _ rfl)).mono ?_
        intro e' u3 hmm
        obtain ⟨C, rfl, hbm, hmr⟩ := hmm.flat
        have HM4 := Lib.hid ((HM2.out.to hbm).withM hmr)
        refine hK.out _ _ HM4.out.below (fun hHeld => ?_)
        clear hK K hbm hmm hmr
        try simp only [Act.put, List.setIfInBounds_toArray, List.set_cons_zero, List.set_cons_succ]
        refine wpAnyH_take (i := 8) (oi := ({ dst := some 14, op := Go.Op.move (Go.Operand.tmp 22), type := 48, pos := "law.go:15", after := #[{ on := 7, ground := Go.Ground.data }], guard := none } : Oper)) (v := .tuple #[.agg C, .bool okb]) rfl (by kernel_rfl) (by kernel_rfl) (by kernel_rfl) (fun _ _ _ h => h) (Or.inl ⟨by rfl, fun w' hS' => ?_⟩) hHeld ?_
        · go_simp
        try simp only [Act.put, List.setIfInBounds_toArray, List.set_cons_zero, List.set_cons_succ]
        refine wpAnyH_take (i := 9) (oi := ({ dst := some 23, op := Go.Op.extract (Go.Operand.tmp 14) 0, type := 29, pos := "law.go:15", after := #[{ on := 8, ground := Go.Ground.data }], guard := none } : Oper)) (v := .agg C) rfl (by kernel_rfl) (by kernel_rfl) (by kernel_rfl) (fun _ _ _ h => h) (Or.inl ⟨by rfl, fun w' hS' => ?_⟩) hHeld ?_
        · go_simp
        try simp only [Act.put, List.setIfInBounds_toArray, List.set_cons_zero, List.set_cons_succ]
        refine wpAnyH_take (i := 10) (oi := ({ dst := some 24, op := Go.Op.extract (Go.Operand.tmp 14) 1, type := 4, pos := "law.go:15", after := #[{ on := 8, ground := Go.Ground.data }, { on := 12, ground := Go.Ground.gcOnly Go.Departure.lateStores }], guard := none } : Oper)) (v := .bool okb) rfl (by kernel_rfl) (by kernel_rfl) (by kernel_rfl) (fun _ _ _ h => h) (Or.inl ⟨by rfl, fun w' hS' => ?_⟩) hHeld ?_
        · go_simp
        try simp only [Act.put, List.setIfInBounds_toArray, List.set_cons_zero, List.set_cons_succ]
        refine wpAnyH_ready (rs := [11]) (by kernel_rfl) (by simp) ?_
        refine (AllReadyH.cons (o := ({ dst := some 4, op := Go.Op.alloc 29, type := 0, pos := "law.go:15", after := #[], guard := none } : Oper)) rfl (fun K hK => ?_) AllReadyH.nil)
        go_simp
        refine hK.out _ _ (HM4.out.below.alloc HM4.out.below.size _) (fun hHeld => ?_)
        clear hK K
        try simp only [Act.put, List.setIfInBounds_toArray, List.set_cons_zero, List.set_cons_succ]
        have HM6 := Lib.hid (HM4.out.withA)
        unfold zMsg at HM6
        generalize u3.alloc (.cells #[.int .i64 0, .bool false, .bool false, .bool false, .int .i64 0, .string ⟨#[]⟩, .int .i64 0, .slice none 0 0, .slice none 0 0] 29) = u5 at HM6 hHeld ⊢
        refine wpAnyH_ready (rs := [12]) (by kernel_rfl) (by simp) ?_
        refine (AllReadyH.cons (o := ({ dst := none, op := Go.Op.store 29 (Go.Operand.tmp 4) (Go.Operand.tmp 23), type := 0, pos := "law.go:15", after := #[{ on := 11, ground := Go.Ground.data }, { on := 9, ground := Go.Ground.data }, { on := 7, ground := Go.Ground.chain }, { on := 0, ground := Go.Ground.phase }, { on := 1, ground := Go.Ground.phase }, { on := 2, ground := Go.Ground.phase }, { on := 3, ground := Go.Ground.phase }, { on := 4, ground := Go.Ground.phase }, { on := 5, ground := Go.Ground.phase }, { on := 6, ground := Go.Ground.phase }, { on := 7, ground := Go.Ground.phase }, { on := 8, ground := Go.Ground.phase }, { on := 9, ground := Go.Ground.phase }, { on := 10, ground := Go.Ground.textOnly Go.Departure.lateStores }, { on := 11, ground := Go.Ground.phase }], guard := none } : Oper)) rfl (fun K hK => ?_) AllReadyH.nil)
        obtain ⟨hz9, ho9⟩ := (HM6.out.c C rfl).size
        refine step_store_tr rfl 29 (.tmp 4) (.tmp 23) rfl (u3.heap.size) zMsg C 29 (HM6.out.a _ rfl).1 rfl rfl (by rw [hz9]; exact sizeM9) (by rw [hz9]; rfl) ho9 (fun w4 hg4 hw4 hs4 => ?_)
        have HFn := Lib.hid (HM6.out.fin hg4.out hw4.out)
        refine hK.out _ _ HFn.out.below (fun hHeld => ?_)
        clear hK K
        refine wpAnyH_take (i := 13) (oi := ({ dst := some 5, op := Go.Op.assign (Go.Operand.tmp 24), type := 4, pos := "law.go:15", after := #[{ on := 10, ground := Go.Ground.data }, { on := 12, ground := Go.Ground.chain }, { on := 0, ground := Go.Ground.phase }, { on := 1, ground := Go.Ground.phase }, { on := 2, ground := Go.Ground.phase }, { on := 3, ground := Go.Ground.phase }, { on := 4, ground := Go.Ground.phase }, { on := 5, ground := Go.Ground.phase }, { on := 6, ground := Go.Ground.phase }, { on := 7, ground := Go.Ground.phase }, { on := 8, ground := Go.Ground.phase }, { on := 9, ground := Go.Ground.phase }, { on := 10, ground := Go.Ground.phase }, { on := 11, ground := Go.Ground.phase }, { on := 12, ground := Go.Ground.phase }], guard := none } : Oper)) (v := .bool okb) rfl (by kernel_rfl) (by kernel_rfl) (by kernel_rfl) (fun _ _ _ h => h) (Or.inl ⟨by rfl, fun w' hS' => ?_⟩) hHeld ?_
        · go_simp
        try simp only [Act.put, List.setIfInBounds_toArray, List.set_cons_zero, List.set_cons_succ]
        refine wpAnyH_done (by kernel_rfl) ?_ _
        try (go_wp2_with fail)
        go_meet
        case rel => exact ⟨_, C, rfl, rfl, HFn⟩
      · go_simp
        refine hK.out _ _ (HM2.out.below.alloc HM2.out.below.size _) (fun hHeld => ?_)
        clear hK K
        try simp only [Act.put, List.setIfInBounds_toArray, List.set_cons_zero, List.set_cons_succ]
        have HM8 := Lib.hid (HM2.out.withA)
        unfold zMsg at HM8
        generalize u1.alloc (.cells #[.int .i64 0, .bool false, .bool false, .bool false, .int .i64 0, .string ⟨#[]⟩, .int .i64 0, .slice none 0 0, .slice none 0 0] 29) = u7 at HM8 hHeld ⊢
        refine wpAnyH_ready (rs := [7]) (by kernel_rfl) (by simp) ?_
        refine (AllReadyH.cons (o := ({ dst := some 22, op := Go.Op.call { callee := Go.Callee.value (Go.Operand.func 20), args := #[Go.Operand.tmp 15, Go.Operand.const (Go.Value.int Go.IntKind.i64 0), Go.Operand.const (Go.Value.int Go.IntKind.i64 0), Go.Operand.tmp 16, Go.Operand.tmp 17, Go.Operand.tmp 21], argTypes := #[46, 3, 3, 32, 3, 38] }, type := 48, pos := "law.go:15", after := #[{ on := 0, ground := Go.Ground.data }, { on := 1, ground := Go.Ground.data }, { on := 2, ground := Go.Ground.data }, { on := 6, ground := Go.Ground.data }, { on := 6, ground := Go.Ground.chain }], guard := none } : Oper)) rfl (fun K hK => ?_) AllReadyH.nil)
        go_simp
        go_at_call 20
        refine (HMt.out _ (HM8.out.e _ rfl)).mono ?_
        intro e' u9 hmm
        obtain ⟨C, rfl, hbm, hmr⟩ := hmm.flat
        have HM10 := Lib.hid ((HM8.out.to hbm).withM hmr)
        refine hK.out _ _ HM10.out.below (fun hHeld => ?_)
        clear hK K hbm hmm hmr
        try simp only [Act.put, List.setIfInBounds_toArray, List.set_cons_zero, List.set_cons_succ]
        refine wpAnyH_take (i := 8) (oi := ({ dst := some 14, op := Go.Op.move (Go.Operand.tmp 22), type := 48, pos := "law.go:15", after := #[{ on := 7, ground := Go.Ground.data }], guard := none } : Oper)) (v := .tuple #[.agg C, .bool okb]) rfl (by kernel_rfl) (by kernel_rfl) (by kernel_rfl) (fun _ _ _ h => h) (Or.inl ⟨by rfl, fun w' hS' => ?_⟩) hHeld ?_
        · go_simp
        try simp only [Act.put, List.setIfInBounds_toArray, List.set_cons_zero, List.set_cons_succ]
        refine wpAnyH_take (i := 9) (oi := ({ dst := some 23, op := Go.Op.extract (Go.Operand.tmp 14) 0, type := 29, pos := "law.go:15", after := #[{ on := 8, ground := Go.Ground.data }], guard := none } : Oper)) (v := .agg C) rfl (by kernel_rfl) (by kernel_rfl) (by kernel_rfl) (fun _ _ _ h => h) (Or.inl ⟨by rfl, fun w' hS' => ?_⟩) hHeld ?_
        · go_simp
        try simp only [Act.put, List.setIfInBounds_toArray, List.set_cons_zero, List.set_cons_succ]
        refine wpAnyH_take (i := 10) (oi := ({ dst := some 24, op := Go.Op.extract (Go.Operand.tmp 14) 1, type := 4, pos := "law.go:15", after := #[{ on := 8, ground := Go.Ground.data }, { on := 12, ground := Go.Ground.gcOnly Go.Departure.lateStores }], guard := none } : Oper)) (v := .bool okb) rfl (by kernel_rfl) (by kernel_rfl) (by kernel_rfl) (fun _ _ _ h => h) (Or.inl ⟨by rfl, fun w' hS' => ?_⟩) hHeld ?_
        · go_simp
        try simp only [Act.put, List.setIfInBounds_toArray, List.set_cons_zero, List.set_cons_succ]
        refine wpAnyH_ready (rs := [12]) (by kernel_rfl) (by simp) ?_
        refine (AllReadyH.cons (o := ({ dst := none, op := Go.Op.store 29 (Go.Operand.tmp 4) (Go.Operand.tmp 23), type := 0, pos := "law.go:15", after := #[{ on := 11, ground := Go.Ground.data }, { on := 9, ground := Go.Ground.data }, { on := 7, ground := Go.Ground.chain }, { on := 0, ground := Go.Ground.phase }, { on := 1, ground := Go.Ground.phase }, { on := 2, ground := Go.Ground.phase }, { on := 3, ground := Go.Ground.phase }, { on := 4, ground := Go.Ground.phase }, { on := 5, ground := Go.Ground.phase }, { on := 6, ground := Go.Ground.phase }, { on := 7, ground := Go.Ground.phase }, { on := 8, ground := Go.Ground.phase }, { on := 9, ground := Go.Ground.phase }, { on := 10, ground := Go.Ground.textOnly Go.Departure.lateStores }, { on := 11, ground := Go.Ground.phase }], guard := none } : Oper)) rfl (fun K hK => ?_) AllReadyH.nil)
        obtain ⟨hz9, ho9⟩ := (HM10.out.c C rfl).size
        refine step_store_tr rfl 29 (.tmp 4) (.tmp 23) rfl (u1.heap.size) zMsg C 29 (HM10.out.a _ rfl).1 rfl rfl (by rw [hz9]; exact sizeM9) (by rw [hz9]; rfl) ho9 (fun w4 hg4 hw4 hs4 => ?_)
        have HFn := Lib.hid (HM10.out.fin hg4.out hw4.out)
        refine hK.out _ _ HFn.out.below (fun hHeld => ?_)
        clear hK K
        refine wpAnyH_take (i := 13) (oi := ({ dst := some 5, op := Go.Op.assign (Go.Operand.tmp 24), type := 4, pos := "law.go:15", after := #[{ on := 10, ground := Go.Ground.data }, { on := 12, ground := Go.Ground.chain }, { on := 0, ground := Go.Ground.phase }, { on := 1, ground := Go.Ground.phase }, { on := 2, ground := Go.Ground.phase }, { on := 3, ground := Go.Ground.phase }, { on := 4, ground := Go.Ground.phase }, { on := 5, ground := Go.Ground.phase }, { on := 6, ground := Go.Ground.phase }, { on := 7, ground := Go.Ground.phase }, { on := 8, ground := Go.Ground.phase }, { on := 9, ground := Go.Ground.phase }, { on := 10, ground := Go.Ground.phase }, { on := 11, ground := Go.Ground.phase }, { on := 12, ground := Go.Ground.phase }], guard := none } : Oper)) (v := .bool okb) rfl (by kernel_rfl) (by kernel_rfl) (by kernel_rfl) (fun _ _ _ h => h) (Or.inl ⟨by rfl, fun w' hS' => ?_⟩) hHeld ?_
        · go_simp
        try simp only [Act.put, List.setIfInBounds_toArray, List.set_cons_zero, List.set_cons_succ]
        refine wpAnyH_done (by kernel_rfl) ?_ _
        try (go_wp2_with fail)
        go_meet
        case rel => exact ⟨_, C, rfl, rfl, HFn⟩
    · go_simp
      refine hK.out _ _ (HM0.out.below.alloc HM0.out.below.size _) (fun hHeld => ?_)
      clear hK K
      try simp only [Act.put, List.setIfInBounds_toArray, List.set_cons_zero, List.set_cons_succ]
      have HM12 := Lib.hid (HM0.out.withA)
      unfold zMsg at HM12
      generalize V0.alloc (.cells #[.int .i64 0, .bool false, .bool false, .bool false, .int .i64 0, .string ⟨#[]⟩, .int .i64 0, .slice none 0 0, .slice none 0 0] 29) = u11 at HM12 hHeld ⊢
      refine wpAnyH_ready (rs := [6]) (by kernel_rfl) (by simp) ?_
      refine (AllReadyH.cons (o := ({ dst := some 21, op := Go.Op.call { callee := Go.Callee.value (Go.Operand.func 15), args := #[Go.Operand.tmp 20], argTypes := #[29] }, type := 38, pos := "law.go:15", after := #[{ on := 5, ground := Go.Ground.data }], guard := none } : Oper)) rfl (fun K hK => ?_) AllReadyH.nil)
      go_simp
      go_at_call 15
      refine (HEn.out _ HM12.out.below).mono ?_
      rintro e' u13 ⟨gb, cap, rfl, hen⟩
      have HM14 := Lib.hid ((HM12.out.to hen.below).withE)
      have HMt := Lib.hid (HMg.out gb cap u13 (by rw [← HL.out]; exact hen.le) hen.inB (HE0.out.below (HM12.out.to hen.below).below))
      refine hK.out _ _ HM14.out.below (fun hHeld => ?_)
      clear hK K hen
      try simp only [Act.put, List.setIfInBounds_toArray, List.set_cons_zero, List.set_cons_succ]
      refine wpAnyH_ready (rs := [7]) (by kernel_rfl) (by simp) ?_
      refine (AllReadyH.cons (o := ({ dst := some 22, op := Go.Op.call { callee := Go.Callee.value (Go.Operand.func 20), args := #[Go.Operand.tmp 15, Go.Operand.const (Go.Value.int Go.IntKind.i64 0), Go.Operand.const (Go.Value.int Go.IntKind.i64 0), Go.Operand.tmp 16, Go.Operand.tmp 17, Go.Operand.tmp 21], argTypes := #[46, 3, 3, 32, 3, 38] }, type := 48, pos := "law.go:15", after := #[{ on := 0, ground := Go.Ground.data }, { on := 1, ground := Go.Ground.data }, { on := 2, ground := Go.Ground.data }, { on := 6, ground := Go.Ground.data }, { on := 6, ground := Go.Ground.chain }], guard := none } : Oper)) rfl (fun K hK => ?_) AllReadyH.nil)
      go_simp
      go_at_call 20
      refine (HMt.out _ (HM14.out.e _ rfl)).mono ?_
      intro e' u15 hmm
      obtain ⟨C, rfl, hbm, hmr⟩ := hmm.flat
      have HM16 := Lib.hid ((HM14.out.to hbm).withM hmr)
      refine hK.out _ _ HM16.out.below (fun hHeld => ?_)
      clear hK K hbm hmm hmr
      try simp only [Act.put, List.setIfInBounds_toArray, List.set_cons_zero, List.set_cons_succ]
      refine wpAnyH_take (i := 8) (oi := ({ dst := some 14, op := Go.Op.move (Go.Operand.tmp 22), type := 48, pos := "law.go:15", after := #[{ on := 7, ground := Go.Ground.data }], guard := none } : Oper)) (v := .tuple #[.agg C, .bool okb]) rfl (by kernel_rfl) (by kernel_rfl) (by kernel_rfl) (fun _ _ _ h => h) (Or.inl ⟨by rfl, fun w' hS' => ?_⟩) hHeld ?_
      · go_simp
      try simp only [Act.put, List.setIfInBounds_toArray, List.set_cons_zero, List.set_cons_succ]
      refine wpAnyH_take (i := 9) (oi := ({ dst := some 23, op := Go.Op.extract (Go.Operand.tmp 14) 0, type := 29, pos := "law.go:15", after := #[{ on := 8, ground := Go.Ground.data }], guard := none } : Oper)) (v := .agg C) rfl (by kernel_rfl) (by kernel_rfl) (by kernel_rfl) (fun _ _ _ h => h) (Or.inl ⟨by rfl, fun w' hS' => ?_⟩) hHeld ?_
      · go_simp
      try simp only [Act.put, List.setIfInBounds_toArray, List.set_cons_zero, List.set_cons_succ]
      refine wpAnyH_take (i := 10) (oi := ({ dst := some 24, op := Go.Op.extract (Go.Operand.tmp 14) 1, type := 4, pos := "law.go:15", after := #[{ on := 8, ground := Go.Ground.data }, { on := 12, ground := Go.Ground.gcOnly Go.Departure.lateStores }], guard := none } : Oper)) (v := .bool okb) rfl (by kernel_rfl) (by kernel_rfl) (by kernel_rfl) (fun _ _ _ h => h) (Or.inl ⟨by rfl, fun w' hS' => ?_⟩) hHeld ?_
      · go_simp
      try simp only [Act.put, List.setIfInBounds_toArray, List.set_cons_zero, List.set_cons_succ]
      refine wpAnyH_ready (rs := [12]) (by kernel_rfl) (by simp) ?_
      refine (AllReadyH.cons (o := ({ dst := none, op := Go.Op.store 29 (Go.Operand.tmp 4) (Go.Operand.tmp 23), type := 0, pos := "law.go:15", after := #[{ on := 11, ground := Go.Ground.data }, { on := 9, ground := Go.Ground.data }, { on := 7, ground := Go.Ground.chain }, { on := 0, ground := Go.Ground.phase }, { on := 1, ground := Go.Ground.phase }, { on := 2, ground := Go.Ground.phase }, { on := 3, ground := Go.Ground.phase }, { on := 4, ground := Go.Ground.phase }, { on := 5, ground := Go.Ground.phase }, { on := 6, ground := Go.Ground.phase }, { on := 7, ground := Go.Ground.phase }, { on := 8, ground := Go.Ground.phase }, { on := 9, ground := Go.Ground.phase }, { on := 10, ground := Go.Ground.textOnly Go.Departure.lateStores }, { on := 11, ground := Go.Ground.phase }], guard := none } : Oper)) rfl (fun K hK => ?_) AllReadyH.nil)
      obtain ⟨hz9, ho9⟩ := (HM16.out.c C rfl).size
      refine step_store_tr rfl 29 (.tmp 4) (.tmp 23) rfl (V0.heap.size) zMsg C 29 (HM16.out.a _ rfl).1 rfl rfl (by rw [hz9]; exact sizeM9) (by rw [hz9]; rfl) ho9 (fun w4 hg4 hw4 hs4 => ?_)
      have HFn := Lib.hid (HM16.out.fin hg4.out hw4.out)
      refine hK.out _ _ HFn.out.below (fun hHeld => ?_)
      clear hK K
      refine wpAnyH_take (i := 13) (oi := ({ dst := some 5, op := Go.Op.assign (Go.Operand.tmp 24), type := 4, pos := "law.go:15", after := #[{ on := 10, ground := Go.Ground.data }, { on := 12, ground := Go.Ground.chain }, { on := 0, ground := Go.Ground.phase }, { on := 1, ground := Go.Ground.phase }, { on := 2, ground := Go.Ground.phase }, { on := 3, ground := Go.Ground.phase }, { on := 4, ground := Go.Ground.phase }, { on := 5, ground := Go.Ground.phase }, { on := 6, ground := Go.Ground.phase }, { on := 7, ground := Go.Ground.phase }, { on := 8, ground := Go.Ground.phase }, { on := 9, ground := Go.Ground.phase }, { on := 10, ground := Go.Ground.phase }, { on := 11, ground := Go.Ground.phase }, { on := 12, ground := Go.Ground.phase }], guard := none } : Oper)) (v := .bool okb) rfl (by kernel_rfl) (by kernel_rfl) (by kernel_rfl) (fun _ _ _ h => h) (Or.inl ⟨by rfl, fun w' hS' => ?_⟩) hHeld ?_
      · go_simp
      try simp only [Act.put, List.setIfInBounds_toArray, List.set_cons_zero, List.set_cons_succ]
      refine wpAnyH_done (by kernel_rfl) ?_ _
      try (go_wp2_with fail)
      go_meet
      case rel => exact ⟨_, C, rfl, rfl, HFn⟩
  case rest =>
    obtain ⟨g, C, rfl, rfl, HFn⟩ := hcut
    have HB := Lib.hid (HW0.out.trans (HFn.out.below.mono HW0.out.size))
    have hok := HOk.out
    subst hok
    go_wp2_with (go_at_call 25; refine (HNa.out _).mono ?_; rintro e w5 ⟨rfl, hb5⟩; have HB5 := Lib.hid (HB.out.trans (hb5.mono HB.out.size)); clear hb5; go_simp)
    go_ret
    exact ⟨rfl, HB5.out⟩
end Go.Proofs.YtmijoidogjablaaDoor

