/-
  The walk of MsgBack: a message comes back from its bytes. Conditions: the library's variable MaxLen holds some number; the seeds lie in memory.
-/
import Derived.Test.YtmijoidogjablaaDoorMsgMgLw
namespace Go.Proofs.YtmijoidogjablaaDoor
open Go.RowKit

set_option maxRecDepth 100000 in
set_option maxHeartbeats 16000000 in
theorem msgBack_walk (id fl : Int) (A : Option Addr) (c : Nat) (l : List SV) (w : World) (he : Env w) (h : SeedsAt w A l) (hf : ∀ s ∈ l, s.Fits) (hcp : l.length ≤ c) :
    Calls Tryd.prog 3 #[.int .i64 id, .int .i64 fl, .slice A l.length c] w fun e w' => e = .returned (.bool true) ∧ Below w.heap.size w w' := by
  have HFit := Lib.hid fit4_e
  have HE := Lib.hid he
  have HSe := Lib.hid h
  have HF := Lib.hid hf
  have HLi := Lib.hid (fun (W : World) (hW : SeedsAt W A l) => light_anyM A c l W hW hf)
  have ZM := Lib.hid zeroM
  obtain ⟨lb, hlb⟩ : ∃ lb, lightB l = lb := ⟨_, rfl⟩
  rw [hlb] at HLi
  have HLb := Lib.hid hlb
  have HCp := Lib.hid hcp
  clear he h hf hlb hcp
  go_enter Tryd.func3, Tryd.ntmps3
  go_wp2_with fail
  refine (HFit.out w HE.out).mono ?_
  rintro e w1 ⟨rfl, hb1⟩
  have HB1 := Lib.hid hb1
  have C1 := HLi.out w1 (HSe.out.below hb1)
  clear hb1 HLi
  cases lb with
  | false =>
    go_wp2_with fail
    refine C1.mono ?_
    rintro e w2 ⟨rfl, hb2⟩
    have HB2 := Lib.hid (HB1.out.trans (hb2.mono HB1.out.size))
    clear hb2 C1
    go_wp2_with fail
    go_ret
    exact ⟨rfl, HB2.out⟩
  | true =>
    rcases l with _ | ⟨s, l⟩
    · go_wp2_with fail
      refine C1.mono ?_
      rintro e w2 ⟨rfl, hb2⟩
      have HB2 := Lib.hid (HB1.out.trans (hb2.mono HB1.out.size))
      clear hb2 C1
      go_wp2_with fail
      go_ret
      exact ⟨rfl, HB2.out⟩
    · have hll : ¬ ((l.length : Int) + 1) = 0 := by omega
      obtain ⟨k, hk⟩ : ∃ k, c = k + 1 := ⟨c - 1, by have := HCp.out; simp at this; omega⟩
      subst hk
      have hlk : (l.length : Int) ≤ (k : Int) := by have := HCp.out; simp at this; omega
      have hl60 : (l.length : Int) + 1 ≤ 60 := by have := light_len HLb.out; simp at this; omega
      obtain ⟨b, o, rfl, hbl, hcs⟩ := HSe.out (by simp)
      have hfit := HF.out s (by simp)
      have HXs : Hid (∀ W, Below w.heap.size w W → W.rangeAt b o s.cells.toList) := Lib.hid (fun W hb j v hv => by
        have h1 := hcs 0 s rfl j v hv
        rw [Addr.add_lit, Nat.zero_mul, Nat.add_zero] at h1
        exact (hb.cell (p := ⟨b, o + j, none⟩) hbl).trans h1)
      have SSl : Hid ((Tryd.prog.info? 34).map (·.size) = some s.cells.toList.length) := Lib.hid (by rw [Array.length_toList, SV.size hfit.ad]; exact sizeSeed)
      obtain ⟨sA, hsA⟩ : ∃ sA : Option Addr, sA = (if k = 0 then some ⟨b, o, none⟩ else some ⟨b, o + 20, none⟩) := ⟨_, rfl⟩
      have HTl : Hid (∀ W, Below w.heap.size w W → SeedsAt W sA l) := Lib.hid (fun W hb => by
        rw [hsA]
        by_cases hk0 : k = 0
        · have : l = [] := List.length_eq_zero_iff.1 (by omega)
          rw [this]
          exact SeedsAt.nil
        · rw [if_neg hk0]
          exact (HSe.out.tail).below hb)
      have HMg := Lib.hid (fun W (hb : Below w.heap.size w W) => message_r id fl hfit sA k l (fun x hx => HF.out x (by simp [hx])) W (HTl.out W hb) (by omega))
      have HAg := Lib.hid (mgM_again id fl (q := s) (l := l) (fun x hx => HF.out x (by simp [hx])))
      have HNm := Lib.hid (mgM_nrm id fl s l)
      have HSA := Lib.hid hsA
      clear hbl hcs hfit hsA HF HSe HLb HCp HTl
      revert HMg HAg HNm
      generalize mgM id fl s l = M
      intro HMg HAg HNm
      obtain ⟨om, hom⟩ : ∃ om, om = some M := ⟨_, rfl⟩
      rw [← hom] at HMg
      have HOm := Lib.hid hom
      clear hom
      generalize s.cells = cs at HXs SSl HMg
      go_wp2_with fail
      refine C1.mono ?_
      rintro e W0 ⟨rfl, hb2⟩
      have HB2 := Lib.hid (HB1.out.trans (hb2.mono HB1.out.size))
      clear hb2 C1 HB1
      have HXS : Hid (∀ W, Below W0.heap.size W0 W → W.rangeAt b o cs.toList) := Lib.hid (fun W h => HXs.out W (HB2.out.trans (h.mono HB2.out.size)))
      have HMs := Lib.hid (fun W (h : Below W0.heap.size W0 W) => HMg.out W (HB2.out.trans (h.mono HB2.out.size)))
      clear HXs HMg
      go_upto_region 5 with fail
      go_cut [7] from 20 to 27 (fun t7 wx => ∃ g C, t7 = .pointer (some ⟨g, 0, none⟩) ∧ Hid (EmFin true om W0 wx g C))
      case first =>
        by_cases hk0 : k = 0
        · have hsa : sA = some ⟨b, o, none⟩ := by rw [HSA.out, if_pos hk0]
          have hl0 : l = [] := List.length_eq_zero_iff.1 (by omega)
          subst hsa hl0 hk0
          replace HMs := Lib.hid (fun W (h : Below W0.heap.size W0 W) => (show Calls Tryd.prog 13 #[.int .i64 id, .int .i64 fl, .agg cs, .slice (some ⟨b, o, none⟩) 0 0] W _ from HMs.out W h))
          refine wp_region_held_drew (S := (fun W : World => Below W0.heap.size W0 W)) (by kernel_rfl) (Below.refl _ W0).drew (fun hHeld => ?_)
          have HM0 : Hid (EmAt true om W0 W0.drew none none none) := Lib.hid ⟨(Below.refl _ W0).drew, (fun g h => by cases h), (fun g h => by cases h), (fun g h => by cases h)⟩
          generalize W0.drew = V0 at HM0 hHeld ⊢
          refine wpAnyH_take (i := 0) (oi := ({ dst := some 20, op := Go.Op.move (Go.Operand.tmp 0), type := 3, pos := "law.go:107", after := #[], guard := none } : Oper)) (v := .int .i64 id) rfl (by kernel_rfl) (by kernel_rfl) (by kernel_rfl) (fun _ _ _ h => h) (Or.inl ⟨by rfl, fun w' hS' => ?_⟩) hHeld ?_
          · go_simp
          try simp only [Act.put, List.setIfInBounds_toArray, List.set_cons_zero, List.set_cons_succ]
          refine wpAnyH_take (i := 1) (oi := ({ dst := some 21, op := Go.Op.move (Go.Operand.tmp 1), type := 3, pos := "law.go:107", after := #[], guard := none } : Oper)) (v := .int .i64 fl) rfl (by kernel_rfl) (by kernel_rfl) (by kernel_rfl) (fun _ _ _ h => h) (Or.inl ⟨by rfl, fun w' hS' => ?_⟩) hHeld ?_
          · go_simp
          try simp only [Act.put, List.setIfInBounds_toArray, List.set_cons_zero, List.set_cons_succ]
          refine wpAnyH_take (i := 2) (oi := ({ dst := some 22, op := Go.Op.move (Go.Operand.tmp 2), type := 22, pos := "law.go:107", after := #[], guard := none } : Oper)) (v := .slice (some ⟨b, o, none⟩) 1 1) rfl (by kernel_rfl) (by kernel_rfl) (by kernel_rfl) (fun _ _ _ h => h) (Or.inl ⟨by rfl, fun w' hS' => ?_⟩) hHeld ?_
          · go_simp
          try simp only [Act.put, List.setIfInBounds_toArray, List.set_cons_zero, List.set_cons_succ]
          refine wpAnyH_take (i := 3) (oi := ({ dst := some 23, op := Go.Op.indexAddr 22 (Go.Operand.tmp 22) (Go.Operand.const (Go.Value.int Go.IntKind.i64 0)), type := 0, pos := "law.go:107", after := #[{ on := 2, ground := Go.Ground.data }], guard := none } : Oper)) (v := .pointer (some ⟨b, o, none⟩)) rfl (by kernel_rfl) (by kernel_rfl) (by kernel_rfl) (fun _ _ _ h => h) (Or.inl ⟨by rfl, fun w' hS' => ?_⟩) hHeld ?_
          · go_simp
          try simp only [Act.put, List.setIfInBounds_toArray, List.set_cons_zero, List.set_cons_succ]
          refine wpAnyH_take (i := 4) (oi := ({ dst := some 24, op := Go.Op.load 34 (Go.Operand.tmp 23), type := 34, pos := "law.go:107", after := #[{ on := 3, ground := Go.Ground.data }], guard := none } : Oper)) (v := .agg cs.toList.toArray) rfl (by kernel_rfl) (by kernel_rfl) (by kernel_rfl) (fun _ _ _ h => h) (yieldsIf_load_mid (by rfl) _ _ rfl _ _ rfl _ _ (fun W h => HXS.out W h) Tryd.underlying34 rfl SSl.out) hHeld ?_
          try simp only [Act.put, List.setIfInBounds_toArray, List.set_cons_zero, List.set_cons_succ]
          refine wpAnyH_take (i := 5) (oi := ({ dst := some 25, op := Go.Op.move (Go.Operand.tmp 2), type := 22, pos := "law.go:107", after := #[], guard := none } : Oper)) (v := .slice (some ⟨b, o, none⟩) 1 1) rfl (by kernel_rfl) (by kernel_rfl) (by kernel_rfl) (fun _ _ _ h => h) (Or.inl ⟨by rfl, fun w' hS' => ?_⟩) hHeld ?_
          · go_simp
          try simp only [Act.put, List.setIfInBounds_toArray, List.set_cons_zero, List.set_cons_succ]
          refine wpAnyH_take (i := 6) (oi := ({ dst := some 26, op := Go.Op.slice 22 (Go.Operand.tmp 25) (some (Go.Operand.const (Go.Value.int Go.IntKind.i64 1))) none none, type := 22, pos := "law.go:107", after := #[{ on := 5, ground := Go.Ground.data }], guard := none } : Oper)) (v := .slice (some ⟨b, o, none⟩) 0 0) rfl (by kernel_rfl) (by kernel_rfl) (by kernel_rfl) (fun _ _ _ h => h) (Or.inl ⟨by rfl, fun w' hS' => ?_⟩) hHeld ?_
          · go_simp
          try simp only [Act.put, List.setIfInBounds_toArray, List.set_cons_zero, List.set_cons_succ]
          refine wpAnyH_ready (rs := [7, 8]) (by kernel_rfl) (by simp) ?_
          refine (AllReadyH.cons (o := ({ dst := some 27, op := Go.Op.call { callee := Go.Callee.value (Go.Operand.func 13), args := #[Go.Operand.tmp 20, Go.Operand.tmp 21, Go.Operand.tmp 24, Go.Operand.tmp 26], argTypes := #[3, 3, 34, 22] }, type := 29, pos := "law.go:107", after := #[{ on := 0, ground := Go.Ground.data }, { on := 1, ground := Go.Ground.data }, { on := 4, ground := Go.Ground.data }, { on := 6, ground := Go.Ground.data }], guard := none } : Oper)) rfl (fun K hK => ?_) (AllReadyH.cons (o := ({ dst := some 7, op := Go.Op.alloc 29, type := 0, pos := "law.go:107", after := #[], guard := none } : Oper)) rfl (fun K hK => ?_) AllReadyH.nil))
          · go_simp
            go_at_call 13
            refine (HMs.out _ HM0.out.below).mono ?_
            rintro e' u1 ⟨C, rfl, hbm, hmr⟩
            have HM2 := Lib.hid ((HM0.out.to hbm).withM hmr)
            refine hK.out _ _ HM2.out.below (fun hHeld => ?_)
            clear hK K hbm hmr
            try simp only [Act.put, List.setIfInBounds_toArray, List.set_cons_zero, List.set_cons_succ]
            refine wpAnyH_ready (rs := [8]) (by kernel_rfl) (by simp) ?_
            refine (AllReadyH.cons (o := ({ dst := some 7, op := Go.Op.alloc 29, type := 0, pos := "law.go:107", after := #[], guard := none } : Oper)) rfl (fun K hK => ?_) AllReadyH.nil)
            go_simp
            refine hK.out _ _ (HM2.out.below.alloc HM2.out.below.size _) (fun hHeld => ?_)
            clear hK K
            try simp only [Act.put, List.setIfInBounds_toArray, List.set_cons_zero, List.set_cons_succ]
            have HM4 := Lib.hid (HM2.out.withA)
            unfold zMsg at HM4
            generalize u1.alloc (.cells #[.int .i64 0, .bool false, .bool false, .bool false, .int .i64 0, .string ⟨#[]⟩, .int .i64 0, .slice none 0 0, .slice none 0 0] 29) = u3 at HM4 hHeld ⊢
            refine wpAnyH_ready (rs := [9]) (by kernel_rfl) (by simp) ?_
            refine (AllReadyH.cons (o := ({ dst := none, op := Go.Op.store 29 (Go.Operand.tmp 7) (Go.Operand.tmp 27), type := 0, pos := "law.go:107", after := #[{ on := 8, ground := Go.Ground.data }, { on := 7, ground := Go.Ground.data }, { on := 7, ground := Go.Ground.chain }, { on := 0, ground := Go.Ground.phase }, { on := 1, ground := Go.Ground.phase }, { on := 2, ground := Go.Ground.phase }, { on := 3, ground := Go.Ground.phase }, { on := 4, ground := Go.Ground.phase }, { on := 5, ground := Go.Ground.phase }, { on := 6, ground := Go.Ground.phase }, { on := 7, ground := Go.Ground.phase }, { on := 8, ground := Go.Ground.phase }], guard := none } : Oper)) rfl (fun K hK => ?_) AllReadyH.nil)
            obtain ⟨hz9, ho9⟩ := (HM4.out.c C rfl).size
            refine step_store_tr rfl 29 (.tmp 7) (.tmp 27) rfl (u1.heap.size) zMsg C 29 (HM4.out.a _ rfl).1 rfl rfl (by rw [hz9]; exact sizeM_9) (by rw [hz9]; rfl) ho9 (fun w4 hg4 hw4 hs4 => ?_)
            have HFn := Lib.hid (HM4.out.fin hg4.out hw4.out)
            refine hK.out _ _ HFn.out.below (fun hHeld => ?_)
            clear hK K
            refine wpAnyH_done (by kernel_rfl) ?_ _
            try (go_wp2_with fail)
            go_meet
            case rel => exact ⟨_, C, rfl, HFn⟩
          · go_simp
            refine hK.out _ _ (HM0.out.below.alloc HM0.out.below.size _) (fun hHeld => ?_)
            clear hK K
            try simp only [Act.put, List.setIfInBounds_toArray, List.set_cons_zero, List.set_cons_succ]
            have HM6 := Lib.hid (HM0.out.withA)
            unfold zMsg at HM6
            generalize V0.alloc (.cells #[.int .i64 0, .bool false, .bool false, .bool false, .int .i64 0, .string ⟨#[]⟩, .int .i64 0, .slice none 0 0, .slice none 0 0] 29) = u5 at HM6 hHeld ⊢
            refine wpAnyH_ready (rs := [7]) (by kernel_rfl) (by simp) ?_
            refine (AllReadyH.cons (o := ({ dst := some 27, op := Go.Op.call { callee := Go.Callee.value (Go.Operand.func 13), args := #[Go.Operand.tmp 20, Go.Operand.tmp 21, Go.Operand.tmp 24, Go.Operand.tmp 26], argTypes := #[3, 3, 34, 22] }, type := 29, pos := "law.go:107", after := #[{ on := 0, ground := Go.Ground.data }, { on := 1, ground := Go.Ground.data }, { on := 4, ground := Go.Ground.data }, { on := 6, ground := Go.Ground.data }], guard := none } : Oper)) rfl (fun K hK => ?_) AllReadyH.nil)
            go_simp
            go_at_call 13
            refine (HMs.out _ HM6.out.below).mono ?_
            rintro e' u7 ⟨C, rfl, hbm, hmr⟩
            have HM8 := Lib.hid ((HM6.out.to hbm).withM hmr)
            refine hK.out _ _ HM8.out.below (fun hHeld => ?_)
            clear hK K hbm hmr
            try simp only [Act.put, List.setIfInBounds_toArray, List.set_cons_zero, List.set_cons_succ]
            refine wpAnyH_ready (rs := [9]) (by kernel_rfl) (by simp) ?_
            refine (AllReadyH.cons (o := ({ dst := none, op := Go.Op.store 29 (Go.Operand.tmp 7) (Go.Operand.tmp 27), type := 0, pos := "law.go:107", after := #[{ on := 8, ground := Go.Ground.data }, { on := 7, ground := Go.Ground.data }, { on := 7, ground := Go.Ground.chain }, { on := 0, ground := Go.Ground.phase }, { on := 1, ground := Go.Ground.phase }, { on := 2, ground := Go.Ground.phase }, { on := 3, ground := Go.Ground.phase }, { on := 4, ground := Go.Ground.phase }, { on := 5, ground := Go.Ground.phase }, { on := 6, ground := Go.Ground.phase }, { on := 7, ground := Go.Ground.phase }, { on := 8, ground := Go.Ground.phase }], guard := none } : Oper)) rfl (fun K hK => ?_) AllReadyH.nil)
            obtain ⟨hz9, ho9⟩ := (HM8.out.c C rfl).size
            refine step_store_tr rfl 29 (.tmp 7) (.tmp 27) rfl (V0.heap.size) zMsg C 29 (HM8.out.a _ rfl).1 rfl rfl (by rw [hz9]; exact sizeM_9) (by rw [hz9]; rfl) ho9 (fun w4 hg4 hw4 hs4 => ?_)
            have HFn := Lib.hid (HM8.out.fin hg4.out hw4.out)
            refine hK.out _ _ HFn.out.below (fun hHeld => ?_)
            clear hK K
            refine wpAnyH_done (by kernel_rfl) ?_ _
            try (go_wp2_with fail)
            go_meet
            case rel => exact ⟨_, C, rfl, HFn⟩
        · have hsa : sA = some ⟨b, o + 20, none⟩ := by rw [HSA.out, if_neg hk0]
          have hk1 : (0 : Int) < (k : Int) := by omega
          subst hsa
          refine wp_region_held_drew (S := (fun W : World => Below W0.heap.size W0 W)) (by kernel_rfl) (Below.refl _ W0).drew (fun hHeld => ?_)
          have HM0 : Hid (EmAt true om W0 W0.drew none none none) := Lib.hid ⟨(Below.refl _ W0).drew, (fun g h => by cases h), (fun g h => by cases h), (fun g h => by cases h)⟩
          generalize W0.drew = V0 at HM0 hHeld ⊢
          refine wpAnyH_take (i := 0) (oi := ({ dst := some 20, op := Go.Op.move (Go.Operand.tmp 0), type := 3, pos := "law.go:107", after := #[], guard := none } : Oper)) (v := .int .i64 id) rfl (by kernel_rfl) (by kernel_rfl) (by kernel_rfl) (fun _ _ _ h => h) (Or.inl ⟨by rfl, fun w' hS' => ?_⟩) hHeld ?_
          · go_simp
          try simp only [Act.put, List.setIfInBounds_toArray, List.set_cons_zero, List.set_cons_succ]
          refine wpAnyH_take (i := 1) (oi := ({ dst := some 21, op := Go.Op.move (Go.Operand.tmp 1), type := 3, pos := "law.go:107", after := #[], guard := none } : Oper)) (v := .int .i64 fl) rfl (by kernel_rfl) (by kernel_rfl) (by kernel_rfl) (fun _ _ _ h => h) (Or.inl ⟨by rfl, fun w' hS' => ?_⟩) hHeld ?_
          · go_simp
          try simp only [Act.put, List.setIfInBounds_toArray, List.set_cons_zero, List.set_cons_succ]
          refine wpAnyH_take (i := 2) (oi := ({ dst := some 22, op := Go.Op.move (Go.Operand.tmp 2), type := 22, pos := "law.go:107", after := #[], guard := none } : Oper)) (v := .slice (some ⟨b, o, none⟩) (l.length + 1) (k + 1)) rfl (by kernel_rfl) (by kernel_rfl) (by kernel_rfl) (fun _ _ _ h => h) (Or.inl ⟨by rfl, fun w' hS' => ?_⟩) hHeld ?_
          · go_simp
          try simp only [Act.put, List.setIfInBounds_toArray, List.set_cons_zero, List.set_cons_succ]
          refine wpAnyH_take (i := 3) (oi := ({ dst := some 23, op := Go.Op.indexAddr 22 (Go.Operand.tmp 22) (Go.Operand.const (Go.Value.int Go.IntKind.i64 0)), type := 0, pos := "law.go:107", after := #[{ on := 2, ground := Go.Ground.data }], guard := none } : Oper)) (v := .pointer (some ⟨b, o, none⟩)) rfl (by kernel_rfl) (by kernel_rfl) (by kernel_rfl) (fun _ _ _ h => h) (Or.inl ⟨by rfl, fun w' hS' => ?_⟩) hHeld ?_
          · go_simp
          try simp only [Act.put, List.setIfInBounds_toArray, List.set_cons_zero, List.set_cons_succ]
          refine wpAnyH_take (i := 4) (oi := ({ dst := some 24, op := Go.Op.load 34 (Go.Operand.tmp 23), type := 34, pos := "law.go:107", after := #[{ on := 3, ground := Go.Ground.data }], guard := none } : Oper)) (v := .agg cs.toList.toArray) rfl (by kernel_rfl) (by kernel_rfl) (by kernel_rfl) (fun _ _ _ h => h) (yieldsIf_load_mid (by rfl) _ _ rfl _ _ rfl _ _ (fun W h => HXS.out W h) Tryd.underlying34 rfl SSl.out) hHeld ?_
          try simp only [Act.put, List.setIfInBounds_toArray, List.set_cons_zero, List.set_cons_succ]
          refine wpAnyH_take (i := 5) (oi := ({ dst := some 25, op := Go.Op.move (Go.Operand.tmp 2), type := 22, pos := "law.go:107", after := #[], guard := none } : Oper)) (v := .slice (some ⟨b, o, none⟩) (l.length + 1) (k + 1)) rfl (by kernel_rfl) (by kernel_rfl) (by kernel_rfl) (fun _ _ _ h => h) (Or.inl ⟨by rfl, fun w' hS' => ?_⟩) hHeld ?_
          · go_simp
          try simp only [Act.put, List.setIfInBounds_toArray, List.set_cons_zero, List.set_cons_succ]
          refine wpAnyH_take (i := 6) (oi := ({ dst := some 26, op := Go.Op.slice 22 (Go.Operand.tmp 25) (some (Go.Operand.const (Go.Value.int Go.IntKind.i64 1))) none none, type := 22, pos := "law.go:107", after := #[{ on := 5, ground := Go.Ground.data }], guard := none } : Oper)) (v := .slice (some ⟨b, o + 20, none⟩) l.length k) rfl (by kernel_rfl) (by kernel_rfl) (by kernel_rfl) (fun _ _ _ h => h) (Or.inl ⟨by rfl, fun w' hS' => ?_⟩) hHeld ?_
          · go_simp; exact fun h => absurd h (by omega)
          try simp only [Act.put, List.setIfInBounds_toArray, List.set_cons_zero, List.set_cons_succ]
          refine wpAnyH_ready (rs := [7, 8]) (by kernel_rfl) (by simp) ?_
          refine (AllReadyH.cons (o := ({ dst := some 27, op := Go.Op.call { callee := Go.Callee.value (Go.Operand.func 13), args := #[Go.Operand.tmp 20, Go.Operand.tmp 21, Go.Operand.tmp 24, Go.Operand.tmp 26], argTypes := #[3, 3, 34, 22] }, type := 29, pos := "law.go:107", after := #[{ on := 0, ground := Go.Ground.data }, { on := 1, ground := Go.Ground.data }, { on := 4, ground := Go.Ground.data }, { on := 6, ground := Go.Ground.data }], guard := none } : Oper)) rfl (fun K hK => ?_) (AllReadyH.cons (o := ({ dst := some 7, op := Go.Op.alloc 29, type := 0, pos := "law.go:107", after := #[], guard := none } : Oper)) rfl (fun K hK => ?_) AllReadyH.nil))
          · go_simp
            go_at_call 13
            refine (HMs.out _ HM0.out.below).mono ?_
            rintro e' u1 ⟨C, rfl, hbm, hmr⟩
            have HM2 := Lib.hid ((HM0.out.to hbm).withM hmr)
            refine hK.out _ _ HM2.out.below (fun hHeld => ?_)
            clear hK K hbm hmr
            try simp only [Act.put, List.setIfInBounds_toArray, List.set_cons_zero, List.set_cons_succ]
            refine wpAnyH_ready (rs := [8]) (by kernel_rfl) (by simp) ?_
            refine (AllReadyH.cons (o := ({ dst := some 7, op := Go.Op.alloc 29, type := 0, pos := "law.go:107", after := #[], guard := none } : Oper)) rfl (fun K hK => ?_) AllReadyH.nil)
            go_simp
            refine hK.out _ _ (HM2.out.below.alloc HM2.out.below.size _) (fun hHeld => ?_)
            clear hK K
            try simp only [Act.put, List.setIfInBounds_toArray, List.set_cons_zero, List.set_cons_succ]
            have HM4 := Lib.hid (HM2.out.withA)
            unfold zMsg at HM4
            generalize u1.alloc (.cells #[.int .i64 0, .bool false, .bool false, .bool false, .int .i64 0, .string ⟨#[]⟩, .int .i64 0, .slice none 0 0, .slice none 0 0] 29) = u3 at HM4 hHeld ⊢
            refine wpAnyH_ready (rs := [9]) (by kernel_rfl) (by simp) ?_
            refine (AllReadyH.cons (o := ({ dst := none, op := Go.Op.store 29 (Go.Operand.tmp 7) (Go.Operand.tmp 27), type := 0, pos := "law.go:107", after := #[{ on := 8, ground := Go.Ground.data }, { on := 7, ground := Go.Ground.data }, { on := 7, ground := Go.Ground.chain }, { on := 0, ground := Go.Ground.phase }, { on := 1, ground := Go.Ground.phase }, { on := 2, ground := Go.Ground.phase }, { on := 3, ground := Go.Ground.phase }, { on := 4, ground := Go.Ground.phase }, { on := 5, ground := Go.Ground.phase }, { on := 6, ground := Go.Ground.phase }, { on := 7, ground := Go.Ground.phase }, { on := 8, ground := Go.Ground.phase }], guard := none } : Oper)) rfl (fun K hK => ?_) AllReadyH.nil)
            obtain ⟨hz9, ho9⟩ := (HM4.out.c C rfl).size
            refine step_store_tr rfl 29 (.tmp 7) (.tmp 27) rfl (u1.heap.size) zMsg C 29 (HM4.out.a _ rfl).1 rfl rfl (by rw [hz9]; exact sizeM_9) (by rw [hz9]; rfl) ho9 (fun w4 hg4 hw4 hs4 => ?_)
            have HFn := Lib.hid (HM4.out.fin hg4.out hw4.out)
            refine hK.out _ _ HFn.out.below (fun hHeld => ?_)
            clear hK K
            refine wpAnyH_done (by kernel_rfl) ?_ _
            try (go_wp2_with fail)
            go_meet
            case rel => exact ⟨_, C, rfl, HFn⟩
          · go_simp
            refine hK.out _ _ (HM0.out.below.alloc HM0.out.below.size _) (fun hHeld => ?_)
            clear hK K
            try simp only [Act.put, List.setIfInBounds_toArray, List.set_cons_zero, List.set_cons_succ]
            have HM6 := Lib.hid (HM0.out.withA)
            unfold zMsg at HM6
            generalize V0.alloc (.cells #[.int .i64 0, .bool false, .bool false, .bool false, .int .i64 0, .string ⟨#[]⟩, .int .i64 0, .slice none 0 0, .slice none 0 0] 29) = u5 at HM6 hHeld ⊢
            refine wpAnyH_ready (rs := [7]) (by kernel_rfl) (by simp) ?_
            refine (AllReadyH.cons (o := ({ dst := some 27, op := Go.Op.call { callee := Go.Callee.value (Go.Operand.func 13), args := #[Go.Operand.tmp 20, Go.Operand.tmp 21, Go.Operand.tmp 24, Go.Operand.tmp 26], argTypes := #[3, 3, 34, 22] }, type := 29, pos := "law.go:107", after := #[{ on := 0, ground := Go.Ground.data }, { on := 1, ground := Go.Ground.data }, { on := 4, ground := Go.Ground.data }, { on := 6, ground := Go.Ground.data }], guard := none } : Oper)) rfl (fun K hK => ?_) AllReadyH.nil)
            go_simp
            go_at_call 13
            refine (HMs.out _ HM6.out.below).mono ?_
            rintro e' u7 ⟨C, rfl, hbm, hmr⟩
            have HM8 := Lib.hid ((HM6.out.to hbm).withM hmr)
            refine hK.out _ _ HM8.out.below (fun hHeld => ?_)
            clear hK K hbm hmr
            try simp only [Act.put, List.setIfInBounds_toArray, List.set_cons_zero, List.set_cons_succ]
            refine wpAnyH_ready (rs := [9]) (by kernel_rfl) (by simp) ?_
            refine (AllReadyH.cons (o := ({ dst := none, op := Go.Op.store 29 (Go.Operand.tmp 7) (Go.Operand.tmp 27), type := 0, pos := "law.go:107", after := #[{ on := 8, ground := Go.Ground.data }, { on := 7, ground := Go.Ground.data }, { on := 7, ground := Go.Ground.chain }, { on := 0, ground := Go.Ground.phase }, { on := 1, ground := Go.Ground.phase }, { on := 2, ground := Go.Ground.phase }, { on := 3, ground := Go.Ground.phase }, { on := 4, ground := Go.Ground.phase }, { on := 5, ground := Go.Ground.phase }, { on := 6, ground := Go.Ground.phase }, { on := 7, ground := Go.Ground.phase }, { on := 8, ground := Go.Ground.phase }], guard := none } : Oper)) rfl (fun K hK => ?_) AllReadyH.nil)
            obtain ⟨hz9, ho9⟩ := (HM8.out.c C rfl).size
            refine step_store_tr rfl 29 (.tmp 7) (.tmp 27) rfl (V0.heap.size) zMsg C 29 (HM8.out.a _ rfl).1 rfl rfl (by rw [hz9]; exact sizeM_9) (by rw [hz9]; rfl) ho9 (fun w4 hg4 hw4 hs4 => ?_)
            have HFn := Lib.hid (HM8.out.fin hg4.out hw4.out)
            refine hK.out _ _ HFn.out.below (fun hHeld => ?_)
            clear hK K
            refine wpAnyH_done (by kernel_rfl) ?_ _
            try (go_wp2_with fail)
            go_meet
            case rel => exact ⟨_, C, rfl, HFn⟩
      case rest =>
        obtain ⟨g, C, rfl, HFn⟩ := hcut
        revert HFn
        generalize wc = W3
        intro HFn
        have hr := HFn.out.r
        rcases hr with ⟨h0, _⟩ | ⟨_, m, hm, hmf, hml, hmc⟩
        · cases h0
        · have HW3 := Lib.hid (HB2.out.trans (HFn.out.below.mono HB2.out.size))
          have hmN : m.nrm = M := by rw [HOm.out] at hm; injection hm with hm; exact hm.symm
          have HAm := Lib.hid (again_of HAg.out (hmN.trans HNm.out.symm))
          have HLm := Lib.hid hml
          have HGm : Hid (W3.heap[g]? = some (.cells m.cells 29 (0, 0))) := Lib.hid (by rw [← hmc]; exact HFn.out.blk)
          have SM : Hid ((Tryd.prog.info? 29).map (·.size) = some m.cells.size) := Lib.hid sizeM_9
          have HEc := Lib.hid (fun W hW hl => encode_again m HAm.out W hW hl)
          have HDc := Lib.hid (fun gb cap u h1 h2 W h3 h4 => decode_again m HAm.out gb cap u h1 h2 W h3 h4)
          have HAl := Lib.hid (fun W hW hl => all_mv m HAm.out.fits W hW hl)
          have HOk := Lib.hid HAm.out.ok
          have HSm := Lib.hid (fun (m' : MV) W (h1 : m'.nrm = m.nrm) (h2 : m'.Fits) h3 h4 => same_e m' m h1 h2 W h3 h4)
          clear hm hmf hml hmc hmN HFn HAg HNm HOm
          generalize hMC : m.cells = MC at HGm SM HEc HAl HSm
          clear hMC
          go_wp2_with (first
            | (refine wpList_load_row rfl 29 (.tmp 7) rfl g rfl 29 MC (0, 0) _ HGm.out Tryd.underlying29 rfl SM.out ?_; go_simp))
          refine (HEc.out W3 (HE.out.below HW3.out) HLm.out).mono ?_
          rintro e w4 ⟨gb, cap, rfl, hen⟩
          have HW4 := Lib.hid (HW3.out.trans (hen.below.mono HW3.out.size))
          have HG4 := Lib.hid ((hen.below.block _ (heap_lt HGm.out)).trans HGm.out)
          have HL4 := Lib.hid (HLm.out.below hen.below)
          have HD4 := Lib.hid (HDc.out gb cap w4 hen.le hen.inB w4 (Below.refl _ _) (HE.out.below HW4.out))
          clear hen HDc HEc
          go_wp2_with fail
          refine HD4.out.mono ?_
          rintro e w5 ⟨hb5, ⟨h0, _⟩ | ⟨m', hm', _, hf', hl', rfl⟩⟩
          · cases h0
          · have HW5 := Lib.hid (HW4.out.trans (hb5.mono HW4.out.size))
            have HW6 : Hid (Below w.heap.size w (w5.alloc (.cells m'.cells 29))) := Lib.hid (HW5.out.alloc HW5.out.size _)
            have HG6 : Hid ((w5.alloc (.cells m'.cells 29)).heap[g]? = some (.cells MC 29 (0, 0))) := Lib.hid ((Below.heap_alloc _ _ _ (heap_lt ((hb5.block _ (heap_lt HG4.out)).trans HG4.out))).trans ((hb5.block _ (heap_lt HG4.out)).trans HG4.out))
            have HL6 : Hid (m.Lies (w5.alloc (.cells m'.cells 29))) := Lib.hid ((HL4.out.below hb5).below ((Below.refl _ w5).alloc (Nat.le_refl _) _))
            have HL6' : Hid (m'.Lies (w5.alloc (.cells m'.cells 29))) := Lib.hid (hl'.below ((Below.refl _ w5).alloc (Nat.le_refl _) _))
            have HG6' := Lib.hid (heap_alloc_last w5 (.cells m'.cells 29))
            have S' : Hid ((Tryd.prog.info? 29).map (·.size) = some m'.cells.size) := Lib.hid sizeM_9
            have Z' : Hid (zMsg.size = m'.cells.size) := Lib.hid rfl
            have O' := Lib.hid (MV.one m')
            have HA6 := Lib.hid (HAl.out _ (HE.out.below HW6.out) HL6.out)
            rw [HOk.out] at HA6
            have HS6 := Lib.hid (fun W (hb : Below (w5.alloc (.cells m'.cells 29)).heap.size (w5.alloc (.cells m'.cells 29)) W) => HSm.out m' W (by injection hm' with hm'; exact hm'.symm) hf' (HL6'.out.below hb) (HL6.out.below hb))
            clear hb5 hm' hf' hl' HW5 HD4 HG4 HL4 HSm HAl
            generalize m'.cells = MC' at HW6 HG6 HL6 HL6' HG6' S' Z' O' HA6 HS6 ⊢
            go_wp2_with (first
              | (refine wpList_alloc_z rfl 29 rfl zMsg ZM.out ?_; go_simp)
              | (refine wpList_store_new rfl 29 (.tmp 8) (.tmp 32) rfl w5.heap.size rfl zMsg MC' 29 rfl rfl S'.out Z'.out O'.out ?_; go_simp)
              | (refine wpList_row_gh 29 (.tmp 7) (by kernel_rfl) rfl g rfl 29 MC (0, 0) _ HG6.out Tryd.underlying29 rfl SM.out ?_; go_simp)
              | (go_at_call 16; refine HA6.out.mono ?_; rintro e w7 ⟨rfl, hb7, _⟩; have HW7 := Lib.hid (HW6.out.trans (hb7.mono HW6.out.size)); have HG7 := Lib.hid ((hb7.block _ (heap_lt HG6.out)).trans HG6.out); have HG7' := Lib.hid ((hb7.block _ (heap_lt HG6'.out)).trans HG6'.out); have HS7 := Lib.hid (HS6.out w7 hb7); clear hb7; go_simp)
              | (refine wpList_row_gh 29 (.tmp 8) (by kernel_rfl) rfl w5.heap.size rfl 29 MC' (0, 0) _ HG7'.out Tryd.underlying29 rfl S'.out ?_; go_simp)
              | (refine wpList_row_gh 29 (.tmp 7) (by kernel_rfl) rfl g rfl 29 MC (0, 0) _ HG7.out Tryd.underlying29 rfl SM.out ?_; go_simp)
              | (go_at_call 17; refine HS7.out.mono ?_; rintro e w9 ⟨rfl, hb9⟩; have HB9 := Lib.hid (HW7.out.trans (hb9.mono HW7.out.size)); clear hb9; go_simp))
            go_ret
            exact ⟨rfl, HB9.out⟩
end Go.Proofs.YtmijoidogjablaaDoor
