/-
  The walk of Put. Conditions: each states its own.
-/
import Derived.Test.YtiifanenomebeaaCachePutLib
import Derived.Deep.RegionHeld3
namespace Go.Proofs.Ytiifanenomebeaa
open Go.RowKit Go.Lib

theorem range_row {w : World} {g : Nat} {cs : List Value} {t : TypeId} {fr : Nat × Nat} (hg : w.heap[g]? = some (.cells cs.toArray t fr)) : w.rangeAt g 0 cs := fun j v hj => by
  rw [Nat.zero_add, cell_of_row w g j _ t fr hg]; simpa using hj
theorem sizeQl (a : ByteArray) (x : Int) : (Try.prog.info? 32).map (·.size) = some [Value.string a, .int .i64 x].length := (by kernel_rfl : (Try.prog.info? 32).map (·.size) = some 2)
set_option maxRecDepth 100000 in
set_option maxHeartbeats 8000000 in
theorem put_e {base C size : Nat} {w : World} {v : Value} {es : List En} (h : CAt base w C size v es) (now : Nat) (hn : now ≤ big) (qn : ByteArray) (qt out : Int) {l : Value} {n : Nat} {xs : List Value} (hl : RecsIn w l n xs) (hn1 : n ≤ 1000) (ttl : Int) (T : Nat) (hT : min ttl 1048576 = (T : Int)) (h1 : 1 ≤ ttl) (h0 : 0 < size) :
    Calls Try.prog 14 #[.pointer (some ⟨C, 0, none⟩), .int .i64 now, .agg #[.string qn, .int .i64 qt], .int .i64 out, l, .int .i64 ttl] w fun e w' => PutPost base C size now es qn qt out n xs T w e w' := by
  have hb : Below w.heap.size w (w.alloc (.cells #[.string qn, .int .i64 qt] 32)) := (Below.refl _ w).alloc (Nat.le_refl _) _
  have hA := h.below hb
  have HLA := Lib.hid (hl.below hb)
  have hTb : T ≤ big := by unfold big; omega
  have c0 := cell_of_row _ C 0 _ _ _ hA.obj
  simp only [List.getElem?_toArray, List.getElem?_cons_zero] at c0
  have hE := expire_e hA now hn
  have HSW := Lib.hid (Step.of_below hb h.hb)
  have HTB := Lib.hid hTb
  have HN := Lib.hid hn
  have hs0 : ((size : Int) == 0) = false := beq_eq_false_iff_ne.2 (by omega)
  have ht1 : ¬ ttl < 1 := by omega
  have hQ0 : (w.alloc (.cells #[.string qn, .int .i64 qt] 32)).heap[w.heap.size]? = some (.cells #[.string qn, .int .i64 qt] 32 (0, 0)) := heap_alloc_last w _
  have HQ0 := Lib.hid hQ0
  have HTm := Lib.hid hT
  have hszn : size ≤ 16 := h.small
  clear hb hA hl h hTb hn hQ0 hT
  go_enter Try.func14, Try.ntmps14
  go_wp2_with fail
  refine hE.mono ?_
  rintro e w2 ⟨v2, rfl, hC2, hs2⟩
  obtain ⟨W0, hW0⟩ : ∃ B, B = w.heap.size := ⟨_, rfl⟩
  rw [← hW0] at HQ0 ⊢
  have HQ2 := Lib.hid (hs2.keep W0 _ HQ0.out (other_cells (by decide) (by decide)))
  have q0 := cell_of_row w2 W0 0 _ _ _ HQ2.out
  have q1 := cell_of_row w2 W0 1 _ _ _ HQ2.out
  simp only [List.getElem?_toArray, List.getElem?_cons_succ, List.getElem?_cons_zero] at q0 q1
  have hF := find_e hC2 qn qt
  have HC2 := Lib.hid hC2
  have HS2 := Lib.hid (HSW.out.trans hs2)
  have HL2 := Lib.hid (HLA.out.step hs2)
  clear hE c0 hC2 hs2 HSW HLA hW0
  go_wp2_with fail
  refine hF.mono ?_
  rintro e w3 ⟨r, rfl, hI, hb3⟩
  have hE := idx_eraseP hI
  have HC3 := Lib.hid (HC2.out.below hb3)
  have HS3 := Lib.hid (HS2.out.trans (Step.of_below hb3 HC2.out.hb))
  have HL3 := Lib.hid (HL2.out.below hb3)
  have HQ3 := Lib.hid ((hb3.block W0 (heap_lt HQ2.out)).trans HQ2.out)
  have HES : Hid (PutRel size now es = fun e es' => ∃ es3, es' = es3 ++ [e] ∧ ((((es.filter (cnt now)).eraseP (isQ e.nm e.ty)).length ≠ size ∧ es3 = (es.filter (cnt now)).eraseP (isQ e.nm e.ty)) ∨ (((es.filter (cnt now)).eraseP (isQ e.nm e.ty)).length = size ∧ ∃ f, ShP ((es.filter (cnt now)).eraseP (isQ e.nm e.ty)) f ∧ es3 = ((es.filter (cnt now)).eraseP (isQ e.nm e.ty)).eraseIdx f))) := Lib.hid rfl
  clear hF hI hb3 q0 q1 HC2 HS2 HL2 HQ2
  have HCN : Hid (∀ e ∈ es.filter (cnt now), now < fin e) := Lib.hid (fun e he => by
    have := (List.mem_filter.1 he).2
    unfold cnt at this
    unfold fin
    simpa using this)
  generalize es.filter (cnt now) = es1 at *
  rcases hE with ⟨rfl, hE⟩ | ⟨k, rfl, hk, hE⟩
  · have HE := Lib.hid hE
    clear hE
    obtain ⟨A, c, rfl⟩ := own_sl HC3.out.own
    have c0 := cell_of_row w3 C 0 _ _ _ HC3.out.obj
    have c1 := cell_of_row w3 C 1 _ _ _ HC3.out.obj
    simp only [List.getElem?_toArray, List.getElem?_cons_succ, List.getElem?_cons_zero] at c0 c1
    by_cases hf : es1.length = size
    · rcases HC3.out.row with ⟨_, hnil⟩ | ⟨g, cap, tail, hv, hbg, hg, hnc, hcm, hs⟩
      · subst hnil; simp at hf; omega
      injection hv with hA hnn hcc
      subst hA
      obtain rfl : cap = c := hcc.symm
      clear hnn
      have hf1 : ((es1.length : Int) == (size : Int)) = true := by rw [beq_iff_eq]; omega
      have HG3 := Lib.hid hg
      have HBG := Lib.hid hbg
      have HSZ := Lib.hid hs
      have HFS := Lib.hid hf
      clear hg hbg hs hf
      go_wp2_with fail
      go_quiet (fail)
      have hbd : Below w3.heap.size w3 (w3.drewN nq) := ⟨rfl, rfl, rfl, Nat.le_refl _, fun _ _ => rfl⟩
      have HC4 := Lib.hid (HC3.out.below hbd)
      have HQ4 := Lib.hid ((hbd.block W0 (heap_lt HQ3.out)).trans HQ3.out)
      have HS4 := Lib.hid (HS3.out.trans (Step.of_below hbd HC3.out.hb))
      have HL4 := Lib.hid (HL3.out.below hbd)
      have HG4 := Lib.hid ((hbd.block g (heap_lt HG3.out)).trans HG3.out)
      clear hbd HC3 HQ3 HS3 HL3 HG3 c0 c1
      generalize w3.drewN nq = w4 at HC4 HQ4 HS4 HL4 HG4 ⊢
      have c1 := cell_of_row w4 C 1 _ _ _ HC4.out.obj
      simp only [List.getElem?_toArray, List.getElem?_cons_succ, List.getElem?_cons_zero] at c1
      go_wp2_with fail
      have hpos : 0 < es1.length := by rw [HFS.out]; exact h0
      have hsmall : es1.length ≤ 1000 := by rw [HFS.out]; omega
      have hsp := shortest_e (some ⟨g, 0, none⟩) cap now es1 hpos hsmall w4 HC4.out.ents HC4.out.fits HC4.out.one HCN.out
      refine hsp.mono ?_
      rintro e w5 ⟨f, rfl, hsh, hb5⟩
      have HSH := Lib.hid hsh
      have hfl : f < es1.length := hsh.1
      have hlen16 := HC4.out.len
      have HCW := Lib.hid (HC4.out.below hb5)
      have HQW := Lib.hid ((hb5.block W0 (heap_lt HQ4.out)).trans HQ4.out)
      have HSW := Lib.hid (HS4.out.trans (Step.of_below hb5 HC4.out.hb))
      have HLW := Lib.hid (HL4.out.below hb5)
      have HG5 := Lib.hid ((hb5.block g (heap_lt HG4.out)).trans HG4.out)
      clear hpos hsmall hsp hsh hb5 HC4 HQ4 HS4 HL4 HG4 c1
      have c1 := cell_of_row w5 C 1 _ _ _ HCW.out.obj
      simp only [List.getElem?_toArray, List.getElem?_cons_succ, List.getElem?_cons_zero] at c1
      go_wp2_with fail
      have hbg := HBG.out
      have hs := HSZ.out
      have hg5 := HG5.out
      refine (delete_e g cap f es1 tail w5 hg5 (by omega) hnc hcm (HCW.out.one) HSH.out.1).mono ?_
      rintro e w6 hd
      obtain rfl := hd.1
      have hdl := CAt.del HCW.out hg5 hbg hcm hnc hs (Below.refl _ _) hd.2.1 hd.2.2 (by rw [List.length_eraseIdx_of_lt HSH.out.1]; omega) (fun e he => List.mem_of_mem_eraseIdx he)
      have d1 := cell_of_row w6 C 1 _ _ _ hdl.2.2
      have f1 := frozen_of_row w6 C 1 _ _ hdl.2.2
      simp only [List.getElem?_toArray, List.getElem?_cons_succ, List.getElem?_cons_zero] at d1
      have HC7 := Lib.hid hdl.1
      have HS7 := Lib.hid (HSW.out.trans hdl.2.1)
      have HL7 := Lib.hid (HLW.out.step hdl.2.1)
      have HQ7 := Lib.hid (hdl.2.1.keep W0 _ HQW.out (other_cells (by decide) (by decide)))
      have hel : (es1.eraseIdx f).length = es1.length - 1 := List.length_eraseIdx_of_lt HSH.out.1
      obtain ⟨es3, hes3⟩ : ∃ es3, es3 = es1.eraseIdx f := ⟨_, rfl⟩
      have HREL : Hid (∀ rv, PutRel size now es ⟨qn, qt, out, rv, n, xs, now, T⟩ (es3 ++ [⟨qn, qt, out, rv, n, xs, now, T⟩])) := Lib.hid (fun rv => by
        rw [HES.out]
        refine ⟨es3, rfl, .inr ?_⟩
        show (es1.eraseP (isQ qn qt)).length = size ∧ ∃ f, ShP (es1.eraseP (isQ qn qt)) f ∧ es3 = (es1.eraseP (isQ qn qt)).eraseIdx f
        rw [HE.out]
        exact ⟨HFS.out, f, HSH.out, hes3⟩)
      have hlt3 : es3.length < size := by have := HFS.out; rw [hes3, hel]; omega
      rw [← hes3] at HC7 HS7 HL7 HQ7 ⊢
      clear hes3 hel hlen16 hfl hbg hs HE HES HCN HFS HSH HBG HSZ HG5 hg5 hd hdl HCW HQW HSW HLW c1
      go_wp2_with fail
      have hbd : Below (w6.setCell ⟨C, 1, none⟩ (.slice (some ⟨g, 0, none⟩) es3.length cap)).heap.size (w6.setCell ⟨C, 1, none⟩ (.slice (some ⟨g, 0, none⟩) es3.length cap)) (w6.setCell ⟨C, 1, none⟩ (.slice (some ⟨g, 0, none⟩) es3.length cap)).drew := ⟨rfl, rfl, rfl, Nat.le_refl _, fun _ _ => rfl⟩
      have HCX := Lib.hid (HC7.out.below hbd)
      have HQX := Lib.hid ((hbd.block W0 (heap_lt HQ7.out)).trans HQ7.out)
      have HSX := Lib.hid (HS7.out.trans (Step.of_below hbd HC7.out.hb))
      have HLX := Lib.hid (HL7.out.below hbd)
      clear hbd HC7 HQ7 HS7 HL7
      refine wp_region_held_drew (S := (fun W : World => W.heap[W0]? = some (.cells #[.string qn, .int .i64 qt] 32 (0, 0)))) (by kernel_rfl) HQX.out (fun hHeld => ?_)
      generalize (w6.setCell ⟨C, 1, none⟩ (.slice (some ⟨g, 0, none⟩) es3.length cap)).drew = W at hHeld HCX HQX HSX HLX ⊢
      have k1 := cell_of_row W C 1 _ _ _ HCX.out.obj
      simp only [List.getElem?_toArray, List.getElem?_cons_succ, List.getElem?_cons_zero] at k1
      refine wpAnyH_take (i := 0) (oi := ({ dst := some 73, op := Go.Op.move (Go.Operand.tmp 0), type := 24, pos := "cache.go:76", after := #[], guard := none } : Oper)) (v := .pointer (some ⟨C, 0, none⟩)) rfl (by kernel_rfl) (by kernel_rfl) (by kernel_rfl) (fun _ _ _ h => h) (Or.inl ⟨by rfl, fun w' _ => ?_⟩) hHeld ?_
      · go_simp
      try simp only [Act.put, List.setIfInBounds_toArray, List.set_cons_zero, List.set_cons_succ]
      refine wpAnyH_take (i := 1) (oi := ({ dst := some 74, op := Go.Op.move (Go.Operand.tmp 0), type := 24, pos := "cache.go:76", after := #[], guard := none } : Oper)) (v := .pointer (some ⟨C, 0, none⟩)) rfl (by kernel_rfl) (by kernel_rfl) (by kernel_rfl) (fun _ _ _ h => h) (Or.inl ⟨by rfl, fun w' _ => ?_⟩) hHeld ?_
      · go_simp
      try simp only [Act.put, List.setIfInBounds_toArray, List.set_cons_zero, List.set_cons_succ]
      refine wpAnyH_take (i := 2) (oi := ({ dst := some 75, op := Go.Op.nilCheck (Go.Operand.tmp 74), type := 0, pos := "cache.go:76", after := #[{ on := 1, ground := Go.Ground.data }], guard := none } : Oper)) (v := .pointer (some ⟨C, 0, none⟩)) rfl (by kernel_rfl) (by kernel_rfl) (by kernel_rfl) (fun _ _ _ h => h) (Or.inl ⟨by rfl, fun w' _ => ?_⟩) hHeld ?_
      · go_simp
      try simp only [Act.put, List.setIfInBounds_toArray, List.set_cons_zero, List.set_cons_succ]
      refine wpAnyH_take (i := 3) (oi := ({ dst := some 76, op := Go.Op.fieldAddr 55 (Go.Operand.tmp 75) 1, type := 0, pos := "cache.go:76", after := #[{ on := 2, ground := Go.Ground.data }], guard := none } : Oper)) (v := .pointer (some ⟨C, 1, none⟩)) rfl (by kernel_rfl) (by kernel_rfl) (by kernel_rfl) (fun _ _ _ h => h) (Or.inl ⟨by rfl, fun w' _ => ?_⟩) hHeld ?_
      · go_simp
      try simp only [Act.put, List.setIfInBounds_toArray, List.set_cons_zero, List.set_cons_succ]
      refine wpAnyH_take (i := 5) (oi := ({ dst := some 78, op := Go.Op.load 32 (Go.Operand.tmp 8), type := 32, pos := "cache.go:76", after := #[], guard := none } : Oper)) (v := .agg #[.string qn, .int .i64 qt]) rfl (by kernel_rfl) (by kernel_rfl) (by kernel_rfl) (fun _ _ _ h => h) (yieldsIf_load_mid (by rfl) _ _ rfl _ _ rfl [.string qn, .int .i64 qt] _ (fun w h => range_row h) Try.underlying32 rfl (sizeQl qn qt)) hHeld ?_
      try simp only [Act.put, List.setIfInBounds_toArray, List.set_cons_zero, List.set_cons_succ]
      refine wpAnyH_take (i := 6) (oi := ({ dst := some 79, op := Go.Op.move (Go.Operand.tmp 3), type := 3, pos := "cache.go:76", after := #[], guard := none } : Oper)) (v := .int .i64 out) rfl (by kernel_rfl) (by kernel_rfl) (by kernel_rfl) (fun _ _ _ h => h) (Or.inl ⟨by rfl, fun w' _ => ?_⟩) hHeld ?_
      · go_simp
      try simp only [Act.put, List.setIfInBounds_toArray, List.set_cons_zero, List.set_cons_succ]
      refine wpAnyH_take (i := 7) (oi := ({ dst := some 80, op := Go.Op.move (Go.Operand.tmp 4), type := 41, pos := "cache.go:76", after := #[], guard := none } : Oper)) (v := l) rfl (by kernel_rfl) (by kernel_rfl) (by kernel_rfl) (fun _ _ _ h => h) (Or.inl ⟨by rfl, fun w' _ => ?_⟩) hHeld ?_
      · go_simp
      try simp only [Act.put, List.setIfInBounds_toArray, List.set_cons_zero, List.set_cons_succ]
      refine wpAnyH_take (i := 9) (oi := ({ dst := some 82, op := Go.Op.move (Go.Operand.tmp 1), type := 3, pos := "cache.go:76", after := #[], guard := none } : Oper)) (v := .int .i64 now) rfl (by kernel_rfl) (by kernel_rfl) (by kernel_rfl) (fun _ _ _ h => h) (Or.inl ⟨by rfl, fun w' _ => ?_⟩) hHeld ?_
      · go_simp
      try simp only [Act.put, List.setIfInBounds_toArray, List.set_cons_zero, List.set_cons_succ]
      refine wpAnyH_take (i := 10) (oi := ({ dst := some 83, op := Go.Op.move (Go.Operand.tmp 5), type := 3, pos := "cache.go:76", after := #[], guard := none } : Oper)) (v := .int .i64 ttl) rfl (by kernel_rfl) (by kernel_rfl) (by kernel_rfl) (fun _ _ _ h => h) (Or.inl ⟨by rfl, fun w' _ => ?_⟩) hHeld ?_
      · go_simp
      try simp only [Act.put, List.setIfInBounds_toArray, List.set_cons_zero, List.set_cons_succ]
      refine wpAnyH_take (i := 11) (oi := ({ dst := some 84, op := Go.Op.call { callee := Go.Callee.builtin Go.Builtin.min, args := #[Go.Operand.tmp 83, Go.Operand.const (Go.Value.int Go.IntKind.i64 1048576)], argTypes := #[3, 3] }, type := 3, pos := "cache.go:76", after := #[{ on := 10, ground := Go.Ground.data }], guard := none } : Oper)) (v := .int .i64 T) rfl (by kernel_rfl) (by kernel_rfl) (by kernel_rfl) (fun _ _ _ h => h) (Or.inl ⟨by rfl, fun w' _ => ?_⟩) hHeld ?_
      · go_simp; have := HTm.out; split <;> omega
      try simp only [Act.put, List.setIfInBounds_toArray, List.set_cons_zero, List.set_cons_succ]
      refine wpAnyH_ready (rs := [4, 8]) (by kernel_rfl) (by simp) ?_
      refine AllReadyH.cons (o := ({ dst := some 77, op := Go.Op.load 53 (Go.Operand.tmp 76), type := 53, pos := "cache.go:76", after := #[{ on := 3, ground := Go.Ground.data }], guard := none } : Oper)) rfl (fun K hK => ?_) (AllReadyH.cons (o := ({ dst := some 81, op := Go.Op.call { callee := Go.Callee.value (Go.Operand.func 25), args := #[Go.Operand.tmp 80], argTypes := #[41] }, type := 41, pos := "cache.go:79", after := #[{ on := 7, ground := Go.Ground.data }], guard := none } : Oper)) rfl (fun K hK => ?_) AllReadyH.nil)
      · go_simp
        refine hK.out _ _ hHeld (fun hHeld1 => ?_)
        clear hK K
        try simp only [Act.put, List.setIfInBounds_toArray, List.set_cons_zero, List.set_cons_succ]
        refine wpAnyH_ready (rs := [8]) (by kernel_rfl) (by simp) ?_
        refine AllReadyH.cons (o := ({ dst := some 81, op := Go.Op.call { callee := Go.Callee.value (Go.Operand.func 25), args := #[Go.Operand.tmp 80], argTypes := #[41] }, type := 41, pos := "cache.go:79", after := #[{ on := 7, ground := Go.Ground.data }], guard := none } : Oper)) rfl (fun K hK => ?_) AllReadyH.nil
        go_simp
        go_at_call 25
        refine (clone_e HLX.out hn1).mono ?_
        rintro e' w5 ⟨rv, rfl, ho5, hb5⟩
        have HC5 := Lib.hid (HCX.out.below hb5)
        have HS5 := Lib.hid (HSX.out.trans (Step.of_below hb5 HCX.out.hb))
        have hH5 : w5.heap[W0]? = _ := (hb5.block W0 (heap_lt hHeld)).trans hHeld
        clear hb5
        refine hK.out _ _ hH5 (fun hHeld2 => ?_)
        clear hK K
        try simp only [Act.put, List.setIfInBounds_toArray, List.set_cons_zero, List.set_cons_succ]
        obtain ⟨Ar, cr, rfl⟩ := own_sl ho5
        have HO5 := Lib.hid (own_base ho5 HCX.out.hb)
        clear ho5
        refine wpAnyH_take (i := 12) (oi := ({ dst := some 85, op := Go.Op.build 58 #[(0, Go.Operand.tmp 78), (1, Go.Operand.tmp 79), (2, Go.Operand.tmp 81), (3, Go.Operand.tmp 82), (4, Go.Operand.tmp 84)], type := 58, pos := "cache.go:76", after := #[{ on := 5, ground := Go.Ground.data }, { on := 6, ground := Go.Ground.data }, { on := 8, ground := Go.Ground.data }, { on := 9, ground := Go.Ground.data }, { on := 11, ground := Go.Ground.data }], guard := none } : Oper)) (v := .agg [Value.string qn, .int .i64 qt, .int .i64 out, .slice Ar n cr, .int .i64 now, .int .i64 T].toArray) rfl (by kernel_rfl) (by kernel_rfl) (by kernel_rfl) (fun _ _ _ h => h) (Or.inl ⟨by rfl, fun w' _ => ?_⟩) hHeld2 ?_
        · go_simp
        try simp only [Act.put, List.setIfInBounds_toArray, List.set_cons_zero, List.set_cons_succ]
        refine wpAnyH_ready (rs := [13]) (by kernel_rfl) (by simp) ?_
        refine AllReadyH.cons (o := ({ dst := some 86, op := Go.Op.buildSlice 53 1 #[(0, Go.Operand.tmp 85)], type := 53, pos := "cache.go:76", after := #[{ on := 12, ground := Go.Ground.data }], guard := none } : Oper)) rfl (fun K hK => ?_) AllReadyH.nil
        rw [if_pos (by kernel_rfl)]
        obtain ⟨i1, hi1, hz1, hs1, hy1⟩ := info_En
        refine wp_buildSlice 53 58 1 _ rfl [Value.string qn, .int .i64 qt, .int .i64 out, .slice Ar n cr, .int .i64 now, .int .i64 T].toArray i1 _ Try.underlying53 hi1 hz1 (by rw [hs1]; decide) (by rw [hs1]; decide) (by rw [hs1]; refine (congrArg _ (?_ : _ = [(0, Value.agg [Value.string qn, .int .i64 qt, .int .i64 out, .slice Ar n cr, .int .i64 now, .int .i64 T].toArray)])).trans (fill_6 rfl); rw [Array.toList_map]; rfl) ?_
        have hba : Below w5.heap.size w5 (w5.alloc (.cells [Value.string qn, .int .i64 qt, .int .i64 out, .slice Ar n cr, .int .i64 now, .int .i64 T].toArray 58)) := (Below.refl _ w5).alloc (Nat.le_refl _) _
        have HC6 := Lib.hid (HC5.out.below hba)
        have HO6 := Lib.hid (own_below HO5.out hba)
        have HS6 := Lib.hid (HS5.out.trans (Step.of_below hba HC5.out.hb))
        refine hK.out _ _ ((hba.block W0 (heap_lt hHeld2)).trans hHeld2) (fun hH6 => ?_)
        clear hK K hba
        try simp only [Act.put, List.setIfInBounds_toArray, List.set_cons_zero, List.set_cons_succ]
        refine wpAnyH_ready (rs := [14]) (by kernel_rfl) (by simp) ?_
        refine AllReadyH.cons (o := ({ dst := some 87, op := Go.Op.call { callee := Go.Callee.builtin Go.Builtin.append, args := #[Go.Operand.tmp 77, Go.Operand.tmp 86], argTypes := #[53, 53] }, type := 53, pos := "cache.go:76", after := #[{ on := 4, ground := Go.Ground.data }, { on := 13, ground := Go.Ground.data }, { on := 8, ground := Go.Ground.chain }], guard := none } : Oper)) rfl (fun K hK => ?_) AllReadyH.nil
        rw [if_pos (by kernel_rfl)]
        refine wp_append_own (w := w5.alloc (.cells [Value.string qn, .int .i64 qt, .int .i64 out, .slice Ar n cr, .int .i64 now, .int .i64 T].toArray 58)) (.tmp 77) (.tmp 86) 53 rfl base 58 i1 _ 6 72 Try.underlying53 hi1 hz1 hs1 hy1 rfl (by decide) _ es3.length (flatE es3) rfl HC6.out.own ⟨w5.heap.size, 0, none⟩ 1 1 [Value.string qn, .int .i64 qt, .int .i64 out, .slice Ar n cr, .int .i64 now, .int .i64 T] rfl rfl (fun j u hj => by rw [Addr.add_lit, Nat.zero_add, World.cell?_alloc_mark, List.getElem?_toArray]; exact hj) (fun u hu => by simp only [List.mem_cons, List.not_mem_nil, or_false] at hu; rcases hu with rfl | rfl | rfl | rfl | rfl | rfl <;> rfl) (by unfold maxLen; omega) (by omega) HC6.out.hb ?_
        intro v1 w6 ho6 hg6 _
        obtain ⟨A1, cap1, hv1⟩ := own_sl ho6
        subst hv1
        have hap := HC6.out.app (e := (⟨qn, qt, out, .slice Ar n cr, n, xs, now, T⟩ : En)) ho6 hg6 HO6.out ⟨HN.out, HTB.out, HLX.out.one⟩ hlt3
        have d1 := cell_of_row w6 C 1 _ _ _ hap.2.2.1
        have f1 := frozen_of_row w6 C 1 _ _ hap.2.2.1
        simp only [List.getElem?_toArray, List.getElem?_cons_succ, List.getElem?_cons_zero] at d1
        have HF := Lib.hid hap.1
        have HSF := Lib.hid (HS6.out.trans hap.2.1)
        have hH7 := hap.2.2.2.keep W0 _ hH6 (other_cells (by decide) (by decide))
        have hH8 := hap.2.1.keep W0 _ hH6 (other_cells (by decide) (by decide))
        clear hap ho6 hg6
        refine hK.out _ _ hH7 (fun hH7' => ?_)
        clear hK K
        try simp only [Act.put, List.setIfInBounds_toArray, List.set_cons_zero, List.set_cons_succ]
        refine wpAnyH_take (i := 15) (oi := ({ dst := some 88, op := Go.Op.nilCheck (Go.Operand.tmp 73), type := 0, pos := "cache.go:76", after := #[{ on := 0, ground := Go.Ground.data }, { on := 0, ground := Go.Ground.phase }, { on := 1, ground := Go.Ground.phase }, { on := 2, ground := Go.Ground.phase }, { on := 3, ground := Go.Ground.phase }, { on := 4, ground := Go.Ground.phase }, { on := 5, ground := Go.Ground.phase }, { on := 6, ground := Go.Ground.phase }, { on := 7, ground := Go.Ground.phase }, { on := 8, ground := Go.Ground.phase }, { on := 9, ground := Go.Ground.phase }, { on := 10, ground := Go.Ground.phase }, { on := 11, ground := Go.Ground.phase }, { on := 12, ground := Go.Ground.phase }, { on := 13, ground := Go.Ground.phase }, { on := 14, ground := Go.Ground.phase }], guard := none } : Oper)) (v := .pointer (some ⟨C, 0, none⟩)) rfl (by kernel_rfl) (by kernel_rfl) (by kernel_rfl) (fun _ _ _ h => h) (Or.inl ⟨by rfl, fun w' _ => ?_⟩) hH7' ?_
        · go_simp
        try simp only [Act.put, List.setIfInBounds_toArray, List.set_cons_zero, List.set_cons_succ]
        refine wpAnyH_take (i := 16) (oi := ({ dst := some 89, op := Go.Op.fieldAddr 55 (Go.Operand.tmp 88) 1, type := 0, pos := "cache.go:76", after := #[{ on := 15, ground := Go.Ground.data }, { on := 0, ground := Go.Ground.phase }, { on := 1, ground := Go.Ground.phase }, { on := 2, ground := Go.Ground.phase }, { on := 3, ground := Go.Ground.phase }, { on := 4, ground := Go.Ground.phase }, { on := 5, ground := Go.Ground.phase }, { on := 6, ground := Go.Ground.phase }, { on := 7, ground := Go.Ground.phase }, { on := 8, ground := Go.Ground.phase }, { on := 9, ground := Go.Ground.phase }, { on := 10, ground := Go.Ground.phase }, { on := 11, ground := Go.Ground.phase }, { on := 12, ground := Go.Ground.phase }, { on := 13, ground := Go.Ground.phase }, { on := 14, ground := Go.Ground.phase }], guard := none } : Oper)) (v := .pointer (some ⟨C, 1, none⟩)) rfl (by kernel_rfl) (by kernel_rfl) (by kernel_rfl) (fun _ _ _ h => h) (Or.inl ⟨by rfl, fun w' _ => ?_⟩) hH7' ?_
        · go_simp
        try simp only [Act.put, List.setIfInBounds_toArray, List.set_cons_zero, List.set_cons_succ]
        refine wpAnyH_ready (rs := [17]) (by kernel_rfl) (by simp) ?_
        refine AllReadyH.cons (o := ({ dst := none, op := Go.Op.store 53 (Go.Operand.tmp 89) (Go.Operand.tmp 87), type := 0, pos := "cache.go:76", after := #[{ on := 16, ground := Go.Ground.data }, { on := 14, ground := Go.Ground.data }, { on := 14, ground := Go.Ground.chain }, { on := 0, ground := Go.Ground.phase }, { on := 1, ground := Go.Ground.phase }, { on := 2, ground := Go.Ground.phase }, { on := 3, ground := Go.Ground.phase }, { on := 4, ground := Go.Ground.phase }, { on := 5, ground := Go.Ground.phase }, { on := 6, ground := Go.Ground.phase }, { on := 7, ground := Go.Ground.phase }, { on := 8, ground := Go.Ground.phase }, { on := 9, ground := Go.Ground.phase }, { on := 10, ground := Go.Ground.phase }, { on := 11, ground := Go.Ground.phase }, { on := 12, ground := Go.Ground.phase }, { on := 13, ground := Go.Ground.phase }, { on := 14, ground := Go.Ground.phase }], guard := none } : Oper)) rfl (fun K hK => ?_) AllReadyH.nil
        go_simp
        refine hK.out _ _ hH8 (fun _ => ?_)
        clear hK K
        try simp only [Act.put, List.setIfInBounds_toArray, List.set_cons_zero, List.set_cons_succ]
        refine wpAnyH_done (by kernel_rfl) ?_ _
        go_wp2_with fail
        go_end0
        exact ⟨_, _, _, rfl, HF.out, HREL.out _, HSF.out⟩
      · go_simp
        go_at_call 25
        refine (clone_e HLX.out hn1).mono ?_
        rintro e' w5 ⟨rv, rfl, ho5, hb5⟩
        have HC5 := Lib.hid (HCX.out.below hb5)
        have HS5 := Lib.hid (HSX.out.trans (Step.of_below hb5 HCX.out.hb))
        have hH5 : w5.heap[W0]? = _ := (hb5.block W0 (heap_lt hHeld)).trans hHeld
        clear hb5
        refine hK.out _ _ hH5 (fun hHeld1 => ?_)
        clear hK K k1
        try simp only [Act.put, List.setIfInBounds_toArray, List.set_cons_zero, List.set_cons_succ]
        obtain ⟨Ar, cr, rfl⟩ := own_sl ho5
        have HO5 := Lib.hid (own_base ho5 HCX.out.hb)
        clear ho5
        refine wpAnyH_take (i := 12) (oi := ({ dst := some 85, op := Go.Op.build 58 #[(0, Go.Operand.tmp 78), (1, Go.Operand.tmp 79), (2, Go.Operand.tmp 81), (3, Go.Operand.tmp 82), (4, Go.Operand.tmp 84)], type := 58, pos := "cache.go:76", after := #[{ on := 5, ground := Go.Ground.data }, { on := 6, ground := Go.Ground.data }, { on := 8, ground := Go.Ground.data }, { on := 9, ground := Go.Ground.data }, { on := 11, ground := Go.Ground.data }], guard := none } : Oper)) (v := .agg [Value.string qn, .int .i64 qt, .int .i64 out, .slice Ar n cr, .int .i64 now, .int .i64 T].toArray) rfl (by kernel_rfl) (by kernel_rfl) (by kernel_rfl) (fun _ _ _ h => h) (Or.inl ⟨by rfl, fun w' _ => ?_⟩) hHeld1 ?_
        · go_simp
        try simp only [Act.put, List.setIfInBounds_toArray, List.set_cons_zero, List.set_cons_succ]
        refine wpAnyH_ready (rs := [4, 13]) (by kernel_rfl) (by simp) ?_
        refine AllReadyH.cons (o := ({ dst := some 77, op := Go.Op.load 53 (Go.Operand.tmp 76), type := 53, pos := "cache.go:76", after := #[{ on := 3, ground := Go.Ground.data }], guard := none } : Oper)) rfl (fun K hK => ?_) (AllReadyH.cons (o := ({ dst := some 86, op := Go.Op.buildSlice 53 1 #[(0, Go.Operand.tmp 85)], type := 53, pos := "cache.go:76", after := #[{ on := 12, ground := Go.Ground.data }], guard := none } : Oper)) rfl (fun K hK => ?_) AllReadyH.nil)
        · have kk := cell_of_row w5 C 1 _ _ _ HC5.out.obj
          simp only [List.getElem?_toArray, List.getElem?_cons_succ, List.getElem?_cons_zero] at kk
          go_simp
          refine hK.out _ _ hHeld1 (fun hHeld2 => ?_)
          clear hK K
          clear kk
          try simp only [Act.put, List.setIfInBounds_toArray, List.set_cons_zero, List.set_cons_succ]
          refine wpAnyH_ready (rs := [13]) (by kernel_rfl) (by simp) ?_
          refine AllReadyH.cons (o := ({ dst := some 86, op := Go.Op.buildSlice 53 1 #[(0, Go.Operand.tmp 85)], type := 53, pos := "cache.go:76", after := #[{ on := 12, ground := Go.Ground.data }], guard := none } : Oper)) rfl (fun K hK => ?_) AllReadyH.nil
          rw [if_pos (by kernel_rfl)]
          obtain ⟨i1, hi1, hz1, hs1, hy1⟩ := info_En
          refine wp_buildSlice 53 58 1 _ rfl [Value.string qn, .int .i64 qt, .int .i64 out, .slice Ar n cr, .int .i64 now, .int .i64 T].toArray i1 _ Try.underlying53 hi1 hz1 (by rw [hs1]; decide) (by rw [hs1]; decide) (by rw [hs1]; refine (congrArg _ (?_ : _ = [(0, Value.agg [Value.string qn, .int .i64 qt, .int .i64 out, .slice Ar n cr, .int .i64 now, .int .i64 T].toArray)])).trans (fill_6 rfl); rw [Array.toList_map]; rfl) ?_
          have hba : Below w5.heap.size w5 (w5.alloc (.cells [Value.string qn, .int .i64 qt, .int .i64 out, .slice Ar n cr, .int .i64 now, .int .i64 T].toArray 58)) := (Below.refl _ w5).alloc (Nat.le_refl _) _
          have HC6 := Lib.hid (HC5.out.below hba)
          have HO6 := Lib.hid (own_below HO5.out hba)
          have HS6 := Lib.hid (HS5.out.trans (Step.of_below hba HC5.out.hb))
          refine hK.out _ _ ((hba.block W0 (heap_lt hHeld2)).trans hHeld2) (fun hH6 => ?_)
          clear hK K hba
          try simp only [Act.put, List.setIfInBounds_toArray, List.set_cons_zero, List.set_cons_succ]
          refine wpAnyH_ready (rs := [14]) (by kernel_rfl) (by simp) ?_
          refine AllReadyH.cons (o := ({ dst := some 87, op := Go.Op.call { callee := Go.Callee.builtin Go.Builtin.append, args := #[Go.Operand.tmp 77, Go.Operand.tmp 86], argTypes := #[53, 53] }, type := 53, pos := "cache.go:76", after := #[{ on := 4, ground := Go.Ground.data }, { on := 13, ground := Go.Ground.data }, { on := 8, ground := Go.Ground.chain }], guard := none } : Oper)) rfl (fun K hK => ?_) AllReadyH.nil
          rw [if_pos (by kernel_rfl)]
          refine wp_append_own (w := w5.alloc (.cells [Value.string qn, .int .i64 qt, .int .i64 out, .slice Ar n cr, .int .i64 now, .int .i64 T].toArray 58)) (.tmp 77) (.tmp 86) 53 rfl base 58 i1 _ 6 72 Try.underlying53 hi1 hz1 hs1 hy1 rfl (by decide) _ es3.length (flatE es3) rfl HC6.out.own ⟨w5.heap.size, 0, none⟩ 1 1 [Value.string qn, .int .i64 qt, .int .i64 out, .slice Ar n cr, .int .i64 now, .int .i64 T] rfl rfl (fun j u hj => by rw [Addr.add_lit, Nat.zero_add, World.cell?_alloc_mark, List.getElem?_toArray]; exact hj) (fun u hu => by simp only [List.mem_cons, List.not_mem_nil, or_false] at hu; rcases hu with rfl | rfl | rfl | rfl | rfl | rfl <;> rfl) (by unfold maxLen; omega) (by omega) HC6.out.hb ?_
          intro v1 w6 ho6 hg6 _
          obtain ⟨A1, cap1, hv1⟩ := own_sl ho6
          subst hv1
          have hap := HC6.out.app (e := (⟨qn, qt, out, .slice Ar n cr, n, xs, now, T⟩ : En)) ho6 hg6 HO6.out ⟨HN.out, HTB.out, HLX.out.one⟩ hlt3
          have d1 := cell_of_row w6 C 1 _ _ _ hap.2.2.1
          have f1 := frozen_of_row w6 C 1 _ _ hap.2.2.1
          simp only [List.getElem?_toArray, List.getElem?_cons_succ, List.getElem?_cons_zero] at d1
          have HF := Lib.hid hap.1
          have HSF := Lib.hid (HS6.out.trans hap.2.1)
          have hH7 := hap.2.2.2.keep W0 _ hH6 (other_cells (by decide) (by decide))
          have hH8 := hap.2.1.keep W0 _ hH6 (other_cells (by decide) (by decide))
          clear hap ho6 hg6
          refine hK.out _ _ hH7 (fun hH7' => ?_)
          clear hK K
          try simp only [Act.put, List.setIfInBounds_toArray, List.set_cons_zero, List.set_cons_succ]
          refine wpAnyH_take (i := 15) (oi := ({ dst := some 88, op := Go.Op.nilCheck (Go.Operand.tmp 73), type := 0, pos := "cache.go:76", after := #[{ on := 0, ground := Go.Ground.data }, { on := 0, ground := Go.Ground.phase }, { on := 1, ground := Go.Ground.phase }, { on := 2, ground := Go.Ground.phase }, { on := 3, ground := Go.Ground.phase }, { on := 4, ground := Go.Ground.phase }, { on := 5, ground := Go.Ground.phase }, { on := 6, ground := Go.Ground.phase }, { on := 7, ground := Go.Ground.phase }, { on := 8, ground := Go.Ground.phase }, { on := 9, ground := Go.Ground.phase }, { on := 10, ground := Go.Ground.phase }, { on := 11, ground := Go.Ground.phase }, { on := 12, ground := Go.Ground.phase }, { on := 13, ground := Go.Ground.phase }, { on := 14, ground := Go.Ground.phase }], guard := none } : Oper)) (v := .pointer (some ⟨C, 0, none⟩)) rfl (by kernel_rfl) (by kernel_rfl) (by kernel_rfl) (fun _ _ _ h => h) (Or.inl ⟨by rfl, fun w' _ => ?_⟩) hH7' ?_
          · go_simp
          try simp only [Act.put, List.setIfInBounds_toArray, List.set_cons_zero, List.set_cons_succ]
          refine wpAnyH_take (i := 16) (oi := ({ dst := some 89, op := Go.Op.fieldAddr 55 (Go.Operand.tmp 88) 1, type := 0, pos := "cache.go:76", after := #[{ on := 15, ground := Go.Ground.data }, { on := 0, ground := Go.Ground.phase }, { on := 1, ground := Go.Ground.phase }, { on := 2, ground := Go.Ground.phase }, { on := 3, ground := Go.Ground.phase }, { on := 4, ground := Go.Ground.phase }, { on := 5, ground := Go.Ground.phase }, { on := 6, ground := Go.Ground.phase }, { on := 7, ground := Go.Ground.phase }, { on := 8, ground := Go.Ground.phase }, { on := 9, ground := Go.Ground.phase }, { on := 10, ground := Go.Ground.phase }, { on := 11, ground := Go.Ground.phase }, { on := 12, ground := Go.Ground.phase }, { on := 13, ground := Go.Ground.phase }, { on := 14, ground := Go.Ground.phase }], guard := none } : Oper)) (v := .pointer (some ⟨C, 1, none⟩)) rfl (by kernel_rfl) (by kernel_rfl) (by kernel_rfl) (fun _ _ _ h => h) (Or.inl ⟨by rfl, fun w' _ => ?_⟩) hH7' ?_
          · go_simp
          try simp only [Act.put, List.setIfInBounds_toArray, List.set_cons_zero, List.set_cons_succ]
          refine wpAnyH_ready (rs := [17]) (by kernel_rfl) (by simp) ?_
          refine AllReadyH.cons (o := ({ dst := none, op := Go.Op.store 53 (Go.Operand.tmp 89) (Go.Operand.tmp 87), type := 0, pos := "cache.go:76", after := #[{ on := 16, ground := Go.Ground.data }, { on := 14, ground := Go.Ground.data }, { on := 14, ground := Go.Ground.chain }, { on := 0, ground := Go.Ground.phase }, { on := 1, ground := Go.Ground.phase }, { on := 2, ground := Go.Ground.phase }, { on := 3, ground := Go.Ground.phase }, { on := 4, ground := Go.Ground.phase }, { on := 5, ground := Go.Ground.phase }, { on := 6, ground := Go.Ground.phase }, { on := 7, ground := Go.Ground.phase }, { on := 8, ground := Go.Ground.phase }, { on := 9, ground := Go.Ground.phase }, { on := 10, ground := Go.Ground.phase }, { on := 11, ground := Go.Ground.phase }, { on := 12, ground := Go.Ground.phase }, { on := 13, ground := Go.Ground.phase }, { on := 14, ground := Go.Ground.phase }], guard := none } : Oper)) rfl (fun K hK => ?_) AllReadyH.nil
          go_simp
          refine hK.out _ _ hH8 (fun _ => ?_)
          clear hK K
          try simp only [Act.put, List.setIfInBounds_toArray, List.set_cons_zero, List.set_cons_succ]
          refine wpAnyH_done (by kernel_rfl) ?_ _
          go_wp2_with fail
          go_end0
          exact ⟨_, _, _, rfl, HF.out, HREL.out _, HSF.out⟩
        · rw [if_pos (by kernel_rfl)]
          obtain ⟨i1, hi1, hz1, hs1, hy1⟩ := info_En
          refine wp_buildSlice 53 58 1 _ rfl [Value.string qn, .int .i64 qt, .int .i64 out, .slice Ar n cr, .int .i64 now, .int .i64 T].toArray i1 _ Try.underlying53 hi1 hz1 (by rw [hs1]; decide) (by rw [hs1]; decide) (by rw [hs1]; refine (congrArg _ (?_ : _ = [(0, Value.agg [Value.string qn, .int .i64 qt, .int .i64 out, .slice Ar n cr, .int .i64 now, .int .i64 T].toArray)])).trans (fill_6 rfl); rw [Array.toList_map]; rfl) ?_
          have hba : Below w5.heap.size w5 (w5.alloc (.cells [Value.string qn, .int .i64 qt, .int .i64 out, .slice Ar n cr, .int .i64 now, .int .i64 T].toArray 58)) := (Below.refl _ w5).alloc (Nat.le_refl _) _
          have HC6 := Lib.hid (HC5.out.below hba)
          have HO6 := Lib.hid (own_below HO5.out hba)
          have HS6 := Lib.hid (HS5.out.trans (Step.of_below hba HC5.out.hb))
          refine hK.out _ _ ((hba.block W0 (heap_lt hHeld1)).trans hHeld1) (fun hH6 => ?_)
          clear hK K hba
          try simp only [Act.put, List.setIfInBounds_toArray, List.set_cons_zero, List.set_cons_succ]
          refine wpAnyH_ready (rs := [4]) (by kernel_rfl) (by simp) ?_
          refine AllReadyH.cons (o := ({ dst := some 77, op := Go.Op.load 53 (Go.Operand.tmp 76), type := 53, pos := "cache.go:76", after := #[{ on := 3, ground := Go.Ground.data }], guard := none } : Oper)) rfl (fun K hK => ?_) AllReadyH.nil
          have kk := cell_of_row _ C 1 _ _ _ HC6.out.obj
          simp only [List.getElem?_toArray, List.getElem?_cons_succ, List.getElem?_cons_zero] at kk
          go_simp
          refine hK.out _ _ hH6 (fun hH6' => ?_)
          clear hK K
          clear kk
          try simp only [Act.put, List.setIfInBounds_toArray, List.set_cons_zero, List.set_cons_succ]
          refine wpAnyH_ready (rs := [14]) (by kernel_rfl) (by simp) ?_
          refine AllReadyH.cons (o := ({ dst := some 87, op := Go.Op.call { callee := Go.Callee.builtin Go.Builtin.append, args := #[Go.Operand.tmp 77, Go.Operand.tmp 86], argTypes := #[53, 53] }, type := 53, pos := "cache.go:76", after := #[{ on := 4, ground := Go.Ground.data }, { on := 13, ground := Go.Ground.data }, { on := 8, ground := Go.Ground.chain }], guard := none } : Oper)) rfl (fun K hK => ?_) AllReadyH.nil
          rw [if_pos (by kernel_rfl)]
          refine wp_append_own (w := w5.alloc (.cells [Value.string qn, .int .i64 qt, .int .i64 out, .slice Ar n cr, .int .i64 now, .int .i64 T].toArray 58)) (.tmp 77) (.tmp 86) 53 rfl base 58 i1 _ 6 72 Try.underlying53 hi1 hz1 hs1 hy1 rfl (by decide) _ es3.length (flatE es3) rfl HC6.out.own ⟨w5.heap.size, 0, none⟩ 1 1 [Value.string qn, .int .i64 qt, .int .i64 out, .slice Ar n cr, .int .i64 now, .int .i64 T] rfl rfl (fun j u hj => by rw [Addr.add_lit, Nat.zero_add, World.cell?_alloc_mark, List.getElem?_toArray]; exact hj) (fun u hu => by simp only [List.mem_cons, List.not_mem_nil, or_false] at hu; rcases hu with rfl | rfl | rfl | rfl | rfl | rfl <;> rfl) (by unfold maxLen; omega) (by omega) HC6.out.hb ?_
          intro v1 w6 ho6 hg6 _
          obtain ⟨A1, cap1, hv1⟩ := own_sl ho6
          subst hv1
          have hap := HC6.out.app (e := (⟨qn, qt, out, .slice Ar n cr, n, xs, now, T⟩ : En)) ho6 hg6 HO6.out ⟨HN.out, HTB.out, HLX.out.one⟩ hlt3
          have d1 := cell_of_row w6 C 1 _ _ _ hap.2.2.1
          have f1 := frozen_of_row w6 C 1 _ _ hap.2.2.1
          simp only [List.getElem?_toArray, List.getElem?_cons_succ, List.getElem?_cons_zero] at d1
          have HF := Lib.hid hap.1
          have HSF := Lib.hid (HS6.out.trans hap.2.1)
          have hH7 := hap.2.2.2.keep W0 _ hH6' (other_cells (by decide) (by decide))
          have hH8 := hap.2.1.keep W0 _ hH6' (other_cells (by decide) (by decide))
          clear hap ho6 hg6
          refine hK.out _ _ hH7 (fun hH7' => ?_)
          clear hK K
          try simp only [Act.put, List.setIfInBounds_toArray, List.set_cons_zero, List.set_cons_succ]
          refine wpAnyH_take (i := 15) (oi := ({ dst := some 88, op := Go.Op.nilCheck (Go.Operand.tmp 73), type := 0, pos := "cache.go:76", after := #[{ on := 0, ground := Go.Ground.data }, { on := 0, ground := Go.Ground.phase }, { on := 1, ground := Go.Ground.phase }, { on := 2, ground := Go.Ground.phase }, { on := 3, ground := Go.Ground.phase }, { on := 4, ground := Go.Ground.phase }, { on := 5, ground := Go.Ground.phase }, { on := 6, ground := Go.Ground.phase }, { on := 7, ground := Go.Ground.phase }, { on := 8, ground := Go.Ground.phase }, { on := 9, ground := Go.Ground.phase }, { on := 10, ground := Go.Ground.phase }, { on := 11, ground := Go.Ground.phase }, { on := 12, ground := Go.Ground.phase }, { on := 13, ground := Go.Ground.phase }, { on := 14, ground := Go.Ground.phase }], guard := none } : Oper)) (v := .pointer (some ⟨C, 0, none⟩)) rfl (by kernel_rfl) (by kernel_rfl) (by kernel_rfl) (fun _ _ _ h => h) (Or.inl ⟨by rfl, fun w' _ => ?_⟩) hH7' ?_
          · go_simp
          try simp only [Act.put, List.setIfInBounds_toArray, List.set_cons_zero, List.set_cons_succ]
          refine wpAnyH_take (i := 16) (oi := ({ dst := some 89, op := Go.Op.fieldAddr 55 (Go.Operand.tmp 88) 1, type := 0, pos := "cache.go:76", after := #[{ on := 15, ground := Go.Ground.data }, { on := 0, ground := Go.Ground.phase }, { on := 1, ground := Go.Ground.phase }, { on := 2, ground := Go.Ground.phase }, { on := 3, ground := Go.Ground.phase }, { on := 4, ground := Go.Ground.phase }, { on := 5, ground := Go.Ground.phase }, { on := 6, ground := Go.Ground.phase }, { on := 7, ground := Go.Ground.phase }, { on := 8, ground := Go.Ground.phase }, { on := 9, ground := Go.Ground.phase }, { on := 10, ground := Go.Ground.phase }, { on := 11, ground := Go.Ground.phase }, { on := 12, ground := Go.Ground.phase }, { on := 13, ground := Go.Ground.phase }, { on := 14, ground := Go.Ground.phase }], guard := none } : Oper)) (v := .pointer (some ⟨C, 1, none⟩)) rfl (by kernel_rfl) (by kernel_rfl) (by kernel_rfl) (fun _ _ _ h => h) (Or.inl ⟨by rfl, fun w' _ => ?_⟩) hH7' ?_
          · go_simp
          try simp only [Act.put, List.setIfInBounds_toArray, List.set_cons_zero, List.set_cons_succ]
          refine wpAnyH_ready (rs := [17]) (by kernel_rfl) (by simp) ?_
          refine AllReadyH.cons (o := ({ dst := none, op := Go.Op.store 53 (Go.Operand.tmp 89) (Go.Operand.tmp 87), type := 0, pos := "cache.go:76", after := #[{ on := 16, ground := Go.Ground.data }, { on := 14, ground := Go.Ground.data }, { on := 14, ground := Go.Ground.chain }, { on := 0, ground := Go.Ground.phase }, { on := 1, ground := Go.Ground.phase }, { on := 2, ground := Go.Ground.phase }, { on := 3, ground := Go.Ground.phase }, { on := 4, ground := Go.Ground.phase }, { on := 5, ground := Go.Ground.phase }, { on := 6, ground := Go.Ground.phase }, { on := 7, ground := Go.Ground.phase }, { on := 8, ground := Go.Ground.phase }, { on := 9, ground := Go.Ground.phase }, { on := 10, ground := Go.Ground.phase }, { on := 11, ground := Go.Ground.phase }, { on := 12, ground := Go.Ground.phase }, { on := 13, ground := Go.Ground.phase }, { on := 14, ground := Go.Ground.phase }], guard := none } : Oper)) rfl (fun K hK => ?_) AllReadyH.nil
          go_simp
          refine hK.out _ _ hH8 (fun _ => ?_)
          clear hK K
          try simp only [Act.put, List.setIfInBounds_toArray, List.set_cons_zero, List.set_cons_succ]
          refine wpAnyH_done (by kernel_rfl) ?_ _
          go_wp2_with fail
          go_end0
          exact ⟨_, _, _, rfl, HF.out, HREL.out _, HSF.out⟩
    · have hf1 : ((es1.length : Int) == (size : Int)) = false := beq_eq_false_iff_ne.2 (by omega)
      obtain ⟨es3, hes3⟩ : ∃ es3, es3 = es1 := ⟨_, rfl⟩
      have HREL : Hid (∀ rv, PutRel size now es ⟨qn, qt, out, rv, n, xs, now, T⟩ (es3 ++ [⟨qn, qt, out, rv, n, xs, now, T⟩])) := Lib.hid (fun rv => by
        rw [HES.out]
        refine ⟨es3, rfl, .inl ?_⟩
        show (es1.eraseP (isQ qn qt)).length ≠ size ∧ es3 = es1.eraseP (isQ qn qt)
        rw [HE.out]
        exact ⟨hf, hes3⟩)
      have hlt3 : es3.length < size := by have := HC3.out.len; rw [hes3]; omega
      go_wp2_with fail
      go_quiet (fail)
      go_wp2_with fail
      rw [← hes3] at HC3
      clear hes3 hf hf1 HE HES HCN c0 c1
      have hbd : Below w3.heap.size w3 (w3.drewN nq).drew := ⟨rfl, rfl, rfl, Nat.le_refl _, fun _ _ => rfl⟩
      have HCX := Lib.hid (HC3.out.below hbd)
      have HQX := Lib.hid ((hbd.block W0 (heap_lt HQ3.out)).trans HQ3.out)
      have HSX := Lib.hid (HS3.out.trans (Step.of_below hbd HC3.out.hb))
      have HLX := Lib.hid (HL3.out.below hbd)
      clear hbd HC3 HQ3 HS3 HL3
      refine wp_region_held_drew (S := (fun W : World => W.heap[W0]? = some (.cells #[.string qn, .int .i64 qt] 32 (0, 0)))) (by kernel_rfl) HQX.out (fun hHeld => ?_)
      generalize (w3.drewN nq).drew = W at hHeld HCX HQX HSX HLX ⊢
      have k1 := cell_of_row W C 1 _ _ _ HCX.out.obj
      simp only [List.getElem?_toArray, List.getElem?_cons_succ, List.getElem?_cons_zero] at k1
      refine wpAnyH_take (i := 0) (oi := ({ dst := some 73, op := Go.Op.move (Go.Operand.tmp 0), type := 24, pos := "cache.go:76", after := #[], guard := none } : Oper)) (v := .pointer (some ⟨C, 0, none⟩)) rfl (by kernel_rfl) (by kernel_rfl) (by kernel_rfl) (fun _ _ _ h => h) (Or.inl ⟨by rfl, fun w' _ => ?_⟩) hHeld ?_
      · go_simp
      try simp only [Act.put, List.setIfInBounds_toArray, List.set_cons_zero, List.set_cons_succ]
      refine wpAnyH_take (i := 1) (oi := ({ dst := some 74, op := Go.Op.move (Go.Operand.tmp 0), type := 24, pos := "cache.go:76", after := #[], guard := none } : Oper)) (v := .pointer (some ⟨C, 0, none⟩)) rfl (by kernel_rfl) (by kernel_rfl) (by kernel_rfl) (fun _ _ _ h => h) (Or.inl ⟨by rfl, fun w' _ => ?_⟩) hHeld ?_
      · go_simp
      try simp only [Act.put, List.setIfInBounds_toArray, List.set_cons_zero, List.set_cons_succ]
      refine wpAnyH_take (i := 2) (oi := ({ dst := some 75, op := Go.Op.nilCheck (Go.Operand.tmp 74), type := 0, pos := "cache.go:76", after := #[{ on := 1, ground := Go.Ground.data }], guard := none } : Oper)) (v := .pointer (some ⟨C, 0, none⟩)) rfl (by kernel_rfl) (by kernel_rfl) (by kernel_rfl) (fun _ _ _ h => h) (Or.inl ⟨by rfl, fun w' _ => ?_⟩) hHeld ?_
      · go_simp
      try simp only [Act.put, List.setIfInBounds_toArray, List.set_cons_zero, List.set_cons_succ]
      refine wpAnyH_take (i := 3) (oi := ({ dst := some 76, op := Go.Op.fieldAddr 55 (Go.Operand.tmp 75) 1, type := 0, pos := "cache.go:76", after := #[{ on := 2, ground := Go.Ground.data }], guard := none } : Oper)) (v := .pointer (some ⟨C, 1, none⟩)) rfl (by kernel_rfl) (by kernel_rfl) (by kernel_rfl) (fun _ _ _ h => h) (Or.inl ⟨by rfl, fun w' _ => ?_⟩) hHeld ?_
      · go_simp
      try simp only [Act.put, List.setIfInBounds_toArray, List.set_cons_zero, List.set_cons_succ]
      refine wpAnyH_take (i := 5) (oi := ({ dst := some 78, op := Go.Op.load 32 (Go.Operand.tmp 8), type := 32, pos := "cache.go:76", after := #[], guard := none } : Oper)) (v := .agg #[.string qn, .int .i64 qt]) rfl (by kernel_rfl) (by kernel_rfl) (by kernel_rfl) (fun _ _ _ h => h) (yieldsIf_load_mid (by rfl) _ _ rfl _ _ rfl [.string qn, .int .i64 qt] _ (fun w h => range_row h) Try.underlying32 rfl (sizeQl qn qt)) hHeld ?_
      try simp only [Act.put, List.setIfInBounds_toArray, List.set_cons_zero, List.set_cons_succ]
      refine wpAnyH_take (i := 6) (oi := ({ dst := some 79, op := Go.Op.move (Go.Operand.tmp 3), type := 3, pos := "cache.go:76", after := #[], guard := none } : Oper)) (v := .int .i64 out) rfl (by kernel_rfl) (by kernel_rfl) (by kernel_rfl) (fun _ _ _ h => h) (Or.inl ⟨by rfl, fun w' _ => ?_⟩) hHeld ?_
      · go_simp
      try simp only [Act.put, List.setIfInBounds_toArray, List.set_cons_zero, List.set_cons_succ]
      refine wpAnyH_take (i := 7) (oi := ({ dst := some 80, op := Go.Op.move (Go.Operand.tmp 4), type := 41, pos := "cache.go:76", after := #[], guard := none } : Oper)) (v := l) rfl (by kernel_rfl) (by kernel_rfl) (by kernel_rfl) (fun _ _ _ h => h) (Or.inl ⟨by rfl, fun w' _ => ?_⟩) hHeld ?_
      · go_simp
      try simp only [Act.put, List.setIfInBounds_toArray, List.set_cons_zero, List.set_cons_succ]
      refine wpAnyH_take (i := 9) (oi := ({ dst := some 82, op := Go.Op.move (Go.Operand.tmp 1), type := 3, pos := "cache.go:76", after := #[], guard := none } : Oper)) (v := .int .i64 now) rfl (by kernel_rfl) (by kernel_rfl) (by kernel_rfl) (fun _ _ _ h => h) (Or.inl ⟨by rfl, fun w' _ => ?_⟩) hHeld ?_
      · go_simp
      try simp only [Act.put, List.setIfInBounds_toArray, List.set_cons_zero, List.set_cons_succ]
      refine wpAnyH_take (i := 10) (oi := ({ dst := some 83, op := Go.Op.move (Go.Operand.tmp 5), type := 3, pos := "cache.go:76", after := #[], guard := none } : Oper)) (v := .int .i64 ttl) rfl (by kernel_rfl) (by kernel_rfl) (by kernel_rfl) (fun _ _ _ h => h) (Or.inl ⟨by rfl, fun w' _ => ?_⟩) hHeld ?_
      · go_simp
      try simp only [Act.put, List.setIfInBounds_toArray, List.set_cons_zero, List.set_cons_succ]
      refine wpAnyH_take (i := 11) (oi := ({ dst := some 84, op := Go.Op.call { callee := Go.Callee.builtin Go.Builtin.min, args := #[Go.Operand.tmp 83, Go.Operand.const (Go.Value.int Go.IntKind.i64 1048576)], argTypes := #[3, 3] }, type := 3, pos := "cache.go:76", after := #[{ on := 10, ground := Go.Ground.data }], guard := none } : Oper)) (v := .int .i64 T) rfl (by kernel_rfl) (by kernel_rfl) (by kernel_rfl) (fun _ _ _ h => h) (Or.inl ⟨by rfl, fun w' _ => ?_⟩) hHeld ?_
      · go_simp; have := HTm.out; split <;> omega
      try simp only [Act.put, List.setIfInBounds_toArray, List.set_cons_zero, List.set_cons_succ]
      refine wpAnyH_ready (rs := [4, 8]) (by kernel_rfl) (by simp) ?_
      refine AllReadyH.cons (o := ({ dst := some 77, op := Go.Op.load 53 (Go.Operand.tmp 76), type := 53, pos := "cache.go:76", after := #[{ on := 3, ground := Go.Ground.data }], guard := none } : Oper)) rfl (fun K hK => ?_) (AllReadyH.cons (o := ({ dst := some 81, op := Go.Op.call { callee := Go.Callee.value (Go.Operand.func 25), args := #[Go.Operand.tmp 80], argTypes := #[41] }, type := 41, pos := "cache.go:79", after := #[{ on := 7, ground := Go.Ground.data }], guard := none } : Oper)) rfl (fun K hK => ?_) AllReadyH.nil)
      · go_simp
        refine hK.out _ _ hHeld (fun hHeld1 => ?_)
        clear hK K
        try simp only [Act.put, List.setIfInBounds_toArray, List.set_cons_zero, List.set_cons_succ]
        refine wpAnyH_ready (rs := [8]) (by kernel_rfl) (by simp) ?_
        refine AllReadyH.cons (o := ({ dst := some 81, op := Go.Op.call { callee := Go.Callee.value (Go.Operand.func 25), args := #[Go.Operand.tmp 80], argTypes := #[41] }, type := 41, pos := "cache.go:79", after := #[{ on := 7, ground := Go.Ground.data }], guard := none } : Oper)) rfl (fun K hK => ?_) AllReadyH.nil
        go_simp
        go_at_call 25
        refine (clone_e HLX.out hn1).mono ?_
        rintro e' w5 ⟨rv, rfl, ho5, hb5⟩
        have HC5 := Lib.hid (HCX.out.below hb5)
        have HS5 := Lib.hid (HSX.out.trans (Step.of_below hb5 HCX.out.hb))
        have hH5 : w5.heap[W0]? = _ := (hb5.block W0 (heap_lt hHeld)).trans hHeld
        clear hb5
        refine hK.out _ _ hH5 (fun hHeld2 => ?_)
        clear hK K
        try simp only [Act.put, List.setIfInBounds_toArray, List.set_cons_zero, List.set_cons_succ]
        obtain ⟨Ar, cr, rfl⟩ := own_sl ho5
        have HO5 := Lib.hid (own_base ho5 HCX.out.hb)
        clear ho5
        refine wpAnyH_take (i := 12) (oi := ({ dst := some 85, op := Go.Op.build 58 #[(0, Go.Operand.tmp 78), (1, Go.Operand.tmp 79), (2, Go.Operand.tmp 81), (3, Go.Operand.tmp 82), (4, Go.Operand.tmp 84)], type := 58, pos := "cache.go:76", after := #[{ on := 5, ground := Go.Ground.data }, { on := 6, ground := Go.Ground.data }, { on := 8, ground := Go.Ground.data }, { on := 9, ground := Go.Ground.data }, { on := 11, ground := Go.Ground.data }], guard := none } : Oper)) (v := .agg [Value.string qn, .int .i64 qt, .int .i64 out, .slice Ar n cr, .int .i64 now, .int .i64 T].toArray) rfl (by kernel_rfl) (by kernel_rfl) (by kernel_rfl) (fun _ _ _ h => h) (Or.inl ⟨by rfl, fun w' _ => ?_⟩) hHeld2 ?_
        · go_simp
        try simp only [Act.put, List.setIfInBounds_toArray, List.set_cons_zero, List.set_cons_succ]
        refine wpAnyH_ready (rs := [13]) (by kernel_rfl) (by simp) ?_
        refine AllReadyH.cons (o := ({ dst := some 86, op := Go.Op.buildSlice 53 1 #[(0, Go.Operand.tmp 85)], type := 53, pos := "cache.go:76", after := #[{ on := 12, ground := Go.Ground.data }], guard := none } : Oper)) rfl (fun K hK => ?_) AllReadyH.nil
        rw [if_pos (by kernel_rfl)]
        obtain ⟨i1, hi1, hz1, hs1, hy1⟩ := info_En
        refine wp_buildSlice 53 58 1 _ rfl [Value.string qn, .int .i64 qt, .int .i64 out, .slice Ar n cr, .int .i64 now, .int .i64 T].toArray i1 _ Try.underlying53 hi1 hz1 (by rw [hs1]; decide) (by rw [hs1]; decide) (by rw [hs1]; refine (congrArg _ (?_ : _ = [(0, Value.agg [Value.string qn, .int .i64 qt, .int .i64 out, .slice Ar n cr, .int .i64 now, .int .i64 T].toArray)])).trans (fill_6 rfl); rw [Array.toList_map]; rfl) ?_
        have hba : Below w5.heap.size w5 (w5.alloc (.cells [Value.string qn, .int .i64 qt, .int .i64 out, .slice Ar n cr, .int .i64 now, .int .i64 T].toArray 58)) := (Below.refl _ w5).alloc (Nat.le_refl _) _
        have HC6 := Lib.hid (HC5.out.below hba)
        have HO6 := Lib.hid (own_below HO5.out hba)
        have HS6 := Lib.hid (HS5.out.trans (Step.of_below hba HC5.out.hb))
        refine hK.out _ _ ((hba.block W0 (heap_lt hHeld2)).trans hHeld2) (fun hH6 => ?_)
        clear hK K hba
        try simp only [Act.put, List.setIfInBounds_toArray, List.set_cons_zero, List.set_cons_succ]
        refine wpAnyH_ready (rs := [14]) (by kernel_rfl) (by simp) ?_
        refine AllReadyH.cons (o := ({ dst := some 87, op := Go.Op.call { callee := Go.Callee.builtin Go.Builtin.append, args := #[Go.Operand.tmp 77, Go.Operand.tmp 86], argTypes := #[53, 53] }, type := 53, pos := "cache.go:76", after := #[{ on := 4, ground := Go.Ground.data }, { on := 13, ground := Go.Ground.data }, { on := 8, ground := Go.Ground.chain }], guard := none } : Oper)) rfl (fun K hK => ?_) AllReadyH.nil
        rw [if_pos (by kernel_rfl)]
        refine wp_append_own (w := w5.alloc (.cells [Value.string qn, .int .i64 qt, .int .i64 out, .slice Ar n cr, .int .i64 now, .int .i64 T].toArray 58)) (.tmp 77) (.tmp 86) 53 rfl base 58 i1 _ 6 72 Try.underlying53 hi1 hz1 hs1 hy1 rfl (by decide) _ es3.length (flatE es3) rfl HC6.out.own ⟨w5.heap.size, 0, none⟩ 1 1 [Value.string qn, .int .i64 qt, .int .i64 out, .slice Ar n cr, .int .i64 now, .int .i64 T] rfl rfl (fun j u hj => by rw [Addr.add_lit, Nat.zero_add, World.cell?_alloc_mark, List.getElem?_toArray]; exact hj) (fun u hu => by simp only [List.mem_cons, List.not_mem_nil, or_false] at hu; rcases hu with rfl | rfl | rfl | rfl | rfl | rfl <;> rfl) (by unfold maxLen; omega) (by omega) HC6.out.hb ?_
        intro v1 w6 ho6 hg6 _
        obtain ⟨A1, cap1, hv1⟩ := own_sl ho6
        subst hv1
        have hap := HC6.out.app (e := (⟨qn, qt, out, .slice Ar n cr, n, xs, now, T⟩ : En)) ho6 hg6 HO6.out ⟨HN.out, HTB.out, HLX.out.one⟩ hlt3
        have d1 := cell_of_row w6 C 1 _ _ _ hap.2.2.1
        have f1 := frozen_of_row w6 C 1 _ _ hap.2.2.1
        simp only [List.getElem?_toArray, List.getElem?_cons_succ, List.getElem?_cons_zero] at d1
        have HF := Lib.hid hap.1
        have HSF := Lib.hid (HS6.out.trans hap.2.1)
        have hH7 := hap.2.2.2.keep W0 _ hH6 (other_cells (by decide) (by decide))
        have hH8 := hap.2.1.keep W0 _ hH6 (other_cells (by decide) (by decide))
        clear hap ho6 hg6
        refine hK.out _ _ hH7 (fun hH7' => ?_)
        clear hK K
        try simp only [Act.put, List.setIfInBounds_toArray, List.set_cons_zero, List.set_cons_succ]
        refine wpAnyH_take (i := 15) (oi := ({ dst := some 88, op := Go.Op.nilCheck (Go.Operand.tmp 73), type := 0, pos := "cache.go:76", after := #[{ on := 0, ground := Go.Ground.data }, { on := 0, ground := Go.Ground.phase }, { on := 1, ground := Go.Ground.phase }, { on := 2, ground := Go.Ground.phase }, { on := 3, ground := Go.Ground.phase }, { on := 4, ground := Go.Ground.phase }, { on := 5, ground := Go.Ground.phase }, { on := 6, ground := Go.Ground.phase }, { on := 7, ground := Go.Ground.phase }, { on := 8, ground := Go.Ground.phase }, { on := 9, ground := Go.Ground.phase }, { on := 10, ground := Go.Ground.phase }, { on := 11, ground := Go.Ground.phase }, { on := 12, ground := Go.Ground.phase }, { on := 13, ground := Go.Ground.phase }, { on := 14, ground := Go.Ground.phase }], guard := none } : Oper)) (v := .pointer (some ⟨C, 0, none⟩)) rfl (by kernel_rfl) (by kernel_rfl) (by kernel_rfl) (fun _ _ _ h => h) (Or.inl ⟨by rfl, fun w' _ => ?_⟩) hH7' ?_
        · go_simp
        try simp only [Act.put, List.setIfInBounds_toArray, List.set_cons_zero, List.set_cons_succ]
        refine wpAnyH_take (i := 16) (oi := ({ dst := some 89, op := Go.Op.fieldAddr 55 (Go.Operand.tmp 88) 1, type := 0, pos := "cache.go:76", after := #[{ on := 15, ground := Go.Ground.data }, { on := 0, ground := Go.Ground.phase }, { on := 1, ground := Go.Ground.phase }, { on := 2, ground := Go.Ground.phase }, { on := 3, ground := Go.Ground.phase }, { on := 4, ground := Go.Ground.phase }, { on := 5, ground := Go.Ground.phase }, { on := 6, ground := Go.Ground.phase }, { on := 7, ground := Go.Ground.phase }, { on := 8, ground := Go.Ground.phase }, { on := 9, ground := Go.Ground.phase }, { on := 10, ground := Go.Ground.phase }, { on := 11, ground := Go.Ground.phase }, { on := 12, ground := Go.Ground.phase }, { on := 13, ground := Go.Ground.phase }, { on := 14, ground := Go.Ground.phase }], guard := none } : Oper)) (v := .pointer (some ⟨C, 1, none⟩)) rfl (by kernel_rfl) (by kernel_rfl) (by kernel_rfl) (fun _ _ _ h => h) (Or.inl ⟨by rfl, fun w' _ => ?_⟩) hH7' ?_
        · go_simp
        try simp only [Act.put, List.setIfInBounds_toArray, List.set_cons_zero, List.set_cons_succ]
        refine wpAnyH_ready (rs := [17]) (by kernel_rfl) (by simp) ?_
        refine AllReadyH.cons (o := ({ dst := none, op := Go.Op.store 53 (Go.Operand.tmp 89) (Go.Operand.tmp 87), type := 0, pos := "cache.go:76", after := #[{ on := 16, ground := Go.Ground.data }, { on := 14, ground := Go.Ground.data }, { on := 14, ground := Go.Ground.chain }, { on := 0, ground := Go.Ground.phase }, { on := 1, ground := Go.Ground.phase }, { on := 2, ground := Go.Ground.phase }, { on := 3, ground := Go.Ground.phase }, { on := 4, ground := Go.Ground.phase }, { on := 5, ground := Go.Ground.phase }, { on := 6, ground := Go.Ground.phase }, { on := 7, ground := Go.Ground.phase }, { on := 8, ground := Go.Ground.phase }, { on := 9, ground := Go.Ground.phase }, { on := 10, ground := Go.Ground.phase }, { on := 11, ground := Go.Ground.phase }, { on := 12, ground := Go.Ground.phase }, { on := 13, ground := Go.Ground.phase }, { on := 14, ground := Go.Ground.phase }], guard := none } : Oper)) rfl (fun K hK => ?_) AllReadyH.nil
        go_simp
        refine hK.out _ _ hH8 (fun _ => ?_)
        clear hK K
        try simp only [Act.put, List.setIfInBounds_toArray, List.set_cons_zero, List.set_cons_succ]
        refine wpAnyH_done (by kernel_rfl) ?_ _
        go_wp2_with fail
        go_end0
        exact ⟨_, _, _, rfl, HF.out, HREL.out _, HSF.out⟩
      · go_simp
        go_at_call 25
        refine (clone_e HLX.out hn1).mono ?_
        rintro e' w5 ⟨rv, rfl, ho5, hb5⟩
        have HC5 := Lib.hid (HCX.out.below hb5)
        have HS5 := Lib.hid (HSX.out.trans (Step.of_below hb5 HCX.out.hb))
        have hH5 : w5.heap[W0]? = _ := (hb5.block W0 (heap_lt hHeld)).trans hHeld
        clear hb5
        refine hK.out _ _ hH5 (fun hHeld1 => ?_)
        clear hK K k1
        try simp only [Act.put, List.setIfInBounds_toArray, List.set_cons_zero, List.set_cons_succ]
        obtain ⟨Ar, cr, rfl⟩ := own_sl ho5
        have HO5 := Lib.hid (own_base ho5 HCX.out.hb)
        clear ho5
        refine wpAnyH_take (i := 12) (oi := ({ dst := some 85, op := Go.Op.build 58 #[(0, Go.Operand.tmp 78), (1, Go.Operand.tmp 79), (2, Go.Operand.tmp 81), (3, Go.Operand.tmp 82), (4, Go.Operand.tmp 84)], type := 58, pos := "cache.go:76", after := #[{ on := 5, ground := Go.Ground.data }, { on := 6, ground := Go.Ground.data }, { on := 8, ground := Go.Ground.data }, { on := 9, ground := Go.Ground.data }, { on := 11, ground := Go.Ground.data }], guard := none } : Oper)) (v := .agg [Value.string qn, .int .i64 qt, .int .i64 out, .slice Ar n cr, .int .i64 now, .int .i64 T].toArray) rfl (by kernel_rfl) (by kernel_rfl) (by kernel_rfl) (fun _ _ _ h => h) (Or.inl ⟨by rfl, fun w' _ => ?_⟩) hHeld1 ?_
        · go_simp
        try simp only [Act.put, List.setIfInBounds_toArray, List.set_cons_zero, List.set_cons_succ]
        refine wpAnyH_ready (rs := [4, 13]) (by kernel_rfl) (by simp) ?_
        refine AllReadyH.cons (o := ({ dst := some 77, op := Go.Op.load 53 (Go.Operand.tmp 76), type := 53, pos := "cache.go:76", after := #[{ on := 3, ground := Go.Ground.data }], guard := none } : Oper)) rfl (fun K hK => ?_) (AllReadyH.cons (o := ({ dst := some 86, op := Go.Op.buildSlice 53 1 #[(0, Go.Operand.tmp 85)], type := 53, pos := "cache.go:76", after := #[{ on := 12, ground := Go.Ground.data }], guard := none } : Oper)) rfl (fun K hK => ?_) AllReadyH.nil)
        · have kk := cell_of_row w5 C 1 _ _ _ HC5.out.obj
          simp only [List.getElem?_toArray, List.getElem?_cons_succ, List.getElem?_cons_zero] at kk
          go_simp
          refine hK.out _ _ hHeld1 (fun hHeld2 => ?_)
          clear hK K
          clear kk
          try simp only [Act.put, List.setIfInBounds_toArray, List.set_cons_zero, List.set_cons_succ]
          refine wpAnyH_ready (rs := [13]) (by kernel_rfl) (by simp) ?_
          refine AllReadyH.cons (o := ({ dst := some 86, op := Go.Op.buildSlice 53 1 #[(0, Go.Operand.tmp 85)], type := 53, pos := "cache.go:76", after := #[{ on := 12, ground := Go.Ground.data }], guard := none } : Oper)) rfl (fun K hK => ?_) AllReadyH.nil
          rw [if_pos (by kernel_rfl)]
          obtain ⟨i1, hi1, hz1, hs1, hy1⟩ := info_En
          refine wp_buildSlice 53 58 1 _ rfl [Value.string qn, .int .i64 qt, .int .i64 out, .slice Ar n cr, .int .i64 now, .int .i64 T].toArray i1 _ Try.underlying53 hi1 hz1 (by rw [hs1]; decide) (by rw [hs1]; decide) (by rw [hs1]; refine (congrArg _ (?_ : _ = [(0, Value.agg [Value.string qn, .int .i64 qt, .int .i64 out, .slice Ar n cr, .int .i64 now, .int .i64 T].toArray)])).trans (fill_6 rfl); rw [Array.toList_map]; rfl) ?_
          have hba : Below w5.heap.size w5 (w5.alloc (.cells [Value.string qn, .int .i64 qt, .int .i64 out, .slice Ar n cr, .int .i64 now, .int .i64 T].toArray 58)) := (Below.refl _ w5).alloc (Nat.le_refl _) _
          have HC6 := Lib.hid (HC5.out.below hba)
          have HO6 := Lib.hid (own_below HO5.out hba)
          have HS6 := Lib.hid (HS5.out.trans (Step.of_below hba HC5.out.hb))
          refine hK.out _ _ ((hba.block W0 (heap_lt hHeld2)).trans hHeld2) (fun hH6 => ?_)
          clear hK K hba
          try simp only [Act.put, List.setIfInBounds_toArray, List.set_cons_zero, List.set_cons_succ]
          refine wpAnyH_ready (rs := [14]) (by kernel_rfl) (by simp) ?_
          refine AllReadyH.cons (o := ({ dst := some 87, op := Go.Op.call { callee := Go.Callee.builtin Go.Builtin.append, args := #[Go.Operand.tmp 77, Go.Operand.tmp 86], argTypes := #[53, 53] }, type := 53, pos := "cache.go:76", after := #[{ on := 4, ground := Go.Ground.data }, { on := 13, ground := Go.Ground.data }, { on := 8, ground := Go.Ground.chain }], guard := none } : Oper)) rfl (fun K hK => ?_) AllReadyH.nil
          rw [if_pos (by kernel_rfl)]
          refine wp_append_own (w := w5.alloc (.cells [Value.string qn, .int .i64 qt, .int .i64 out, .slice Ar n cr, .int .i64 now, .int .i64 T].toArray 58)) (.tmp 77) (.tmp 86) 53 rfl base 58 i1 _ 6 72 Try.underlying53 hi1 hz1 hs1 hy1 rfl (by decide) _ es3.length (flatE es3) rfl HC6.out.own ⟨w5.heap.size, 0, none⟩ 1 1 [Value.string qn, .int .i64 qt, .int .i64 out, .slice Ar n cr, .int .i64 now, .int .i64 T] rfl rfl (fun j u hj => by rw [Addr.add_lit, Nat.zero_add, World.cell?_alloc_mark, List.getElem?_toArray]; exact hj) (fun u hu => by simp only [List.mem_cons, List.not_mem_nil, or_false] at hu; rcases hu with rfl | rfl | rfl | rfl | rfl | rfl <;> rfl) (by unfold maxLen; omega) (by omega) HC6.out.hb ?_
          intro v1 w6 ho6 hg6 _
          obtain ⟨A1, cap1, hv1⟩ := own_sl ho6
          subst hv1
          have hap := HC6.out.app (e := (⟨qn, qt, out, .slice Ar n cr, n, xs, now, T⟩ : En)) ho6 hg6 HO6.out ⟨HN.out, HTB.out, HLX.out.one⟩ hlt3
          have d1 := cell_of_row w6 C 1 _ _ _ hap.2.2.1
          have f1 := frozen_of_row w6 C 1 _ _ hap.2.2.1
          simp only [List.getElem?_toArray, List.getElem?_cons_succ, List.getElem?_cons_zero] at d1
          have HF := Lib.hid hap.1
          have HSF := Lib.hid (HS6.out.trans hap.2.1)
          have hH7 := hap.2.2.2.keep W0 _ hH6 (other_cells (by decide) (by decide))
          have hH8 := hap.2.1.keep W0 _ hH6 (other_cells (by decide) (by decide))
          clear hap ho6 hg6
          refine hK.out _ _ hH7 (fun hH7' => ?_)
          clear hK K
          try simp only [Act.put, List.setIfInBounds_toArray, List.set_cons_zero, List.set_cons_succ]
          refine wpAnyH_take (i := 15) (oi := ({ dst := some 88, op := Go.Op.nilCheck (Go.Operand.tmp 73), type := 0, pos := "cache.go:76", after := #[{ on := 0, ground := Go.Ground.data }, { on := 0, ground := Go.Ground.phase }, { on := 1, ground := Go.Ground.phase }, { on := 2, ground := Go.Ground.phase }, { on := 3, ground := Go.Ground.phase }, { on := 4, ground := Go.Ground.phase }, { on := 5, ground := Go.Ground.phase }, { on := 6, ground := Go.Ground.phase }, { on := 7, ground := Go.Ground.phase }, { on := 8, ground := Go.Ground.phase }, { on := 9, ground := Go.Ground.phase }, { on := 10, ground := Go.Ground.phase }, { on := 11, ground := Go.Ground.phase }, { on := 12, ground := Go.Ground.phase }, { on := 13, ground := Go.Ground.phase }, { on := 14, ground := Go.Ground.phase }], guard := none } : Oper)) (v := .pointer (some ⟨C, 0, none⟩)) rfl (by kernel_rfl) (by kernel_rfl) (by kernel_rfl) (fun _ _ _ h => h) (Or.inl ⟨by rfl, fun w' _ => ?_⟩) hH7' ?_
          · go_simp
          try simp only [Act.put, List.setIfInBounds_toArray, List.set_cons_zero, List.set_cons_succ]
          refine wpAnyH_take (i := 16) (oi := ({ dst := some 89, op := Go.Op.fieldAddr 55 (Go.Operand.tmp 88) 1, type := 0, pos := "cache.go:76", after := #[{ on := 15, ground := Go.Ground.data }, { on := 0, ground := Go.Ground.phase }, { on := 1, ground := Go.Ground.phase }, { on := 2, ground := Go.Ground.phase }, { on := 3, ground := Go.Ground.phase }, { on := 4, ground := Go.Ground.phase }, { on := 5, ground := Go.Ground.phase }, { on := 6, ground := Go.Ground.phase }, { on := 7, ground := Go.Ground.phase }, { on := 8, ground := Go.Ground.phase }, { on := 9, ground := Go.Ground.phase }, { on := 10, ground := Go.Ground.phase }, { on := 11, ground := Go.Ground.phase }, { on := 12, ground := Go.Ground.phase }, { on := 13, ground := Go.Ground.phase }, { on := 14, ground := Go.Ground.phase }], guard := none } : Oper)) (v := .pointer (some ⟨C, 1, none⟩)) rfl (by kernel_rfl) (by kernel_rfl) (by kernel_rfl) (fun _ _ _ h => h) (Or.inl ⟨by rfl, fun w' _ => ?_⟩) hH7' ?_
          · go_simp
          try simp only [Act.put, List.setIfInBounds_toArray, List.set_cons_zero, List.set_cons_succ]
          refine wpAnyH_ready (rs := [17]) (by kernel_rfl) (by simp) ?_
          refine AllReadyH.cons (o := ({ dst := none, op := Go.Op.store 53 (Go.Operand.tmp 89) (Go.Operand.tmp 87), type := 0, pos := "cache.go:76", after := #[{ on := 16, ground := Go.Ground.data }, { on := 14, ground := Go.Ground.data }, { on := 14, ground := Go.Ground.chain }, { on := 0, ground := Go.Ground.phase }, { on := 1, ground := Go.Ground.phase }, { on := 2, ground := Go.Ground.phase }, { on := 3, ground := Go.Ground.phase }, { on := 4, ground := Go.Ground.phase }, { on := 5, ground := Go.Ground.phase }, { on := 6, ground := Go.Ground.phase }, { on := 7, ground := Go.Ground.phase }, { on := 8, ground := Go.Ground.phase }, { on := 9, ground := Go.Ground.phase }, { on := 10, ground := Go.Ground.phase }, { on := 11, ground := Go.Ground.phase }, { on := 12, ground := Go.Ground.phase }, { on := 13, ground := Go.Ground.phase }, { on := 14, ground := Go.Ground.phase }], guard := none } : Oper)) rfl (fun K hK => ?_) AllReadyH.nil
          go_simp
          refine hK.out _ _ hH8 (fun _ => ?_)
          clear hK K
          try simp only [Act.put, List.setIfInBounds_toArray, List.set_cons_zero, List.set_cons_succ]
          refine wpAnyH_done (by kernel_rfl) ?_ _
          go_wp2_with fail
          go_end0
          exact ⟨_, _, _, rfl, HF.out, HREL.out _, HSF.out⟩
        · rw [if_pos (by kernel_rfl)]
          obtain ⟨i1, hi1, hz1, hs1, hy1⟩ := info_En
          refine wp_buildSlice 53 58 1 _ rfl [Value.string qn, .int .i64 qt, .int .i64 out, .slice Ar n cr, .int .i64 now, .int .i64 T].toArray i1 _ Try.underlying53 hi1 hz1 (by rw [hs1]; decide) (by rw [hs1]; decide) (by rw [hs1]; refine (congrArg _ (?_ : _ = [(0, Value.agg [Value.string qn, .int .i64 qt, .int .i64 out, .slice Ar n cr, .int .i64 now, .int .i64 T].toArray)])).trans (fill_6 rfl); rw [Array.toList_map]; rfl) ?_
          have hba : Below w5.heap.size w5 (w5.alloc (.cells [Value.string qn, .int .i64 qt, .int .i64 out, .slice Ar n cr, .int .i64 now, .int .i64 T].toArray 58)) := (Below.refl _ w5).alloc (Nat.le_refl _) _
          have HC6 := Lib.hid (HC5.out.below hba)
          have HO6 := Lib.hid (own_below HO5.out hba)
          have HS6 := Lib.hid (HS5.out.trans (Step.of_below hba HC5.out.hb))
          refine hK.out _ _ ((hba.block W0 (heap_lt hHeld1)).trans hHeld1) (fun hH6 => ?_)
          clear hK K hba
          try simp only [Act.put, List.setIfInBounds_toArray, List.set_cons_zero, List.set_cons_succ]
          refine wpAnyH_ready (rs := [4]) (by kernel_rfl) (by simp) ?_
          refine AllReadyH.cons (o := ({ dst := some 77, op := Go.Op.load 53 (Go.Operand.tmp 76), type := 53, pos := "cache.go:76", after := #[{ on := 3, ground := Go.Ground.data }], guard := none } : Oper)) rfl (fun K hK => ?_) AllReadyH.nil
          have kk := cell_of_row _ C 1 _ _ _ HC6.out.obj
          simp only [List.getElem?_toArray, List.getElem?_cons_succ, List.getElem?_cons_zero] at kk
          go_simp
          refine hK.out _ _ hH6 (fun hH6' => ?_)
          clear hK K
          clear kk
          try simp only [Act.put, List.setIfInBounds_toArray, List.set_cons_zero, List.set_cons_succ]
          refine wpAnyH_ready (rs := [14]) (by kernel_rfl) (by simp) ?_
          refine AllReadyH.cons (o := ({ dst := some 87, op := Go.Op.call { callee := Go.Callee.builtin Go.Builtin.append, args := #[Go.Operand.tmp 77, Go.Operand.tmp 86], argTypes := #[53, 53] }, type := 53, pos := "cache.go:76", after := #[{ on := 4, ground := Go.Ground.data }, { on := 13, ground := Go.Ground.data }, { on := 8, ground := Go.Ground.chain }], guard := none } : Oper)) rfl (fun K hK => ?_) AllReadyH.nil
          rw [if_pos (by kernel_rfl)]
          refine wp_append_own (w := w5.alloc (.cells [Value.string qn, .int .i64 qt, .int .i64 out, .slice Ar n cr, .int .i64 now, .int .i64 T].toArray 58)) (.tmp 77) (.tmp 86) 53 rfl base 58 i1 _ 6 72 Try.underlying53 hi1 hz1 hs1 hy1 rfl (by decide) _ es3.length (flatE es3) rfl HC6.out.own ⟨w5.heap.size, 0, none⟩ 1 1 [Value.string qn, .int .i64 qt, .int .i64 out, .slice Ar n cr, .int .i64 now, .int .i64 T] rfl rfl (fun j u hj => by rw [Addr.add_lit, Nat.zero_add, World.cell?_alloc_mark, List.getElem?_toArray]; exact hj) (fun u hu => by simp only [List.mem_cons, List.not_mem_nil, or_false] at hu; rcases hu with rfl | rfl | rfl | rfl | rfl | rfl <;> rfl) (by unfold maxLen; omega) (by omega) HC6.out.hb ?_
          intro v1 w6 ho6 hg6 _
          obtain ⟨A1, cap1, hv1⟩ := own_sl ho6
          subst hv1
          have hap := HC6.out.app (e := (⟨qn, qt, out, .slice Ar n cr, n, xs, now, T⟩ : En)) ho6 hg6 HO6.out ⟨HN.out, HTB.out, HLX.out.one⟩ hlt3
          have d1 := cell_of_row w6 C 1 _ _ _ hap.2.2.1
          have f1 := frozen_of_row w6 C 1 _ _ hap.2.2.1
          simp only [List.getElem?_toArray, List.getElem?_cons_succ, List.getElem?_cons_zero] at d1
          have HF := Lib.hid hap.1
          have HSF := Lib.hid (HS6.out.trans hap.2.1)
          have hH7 := hap.2.2.2.keep W0 _ hH6' (other_cells (by decide) (by decide))
          have hH8 := hap.2.1.keep W0 _ hH6' (other_cells (by decide) (by decide))
          clear hap ho6 hg6
          refine hK.out _ _ hH7 (fun hH7' => ?_)
          clear hK K
          try simp only [Act.put, List.setIfInBounds_toArray, List.set_cons_zero, List.set_cons_succ]
          refine wpAnyH_take (i := 15) (oi := ({ dst := some 88, op := Go.Op.nilCheck (Go.Operand.tmp 73), type := 0, pos := "cache.go:76", after := #[{ on := 0, ground := Go.Ground.data }, { on := 0, ground := Go.Ground.phase }, { on := 1, ground := Go.Ground.phase }, { on := 2, ground := Go.Ground.phase }, { on := 3, ground := Go.Ground.phase }, { on := 4, ground := Go.Ground.phase }, { on := 5, ground := Go.Ground.phase }, { on := 6, ground := Go.Ground.phase }, { on := 7, ground := Go.Ground.phase }, { on := 8, ground := Go.Ground.phase }, { on := 9, ground := Go.Ground.phase }, { on := 10, ground := Go.Ground.phase }, { on := 11, ground := Go.Ground.phase }, { on := 12, ground := Go.Ground.phase }, { on := 13, ground := Go.Ground.phase }, { on := 14, ground := Go.Ground.phase }], guard := none } : Oper)) (v := .pointer (some ⟨C, 0, none⟩)) rfl (by kernel_rfl) (by kernel_rfl) (by kernel_rfl) (fun _ _ _ h => h) (Or.inl ⟨by rfl, fun w' _ => ?_⟩) hH7' ?_
          · go_simp
          try simp only [Act.put, List.setIfInBounds_toArray, List.set_cons_zero, List.set_cons_succ]
          refine wpAnyH_take (i := 16) (oi := ({ dst := some 89, op := Go.Op.fieldAddr 55 (Go.Operand.tmp 88) 1, type := 0, pos := "cache.go:76", after := #[{ on := 15, ground := Go.Ground.data }, { on := 0, ground := Go.Ground.phase }, { on := 1, ground := Go.Ground.phase }, { on := 2, ground := Go.Ground.phase }, { on := 3, ground := Go.Ground.phase }, { on := 4, ground := Go.Ground.phase }, { on := 5, ground := Go.Ground.phase }, { on := 6, ground := Go.Ground.phase }, { on := 7, ground := Go.Ground.phase }, { on := 8, ground := Go.Ground.phase }, { on := 9, ground := Go.Ground.phase }, { on := 10, ground := Go.Ground.phase }, { on := 11, ground := Go.Ground.phase }, { on := 12, ground := Go.Ground.phase }, { on := 13, ground := Go.Ground.phase }, { on := 14, ground := Go.Ground.phase }], guard := none } : Oper)) (v := .pointer (some ⟨C, 1, none⟩)) rfl (by kernel_rfl) (by kernel_rfl) (by kernel_rfl) (fun _ _ _ h => h) (Or.inl ⟨by rfl, fun w' _ => ?_⟩) hH7' ?_
          · go_simp
          try simp only [Act.put, List.setIfInBounds_toArray, List.set_cons_zero, List.set_cons_succ]
          refine wpAnyH_ready (rs := [17]) (by kernel_rfl) (by simp) ?_
          refine AllReadyH.cons (o := ({ dst := none, op := Go.Op.store 53 (Go.Operand.tmp 89) (Go.Operand.tmp 87), type := 0, pos := "cache.go:76", after := #[{ on := 16, ground := Go.Ground.data }, { on := 14, ground := Go.Ground.data }, { on := 14, ground := Go.Ground.chain }, { on := 0, ground := Go.Ground.phase }, { on := 1, ground := Go.Ground.phase }, { on := 2, ground := Go.Ground.phase }, { on := 3, ground := Go.Ground.phase }, { on := 4, ground := Go.Ground.phase }, { on := 5, ground := Go.Ground.phase }, { on := 6, ground := Go.Ground.phase }, { on := 7, ground := Go.Ground.phase }, { on := 8, ground := Go.Ground.phase }, { on := 9, ground := Go.Ground.phase }, { on := 10, ground := Go.Ground.phase }, { on := 11, ground := Go.Ground.phase }, { on := 12, ground := Go.Ground.phase }, { on := 13, ground := Go.Ground.phase }, { on := 14, ground := Go.Ground.phase }], guard := none } : Oper)) rfl (fun K hK => ?_) AllReadyH.nil
          go_simp
          refine hK.out _ _ hH8 (fun _ => ?_)
          clear hK K
          try simp only [Act.put, List.setIfInBounds_toArray, List.set_cons_zero, List.set_cons_succ]
          refine wpAnyH_done (by kernel_rfl) ?_ _
          go_wp2_with fail
          go_end0
          exact ⟨_, _, _, rfl, HF.out, HREL.out _, HSF.out⟩
  · rcases HC3.out.row with ⟨_, hnil⟩ | ⟨g, cap, tail, hv, hbg, hg, hnc, hcm, hs⟩
    · subst hnil; simp at hk
    · subst hv
      have HE := Lib.hid hE
      have HCW := HC3
      have HQW := HQ3
      have HSW := HS3
      have HLW := HL3
      have HG5 := Lib.hid hg
      have HBG := Lib.hid hbg
      have HSZ := Lib.hid hs
      have hlen16 := HCW.out.len
      clear hE hg hbg hs HC3 HQ3 HS3 HL3
      have c1 := cell_of_row w3 C 1 _ _ _ HCW.out.obj
      simp only [List.getElem?_toArray, List.getElem?_cons_succ, List.getElem?_cons_zero] at c1
      go_wp2_with fail
      have hbg := HBG.out
      have hs := HSZ.out
      have hg5 := HG5.out
      refine (delete_e g cap k es1 tail w3 hg5 (by omega) hnc hcm (HCW.out.one) hk).mono ?_
      rintro e w6 hd
      obtain rfl := hd.1
      have hdl := CAt.del HCW.out hg5 hbg hcm hnc hs (Below.refl _ _) hd.2.1 hd.2.2 (by rw [List.length_eraseIdx_of_lt hk]; omega) (fun e he => List.mem_of_mem_eraseIdx he)
      have d1 := cell_of_row w6 C 1 _ _ _ hdl.2.2
      have f1 := frozen_of_row w6 C 1 _ _ hdl.2.2
      simp only [List.getElem?_toArray, List.getElem?_cons_succ, List.getElem?_cons_zero] at d1
      have HC7 := Lib.hid hdl.1
      have HS7 := Lib.hid (HSW.out.trans hdl.2.1)
      have HL7 := Lib.hid (HLW.out.step hdl.2.1)
      have HQ7 := Lib.hid (hdl.2.1.keep W0 _ HQW.out (other_cells (by decide) (by decide)))
      have hel : (es1.eraseIdx k).length = es1.length - 1 := List.length_eraseIdx_of_lt hk
      obtain ⟨es3, hes3⟩ : ∃ es3, es3 = es1.eraseIdx k := ⟨_, rfl⟩
      have hlt3 : es3.length < size := by rw [hes3, hel]; omega
      have HREL : Hid (∀ rv, PutRel size now es ⟨qn, qt, out, rv, n, xs, now, T⟩ (es3 ++ [⟨qn, qt, out, rv, n, xs, now, T⟩])) := Lib.hid (fun rv => by
        rw [HES.out]
        refine ⟨es3, rfl, .inl ?_⟩
        show (es1.eraseP (isQ qn qt)).length ≠ size ∧ es3 = es1.eraseP (isQ qn qt)
        rw [HE.out, ← hes3]
        exact ⟨by omega, rfl⟩)
      rw [← hes3] at HC7 HS7 HL7 HQ7 ⊢
      clear hes3 hel hlen16 hbg hs HE HES HCN HBG HSZ HG5 hg5 hd hdl HCW HQW HSW HLW c1
      have c0 := cell_of_row _ C 0 _ _ _ HC7.out.obj
      have c1 := cell_of_row _ C 1 _ _ _ HC7.out.obj
      simp only [List.getElem?_toArray, List.getElem?_cons_succ, List.getElem?_cons_zero] at c0 c1
      have hf1 : ((es3.length : Int) == (size : Int)) = false := beq_eq_false_iff_ne.2 (by omega)
      go_wp2_with fail
      generalize w6.setCell ⟨C, 1, none⟩ (.slice (some ⟨g, 0, none⟩) es3.length cap) = w7 at HC7 HS7 HL7 HQ7 c0 c1 ⊢
      go_quiet (fail)
      go_wp2_with fail
      clear c0 c1 hf1
      have hbd : Below w7.heap.size w7 (w7.drewN nq).drew := ⟨rfl, rfl, rfl, Nat.le_refl _, fun _ _ => rfl⟩
      have HCX := Lib.hid (HC7.out.below hbd)
      have HQX := Lib.hid ((hbd.block W0 (heap_lt HQ7.out)).trans HQ7.out)
      have HSX := Lib.hid (HS7.out.trans (Step.of_below hbd HC7.out.hb))
      have HLX := Lib.hid (HL7.out.below hbd)
      clear hbd HC7 HQ7 HS7 HL7
      refine wp_region_held_drew (S := (fun W : World => W.heap[W0]? = some (.cells #[.string qn, .int .i64 qt] 32 (0, 0)))) (by kernel_rfl) HQX.out (fun hHeld => ?_)
      generalize (w7.drewN nq).drew = W at hHeld HCX HQX HSX HLX ⊢
      have k1 := cell_of_row W C 1 _ _ _ HCX.out.obj
      simp only [List.getElem?_toArray, List.getElem?_cons_succ, List.getElem?_cons_zero] at k1
      refine wpAnyH_take (i := 0) (oi := ({ dst := some 73, op := Go.Op.move (Go.Operand.tmp 0), type := 24, pos := "cache.go:76", after := #[], guard := none } : Oper)) (v := .pointer (some ⟨C, 0, none⟩)) rfl (by kernel_rfl) (by kernel_rfl) (by kernel_rfl) (fun _ _ _ h => h) (Or.inl ⟨by rfl, fun w' _ => ?_⟩) hHeld ?_
      · go_simp
      try simp only [Act.put, List.setIfInBounds_toArray, List.set_cons_zero, List.set_cons_succ]
      refine wpAnyH_take (i := 1) (oi := ({ dst := some 74, op := Go.Op.move (Go.Operand.tmp 0), type := 24, pos := "cache.go:76", after := #[], guard := none } : Oper)) (v := .pointer (some ⟨C, 0, none⟩)) rfl (by kernel_rfl) (by kernel_rfl) (by kernel_rfl) (fun _ _ _ h => h) (Or.inl ⟨by rfl, fun w' _ => ?_⟩) hHeld ?_
      · go_simp
      try simp only [Act.put, List.setIfInBounds_toArray, List.set_cons_zero, List.set_cons_succ]
      refine wpAnyH_take (i := 2) (oi := ({ dst := some 75, op := Go.Op.nilCheck (Go.Operand.tmp 74), type := 0, pos := "cache.go:76", after := #[{ on := 1, ground := Go.Ground.data }], guard := none } : Oper)) (v := .pointer (some ⟨C, 0, none⟩)) rfl (by kernel_rfl) (by kernel_rfl) (by kernel_rfl) (fun _ _ _ h => h) (Or.inl ⟨by rfl, fun w' _ => ?_⟩) hHeld ?_
      · go_simp
      try simp only [Act.put, List.setIfInBounds_toArray, List.set_cons_zero, List.set_cons_succ]
      refine wpAnyH_take (i := 3) (oi := ({ dst := some 76, op := Go.Op.fieldAddr 55 (Go.Operand.tmp 75) 1, type := 0, pos := "cache.go:76", after := #[{ on := 2, ground := Go.Ground.data }], guard := none } : Oper)) (v := .pointer (some ⟨C, 1, none⟩)) rfl (by kernel_rfl) (by kernel_rfl) (by kernel_rfl) (fun _ _ _ h => h) (Or.inl ⟨by rfl, fun w' _ => ?_⟩) hHeld ?_
      · go_simp
      try simp only [Act.put, List.setIfInBounds_toArray, List.set_cons_zero, List.set_cons_succ]
      refine wpAnyH_take (i := 5) (oi := ({ dst := some 78, op := Go.Op.load 32 (Go.Operand.tmp 8), type := 32, pos := "cache.go:76", after := #[], guard := none } : Oper)) (v := .agg #[.string qn, .int .i64 qt]) rfl (by kernel_rfl) (by kernel_rfl) (by kernel_rfl) (fun _ _ _ h => h) (yieldsIf_load_mid (by rfl) _ _ rfl _ _ rfl [.string qn, .int .i64 qt] _ (fun w h => range_row h) Try.underlying32 rfl (sizeQl qn qt)) hHeld ?_
      try simp only [Act.put, List.setIfInBounds_toArray, List.set_cons_zero, List.set_cons_succ]
      refine wpAnyH_take (i := 6) (oi := ({ dst := some 79, op := Go.Op.move (Go.Operand.tmp 3), type := 3, pos := "cache.go:76", after := #[], guard := none } : Oper)) (v := .int .i64 out) rfl (by kernel_rfl) (by kernel_rfl) (by kernel_rfl) (fun _ _ _ h => h) (Or.inl ⟨by rfl, fun w' _ => ?_⟩) hHeld ?_
      · go_simp
      try simp only [Act.put, List.setIfInBounds_toArray, List.set_cons_zero, List.set_cons_succ]
      refine wpAnyH_take (i := 7) (oi := ({ dst := some 80, op := Go.Op.move (Go.Operand.tmp 4), type := 41, pos := "cache.go:76", after := #[], guard := none } : Oper)) (v := l) rfl (by kernel_rfl) (by kernel_rfl) (by kernel_rfl) (fun _ _ _ h => h) (Or.inl ⟨by rfl, fun w' _ => ?_⟩) hHeld ?_
      · go_simp
      try simp only [Act.put, List.setIfInBounds_toArray, List.set_cons_zero, List.set_cons_succ]
      refine wpAnyH_take (i := 9) (oi := ({ dst := some 82, op := Go.Op.move (Go.Operand.tmp 1), type := 3, pos := "cache.go:76", after := #[], guard := none } : Oper)) (v := .int .i64 now) rfl (by kernel_rfl) (by kernel_rfl) (by kernel_rfl) (fun _ _ _ h => h) (Or.inl ⟨by rfl, fun w' _ => ?_⟩) hHeld ?_
      · go_simp
      try simp only [Act.put, List.setIfInBounds_toArray, List.set_cons_zero, List.set_cons_succ]
      refine wpAnyH_take (i := 10) (oi := ({ dst := some 83, op := Go.Op.move (Go.Operand.tmp 5), type := 3, pos := "cache.go:76", after := #[], guard := none } : Oper)) (v := .int .i64 ttl) rfl (by kernel_rfl) (by kernel_rfl) (by kernel_rfl) (fun _ _ _ h => h) (Or.inl ⟨by rfl, fun w' _ => ?_⟩) hHeld ?_
      · go_simp
      try simp only [Act.put, List.setIfInBounds_toArray, List.set_cons_zero, List.set_cons_succ]
      refine wpAnyH_take (i := 11) (oi := ({ dst := some 84, op := Go.Op.call { callee := Go.Callee.builtin Go.Builtin.min, args := #[Go.Operand.tmp 83, Go.Operand.const (Go.Value.int Go.IntKind.i64 1048576)], argTypes := #[3, 3] }, type := 3, pos := "cache.go:76", after := #[{ on := 10, ground := Go.Ground.data }], guard := none } : Oper)) (v := .int .i64 T) rfl (by kernel_rfl) (by kernel_rfl) (by kernel_rfl) (fun _ _ _ h => h) (Or.inl ⟨by rfl, fun w' _ => ?_⟩) hHeld ?_
      · go_simp; have := HTm.out; split <;> omega
      try simp only [Act.put, List.setIfInBounds_toArray, List.set_cons_zero, List.set_cons_succ]
      refine wpAnyH_ready (rs := [4, 8]) (by kernel_rfl) (by simp) ?_
      refine AllReadyH.cons (o := ({ dst := some 77, op := Go.Op.load 53 (Go.Operand.tmp 76), type := 53, pos := "cache.go:76", after := #[{ on := 3, ground := Go.Ground.data }], guard := none } : Oper)) rfl (fun K hK => ?_) (AllReadyH.cons (o := ({ dst := some 81, op := Go.Op.call { callee := Go.Callee.value (Go.Operand.func 25), args := #[Go.Operand.tmp 80], argTypes := #[41] }, type := 41, pos := "cache.go:79", after := #[{ on := 7, ground := Go.Ground.data }], guard := none } : Oper)) rfl (fun K hK => ?_) AllReadyH.nil)
      · go_simp
        refine hK.out _ _ hHeld (fun hHeld1 => ?_)
        clear hK K
        try simp only [Act.put, List.setIfInBounds_toArray, List.set_cons_zero, List.set_cons_succ]
        refine wpAnyH_ready (rs := [8]) (by kernel_rfl) (by simp) ?_
        refine AllReadyH.cons (o := ({ dst := some 81, op := Go.Op.call { callee := Go.Callee.value (Go.Operand.func 25), args := #[Go.Operand.tmp 80], argTypes := #[41] }, type := 41, pos := "cache.go:79", after := #[{ on := 7, ground := Go.Ground.data }], guard := none } : Oper)) rfl (fun K hK => ?_) AllReadyH.nil
        go_simp
        go_at_call 25
        refine (clone_e HLX.out hn1).mono ?_
        rintro e' w5 ⟨rv, rfl, ho5, hb5⟩
        have HC5 := Lib.hid (HCX.out.below hb5)
        have HS5 := Lib.hid (HSX.out.trans (Step.of_below hb5 HCX.out.hb))
        have hH5 : w5.heap[W0]? = _ := (hb5.block W0 (heap_lt hHeld)).trans hHeld
        clear hb5
        refine hK.out _ _ hH5 (fun hHeld2 => ?_)
        clear hK K
        try simp only [Act.put, List.setIfInBounds_toArray, List.set_cons_zero, List.set_cons_succ]
        obtain ⟨Ar, cr, rfl⟩ := own_sl ho5
        have HO5 := Lib.hid (own_base ho5 HCX.out.hb)
        clear ho5
        refine wpAnyH_take (i := 12) (oi := ({ dst := some 85, op := Go.Op.build 58 #[(0, Go.Operand.tmp 78), (1, Go.Operand.tmp 79), (2, Go.Operand.tmp 81), (3, Go.Operand.tmp 82), (4, Go.Operand.tmp 84)], type := 58, pos := "cache.go:76", after := #[{ on := 5, ground := Go.Ground.data }, { on := 6, ground := Go.Ground.data }, { on := 8, ground := Go.Ground.data }, { on := 9, ground := Go.Ground.data }, { on := 11, ground := Go.Ground.data }], guard := none } : Oper)) (v := .agg [Value.string qn, .int .i64 qt, .int .i64 out, .slice Ar n cr, .int .i64 now, .int .i64 T].toArray) rfl (by kernel_rfl) (by kernel_rfl) (by kernel_rfl) (fun _ _ _ h => h) (Or.inl ⟨by rfl, fun w' _ => ?_⟩) hHeld2 ?_
        · go_simp
        try simp only [Act.put, List.setIfInBounds_toArray, List.set_cons_zero, List.set_cons_succ]
        refine wpAnyH_ready (rs := [13]) (by kernel_rfl) (by simp) ?_
        refine AllReadyH.cons (o := ({ dst := some 86, op := Go.Op.buildSlice 53 1 #[(0, Go.Operand.tmp 85)], type := 53, pos := "cache.go:76", after := #[{ on := 12, ground := Go.Ground.data }], guard := none } : Oper)) rfl (fun K hK => ?_) AllReadyH.nil
        rw [if_pos (by kernel_rfl)]
        obtain ⟨i1, hi1, hz1, hs1, hy1⟩ := info_En
        refine wp_buildSlice 53 58 1 _ rfl [Value.string qn, .int .i64 qt, .int .i64 out, .slice Ar n cr, .int .i64 now, .int .i64 T].toArray i1 _ Try.underlying53 hi1 hz1 (by rw [hs1]; decide) (by rw [hs1]; decide) (by rw [hs1]; refine (congrArg _ (?_ : _ = [(0, Value.agg [Value.string qn, .int .i64 qt, .int .i64 out, .slice Ar n cr, .int .i64 now, .int .i64 T].toArray)])).trans (fill_6 rfl); rw [Array.toList_map]; rfl) ?_
        have hba : Below w5.heap.size w5 (w5.alloc (.cells [Value.string qn, .int .i64 qt, .int .i64 out, .slice Ar n cr, .int .i64 now, .int .i64 T].toArray 58)) := (Below.refl _ w5).alloc (Nat.le_refl _) _
        have HC6 := Lib.hid (HC5.out.below hba)
        have HO6 := Lib.hid (own_below HO5.out hba)
        have HS6 := Lib.hid (HS5.out.trans (Step.of_below hba HC5.out.hb))
        refine hK.out _ _ ((hba.block W0 (heap_lt hHeld2)).trans hHeld2) (fun hH6 => ?_)
        clear hK K hba
        try simp only [Act.put, List.setIfInBounds_toArray, List.set_cons_zero, List.set_cons_succ]
        refine wpAnyH_ready (rs := [14]) (by kernel_rfl) (by simp) ?_
        refine AllReadyH.cons (o := ({ dst := some 87, op := Go.Op.call { callee := Go.Callee.builtin Go.Builtin.append, args := #[Go.Operand.tmp 77, Go.Operand.tmp 86], argTypes := #[53, 53] }, type := 53, pos := "cache.go:76", after := #[{ on := 4, ground := Go.Ground.data }, { on := 13, ground := Go.Ground.data }, { on := 8, ground := Go.Ground.chain }], guard := none } : Oper)) rfl (fun K hK => ?_) AllReadyH.nil
        rw [if_pos (by kernel_rfl)]
        refine wp_append_own (w := w5.alloc (.cells [Value.string qn, .int .i64 qt, .int .i64 out, .slice Ar n cr, .int .i64 now, .int .i64 T].toArray 58)) (.tmp 77) (.tmp 86) 53 rfl base 58 i1 _ 6 72 Try.underlying53 hi1 hz1 hs1 hy1 rfl (by decide) _ es3.length (flatE es3) rfl HC6.out.own ⟨w5.heap.size, 0, none⟩ 1 1 [Value.string qn, .int .i64 qt, .int .i64 out, .slice Ar n cr, .int .i64 now, .int .i64 T] rfl rfl (fun j u hj => by rw [Addr.add_lit, Nat.zero_add, World.cell?_alloc_mark, List.getElem?_toArray]; exact hj) (fun u hu => by simp only [List.mem_cons, List.not_mem_nil, or_false] at hu; rcases hu with rfl | rfl | rfl | rfl | rfl | rfl <;> rfl) (by unfold maxLen; omega) (by omega) HC6.out.hb ?_
        intro v1 w6 ho6 hg6 _
        obtain ⟨A1, cap1, hv1⟩ := own_sl ho6
        subst hv1
        have hap := HC6.out.app (e := (⟨qn, qt, out, .slice Ar n cr, n, xs, now, T⟩ : En)) ho6 hg6 HO6.out ⟨HN.out, HTB.out, HLX.out.one⟩ hlt3
        have d1 := cell_of_row w6 C 1 _ _ _ hap.2.2.1
        have f1 := frozen_of_row w6 C 1 _ _ hap.2.2.1
        simp only [List.getElem?_toArray, List.getElem?_cons_succ, List.getElem?_cons_zero] at d1
        have HF := Lib.hid hap.1
        have HSF := Lib.hid (HS6.out.trans hap.2.1)
        have hH7 := hap.2.2.2.keep W0 _ hH6 (other_cells (by decide) (by decide))
        have hH8 := hap.2.1.keep W0 _ hH6 (other_cells (by decide) (by decide))
        clear hap ho6 hg6
        refine hK.out _ _ hH7 (fun hH7' => ?_)
        clear hK K
        try simp only [Act.put, List.setIfInBounds_toArray, List.set_cons_zero, List.set_cons_succ]
        refine wpAnyH_take (i := 15) (oi := ({ dst := some 88, op := Go.Op.nilCheck (Go.Operand.tmp 73), type := 0, pos := "cache.go:76", after := #[{ on := 0, ground := Go.Ground.data }, { on := 0, ground := Go.Ground.phase }, { on := 1, ground := Go.Ground.phase }, { on := 2, ground := Go.Ground.phase }, { on := 3, ground := Go.Ground.phase }, { on := 4, ground := Go.Ground.phase }, { on := 5, ground := Go.Ground.phase }, { on := 6, ground := Go.Ground.phase }, { on := 7, ground := Go.Ground.phase }, { on := 8, ground := Go.Ground.phase }, { on := 9, ground := Go.Ground.phase }, { on := 10, ground := Go.Ground.phase }, { on := 11, ground := Go.Ground.phase }, { on := 12, ground := Go.Ground.phase }, { on := 13, ground := Go.Ground.phase }, { on := 14, ground := Go.Ground.phase }], guard := none } : Oper)) (v := .pointer (some ⟨C, 0, none⟩)) rfl (by kernel_rfl) (by kernel_rfl) (by kernel_rfl) (fun _ _ _ h => h) (Or.inl ⟨by rfl, fun w' _ => ?_⟩) hH7' ?_
        · go_simp
        try simp only [Act.put, List.setIfInBounds_toArray, List.set_cons_zero, List.set_cons_succ]
        refine wpAnyH_take (i := 16) (oi := ({ dst := some 89, op := Go.Op.fieldAddr 55 (Go.Operand.tmp 88) 1, type := 0, pos := "cache.go:76", after := #[{ on := 15, ground := Go.Ground.data }, { on := 0, ground := Go.Ground.phase }, { on := 1, ground := Go.Ground.phase }, { on := 2, ground := Go.Ground.phase }, { on := 3, ground := Go.Ground.phase }, { on := 4, ground := Go.Ground.phase }, { on := 5, ground := Go.Ground.phase }, { on := 6, ground := Go.Ground.phase }, { on := 7, ground := Go.Ground.phase }, { on := 8, ground := Go.Ground.phase }, { on := 9, ground := Go.Ground.phase }, { on := 10, ground := Go.Ground.phase }, { on := 11, ground := Go.Ground.phase }, { on := 12, ground := Go.Ground.phase }, { on := 13, ground := Go.Ground.phase }, { on := 14, ground := Go.Ground.phase }], guard := none } : Oper)) (v := .pointer (some ⟨C, 1, none⟩)) rfl (by kernel_rfl) (by kernel_rfl) (by kernel_rfl) (fun _ _ _ h => h) (Or.inl ⟨by rfl, fun w' _ => ?_⟩) hH7' ?_
        · go_simp
        try simp only [Act.put, List.setIfInBounds_toArray, List.set_cons_zero, List.set_cons_succ]
        refine wpAnyH_ready (rs := [17]) (by kernel_rfl) (by simp) ?_
        refine AllReadyH.cons (o := ({ dst := none, op := Go.Op.store 53 (Go.Operand.tmp 89) (Go.Operand.tmp 87), type := 0, pos := "cache.go:76", after := #[{ on := 16, ground := Go.Ground.data }, { on := 14, ground := Go.Ground.data }, { on := 14, ground := Go.Ground.chain }, { on := 0, ground := Go.Ground.phase }, { on := 1, ground := Go.Ground.phase }, { on := 2, ground := Go.Ground.phase }, { on := 3, ground := Go.Ground.phase }, { on := 4, ground := Go.Ground.phase }, { on := 5, ground := Go.Ground.phase }, { on := 6, ground := Go.Ground.phase }, { on := 7, ground := Go.Ground.phase }, { on := 8, ground := Go.Ground.phase }, { on := 9, ground := Go.Ground.phase }, { on := 10, ground := Go.Ground.phase }, { on := 11, ground := Go.Ground.phase }, { on := 12, ground := Go.Ground.phase }, { on := 13, ground := Go.Ground.phase }, { on := 14, ground := Go.Ground.phase }], guard := none } : Oper)) rfl (fun K hK => ?_) AllReadyH.nil
        go_simp
        refine hK.out _ _ hH8 (fun _ => ?_)
        clear hK K
        try simp only [Act.put, List.setIfInBounds_toArray, List.set_cons_zero, List.set_cons_succ]
        refine wpAnyH_done (by kernel_rfl) ?_ _
        go_wp2_with fail
        go_end0
        exact ⟨_, _, _, rfl, HF.out, HREL.out _, HSF.out⟩
      · go_simp
        go_at_call 25
        refine (clone_e HLX.out hn1).mono ?_
        rintro e' w5 ⟨rv, rfl, ho5, hb5⟩
        have HC5 := Lib.hid (HCX.out.below hb5)
        have HS5 := Lib.hid (HSX.out.trans (Step.of_below hb5 HCX.out.hb))
        have hH5 : w5.heap[W0]? = _ := (hb5.block W0 (heap_lt hHeld)).trans hHeld
        clear hb5
        refine hK.out _ _ hH5 (fun hHeld1 => ?_)
        clear hK K k1
        try simp only [Act.put, List.setIfInBounds_toArray, List.set_cons_zero, List.set_cons_succ]
        obtain ⟨Ar, cr, rfl⟩ := own_sl ho5
        have HO5 := Lib.hid (own_base ho5 HCX.out.hb)
        clear ho5
        refine wpAnyH_take (i := 12) (oi := ({ dst := some 85, op := Go.Op.build 58 #[(0, Go.Operand.tmp 78), (1, Go.Operand.tmp 79), (2, Go.Operand.tmp 81), (3, Go.Operand.tmp 82), (4, Go.Operand.tmp 84)], type := 58, pos := "cache.go:76", after := #[{ on := 5, ground := Go.Ground.data }, { on := 6, ground := Go.Ground.data }, { on := 8, ground := Go.Ground.data }, { on := 9, ground := Go.Ground.data }, { on := 11, ground := Go.Ground.data }], guard := none } : Oper)) (v := .agg [Value.string qn, .int .i64 qt, .int .i64 out, .slice Ar n cr, .int .i64 now, .int .i64 T].toArray) rfl (by kernel_rfl) (by kernel_rfl) (by kernel_rfl) (fun _ _ _ h => h) (Or.inl ⟨by rfl, fun w' _ => ?_⟩) hHeld1 ?_
        · go_simp
        try simp only [Act.put, List.setIfInBounds_toArray, List.set_cons_zero, List.set_cons_succ]
        refine wpAnyH_ready (rs := [4, 13]) (by kernel_rfl) (by simp) ?_
        refine AllReadyH.cons (o := ({ dst := some 77, op := Go.Op.load 53 (Go.Operand.tmp 76), type := 53, pos := "cache.go:76", after := #[{ on := 3, ground := Go.Ground.data }], guard := none } : Oper)) rfl (fun K hK => ?_) (AllReadyH.cons (o := ({ dst := some 86, op := Go.Op.buildSlice 53 1 #[(0, Go.Operand.tmp 85)], type := 53, pos := "cache.go:76", after := #[{ on := 12, ground := Go.Ground.data }], guard := none } : Oper)) rfl (fun K hK => ?_) AllReadyH.nil)
        · have kk := cell_of_row w5 C 1 _ _ _ HC5.out.obj
          simp only [List.getElem?_toArray, List.getElem?_cons_succ, List.getElem?_cons_zero] at kk
          go_simp
          refine hK.out _ _ hHeld1 (fun hHeld2 => ?_)
          clear hK K
          clear kk
          try simp only [Act.put, List.setIfInBounds_toArray, List.set_cons_zero, List.set_cons_succ]
          refine wpAnyH_ready (rs := [13]) (by kernel_rfl) (by simp) ?_
          refine AllReadyH.cons (o := ({ dst := some 86, op := Go.Op.buildSlice 53 1 #[(0, Go.Operand.tmp 85)], type := 53, pos := "cache.go:76", after := #[{ on := 12, ground := Go.Ground.data }], guard := none } : Oper)) rfl (fun K hK => ?_) AllReadyH.nil
          rw [if_pos (by kernel_rfl)]
          obtain ⟨i1, hi1, hz1, hs1, hy1⟩ := info_En
          refine wp_buildSlice 53 58 1 _ rfl [Value.string qn, .int .i64 qt, .int .i64 out, .slice Ar n cr, .int .i64 now, .int .i64 T].toArray i1 _ Try.underlying53 hi1 hz1 (by rw [hs1]; decide) (by rw [hs1]; decide) (by rw [hs1]; refine (congrArg _ (?_ : _ = [(0, Value.agg [Value.string qn, .int .i64 qt, .int .i64 out, .slice Ar n cr, .int .i64 now, .int .i64 T].toArray)])).trans (fill_6 rfl); rw [Array.toList_map]; rfl) ?_
          have hba : Below w5.heap.size w5 (w5.alloc (.cells [Value.string qn, .int .i64 qt, .int .i64 out, .slice Ar n cr, .int .i64 now, .int .i64 T].toArray 58)) := (Below.refl _ w5).alloc (Nat.le_refl _) _
          have HC6 := Lib.hid (HC5.out.below hba)
          have HO6 := Lib.hid (own_below HO5.out hba)
          have HS6 := Lib.hid (HS5.out.trans (Step.of_below hba HC5.out.hb))
          refine hK.out _ _ ((hba.block W0 (heap_lt hHeld2)).trans hHeld2) (fun hH6 => ?_)
          clear hK K hba
          try simp only [Act.put, List.setIfInBounds_toArray, List.set_cons_zero, List.set_cons_succ]
          refine wpAnyH_ready (rs := [14]) (by kernel_rfl) (by simp) ?_
          refine AllReadyH.cons (o := ({ dst := some 87, op := Go.Op.call { callee := Go.Callee.builtin Go.Builtin.append, args := #[Go.Operand.tmp 77, Go.Operand.tmp 86], argTypes := #[53, 53] }, type := 53, pos := "cache.go:76", after := #[{ on := 4, ground := Go.Ground.data }, { on := 13, ground := Go.Ground.data }, { on := 8, ground := Go.Ground.chain }], guard := none } : Oper)) rfl (fun K hK => ?_) AllReadyH.nil
          rw [if_pos (by kernel_rfl)]
          refine wp_append_own (w := w5.alloc (.cells [Value.string qn, .int .i64 qt, .int .i64 out, .slice Ar n cr, .int .i64 now, .int .i64 T].toArray 58)) (.tmp 77) (.tmp 86) 53 rfl base 58 i1 _ 6 72 Try.underlying53 hi1 hz1 hs1 hy1 rfl (by decide) _ es3.length (flatE es3) rfl HC6.out.own ⟨w5.heap.size, 0, none⟩ 1 1 [Value.string qn, .int .i64 qt, .int .i64 out, .slice Ar n cr, .int .i64 now, .int .i64 T] rfl rfl (fun j u hj => by rw [Addr.add_lit, Nat.zero_add, World.cell?_alloc_mark, List.getElem?_toArray]; exact hj) (fun u hu => by simp only [List.mem_cons, List.not_mem_nil, or_false] at hu; rcases hu with rfl | rfl | rfl | rfl | rfl | rfl <;> rfl) (by unfold maxLen; omega) (by omega) HC6.out.hb ?_
          intro v1 w6 ho6 hg6 _
          obtain ⟨A1, cap1, hv1⟩ := own_sl ho6
          subst hv1
          have hap := HC6.out.app (e := (⟨qn, qt, out, .slice Ar n cr, n, xs, now, T⟩ : En)) ho6 hg6 HO6.out ⟨HN.out, HTB.out, HLX.out.one⟩ hlt3
          have d1 := cell_of_row w6 C 1 _ _ _ hap.2.2.1
          have f1 := frozen_of_row w6 C 1 _ _ hap.2.2.1
          simp only [List.getElem?_toArray, List.getElem?_cons_succ, List.getElem?_cons_zero] at d1
          have HF := Lib.hid hap.1
          have HSF := Lib.hid (HS6.out.trans hap.2.1)
          have hH7 := hap.2.2.2.keep W0 _ hH6 (other_cells (by decide) (by decide))
          have hH8 := hap.2.1.keep W0 _ hH6 (other_cells (by decide) (by decide))
          clear hap ho6 hg6
          refine hK.out _ _ hH7 (fun hH7' => ?_)
          clear hK K
          try simp only [Act.put, List.setIfInBounds_toArray, List.set_cons_zero, List.set_cons_succ]
          refine wpAnyH_take (i := 15) (oi := ({ dst := some 88, op := Go.Op.nilCheck (Go.Operand.tmp 73), type := 0, pos := "cache.go:76", after := #[{ on := 0, ground := Go.Ground.data }, { on := 0, ground := Go.Ground.phase }, { on := 1, ground := Go.Ground.phase }, { on := 2, ground := Go.Ground.phase }, { on := 3, ground := Go.Ground.phase }, { on := 4, ground := Go.Ground.phase }, { on := 5, ground := Go.Ground.phase }, { on := 6, ground := Go.Ground.phase }, { on := 7, ground := Go.Ground.phase }, { on := 8, ground := Go.Ground.phase }, { on := 9, ground := Go.Ground.phase }, { on := 10, ground := Go.Ground.phase }, { on := 11, ground := Go.Ground.phase }, { on := 12, ground := Go.Ground.phase }, { on := 13, ground := Go.Ground.phase }, { on := 14, ground := Go.Ground.phase }], guard := none } : Oper)) (v := .pointer (some ⟨C, 0, none⟩)) rfl (by kernel_rfl) (by kernel_rfl) (by kernel_rfl) (fun _ _ _ h => h) (Or.inl ⟨by rfl, fun w' _ => ?_⟩) hH7' ?_
          · go_simp
          try simp only [Act.put, List.setIfInBounds_toArray, List.set_cons_zero, List.set_cons_succ]
          refine wpAnyH_take (i := 16) (oi := ({ dst := some 89, op := Go.Op.fieldAddr 55 (Go.Operand.tmp 88) 1, type := 0, pos := "cache.go:76", after := #[{ on := 15, ground := Go.Ground.data }, { on := 0, ground := Go.Ground.phase }, { on := 1, ground := Go.Ground.phase }, { on := 2, ground := Go.Ground.phase }, { on := 3, ground := Go.Ground.phase }, { on := 4, ground := Go.Ground.phase }, { on := 5, ground := Go.Ground.phase }, { on := 6, ground := Go.Ground.phase }, { on := 7, ground := Go.Ground.phase }, { on := 8, ground := Go.Ground.phase }, { on := 9, ground := Go.Ground.phase }, { on := 10, ground := Go.Ground.phase }, { on := 11, ground := Go.Ground.phase }, { on := 12, ground := Go.Ground.phase }, { on := 13, ground := Go.Ground.phase }, { on := 14, ground := Go.Ground.phase }], guard := none } : Oper)) (v := .pointer (some ⟨C, 1, none⟩)) rfl (by kernel_rfl) (by kernel_rfl) (by kernel_rfl) (fun _ _ _ h => h) (Or.inl ⟨by rfl, fun w' _ => ?_⟩) hH7' ?_
          · go_simp
          try simp only [Act.put, List.setIfInBounds_toArray, List.set_cons_zero, List.set_cons_succ]
          refine wpAnyH_ready (rs := [17]) (by kernel_rfl) (by simp) ?_
          refine AllReadyH.cons (o := ({ dst := none, op := Go.Op.store 53 (Go.Operand.tmp 89) (Go.Operand.tmp 87), type := 0, pos := "cache.go:76", after := #[{ on := 16, ground := Go.Ground.data }, { on := 14, ground := Go.Ground.data }, { on := 14, ground := Go.Ground.chain }, { on := 0, ground := Go.Ground.phase }, { on := 1, ground := Go.Ground.phase }, { on := 2, ground := Go.Ground.phase }, { on := 3, ground := Go.Ground.phase }, { on := 4, ground := Go.Ground.phase }, { on := 5, ground := Go.Ground.phase }, { on := 6, ground := Go.Ground.phase }, { on := 7, ground := Go.Ground.phase }, { on := 8, ground := Go.Ground.phase }, { on := 9, ground := Go.Ground.phase }, { on := 10, ground := Go.Ground.phase }, { on := 11, ground := Go.Ground.phase }, { on := 12, ground := Go.Ground.phase }, { on := 13, ground := Go.Ground.phase }, { on := 14, ground := Go.Ground.phase }], guard := none } : Oper)) rfl (fun K hK => ?_) AllReadyH.nil
          go_simp
          refine hK.out _ _ hH8 (fun _ => ?_)
          clear hK K
          try simp only [Act.put, List.setIfInBounds_toArray, List.set_cons_zero, List.set_cons_succ]
          refine wpAnyH_done (by kernel_rfl) ?_ _
          go_wp2_with fail
          go_end0
          exact ⟨_, _, _, rfl, HF.out, HREL.out _, HSF.out⟩
        · rw [if_pos (by kernel_rfl)]
          obtain ⟨i1, hi1, hz1, hs1, hy1⟩ := info_En
          refine wp_buildSlice 53 58 1 _ rfl [Value.string qn, .int .i64 qt, .int .i64 out, .slice Ar n cr, .int .i64 now, .int .i64 T].toArray i1 _ Try.underlying53 hi1 hz1 (by rw [hs1]; decide) (by rw [hs1]; decide) (by rw [hs1]; refine (congrArg _ (?_ : _ = [(0, Value.agg [Value.string qn, .int .i64 qt, .int .i64 out, .slice Ar n cr, .int .i64 now, .int .i64 T].toArray)])).trans (fill_6 rfl); rw [Array.toList_map]; rfl) ?_
          have hba : Below w5.heap.size w5 (w5.alloc (.cells [Value.string qn, .int .i64 qt, .int .i64 out, .slice Ar n cr, .int .i64 now, .int .i64 T].toArray 58)) := (Below.refl _ w5).alloc (Nat.le_refl _) _
          have HC6 := Lib.hid (HC5.out.below hba)
          have HO6 := Lib.hid (own_below HO5.out hba)
          have HS6 := Lib.hid (HS5.out.trans (Step.of_below hba HC5.out.hb))
          refine hK.out _ _ ((hba.block W0 (heap_lt hHeld1)).trans hHeld1) (fun hH6 => ?_)
          clear hK K hba
          try simp only [Act.put, List.setIfInBounds_toArray, List.set_cons_zero, List.set_cons_succ]
          refine wpAnyH_ready (rs := [4]) (by kernel_rfl) (by simp) ?_
          refine AllReadyH.cons (o := ({ dst := some 77, op := Go.Op.load 53 (Go.Operand.tmp 76), type := 53, pos := "cache.go:76", after := #[{ on := 3, ground := Go.Ground.data }], guard := none } : Oper)) rfl (fun K hK => ?_) AllReadyH.nil
          have kk := cell_of_row _ C 1 _ _ _ HC6.out.obj
          simp only [List.getElem?_toArray, List.getElem?_cons_succ, List.getElem?_cons_zero] at kk
          go_simp
          refine hK.out _ _ hH6 (fun hH6' => ?_)
          clear hK K
          clear kk
          try simp only [Act.put, List.setIfInBounds_toArray, List.set_cons_zero, List.set_cons_succ]
          refine wpAnyH_ready (rs := [14]) (by kernel_rfl) (by simp) ?_
          refine AllReadyH.cons (o := ({ dst := some 87, op := Go.Op.call { callee := Go.Callee.builtin Go.Builtin.append, args := #[Go.Operand.tmp 77, Go.Operand.tmp 86], argTypes := #[53, 53] }, type := 53, pos := "cache.go:76", after := #[{ on := 4, ground := Go.Ground.data }, { on := 13, ground := Go.Ground.data }, { on := 8, ground := Go.Ground.chain }], guard := none } : Oper)) rfl (fun K hK => ?_) AllReadyH.nil
          rw [if_pos (by kernel_rfl)]
          refine wp_append_own (w := w5.alloc (.cells [Value.string qn, .int .i64 qt, .int .i64 out, .slice Ar n cr, .int .i64 now, .int .i64 T].toArray 58)) (.tmp 77) (.tmp 86) 53 rfl base 58 i1 _ 6 72 Try.underlying53 hi1 hz1 hs1 hy1 rfl (by decide) _ es3.length (flatE es3) rfl HC6.out.own ⟨w5.heap.size, 0, none⟩ 1 1 [Value.string qn, .int .i64 qt, .int .i64 out, .slice Ar n cr, .int .i64 now, .int .i64 T] rfl rfl (fun j u hj => by rw [Addr.add_lit, Nat.zero_add, World.cell?_alloc_mark, List.getElem?_toArray]; exact hj) (fun u hu => by simp only [List.mem_cons, List.not_mem_nil, or_false] at hu; rcases hu with rfl | rfl | rfl | rfl | rfl | rfl <;> rfl) (by unfold maxLen; omega) (by omega) HC6.out.hb ?_
          intro v1 w6 ho6 hg6 _
          obtain ⟨A1, cap1, hv1⟩ := own_sl ho6
          subst hv1
          have hap := HC6.out.app (e := (⟨qn, qt, out, .slice Ar n cr, n, xs, now, T⟩ : En)) ho6 hg6 HO6.out ⟨HN.out, HTB.out, HLX.out.one⟩ hlt3
          have d1 := cell_of_row w6 C 1 _ _ _ hap.2.2.1
          have f1 := frozen_of_row w6 C 1 _ _ hap.2.2.1
          simp only [List.getElem?_toArray, List.getElem?_cons_succ, List.getElem?_cons_zero] at d1
          have HF := Lib.hid hap.1
          have HSF := Lib.hid (HS6.out.trans hap.2.1)
          have hH7 := hap.2.2.2.keep W0 _ hH6' (other_cells (by decide) (by decide))
          have hH8 := hap.2.1.keep W0 _ hH6' (other_cells (by decide) (by decide))
          clear hap ho6 hg6
          refine hK.out _ _ hH7 (fun hH7' => ?_)
          clear hK K
          try simp only [Act.put, List.setIfInBounds_toArray, List.set_cons_zero, List.set_cons_succ]
          refine wpAnyH_take (i := 15) (oi := ({ dst := some 88, op := Go.Op.nilCheck (Go.Operand.tmp 73), type := 0, pos := "cache.go:76", after := #[{ on := 0, ground := Go.Ground.data }, { on := 0, ground := Go.Ground.phase }, { on := 1, ground := Go.Ground.phase }, { on := 2, ground := Go.Ground.phase }, { on := 3, ground := Go.Ground.phase }, { on := 4, ground := Go.Ground.phase }, { on := 5, ground := Go.Ground.phase }, { on := 6, ground := Go.Ground.phase }, { on := 7, ground := Go.Ground.phase }, { on := 8, ground := Go.Ground.phase }, { on := 9, ground := Go.Ground.phase }, { on := 10, ground := Go.Ground.phase }, { on := 11, ground := Go.Ground.phase }, { on := 12, ground := Go.Ground.phase }, { on := 13, ground := Go.Ground.phase }, { on := 14, ground := Go.Ground.phase }], guard := none } : Oper)) (v := .pointer (some ⟨C, 0, none⟩)) rfl (by kernel_rfl) (by kernel_rfl) (by kernel_rfl) (fun _ _ _ h => h) (Or.inl ⟨by rfl, fun w' _ => ?_⟩) hH7' ?_
          · go_simp
          try simp only [Act.put, List.setIfInBounds_toArray, List.set_cons_zero, List.set_cons_succ]
          refine wpAnyH_take (i := 16) (oi := ({ dst := some 89, op := Go.Op.fieldAddr 55 (Go.Operand.tmp 88) 1, type := 0, pos := "cache.go:76", after := #[{ on := 15, ground := Go.Ground.data }, { on := 0, ground := Go.Ground.phase }, { on := 1, ground := Go.Ground.phase }, { on := 2, ground := Go.Ground.phase }, { on := 3, ground := Go.Ground.phase }, { on := 4, ground := Go.Ground.phase }, { on := 5, ground := Go.Ground.phase }, { on := 6, ground := Go.Ground.phase }, { on := 7, ground := Go.Ground.phase }, { on := 8, ground := Go.Ground.phase }, { on := 9, ground := Go.Ground.phase }, { on := 10, ground := Go.Ground.phase }, { on := 11, ground := Go.Ground.phase }, { on := 12, ground := Go.Ground.phase }, { on := 13, ground := Go.Ground.phase }, { on := 14, ground := Go.Ground.phase }], guard := none } : Oper)) (v := .pointer (some ⟨C, 1, none⟩)) rfl (by kernel_rfl) (by kernel_rfl) (by kernel_rfl) (fun _ _ _ h => h) (Or.inl ⟨by rfl, fun w' _ => ?_⟩) hH7' ?_
          · go_simp
          try simp only [Act.put, List.setIfInBounds_toArray, List.set_cons_zero, List.set_cons_succ]
          refine wpAnyH_ready (rs := [17]) (by kernel_rfl) (by simp) ?_
          refine AllReadyH.cons (o := ({ dst := none, op := Go.Op.store 53 (Go.Operand.tmp 89) (Go.Operand.tmp 87), type := 0, pos := "cache.go:76", after := #[{ on := 16, ground := Go.Ground.data }, { on := 14, ground := Go.Ground.data }, { on := 14, ground := Go.Ground.chain }, { on := 0, ground := Go.Ground.phase }, { on := 1, ground := Go.Ground.phase }, { on := 2, ground := Go.Ground.phase }, { on := 3, ground := Go.Ground.phase }, { on := 4, ground := Go.Ground.phase }, { on := 5, ground := Go.Ground.phase }, { on := 6, ground := Go.Ground.phase }, { on := 7, ground := Go.Ground.phase }, { on := 8, ground := Go.Ground.phase }, { on := 9, ground := Go.Ground.phase }, { on := 10, ground := Go.Ground.phase }, { on := 11, ground := Go.Ground.phase }, { on := 12, ground := Go.Ground.phase }, { on := 13, ground := Go.Ground.phase }, { on := 14, ground := Go.Ground.phase }], guard := none } : Oper)) rfl (fun K hK => ?_) AllReadyH.nil
          go_simp
          refine hK.out _ _ hH8 (fun _ => ?_)
          clear hK K
          try simp only [Act.put, List.setIfInBounds_toArray, List.set_cons_zero, List.set_cons_succ]
          refine wpAnyH_done (by kernel_rfl) ?_ _
          go_wp2_with fail
          go_end0
          exact ⟨_, _, _, rfl, HF.out, HREL.out _, HSF.out⟩
end Go.Proofs.Ytiifanenomebeaa
