/- A Put that puts where all are taken: the one that ends first goes. -/
import Derived.Test.YtiifanenomebeaaCacheRunsG
import Derived.Deep.CutRange
import Derived.Deep.CutBlock
import Derived.Deep.LoopGhost
namespace Go.Proofs.Ytiifanenomebeaa
open Go.RowKit Go.Lib
set_option maxRecDepth 100000 in
set_option maxHeartbeats 16000000 in
theorem cacheRuns_yes : cacheRuns_packG.1 := by
  intro s0 n c ls w hn200 s hs7 hsB zz1 w1 hI w2 C base zz2 w3 g7 g6 vv0 u4 u9 u10 u11 u12 u13 vv1 u16 u17 u18 u19 u20 u21 u22 u24 u37 u38 u39 u40 u41 u42 u43 u44 u45 u46 u47 u48 u49 u50 u51 u52 u53 u54 u55 u56 u57 u58 u59 u60 u61 u62 u63 u64 u65 u66 u67 u68 u69 u70 u71 u72 u73 u74 u75 u76 u77 u78 u79 u80 u81 u82 u83 u84 u85 u86 u87 u88 u89 u90 u91 vv2 vv3 vv4 vv5 vv6 vv7 vv8 vv9 vv10 vv11 vv12 vv13 u104 u105 u106 u107 u108 u109 u110 u111 u112 u113 u114 u115 u116 u117 u118 u119 u120 u121 u122 u123 u124 u125 u126 u127 u128 u129 u130 u131 u132 u133 u134 u135 u136 u137 u138 u139 u140 u141 u142 u143 u144 u145 u146 u147 u148 u149 u150 u151 u152 u153 u154 u155 u156 u157 u158 u159 u160 u161 u162 u163 u164 u165 u166 u167 u168 u169 u170 u171 u172 u173 u174 u175 u176 u177 u178 u179 u180 u181 u182 u183 u184 u185 u186 u187 u188 u189 u190 u191 u192 u193 u194 u195 u196 u197 u198 u199 u200 u201 u202 u203 u204 u205 u206 u207 u208 u209 u210 u211 u212 u213 u214 u215 u216 u217 u218 u219 u220 u221 u222 u223 u224 u225 u226 u227 u228 u229 u230 u231 u232 u233 u234 u235 u236 u237 u238 u239 u240 u241 u242 u243 u244 u245 zz4 zz5 k now ps gk2 b o x d j i u now' m qt S HNM h6 hi6 zz8 W4 g10 g9 xa zz12 zz13 zz15 HINV HNB HL16 hb3 hb4 hb5 tr vm0 zz14 htr1 htr2 htrI w5 gr hs0 hs0b w6 ps' vm vv14 w7 H107 fs HP7 Am cm i0 z HI HZ HZC HS HBY HG vv15 vv16 gk wr u15 u92 u93 u94 u95 u96 u97 u98 u99 u100 u101 u102 u103 vv17 vv18 vv19 k2 q Ar cr hqk wq HB hf16 HLq d6 vv20 hkg2 hkT2 hkI2 es HR HQ HPR HEI HP8 H108 HW7 hqs hqsI
  have HPS0 := Lib.hid HPR.out
  have hq1 : 0 < q := by omega
  obtain ⟨gl, cr', hv, _, hgl⟩ := m_form HR.out hq1
  injection hv with hv _ hcc
  subst hv hcc
  have hqcr : q ≤ cr := own_cap HR.out
  have hql : q = es.length := by
    have h1 := HR.out.1
    rw [mC_len] at h1
    omega
  have HQL := Lib.hid hql
  have hq16 : q ≤ 16 := by omega
  have HQS := Lib.hid hqs
  clear hql HPR HQ hqs
  go_wp2_with fail
  go_loopg [110, 16] q (fun gk vi vf wr => ∃ k3 f : Nat, vi = .int .i64 k3 ∧ k3 + gk = q ∧ vf = .int .i64 f ∧ f ≤ k3 ∧ f < q ∧ Hid (SPI es k3 f) ∧ Hid (Below wq.heap.size wq wr))
  case atStart => exact ⟨0, 0, rfl, by omega, rfl, by omega, hq1, Lib.hid (fun j x y hj => absurd hj (Nat.not_lt_zero _)), Lib.hid (Below.refl _ _)⟩
  case round =>
    obtain ⟨k3, f, rfl, hkg3, rfl, hfk, hfq, HI3, HB3⟩ := hrel
    generalize wr = wz at *
    by_cases hkT3 : k3 < q
    · obtain ⟨gj3, rfl⟩ : ∃ g2, gk = g2 + 1 := ⟨gk - 1, by omega⟩
      have hkI3 : (k3 : Int) < (q : Int) := by omega
      have hfI3 : (f : Int) < (q : Int) := by omega
      obtain ⟨u, hu⟩ : ∃ u, es[k3]? = some u := ⟨_, List.getElem?_eq_getElem (by rw [← HQL.out]; exact hkT3)⟩
      obtain ⟨x, hx⟩ : ∃ x, es[f]? = some x := ⟨_, List.getElem?_eq_getElem (by rw [← HQL.out]; exact hfq)⟩
      have hrw := own_below HR.out HB3.out
      have u3 := (m_cells hrw hu).2.2.2.1
      have x3 := (m_cells hrw hx).2.2.2.1
      have HYN : Hid ((finP u < finP x → SPI es (k3 + 1) k3) ∧ (¬ finP u < finP x → SPI es (k3 + 1) f)) := Lib.hid ⟨fun h => HI3.out.yes hu hx h, fun h => HI3.out.no hfk hu hx h⟩
      rw [show u.frm + u.ttl = finP u from rfl] at u3
      rw [show x.frm + x.ttl = finP x from rfl] at x3
      clear hu hx hrw HI3
      generalize finP u = fu at *
      generalize finP x = fx at *
      by_cases hlt : fu < fx
      · have hltI : (fu : Int) < (fx : Int) := by omega
        have HM2 := Lib.hid (HYN.out.1 hlt)
        clear HYN hlt
        go_wp2_with fail
        go_quiet (fail)
        have HB4 := Lib.hid (below_drewR HB3.out nq)
        clear HB3
        generalize wz.drewN nq = wy at *
        go_wp2_with fail
        go_roundg gj3
        case measure => omega
        case rel => exact ⟨k3 + 1, k3, by first | rfl | go_num, by omega, rfl, by omega, hkT3, HM2, HB4⟩
      · have hltI : ¬ (fu : Int) < (fx : Int) := by omega
        have HM2 := Lib.hid (HYN.out.2 hlt)
        clear HYN hlt
        go_wp2_with fail
        go_quiet (fail)
        have HB4 := Lib.hid (below_drewR HB3.out nq)
        clear HB3
        generalize wz.drewN nq = wy at *
        go_wp2_with fail
        go_roundg gj3
        case measure => omega
        case rel => exact ⟨k3 + 1, f, by first | rfl | go_num, by omega, rfl, by omega, hfq, HM2, HB4⟩
    · obtain rfl : k3 = q := by omega
      have hkI3 : ¬ (k3 : Int) < (k3 : Int) := by omega
      obtain ⟨F, hF⟩ : ∃ F : Nat, (f : Int) + 1 = (F : Int) := ⟨f + 1, by omega⟩
      have hFn : F = f + 1 := by omega
      have HPS : Hid (ps' = es.eraseIdx f ++ [⟨S, qt, 1, [recA S qt tr], now', tr⟩]) := Lib.hid (by
        rcases HPS0.out with h | h
        · exact absurd (HQL.out.symm.trans HQS.out) h.1
        · exact h.2 f ⟨by rw [← HQL.out]; exact hfq, fun j a b ha hb => HI3.out j a b (by rw [HQL.out]; exact (List.getElem?_eq_some_iff.1 hb).1) ha hb⟩)
      obtain ⟨o, ho⟩ : ∃ o : Nat, (cr = F ∧ o = 0) ∨ (¬ cr = F ∧ o = F * 5) := by
        by_cases h : cr = F
        · exact ⟨0, .inl ⟨h, rfl⟩⟩
        · exact ⟨F * 5, .inr ⟨h, rfl⟩⟩
      have HEC := Lib.hid (erase_cells (es := es) (f := f) (F := F) (by rw [← HQL.out]; exact hfq) hFn)
      have HFq : Hid (F ≤ k3 ∧ f + (k3 - F) + 1 = k3 ∧ F = f + 1) := Lib.hid (by omega)
      have hFqI : (F : Int) ≤ (k3 : Int) := by omega
      have hfc : (f : Int) ≤ (cr : Int) := by omega
      have hcr0 : ¬ cr = 0 := by omega
      have HBz : Hid (Below w7.heap.size w7 wz) := Lib.hid (HB.out.trans (HB3.out.mono HB.out.size))
      have HRz := Lib.hid (own_below HR.out HB3.out)
      clear HI3 HPS0 hFn HB HB3 HR HP8 H108
      go_wp2_with fail
      refine wp_region_held_drew (S := (fun _ : World => True)) (by kernel_rfl) trivial (fun hHeld => ?_)
      have hbd : Below wz.heap.size wz wz.drew := ⟨rfl, rfl, rfl, Nat.le_refl _, fun _ _ => rfl⟩
      have HBW := Lib.hid (HBz.out.trans (hbd.mono HBz.out.size))
      have HRW := Lib.hid (own_below HRz.out hbd)
      clear hbd HBz HRz
      generalize wz.drew = W at *
      try simp only [Act.put, List.setIfInBounds_toArray, List.set_cons_zero, List.set_cons_succ]
      refine wpAnyH_take (i := 0) (oi := ({ dst := some 126, op := Go.Op.move (Go.Operand.tmp 13), type := 26, pos := "law.go:83", after := #[], guard := none } : Oper)) (v := .slice (some ⟨gl, 0, none⟩) k3 cr) rfl (by kernel_rfl) (by kernel_rfl) (by kernel_rfl) (fun _ _ _ h => h) (Or.inl ⟨by rfl, fun w' _ => ?_⟩) hHeld ?_
      · go_simp
      try simp only [Act.put, List.setIfInBounds_toArray, List.set_cons_zero, List.set_cons_succ]
      refine wpAnyH_take (i := 1) (oi := ({ dst := some 127, op := Go.Op.move (Go.Operand.tmp 16), type := 3, pos := "law.go:83", after := #[], guard := none } : Oper)) (v := .int .i64 f) rfl (by kernel_rfl) (by kernel_rfl) (by kernel_rfl) (fun _ _ _ h => h) (Or.inl ⟨by rfl, fun w' _ => ?_⟩) hHeld ?_
      · go_simp
      try simp only [Act.put, List.setIfInBounds_toArray, List.set_cons_zero, List.set_cons_succ]
      refine wpAnyH_take (i := 2) (oi := ({ dst := some 128, op := Go.Op.slice 26 (Go.Operand.tmp 126) none (some (Go.Operand.tmp 127)) none, type := 26, pos := "law.go:83", after := #[{ on := 0, ground := Go.Ground.data }, { on := 1, ground := Go.Ground.data }], guard := none } : Oper)) (v := .slice (some ⟨gl, 0, none⟩) f cr) rfl (by kernel_rfl) (by kernel_rfl) (by kernel_rfl) (fun _ _ _ h => h) (Or.inl ⟨by rfl, fun w' _ => ?_⟩) hHeld ?_
      · go_simp
      try simp only [Act.put, List.setIfInBounds_toArray, List.set_cons_zero, List.set_cons_succ]
      refine wpAnyH_take (i := 4) (oi := ({ dst := some 130, op := Go.Op.move (Go.Operand.tmp 13), type := 26, pos := "law.go:83", after := #[], guard := none } : Oper)) (v := .slice (some ⟨gl, 0, none⟩) k3 cr) rfl (by kernel_rfl) (by kernel_rfl) (by kernel_rfl) (fun _ _ _ h => h) (Or.inl ⟨by rfl, fun w' _ => ?_⟩) hHeld ?_
      · go_simp
      try simp only [Act.put, List.setIfInBounds_toArray, List.set_cons_zero, List.set_cons_succ]
      refine wpAnyH_take (i := 5) (oi := ({ dst := some 131, op := Go.Op.move (Go.Operand.tmp 16), type := 3, pos := "law.go:83", after := #[], guard := none } : Oper)) (v := .int .i64 f) rfl (by kernel_rfl) (by kernel_rfl) (by kernel_rfl) (fun _ _ _ h => h) (Or.inl ⟨by rfl, fun w' _ => ?_⟩) hHeld ?_
      · go_simp
      try simp only [Act.put, List.setIfInBounds_toArray, List.set_cons_zero, List.set_cons_succ]
      refine wpAnyH_take (i := 6) (oi := ({ dst := some 132, op := Go.Op.binOp Go.BinOp.add 3 (Go.Operand.tmp 131) (Go.Operand.const (Go.Value.int Go.IntKind.i64 1)) 3, type := 3, pos := "law.go:83", after := #[{ on := 5, ground := Go.Ground.data }], guard := none } : Oper)) (v := .int .i64 F) rfl (by kernel_rfl) (by kernel_rfl) (by kernel_rfl) (fun _ _ _ h => h) (Or.inl ⟨by rfl, fun w' _ => ?_⟩) hHeld ?_
      · go_simp
        exact IntWalk.i64_in _ (by have := HFq.out; omega)
      try simp only [Act.put, List.setIfInBounds_toArray, List.set_cons_zero, List.set_cons_succ]
      refine wpAnyH_take (i := 7) (oi := ({ dst := some 133, op := Go.Op.slice 26 (Go.Operand.tmp 130) (some (Go.Operand.tmp 132)) none none, type := 26, pos := "law.go:83", after := #[{ on := 4, ground := Go.Ground.data }, { on := 6, ground := Go.Ground.data }], guard := none } : Oper)) (v := .slice (some ⟨gl, o, none⟩) (k3 - F) (cr - F)) rfl (by kernel_rfl) (by kernel_rfl) (by kernel_rfl) (fun _ _ _ h => h) (Or.inl ⟨by rfl, fun w' _ => ?_⟩) hHeld ?_
      · rcases ho with ⟨h1, rfl⟩ | ⟨h1, rfl⟩ <;> go_simp
      try simp only [Act.put, List.setIfInBounds_toArray, List.set_cons_zero, List.set_cons_succ]
      refine wpAnyH_ready (rs := [3]) (by kernel_rfl) (by simp) ?_
      refine AllReadyH.cons (o := ({ dst := some 129, op := Go.Op.call { callee := Go.Callee.builtin Go.Builtin.append, args := #[Go.Operand.const (Go.Value.slice none 0 0), Go.Operand.tmp 128], argTypes := #[26, 26] }, type := 26, pos := "law.go:83", after := #[{ on := 2, ground := Go.Ground.data }], guard := none } : Oper)) rfl (fun K hK => ?_) AllReadyH.nil
      rw [if_pos (by kernel_rfl)]
      refine wp_append_own (w := W) (.const (.slice none 0 0)) (.tmp 128) 26 rfl w7.heap.size 34 i0 z 5 48 Try.underlying26 HI.out HZ.out HS.out HBY.out HZC.out (by decide) (.slice none 0 0) 0 [] rfl (World.ownsRow_nil _ _ _ _) ⟨gl, 0, none⟩ f cr (mC (es.take f)) rfl HEC.out.1 (fun j u hj => HRW.out.cells (g := gl) rfl j u (HEC.out.2.2.1 j u hj)) (mC_ones _) (by unfold maxLen; omega) (by omega) HBW.out.size ?_
      intro v1 w8 ho1 hg1 _
      obtain ⟨A1, c1, hv1⟩ := own_sl ho1
      subst hv1
      have hb8 : Below W.heap.size W w8 := ⟨hg1.os, hg1.tape, hg1.output, hg1.size, fun k hk => hg1.block k hk (by simp [Value.ownBlock])⟩
      have HO1 := Lib.hid ho1
      have HB8 := Lib.hid (HBW.out.trans (hb8.mono HBW.out.size))
      have HR8 := Lib.hid (own_below HRW.out hb8)
      clear ho1 hg1 hb8
      refine hK.out _ _ trivial (fun _ => ?_)
      clear hK K
      try simp only [Act.put, List.setIfInBounds_toArray, List.set_cons_zero, List.set_cons_succ]
      refine wpAnyH_ready (rs := [8]) (by kernel_rfl) (by simp) ?_
      refine AllReadyH.cons (o := ({ dst := some 134, op := Go.Op.call { callee := Go.Callee.builtin Go.Builtin.append, args := #[Go.Operand.tmp 129, Go.Operand.tmp 133], argTypes := #[26, 26] }, type := 26, pos := "law.go:83", after := #[{ on := 3, ground := Go.Ground.data }, { on := 7, ground := Go.Ground.data }, { on := 3, ground := Go.Ground.chain }], guard := none } : Oper)) rfl (fun K hK => ?_) AllReadyH.nil
      rw [if_pos (by kernel_rfl)]
      refine wp_append_own (w := w8) (.tmp 129) (.tmp 133) 26 rfl w7.heap.size 34 i0 z 5 48 Try.underlying26 HI.out HZ.out HS.out HBY.out HZC.out (by decide) (.slice A1 (0 + f) c1) (0 + f) ([] ++ mC (es.take f)) rfl HO1.out ⟨gl, o, none⟩ (k3 - F) (cr - F) (mC (es.drop F)) rfl (by rw [HQL.out]; exact HEC.out.2.1) (fun j u hj => ?_) (mC_ones _) (by have := HFq.out; unfold maxLen; omega) (by have := HFq.out; omega) HB8.out.size ?_
      · rcases ho with ⟨h1, h2⟩ | ⟨h1, h2⟩
        · exfalso
          have h3 := HFq.out
          have h4 := HEC.out.2.1
          have h5 := (List.getElem?_eq_some_iff.1 hj).1
          have h6 := HQL.out
          omega
        · rw [h2, Addr.add_lit]
          have := HR8.out.cells (g := gl) rfl (F * 5 + j) u (HEC.out.2.2.2.1 j u hj)
          rwa [Addr.add_lit, Nat.zero_add] at this
      intro v2 w9 ho2 hg2 _
      obtain ⟨A2, c2, hv2⟩ := own_sl ho2
      subst hv2
      have HO2 : Hid (w9.ownsRow w7.heap.size 34 5 (.slice A2 (0 + f + (k3 - F)) c2) (0 + f + (k3 - F)) (mC (es.eraseIdx f))) := Lib.hid (by rw [← HEC.out.2.2.2.2]; rw [List.nil_append] at ho2; exact ho2)
      have HB9 := Lib.hid (HB8.out.grown hg2 HB8.out.size (fun k e => (HO1.out.lt k e).1))
      clear ho2 hg2
      refine hK.out _ _ trivial (fun _ => ?_)
      clear hK K
      try simp only [Act.put, List.setIfInBounds_toArray, List.set_cons_zero, List.set_cons_succ]
      refine wpAnyH_take (i := 9) (oi := ({ dst := some 13, op := Go.Op.assign (Go.Operand.tmp 134), type := 26, pos := "law.go:83", after := #[{ on := 8, ground := Go.Ground.data }, { on := 8, ground := Go.Ground.chain }, { on := 0, ground := Go.Ground.phase }, { on := 1, ground := Go.Ground.phase }, { on := 2, ground := Go.Ground.phase }, { on := 3, ground := Go.Ground.phase }, { on := 4, ground := Go.Ground.phase }, { on := 5, ground := Go.Ground.phase }, { on := 6, ground := Go.Ground.phase }, { on := 7, ground := Go.Ground.phase }, { on := 8, ground := Go.Ground.phase }], guard := none } : Oper)) (v := .slice A2 (0 + f + (k3 - F)) c2) rfl (by kernel_rfl) (by kernel_rfl) (by kernel_rfl) (fun _ _ _ h => h) (Or.inl ⟨by rfl, fun w' _ => ?_⟩) hHeld ?_
      · go_simp
      try simp only [Act.put, List.setIfInBounds_toArray, List.set_cons_zero, List.set_cons_succ]
      refine wpAnyH_done (by kernel_rfl) ?_ _
      have HP9q := Lib.hid (HP7.out.step HB9.out)
      have H109 := Lib.hid ((HB9.out.block g10 (heap_lt H107.out)).trans H107.out)
      obtain ⟨q9, hq9⟩ : ∃ q9, q9 = 0 + f + (k3 - F) := ⟨_, rfl⟩
      rw [← hq9] at HO2 ⊢
      have hq916 : q9 ≤ 16 := by have := HFq.out; omega
      clear hq9 ho HEC HFq HR8 HRW HO1 HB8 HBW
      have HEI9 : Hid (RInv now' (es.eraseIdx f) ∧ ∀ a ∈ es.eraseIdx f, isP S qt a = false) := Lib.hid ⟨HEI.out.1.eraseIdx f, fun a ha => HEI.out.2 a (List.mem_of_mem_eraseIdx ha)⟩
      generalize es.eraseIdx f = es9 at *
      obtain ⟨U, hU⟩ : ∃ U : Nat, (now' : Int) + (tr : Int) = (U : Int) := ⟨now' + tr, by omega⟩
      have hUn : now' + tr = U := by omega
      have hUb : U ≤ 1099511628000 := by have := HNB.out; unfold big at this; omega
      have hwU : wrap64 (U : Int) = (U : Int) := by unfold wrap64; omega
      have HE : Hid (mE (⟨S, qt, 1, [recA S qt tr], now', tr⟩ : PE) = [.string S, .int .i64 qt, .int .i64 tr, .int .i64 U, .int .i64 now']) := Lib.hid (by unfold mE; simp only; rw [hUn])
      have hbc : Below w9.heap.size w9 (w9.alloc (.cells #[.string S, .int .i64 qt, .int .i64 tr, .int .i64 U, .int .i64 now'] 34)) := (Below.refl _ w9).alloc (Nat.le_refl _) _
      have hg2 := heap_alloc_last w9 (.cells #[.string S, .int .i64 qt, .int .i64 tr, .int .i64 U, .int .i64 now'] 34)
      have HR2 := Lib.hid (own_below HO2.out hbc)
      have HP9 := Lib.hid (HP9q.out.step hbc)
      have hsb : w7.heap.size ≤ (w9.alloc (.cells #[.string S, .int .i64 qt, .int .i64 tr, .int .i64 U, .int .i64 now'] 34)).heap.size := by have h1 := HB9.out.size; have h2 := hbc.size; omega
      have HCL : Hid (∀ (j : Nat) (u : Value), ([.string S, .int .i64 qt, .int .i64 tr, .int .i64 U, .int .i64 now'] : List Value)[j]? = some u → (w9.alloc (.cells #[.string S, .int .i64 qt, .int .i64 tr, .int .i64 U, .int .i64 now'] 34)).cell? ((⟨w9.heap.size, 0, none⟩ : Addr).add j) = some u) := Lib.hid (fun j u hj => by
        rw [Addr.add_lit, Nat.zero_add, cell_of_row _ w9.heap.size j _ _ _ hg2]; simpa using hj)
      have H1 : Hid (∀ u ∈ ([.string S, .int .i64 qt, .int .i64 tr, .int .i64 U, .int .i64 now'] : List Value), u.oneCell' = true) := Lib.hid (fun u hu => by
        simp only [List.mem_cons, List.not_mem_nil, or_false] at hu
        rcases hu with rfl | rfl | rfl | rfl | rfl <;> rfl)
      have HLn : Hid (([.string S, .int .i64 qt, .int .i64 tr, .int .i64 U, .int .i64 now'] : List Value).length = 1 * 5) := Lib.hid rfl
      have c7 := cell_of_row _ g7 0 _ _ _ HP9q.out.clk
      have q0 := cell_of_row _ g10 0 _ _ _ H109.out
      have q1 := cell_of_row _ g10 1 _ _ _ H109.out
      simp only [List.getElem?_toArray, List.getElem?_cons_succ, List.getElem?_cons_zero] at c7 q0 q1
      have HSB := Lib.hid hsb
      clear hUn hbc hg2 hsb
      go_wp2_with (first
        | (at_builtin; refine wpList_append_own (w := w9.alloc (.cells #[.string S, .int .i64 qt, .int .i64 tr, .int .i64 U, .int .i64 now'] 34)) rfl (.tmp 135) (.tmp 143) 26 rfl w7.heap.size 34 i0 z 5 48 Try.underlying26 HI.out HZ.out HS.out HBY.out HZC.out (by decide) (.slice A2 q9 c2) q9 (mC es9) rfl HR2.out ⟨w9.heap.size, 0, none⟩ 1 1 [.string S, .int .i64 qt, .int .i64 tr, .int .i64 U, .int .i64 now'] rfl HLn.out HCL.out H1.out (by unfold maxLen; omega) (by omega) HSB.out ?_; intro v1 w10 ho1 hg1 hnil; clear hnil; obtain ⟨A1, c1, rfl⟩ := own_sl ho1; have HFIN := Lib.hid (fin_store HP9.out HW7.out HR2.out ho1 hg1 HE.out HPS.out); obtain ⟨v06, h6c⟩ := HFIN.out.2; have b6c := cell_of_row _ g6 0 _ _ _ h6c; have b6f := frozen_of_row _ g6 0 _ _ h6c; simp only [List.getElem?_toArray, List.getElem?_cons_zero] at b6c; clear ho1 hg1 h6c; go_simp))
      go_meet
      case rel => exact ⟨_, Lib.hid (HFIN.out.1.ra (by rw [HPS.out]; exact HEI9.out.1.snoc ⟨rfl, rfl, Nat.le_refl _, htr1, htr2⟩ HEI9.out.2))⟩
end Go.Proofs.Ytiifanenomebeaa
