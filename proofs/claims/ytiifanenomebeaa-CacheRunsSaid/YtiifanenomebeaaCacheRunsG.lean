/- A Put that puts: what counts no more goes, what is put goes to the end. -/
import Derived.Test.YtiifanenomebeaaCacheRunsF
import Derived.Deep.CutRange
import Derived.Deep.CutBlock
import Derived.Deep.LoopGhost
namespace Go.Proofs.Ytiifanenomebeaa
open Go.RowKit Go.Lib
set_option maxRecDepth 100000 in
set_option maxHeartbeats 16000000 in
noncomputable def cacheRuns_packG : (p0 : Prop) ×' (Hid p0 → cacheRuns_packF.1) := ⟨_, by
  intro HYES
  intro s0 n c ls w hn200 s hs7 hsB zz1 w1 hI w2 C base zz2 w3 g7 g6 wr u4 u9 u10 u11 u12 u13 u15 u16 u17 u18 u19 u20 u21 u22 u24 u37 u38 u39 u40 u41 u42 u43 u44 u45 u46 u47 u48 u49 u50 u51 u52 u53 u54 u55 u56 u57 u58 u59 u60 u61 u62 u63 u64 u65 u66 u67 u68 u69 u70 u71 u72 u73 u74 u75 u76 u77 u78 u79 u80 u81 u82 u83 u84 u85 u86 u87 u88 u89 u90 u91 u92 u93 u94 u95 u96 u97 u98 u99 u100 u101 u102 u103 u104 u105 u106 u107 u108 u109 u110 u111 u112 u113 u114 u115 u116 u117 u118 u119 u120 u121 u122 u123 u124 u125 u126 u127 u128 u129 u130 u131 u132 u133 u134 u135 u136 u137 u138 u139 u140 u141 u142 u143 u144 u145 u146 u147 u148 u149 u150 u151 u152 u153 u154 u155 u156 u157 u158 u159 u160 u161 u162 u163 u164 u165 u166 u167 u168 u169 u170 u171 u172 u173 u174 u175 u176 u177 u178 u179 u180 u181 u182 u183 u184 u185 u186 u187 u188 u189 u190 u191 u192 u193 u194 u195 u196 u197 u198 u199 u200 u201 u202 u203 u204 u205 u206 u207 u208 u209 u210 u211 u212 u213 u214 u215 u216 u217 u218 u219 u220 u221 u222 u223 u224 u225 u226 u227 u228 u229 u230 u231 u232 u233 u234 u235 u236 u237 u238 u239 u240 u241 u242 u243 u244 u245 zz4 zz5 k now ps gk2 b o x d j i u now' m qt S HNM h6 hi6 zz8 W4 g10 g9 xa zz12 zz13 zz15 HINV HNB HL16 hb3 hb4 hb5 tr HRK vm0 zz14 htr1 htr2 htrI yy0 yy1 yy2 yy3 w5 HP5 H105 gr HRI hs0 hs0b w6 ps' hc6 hr6 hs6
  have HPR := Lib.hid (put_runs HINV.out hr6)
  have HP6 := Lib.hid (HP5.out.cache hc6 hs6)
  have H106 := Lib.hid (hs6.keep g10 _ H105.out (other_cells (by decide) (by decide)))
  obtain ⟨vm, h66, hr6r⟩ := HP6.out.row
  have HLv := Lib.hid (live_e w6 base g6 g7 now' ps vm h66 HP6.out.clk hr6r HL16.out)
  have H66 := Lib.hid h66
  clear hc6 hs6 hr6 h66 hr6r HP5 H105 HRI HRK
  go_wp2_with fail
  refine HLv.out.mono ?_
  rintro e w7 hlp
  obtain ⟨rfl, hp7, hg7⟩ := HP6.out.live hlp
  have H107 := Lib.hid ((hg7.block g10 (heap_lt H106.out) (fun e => ne_types H106.out H66.out (by decide) (by injection e))).trans H106.out)
  have HP7 := Lib.hid hp7
  clear hlp hp7 hg7 HLv HP6 H106 H66
  obtain ⟨fs, hfs⟩ : ∃ fs, fs = ps.filter (cntP now') := ⟨_, rfl⟩
  rw [← hfs] at HP7 HPR
  have HFI : Hid (RInv now' fs) := Lib.hid (by rw [hfs]; exact HINV.out.filter _)
  obtain ⟨L, hL⟩ : ∃ L, L = fs.length := ⟨_, rfl⟩
  have hf16 : L ≤ 16 := by
    have := List.length_filter_le (cntP now') ps
    have := HL16.out
    rw [hL, hfs]; omega
  obtain ⟨v7, h67, hr7⟩ := HP7.out.row
  rw [← hL] at hr7
  obtain ⟨Am, cm, rfl⟩ := own_sl hr7
  have HROW := Lib.hid hr7
  have HLq := Lib.hid hL
  have d6 := cell_of_row _ g6 0 _ _ _ h67
  simp only [List.getElem?_toArray, List.getElem?_cons_zero] at d6
  obtain ⟨i0, z, hi, hz, hzc, hs, hb⟩ := info_mE
  have HI := Lib.hid hi
  have HZ := Lib.hid hz
  have HZC := Lib.hid hzc
  have HS := Lib.hid hs
  have HBY := Lib.hid hb
  have HG : Hid (Try.prog.eqGuardType Try.prog.depth 32 = false) := Lib.hid (by kernel_rfl)
  clear hi hz hzc hs hb hfs hL hr7 h67
  go_wp2_with fail
  go_loopg [91, 13] L (fun gk vi v wr => ∃ (k2 q : Nat) (Ar : Option Addr) (cr : Nat), vi = .int .i64 k2 ∧ k2 + gk = L ∧ v = .slice Ar q cr ∧ q ≤ k2 ∧ Hid (q = ((fs.take k2).filter (nQ S qt)).length) ∧ Hid (wr.ownsRow w7.heap.size 34 5 (.slice Ar q cr) q (mC ((fs.take k2).filter (nQ S qt)))) ∧ Hid (Below w7.heap.size w7 wr))
  case atStart => exact ⟨0, 0, none, 0, rfl, by omega, rfl, by omega, Lib.hid rfl, Lib.hid (World.ownsRow_nil _ _ _ _), Lib.hid (Below.refl _ _)⟩
  case round =>
    obtain ⟨k2, q, Ar, cr, rfl, hkg2, rfl, hqk, HQ, HR, HB⟩ := hrel
    generalize wr = wq at *
    by_cases hkT2 : k2 < L
    · obtain ⟨gj2, rfl⟩ : ∃ g2, gk = g2 + 1 := ⟨gk - 1, by omega⟩
      have hkI2 : (k2 : Int) < (L : Int) := by omega
      obtain ⟨p, hp⟩ : ∃ p, fs[k2]? = some p := ⟨_, List.getElem?_eq_getElem (by rw [← HLq.out]; exact hkT2)⟩
      obtain ⟨gm, cm', hv, _, hgl⟩ := m_form HROW.out (by omega)
      injection hv with hv _ hcc
      subst hv hcc
      have hrw := own_below HROW.out HB.out
      obtain ⟨c0, c1, c2, c3, c4⟩ := m_cells hrw hp
      have htk : fs.take (k2 + 1) = fs.take k2 ++ [p] := by rw [List.take_add_one, hp]; rfl
      obtain ⟨U, hU⟩ : ∃ U, p.frm + p.ttl = U := ⟨_, rfl⟩
      have hE : mE p = [.string p.nm, .int .i64 p.ty, .int .i64 p.ttl, .int .i64 U, .int .i64 p.frm] := by unfold mE; rw [← hU]
      rw [hU] at c3
      have HP1 : Hid (mC [p] = mE p) := Lib.hid (mC_one p)
      rw [hE] at HP1
      have hc0 : nQ S qt p = !decide (p.nm = S ∧ p.ty = (qt : Int)) := rfl
      have HFP : Hid (∀ l, (l ++ [p]).filter (nQ S qt) = l.filter (nQ S qt) ++ if p.nm = S ∧ p.ty = (qt : Int) then [] else [p]) := Lib.hid (fun l => by
        rw [List.filter_append]
        by_cases h : p.nm = S ∧ p.ty = (qt : Int)
        · have h2 : [p].filter (nQ S qt) = [] := List.filter_eq_nil_iff.2 (fun a ha => by rw [List.mem_singleton.1 ha, hc0, decide_eq_true h]; simp)
          rw [if_pos h, h2]
        · have h2 : [p].filter (nQ S qt) = [p] := List.filter_eq_self.2 (fun a ha => by rw [List.mem_singleton.1 ha, hc0, decide_eq_false h]; rfl)
          rw [if_neg h, h2])
      have HTK := Lib.hid htk
      have HEQ := Lib.hid (fun W => eqQ p.nm S p.ty qt W)
      clear hU hE hc0 htk hp hrw
      generalize p.nm = nm at *
      generalize p.ty = ty at *
      generalize p.ttl = ttl at *
      generalize p.frm = frm at *
      have hbc : Below wq.heap.size wq (wq.alloc (.cells #[.string nm, .int .i64 ty, .int .i64 ttl, .int .i64 U, .int .i64 frm] 34)) := (Below.refl _ wq).alloc (Nat.le_refl _) _
      have hsz : (wq.alloc (.cells #[.string nm, .int .i64 ty, .int .i64 ttl, .int .i64 U, .int .i64 frm] 34)).heap.size = wq.heap.size + 1 := World.size_alloc _ _
      have h10w := (hbc.block g10 (by have := heap_lt H107.out; have := HB.out.size; omega)).trans ((HB.out.block g10 (heap_lt H107.out)).trans H107.out)
      have q0 := cell_of_row _ g10 0 _ _ _ h10w
      have q1 := cell_of_row _ g10 1 _ _ _ h10w
      simp only [List.getElem?_toArray, List.getElem?_cons_succ, List.getElem?_cons_zero] at q0 q1
      by_cases hsm : nm = S ∧ ty = (qt : Int)
      · have HEQ2 : Hid (∀ W, (Op.equalIn 10000 32 (.agg #[.string nm, .int .i64 ty]) (.agg #[.string S, .int .i64 qt])).run Try.prog W = .ok true W) := Lib.hid (fun W => by rw [HEQ.out, decide_eq_true hsm])
        have HF : Hid ((fs.take (k2 + 1)).filter (nQ S qt) = (fs.take k2).filter (nQ S qt)) := Lib.hid (by rw [HTK.out, HFP.out, if_pos hsm, List.append_nil])
        have HR2 : Hid ((wq.alloc (.cells #[.string nm, .int .i64 ty, .int .i64 ttl, .int .i64 U, .int .i64 frm] 34)).ownsRow w7.heap.size 34 5 (.slice Ar q cr) q (mC ((fs.take (k2 + 1)).filter (nQ S qt)))) := Lib.hid (by rw [HF.out]; exact own_below HR.out hbc)
        have HQ1 : Hid (q = ((fs.take (k2 + 1)).filter (nQ S qt)).length) := Lib.hid (by rw [HF.out]; exact HQ.out)
        have HB2 := Lib.hid (HB.out.trans (hbc.mono HB.out.size))
        clear hgl hsm hbc hsz h10w HF HQ HR HB HFP HP1 HEQ HTK
        go_wp2_with (first
          | (refine wpList_neq_agg rfl 32 (.tmp 96) (.tmp 97) 32 rfl #[.string nm, .int .i64 ty] #[.string S, .int .i64 qt] true rfl rfl HG.out (HEQ2.out _) ?_; go_simp))
        go_roundg gj2
        case measure => omega
        case rel => exact ⟨k2 + 1, q, Ar, cr, by first | rfl | go_num, by omega, rfl, by omega, HQ1, HR2, HB2⟩
      · have HEQ2 : Hid (∀ W, (Op.equalIn 10000 32 (.agg #[.string nm, .int .i64 ty]) (.agg #[.string S, .int .i64 qt])).run Try.prog W = .ok false W) := Lib.hid (fun W => by rw [HEQ.out, decide_eq_false hsm])
        have HF : Hid ((fs.take (k2 + 1)).filter (nQ S qt) = (fs.take k2).filter (nQ S qt) ++ [p]) := Lib.hid (by rw [HTK.out, HFP.out, if_neg hsm])
        have hbd : Below wq.heap.size wq ((wq.alloc (.cells #[.string nm, .int .i64 ty, .int .i64 ttl, .int .i64 U, .int .i64 frm] 34)).alloc (.cells #[.string nm, .int .i64 ty, .int .i64 ttl, .int .i64 U, .int .i64 frm] 34)) := hbc.alloc (by rw [hsz]; omega) _
        have HR2 := Lib.hid (own_below HR.out hbd)
        have HB2 := Lib.hid (HB.out.trans (hbd.mono HB.out.size))
        have hg2 := heap_alloc_last (wq.alloc (.cells #[.string nm, .int .i64 ty, .int .i64 ttl, .int .i64 U, .int .i64 frm] 34)) (.cells #[.string nm, .int .i64 ty, .int .i64 ttl, .int .i64 U, .int .i64 frm] 34)
        rw [hsz] at hg2
        have HCL : Hid (∀ (j : Nat) (u : Value), ([.string nm, .int .i64 ty, .int .i64 ttl, .int .i64 U, .int .i64 frm] : List Value)[j]? = some u → ((wq.alloc (.cells #[.string nm, .int .i64 ty, .int .i64 ttl, .int .i64 U, .int .i64 frm] 34)).alloc (.cells #[.string nm, .int .i64 ty, .int .i64 ttl, .int .i64 U, .int .i64 frm] 34)).cell? ((⟨wq.heap.size + 1, 0, none⟩ : Addr).add j) = some u) := Lib.hid (fun j u hj => by
          rw [Addr.add_lit, Nat.zero_add, cell_of_row _ (wq.heap.size + 1) j _ _ _ hg2]; simpa using hj)
        have H1 : Hid (∀ u ∈ ([.string nm, .int .i64 ty, .int .i64 ttl, .int .i64 U, .int .i64 frm] : List Value), u.oneCell' = true) := Lib.hid (fun u hu => by
          simp only [List.mem_cons, List.not_mem_nil, or_false] at hu
          rcases hu with rfl | rfl | rfl | rfl | rfl <;> rfl)
        have HQ1 : Hid (q + 1 = ((fs.take (k2 + 1)).filter (nQ S qt)).length) := Lib.hid (by rw [HF.out, List.length_append, ← HQ.out]; rfl)
        have HM : Hid (mC ((fs.take (k2 + 1)).filter (nQ S qt)) = mC ((fs.take k2).filter (nQ S qt)) ++ [.string nm, .int .i64 ty, .int .i64 ttl, .int .i64 U, .int .i64 frm]) := Lib.hid (by rw [HF.out, mC_append, HP1.out])
        have HLn : Hid (([.string nm, .int .i64 ty, .int .i64 ttl, .int .i64 U, .int .i64 frm] : List Value).length = 1 * 5) := Lib.hid rfl
        clear hgl hsm hbc hbd hg2 hsz h10w HF HQ HR HB HFP HP1 HEQ HTK
        generalize mC ((fs.take k2).filter (nQ S qt)) = xs at HR2 HM
        go_wp2_with (first
          | (refine wpList_neq_agg rfl 32 (.tmp 96) (.tmp 97) 32 rfl #[.string nm, .int .i64 ty] #[.string S, .int .i64 qt] false rfl rfl HG.out (HEQ2.out _) ?_; go_simp)
          | (at_builtin; refine wpList_append_own (w := (wq.alloc (.cells #[.string nm, .int .i64 ty, .int .i64 ttl, .int .i64 U, .int .i64 frm] 34)).alloc (.cells #[.string nm, .int .i64 ty, .int .i64 ttl, .int .i64 U, .int .i64 frm] 34)) rfl (.tmp 99) (.tmp 101) 26 rfl w7.heap.size 34 i0 z 5 48 Try.underlying26 HI.out HZ.out HS.out HBY.out HZC.out (by decide) (.slice Ar q cr) q xs rfl HR2.out ⟨wq.heap.size + 1, 0, none⟩ 1 1 [.string nm, .int .i64 ty, .int .i64 ttl, .int .i64 U, .int .i64 frm] rfl HLn.out HCL.out H1.out (by unfold maxLen; omega) (by omega) HB2.out.size ?_; intro v1 w6 ho1 hg1 hnil; clear hnil; obtain ⟨A1, c1, rfl⟩ := own_sl ho1; rw [← HM.out] at ho1; have HO1 := Lib.hid ho1; have HB6 := Lib.hid (HB2.out.grown hg1 HB2.out.size (fun j e => (HR2.out.lt j e).1)); clear ho1 hg1; go_simp))
        go_roundg gj2
        case measure => omega
        case rel => exact ⟨k2 + 1, q + 1, A1, c1, by first | rfl | go_num, by omega, by first | rfl | go_num, by omega, HQ1, HO1, HB6⟩
    · obtain rfl : k2 = L := by omega
      have hkI2 : ¬ (k2 : Int) < (k2 : Int) := by omega
      have htk : fs.take k2 = fs := List.take_of_length_le (by rw [HLq.out]; exact Nat.le_refl _)
      rw [htk] at HQ HR
      obtain ⟨es, hes⟩ : ∃ es, es = fs.filter (nQ S qt) := ⟨_, rfl⟩
      have HEI : Hid (RInv now' es ∧ ∀ a ∈ es, isP S qt a = false) := Lib.hid ⟨by rw [hes]; exact HFI.out.filter _, fun a ha => nQ_mem (by rw [hes] at ha; exact ha)⟩
      rw [show (fs.filter (nQ (⟨S, qt, 1, [recA S qt tr], now', tr⟩ : PE).nm (⟨S, qt, 1, [recA S qt tr], now', tr⟩ : PE).ty)) = es from hes.symm] at HPR
      rw [← hes] at HQ HR
      have HP8 := Lib.hid (HP7.out.step HB.out)
      have H108 := Lib.hid ((HB.out.block g10 (heap_lt H107.out)).trans H107.out)
      have HW7 : Hid (base ≤ w7.heap.size) := Lib.hid HP7.out.cm.hb
      clear htk hes HROW HFI
      by_cases hqs : q = s
      · have hqsI : ((q : Int) == (s : Int)) = true := by simp; omega
        rename_i vv0 vv1 vv2 vv3 vv4 vv5 vv6 vv7 vv8 vv9 vv10 vv11 vv12 vv13 vv14 vv15 vv16 vv17 vv18 vv19 vv20
        revert s0 n c ls w hn200 s hs7 hsB zz1 w1 hI w2 C base zz2 w3 g7 g6 vv0 u4 u9 u10 u11 u12 u13 vv1 u16 u17 u18 u19 u20 u21 u22 u24 u37 u38 u39 u40 u41 u42 u43 u44 u45 u46 u47 u48 u49 u50 u51 u52 u53 u54 u55 u56 u57 u58 u59 u60 u61 u62 u63 u64 u65 u66 u67 u68 u69 u70 u71 u72 u73 u74 u75 u76 u77 u78 u79 u80 u81 u82 u83 u84 u85 u86 u87 u88 u89 u90 u91 vv2 vv3 vv4 vv5 vv6 vv7 vv8 vv9 vv10 vv11 vv12 vv13 u104 u105 u106 u107 u108 u109 u110 u111 u112 u113 u114 u115 u116 u117 u118 u119 u120 u121 u122 u123 u124 u125 u126 u127 u128 u129 u130 u131 u132 u133 u134 u135 u136 u137 u138 u139 u140 u141 u142 u143 u144 u145 u146 u147 u148 u149 u150 u151 u152 u153 u154 u155 u156 u157 u158 u159 u160 u161 u162 u163 u164 u165 u166 u167 u168 u169 u170 u171 u172 u173 u174 u175 u176 u177 u178 u179 u180 u181 u182 u183 u184 u185 u186 u187 u188 u189 u190 u191 u192 u193 u194 u195 u196 u197 u198 u199 u200 u201 u202 u203 u204 u205 u206 u207 u208 u209 u210 u211 u212 u213 u214 u215 u216 u217 u218 u219 u220 u221 u222 u223 u224 u225 u226 u227 u228 u229 u230 u231 u232 u233 u234 u235 u236 u237 u238 u239 u240 u241 u242 u243 u244 u245 zz4 zz5 k now ps gk2 b o x d j i u now' m qt S HNM h6 hi6 zz8 W4 g10 g9 xa zz12 zz13 zz15 HINV HNB HL16 hb3 hb4 hb5 tr vm0 zz14 htr1 htr2 htrI w5 gr hs0 hs0b w6 ps' vm vv14 w7 H107 fs HP7 Am cm i0 z HI HZ HZC HS HBY HG vv15 vv16 gk wr u15 u92 u93 u94 u95 u96 u97 u98 u99 u100 u101 u102 u103 vv17 vv18 vv19 k2 q Ar cr hqk wq HB hf16 HLq d6 vv20 hkg2 hkT2 hkI2 es HR HQ HPR HEI HP8 H108 HW7 hqs hqsI
        exact HYES.out
      · have hqsI : ((q : Int) == (s : Int)) = false := by simp; omega
        have HPS : Hid (ps' = es ++ [⟨S, qt, 1, [recA S qt tr], now', tr⟩]) := Lib.hid (by
          rcases HPR.out with h | h
          · exact h.2
          · exact absurd (HQ.out.trans h.1) hqs)
        have hq16 : q ≤ 16 := by omega
        clear hqs HPR
        obtain ⟨U, hU⟩ : ∃ U : Nat, (now' : Int) + (tr : Int) = (U : Int) := ⟨now' + tr, by omega⟩
        have hUn : now' + tr = U := by omega
        have hUb : U ≤ 1099511628000 := by have := HNB.out; unfold big at this; omega
        have hwU : wrap64 (U : Int) = (U : Int) := by unfold wrap64; omega
        have HE : Hid (mE (⟨S, qt, 1, [recA S qt tr], now', tr⟩ : PE) = [.string S, .int .i64 qt, .int .i64 tr, .int .i64 U, .int .i64 now']) := Lib.hid (by unfold mE; simp only; rw [hUn])
        have hbc : Below wq.heap.size wq (wq.alloc (.cells #[.string S, .int .i64 qt, .int .i64 tr, .int .i64 U, .int .i64 now'] 34)) := (Below.refl _ wq).alloc (Nat.le_refl _) _
        have hg2 := heap_alloc_last wq (.cells #[.string S, .int .i64 qt, .int .i64 tr, .int .i64 U, .int .i64 now'] 34)
        have HR2 := Lib.hid (own_below HR.out hbc)
        have HP9 := Lib.hid (HP8.out.step hbc)
        have hsb : w7.heap.size ≤ (wq.alloc (.cells #[.string S, .int .i64 qt, .int .i64 tr, .int .i64 U, .int .i64 now'] 34)).heap.size := by have h1 := HB.out.size; have h2 := hbc.size; omega
        have HCL : Hid (∀ (j : Nat) (u : Value), ([.string S, .int .i64 qt, .int .i64 tr, .int .i64 U, .int .i64 now'] : List Value)[j]? = some u → (wq.alloc (.cells #[.string S, .int .i64 qt, .int .i64 tr, .int .i64 U, .int .i64 now'] 34)).cell? ((⟨wq.heap.size, 0, none⟩ : Addr).add j) = some u) := Lib.hid (fun j u hj => by
          rw [Addr.add_lit, Nat.zero_add, cell_of_row _ wq.heap.size j _ _ _ hg2]; simpa using hj)
        have H1 : Hid (∀ u ∈ ([.string S, .int .i64 qt, .int .i64 tr, .int .i64 U, .int .i64 now'] : List Value), u.oneCell' = true) := Lib.hid (fun u hu => by
          simp only [List.mem_cons, List.not_mem_nil, or_false] at hu
          rcases hu with rfl | rfl | rfl | rfl | rfl <;> rfl)
        have HLn : Hid (([.string S, .int .i64 qt, .int .i64 tr, .int .i64 U, .int .i64 now'] : List Value).length = 1 * 5) := Lib.hid rfl
        have c7 := cell_of_row _ g7 0 _ _ _ HP8.out.clk
        have q0 := cell_of_row _ g10 0 _ _ _ H108.out
        have q1 := cell_of_row _ g10 1 _ _ _ H108.out
        simp only [List.getElem?_toArray, List.getElem?_cons_succ, List.getElem?_cons_zero] at c7 q0 q1
        have HSB := Lib.hid hsb
        clear hUn hbc hg2 hsb
        go_wp2_with (first
          | (at_builtin; refine wpList_append_own (w := wq.alloc (.cells #[.string S, .int .i64 qt, .int .i64 tr, .int .i64 U, .int .i64 now'] 34)) rfl (.tmp 135) (.tmp 143) 26 rfl w7.heap.size 34 i0 z 5 48 Try.underlying26 HI.out HZ.out HS.out HBY.out HZC.out (by decide) (.slice Ar q cr) q (mC es) rfl HR2.out ⟨wq.heap.size, 0, none⟩ 1 1 [.string S, .int .i64 qt, .int .i64 tr, .int .i64 U, .int .i64 now'] rfl HLn.out HCL.out H1.out (by unfold maxLen; omega) (by omega) HSB.out ?_; intro v1 w10 ho1 hg1 hnil; clear hnil; obtain ⟨A1, c1, rfl⟩ := own_sl ho1; have HFIN := Lib.hid (fin_store HP9.out HW7.out HR2.out ho1 hg1 HE.out HPS.out); obtain ⟨v06, h6c⟩ := HFIN.out.2; have b6c := cell_of_row _ g6 0 _ _ _ h6c; have b6f := frozen_of_row _ g6 0 _ _ h6c; simp only [List.getElem?_toArray, List.getElem?_cons_zero] at b6c; clear ho1 hg1 h6c; go_simp))
        go_meet
        case rel => exact ⟨_, Lib.hid (HFIN.out.1.ra (by rw [HPS.out]; exact HEI.out.1.snoc ⟨rfl, rfl, Nat.le_refl _, htr1, htr2⟩ HEI.out.2))⟩⟩
end Go.Proofs.Ytiifanenomebeaa
