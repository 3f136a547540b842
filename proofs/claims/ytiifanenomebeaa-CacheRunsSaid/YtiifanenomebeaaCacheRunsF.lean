/- The switch of a call's walk but for the Put that puts. -/
import Derived.Test.YtiifanenomebeaaCacheRuns0
import Derived.Deep.CutRange
import Derived.Deep.CutBlock
import Derived.Deep.LoopGhost
namespace Go.Proofs.Ytiifanenomebeaa
open Go.RowKit Go.Lib
set_option maxRecDepth 100000 in
set_option maxHeartbeats 16000000 in
noncomputable def cacheRuns_packF : (p0 : Prop) ×' (Hid p0 → cacheRuns_pack.1) := ⟨_, by
  intro HFULL
  intro s0 n c ls w HN hn200 s hs7 hsB zz1 w1 hI w2 C base zz2 w3 g7 g6 wr u4 u9 u10 u11 u12 u13 u15 u16 u17 u18 u19 u20 u21 u22 u24 u37 u38 u39 u40 u41 u42 u43 u44 u45 u46 u47 u48 u49 u50 u51 u52 u53 u54 u55 u56 u57 u58 u59 u60 u61 u62 u63 u64 u65 u66 u67 u68 u69 u70 u71 u72 u73 u74 u75 u76 u77 u78 u79 u80 u81 u82 u83 u84 u85 u86 u87 u88 u89 u90 u91 u92 u93 u94 u95 u96 u97 u98 u99 u100 u101 u102 u103 u104 u105 u106 u107 u108 u109 u110 u111 u112 u113 u114 u115 u116 u117 u118 u119 u120 u121 u122 u123 u124 u125 u126 u127 u128 u129 u130 u131 u132 u133 u134 u135 u136 u137 u138 u139 u140 u141 u142 u143 u144 u145 u146 u147 u148 u149 u150 u151 u152 u153 u154 u155 u156 u157 u158 u159 u160 u161 u162 u163 u164 u165 u166 u167 u168 u169 u170 u171 u172 u173 u174 u175 u176 u177 u178 u179 u180 u181 u182 u183 u184 u185 u186 u187 u188 u189 u190 u191 u192 u193 u194 u195 u196 u197 u198 u199 u200 u201 u202 u203 u204 u205 u206 u207 u208 u209 u210 u211 u212 u213 u214 u215 u216 u217 u218 u219 u220 u221 u222 u223 u224 u225 u226 u227 u228 u229 u230 u231 u232 u233 u234 u235 u236 u237 u238 u239 u240 u241 u242 u243 u244 u245 zz4 zz5 k now ps hnow hkT gk2 hkg hkI b o HLS x d hd3 j hj7 i hi1 u hu15 tt htt htt1 now' m qt hnn hn3 S HNM h6 hi6 zz8 W4 g10 g9 hRB xa zz12 zz13 zz14 zz15
  have HP4 := Lib.hid hRB.out.ra.rp
  have H10 := Lib.hid hRB.out.c10
  have HINV := Lib.hid hRB.out.ra.inv
  have hl16 : ps.length ≤ 16 := by have := HP4.out.cm.len; omega
  have c7 := cell_of_row _ g7 0 _ _ _ HP4.out.clk
  have q0 := cell_of_row _ g10 0 _ _ _ H10.out
  have q1 := cell_of_row _ g10 1 _ _ _ H10.out
  simp only [List.getElem?_toArray, List.getElem?_cons_succ, List.getElem?_cons_zero] at c7 q0 q1
  have hnb : now' ≤ big := by unfold big; omega
  have HNB := Lib.hid hnb
  have HL16 := Lib.hid hl16
  clear hRB HLS HN hd3 hj7 hi1 hu15 htt hnn hn3 hnow hkI hkT hkg hl16 hnb
  by_cases h3 : h6 = 3
  · subst h3
    go_wp2_with fail
    go_meet
    case rel => exact ⟨ps, Lib.hid (HP4.out.ra HINV.out)⟩
  by_cases h4 : h6 = 4
  · subst h4
    go_wp2_with fail
    refine (expire_m HP4.out.cm now' HNB.out).mono ?_
    rintro e w5 ⟨rfl, hc5, hs5⟩
    have HP5 := Lib.hid (HP4.out.cache hc5 hs5)
    obtain ⟨vm, h65, hr5⟩ := HP5.out.row
    have HLv := Lib.hid (live_e w5 base g6 g7 now' ps vm h65 HP5.out.clk hr5 HL16.out)
    clear hc5 hs5 h65 hr5 c7 q0 q1
    go_wp2_with fail
    refine HLv.out.mono ?_
    rintro e w6 hlp
    obtain ⟨rfl, hp6, _⟩ := HP5.out.live hlp
    have HA := Lib.hid (hp6.ra (HINV.out.filter _))
    clear hp6 hlp
    go_wp2_with fail
    go_meet
    case rel => exact ⟨_, HA⟩
  by_cases h5 : h6 = 5
  · subst h5
    go_wp2_with fail
    refine (clear_m HP4.out.cm).mono ?_
    rintro e w5 ⟨rfl, hc5, hs5⟩
    have HP5 := Lib.hid (HP4.out.cache hc5 hs5)
    have HA : Hid (RA w (w5.setCell ⟨g6, 0, none⟩ (.slice none 0 0)) base C s g6 g7 now' []) := Lib.hid ((HP5.out.store (ms' := []) (World.ownsRow_nil _ _ _ _)).ra (RInv.nil _))
    obtain ⟨vm, h65, hr5⟩ := HP5.out.row
    have d6 := cell_of_row _ g6 0 _ _ _ h65
    have f6 := frozen_of_row _ g6 0 _ _ h65
    simp only [List.getElem?_toArray, List.getElem?_cons_zero] at d6
    clear hc5 hs5 h65 hr5 c7 q0 q1
    go_wp2_with fail
    go_meet
    case rel => exact ⟨_, HA⟩
  have hb3 : ((h6 : Int) == 3) = false := by simp; omega
  have hb4 : ((h6 : Int) == 4) = false := by simp; omega
  have hb5 : ((h6 : Int) == 5) = false := by simp; omega
  have hcase : ∃ tr : Nat, (max tt 0 = (tr : Int)) ∧ ((tt = -1 ∧ tr = 0) ∨ (tt = 0 ∧ tr = 0) ∨ (tt = (tr : Int) ∧ 1 ≤ tr ∧ tr ≤ 14)) := ⟨(max tt 0).toNat, by omega, by omega⟩
  obtain ⟨tr, hmx, hcase⟩ := hcase
  clear htt1 h3 h4 h5
  have hba : Below W4.heap.size W4 (W4.alloc (.cells (recA S qt tr).cells.toArray 40)) := (Below.refl _ W4).alloc (Nat.le_refl _) _
  have HRI := Lib.hid (RecsIn.lit W4 (recA_ok S qt tr (by unfold big; omega)))
  have HP5 := Lib.hid (HP4.out.step hba)
  have H105 := Lib.hid ((hba.block g10 (heap_lt H10.out)).trans H10.out)
  have hRK := recA_ok S qt tr (by unfold big; omega)
  have HRK := Lib.hid hRK
  clear hba hRK
  obtain ⟨vm0, h60, hr0⟩ := HP5.out.row
  clear h60 hr0 hmx
  rcases hcase with ⟨rfl, rfl⟩ | ⟨rfl, rfl⟩ | ⟨rfl, htr1, htr2⟩
  · go_wp2_with fail
    change Calls _ _ _ (W4.alloc (.cells (recA S qt 0).cells.toArray 40)) _
    generalize (W4.alloc (.cells (recA S qt 0).cells.toArray 40)) = w5 at *
    refine (skip_m HP5.out.cm (now' : Int) S qt 1 _ (-1) (.inr (by decide))).mono ?_
    rintro e w6 ⟨rfl, hb6⟩
    have HA := Lib.hid ((HP5.out.step hb6).ra HINV.out)
    clear hb6 c7 q0 q1
    by_cases hs0 : s = 0
    · have hs0b : ((s : Int) == 0) = true := by simp [hs0]
      clear hs0
      go_wp2_with fail
      go_meet
      case rel => exact ⟨_, HA⟩
    · have hs0b : ((s : Int) == 0) = false := by simp [hs0]
      clear hs0
      go_wp2_with fail
      go_meet
      case rel => exact ⟨_, HA⟩
  · go_wp2_with fail
    change Calls _ _ _ (W4.alloc (.cells (recA S qt 0).cells.toArray 40)) _
    generalize (W4.alloc (.cells (recA S qt 0).cells.toArray 40)) = w5 at *
    refine (skip_m HP5.out.cm (now' : Int) S qt 1 _ 0 (.inr (by decide))).mono ?_
    rintro e w6 ⟨rfl, hb6⟩
    have HA := Lib.hid ((HP5.out.step hb6).ra HINV.out)
    clear hb6 c7 q0 q1
    by_cases hs0 : s = 0
    · have hs0b : ((s : Int) == 0) = true := by simp [hs0]
      clear hs0
      go_wp2_with fail
      go_meet
      case rel => exact ⟨_, HA⟩
    · have hs0b : ((s : Int) == 0) = false := by simp [hs0]
      clear hs0
      go_wp2_with fail
      go_meet
      case rel => exact ⟨_, HA⟩
  · have htrI : (1 : Int) ≤ (tr : Int) := by omega
    go_wp2_with fail
    change Calls _ _ _ (W4.alloc (.cells (recA S qt tr).cells.toArray 40)) _
    generalize (W4.alloc (.cells (recA S qt tr).cells.toArray 40)) = w5 at *
    generalize W4.heap.size = gr at *
    clear c7 q0 q1 HP4 H10
    by_cases hs0 : s = 0
    · refine (skip_m HP5.out.cm (now' : Int) S qt 1 _ (tr : Int) (.inl hs0)).mono ?_
      rintro e w6 ⟨rfl, hb6⟩
      have HA := Lib.hid ((HP5.out.step hb6).ra HINV.out)
      have hs0b : ((s : Int) == 0) = true := by simp [hs0]
      clear hb6 hs0
      go_wp2_with fail
      go_meet
      case rel => exact ⟨_, HA⟩
    · have hs0b : ((s : Int) == 0) = false := by simp [hs0]
      refine (put_m HP5.out.cm now' HNB.out S qt 1 HRI.out (fun r hr => by rw [List.mem_singleton.1 hr]; exact HRK.out) (show 1 ≤ 1000 by decide) tr tr (by omega) (by omega) (by omega)).mono ?_
      rintro e w6 ⟨ps', rfl, hc6, hr6, hs6⟩
      rename_i yy0 yy1 yy2 yy3
      revert s0 n c ls w hn200 s hs7 hsB zz1 w1 hI w2 C base zz2 w3 g7 g6 wr u4 u9 u10 u11 u12 u13 u15 u16 u17 u18 u19 u20 u21 u22 u24 u37 u38 u39 u40 u41 u42 u43 u44 u45 u46 u47 u48 u49 u50 u51 u52 u53 u54 u55 u56 u57 u58 u59 u60 u61 u62 u63 u64 u65 u66 u67 u68 u69 u70 u71 u72 u73 u74 u75 u76 u77 u78 u79 u80 u81 u82 u83 u84 u85 u86 u87 u88 u89 u90 u91 u92 u93 u94 u95 u96 u97 u98 u99 u100 u101 u102 u103 u104 u105 u106 u107 u108 u109 u110 u111 u112 u113 u114 u115 u116 u117 u118 u119 u120 u121 u122 u123 u124 u125 u126 u127 u128 u129 u130 u131 u132 u133 u134 u135 u136 u137 u138 u139 u140 u141 u142 u143 u144 u145 u146 u147 u148 u149 u150 u151 u152 u153 u154 u155 u156 u157 u158 u159 u160 u161 u162 u163 u164 u165 u166 u167 u168 u169 u170 u171 u172 u173 u174 u175 u176 u177 u178 u179 u180 u181 u182 u183 u184 u185 u186 u187 u188 u189 u190 u191 u192 u193 u194 u195 u196 u197 u198 u199 u200 u201 u202 u203 u204 u205 u206 u207 u208 u209 u210 u211 u212 u213 u214 u215 u216 u217 u218 u219 u220 u221 u222 u223 u224 u225 u226 u227 u228 u229 u230 u231 u232 u233 u234 u235 u236 u237 u238 u239 u240 u241 u242 u243 u244 u245 zz4 zz5 k now ps gk2 b o x d j i u now' m qt S HNM h6 hi6 zz8 W4 g10 g9 xa zz12 zz13 zz15 HINV HNB HL16 hb3 hb4 hb5 tr HRK vm0 zz14 htr1 htr2 htrI yy0 yy1 yy2 yy3 w5 HP5 H105 gr HRI hs0 hs0b w6 ps' hc6 hr6 hs6
      exact HFULL.out⟩
end Go.Proofs.Ytiifanenomebeaa
