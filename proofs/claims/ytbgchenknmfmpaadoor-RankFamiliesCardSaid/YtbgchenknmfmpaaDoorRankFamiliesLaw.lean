/-
  The walk of RankFamilies. Condition: the two tables hold what their initialisers lay.
-/
import Derived.Test.YtbgchenknmfmpaaDoorRankEq
import Derived.Deep.RegionHeld3
import Derived.Deep.CutRange
namespace Go.Proofs.YtbgchenknmfmpaaDoor
open Go.RowKit

section
variable {P : Program} {ops : Array Oper} {rest : List Oper} {o : Oper} {a : Act} {Q : Exit → Act → World → Prop}
theorem wpList_eql_rec_gh {w : World} (hw : Region.wanted o (yielded ops a.tmps) = true) (t : TypeId) (x y : Operand) (s : TypeId) (ho : o.op = .binOp .eql t x y s) (xs ys : Array Value) (b : Bool) (hx : a.eval x = .agg xs) (hy : a.eval y = .agg ys)
    (hm : P.eqGuardType P.depth t = false) (hr : (Op.equalIn 10000 t (.agg xs) (.agg ys)).run P w = .ok b w)
    (h : wpList P ops Q rest (a.put o.dst (.bool b)) w) : wpList P ops Q (o :: rest) a w := by
  unfold wpList
  rw [if_pos hw]
  left
  have h1 := run_eqGuard_agg (P := P) w .eql t x y xs ys hm
  have h2 := run_eql_struct (P := P) w t xs ys
  rw [hr] at h2
  unfold Oper.wp execOp
  simp only [ho, hx, hy, Sem.run_bind, h1, h2, Result.andThen_ok]
  exact h
end
theorem src_step_some (t : List UInt8) (s : Option LV) (x : LV) (hs : ∀ y, s = some y → isV4 y.addr = isV4 t) : (∀ y, srcStep t s x = some y → isV4 y.addr = isV4 t) ∧ (srcStep t s x).isSome = (s.isSome || (isV4 x.addr == isV4 t)) := by
  unfold srcStep
  by_cases h : isV4 x.addr = isV4 t
  · rw [if_pos h]
    cases s with
    | none => exact ⟨fun y hy => (Option.some.inj hy) ▸ h, by simp [h]⟩
    | some b =>
      simp only
      split
      · exact ⟨fun y hy => (Option.some.inj hy) ▸ h, by simp⟩
      · exact ⟨hs, by simp⟩
  · rw [if_neg h]
    exact ⟨hs, by simp [h]⟩
theorem src_any (t : List UInt8) : ∀ (l : List LV) (s : Option LV), (∀ y, s = some y → isV4 y.addr = isV4 t) → (∀ y, l.foldl (srcStep t) s = some y → isV4 y.addr = isV4 t) ∧ (l.foldl (srcStep t) s).isSome = (s.isSome || l.any (fun x => isV4 x.addr == isV4 t))
  | [], s, hs => ⟨hs, by simp⟩
  | x :: l, s, hs => by
    obtain ⟨h1, h2⟩ := src_step_some t s x hs
    obtain ⟨h3, h4⟩ := src_any t l _ h1
    refine ⟨h3, ?_⟩
    rw [List.foldl_cons, h4, h2, List.any_cons, Bool.or_assoc]
theorem srcA_any (l : List LV) (t : List UInt8) : (∀ y, srcA l t = some y → isV4 y.addr = isV4 t) ∧ (srcA l t).isSome = l.any (fun x => isV4 x.addr == isV4 t) := by
  obtain ⟨h1, h2⟩ := src_any t l none (fun y h => by cases h)
  exact ⟨h1, by rw [show srcA l t = l.foldl (srcStep t) none from rfl, h2]; simp⟩
theorem perm_count (rs : List RV) (ps : List Nat) (hp : ps.Perm (List.range rs.length)) (f : RV → Bool) : (ps.map (fun i => rs.getD i rvZero)).countP f = rs.countP f := by
  rw [(hp.map _).countP_eq]
  congr 1
  apply List.ext_getElem?
  intro i
  rw [List.getElem?_map]
  rcases Nat.lt_or_ge i rs.length with h | h
  · rw [List.getElem?_range h, Option.map_some, List.getD_eq_getElem?_getD, List.getElem?_eq_getElem h]; rfl
  · rw [List.getElem?_eq_none (by rw [List.length_range]; exact h), List.getElem?_eq_none h]; rfl
theorem any_step (ls : List LV) (f : LV → Bool) (k : Nat) (y : LV) (h : ls[k]? = some y) : (ls.take (k + 1)).any f = ((ls.take k).any f || f y) := by
  rw [List.take_add_one, h]; simp
theorem count_step (ls : List RV) (f : RV → Bool) (k : Nat) (y : RV) (h : ls[k]? = some y) : (ls.take (k + 1)).countP f = (ls.take k).countP f + (if f y = true then 1 else 0) := by
  rw [List.take_add_one, h, List.countP_append]
  simp [List.countP_cons]
/-- a record out of memory, into a new block -/
theorem recs_at {w wr : World} {A : Option Addr} {rs : List RV} (hA : RecsAt w A rs) (hb : Below w.heap.size w wr) {k : Nat} {r : RV} (hr : rs[k]? = some r) : ∃ b o, A = some ⟨b, o, none⟩ ∧ ∀ j v, r.cells.toArray.toList[j]? = some v → wr.cell? ((⟨b, o + k * 21, none⟩ : Addr).add j) = some v := by
  obtain ⟨b, o, e, hbl, hcells⟩ := hA (by rw [List.length_map]; have := (List.getElem?_eq_some_iff.1 hr).1; omega)
  refine ⟨b, o, e, fun j v hj => ?_⟩
  rw [Addr.add_lit, hb.cell (p := ⟨b, o + k * 21 + j, none⟩) hbl]
  exact hcells k r.cells (by rw [List.getElem?_map, hr]; rfl) j v hj
theorem locs_at {w wr : World} {A : Option Addr} {rs : List LV} (hA : LocsAt w A rs) (hb : Below w.heap.size w wr) {k : Nat} {r : LV} (hr : rs[k]? = some r) : ∃ b o, A = some ⟨b, o, none⟩ ∧ ∀ j v, r.cells.toArray.toList[j]? = some v → wr.cell? ((⟨b, o + k * 18, none⟩ : Addr).add j) = some v := by
  obtain ⟨b, o, e, hbl, hcells⟩ := hA (by rw [List.length_map]; have := (List.getElem?_eq_some_iff.1 hr).1; omega)
  refine ⟨b, o, e, fun j v hj => ?_⟩
  rw [Addr.add_lit, hb.cell (p := ⟨b, o + k * 18 + j, none⟩) hbl]
  exact hcells k r.cells (by rw [List.getElem?_map, hr]; rfl) j v hj
set_option maxRecDepth 100000 in
set_option maxHeartbeats 80000000 in
theorem rankFamilies_walk (ls : List LV) (hls : ∀ x ∈ ls, x.addr.length = 16) (A : Option Addr) (cap : Nat) (rs : List RV) (hrs : ∀ r ∈ rs, r.addr.length = 16) (R : Option Addr) (capr : Nat) (w : World) (he : REnv w) (hA : LocsAt w A ls) (hR : RecsAt w R rs) :
    Calls Tryd.prog 8 #[.slice A ls.length cap, .slice R rs.length capr] w fun e w' => e = .returned (.bool true) ∧ Below w.heap.size w w' := by
  have hu := Tryd.underlying27
  have hfit := fun W (hW : REnv W) => fit10_e W hW
  have hmem : ∀ (k : Nat) (r : RV), rs[k]? = some r → r.addr.length = 16 := fun k r h => hrs r (List.mem_of_getElem? h)
  have hmemL : ∀ (k : Nat) (r : LV), ls[k]? = some r → r.addr.length = 16 := fun k r h => hls r (List.mem_of_getElem? h)
  have hsrc := fun (t0 : List UInt8) (ht : t0.length = 16) (hl : ls.length < 1000000) W hW hAW => source_e ls hls A cap t0 ht hl W hW hAW
  have hsrcl := fun (t0 : List UInt8) => srcA_len (ls := ls) (t := t0) hls
  have hsort := fun (hl : ls.length < 1000000) (hn : rs.length ≤ 20) W hW hAW hRW => sort_e ls hls A cap rs hrs R capr hl hn W hW hAW hRW
  have HF := Lib.hid hfit
  have HE := Lib.hid he
  have HA := Lib.hid hA
  have HR := Lib.hid hR
  have HMem := Lib.hid hmem
  have HMemL := Lib.hid hmemL
  have HSrc := Lib.hid hsrc
  have HSrcL := Lib.hid hsrcl
  have HSort := Lib.hid hsort
  have HZL := Lib.hid lZeroAt
  have HZR := Lib.hid rZeroAt
  have HZL1 := Lib.hid (show lvZero.cells.toArray.size = 18 by rw [List.size_toArray]; exact LV.size rfl)
  have HZR1 := Lib.hid (show rvZero.cells.toArray.size = 21 by rw [List.size_toArray]; exact RV.size rfl)
  clear hfit he hA hR hmem hmemL hsrc hsrcl hsort hls hrs
  go_enter Tryd.func8, Tryd.ntmps8
  go_wp2_with fail
  refine (HF.out _ HE.out).mono ?_
  rintro e w1 ⟨rfl, hb1⟩
  have HB1 := Lib.hid hb1
  clear hb1
  by_cases hl20 : 20 < ls.length
  · have h1 : (20 : Int) < (ls.length : Int) := by omega
    go_wp2_with fail
    go_ret
    exact ⟨rfl, HB1.out⟩
  by_cases hr20 : 20 < rs.length
  · have h1 : ¬ (20 : Int) < (ls.length : Int) := by omega
    have h2 : (20 : Int) < (rs.length : Int) := by omega
    go_wp2_with fail
    go_ret
    exact ⟨rfl, HB1.out⟩
  have h1 : ¬ (20 : Int) < (ls.length : Int) := by omega
  have h2 : ¬ (20 : Int) < (rs.length : Int) := by omega
  have hlm : ls.length < 1000000 := by omega
  have hrm : rs.length ≤ 20 := by omega
  have HLM := Lib.hid hlm
  have HRM := Lib.hid hrm
  have HN1 := Lib.hid h1
  have HN2 := Lib.hid h2
  go_wp2_with fail
  go_loopg [32] rs.length (fun gk i wr => ∃ k : Nat, i = .int .i64 k ∧ k + gk = rs.length ∧ Hid (Below w.heap.size w wr))
  case atStart => exact ⟨0, rfl, by simp, HB1⟩
  case round =>
    obtain ⟨k, rfl, hk, HB⟩ := hrel
    by_cases hlt : k < rs.length
    · obtain ⟨g, rfl⟩ : ∃ g, gk = g + 1 := ⟨gk - 1, by omega⟩
      have hkI : (k : Int) < (rs.length : Int) := by omega
      obtain ⟨r, hr⟩ : ∃ r, rs[k]? = some r := ⟨_, List.getElem?_eq_getElem hlt⟩
      have hrl := HMem.out k r hr
      have hsx := sizeBv hrl
      rw [List.size_toArray] at hsx
      have hrs1 := rSize hrl
      have hro := RV.one r
      have hrh := (RV.has hrl).1
      have hrz : rvZero.cells.toArray.size = r.cells.toArray.size := by rw [HZR1.out, List.size_toArray, RV.size hrl]
      obtain ⟨b, o, rfl, hyc⟩ := recs_at HR.out HB.out hr
      obtain ⟨G, hG⟩ : ∃ G, G = wr.heap.size := ⟨_, rfl⟩
      obtain ⟨w5, hw5⟩ : ∃ w5, w5 = wr.alloc (.cells r.cells.toArray 29) := ⟨_, rfl⟩
      have z5 : w5.heap.size = G + 1 := by rw [hw5, World.size_alloc, hG]
      have c4 : w5.heap[G]? = some (.cells r.cells.toArray 29 (0, 0)) := by rw [hw5, hG]; exact heap_alloc_last _ _
      have hb5 : Below w.heap.size w w5 := by rw [hw5]; exact HB.out.alloc HB.out.size _
      have hld5 := part_at c4 3 (bvs r.addr) (fun j v hj => by rw [List.getElem?_toArray]; exact hrh j v hj)
      have hsrc := HSrc.out r.addr hrl HLM.out w5 (HE.out.below hb5) (HA.out.below hb5)
      obtain ⟨hfam, hsome⟩ := srcA_any ls r.addr
      have hsl := HSrcL.out r.addr
      obtain ⟨sr, hsr⟩ : ∃ sr, sr = srcA ls r.addr := ⟨_, rfl⟩
      rw [← hsr] at hsrc hfam hsome hsl
      have hrl2 : (sr.getD lvZero).addr.length = 16 := by
        cases hh : sr with
        | none => rfl
        | some y => exact hsl y hh
      have hss1 := lSize hrl2
      have hso := LV.one (sr.getD lvZero)
      have hsz : lvZero.cells.toArray.size = (sr.getD lvZero).cells.toArray.size := by rw [HZL1.out, List.size_toArray, LV.size hrl2]
      obtain ⟨ok, hok⟩ : ∃ ok, ok = sr.isSome := ⟨_, rfl⟩
      rw [← hok] at hsrc hsome
      obtain ⟨vx, hvx⟩ : ∃ vx, vx = isV4 r.addr := ⟨_, rfl⟩
      have ix := fun W => is4_e r.addr hrl W
      rw [← hvx] at ix hfam hsome
      obtain ⟨xb, hxb⟩ : ∃ xb, xb = bvs r.addr := ⟨_, rfl⟩
      rw [← hxb] at hsx hld5 hrh hsrc ix
      have HSx := Lib.hid hsx
      have HLD5 := Lib.hid hld5
      have HRh := Lib.hid hrh
      have HSrc5 := Lib.hid hsrc
      have IX := Lib.hid ix
      have HFam := Lib.hid hfam
      have HSome := Lib.hid hsome
      have HSS := Lib.hid hss1
      have HSO := Lib.hid hso
      have HSZ := Lib.hid hsz
      have HRl2 := Lib.hid hrl2
      have HOk := Lib.hid hok
      have HRS := Lib.hid hrs1
      have HRO := Lib.hid hro
      have HRZ := Lib.hid hrz
      have HYC := Lib.hid hyc
      have HB5 := Lib.hid hb5
      have C4 := Lib.hid c4
      have Z5 := Lib.hid z5
      have HW5 := Lib.hid hw5
      have HG := Lib.hid hG
      have hk9 : k + (g + 1) = rs.length := hk
      clear hsx hld5 hrh hsrc ix hfam hsome hss1 hso hsz hrl2 hok hrs1 hro hrz hyc hb5 c4 z5 hw5 hG hr hrl hsl hxb hvx hsr HB
      obtain ⟨ZR, hZRd⟩ : ∃ Z, Z = rvZero.cells.toArray := ⟨_, rfl⟩
      have hZRA := HZR.out
      have hrz := HRZ.out
      rw [← hZRd] at hZRA hrz
      obtain ⟨rc, hrc⟩ : ∃ rc, rc = r.cells.toArray := ⟨_, rfl⟩
      have hyc := HYC.out
      have hw5 := HW5.out
      have hrs1 := HRS.out
      have hro := HRO.out
      rw [← hrc] at hyc hrz hw5 hrs1 hro
      have HZRA := Lib.hid hZRA
      have HRZ2 := Lib.hid hrz
      have HYC2 := Lib.hid hyc
      have HW52 := Lib.hid hw5
      have HRS2 := Lib.hid hrs1
      have HRO2 := Lib.hid hro
      have HRc := Lib.hid hrc
      clear hZRA hrz hyc hw5 hrs1 hro hZRd hrc HRZ HYC HW5 HRS HRO
      go_wp2_with (first
        | (refine wpList_load_agg rfl 29 (.tmp 34) rfl ⟨b, o + k * 21, none⟩ rfl rc _ HYC2.out Tryd.underlying29 rfl HRS2.out ?_; go_simp)
        | (refine wpList_alloc_z rfl 29 rfl ZR HZRA.out ?_; go_simp)
        | (refine wpList_store_new rfl 29 (.tmp 6) (.tmp 35) rfl wr.heap.size rfl ZR rc 29 rfl rfl HRS2.out HRZ2.out HRO2.out ?_; go_simp)
        | (rw [← HW52.out, ← HG.out]; refine wpList_load_agg rfl 27 (.tmp 38) rfl ⟨G, 3, none⟩ rfl xb.toArray _ HLD5.out Tryd.underlying27 rfl HSx.out ?_; go_simp))
      refine HSrc5.out.mono ?_
      rintro e w6 ⟨rfl, hb6⟩
      obtain ⟨ZL, hZLd⟩ : ∃ Z, Z = lvZero.cells.toArray := ⟨_, rfl⟩
      have hZLA := HZL.out
      have hsz := HSZ.out
      rw [← hZLd] at hZLA hsz
      obtain ⟨sc, hsc⟩ : ∃ sc, sc = (sr.getD lvZero).cells.toArray := ⟨_, rfl⟩
      rw [← hsc] at hsz
      have hss1 := HSS.out
      have hso := HSO.out
      rw [← hsc] at hss1 hso
      rw [← hsc]
      obtain ⟨w7, hw7⟩ : ∃ w7, w7 = w6.alloc (.cells sc 42) := ⟨_, rfl⟩
      obtain ⟨G2, hG2⟩ : ∃ G2, G2 = w6.heap.size := ⟨_, rfl⟩
      have z7 : w7.heap.size = G2 + 1 := by rw [hw7, World.size_alloc, hG2]
      have hz6 := hb6.size
      have hz5 := Z5.out
      have d4 : w7.heap[G]? = some (.cells r.cells.toArray 29 (0, 0)) := by rw [hw7, heap_alloc_old' _ _ (by omega)]; exact (hb6.block G (by omega)).trans C4.out
      have d5 : w7.heap[G2]? = some (.cells sc 42 (0, 0)) := by rw [hw7, hG2]; exact heap_alloc_last _ _
      have hb7 : Below w.heap.size w w7 := by rw [hw7]; exact (HB5.out.trans (hb6.mono HB5.out.size)).alloc (HB5.out.trans (hb6.mono HB5.out.size)).size _
      have HZLA := Lib.hid hZLA
      have HSZ2 := Lib.hid hsz
      have HSS2 := Lib.hid hss1
      have HSO2 := Lib.hid hso
      have HW7 := Lib.hid hw7
      have HG2 := Lib.hid hG2
      have D4 := Lib.hid d4
      have D5 := Lib.hid d5
      have HB7 := Lib.hid hb7
      have HSc := Lib.hid hsc
      have HGlt := Lib.hid (show G < w7.heap.size ∧ G2 < w7.heap.size by omega)
      clear hZLA hsz hss1 hso hw7 hG2 d4 d5 hb7 z7 hz6 hz5 hb6 hZLd hsc HSrc5 HLD5 HB5 C4 Z5 HSZ HSS HSO
      go_wp2_with (first
        | (refine wpList_alloc_z rfl 42 rfl ZL HZLA.out ?_; go_simp)
        | (refine wpList_store_new rfl 42 (.tmp 7) (.tmp 41) rfl w6.heap.size rfl ZL sc 42 rfl rfl HSS2.out HSZ2.out HSO2.out ?_; go_simp))
      rw [← HW7.out, ← HG2.out]
      go_loopg [45, 9] ls.length (fun gk2 i sm wr2 => ∃ j : Nat, i = .int .i64 j ∧ j + gk2 = ls.length ∧ sm = .bool ((ls.take j).any (fun x => isV4 x.addr == vx)) ∧ Hid (Below w7.heap.size w7 wr2))
      case atStart => exact ⟨0, rfl, by simp, rfl, Lib.hid (Below.refl _ _)⟩
      case round =>
        obtain ⟨j, rfl, hj, rfl, HBi⟩ := hrel
        by_cases hltj : j < ls.length
        · obtain ⟨g2, rfl⟩ : ∃ g2, gk = g2 + 1 := ⟨gk - 1, by omega⟩
          have hjI : (j : Int) < (ls.length : Int) := by omega
          obtain ⟨y, hy⟩ : ∃ y, ls[j]? = some y := ⟨_, List.getElem?_eq_getElem hltj⟩
          have hyl := HMemL.out j y hy
          have hst := any_step ls (fun x => isV4 x.addr == vx) j y hy
          have hys1 := lSize hyl
          have hyo := LV.one y
          have hyz : lvZero.cells.toArray.size = y.cells.toArray.size := by rw [HZL1.out, List.size_toArray, LV.size hyl]
          have hyh := (LV.has hyl).1
          have hsy := sizeBv hyl
          rw [List.size_toArray] at hsy
          have iy := fun W => is4_e y.addr hyl W
          have hbW : Below w.heap.size w wr := HB7.out.trans (HBi.out.mono HB7.out.size)
          obtain ⟨lb, lo, hAe, hlc⟩ := locs_at HA.out hbW hy
          obtain ⟨vy, hvy⟩ : ∃ vy, vy = isV4 y.addr := ⟨_, rfl⟩
          obtain ⟨sm, hsm⟩ : ∃ sm, sm = (ls.take j).any (fun x => isV4 x.addr == vx) := ⟨_, rfl⟩
          simp only [← hvy] at hst
          rw [← hsm] at hst ⊢
          rw [← hvy] at iy
          obtain ⟨H, hH⟩ : ∃ H, H = wr.heap.size := ⟨_, rfl⟩
          obtain ⟨w8, hw8⟩ : ∃ w8, w8 = wr.alloc (.cells y.cells.toArray 42) := ⟨_, rfl⟩
          have z8 : w8.heap.size = H + 1 := by rw [hw8, World.size_alloc, hH]
          have hi8 : Below w7.heap.size w7 w8 := by rw [hw8]; exact HBi.out.alloc HBi.out.size _
          have e4 : w8.heap[G]? = some (.cells r.cells.toArray 29 (0, 0)) := (hi8.block G HGlt.out.1).trans D4.out
          have e6 : w8.heap[H]? = some (.cells y.cells.toArray 42 (0, 0)) := by rw [hw8, hH]; exact heap_alloc_last _ _
          obtain ⟨yb, hyb⟩ : ∃ yb, yb = bvs y.addr := ⟨_, rfl⟩
          rw [← hyb] at hsy hyh iy
          have RY := Lib.hid (fun (W : World) (hb : Below w8.heap.size w8 W) => (fun q v hq => by rw [Nat.zero_add, hb.cell (p := ⟨H, q, none⟩) (heap_lt e6), cell_of_row _ _ _ _ _ _ e6, List.getElem?_toArray]; exact hyh q v hq : W.rangeAt H 0 yb))
          have RX := Lib.hid (fun (W : World) (hb : Below w8.heap.size w8 W) => (fun q v hq => by rw [hb.cell (p := ⟨G, 3 + q, none⟩) (heap_lt e4), cell_of_row _ _ _ _ _ _ e4, List.getElem?_toArray]; exact HRh.out q v hq : W.rangeAt G 3 xb))
          obtain ⟨yc, hyc⟩ : ∃ yc, yc = y.cells.toArray := ⟨_, rfl⟩
          rw [← hyc] at hys1 hyo hyz hlc hw8
          obtain ⟨ZL2, hZL2⟩ : ∃ Z, Z = lvZero.cells.toArray := ⟨_, rfl⟩
          have hZLA := HZL.out
          rw [← hZL2] at hZLA hyz
          have HZLA2 := Lib.hid hZLA
          have HYS := Lib.hid hys1
          have HYO := Lib.hid hyo
          have HYZ := Lib.hid hyz
          have HLC := Lib.hid hlc
          have HSy := Lib.hid hsy
          have IY := Lib.hid iy
          have HSt := Lib.hid hst
          have HSm := Lib.hid hsm
          have HW8 := Lib.hid hw8
          have HH := Lib.hid hH
          have HI8 := Lib.hid hi8
          have hj9 : j + (g2 + 1) = ls.length := hj
          clear hZLA hys1 hyo hyz hlc hsy iy hst hsm hw8 hH hi8 z8 e4 e6 hyb hyc hZL2 hyh hyl hy hbW hvy HBi
          subst hAe
          go_wp2_with (first
            | (refine wpList_load_agg rfl 42 (.tmp 47) rfl ⟨lb, lo + j * 18, none⟩ rfl yc _ HLC.out Tryd.underlying42 rfl HYS.out ?_; go_simp)
            | (refine wpList_alloc_z rfl 42 rfl ZL2 HZLA2.out ?_; go_simp)
            | (refine wpList_store_new rfl 42 (.tmp 11) (.tmp 48) rfl wr.heap.size rfl ZL2 yc 42 rfl rfl HYS.out HYZ.out HYO.out ?_; go_simp))
          rw [← HW8.out, ← HH.out]
          clear HW8 HH
          cases sm with
          | true =>
            have HSt2 := Lib.hid (show (ls.take (j + 1)).any (fun x => isV4 x.addr == vx) = true by rw [HSt.out]; rfl)
            clear HSt
            go_quiet (fail)
            go_wp2_with fail
            go_roundg g2
            case measure => omega
            case rel => exact ⟨j + 1, by go_num, by omega, by rw [HSt2.out], Lib.hid (HI8.out.trans (Joins.below_draws _ _ _))⟩
          | false =>
            have HSt2 := Lib.hid (show (ls.take (j + 1)).any (fun x => isV4 x.addr == vx) = (vy == vx) by rw [HSt.out]; rfl)
            clear HSt
            refine wp_region_held_drew (S := (fun W : World => Below w8.heap.size w8 W)) (by kernel_rfl) (Below.refl _ w8).drew (fun hHeld => ?_)
            refine wpAnyH_take (i := 0) (oi := ({ dst := some 49, op := Go.Op.move (Go.Operand.tmp 9), type := 4, pos := "law.go:147", after := #[], guard := none } : Oper)) (v := .bool false) rfl (by kernel_rfl) (by kernel_rfl) (by kernel_rfl) (fun _ _ _ h => h) (Or.inl ⟨by rfl, fun w' _ => ?_⟩) hHeld ?_
            · go_simp
            simp only [Act.put, List.setIfInBounds_toArray, List.set_cons_zero, List.set_cons_succ]
            refine wpAnyH_take (i := 1) (oi := ({ dst := some 50, op := Go.Op.move (Go.Operand.tmp 49), type := 4, pos := "law.go:147", after := #[{ on := 0, ground := Go.Ground.data }], guard := none } : Oper)) (v := .bool false) rfl (by kernel_rfl) (by kernel_rfl) (by kernel_rfl) (fun _ _ _ h => h) (Or.inl ⟨by rfl, fun w' _ => ?_⟩) hHeld ?_
            · go_simp
            simp only [Act.put, List.setIfInBounds_toArray, List.set_cons_zero, List.set_cons_succ]
            refine wpAnyH_take (i := 2) (oi := ({ dst := some 51, op := Go.Op.fieldAddr 42 (Go.Operand.tmp 11) 0, type := 0, pos := "law.go:147", after := #[{ on := 1, ground := Go.Ground.guard }], guard := some (1, false) } : Oper)) (v := .pointer (some ⟨H, 0, none⟩)) rfl (by kernel_rfl) (by kernel_rfl) (by kernel_rfl) (fun _ _ _ h => h) (Or.inl ⟨by kernel_rfl, fun w' _ => ?_⟩) hHeld ?_
            · go_simp
            simp only [Act.put, List.setIfInBounds_toArray, List.set_cons_zero, List.set_cons_succ]
            refine wpAnyH_take (i := 3) (oi := ({ dst := some 52, op := Go.Op.load 27 (Go.Operand.tmp 51), type := 27, pos := "law.go:147", after := #[{ on := 2, ground := Go.Ground.data }, { on := 1, ground := Go.Ground.guard }], guard := some (1, false) } : Oper)) (v := .agg (yb).toArray) rfl (by kernel_rfl) (by kernel_rfl) (by kernel_rfl) (fun _ _ _ h => h) (yieldsIf_load_mid (by kernel_rfl) _ _ rfl _ _ rfl _ _ (fun W h => RY.out W h) hu rfl HSy.out) hHeld ?_
            simp only [Act.put, List.setIfInBounds_toArray, List.set_cons_zero, List.set_cons_succ]
            refine wpAnyH_take (i := 5) (oi := ({ dst := some 54, op := Go.Op.fieldAddr 29 (Go.Operand.tmp 6) 3, type := 0, pos := "law.go:147", after := #[{ on := 1, ground := Go.Ground.guard }], guard := some (1, false) } : Oper)) (v := .pointer (some ⟨G, 3, none⟩)) rfl (by kernel_rfl) (by kernel_rfl) (by kernel_rfl) (fun _ _ _ h => h) (Or.inl ⟨by kernel_rfl, fun w' _ => ?_⟩) hHeld ?_
            · go_simp
            simp only [Act.put, List.setIfInBounds_toArray, List.set_cons_zero, List.set_cons_succ]
            refine wpAnyH_take (i := 6) (oi := ({ dst := some 55, op := Go.Op.load 27 (Go.Operand.tmp 54), type := 27, pos := "law.go:147", after := #[{ on := 5, ground := Go.Ground.data }, { on := 1, ground := Go.Ground.guard }], guard := some (1, false) } : Oper)) (v := .agg (xb).toArray) rfl (by kernel_rfl) (by kernel_rfl) (by kernel_rfl) (fun _ _ _ h => h) (yieldsIf_load_mid (by kernel_rfl) _ _ rfl _ _ rfl _ _ (fun W h => RX.out W h) hu rfl HSx.out) hHeld ?_
            simp only [Act.put, List.setIfInBounds_toArray, List.set_cons_zero, List.set_cons_succ]
            refine wpAnyH_ready (rs := [4]) (by kernel_rfl) (by simp) ?_
            refine AllReadyH.cons (o := ({ dst := some 53, op := Go.Op.call { callee := Go.Callee.value (Go.Operand.func 18), args := #[Go.Operand.tmp 52], argTypes := #[27] }, type := 4, pos := "law.go:147", after := #[{ on := 3, ground := Go.Ground.data }, { on := 1, ground := Go.Ground.chain }, { on := 1, ground := Go.Ground.guard }], guard := some (1, false) } : Oper)) rfl (fun K hK => ?_) AllReadyH.nil
            rw [if_pos (by kernel_rfl)]
            go_simp
            go_at_call 18
            refine (IY.out _).mono ?_
            rintro e' wc ⟨rfl, hbc⟩
            refine hK.out _ _ (Below.trans hHeld (Below.mono hbc (Below.size hHeld))) (fun hHeld' => ?_)
            clear hK K hbc
            try clear hHeld
            try simp only [Act.put, List.setIfInBounds_toArray, List.set_cons_zero, List.set_cons_succ]
            refine wpAnyH_ready (rs := [7]) (by kernel_rfl) (by simp) ?_
            refine AllReadyH.cons (o := ({ dst := some 56, op := Go.Op.call { callee := Go.Callee.value (Go.Operand.func 18), args := #[Go.Operand.tmp 55], argTypes := #[27] }, type := 4, pos := "law.go:147", after := #[{ on := 6, ground := Go.Ground.data }, { on := 4, ground := Go.Ground.chain }, { on := 1, ground := Go.Ground.guard }], guard := some (1, false) } : Oper)) rfl (fun K hK => ?_) AllReadyH.nil
            rw [if_pos (by kernel_rfl)]
            go_simp
            go_at_call 18
            refine (IX.out _).mono ?_
            rintro e' wc ⟨rfl, hbc⟩
            refine hK.out _ _ (Below.trans hHeld' (Below.mono hbc (Below.size hHeld'))) (fun hHeld'' => ?_)
            clear hK K hbc
            try clear hHeld'
            try simp only [Act.put, List.setIfInBounds_toArray, List.set_cons_zero, List.set_cons_succ]
            refine wpAnyH_take (i := 8) (oi := ({ dst := some 57, op := Go.Op.binOp Go.BinOp.eql 4 (Go.Operand.tmp 53) (Go.Operand.tmp 56) 4, type := 4, pos := "law.go:147", after := #[{ on := 4, ground := Go.Ground.data }, { on := 7, ground := Go.Ground.data }, { on := 1, ground := Go.Ground.guard }], guard := some (1, false) } : Oper)) (v := .bool (vy == vx)) rfl (by kernel_rfl) (by kernel_rfl) (by kernel_rfl) (fun _ _ _ h => h) (Or.inl ⟨by kernel_rfl, fun w' _ => ?_⟩) hHeld'' ?_
            · go_simp
            simp only [Act.put, List.setIfInBounds_toArray, List.set_cons_zero, List.set_cons_succ]
            refine wpAnyH_take (i := 9) (oi := ({ dst := some 58, op := Go.Op.pick (Go.Operand.tmp 50) (Go.Operand.const (Go.Value.bool true)) (Go.Operand.tmp 57), type := 4, pos := "law.go:147", after := #[{ on := 1, ground := Go.Ground.data }, { on := 8, ground := Go.Ground.data }], guard := none } : Oper)) (v := .bool (vy == vx)) rfl (by kernel_rfl) (by kernel_rfl) (by kernel_rfl) (fun _ _ _ h => h) (Or.inl ⟨by rfl, fun w' _ => ?_⟩) hHeld'' ?_
            · go_simp
            simp only [Act.put, List.setIfInBounds_toArray, List.set_cons_zero, List.set_cons_succ]
            refine wpAnyH_take (i := 10) (oi := ({ dst := some 9, op := Go.Op.assign (Go.Operand.tmp 58), type := 4, pos := "law.go:147", after := #[{ on := 9, ground := Go.Ground.data }, { on := 7, ground := Go.Ground.chain }, { on := 0, ground := Go.Ground.phase }, { on := 1, ground := Go.Ground.phase }, { on := 2, ground := Go.Ground.phase }, { on := 3, ground := Go.Ground.phase }, { on := 4, ground := Go.Ground.phase }, { on := 5, ground := Go.Ground.phase }, { on := 6, ground := Go.Ground.phase }, { on := 7, ground := Go.Ground.phase }, { on := 8, ground := Go.Ground.phase }, { on := 9, ground := Go.Ground.phase }], guard := none } : Oper)) (v := .bool (vy == vx)) rfl (by kernel_rfl) (by kernel_rfl) (by kernel_rfl) (fun _ _ _ h => h) (Or.inl ⟨by rfl, fun w' _ => ?_⟩) hHeld'' ?_
            · go_simp
            simp only [Act.put, List.setIfInBounds_toArray, List.set_cons_zero, List.set_cons_succ]
            refine wpAnyH_done (by kernel_rfl) ?_ _
            go_wp2_with fail
            go_roundg g2
            case measure => omega
            case rel => exact ⟨j + 1, by go_num, by omega, by rw [HSt2.out], Lib.hid (HI8.out.trans (Below.mono hHeld'' HI8.out.size))⟩
        · obtain rfl : j = ls.length := by omega
          have hjI : ¬ (ls.length : Int) < (ls.length : Int) := by omega
          have hst : (ls.take ls.length).any (fun x => isV4 x.addr == vx) = ok := by rw [List.take_length, HSome.out]
          rw [hst]
          clear hst
          have hbi := HBi.out
          have e4 : wr.heap[G]? = some (.cells r.cells.toArray 29 (0, 0)) := (hbi.block G HGlt.out.1).trans D4.out
          have e5 : wr.heap[G2]? = some (.cells sc 42 (0, 0)) := (hbi.block G2 HGlt.out.2).trans D5.out
          have hbW : Below w.heap.size w wr := HB7.out.trans (hbi.mono HB7.out.size)
          have HBW := Lib.hid hbW
          have E4 := Lib.hid e4
          have E5 := Lib.hid e5
          clear hbi e4 e5 hbW HBi
          cases ok with
          | false =>
            go_wp2_with fail
            go_quiet (fail)
            go_wp2_with fail
            go_roundg g
            case measure => omega
            case rel => exact ⟨k + 1, by go_num, by omega, Lib.hid (HBW.out.trans (Joins.below_draws _ _ _))⟩
          | true =>
            cases sr with
            | none => exact absurd HOk.out (by simp)
            | some y =>
            have hyl : y.addr.length = 16 := HRl2.out
            have hfy : isV4 y.addr = vx := HFam.out y rfl
            have is := fun W => is4_e y.addr hyl W
            rw [hfy] at is
            have hsy := sizeBv hyl
            rw [List.size_toArray] at hsy
            have hyh := (LV.has hyl).1
            have hscy : sc = y.cells.toArray := HSc.out
            obtain ⟨sb, hsb⟩ : ∃ sb, sb = bvs y.addr := ⟨_, rfl⟩
            rw [← hsb] at is hsy hyh
            have RS := Lib.hid (fun (W : World) (hb : Below wr.heap.size wr W) => (fun q v hq => by rw [Nat.zero_add, hb.cell (p := ⟨G2, q, none⟩) (heap_lt E5.out), cell_of_row _ _ _ _ _ _ E5.out, hscy, List.getElem?_toArray]; exact hyh q v hq : W.rangeAt G2 0 sb))
            have RX := Lib.hid (fun (W : World) (hb : Below wr.heap.size wr W) => (fun q v hq => by rw [hb.cell (p := ⟨G, 3 + q, none⟩) (heap_lt E4.out), cell_of_row _ _ _ _ _ _ E4.out, List.getElem?_toArray]; exact HRh.out q v hq : W.rangeAt G 3 xb))
            have IS := Lib.hid is
            have HSs := Lib.hid hsy
            clear is hsy hyh hscy hsb hfy hyl
            go_wp2_with fail
            refine wp_region_held_drew (S := (fun W : World => Below wr.heap.size wr W)) (by kernel_rfl) (Below.refl _ wr).drew (fun hHeld => ?_)
            refine wpAnyH_take (i := 0) (oi := ({ dst := some 60, op := Go.Op.move (Go.Operand.tmp 8), type := 4, pos := "law.go:149", after := #[], guard := none } : Oper)) (v := .bool true) rfl (by kernel_rfl) (by kernel_rfl) (by kernel_rfl) (fun _ _ _ h => h) (Or.inl ⟨by rfl, fun w' _ => ?_⟩) hHeld ?_
            · go_simp
            simp only [Act.put, List.setIfInBounds_toArray, List.set_cons_zero, List.set_cons_succ]
            refine wpAnyH_take (i := 1) (oi := ({ dst := some 61, op := Go.Op.move (Go.Operand.tmp 9), type := 4, pos := "law.go:149", after := #[], guard := none } : Oper)) (v := .bool true) rfl (by kernel_rfl) (by kernel_rfl) (by kernel_rfl) (fun _ _ _ h => h) (Or.inl ⟨by rfl, fun w' _ => ?_⟩) hHeld ?_
            · go_simp
            simp only [Act.put, List.setIfInBounds_toArray, List.set_cons_zero, List.set_cons_succ]
            refine wpAnyH_take (i := 2) (oi := ({ dst := some 62, op := Go.Op.binOp Go.BinOp.neq 4 (Go.Operand.tmp 60) (Go.Operand.tmp 61) 4, type := 4, pos := "law.go:149", after := #[{ on := 0, ground := Go.Ground.data }, { on := 1, ground := Go.Ground.data }], guard := none } : Oper)) (v := .bool false) rfl (by kernel_rfl) (by kernel_rfl) (by kernel_rfl) (fun _ _ _ h => h) (Or.inl ⟨by rfl, fun w' _ => ?_⟩) hHeld ?_
            · go_simp
            simp only [Act.put, List.setIfInBounds_toArray, List.set_cons_zero, List.set_cons_succ]
            refine wpAnyH_take (i := 3) (oi := ({ dst := some 63, op := Go.Op.move (Go.Operand.tmp 62), type := 4, pos := "law.go:149", after := #[{ on := 2, ground := Go.Ground.data }], guard := none } : Oper)) (v := .bool false) rfl (by kernel_rfl) (by kernel_rfl) (by kernel_rfl) (fun _ _ _ h => h) (Or.inl ⟨by rfl, fun w' _ => ?_⟩) hHeld ?_
            · go_simp
            simp only [Act.put, List.setIfInBounds_toArray, List.set_cons_zero, List.set_cons_succ]
            refine wpAnyH_take (i := 4) (oi := ({ dst := some 64, op := Go.Op.move (Go.Operand.tmp 8), type := 4, pos := "law.go:149", after := #[{ on := 3, ground := Go.Ground.guard }], guard := some (3, false) } : Oper)) (v := .bool true) rfl (by kernel_rfl) (by kernel_rfl) (by kernel_rfl) (fun _ _ _ h => h) (Or.inl ⟨by kernel_rfl, fun w' _ => ?_⟩) hHeld ?_
            · go_simp
            simp only [Act.put, List.setIfInBounds_toArray, List.set_cons_zero, List.set_cons_succ]
            refine wpAnyH_take (i := 5) (oi := ({ dst := some 65, op := Go.Op.move (Go.Operand.tmp 64), type := 4, pos := "law.go:149", after := #[{ on := 4, ground := Go.Ground.data }, { on := 3, ground := Go.Ground.chain }, { on := 3, ground := Go.Ground.guard }], guard := some (3, false) } : Oper)) (v := .bool true) rfl (by kernel_rfl) (by kernel_rfl) (by kernel_rfl) (fun _ _ _ h => h) (Or.inl ⟨by kernel_rfl, fun w' _ => ?_⟩) hHeld ?_
            · go_simp
            simp only [Act.put, List.setIfInBounds_toArray, List.set_cons_zero, List.set_cons_succ]
            refine wpAnyH_take (i := 6) (oi := ({ dst := some 66, op := Go.Op.fieldAddr 42 (Go.Operand.tmp 7) 0, type := 0, pos := "law.go:149", after := #[{ on := 5, ground := Go.Ground.guard }], guard := some (5, true) } : Oper)) (v := .pointer (some ⟨G2, 0, none⟩)) rfl (by kernel_rfl) (by kernel_rfl) (by kernel_rfl) (fun _ _ _ h => h) (Or.inl ⟨by kernel_rfl, fun w' _ => ?_⟩) hHeld ?_
            · go_simp
            simp only [Act.put, List.setIfInBounds_toArray, List.set_cons_zero, List.set_cons_succ]
            refine wpAnyH_take (i := 7) (oi := ({ dst := some 67, op := Go.Op.load 27 (Go.Operand.tmp 66), type := 27, pos := "law.go:149", after := #[{ on := 6, ground := Go.Ground.data }, { on := 5, ground := Go.Ground.guard }], guard := some (5, true) } : Oper)) (v := .agg (sb).toArray) rfl (by kernel_rfl) (by kernel_rfl) (by kernel_rfl) (fun _ _ _ h => h) (yieldsIf_load_mid (by kernel_rfl) _ _ rfl _ _ rfl _ _ (fun W h => RS.out W h) hu rfl HSs.out) hHeld ?_
            simp only [Act.put, List.setIfInBounds_toArray, List.set_cons_zero, List.set_cons_succ]
            refine wpAnyH_take (i := 9) (oi := ({ dst := some 69, op := Go.Op.fieldAddr 29 (Go.Operand.tmp 6) 3, type := 0, pos := "law.go:149", after := #[{ on := 5, ground := Go.Ground.guard }], guard := some (5, true) } : Oper)) (v := .pointer (some ⟨G, 3, none⟩)) rfl (by kernel_rfl) (by kernel_rfl) (by kernel_rfl) (fun _ _ _ h => h) (Or.inl ⟨by kernel_rfl, fun w' _ => ?_⟩) hHeld ?_
            · go_simp
            simp only [Act.put, List.setIfInBounds_toArray, List.set_cons_zero, List.set_cons_succ]
            refine wpAnyH_take (i := 10) (oi := ({ dst := some 70, op := Go.Op.load 27 (Go.Operand.tmp 69), type := 27, pos := "law.go:149", after := #[{ on := 9, ground := Go.Ground.data }, { on := 5, ground := Go.Ground.guard }], guard := some (5, true) } : Oper)) (v := .agg (xb).toArray) rfl (by kernel_rfl) (by kernel_rfl) (by kernel_rfl) (fun _ _ _ h => h) (yieldsIf_load_mid (by kernel_rfl) _ _ rfl _ _ rfl _ _ (fun W h => RX.out W h) hu rfl HSx.out) hHeld ?_
            simp only [Act.put, List.setIfInBounds_toArray, List.set_cons_zero, List.set_cons_succ]
            refine wpAnyH_ready (rs := [8]) (by kernel_rfl) (by simp) ?_
            refine AllReadyH.cons (o := ({ dst := some 68, op := Go.Op.call { callee := Go.Callee.value (Go.Operand.func 18), args := #[Go.Operand.tmp 67], argTypes := #[27] }, type := 4, pos := "law.go:149", after := #[{ on := 7, ground := Go.Ground.data }, { on := 5, ground := Go.Ground.chain }, { on := 5, ground := Go.Ground.guard }], guard := some (5, true) } : Oper)) rfl (fun K hK => ?_) AllReadyH.nil
            rw [if_pos (by kernel_rfl)]
            go_simp
            go_at_call 18
            refine (IS.out _).mono ?_
            rintro e' wc ⟨rfl, hbc⟩
            refine hK.out _ _ (Below.trans hHeld (Below.mono hbc (Below.size hHeld))) (fun hHeld' => ?_)
            clear hK K hbc
            try clear hHeld
            try simp only [Act.put, List.setIfInBounds_toArray, List.set_cons_zero, List.set_cons_succ]
            refine wpAnyH_ready (rs := [11]) (by kernel_rfl) (by simp) ?_
            refine AllReadyH.cons (o := ({ dst := some 71, op := Go.Op.call { callee := Go.Callee.value (Go.Operand.func 18), args := #[Go.Operand.tmp 70], argTypes := #[27] }, type := 4, pos := "law.go:149", after := #[{ on := 10, ground := Go.Ground.data }, { on := 8, ground := Go.Ground.chain }, { on := 5, ground := Go.Ground.guard }], guard := some (5, true) } : Oper)) rfl (fun K hK => ?_) AllReadyH.nil
            rw [if_pos (by kernel_rfl)]
            go_simp
            go_at_call 18
            refine (IX.out _).mono ?_
            rintro e' wc ⟨rfl, hbc⟩
            refine hK.out _ _ (Below.trans hHeld' (Below.mono hbc (Below.size hHeld'))) (fun hHeld'' => ?_)
            clear hK K hbc
            try clear hHeld'
            try simp only [Act.put, List.setIfInBounds_toArray, List.set_cons_zero, List.set_cons_succ]
            refine wpAnyH_take (i := 12) (oi := ({ dst := some 72, op := Go.Op.binOp Go.BinOp.neq 4 (Go.Operand.tmp 68) (Go.Operand.tmp 71) 4, type := 4, pos := "law.go:149", after := #[{ on := 8, ground := Go.Ground.data }, { on := 11, ground := Go.Ground.data }, { on := 5, ground := Go.Ground.guard }], guard := some (5, true) } : Oper)) (v := .bool false) rfl (by kernel_rfl) (by kernel_rfl) (by kernel_rfl) (fun _ _ _ h => h) (Or.inl ⟨by kernel_rfl, fun w' _ => ?_⟩) hHeld'' ?_
            · go_simp
            simp only [Act.put, List.setIfInBounds_toArray, List.set_cons_zero, List.set_cons_succ]
            refine wpAnyH_take (i := 13) (oi := ({ dst := some 73, op := Go.Op.pick (Go.Operand.tmp 65) (Go.Operand.tmp 72) (Go.Operand.const (Go.Value.bool false)), type := 4, pos := "law.go:149", after := #[{ on := 5, ground := Go.Ground.data }, { on := 12, ground := Go.Ground.data }, { on := 3, ground := Go.Ground.guard }], guard := some (3, false) } : Oper)) (v := .bool false) rfl (by kernel_rfl) (by kernel_rfl) (by kernel_rfl) (fun _ _ _ h => h) (Or.inl ⟨by kernel_rfl, fun w' _ => ?_⟩) hHeld'' ?_
            · go_simp
            simp only [Act.put, List.setIfInBounds_toArray, List.set_cons_zero, List.set_cons_succ]
            refine wpAnyH_take (i := 14) (oi := ({ dst := some 74, op := Go.Op.pick (Go.Operand.tmp 63) (Go.Operand.const (Go.Value.bool true)) (Go.Operand.tmp 73), type := 4, pos := "law.go:149", after := #[{ on := 3, ground := Go.Ground.data }, { on := 13, ground := Go.Ground.data }], guard := none } : Oper)) (v := .bool false) rfl (by kernel_rfl) (by kernel_rfl) (by kernel_rfl) (fun _ _ _ h => h) (Or.inl ⟨by rfl, fun w' _ => ?_⟩) hHeld'' ?_
            · go_simp
            simp only [Act.put, List.setIfInBounds_toArray, List.set_cons_zero, List.set_cons_succ]
            refine wpAnyH_done (by kernel_rfl) ?_ _
            go_wp2_with fail
            go_roundg g
            case measure => omega
            case rel => exact ⟨k + 1, by go_num, by omega, Lib.hid (HBW.out.trans (Below.mono hHeld'' HBW.out.size))⟩
    · obtain rfl : k = rs.length := by omega
      have hnI : ¬ (rs.length : Int) < (rs.length : Int) := by omega
      have hso := HSort.out HLM.out HRM.out wr (HE.out.below HB.out) (HA.out.below HB.out) (HR.out.below HB.out)
      have HSo := Lib.hid hso
      clear hso
      go_wp2_with fail
      refine HSo.out.mono ?_
      rintro e w4 ⟨ps, b, hps, rfl, hbw, hrec, hb4⟩
      have hcnt := fun f => perm_count rs ps (by have := hps.perm; unfold keysOf at this; rwa [List.length_map] at this) f
      have hpl : ps.length = rs.length := by have := hps.len; unfold keysOf at this; rwa [List.length_map] at this
      obtain ⟨outs, houts⟩ : ∃ outs, outs = ps.map (fun i => rs.getD i rvZero) := ⟨_, rfl⟩
      rw [← houts] at hrec
      simp only [← houts] at hcnt
      have hol : outs.length = rs.length := by rw [houts, List.length_map, hpl]
      have hom : ∀ (k : Nat) (r : RV), outs[k]? = some r → r.addr.length = 16 := fun k r h => by
        rw [houts, List.getElem?_map] at h
        cases hp : ps[k]? with
        | none => rw [hp] at h; cases h
        | some i =>
          rw [hp] at h
          obtain rfl := Option.some.inj h
          show (rs.getD i rvZero).addr.length = 16
          rw [List.getD_eq_getElem?_getD]
          cases hr : rs[i]? with
          | none => rfl
          | some r => exact HMem.out i r hr
      have HCnt := Lib.hid hcnt
      have HOl := Lib.hid hol
      have HOm := Lib.hid hom
      have HRec := Lib.hid hrec
      have HB4 := Lib.hid (HB.out.trans (hb4.mono HB.out.size))
      clear hcnt hol hom hrec hb4 hps hpl houts hbw HSo HB hnI
      go_wp2_with fail
      go_loopg [81] rs.length (fun gk i wr => ∃ k : Nat, i = .int .i64 k ∧ k + gk = rs.length ∧ Hid (Below w4.heap.size w4 wr))
      case atStart => exact ⟨0, rfl, by simp, Lib.hid (Below.refl _ _)⟩
      case round =>
        obtain ⟨k, rfl, hk, HBk⟩ := hrel
        by_cases hlt : k < rs.length
        · obtain ⟨g, rfl⟩ : ∃ g, gk = g + 1 := ⟨gk - 1, by omega⟩
          have hkI : (k : Int) < (rs.length : Int) := by omega
          obtain ⟨r, hr⟩ : ∃ r, rs[k]? = some r := ⟨_, List.getElem?_eq_getElem hlt⟩
          have hrl := HMem.out k r hr
          have hrs1 := rSize hrl
          have hro := RV.one r
          have hrz : rvZero.cells.toArray.size = r.cells.toArray.size := by rw [HZR1.out, List.size_toArray, RV.size hrl]
          have hbW : Below w.heap.size w wr := HB4.out.trans (HBk.out.mono HB4.out.size)
          obtain ⟨rb, ro, hRe, hyc⟩ := recs_at HR.out hbW hr
          obtain ⟨G, hG⟩ : ∃ G, G = wr.heap.size := ⟨_, rfl⟩
          obtain ⟨w5, hw5⟩ : ∃ w5, w5 = wr.alloc (.cells r.cells.toArray 29) := ⟨_, rfl⟩
          have c4 : w5.heap[G]? = some (.cells r.cells.toArray 29 (0, 0)) := by rw [hw5, hG]; exact heap_alloc_last _ _
          have hb5 : Below w4.heap.size w4 w5 := by rw [hw5]; exact HBk.out.alloc HBk.out.size _
          obtain ⟨rc, hrc⟩ : ∃ rc, rc = r.cells.toArray := ⟨_, rfl⟩
          rw [← hrc] at hyc hrz hw5 hrs1 hro c4
          obtain ⟨ZR, hZRd⟩ : ∃ Z, Z = rvZero.cells.toArray := ⟨_, rfl⟩
          have hZRA := HZR.out
          rw [← hZRd] at hZRA hrz
          have HZRA := Lib.hid hZRA
          have HRZ := Lib.hid hrz
          have HYC := Lib.hid hyc
          have HW5 := Lib.hid hw5
          have HRS := Lib.hid hrs1
          have HRO := Lib.hid hro
          have HB5 := Lib.hid hb5
          have C4 := Lib.hid c4
          have HG := Lib.hid hG
          have HRc := Lib.hid hrc
          have HRl := Lib.hid hrl
          have hk9 : k + (g + 1) = rs.length := hk
          clear hrl hrs1 hro hrz hbW hyc hG hw5 c4 hb5 hrc hZRA hZRd hr HBk
          subst hRe
          go_wp2_with (first
            | (refine wpList_load_agg rfl 29 (.tmp 83) rfl ⟨rb, ro + k * 21, none⟩ rfl rc _ HYC.out Tryd.underlying29 rfl HRS.out ?_; go_simp)
            | (refine wpList_alloc_z rfl 29 rfl ZR HZRA.out ?_; go_simp)
            | (refine wpList_store_new rfl 29 (.tmp 14) (.tmp 84) rfl wr.heap.size rfl ZR rc 29 rfl rfl HRS.out HRZ.out HRO.out ?_; go_simp))
          rw [← HW5.out, ← HG.out]
          clear HW5 HG
          go_loopg [87, 15] rs.length (fun gk2 i nn wr => ∃ j : Nat, i = .int .i64 j ∧ j + gk2 = rs.length ∧ nn = .int .i64 ((rs.take j).countP (fun y => eqRB y r) : Nat) ∧ Hid (Below w5.heap.size w5 wr))
          case atStart => exact ⟨0, rfl, by simp, rfl, Lib.hid (Below.refl _ _)⟩
          case round =>
            obtain ⟨j, rfl, hj, rfl, HBi⟩ := hrel
            have hcl : (rs.take j).countP (fun y => eqRB y r) ≤ 20 := Nat.le_trans (List.countP_le_length ..) (by rw [List.length_take]; have := HRM.out; omega)
            by_cases hltj : j < rs.length
            · obtain ⟨g2, rfl⟩ : ∃ g2, gk = g2 + 1 := ⟨gk - 1, by omega⟩
              have hjI : (j : Int) < (rs.length : Int) := by omega
              obtain ⟨y, hy⟩ : ∃ y, rs[j]? = some y := ⟨_, List.getElem?_eq_getElem hltj⟩
              have hyl := HMem.out j y hy
              have hst := count_step rs (fun y => eqRB y r) j y hy
              have hys1 := rSize hyl
              have hyo := RV.one y
              have hyz : rvZero.cells.toArray.size = y.cells.toArray.size := by rw [HZR1.out, List.size_toArray, RV.size hyl]
              have hbW : Below w.heap.size w wr := HB4.out.trans ((HB5.out.trans (HBi.out.mono HB5.out.size)).mono HB4.out.size)
              obtain ⟨rb2, ro2, hRe2, hlc⟩ := recs_at HR.out hbW hy
              injection hRe2 with hRe2
              injection hRe2 with q1 q2
              subst q1
              subst q2
              have heq := fun W => eq_rec W y r hyl HRl.out
              rw [← HRc.out] at heq
              obtain ⟨H, hH⟩ : ∃ H, H = wr.heap.size := ⟨_, rfl⟩
              obtain ⟨w8, hw8⟩ : ∃ w8, w8 = wr.alloc (.cells y.cells.toArray 29) := ⟨_, rfl⟩
              have hi8 : Below w5.heap.size w5 w8 := by rw [hw8]; exact HBi.out.alloc HBi.out.size _
              have e4 : w8.heap[G]? = some (.cells rc 29 (0, 0)) := (hi8.block G (heap_lt C4.out)).trans C4.out
              have e6 : w8.heap[H]? = some (.cells y.cells.toArray 29 (0, 0)) := by rw [hw8, hH]; exact heap_alloc_last _ _
              obtain ⟨yc, hyc⟩ : ∃ yc, yc = y.cells.toArray := ⟨_, rfl⟩
              rw [← hyc] at hys1 hyo hyz hlc hw8 e6 heq
              obtain ⟨eb, heb⟩ : ∃ eb, eb = eqRB y r := ⟨_, rfl⟩
              rw [← heb] at heq hst
              obtain ⟨cn, hcn⟩ : ∃ cn, cn = (rs.take j).countP (fun y => eqRB y r) := ⟨_, rfl⟩
              rw [← hcn] at hst hcl ⊢
              have HYS := Lib.hid hys1
              have HYO := Lib.hid hyo
              have HYZ := Lib.hid hyz
              have HLC := Lib.hid hlc
              have HSt := Lib.hid hst
              have HEq := Lib.hid heq
              have HW8 := Lib.hid hw8
              have HH := Lib.hid hH
              have HI8 := Lib.hid hi8
              have E4 := Lib.hid e4
              have E6 := Lib.hid e6
              have hj9 : j + (g2 + 1) = rs.length := hj
              obtain ⟨ZR2, hZR2⟩ : ∃ Z, Z = rvZero.cells.toArray := ⟨_, rfl⟩
              have hZRA := HZR.out
              have hyz := HYZ.out
              rw [← hZR2] at hZRA hyz
              have HZRA2 := Lib.hid hZRA
              have HYZ2 := Lib.hid hyz
              clear hZRA hyz hZR2 HYZ hys1 hyo hlc hst heq hw8 hH hi8 e4 e6 hyc heb hcn hyl hy hbW HBi
              go_upto_region 26 with (first
                | (refine wpList_load_agg rfl 29 (.tmp 89) rfl ⟨rb, ro + j * 21, none⟩ rfl yc _ HLC.out Tryd.underlying29 rfl HYS.out ?_; go_simp)
                | (refine wpList_alloc_z rfl 29 rfl ZR2 HZRA2.out ?_; go_simp)
                | (refine wpList_store_new rfl 29 (.tmp 17) (.tmp 90) rfl wr.heap.size rfl ZR2 yc 29 rfl rfl HYS.out HYZ2.out HYO.out ?_; go_simp))
              rw [← HW8.out, ← HH.out]
              cases eb with
              | true =>
                have HSt2 := Lib.hid (show (rs.take (j + 1)).countP (fun y => eqRB y r) = cn + 1 by rw [HSt.out]; rfl)
                clear HSt
                go_wp2_with (first
                  | (refine wpList_load_row ?_ 29 (.tmp 17) ?_ H ?_ 29 yc (0, 0) _ E6.out Tryd.underlying29 ?_ HYS.out ?_; (· rfl); (· rfl); (· rfl); (· rfl); go_simp)
                  | (refine wpList_load_row ?_ 29 (.tmp 14) ?_ G ?_ 29 rc (0, 0) _ E4.out Tryd.underlying29 ?_ HRS.out ?_; (· rfl); (· rfl); (· rfl); (· rfl); go_simp)
                  | (refine wpList_eql_rec_gh (by kernel_rfl) 29 (.tmp 91) (.tmp 92) 29 rfl yc rc true rfl rfl eqGuardRec (HEq.out _) ?_; go_simp))
                go_roundg g2
                case measure => omega
                case rel => exact ⟨j + 1, by go_num, by omega, by rw [HSt2.out]; go_num, HI8⟩
              | false =>
                have HSt2 := Lib.hid (show (rs.take (j + 1)).countP (fun y => eqRB y r) = cn by rw [HSt.out]; rfl)
                clear HSt
                go_wp2_with (first
                  | (refine wpList_load_row ?_ 29 (.tmp 17) ?_ H ?_ 29 yc (0, 0) _ E6.out Tryd.underlying29 ?_ HYS.out ?_; (· rfl); (· rfl); (· rfl); (· rfl); go_simp)
                  | (refine wpList_load_row ?_ 29 (.tmp 14) ?_ G ?_ 29 rc (0, 0) _ E4.out Tryd.underlying29 ?_ HRS.out ?_; (· rfl); (· rfl); (· rfl); (· rfl); go_simp)
                  | (refine wpList_eql_rec_gh (by kernel_rfl) 29 (.tmp 91) (.tmp 92) 29 rfl yc rc false rfl rfl eqGuardRec (HEq.out _) ?_; go_simp))
                go_roundg g2
                case measure => omega
                case rel => exact ⟨j + 1, by go_num, by omega, by rw [HSt2.out], HI8⟩
            · obtain rfl : j = rs.length := by omega
              have hjI : ¬ (rs.length : Int) < (rs.length : Int) := by omega
              rw [List.take_length] at hcl ⊢
              have HC0 := Lib.hid (HCnt.out (fun y => eqRB y r))
              obtain ⟨c0, hc0⟩ : ∃ c0, c0 = rs.countP (fun y => eqRB y r) := ⟨_, rfl⟩
              have hcn := HC0.out
              rw [← hc0] at hcl hcn ⊢
              have HCn := Lib.hid hcn
              have HIi := Lib.hid HBi.out
              have hol := HOl.out
              have HOl2 := Lib.hid hol
              clear hcn HC0 hc0 hol HBi
              go_wp2_with fail
              go_loopg [99, 15] rs.length (fun gk2 i nn wr => ∃ j : Nat, i = .int .i64 j ∧ j + gk2 = rs.length ∧ nn = .int .i64 ((c0 : Int) - ((outs.take j).countP (fun y => eqRB y r) : Nat)) ∧ Hid (Below w5.heap.size w5 wr))
              case atStart => exact ⟨0, rfl, by simp, by simp, HIi⟩
              case round =>
                obtain ⟨j, rfl, hj, rfl, HBi⟩ := hrel
                have hcl2 : (outs.take j).countP (fun y => eqRB y r) ≤ 20 := Nat.le_trans (List.countP_le_length ..) (by rw [List.length_take]; have := HRM.out; have := HOl.out; omega)
                by_cases hltj : j < rs.length
                · obtain ⟨g2, rfl⟩ : ∃ g2, gk = g2 + 1 := ⟨gk - 1, by omega⟩
                  have hjI : (j : Int) < (rs.length : Int) := by omega
                  obtain ⟨y, hy⟩ : ∃ y, outs[j]? = some y := ⟨_, List.getElem?_eq_getElem (by rw [HOl.out]; exact hltj)⟩
                  have hyl := HOm.out j y hy
                  have hst := count_step outs (fun y => eqRB y r) j y hy
                  have hys1 := rSize hyl
                  have hyo := RV.one y
                  have hyz : rvZero.cells.toArray.size = y.cells.toArray.size := by rw [HZR1.out, List.size_toArray, RV.size hyl]
                  have hbW : Below w4.heap.size w4 wr := HB5.out.trans (HBi.out.mono HB5.out.size)
                  obtain ⟨rb2, ro2, hRe2, hlc⟩ := recs_at HRec.out hbW hy
                  injection hRe2 with hRe2
                  injection hRe2 with q1 q2
                  subst q1
                  subst q2
                  rw [Nat.zero_add] at hlc
                  have heq := fun W => eq_rec W y r hyl HRl.out
                  rw [← HRc.out] at heq
                  obtain ⟨H, hH⟩ : ∃ H, H = wr.heap.size := ⟨_, rfl⟩
                  obtain ⟨w8, hw8⟩ : ∃ w8, w8 = wr.alloc (.cells y.cells.toArray 29) := ⟨_, rfl⟩
                  have hi8 : Below w5.heap.size w5 w8 := by rw [hw8]; exact HBi.out.alloc HBi.out.size _
                  have e4 : w8.heap[G]? = some (.cells rc 29 (0, 0)) := (hi8.block G (heap_lt C4.out)).trans C4.out
                  have e6 : w8.heap[H]? = some (.cells y.cells.toArray 29 (0, 0)) := by rw [hw8, hH]; exact heap_alloc_last _ _
                  obtain ⟨yc, hyc⟩ : ∃ yc, yc = y.cells.toArray := ⟨_, rfl⟩
                  rw [← hyc] at hys1 hyo hyz hlc hw8 e6 heq
                  obtain ⟨eb, heb⟩ : ∃ eb, eb = eqRB y r := ⟨_, rfl⟩
                  rw [← heb] at heq hst
                  obtain ⟨cn, hcn⟩ : ∃ cn, cn = (outs.take j).countP (fun y => eqRB y r) := ⟨_, rfl⟩
                  rw [← hcn] at hst hcl2 ⊢
                  obtain ⟨D, hD⟩ : ∃ D : Int, D = (c0 : Int) - (cn : Int) := ⟨_, rfl⟩
                  rw [← hD]
                  have hD1 : -20 ≤ D := by omega
                  have hD2 : D ≤ 20 := by omega
                  have HD := Lib.hid hD
                  have hwD : IntKind.i64.wrap (D - 1) = D - 1 := by rw [IntKind.wrap_i64]; omega
                  have HYS := Lib.hid hys1
                  have HYO := Lib.hid hyo
                  have HLC := Lib.hid hlc
                  have HSt := Lib.hid hst
                  have HEq := Lib.hid heq
                  have HW8 := Lib.hid hw8
                  have HH := Lib.hid hH
                  have HI8 := Lib.hid hi8
                  have E4 := Lib.hid e4
                  have E6 := Lib.hid e6
                  have hj9 : j + (g2 + 1) = rs.length := hj
                  obtain ⟨ZR2, hZR2⟩ : ∃ Z, Z = rvZero.cells.toArray := ⟨_, rfl⟩
                  have hZRA := HZR.out
                  rw [← hZR2] at hZRA hyz
                  have HZRA2 := Lib.hid hZRA
                  have HYZ2 := Lib.hid hyz
                  clear hZRA hyz hZR2 hys1 hyo hlc hst heq hw8 hH hi8 e4 e6 hyc heb hcn hyl hy hbW HBi hD
                  go_upto_region 32 with (first
                    | (refine wpList_load_agg rfl 29 (.tmp 101) rfl ⟨b, j * 21, none⟩ rfl yc _ HLC.out Tryd.underlying29 rfl HYS.out ?_; go_simp)
                    | (refine wpList_alloc_z rfl 29 rfl ZR2 HZRA2.out ?_; go_simp)
                    | (refine wpList_store_new rfl 29 (.tmp 19) (.tmp 102) rfl wr.heap.size rfl ZR2 yc 29 rfl rfl HYS.out HYZ2.out HYO.out ?_; go_simp))
                  rw [← HW8.out, ← HH.out]
                  cases eb with
                  | true =>
                    have HSt2 := Lib.hid (show (outs.take (j + 1)).countP (fun y => eqRB y r) = cn + 1 by rw [HSt.out]; rfl)
                    clear HSt
                    go_wp2_with (first
                      | (refine wpList_load_row ?_ 29 (.tmp 19) ?_ H ?_ 29 yc (0, 0) _ E6.out Tryd.underlying29 ?_ HYS.out ?_; (· rfl); (· rfl); (· rfl); (· rfl); go_simp)
                      | (refine wpList_load_row ?_ 29 (.tmp 14) ?_ G ?_ 29 rc (0, 0) _ E4.out Tryd.underlying29 ?_ HRS.out ?_; (· rfl); (· rfl); (· rfl); (· rfl); go_simp)
                      | (refine wpList_eql_rec_gh (by kernel_rfl) 29 (.tmp 103) (.tmp 104) 29 rfl yc rc true rfl rfl eqGuardRec (HEq.out _) ?_; go_simp))
                    go_roundg g2
                    case measure => omega
                    case rel => exact ⟨j + 1, by go_num, by omega, by rw [HSt2.out, HD.out]; congr 1; omega, HI8⟩
                  | false =>
                    have HSt2 := Lib.hid (show (outs.take (j + 1)).countP (fun y => eqRB y r) = cn by rw [HSt.out]; rfl)
                    clear HSt
                    go_wp2_with (first
                      | (refine wpList_load_row ?_ 29 (.tmp 19) ?_ H ?_ 29 yc (0, 0) _ E6.out Tryd.underlying29 ?_ HYS.out ?_; (· rfl); (· rfl); (· rfl); (· rfl); go_simp)
                      | (refine wpList_load_row ?_ 29 (.tmp 14) ?_ G ?_ 29 rc (0, 0) _ E4.out Tryd.underlying29 ?_ HRS.out ?_; (· rfl); (· rfl); (· rfl); (· rfl); go_simp)
                      | (refine wpList_eql_rec_gh (by kernel_rfl) 29 (.tmp 103) (.tmp 104) 29 rfl yc rc false rfl rfl eqGuardRec (HEq.out _) ?_; go_simp))
                    go_roundg g2
                    case measure => omega
                    case rel => exact ⟨j + 1, by go_num, by omega, by rw [HSt2.out, HD.out], HI8⟩
                · obtain rfl : j = rs.length := by omega
                  have hjI : ¬ (rs.length : Int) < (rs.length : Int) := by omega
                  have hz : (c0 : Int) - ((outs.take rs.length).countP (fun y => eqRB y r) : Nat) = 0 := by
                    rw [← HOl.out, List.take_length, HCn.out]; omega
                  rw [hz]
                  have HIe := Lib.hid (HB5.out.trans (HBi.out.mono HB5.out.size))
                  clear hz hcl2 HBi
                  go_wp2_with fail
                  go_roundg g
                  case measure => omega
                  case rel => exact ⟨k + 1, by go_num, by omega, HIe⟩
        · obtain rfl : k = rs.length := by omega
          have hnI : ¬ (rs.length : Int) < (rs.length : Int) := by omega
          have HFin := Lib.hid (HB4.out.trans (HBk.out.mono HB4.out.size))
          go_wp2_with fail
          go_ret
          exact ⟨rfl, HFin.out⟩
end Go.Proofs.YtbgchenknmfmpaaDoor
