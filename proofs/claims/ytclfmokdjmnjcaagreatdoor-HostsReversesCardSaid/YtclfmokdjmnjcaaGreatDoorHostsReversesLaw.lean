/-
  The walk of HostsReverses: each line that is there is found by its address's name, the first one of several first. Conditions: the text is one that may come in; the library's variables hold what their initialisers lay.
-/
import Derived.Test.YtclfmokdjmnjcaaGreatDoorHostsNs
import Derived.Test.YtclfmokdjmnjcaaGreatDoorHostsTypesLaw
import Derived.Test.YtclfmokdjmnjcaaGreatDoorHostsLinesLaw
import Derived.Deep.RegionHeld3
import Derived.BigQuiet
namespace Go.Proofs.YtclfmokdjmnjcaaGreatDoor
open Go.RowKit

/-- how many lines have this address -/
def cntH (ls : List HV) (a : List UInt8) : Nat := (ls.filter fun g => g.h.addr == a).length
theorem cntH_step {ls : List HV} {k : Nat} {x : HV} (a : List UInt8) (h : ls[k]? = some x) : cntH (ls.take (k + 1)) a = cntH (ls.take k) a + (if (x.h.addr == a) = true then 1 else 0) := by
  unfold cntH
  rw [List.take_add_one, h, List.filter_append, List.length_append]
  congr 1
  show (List.filter _ [x]).length = _
  rw [List.filter_cons]
  split <;> rfl
theorem rev_facts {ls : List HV} {x : HV} (hg : ∀ g ∈ ls, Good g.h) (hm : x ∈ ls) :
    (findL (ls.map (·.h)) (rvT x.h.addr) 12).length = min (cntH ls x.h.addr) 32 ∧ 0 < cntH ls x.h.addr ∧ (ls.map (·.h)).any (hitH (rvT x.h.addr)) = true ∧ ∃ r g, (findL (ls.map (·.h)) (rvT x.h.addr) 12)[0]? = some r ∧ r.addr.length = 16 ∧ g ∈ ls ∧ r.text = g.h.names.headD [] := by
  have hg' : ∀ g ∈ ls.map (·.h), Good g := fun g hh => by
    obtain ⟨y, hy, rfl⟩ := List.mem_map.1 hh
    exact hg y hy
  have hf : findL (ls.map (·.h)) (rvT x.h.addr) 12 = ((ls.filter fun g => g.h.addr == x.h.addr).map fun g => (⟨zero16', g.h.names.headD []⟩ : RecM)).take 32 := by
    unfold findL
    rw [rec_rev hg' (hg x hm), List.filter_map, List.map_map]; rfl
  have hmem : x ∈ ls.filter fun g => g.h.addr == x.h.addr := List.mem_filter.2 ⟨hm, beq_self_eq_true _⟩
  rw [hf]
  refine ⟨by rw [List.length_take, List.length_map]; unfold cntH; omega, by unfold cntH; exact List.length_pos_of_mem hmem, List.any_eq_true.2 ⟨x.h, List.mem_map.2 ⟨x, hm, rfl⟩, by unfold hitH; rw [beq_self_eq_true]; rfl⟩, ?_⟩
  cases hc : ls.filter fun g => g.h.addr == x.h.addr with
  | nil => rw [hc] at hmem; cases hmem
  | cons g gs => exact ⟨⟨zero16', g.h.names.headD []⟩, g, rfl, rfl, (List.mem_filter.1 (by rw [hc]; exact List.mem_cons_self : g ∈ ls.filter fun g => g.h.addr == x.h.addr)).1, rfl⟩
set_option maxRecDepth 100000 in
set_option maxHeartbeats 4000000 in
theorem hostsReverses_walk (s : ByteArray) (hs : s.size ≤ 140737488351232) (w : World) (he : AEnv w) :
    Calls Tryz.prog 7 #[.string s] w fun e w' => e = .returned (.bool true) ∧ Below w.heap.size w w' := by
  have HE := Lib.hid he
  have huH := Tryz.underlying31
  have huA := Tryz.underlying28
  have HL := Lib.hid (fun W => light_e s W (by omega))
  obtain ⟨ZH, hZH⟩ : ∃ ZH, ZH = (bvs zero16).toArray.push (.slice none 0 0) := ⟨_, rfl⟩
  have HZA : Hid ((Tryz.prog.info? 31).map (·.zero) = some (some (.agg ZH))) := Lib.hid (by rw [hZH]; kernel_rfl)
  have HZ17 : Hid (ZH.size = 17) := Lib.hid (by rw [hZH]; rfl)
  have HSI : Hid ((Tryz.prog.info? 31).map (·.size) = some 17) := Lib.hid (by kernel_rfl)
  clear he hZH
  go_enter Tryz.func7, Tryz.ntmps7
  go_wp2_with fail
  refine (fit6_e _ HE.out).mono ?_
  rintro e w1 ⟨rfl, hb1⟩
  have HB1 := Lib.hid hb1
  have HE1 := Lib.hid (HE.out.below hb1)
  clear hb1
  by_cases hs2 : s.size ≤ 2000
  · rw [decide_eq_true hs2] at HL
    have hp := hparse_e s w1 HE1.out (by omega)
    go_wp2_with (go_at_call 10; refine (HL.out _).mono ?_; rintro e w2 ⟨rfl, hw⟩; obtain rfl := hw.symm)
    refine hp.mono ?_
    rintro e w2 ⟨l, v, hpd, rfl, hv, hb2⟩
    obtain ⟨A, c, rfl, hA⟩ := hv.form
    have hll : l.length ≤ 64 := by have := hpd.len; rwa [List.length_map] at this
    have HB2 := Lib.hid (HB1.out.trans (hb2.mono HB1.out.size))
    have HE2 := Lib.hid (HE1.out.below hb2)
    have HA2 := Lib.hid hA
    have HGd : Hid (∀ g ∈ l, Good g.h) := Lib.hid (fun g hg => hA.good g.h (List.mem_map.2 ⟨g, hg, rfl⟩))
    clear hp hv hb2 hpd hA
    go_wp2_with fail
    go_loopg [20, 5, 6, 7, 8, 10] l.length (fun gk i _ _ _ _ _ wr => ∃ k : Nat, i = .int .i64 k ∧ k + gk = l.length ∧ Hid (Below w2.heap.size w2 wr))
    case atStart => exact ⟨0, rfl, by simp, Lib.hid (Below.refl _ _)⟩
    case round =>
      obtain ⟨k, rfl, hk, HBW⟩ := hrel
      by_cases hlt : k < l.length
      · obtain ⟨g, rfl⟩ : ∃ g, gk = g + 1 := ⟨gk - 1, by omega⟩
        obtain ⟨x, hx⟩ : ∃ x, l[k]? = some x := ⟨_, List.getElem?_eq_getElem hlt⟩
        obtain ⟨b, rfl, hrow2⟩ := HA2.out (List.ne_nil_of_mem (List.mem_of_getElem? hx))
        have hrow := hrow2.below HBW.out
        have hmx := List.mem_of_getElem? hx
        have hgx := HGd.out x hmx
        have hkI : (k : Int) < (l.length : Int) := by omega
        have hld := hrow.load hx
        have hbk : HBlk (wr.alloc (.cells x.cells.toArray 31)) wr.heap.size x := HBlk.new hgx.len (hrow.ns.names x hmx)
        have hsc : x.cells.toArray.size = 17 := by rw [List.size_toArray]; exact HV.len hgx.len
        have hc1 : x.cells.toArray.all (·.oneCell') = true := by rw [List.all_toArray]; exact List.all_eq_true.2 x.one
        obtain ⟨cs, hcs⟩ : ∃ cs, cs = x.cells.toArray := ⟨_, rfl⟩
        rw [← hcs] at hld hbk hsc hc1
        have HZS : Hid (ZH.size = cs.size) := Lib.hid (by rw [hsc]; exact HZ17.out)
        have HSc : Hid ((Tryz.prog.info? 31).map (·.size) = some cs.size) := Lib.hid (by rw [hsc]; exact HSI.out)
        have hb0 : Below wr.heap.size wr (wr.alloc (.cells cs 31)) := (Below.refl _ wr).alloc (Nat.le_refl _) _
        have HLD := Lib.hid hld
        have HC1 := Lib.hid hc1
        have HBK := Lib.hid hbk
        have HBV := Lib.hid (HBW.out.trans (hb0.mono HBW.out.size))
        have HE0 := Lib.hid (HE2.out.below HBV.out)
        have hSa := sizeBv hgx.len
        have HRv := Lib.hid (fun W (hW : AEnv W) => rv_e x.h.addr hgx.len W hW)
        obtain ⟨r, hr⟩ : ∃ r, r = (bvs x.h.addr).toArray := ⟨_, rfl⟩
        simp only [← hr] at HRv hSa
        have HSa := Lib.hid hSa
        have hby : ∀ W g, HBlk W g x → ∀ j v, r.toList[j]? = some v → W.cell? ((⟨g, 0, none⟩ : Addr).add j) = some v := fun W g h => by rw [hr]; exact h.byte
        have HBy := Lib.hid hby
        have HByA := Lib.hid (hby _ _ hbk)
        have HR := Lib.hid hr
        have HGX := Lib.hid hgx.len
        have HFacts := Lib.hid (rev_facts HGd.out hmx)
        have hbl : b < w2.heap.size := hrow2.lt
        have HRow2 := Lib.hid hrow2
        clear hrow2 hrow hgx hld hbk hsc hc1 hcs hb0 hSa hr hby hx hmx
        go_wp2_with (first
          | (refine wpList_load_agg rfl 31 (.tmp 22) rfl ⟨b, k * 17, none⟩ rfl cs _ HLD.out huH rfl HSc.out ?_; go_simp)
          | (refine wpList_alloc_z rfl 31 rfl ZH HZA.out ?_; go_simp)
          | (refine wpList_store_new rfl 31 (.tmp 5) (.tmp 23) rfl wr.heap.size rfl ZH cs 31 rfl rfl HSc.out HZS.out HC1.out ?_; go_simp)
          | (refine wpList_load_agg rfl 28 (.tmp 26) rfl ⟨wr.heap.size, 0, none⟩ rfl r _ HByA.out huA rfl HSa.out ?_; go_simp))
        refine (HRv.out _ HE0.out).mono ?_
        rintro e w3 ⟨rfl, hb3⟩
        have HB3 := Lib.hid (HBV.out.trans (hb3.mono HBV.out.size))
        have HE3 := Lib.hid (HE0.out.below hb3)
        have HBK3 := Lib.hid (HBK.out.below hb3)
        clear hb3
        have hf := find_e (some ⟨b, 0, none⟩) c l.length l (tb (rvT x.h.addr)) 12 w3 HE3.out (fun _ => ⟨b, rfl, HRow2.out.below HB3.out⟩) rfl hll
        go_wp2_with fail
        refine hf.mono ?_
        rintro e w4 ⟨rv, rfl, hrv, hb4⟩
        rw [tb_data] at hrv
        obtain ⟨hRl, hc0, hany, r0, g0, hr0, hr0a, hg0, ht0⟩ := HFacts.out
        have hRA := rec_addr (n := rvT x.h.addr) (kind := 12) (l := l.map (·.h)) (fun h hh => by
          obtain ⟨y, hy, rfl⟩ := List.mem_map.1 hh
          exact (HGd.out y hy).len)
        rw [show (l.map (·.h)).any (hitH (tb (rvT x.h.addr)).data.toList) = true from hany]
        generalize findL (l.map (·.h)) (rvT x.h.addr) 12 = RS at hrv hRl hr0 hRA
        obtain ⟨b4, c4, rfl, hb4l, hc4⟩ : ∃ b4 c4, rv = .slice (some ⟨b4, 0, none⟩) RS.length c4 ∧ b4 < w4.heap.size ∧ ∀ k u, (rvsF (tb (rvT x.h.addr)) 12 RS)[k]? = some u → w4.cell? ⟨b4, k, none⟩ = some u := by
          rcases hrv with ⟨e, _⟩ | ⟨_, b4, c4, e, h1, h2⟩
          · rw [e] at hr0; cases hr0
          · exact ⟨b4, c4, e, h1, h2⟩
        obtain ⟨q0, q1, q2, q19, q20⟩ := rc_at (tb (rvT x.h.addr)) 12 hr0a
        have C1 : Hid (w4.cell? ⟨b4, 1, none⟩ = some (.int .i64 12)) := Lib.hid (hc4 1 _ (by
          have h := rvsF_at (n := tb (rvT x.h.addr)) (kind := 12) (j := 1) hRA hr0 (by omega)
          rw [Nat.zero_mul, Nat.zero_add] at h
          rw [h]; exact q1))
        have C19 : Hid (w4.cell? ⟨b4, 19, none⟩ = some (.string (tb r0.text))) := Lib.hid (hc4 19 _ (by
          have h := rvsF_at (n := tb (rvT x.h.addr)) (kind := 12) (j := 19) hRA hr0 (by omega)
          rw [Nat.zero_mul, Nat.zero_add] at h
          rw [h]; exact q19))
        have HIn : Hid (Lib.containsS (firstN l) (tb r0.text) = true) := Lib.hid (by
          rw [Lib.containsS_iff, ht0]
          exact List.mem_map.2 ⟨g0, hg0, rfl⟩)
        have HB4 := Lib.hid (HB3.out.trans (hb4.mono HB3.out.size))
        have HBK4 := Lib.hid (HBK3.out.below hb4)
        have HRow4 := Lib.hid (HRow2.out.below HB4.out)
        generalize tb r0.text = tx at C19 HIn
        have hR32 : RS.length ≤ 32 := by omega
        have hR0 : 0 < RS.length := by omega
        generalize RS.length = m at hRl hR32 hR0
        have HRl := Lib.hid hRl
        have hbl4 := HRow4.out.lt
        clear hf hb4 hrv hRl hc0 hany hr0 hr0a hg0 ht0 hRA hc4 q0 q1 q2 q19 q20
        generalize wr.heap.size = gx at HBK4 ⊢
        go_wp2_with fail
        go_loopg [34, 8, 10] l.length (fun gk i n _ wr2 => ∃ k2 c2 : Nat, i = .int .i64 k2 ∧ k2 + gk = l.length ∧ n = .int .i64 c2 ∧ c2 ≤ k2 ∧ Hid (c2 = cntH (l.take k2) x.h.addr) ∧ Hid (Below w4.heap.size w4 wr2))
        case atStart => exact ⟨0, 0, rfl, by simp, rfl, Nat.le_refl _, Lib.hid rfl, Lib.hid (Below.refl _ _)⟩
        case round =>
          obtain ⟨k2, c2, rfl, hk2, rfl, hc2, HC2, HBX⟩ := hrel
          by_cases hlt2 : k2 < l.length
          · obtain ⟨g2, rfl⟩ : ∃ g', gk = g' + 1 := ⟨gk - 1, by omega⟩
            obtain ⟨y, hy⟩ : ∃ y, l[k2]? = some y := ⟨_, List.getElem?_eq_getElem hlt2⟩
            have hrw := HRow4.out.below HBX.out
            have hmy := List.mem_of_getElem? hy
            have hgy := HGd.out y hmy
            have hkI2 : (k2 : Int) < (l.length : Int) := by omega
            have hldy := hrw.load hy
            have hbky : HBlk (wr.alloc (.cells y.cells.toArray 31)) wr.heap.size y := HBlk.new hgy.len (hrw.ns.names y hmy)
            have hsy : y.cells.toArray.size = 17 := by rw [List.size_toArray]; exact HV.len hgy.len
            have hy1 : y.cells.toArray.all (·.oneCell') = true := by rw [List.all_toArray]; exact List.all_eq_true.2 y.one
            obtain ⟨cy, hcy⟩ : ∃ cs, cs = y.cells.toArray := ⟨_, rfl⟩
            rw [← hcy] at hldy hbky hsy hy1
            have HZSy : Hid (ZH.size = cy.size) := Lib.hid (by rw [hsy]; exact HZ17.out)
            have HScy : Hid ((Tryz.prog.info? 31).map (·.size) = some cy.size) := Lib.hid (by rw [hsy]; exact HSI.out)
            have hSy := sizeBv hgy.len
            obtain ⟨ry, hry⟩ : ∃ ry, ry = (bvs y.h.addr).toArray := ⟨_, rfl⟩
            have HQ : ∀ W : World, (Op.equalIn 10000 28 (.agg ry) (.agg r)).run Tryz.prog W = .ok (y.h.addr == x.h.addr) W := fun W => by rw [hry, HR.out]; exact run_eq_addr W hgy.len HGX.out
            have hb1 : Below wr.heap.size wr (wr.alloc (.cells cy 31)) := (Below.refl _ wr).alloc (Nat.le_refl _) _
            have HBX1 := Lib.hid (HBX.out.trans (hb1.mono HBX.out.size))
            have HByY : Hid (∀ j v, ry.toList[j]? = some v → (wr.alloc (.cells cy 31)).cell? ((⟨wr.heap.size, 0, none⟩ : Addr).add j) = some v) := Lib.hid (by rw [hry]; exact hbky.byte)
            have HByX := Lib.hid (HBy.out _ _ (HBK4.out.below HBX1.out))
            rw [← hry] at hSy
            have HSy := Lib.hid hSy
            have HLDY := Lib.hid hldy
            have HY1 := Lib.hid hy1
            have hcs := cntH_step x.h.addr hy
            clear hrw hmy hgy hldy hbky hsy hy1 hcy hSy hry hb1 hy
            generalize (y.h.addr == x.h.addr) = q at HQ hcs
            have HCS := Lib.hid hcs
            clear hcs
            cases q
            · go_wp2_with (first
                | (refine wpList_load_agg rfl 31 (.tmp 36) rfl ⟨b, k2 * 17, none⟩ rfl cy _ HLDY.out huH rfl HScy.out ?_; go_simp)
                | (refine wpList_alloc_z rfl 31 rfl ZH HZA.out ?_; go_simp)
                | (refine wpList_store_new rfl 31 (.tmp 10) (.tmp 37) rfl wr.heap.size rfl ZH cy 31 rfl rfl HScy.out HZSy.out HY1.out ?_; go_simp)
                | (refine wpList_load_agg rfl 28 (.tmp 38) rfl ⟨wr.heap.size, 0, none⟩ rfl ry _ HByY.out huA rfl HSy.out ?_; go_simp)
                | (refine wpList_load_agg rfl 28 (.tmp 40) rfl ⟨gx, 0, none⟩ rfl r _ HByX.out huA rfl HSa.out ?_; go_simp))
              go_roundg g2
              case measure => omega
              case rel => exact ⟨k2 + 1, c2, by go_num, by omega, rfl, by omega, Lib.hid (by have := HCS.out; rw [if_neg (by decide)] at this; rw [this, ← HC2.out]; rfl), HBX1⟩
            · go_wp2_with (first
                | (refine wpList_load_agg rfl 31 (.tmp 36) rfl ⟨b, k2 * 17, none⟩ rfl cy _ HLDY.out huH rfl HScy.out ?_; go_simp)
                | (refine wpList_alloc_z rfl 31 rfl ZH HZA.out ?_; go_simp)
                | (refine wpList_store_new rfl 31 (.tmp 10) (.tmp 37) rfl wr.heap.size rfl ZH cy 31 rfl rfl HScy.out HZSy.out HY1.out ?_; go_simp)
                | (refine wpList_load_agg rfl 28 (.tmp 38) rfl ⟨wr.heap.size, 0, none⟩ rfl ry _ HByY.out huA rfl HSy.out ?_; go_simp)
                | (refine wpList_load_agg rfl 28 (.tmp 40) rfl ⟨gx, 0, none⟩ rfl r _ HByX.out huA rfl HSa.out ?_; go_simp))
              go_roundg g2
              case measure => omega
              case rel => exact ⟨k2 + 1, c2 + 1, by go_num, by omega, by go_num, by omega, Lib.hid (by have := HCS.out; rw [if_pos trivial] at this; rw [this, ← HC2.out]), HBX1⟩
          · have hkI2 : ¬ (k2 : Int) < (l.length : Int) := by omega
            have hmc : m = min c2 32 := by
              have h1 := HC2.out
              rw [List.take_of_length_le (by omega)] at h1
              rw [HRl.out, ← h1]
            have hmi : (min (c2 : Int) 32) = (m : Int) := by omega
            have hm0 : (0 : Int) < (m : Int) := by omega
            have HMC := Lib.hid hmc
            clear hmc
            go_wp2_with fail
            refine wp_region_held_drew (S := (fun W : World => Below w4.heap.size w4 W)) (by kernel_rfl) HBX.out.drew (fun hHeld => ?_)
            refine wpAnyH_take (i := 0) (oi := ({ dst := some 46, op := Go.Op.move (Go.Operand.tmp 7), type := 4, pos := "law.go:216", after := #[], guard := none } : Oper)) (v := .bool true) rfl (by kernel_rfl) (by kernel_rfl) (by kernel_rfl) (fun _ _ _ h => h) (Or.inl ⟨by rfl, fun w' _ => ?_⟩) hHeld ?_
            · go_simp
            simp only [Act.put, List.setIfInBounds_toArray, List.set_cons_zero, List.set_cons_succ]
            refine wpAnyH_take (i := 1) (oi := ({ dst := some 47, op := Go.Op.unOp Go.UnOp.not 4 (Go.Operand.tmp 46), type := 4, pos := "law.go:216", after := #[{ on := 0, ground := Go.Ground.data }], guard := none } : Oper)) (v := .bool false) rfl (by kernel_rfl) (by kernel_rfl) (by kernel_rfl) (fun _ _ _ h => h) (Or.inl ⟨by rfl, fun w' _ => ?_⟩) hHeld ?_
            · go_simp
            simp only [Act.put, List.setIfInBounds_toArray, List.set_cons_zero, List.set_cons_succ]
            refine wpAnyH_take (i := 2) (oi := ({ dst := some 48, op := Go.Op.move (Go.Operand.tmp 47), type := 4, pos := "law.go:216", after := #[{ on := 1, ground := Go.Ground.data }], guard := none } : Oper)) (v := .bool false) rfl (by kernel_rfl) (by kernel_rfl) (by kernel_rfl) (fun _ _ _ h => h) (Or.inl ⟨by rfl, fun w' _ => ?_⟩) hHeld ?_
            · go_simp
            simp only [Act.put, List.setIfInBounds_toArray, List.set_cons_zero, List.set_cons_succ]
            refine wpAnyH_take (i := 3) (oi := ({ dst := some 49, op := Go.Op.move (Go.Operand.tmp 6), type := 36, pos := "law.go:216", after := #[{ on := 2, ground := Go.Ground.guard }], guard := some (2, false) } : Oper)) (v := .slice (some ⟨b4, 0, none⟩) m c4) rfl (by kernel_rfl) (by kernel_rfl) (by kernel_rfl) (fun _ _ _ h => h) (Or.inl ⟨by rfl, fun w' _ => ?_⟩) hHeld ?_
            · go_simp
            simp only [Act.put, List.setIfInBounds_toArray, List.set_cons_zero, List.set_cons_succ]
            refine wpAnyH_take (i := 4) (oi := ({ dst := some 50, op := Go.Op.call { callee := Go.Callee.builtin Go.Builtin.len, args := #[Go.Operand.tmp 49], argTypes := #[36] }, type := 3, pos := "law.go:216", after := #[{ on := 3, ground := Go.Ground.data }, { on := 2, ground := Go.Ground.guard }], guard := some (2, false) } : Oper)) (v := .int .i64 m) rfl (by kernel_rfl) (by kernel_rfl) (by kernel_rfl) (fun _ _ _ h => h) (Or.inl ⟨by rfl, fun w' _ => ?_⟩) hHeld ?_
            · go_simp
            simp only [Act.put, List.setIfInBounds_toArray, List.set_cons_zero, List.set_cons_succ]
            refine wpAnyH_take (i := 5) (oi := ({ dst := some 51, op := Go.Op.move (Go.Operand.tmp 8), type := 3, pos := "law.go:216", after := #[{ on := 2, ground := Go.Ground.guard }], guard := some (2, false) } : Oper)) (v := .int .i64 c2) rfl (by kernel_rfl) (by kernel_rfl) (by kernel_rfl) (fun _ _ _ h => h) (Or.inl ⟨by rfl, fun w' _ => ?_⟩) hHeld ?_
            · go_simp
            simp only [Act.put, List.setIfInBounds_toArray, List.set_cons_zero, List.set_cons_succ]
            refine wpAnyH_take (i := 6) (oi := ({ dst := some 52, op := Go.Op.call { callee := Go.Callee.builtin Go.Builtin.min, args := #[Go.Operand.tmp 51, Go.Operand.const (Go.Value.int Go.IntKind.i64 32)], argTypes := #[3, 3] }, type := 3, pos := "law.go:216", after := #[{ on := 5, ground := Go.Ground.data }, { on := 2, ground := Go.Ground.guard }], guard := some (2, false) } : Oper)) (v := .int .i64 m) rfl (by kernel_rfl) (by kernel_rfl) (by kernel_rfl) (fun _ _ _ h => h) (Or.inl ⟨by rfl, fun w' _ => ?_⟩) hHeld ?_
            · go_simp
            simp only [Act.put, List.setIfInBounds_toArray, List.set_cons_zero, List.set_cons_succ]
            refine wpAnyH_take (i := 7) (oi := ({ dst := some 53, op := Go.Op.binOp Go.BinOp.neq 3 (Go.Operand.tmp 50) (Go.Operand.tmp 52) 3, type := 4, pos := "law.go:216", after := #[{ on := 4, ground := Go.Ground.data }, { on := 6, ground := Go.Ground.data }, { on := 2, ground := Go.Ground.guard }], guard := some (2, false) } : Oper)) (v := .bool false) rfl (by kernel_rfl) (by kernel_rfl) (by kernel_rfl) (fun _ _ _ h => h) (Or.inl ⟨by rfl, fun w' _ => ?_⟩) hHeld ?_
            · go_simp
            simp only [Act.put, List.setIfInBounds_toArray, List.set_cons_zero, List.set_cons_succ]
            refine wpAnyH_take (i := 8) (oi := ({ dst := some 54, op := Go.Op.pick (Go.Operand.tmp 48) (Go.Operand.const (Go.Value.bool true)) (Go.Operand.tmp 53), type := 4, pos := "law.go:216", after := #[{ on := 2, ground := Go.Ground.data }, { on := 7, ground := Go.Ground.data }], guard := none } : Oper)) (v := .bool false) rfl (by kernel_rfl) (by kernel_rfl) (by kernel_rfl) (fun _ _ _ h => h) (Or.inl ⟨by rfl, fun w' _ => ?_⟩) hHeld ?_
            · go_simp
            simp only [Act.put, List.setIfInBounds_toArray, List.set_cons_zero, List.set_cons_succ]
            refine wpAnyH_take (i := 9) (oi := ({ dst := some 55, op := Go.Op.move (Go.Operand.tmp 54), type := 4, pos := "law.go:216", after := #[{ on := 8, ground := Go.Ground.data }, { on := 2, ground := Go.Ground.chain }], guard := none } : Oper)) (v := .bool false) rfl (by kernel_rfl) (by kernel_rfl) (by kernel_rfl) (fun _ _ _ h => h) (Or.inl ⟨by rfl, fun w' _ => ?_⟩) hHeld ?_
            · go_simp
            simp only [Act.put, List.setIfInBounds_toArray, List.set_cons_zero, List.set_cons_succ]
            refine wpAnyH_take (i := 10) (oi := ({ dst := some 56, op := Go.Op.move (Go.Operand.tmp 6), type := 36, pos := "law.go:216", after := #[{ on := 9, ground := Go.Ground.guard }], guard := some (9, false) } : Oper)) (v := .slice (some ⟨b4, 0, none⟩) m c4) rfl (by kernel_rfl) (by kernel_rfl) (by kernel_rfl) (fun _ _ _ h => h) (Or.inl ⟨by rfl, fun w' _ => ?_⟩) hHeld ?_
            · go_simp
            simp only [Act.put, List.setIfInBounds_toArray, List.set_cons_zero, List.set_cons_succ]
            refine wpAnyH_take (i := 11) (oi := ({ dst := some 57, op := Go.Op.indexAddr 36 (Go.Operand.tmp 56) (Go.Operand.const (Go.Value.int Go.IntKind.i64 0)), type := 0, pos := "law.go:216", after := #[{ on := 10, ground := Go.Ground.data }, { on := 9, ground := Go.Ground.guard }], guard := some (9, false) } : Oper)) (v := .pointer (some ⟨b4, 0, none⟩)) rfl (by kernel_rfl) (by kernel_rfl) (by kernel_rfl) (fun _ _ _ h => h) (Or.inl ⟨by rfl, fun w' _ => ?_⟩) hHeld ?_
            · go_simp
            simp only [Act.put, List.setIfInBounds_toArray, List.set_cons_zero, List.set_cons_succ]
            refine wpAnyH_take (i := 12) (oi := ({ dst := some 58, op := Go.Op.fieldAddr 40 (Go.Operand.tmp 57) 1, type := 0, pos := "law.go:216", after := #[{ on := 11, ground := Go.Ground.data }, { on := 9, ground := Go.Ground.guard }], guard := some (9, false) } : Oper)) (v := .pointer (some ⟨b4, 1, none⟩)) rfl (by kernel_rfl) (by kernel_rfl) (by kernel_rfl) (fun _ _ _ h => h) (Or.inl ⟨by rfl, fun w' _ => ?_⟩) hHeld ?_
            · go_simp
            simp only [Act.put, List.setIfInBounds_toArray, List.set_cons_zero, List.set_cons_succ]
            refine wpAnyH_take (i := 13) (oi := ({ dst := some 59, op := Go.Op.load 3 (Go.Operand.tmp 58), type := 3, pos := "law.go:216", after := #[{ on := 12, ground := Go.Ground.data }, { on := 9, ground := Go.Ground.guard }], guard := some (9, false) } : Oper)) (v := .int .i64 12) rfl (by kernel_rfl) (by kernel_rfl) (by kernel_rfl) (fun _ _ _ h => h) (Or.inl ⟨by rfl, fun w' hS' => ?_⟩) hHeld ?_
            · have hcell := (hS'.cell (p := ⟨b4, 1, none⟩) hb4l).trans C1.out
              go_simp
            simp only [Act.put, List.setIfInBounds_toArray, List.set_cons_zero, List.set_cons_succ]
            refine wpAnyH_take (i := 14) (oi := ({ dst := some 60, op := Go.Op.binOp Go.BinOp.neq 3 (Go.Operand.tmp 59) (Go.Operand.const (Go.Value.int Go.IntKind.i64 12)) 3, type := 4, pos := "law.go:216", after := #[{ on := 13, ground := Go.Ground.data }, { on := 9, ground := Go.Ground.guard }], guard := some (9, false) } : Oper)) (v := .bool false) rfl (by kernel_rfl) (by kernel_rfl) (by kernel_rfl) (fun _ _ _ h => h) (Or.inl ⟨by rfl, fun w' _ => ?_⟩) hHeld ?_
            · go_simp
            simp only [Act.put, List.setIfInBounds_toArray, List.set_cons_zero, List.set_cons_succ]
            refine wpAnyH_take (i := 15) (oi := ({ dst := some 61, op := Go.Op.pick (Go.Operand.tmp 55) (Go.Operand.const (Go.Value.bool true)) (Go.Operand.tmp 60), type := 4, pos := "law.go:216", after := #[{ on := 9, ground := Go.Ground.data }, { on := 14, ground := Go.Ground.data }], guard := none } : Oper)) (v := .bool false) rfl (by kernel_rfl) (by kernel_rfl) (by kernel_rfl) (fun _ _ _ h => h) (Or.inl ⟨by rfl, fun w' _ => ?_⟩) hHeld ?_
            · go_simp
            simp only [Act.put, List.setIfInBounds_toArray, List.set_cons_zero, List.set_cons_succ]
            refine wpAnyH_take (i := 16) (oi := ({ dst := some 62, op := Go.Op.move (Go.Operand.tmp 61), type := 4, pos := "law.go:216", after := #[{ on := 15, ground := Go.Ground.data }, { on := 9, ground := Go.Ground.chain }], guard := none } : Oper)) (v := .bool false) rfl (by kernel_rfl) (by kernel_rfl) (by kernel_rfl) (fun _ _ _ h => h) (Or.inl ⟨by rfl, fun w' _ => ?_⟩) hHeld ?_
            · go_simp
            simp only [Act.put, List.setIfInBounds_toArray, List.set_cons_zero, List.set_cons_succ]
            refine wpAnyH_take (i := 17) (oi := ({ dst := some 63, op := Go.Op.move (Go.Operand.tmp 3), type := 24, pos := "law.go:216", after := #[{ on := 16, ground := Go.Ground.guard }], guard := some (16, false) } : Oper)) (v := .slice (some ⟨b, 0, none⟩) l.length c) rfl (by kernel_rfl) (by kernel_rfl) (by kernel_rfl) (fun _ _ _ h => h) (Or.inl ⟨by rfl, fun w' _ => ?_⟩) hHeld ?_
            · go_simp
            simp only [Act.put, List.setIfInBounds_toArray, List.set_cons_zero, List.set_cons_succ]
            refine wpAnyH_take (i := 20) (oi := ({ dst := some 66, op := Go.Op.move (Go.Operand.tmp 6), type := 36, pos := "law.go:216", after := #[{ on := 16, ground := Go.Ground.guard }], guard := some (16, false) } : Oper)) (v := .slice (some ⟨b4, 0, none⟩) m c4) rfl (by kernel_rfl) (by kernel_rfl) (by kernel_rfl) (fun _ _ _ h => h) (Or.inl ⟨by rfl, fun w' _ => ?_⟩) hHeld ?_
            · go_simp
            simp only [Act.put, List.setIfInBounds_toArray, List.set_cons_zero, List.set_cons_succ]
            refine wpAnyH_take (i := 21) (oi := ({ dst := some 67, op := Go.Op.indexAddr 36 (Go.Operand.tmp 66) (Go.Operand.const (Go.Value.int Go.IntKind.i64 0)), type := 0, pos := "law.go:216", after := #[{ on := 20, ground := Go.Ground.data }, { on := 16, ground := Go.Ground.guard }], guard := some (16, false) } : Oper)) (v := .pointer (some ⟨b4, 0, none⟩)) rfl (by kernel_rfl) (by kernel_rfl) (by kernel_rfl) (fun _ _ _ h => h) (Or.inl ⟨by rfl, fun w' _ => ?_⟩) hHeld ?_
            · go_simp
            simp only [Act.put, List.setIfInBounds_toArray, List.set_cons_zero, List.set_cons_succ]
            refine wpAnyH_take (i := 22) (oi := ({ dst := some 68, op := Go.Op.fieldAddr 40 (Go.Operand.tmp 67) 4, type := 0, pos := "law.go:216", after := #[{ on := 21, ground := Go.Ground.data }, { on := 16, ground := Go.Ground.guard }], guard := some (16, false) } : Oper)) (v := .pointer (some ⟨b4, 19, none⟩)) rfl (by kernel_rfl) (by kernel_rfl) (by kernel_rfl) (fun _ _ _ h => h) (Or.inl ⟨by rfl, fun w' _ => ?_⟩) hHeld ?_
            · go_simp
            simp only [Act.put, List.setIfInBounds_toArray, List.set_cons_zero, List.set_cons_succ]
            refine wpAnyH_take (i := 23) (oi := ({ dst := some 69, op := Go.Op.load 9 (Go.Operand.tmp 68), type := 9, pos := "law.go:216", after := #[{ on := 22, ground := Go.Ground.data }, { on := 16, ground := Go.Ground.guard }], guard := some (16, false) } : Oper)) (v := .string tx) rfl (by kernel_rfl) (by kernel_rfl) (by kernel_rfl) (fun _ _ _ h => h) (Or.inl ⟨by rfl, fun w' hS' => ?_⟩) hHeld ?_
            · have hcell := (hS'.cell (p := ⟨b4, 19, none⟩) hb4l).trans C19.out
              go_simp
            simp only [Act.put, List.setIfInBounds_toArray, List.set_cons_zero, List.set_cons_succ]
            refine wpAnyH_ready (rs := [18]) (by kernel_rfl) (by simp) ?_
            refine AllReadyH.cons (o := ({ dst := some 64, op := Go.Op.call { callee := Go.Callee.value (Go.Operand.func 18), args := #[Go.Operand.tmp 63], argTypes := #[24] }, type := 29, pos := "law.go:216", after := #[{ on := 17, ground := Go.Ground.data }, { on := 16, ground := Go.Ground.chain }, { on := 16, ground := Go.Ground.guard }], guard := some (16, false) } : Oper)) rfl (fun K hK => ?_) AllReadyH.nil
            go_simp
            go_at_call 18
            refine (names_e (some ⟨b, 0, none⟩) c l.length l _ (fun _ => ⟨b, rfl, HRow4.out.below hHeld⟩) rfl hll).mono ?_
            rintro e' w6 ⟨v6, rfl, ho6, hb6⟩
            obtain ⟨g6, p6, rfl, hg6, hcl6⟩ := own_cells ho6 (by omega)
            refine hK.out _ _ (hHeld.trans (hb6.mono hHeld.size)) (fun hHeld1 => ?_)
            clear hK K
            refine wpAnyH_ready (rs := [19]) (by kernel_rfl) (by simp) ?_
            refine AllReadyH.cons (o := ({ dst := some 65, op := Go.Op.call { callee := Go.Callee.builtin Go.Builtin.append, args := #[Go.Operand.const (Go.Value.slice none 0 0), Go.Operand.tmp 64], argTypes := #[29, 29] }, type := 29, pos := "law.go:216", after := #[{ on := 18, ground := Go.Ground.data }, { on := 18, ground := Go.Ground.chain }, { on := 16, ground := Go.Ground.guard }], guard := some (16, false) } : Oper)) rfl (fun K hK => ?_) AllReadyH.nil
            rw [if_pos (by kernel_rfl)]
            obtain ⟨i0, hi, hz0, hz1, hz2⟩ := info_parts (show (Tryz.prog.info? 9).map (fun i => (i.zero, i.size, i.bytes)) = some (some (.string ⟨#[]⟩), 1, 16) by kernel_rfl)
            refine wp_append_own (w := w6) (.const (.slice none 0 0)) (.tmp 64) 29 rfl w6.heap.size 9 i0 (.string ⟨#[]⟩) 1 16 Tryz.underlying29 hi hz0 hz1 hz2 rfl (by decide) (.slice none 0 0) 0 [] rfl (World.ownsRow_nil _ _ _ _) ⟨g6, 0, none⟩ l.length p6 ((firstN l).map Value.string) rfl (by unfold firstN; rw [List.length_map, List.length_map, Nat.mul_one]) (fun j u hj => by rw [Addr.add_lit, Nat.zero_add]; exact hcl6 j u hj) (fun u hu => by obtain ⟨y, _, rfl⟩ := List.mem_map.1 hu; rfl) (by unfold maxLen; omega) (by omega) (Nat.le_refl _) ?_
            intro v7 w7 ho7 hg7 _
            rw [Nat.zero_add, List.nil_append] at ho7
            have hb7 : Below w6.heap.size w6 w7 := (Below.refl _ _).grown hg7 (Nat.le_refl _) fun k hk => ((World.ownsRow_nil w6 w6.heap.size 9 1).lt k hk).1
            obtain ⟨g7, p7, rfl, hg7', hcl7⟩ := own_cells ho7 (by omega)
            have hStr : Strs w7 g7 (firstN l) := ⟨hg7', fun j hj => by
              rw [Nat.zero_add]
              refine hcl7 j _ ?_
              rw [List.getElem?_map, List.getElem?_eq_getElem hj, List.getD_eq_getElem?_getD, List.getElem?_eq_getElem hj]; rfl⟩
            refine hK.out _ _ (hHeld1.trans (hb7.mono hHeld1.size)) (fun hHeld2 => ?_)
            clear hK K
            simp only [Act.put, List.setIfInBounds_toArray, List.set_cons_zero, List.set_cons_succ]
            refine wpAnyH_ready (rs := [24]) (by kernel_rfl) (by simp) ?_
            refine AllReadyH.cons (o := ({ dst := some 70, op := Go.Op.call { callee := Go.Callee.value (Go.Operand.func 17), args := #[Go.Operand.tmp 65, Go.Operand.tmp 69], argTypes := #[29, 9] }, type := 4, pos := "law.go:216", after := #[{ on := 19, ground := Go.Ground.data }, { on := 23, ground := Go.Ground.data }, { on := 19, ground := Go.Ground.chain }, { on := 16, ground := Go.Ground.guard }], guard := some (16, false) } : Oper)) rfl (fun K hK => ?_) AllReadyH.nil
            go_simp
            go_at_call 17
            refine (has_e g7 p7 l.length (firstN l) tx w7 hStr (by unfold firstN; rw [List.length_map]) (by omega)).mono ?_
            rintro e' w8 ⟨rfl, rfl⟩
            rw [HIn.out]
            refine hK.out _ _ hHeld2 (fun hHeld3 => ?_)
            clear hK K
            refine wpAnyH_take (i := 25) (oi := ({ dst := some 71, op := Go.Op.unOp Go.UnOp.not 4 (Go.Operand.tmp 70), type := 4, pos := "law.go:216", after := #[{ on := 24, ground := Go.Ground.data }, { on := 16, ground := Go.Ground.guard }], guard := some (16, false) } : Oper)) (v := .bool false) rfl (by kernel_rfl) (by kernel_rfl) (by kernel_rfl) (fun _ _ _ h => h) (Or.inl ⟨by rfl, fun w' _ => ?_⟩) hHeld3 ?_
            · go_simp
            simp only [Act.put, List.setIfInBounds_toArray, List.set_cons_zero, List.set_cons_succ]
            refine wpAnyH_take (i := 26) (oi := ({ dst := some 72, op := Go.Op.pick (Go.Operand.tmp 62) (Go.Operand.const (Go.Value.bool true)) (Go.Operand.tmp 71), type := 4, pos := "law.go:216", after := #[{ on := 16, ground := Go.Ground.data }, { on := 25, ground := Go.Ground.data }], guard := none } : Oper)) (v := .bool false) rfl (by kernel_rfl) (by kernel_rfl) (by kernel_rfl) (fun _ _ _ h => h) (Or.inl ⟨by rfl, fun w' _ => ?_⟩) hHeld3 ?_
            · go_simp
            simp only [Act.put, List.setIfInBounds_toArray, List.set_cons_zero, List.set_cons_succ]
            refine wpAnyH_done (by kernel_rfl) ?_ _
            have HBn := Lib.hid (HB4.out.trans (hHeld3.mono HB4.out.size))
            clear hHeld hHeld1 hHeld2 hHeld3 ho6 hb6 hcl6 ho7 hg7 hb7 hcl7 hStr hi hz0 hz1 hz2
            go_wp2_with fail
            go_roundg g
            case measure => omega
            case rel => exact ⟨k + 1, by go_num, by omega, HBn⟩
      · have hkI : ¬ (k : Int) < (l.length : Int) := by omega
        have HBe := Lib.hid (HB2.out.trans (HBW.out.mono HB2.out.size))
        go_wp2_with fail
        go_ret
        exact ⟨rfl, HBe.out⟩
  · rw [decide_eq_false hs2] at HL
    go_wp2_with (go_at_call 10; refine (HL.out _).mono ?_; rintro e w2 ⟨rfl, hw⟩; obtain rfl := hw.symm)
    go_ret
    exact ⟨rfl, HB1.out⟩
end Go.Proofs.YtclfmokdjmnjcaaGreatDoor
