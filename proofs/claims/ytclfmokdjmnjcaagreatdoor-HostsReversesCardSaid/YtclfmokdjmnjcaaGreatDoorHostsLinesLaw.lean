/-
  The walk of HostsLines: each line is read by itself: what is wrong in one takes nothing from another one. Conditions: the texts are ones that may come in; the library's variables hold what their initialisers lay.
-/
import Derived.Test.YtclfmokdjmnjcaaGreatDoorHostsAll
import Derived.Laws.AppendOwnNone
import Derived.Laws.Concat
import Derived.Laws.Cover1
namespace Go.Proofs.YtclfmokdjmnjcaaGreatDoor
open Go.RowKit

theorem own_cells {w : World} {base n size : Nat} {e : TypeId} {v : Value} {xs : List Value} (h : w.ownsRow base e size v n xs) (h0 : 0 < n) : ∃ g cap, v = .slice (some ⟨g, 0, none⟩) n cap ∧ g < w.heap.size ∧ ∀ k u, xs[k]? = some u → w.cell? ⟨g, k, none⟩ = some u := by
  rcases h.2 with ⟨_, h1⟩ | ⟨g, cap, cur, hv, hb, hg, hc, hm, hs, ht⟩
  · omega
  · refine ⟨g, cap, hv, (Array.getElem?_eq_some_iff.1 hg).1, fun k u hk => ?_⟩
    rw [cell_of_row w g k cur _ (0, 0) hg, ← Array.getElem?_toList]
    rw [← ht] at hk
    have hkl := (List.getElem?_eq_some_iff.1 hk).1
    rw [List.length_take] at hkl
    rwa [List.getElem?_take_of_lt (by omega)] at hk
theorem host_new (w : World) {x : HV} (hl : x.h.addr.length = 16) : (∀ j v, (bvs x.h.addr).toArray.toList[j]? = some v → (w.alloc (.cells x.cells.toArray 31)).cell? ((⟨w.heap.size, 0, none⟩ : Addr).add j) = some v) ∧ (w.alloc (.cells x.cells.toArray 31)).cell? ⟨w.heap.size, 16, none⟩ = some (.slice (some ⟨x.g, 0, none⟩) x.h.names.length x.c) := by
  refine ⟨fun j v hj => ?_, ?_⟩
  · have hj' : (bvs x.h.addr)[j]? = some v := hj
    have hjl := (List.getElem?_eq_some_iff.1 hj').1
    rw [Addr.add_lit, Nat.zero_add, World.cell?_alloc_mark, List.getElem?_toArray]
    unfold HV.cells
    rw [List.getElem?_append_left hjl]; exact hj'
  · rw [World.cell?_alloc_mark, List.getElem?_toArray]; exact HV.nm hl
theorem hvs_app (l m : List HV) : hvs (l ++ m) = hvs l ++ hvs m := by unfold hvs; rw [List.flatMap_append]
/-- lines appended to a row of the call's own -/
theorem own_appendL {ops : Array Oper} {rest : List Oper} {o : Oper} {a : Act} {Q : Exit → Act → World → Prop} {w : World} (hgd : o.guard = none) (s x : Operand) (ho : o.op = .call { callee := .builtin .append, args := #[s, x], argTypes := #[24, 24] })
    (base n k : Nat) (v u : Value) (l m : List HV) (hs : a.eval s = v) (hown : w.ownsRow base 31 17 v n (hvs l)) (hn : n ≤ 1000) (hm : m.length = k) (hk : k ≤ 1000) (hbase : base ≤ w.heap.size)
    (hx : a.eval x = u) (hu : HostsV w u m)
    (h : ∀ v' w', w'.ownsRow base 31 17 v' (n + k) (hvs (l ++ m)) → Below base w w' → wpList Tryz.prog ops Q rest (a.put o.dst v') w') : wpList Tryz.prog ops Q (o :: rest) a w := by
  subst hm
  obtain ⟨i0, hi, hz0, hz1, hz2⟩ := info_parts zeroHost
  rcases hu with ⟨rfl, rfl⟩ | ⟨hne, b, c, rfl, hc, hr⟩
  · refine wpList_append_own_none hgd s x 24 ho base 31 i0 17 Tryz.underlying24 hi v n (hvs l) hs hown hx (h v w ?_ (Below.refl _ _))
    rw [List.append_nil]; exact hown
  · refine wpList_append_own (w := w) hgd s x 24 ho base 31 i0 _ 17 40 Tryz.underlying24 hi hz0 hz1 hz2 (by kernel_rfl) (by decide) v n (hvs l) hs hown ⟨b, 0, none⟩ m.length c (hvs m) hx (hvs_len hr.ns.len) (fun j u hj => by rw [Addr.add_lit, Nat.zero_add]; exact hr.cells j u hj)
      (fun u hu => by
        unfold hvs at hu
        obtain ⟨y, _, hy⟩ := List.mem_flatMap.1 hu
        exact y.one u hy) (by unfold maxLen; omega) (by omega) hbase (fun v' w' h2 h3 _ => h v' w' (by rw [hvs_app]; exact h2) ((Below.refl _ _).grown h3 hbase fun k hk => (hown.lt k hk).1))
set_option maxRecDepth 100000 in
set_option maxHeartbeats 4000000 in
theorem hostsLines_walk (s : ByteArray) (hs : s.size ≤ 140737488351232) (t : ByteArray) (ht : t.size ≤ 140737488351232) (w : World) (he : AEnv w) :
    Calls Tryz.prog 4 #[.string s, .string t] w fun e w' => e = .returned (.bool true) ∧ Below w.heap.size w w' := by
  have HE := Lib.hid he
  have huH := Tryz.underlying31
  have huA := Tryz.underlying28
  have HL := Lib.hid (fun W => light_e s W (by omega))
  have HM := Lib.hid (fun W => light_e t W (by omega))
  obtain ⟨ZH, hZH⟩ : ∃ ZH, ZH = (bvs zero16).toArray.push (.slice none 0 0) := ⟨_, rfl⟩
  have HZA : Hid ((Tryz.prog.info? 31).map (·.zero) = some (some (.agg ZH))) := Lib.hid (by rw [hZH]; kernel_rfl)
  have HZ17 : Hid (ZH.size = 17) := Lib.hid (by rw [hZH]; rfl)
  have HSI : Hid ((Tryz.prog.info? 31).map (·.size) = some 17) := Lib.hid (by kernel_rfl)
  clear he hZH
  go_enter Tryz.func4, Tryz.ntmps4
  go_wp2_with fail
  refine (fit6_e _ HE.out).mono ?_
  rintro e w1 ⟨rfl, hb1⟩
  have HB1 := Lib.hid hb1
  have HE1 := Lib.hid (HE.out.below hb1)
  clear hb1
  by_cases hs2 : s.size ≤ 2000
  · rw [decide_eq_true hs2] at HL
    by_cases ht2 : t.size ≤ 2000
    · rw [decide_eq_true ht2] at HM
      have hA1 := fun W => run_string_add_sum (P := Tryz.prog) (w := W) s ⟨#[10]⟩ (by rw [show (ByteArray.mk #[10]).size = 1 from rfl]; omega)
      have hA2 := fun W => run_string_add_sum (P := Tryz.prog) (w := W) (s ++ ⟨#[10]⟩) t (by rw [ByteArray.size_append, show (ByteArray.mk #[10]).size = 1 from rfl]; omega)
      have hz : (s ++ ⟨#[10]⟩ ++ t).data.toList = s.data.toList ++ 10 :: t.data.toList := by simp [ByteArray.data_append]
      have hzs : (s ++ ⟨#[10]⟩ ++ t).size ≤ 1099511627 := by rw [ByteArray.size_append, ByteArray.size_append, show (ByteArray.mk #[10]).size = 1 from rfl]; omega
      generalize s ++ ⟨#[10]⟩ = y1 at hA1 hA2 hz hzs
      generalize y1 ++ t = y2 at hA2 hz hzs
      have HY := Lib.hid hz
      have HYs := Lib.hid hzs
      have hp1 := hparse_e s w1 HE1.out (by omega)
      clear hz hzs
      go_wp2_with (first
        | (go_at_call 10; refine (HL.out _).mono ?_; rintro e w2 ⟨rfl, hw⟩; obtain rfl := hw.symm)
        | (go_at_call 10; refine (HM.out _).mono ?_; rintro e w2 ⟨rfl, hw⟩; obtain rfl := hw.symm))
      refine hp1.mono ?_
      rintro e w2 ⟨x, vx, hpx, rfl, hvx, hb2⟩
      have HB2 := Lib.hid (HB1.out.trans (hb2.mono HB1.out.size))
      have HE2 := Lib.hid (HE1.out.below hb2)
      have HPX := Lib.hid hpx
      have HVX := Lib.hid hvx
      have hp2 := hparse_e t w2 HE2.out (by omega)
      clear hp1 hpx hvx hb2
      go_wp2_with fail
      refine hp2.mono ?_
      rintro e w3 ⟨y, vy, hpy, rfl, hvy, hb3⟩
      have HB3 := Lib.hid (HB2.out.trans (hb3.mono HB2.out.size))
      have HE3 := Lib.hid (HE2.out.below hb3)
      have HPY := Lib.hid hpy
      have HVY := Lib.hid hvy
      have HVX3 := Lib.hid (HVX.out.below hb3)
      have hp3 := hparse_e y2 w3 HE3.out HYs.out
      clear hp2 hpy hvy hb3
      go_wp2_with fail
      refine hp3.mono ?_
      rintro e w4 ⟨z, vz, hpz, rfl, hvz, hb4⟩
      have HB4 := Lib.hid (HB3.out.trans (hb4.mono HB3.out.size))
      have HVX4 := Lib.hid (HVX3.out.below hb4)
      have HVY4 := Lib.hid (HVY.out.below hb4)
      have hzz : z.map (·.h) = ((x ++ y).map (·.h)).take 64 := by
        rw [HY.out] at hpz
        rw [List.map_append]
        exact pd_lines HPX.out HPY.out hpz
      have hlx : x.length ≤ 64 := by have := HPX.out.len; rwa [List.length_map] at this
      have hly : y.length ≤ 64 := by have := HPY.out.len; rwa [List.length_map] at this
      have hlz : z.length = min (x.length + y.length) 64 := by
        have := congrArg List.length hzz
        rw [List.length_map, List.length_take, List.length_map, List.length_append] at this
        omega
      have HZZ := Lib.hid hzz
      have HVZ4 := Lib.hid hvz
      clear hp3 hpz hvz hb4 hzz
      obtain ⟨Ax, cx, hvx⟩ : ∃ A c, vx = .slice A x.length c := by obtain ⟨A, c, e, _⟩ := HVX4.out.form; exact ⟨A, c, e⟩
      obtain ⟨Ay, cy, hvy⟩ : ∃ A c, vy = .slice A y.length c := by obtain ⟨A, c, e, _⟩ := HVY4.out.form; exact ⟨A, c, e⟩
      obtain ⟨Az, cz, hvz, hAz⟩ := HVZ4.out.form
      subst hvx hvy hvz
      have HAZ := Lib.hid hAz
      clear hAz
      go_wp2_with fail
      rw [← hlz]
      have HLZ := Lib.hid hlz
      clear hlz
      go_loopg [41, 8, 9, 10] z.length (fun gk i _ _ _ wr => ∃ k : Nat, i = .int .i64 k ∧ k + gk = z.length ∧ Below w4.heap.size w4 wr)
      case atStart => exact ⟨0, rfl, by simp, Below.refl _ _⟩
      case round =>
        obtain ⟨k, rfl, hk, hbw⟩ := hrel
        by_cases hlt : k < z.length
        · obtain ⟨g, rfl⟩ : ∃ g, gk = g + 1 := ⟨gk - 1, by omega⟩
          have hzl64 : z.length ≤ 64 := by have := HLZ.out; omega
          obtain ⟨zi, hzi⟩ : ∃ x, z[k]? = some x := ⟨_, List.getElem?_eq_getElem hlt⟩
          have hka : k < (x ++ y).length := by rw [List.length_append]; have := HLZ.out; omega
          obtain ⟨wi, hwi⟩ : ∃ q, (x ++ y)[k]? = some q := ⟨_, List.getElem?_eq_getElem hka⟩
          have hsame : zi.h = wi.h := by
            have := congrArg (fun l => l[k]?) HZZ.out
            simp only [List.getElem?_map, hzi, List.getElem?_take_of_lt (show k < 64 by omega), hwi, Option.map_some, Option.some.injEq] at this
            exact this
          obtain ⟨bz, rfl, hrz⟩ := HAZ.out (List.ne_nil_of_mem (List.mem_of_getElem? hzi))
          have hrz' := hrz.below hbw
          have hgz := (hrz.ns.good zi (List.mem_of_getElem? hzi)).len
          have hgw : wi.h.addr.length = 16 := by rw [← hsame]; exact hgz
          have hldz := hrz'.load hzi
          have hbkz : HBlk (wr.alloc (.cells zi.cells.toArray 31)) wr.heap.size zi := HBlk.new hgz (hrz'.ns.names zi (List.mem_of_getElem? hzi))
          have hszz : zi.cells.toArray.size = 17 := by rw [List.size_toArray]; exact HV.len hgz
          have hszw : wi.cells.toArray.size = 17 := by rw [List.size_toArray]; exact HV.len hgw
          have hz1 : zi.cells.toArray.all (·.oneCell') = true := by rw [List.all_toArray]; exact List.all_eq_true.2 zi.one
          have hw1 : wi.cells.toArray.all (·.oneCell') = true := by rw [List.all_toArray]; exact List.all_eq_true.2 wi.one
          obtain ⟨r, hr⟩ : ∃ r, r = (bvs zi.h.addr).toArray := ⟨_, rfl⟩
          have HSr : Hid ((Tryz.prog.info? 28).map (·.size) = some r.size) := Lib.hid (by rw [hr]; exact sizeBv hgz)
          have HQ : ∀ W : World, (Op.equalIn 10000 28 (.agg r) (.agg r)).run Tryz.prog W = .ok true W := fun W => by rw [hr, run_eq_addr W hgz hgz, beq_self_eq_true]
          have HBy1 := Lib.hid (fun W g (h : HBlk W g zi) => (show ∀ j v, r.toList[j]? = some v → W.cell? ((⟨g, 0, none⟩ : Addr).add j) = some v by rw [hr]; exact h.byte))
          have hnl : zi.h.names.length = wi.h.names.length := by rw [hsame]
          obtain ⟨cz, hcz⟩ : ∃ cs, cs = zi.cells.toArray := ⟨_, rfl⟩
          obtain ⟨cw, hcw⟩ : ∃ cs, cs = wi.cells.toArray := ⟨_, rfl⟩
          rw [← hcz] at hldz hbkz hszz hz1
          have hb1 : Below wr.heap.size wr (wr.alloc (.cells cz 31)) := (Below.refl _ wr).alloc (Nat.le_refl _) _
          have HVXr := Lib.hid (HVX4.out.below (hbw.trans (hb1.mono hbw.size)))
          have HVYr := Lib.hid (HVY4.out.below (hbw.trans (hb1.mono hbw.size)))
          have HBW := Lib.hid (hbw.trans (hb1.mono hbw.size))
          have HLDZ := Lib.hid hldz
          have HBKZ := Lib.hid hbkz
          have HZ1 := Lib.hid hz1
          have HSZZ : Hid ((Tryz.prog.info? 31).map (·.size) = some cz.size) := Lib.hid (by rw [hszz]; exact HSI.out)
          have HZZ1 : Hid (ZH.size = cz.size) := Lib.hid (by rw [hszz]; exact HZ17.out)
          rw [← hcw] at hszw hw1
          have HW1 := Lib.hid hw1
          have HSZW : Hid ((Tryz.prog.info? 31).map (·.size) = some cw.size) := Lib.hid (by rw [hszw]; exact HSI.out)
          have HZW1 : Hid (ZH.size = cw.size) := Lib.hid (by rw [hszw]; exact HZ17.out)
          have HWI := Lib.hid hwi
          have HGW := Lib.hid hgw
          have HCW := Lib.hid hcw
          have HSame := Lib.hid hsame
          have HRr := Lib.hid hr
          have hlaw : ∀ q ∈ x ++ y, q.h.addr.length = 16 := fun q hq => by
            rcases List.mem_append.1 hq with hq | hq
            · rcases HVX4.out with ⟨e, _⟩ | ⟨_, b, c, _, _, hh⟩
              · rw [e] at hq; cases hq
              · exact hh.ns.len q hq
            · rcases HVY4.out with ⟨e, _⟩ | ⟨_, b, c, _, _, hh⟩
              · rw [e] at hq; cases hq
              · exact hh.ns.len q hq
          have HLA := Lib.hid hlaw
          have hkI : (k : Int) < (z.length : Int) := by omega
          have HNEW : Hid (∀ w6 : World, (∀ j v, r.toList[j]? = some v → (w6.alloc (.cells cw 31)).cell? ((⟨w6.heap.size, 0, none⟩ : Addr).add j) = some v) ∧ (w6.alloc (.cells cw 31)).cell? ⟨w6.heap.size, 16, none⟩ = some (.slice (some ⟨wi.g, 0, none⟩) wi.h.names.length wi.c)) := Lib.hid (fun w6 => by
            have hnew := host_new w6 hgw
            rw [← hcw, ← hsame, ← hr] at hnew
            rw [← hsame]
            exact hnew)
          have HB7F : Hid (∀ w6 : World, Below (wr.heap.size + 1) (wr.alloc (.cells cz 31)) w6 → Below (wr.alloc (.cells cz 31)).heap.size (wr.alloc (.cells cz 31)) (w6.alloc (.cells cw 31))) := Lib.hid (fun w6 h => by
            rw [World.size_alloc]
            refine h.alloc ?_ _
            have := h.size
            rwa [World.size_alloc] at this)
          have hk2 : (k : Int) < (x.length : Int) + (y.length : Int) := by have := HLZ.out; omega
          clear hrz hrz' hgz hgw hldz hbkz hszz hszw hz1 hw1 hr hcz hcw hb1 hbw hwi hzi hsame hlaw
          go_wp2_with (first
            | (refine wpList_load_agg rfl 31 (.tmp 44) rfl ⟨bz, k * 17, none⟩ rfl cz _ HLDZ.out huH rfl HSZZ.out ?_; go_simp)
            | (refine wpList_alloc_z rfl 31 rfl ZH HZA.out ?_; go_simp)
            | (refine wpList_store_new rfl 31 (.tmp 9) (.tmp 45) rfl wr.heap.size rfl ZH cz 31 rfl rfl HSZZ.out HZZ1.out HZ1.out ?_; go_simp)
            | (refine own_appendL rfl (.const (.slice none 0 0)) (.tmp 46) rfl (wr.heap.size + 1) 0 x.length (.slice none 0 0) _ [] x rfl (World.ownsRow_nil _ _ _ _) (by omega) rfl (by omega) (by rw [World.size_alloc]; omega) rfl HVXr.out ?_; intro v5 w5 ho5 hb5; rw [Nat.zero_add, List.nil_append] at ho5; have HO5 := Lib.hid ho5; have HB5 := Lib.hid hb5; have HVY5 := Lib.hid (HVYr.out.below (hb5.mono (by rw [World.size_alloc]; omega))); have hs5 : wr.heap.size + 1 ≤ w5.heap.size := by have h9 := hb5.size; rw [World.size_alloc] at h9; exact h9
               clear ho5 hb5; go_simp)
            | (refine own_appendL rfl (.tmp 47) (.tmp 48) rfl (wr.heap.size + 1) x.length y.length _ _ x y rfl HO5.out (by omega) rfl (by omega) hs5 rfl HVY5.out ?_; intro v6 w6 ho6 hb6; obtain ⟨gw, capw, hv6, hgw, hcl⟩ := own_cells ho6 (by have := HLZ.out; omega); subst hv6
               have HLDW : Hid (∀ j v, cw.toList[j]? = some v → w6.cell? ((⟨gw, k * 17, none⟩ : Addr).add j) = some v) := Lib.hid (fun j v hj => by
                 rw [HCW.out] at hj
                 have hj' : wi.cells[j]? = some v := hj
                 have hjl := (List.getElem?_eq_some_iff.1 hj').1
                 rw [HV.len HGW.out] at hjl
                 rw [Addr.add_lit]
                 exact hcl _ _ (by rw [hvs_at HLA.out HWI.out hjl]; exact hj'))
               have HB6 := Lib.hid (HB5.out.trans hb6)
               clear ho6 hb6 hcl; go_simp)
            | (refine wpList_load_agg rfl 31 (.tmp 51) rfl ⟨gw, k * 17, none⟩ rfl cw _ HLDW.out huH rfl HSZW.out ?_; go_simp)
            | (refine wpList_store_new rfl 31 (.tmp 10) (.tmp 52) rfl w6.heap.size rfl ZH cw 31 rfl rfl HSZW.out HZW1.out HW1.out ?_
               have hb7 : Below (wr.alloc (.cells cz 31)).heap.size (wr.alloc (.cells cz 31)) (w6.alloc (.cells cw 31)) := HB7F.out _ HB6.out
               have hbkA := HBKZ.out.below hb7
               have c16a := hbkA.nm
               have hnew := HNEW.out w6
               have c16b := hnew.2
               have HByA := Lib.hid (HBy1.out _ _ hbkA)
               have HByB := Lib.hid hnew.1
               have HB7 := Lib.hid (HBW.out.trans (hb7.mono HBW.out.size))
               clear hb7 hbkA hnew; go_simp)
            | (refine wpList_load_agg rfl 28 (.tmp 53) rfl ⟨wr.heap.size, 0, none⟩ rfl r _ HByA.out huA rfl HSr.out ?_; go_simp)
            | (refine wpList_load_agg rfl 28 (.tmp 55) rfl ⟨w6.heap.size, 0, none⟩ rfl r _ HByB.out huA rfl HSr.out ?_; go_simp))
          go_roundg g
          case measure => omega
          case rel => exact ⟨k + 1, by go_num, by omega, HB7.out⟩
        · have hkI : ¬ (k : Int) < (z.length : Int) := by omega
          have HBe := Lib.hid (HB4.out.trans (hbw.mono HB4.out.size))
          clear hbw
          go_wp2_with fail
          go_ret
          exact ⟨rfl, HBe.out⟩
    · rw [decide_eq_false ht2] at HM
      go_wp2_with (first
        | (go_at_call 10; refine (HL.out _).mono ?_; rintro e w2 ⟨rfl, hw⟩; obtain rfl := hw.symm)
        | (go_at_call 10; refine (HM.out _).mono ?_; rintro e w2 ⟨rfl, hw⟩; obtain rfl := hw.symm))
      go_ret
      exact ⟨rfl, HB1.out⟩
  · rw [decide_eq_false hs2] at HL
    go_wp2_with (go_at_call 10; refine (HL.out _).mono ?_; rintro e w2 ⟨rfl, hw⟩; obtain rfl := hw.symm)
    go_ret
    exact ⟨rfl, HB1.out⟩
end Go.Proofs.YtclfmokdjmnjcaaGreatDoor
