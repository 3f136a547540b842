/-
  The walk of HostsTypes: records are of the type asked for, of the name asked for, and count not at all. Conditions: the texts are ones that may come in; the library's variables hold what their initialisers lay.
-/
import Derived.Test.YtclfmokdjmnjcaaGreatDoorHostsAll
namespace Go.Proofs.YtclfmokdjmnjcaaGreatDoor
open Go.RowKit

theorem find_none {l : List HostM} {n : List UInt8} {kind : Int} (h : l.any (hitH n) = false) : findL l n kind = [] := by
  have hf : l.filterMap (recH n kind) = [] := by
    rw [List.filterMap_eq_nil_iff]
    intro x hx
    cases hr : recH n kind x with
    | none => rfl
    | some r => exact absurd (hit_of_rec hr) (by rw [List.any_eq_false] at h; exact h x hx)
  unfold findL
  rw [hf]; rfl
theorem rec_addr {l : List HostM} {n : List UInt8} {kind : Int} (hl : ∀ h ∈ l, h.addr.length = 16) : ∀ r ∈ findL l n kind, r.addr.length = 16 := fun r hr => by
  unfold findL at hr
  obtain ⟨x, hx, hxr⟩ := List.mem_filterMap.1 (List.mem_of_mem_take hr)
  unfold recH at hxr
  split at hxr
  · split at hxr
    · injection hxr with hxr; subst hxr; rfl
    · cases hxr
  · split at hxr
    · injection hxr with hxr; subst hxr; exact hl x hx
    · cases hxr
theorem rc_at (n : ByteArray) (kind : Int) {x : RecM} (h : x.addr.length = 16) : (rcells n kind x)[0]? = some (.string n) ∧ (rcells n kind x)[1]? = some (.int .i64 kind) ∧ (rcells n kind x)[2]? = some (.int .i64 0) ∧ (rcells n kind x)[19]? = some (.string (tb x.text)) ∧ (rcells n kind x)[20]? = some (.string ⟨#[]⟩) := by
  unfold rcells
  refine ⟨rfl, rfl, rfl, ?_, ?_⟩
  · simp only [List.getElem?_cons_succ]
    rw [List.getElem?_append_right (by rw [bvs_length, h]; omega), bvs_length, h]; rfl
  · simp only [List.getElem?_cons_succ]
    rw [List.getElem?_append_right (by rw [bvs_length, h]; omega), bvs_length, h]; rfl
theorem HostsA.good {w : World} {A : Option Addr} {l : List HV} (h : HostsA w A l) : ∀ x ∈ l.map (·.h), Good x := fun x hx => by
  obtain ⟨y, hy, rfl⟩ := List.mem_map.1 hx
  obtain ⟨b, _, hr⟩ := h (List.ne_nil_of_mem hy)
  exact hr.ns.good y hy
set_option maxRecDepth 100000 in
set_option maxHeartbeats 4000000 in
theorem hostsTypes_walk (s : ByteArray) (hs : s.size ≤ 140737488351232) (n : ByteArray) (hn : n.size ≤ 140737488351232) (kind : Int) (w : World) (he : AEnv w) :
    Calls Tryz.prog 8 #[.string s, .string n, .int .i64 kind] w fun e w' => e = .returned (.bool true) ∧ Below w.heap.size w w' := by
  have HE := Lib.hid he
  have huR := Tryz.underlying40
  have HL := Lib.hid (fun W => light_e s W (by omega))
  obtain ⟨ZR, hZR⟩ : ∃ ZR, ZR = (rcells ⟨#[]⟩ 0 ⟨zero16', []⟩).toArray := ⟨_, rfl⟩
  have HZR : Hid ((Tryz.prog.info? 40).map (·.zero) = some (some (.agg ZR))) := Lib.hid (by rw [hZR]; kernel_rfl)
  have HZS : Hid (ZR.size = 21) := Lib.hid (by rw [hZR, List.size_toArray, rcells_len (by rfl)])
  have HSI : Hid ((Tryz.prog.info? 40).map (·.size) = some 21) := Lib.hid (by kernel_rfl)
  clear he hZR
  go_enter Tryz.func8, Tryz.ntmps8
  go_wp2_with fail
  refine (fit6_e _ HE.out).mono ?_
  rintro e w1 ⟨rfl, hb1⟩
  have HB1 := Lib.hid hb1
  have HE1 := Lib.hid (HE.out.below hb1)
  clear hb1
  by_cases hs2 : s.size ≤ 2000
  · rw [decide_eq_true hs2] at HL
    by_cases hn3 : 300 < n.size
    · have hn3' : (300 : Int) < (n.size : Int) := by omega
      go_wp2_with (go_at_call 10; refine (HL.out _).mono ?_; rintro e w2 ⟨rfl, hw⟩; obtain rfl := hw.symm)
      go_ret
      exact ⟨rfl, HB1.out⟩
    · have hn3' : ¬ (300 : Int) < (n.size : Int) := by omega
      have hp := hparse_e s w1 HE1.out (by omega)
      go_wp2_with (go_at_call 10; refine (HL.out _).mono ?_; rintro e w2 ⟨rfl, hw⟩; obtain rfl := hw.symm)
      refine hp.mono ?_
      rintro e w2 ⟨l, v, hpd, rfl, hv, hb2⟩
      obtain ⟨A, c, rfl, hA⟩ := hv.form
      have hll : l.length ≤ 64 := by have := hpd.len; rwa [List.length_map] at this
      have hf := find_e A c l.length l n kind w2 (HE1.out.below hb2) hA rfl hll
      have HB2 := Lib.hid (HB1.out.trans (hb2.mono HB1.out.size))
      have HGd := Lib.hid hA.good
      clear hp hv hb2 hpd hA
      go_wp2_with fail
      refine hf.mono ?_
      rintro e w3 ⟨rv, rfl, hr, hb3⟩
      have HB3 := Lib.hid (HB2.out.trans (hb3.mono HB2.out.size))
      have hra := rec_addr (n := n.data.toList) (kind := kind) (fun h hh => (HGd.out h hh).len)
      have hfn := find_none (l := l.map (·.h)) (n := n.data.toList) (kind := kind)
      have hr32 : (findL (l.map (·.h)) n.data.toList kind).length ≤ 32 := by unfold findL; rw [List.length_take]; omega
      generalize hrs : findL (l.map (·.h)) n.data.toList kind = rs at hr hra hfn hr32
      generalize (l.map (·.h)).any (hitH n.data.toList) = there at hfn
      clear hrs hb3 hf
      have HFN := Lib.hid hfn
      have HRA := Lib.hid hra
      clear hfn hra
      obtain ⟨R, rc, rfl, hR⟩ : ∃ R rc, rv = .slice R rs.length rc ∧ (rs ≠ [] → ∃ b, R = some ⟨b, 0, none⟩ ∧ b < w3.heap.size ∧ ∀ k u, (rvsF n kind rs)[k]? = some u → w3.cell? ⟨b, k, none⟩ = some u) := by
        rcases hr with ⟨rfl, rfl⟩ | ⟨_, b, c2, rfl, hlt, hc⟩
        · exact ⟨none, 0, rfl, fun h => absurd rfl h⟩
        · exact ⟨_, c2, rfl, fun _ => ⟨b, rfl, hlt, hc⟩⟩
      have HR := Lib.hid hR
      clear hr hR
      go_wp2_with fail
      go_loopg [31, 10] rs.length (fun gk i _ wr => ∃ k : Nat, i = .int .i64 k ∧ k + gk = rs.length ∧ Below w3.heap.size w3 wr)
      case atStart => exact ⟨0, rfl, by simp, Below.refl _ _⟩
      case round =>
        obtain ⟨k, rfl, hk, hbw⟩ := hrel
        by_cases hlt : k < rs.length
        · obtain ⟨g, rfl⟩ : ∃ g, gk = g + 1 := ⟨gk - 1, by omega⟩
          obtain ⟨x, hx⟩ : ∃ x, rs[k]? = some x := ⟨_, List.getElem?_eq_getElem hlt⟩
          obtain ⟨b, rfl, hbl, hcells⟩ := HR.out (by intro e; rw [e] at hlt; simp at hlt)
          have hxa := HRA.out x (List.mem_of_getElem? hx)
          obtain ⟨r0, r1, r2, r19, r20⟩ := rc_at n kind hxa
          obtain ⟨cs, hcs⟩ : ∃ cs, cs = (rcells n kind x).toArray := ⟨_, rfl⟩
          have hcs21 : cs.size = 21 := by rw [hcs, List.size_toArray, rcells_len hxa]
          have hld : ∀ j v, cs.toList[j]? = some v → wr.cell? ((⟨b, k * 21, none⟩ : Addr).add j) = some v := fun j v hj => by
            rw [hcs] at hj
            have hj' : (rcells n kind x)[j]? = some v := hj
            have hjl := (List.getElem?_eq_some_iff.1 hj').1
            rw [rcells_len hxa] at hjl
            rw [Addr.add_lit, hbw.cell (p := ⟨b, k * 21 + j, none⟩) hbl]
            exact hcells _ _ (by rw [rvsF_at HRA.out hx hjl]; exact hj')
          have hc1 : cs.all (·.oneCell') = true := by rw [hcs, List.all_toArray]; exact List.all_eq_true.2 (rcells_one _ _ _)
          have hnew : ∀ j u, (rcells n kind x)[j]? = some u → (wr.alloc (.cells cs 40)).cell? ⟨wr.heap.size, j, none⟩ = some u := fun j u hj => by
            rw [World.cell?_alloc_mark, hcs, List.getElem?_toArray]; exact hj
          have c0 := hnew _ _ r0
          have c1 := hnew _ _ r1
          have c2 := hnew _ _ r2
          have c20 := hnew _ _ r20
          have HSc : Hid ((Tryz.prog.info? 40).map (·.size) = some cs.size) := Lib.hid (by rw [hcs21]; exact HSI.out)
          have HZc : Hid (ZR.size = cs.size) := Lib.hid (by rw [hcs21]; exact HZS.out)
          have HLd := Lib.hid hld
          have HC1 := Lib.hid hc1
          have HBn := Lib.hid (hbw.alloc hbw.size (.cells cs 40))
          have hkI : (k : Int) < (rs.length : Int) := by omega
          clear hcells hxa r0 r1 r2 r19 r20 hcs hcs21 hld hc1 hnew hbw hx
          go_wp2_with (first
            | (refine wpList_load_agg rfl 40 (.tmp 33) rfl ⟨b, k * 21, none⟩ rfl cs _ HLd.out huR rfl HSc.out ?_; go_simp)
            | (refine wpList_alloc_z rfl 40 rfl ZR HZR.out ?_; go_simp)
            | (refine wpList_store_new rfl 40 (.tmp 10) (.tmp 34) rfl wr.heap.size rfl ZR cs 40 rfl rfl HSc.out HZc.out HC1.out ?_; go_simp))
          go_roundg g
          case measure => omega
          case rel => exact ⟨k + 1, by go_num, by omega, HBn.out⟩
        · have hkI : ¬ (k : Int) < (rs.length : Int) := by omega
          have HBe := Lib.hid (HB3.out.trans (hbw.mono HB3.out.size))
          clear hbw
          cases there
          · have h0 := HFN.out rfl
            subst h0
            go_wp2_with fail
            go_ret
            exact ⟨rfl, HBe.out⟩
          · go_wp2_with fail
            go_ret
            exact ⟨rfl, HBe.out⟩
  · rw [decide_eq_false hs2] at HL
    go_wp2_with (go_at_call 10; refine (HL.out _).mono ?_; rintro e w2 ⟨rfl, hw⟩; obtain rfl := hw.symm)
    go_ret
    exact ⟨rfl, HB1.out⟩
end Go.Proofs.YtclfmokdjmnjcaaGreatDoor
