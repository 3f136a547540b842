/-
  The contract of hosts.Print: of each line the address and the names, with a blank between, and a newline. Conditions: the lines lie in memory, at most 64; what is told is no longer than 40000000.
-/
import Derived.Test.YtclfmokdjmnjcaaGreatDoorHostsPr
import Derived.Test.YtclfmokdjmnjcaaGreatDoorAddrPrint
namespace Go.Proofs.YtclfmokdjmnjcaaGreatDoor
open Go.RowKit

theorem printL_take {l : List HostM} {k : Nat} {h : HostM} (hh : l[k]? = some h) : printL (l.take (k + 1)) = printL (l.take k) ++ txt h.addr ++ nmT h.names ++ [10] := by
  unfold printL
  rw [List.take_add_one, hh, List.flatMap_append]
  simp [lineT]
theorem printL_le {l : List HostM} (k : Nat) : (printL (l.take k)).length ≤ (printL l).length := by
  have h : printL l = printL (l.take k) ++ printL (l.drop k) := by
    unfold printL
    rw [← List.flatMap_append, List.take_append_drop]
  rw [h, List.length_append]; omega
theorem nmT_take {ns : List (List UInt8)} {j : Nat} {n : List UInt8} (hh : ns[j]? = some n) : nmT (ns.take (j + 1)) = nmT (ns.take j) ++ [32] ++ n := by
  unfold nmT
  rw [List.take_add_one, hh, List.flatMap_append]
  simp
theorem nmT_le {ns : List (List UInt8)} (j : Nat) : (nmT (ns.take j)).length ≤ (nmT ns).length := by
  have h : nmT ns = nmT (ns.take j) ++ nmT (ns.drop j) := by
    unfold nmT
    rw [← List.flatMap_append, List.take_append_drop]
  rw [h, List.length_append]; omega
theorem isB_below {w w' : World} {B b : Nat} {bs : List Value} (h : Lib.IsBuilder 58 5 B b bs w) (hb : Below w.heap.size w w') : Lib.IsBuilder 58 5 B b bs w' := by
  have go : ∀ p, Lib.BuilderAt 58 5 B b p bs w → Lib.BuilderAt 58 5 B b p bs w' := fun p h => by
    have hlt := h.lt
    obtain ⟨hB, v, hv, ho, hn⟩ := h
    exact ⟨hB, v, (hb.block _ hlt).trans hv, own_step ho hb, hn⟩
  exact h.imp (go _) (go _)
theorem isB_str {w : World} {B b : Nat} {l : List UInt8} {t : ByteArray} (h : Lib.IsBuilder 58 5 B b (Lib.byteCells l ++ Lib.strCells t) w) : Lib.IsBuilder 58 5 B b (Lib.byteCells (l ++ t.data.toList)) w := by
  rw [Lib.byteCells_append]; exact h
set_option maxRecDepth 100000 in
set_option maxHeartbeats 4000000 in
theorem hprint_e (A : Option Addr) (c len : Nat) (ls : List HV) (w : World) (he : AEnv w) (hls : HostsA w A ls) (hlen : ls.length = len) (hl : len ≤ 64) (hsz : (printL (ls.map (·.h))).length ≤ 40000000) :
    Calls Tryz.prog 12 #[.slice A len c] w fun e w' => e = .returned (.string (tb (printL (ls.map (·.h))))) ∧ Below w.heap.size w w' := by
  have HLS := Lib.hid hls
  have HE := Lib.hid he
  have HSZ := Lib.hid hsz
  have hB0 := Lib.fresh_isBuilder 58 5 w
  have HB0 := Lib.hid hB0
  have HA0 : Hid (Below w.heap.size w (w.alloc (.cells #[.pointer none, .slice none 0 0] 58))) := Lib.hid ((Below.refl _ w).alloc (Nat.le_refl _) _)
  clear hls he hsz hB0
  go_enter Tryz.func12, Tryz.ntmps12
  go_wp2_with fail
  go_loopg [10, 5, 7] len (fun gk i _ _ wr => ∃ k : Nat, i = .int .i64 k ∧ k + gk = len ∧ Hid (Lib.IsBuilder 58 5 w.heap.size w.heap.size (Lib.byteCells (printL ((ls.map (·.h)).take k))) wr) ∧ Hid (Below w.heap.size w wr))
  case atStart => exact ⟨0, rfl, by simp, HB0, HA0⟩
  case round =>
    obtain ⟨k, rfl, hk, HBU, HBA⟩ := hrel
    by_cases hlt : k < len
    · obtain ⟨g, rfl⟩ : ∃ g, gk = g + 1 := ⟨gk - 1, by omega⟩
      obtain ⟨x, hx⟩ : ∃ x, ls[k]? = some x := ⟨_, List.getElem?_eq_getElem (by omega)⟩
      obtain ⟨b, rfl, hrow0⟩ := HLS.out (by intro e; rw [e] at hlen; simp at hlen; omega)
      have hrow := hrow0.below HBA.out
      have hgx := hrow.ns.good x (List.mem_of_getElem? hx)
      have hkI : (k : Int) < (len : Int) := by omega
      have hld := hrow.load hx
      have hnm := hrow0.ns.names x (List.mem_of_getElem? hx)
      have hsm : x.h.names.length ≤ 4294967281 := hrow.ns.small x (List.mem_of_getElem? hx)
      have hbk : HBlk (wr.alloc (.cells x.cells.toArray 31)) wr.heap.size x := HBlk.new hgx.len (hrow.ns.names x (List.mem_of_getElem? hx))
      have hsc : x.cells.toArray.size = 17 := by rw [List.size_toArray]; exact HV.len hgx.len
      have hc1 : x.cells.toArray.all (·.oneCell') = true := by rw [List.all_toArray]; exact List.all_eq_true.2 x.one
      obtain ⟨cs, hcs⟩ : ∃ cs, cs = x.cells.toArray := ⟨_, rfl⟩
      have h16 : cs[16]? = some (.slice (some ⟨x.g, 0, none⟩) x.h.names.length x.c) := by rw [hcs, List.getElem?_toArray]; exact HV.nm hgx.len
      rw [← hcs] at hld hbk hsc hc1
      obtain ⟨ZH, hZH⟩ : ∃ ZH, ZH = (bvs zero16).toArray.push (.slice none 0 0) := ⟨_, rfl⟩
      have HZA : Hid ((Tryz.prog.info? 31).map (·.zero) = some (some (.agg ZH))) := Lib.hid (by rw [hZH]; kernel_rfl)
      have HZS : Hid (ZH.size = cs.size) := Lib.hid (by rw [hZH, hsc]; rfl)
      have HSI : Hid ((Tryz.prog.info? 31).map (·.size) = some cs.size) := Lib.hid (by rw [hsc]; kernel_rfl)
      have huH := Tryz.underlying31
      have huA := Tryz.underlying28
      have hb0 : Below wr.heap.size wr (wr.alloc (.cells cs 31)) := (Below.refl _ wr).alloc (Nat.le_refl _) _
      have hblk : (wr.alloc (.cells cs 31)).heap[wr.heap.size]? = some (Obj.cells cs 31 (0, 0)) := heap_alloc_last wr _
      obtain ⟨r, hr⟩ : ∃ r, r = (bvs x.h.addr).toArray := ⟨_, rfl⟩
      have hSa := sizeBv hgx.len
      have HPr := Lib.hid (fun W (hW : AEnv W) => print_e x.h.addr hgx.len W hW)
      simp only [← hr] at HPr hSa
      have HSa := Lib.hid hSa
      have HByA : Hid (∀ j v, r.toList[j]? = some v → (wr.alloc (.cells cs 31)).cell? ((⟨wr.heap.size, 0, none⟩ : Addr).add j) = some v) := Lib.hid (by rw [hr]; exact hbk.byte)
      have HLD := Lib.hid hld
      have HC1 := Lib.hid hc1
      have HBU0 := Lib.hid (isB_below HBU.out hb0)
      have HBA0 := Lib.hid (HBA.out.trans (hb0.mono HBA.out.size))
      have hxm : (ls.map (·.h))[k]? = some x.h := by rw [List.getElem?_map, hx]; rfl
      have hpt := printL_take hxm
      have hple : (printL ((ls.map (·.h)).take (k + 1))).length ≤ 40000000 := Nat.le_trans (printL_le _) HSZ.out
      rw [hpt] at hple
      simp only [List.length_append, List.length_singleton] at hple
      have HPT := Lib.hid hpt
      have HBLK := Lib.hid hblk
      have H16 := Lib.hid h16
      have HNM := Lib.hid hnm
      clear hrow0 hrow hgx hld hnm hbk hsc hc1 hcs hZH hb0 hblk hr hSa hxm hpt hx h16
      generalize printL ((ls.map (·.h)).take k) = pl at HBU0 HPT hple
      generalize hnn : x.h.names = ns at hple hsm H16 HNM HPT
      clear hnn
      generalize hta : txt x.h.addr = ta at hple HPT HPr
      clear hta
      go_wp2_with (first
        | (refine wpList_load_agg rfl 31 (.tmp 12) rfl ⟨b, k * 17, none⟩ rfl cs _ HLD.out huH rfl HSI.out ?_; go_simp)
        | (refine wpList_alloc_z rfl 31 rfl ZH HZA.out ?_; go_simp)
        | (refine wpList_store_new rfl 31 (.tmp 5) (.tmp 13) rfl wr.heap.size rfl ZH cs 31 rfl rfl HSI.out HZS.out HC1.out ?_; go_simp)
        | (refine wpList_load_agg rfl 28 (.tmp 14) rfl ⟨wr.heap.size, 0, none⟩ rfl r _ HByA.out huA rfl HSa.out ?_; go_simp))
      refine (HPr.out _ (HE.out.below HBA0.out)).mono ?_
      rintro e w3 ⟨rfl, hb3⟩
      have hw3 : w.heap.size ≤ w3.heap.size := Nat.le_trans HBA0.out.size hb3.size
      have hbu3 := isB_below HBU0.out hb3
      have hbl3 : w3.heap[wr.heap.size]? = some (Obj.cells cs 31 (0, 0)) := by rw [hb3.block _ (by rw [World.size_alloc]; exact Nat.lt_succ_self _)]; exact HBLK.out
      have HBA3 := Lib.hid (HBA0.out.trans (hb3.mono HBA0.out.size))
      have hws := wstr_e w.heap.size w.heap.size _ (tb ta) w3 hbu3 (by rw [Lib.byteCells_length]; show _ + ta.toArray.size ≤ _; rw [List.size_toArray]; omega) hw3
      go_wp2_with fail
      refine hws.mono ?_
      rintro e w4 ⟨rfl, hbu4, hb4, hot4⟩
      have hc16 : w4.cell? ⟨wr.heap.size, 16, none⟩ = some (.slice (some ⟨x.g, 0, none⟩) ns.length x.c) := by
        rw [Lib.cell_of_heap ((hot4 _ _ _ _ hbl3 (by decide) (by decide)).trans hbl3)]; exact H16.out
      have HBU4 := Lib.hid (isB_str hbu4)
      have HBA4 := Lib.hid (HBA3.out.trans hb4)
      clear hws hbu3 hbl3 hb3 hbu4 hb4 hot4 hw3
      go_wp2_with fail
      go_loopg [21, 7] ns.length (fun gk i _ wr2 => ∃ j : Nat, i = .int .i64 j ∧ j + gk = ns.length ∧ Hid (Lib.IsBuilder 58 5 w.heap.size w.heap.size (Lib.byteCells (pl ++ ta ++ nmT (ns.take j))) wr2) ∧ Hid (Below w.heap.size w wr2))
      case atStart => exact ⟨0, rfl, by simp, Lib.hid (by have := HBU4.out; rw [tb_data] at this; simpa [nmT] using this), HBA4⟩
      case round =>
        obtain ⟨j, rfl, hj, HBU5, HBA5⟩ := hrel
        by_cases hlt2 : j < ns.length
        · obtain ⟨g2, rfl⟩ : ∃ g', gk = g' + 1 := ⟨gk - 1, by omega⟩
          obtain ⟨n, hn⟩ : ∃ n, ns[j]? = some n := ⟨_, List.getElem?_eq_getElem hlt2⟩
          have hjI : (j : Int) < (ns.length : Int) := by omega
          have hst := HNM.out.below HBA5.out
          have cst : wr.cell? ⟨x.g, j, none⟩ = some (.string (tb n)) := by
            have h := hst.2 j (by rw [List.length_map]; exact hlt2)
            rw [Nat.zero_add, List.getD_eq_getElem?_getD, List.getElem?_map, hn] at h
            exact h
          have hnt := nmT_take hn
          have hnl := nmT_le (ns := ns) (j + 1)
          rw [hnt] at hnl
          simp only [List.length_append, List.length_singleton] at hnl
          have HNT := Lib.hid hnt
          clear hst hn hnt
          have hw5 : w.heap.size ≤ wr.heap.size := HBA5.out.size
          have hws := wstr_e w.heap.size w.heap.size _ ⟨#[32]⟩ wr HBU5.out (by rw [Lib.byteCells_length]; show _ + 1 ≤ _; simp only [List.length_append]; omega) hw5
          go_wp2_with fail
          refine hws.mono ?_
          rintro e w6 ⟨rfl, hbu6, hb6, _⟩
          have hbu6' := isB_str hbu6
          have HBA6 := Lib.hid (HBA5.out.trans hb6)
          have hws2 := wstr_e w.heap.size w.heap.size _ (tb n) w6 hbu6' (by rw [Lib.byteCells_length]; show _ + n.toArray.size ≤ _; rw [List.size_toArray]; simp only [List.length_append]; show _ + 1 + _ ≤ _; omega) HBA6.out.size
          clear hws hbu6 hb6
          go_wp2_with fail
          refine hws2.mono ?_
          rintro e w7 ⟨rfl, hbu7, hb7, _⟩
          have HBU7 := Lib.hid (isB_str hbu7)
          have HBA7 := Lib.hid (HBA6.out.trans hb7)
          clear hws2 hbu7 hb7 hbu6'
          go_wp2_with fail
          go_roundg g2
          case measure => omega
          case rel => exact ⟨j + 1, by go_num, by omega, Lib.hid (by have := HBU7.out; rw [tb_data] at this; rw [HNT.out]; simpa [List.append_assoc] using this), HBA7⟩
        · have hjI : ¬ (j : Int) < (ns.length : Int) := by omega
          have hws := wstr_e w.heap.size w.heap.size _ ⟨#[10]⟩ wr HBU5.out (by rw [Lib.byteCells_length, List.take_of_length_le (by omega)]; show _ + 1 ≤ _; simp only [List.length_append]; omega) HBA5.out.size
          go_wp2_with fail
          refine hws.mono ?_
          rintro e w8 ⟨rfl, hbu8, hb8, _⟩
          have hbu8' := isB_str hbu8
          rw [List.take_of_length_le (by omega)] at hbu8'
          have HBU8 : Hid (Lib.IsBuilder 58 5 w.heap.size w.heap.size (Lib.byteCells (printL ((ls.map (·.h)).take (k + 1)))) w8) := Lib.hid (by rw [HPT.out]; exact hbu8')
          have HBA8 := Lib.hid (HBA5.out.trans hb8)
          clear hws hbu8 hbu8' hb8
          go_wp2_with fail
          go_roundg g
          case measure => omega
          case rel => exact ⟨k + 1, by go_num, by omega, HBU8, HBA8⟩
    · have hkI : ¬ (k : Int) < (len : Int) := by omega
      have hbu := HBU.out
      rw [List.take_of_length_le (by rw [List.length_map]; omega)] at hbu
      have hst := Tryz.Builder_String_any w.heap.size w.heap.size (printL (ls.map (·.h))) wr hbu HBA.out.size
      clear hbu
      go_wp2_with fail
      refine hst.mono ?_
      rintro e w9 ⟨rfl, hb9⟩
      have HB9 := Lib.hid (HBA.out.trans hb9)
      clear hst hb9
      go_wp2_with fail
      go_ret
      exact ⟨rfl, HB9.out⟩
end Go.Proofs.YtclfmokdjmnjcaaGreatDoor
