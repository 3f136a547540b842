/-
  The contract of names: the first ones of lines. Conditions: the lines lie in memory, and there are at most 64.
-/
import Derived.Test.YtclfmokdjmnjcaaGreatDoorHostsAll
namespace Go.Proofs.YtclfmokdjmnjcaaGreatDoor
open Go.RowKit

/-- the first names of lines -/
def firstN (ls : List HV) : List ByteArray := ls.map fun x => tb (x.h.names.headD [])
theorem firstN_take {ls : List HV} {k : Nat} {x : HV} (h : ls[k]? = some x) : firstN (ls.take (k + 1)) = firstN (ls.take k) ++ [tb (x.h.names.headD [])] := by
  unfold firstN
  rw [List.take_add_one, h, List.map_append]; rfl
theorem head_at {x : HV} (h : x.h.names ≠ []) : ∃ n ns, x.h.names = n :: ns ∧ x.h.names.headD [] = n := by
  cases hn : x.h.names with
  | nil => exact absurd hn h
  | cons n ns => exact ⟨n, ns, rfl, rfl⟩
set_option maxRecDepth 100000 in
set_option maxHeartbeats 4000000 in
theorem names_e (A : Option Addr) (c len : Nat) (ls : List HV) (w : World) (hls : HostsA w A ls) (hlen : ls.length = len) (hl : len ≤ 64) :
    Calls Tryz.prog 18 #[.slice A len c] w fun e w' => ∃ v, e = .returned v ∧ w'.ownsRow w.heap.size 9 1 v len ((firstN ls).map Value.string) ∧ Below w.heap.size w w' := by
  have HLS := Lib.hid hls
  clear hls
  go_enter Tryz.func18, Tryz.ntmps18
  go_wp2_with fail
  go_loopg [8, 3, 5] len (fun gk i v _ wr => ∃ k : Nat, i = .int .i64 k ∧ k + gk = len ∧ Hid (wr.ownsRow w.heap.size 9 1 v k ((firstN (ls.take k)).map Value.string)) ∧ Hid (Below w.heap.size w wr))
  case atStart => exact ⟨0, rfl, by simp, Lib.hid (World.ownsRow_nil w _ _ _), Lib.hid (Below.refl _ w)⟩
  case round =>
    obtain ⟨k, rfl, hk, HRW, HBA⟩ := hrel
    by_cases hlt : k < len
    · obtain ⟨g, rfl⟩ : ∃ g, gk = g + 1 := ⟨gk - 1, by omega⟩
      obtain ⟨x, hx⟩ : ∃ x, ls[k]? = some x := ⟨_, List.getElem?_eq_getElem (by omega)⟩
      obtain ⟨b, rfl, hrow⟩ := (HLS.out.below HBA.out) (by intro e; rw [e] at hlen; simp at hlen; omega)
      have hgx := hrow.ns.good x (List.mem_of_getElem? hx)
      have hkI : (k : Int) < (len : Int) := by omega
      have hld := hrow.load hx
      have hnm := hrow.ns.names x (List.mem_of_getElem? hx)
      have hbk : HBlk (wr.alloc (.cells x.cells.toArray 31)) wr.heap.size x := HBlk.new hgx.len hnm
      have hsc : x.cells.toArray.size = 17 := by rw [List.size_toArray]; exact HV.len hgx.len
      have hc1 : x.cells.toArray.all (·.oneCell') = true := by rw [List.all_toArray]; exact List.all_eq_true.2 x.one
      obtain ⟨cs, hcs⟩ : ∃ cs, cs = x.cells.toArray := ⟨_, rfl⟩
      rw [← hcs] at hld hbk hsc hc1
      obtain ⟨ZH, hZH⟩ : ∃ ZH, ZH = (bvs zero16).toArray.push (.slice none 0 0) := ⟨_, rfl⟩
      have HZA : Hid ((Tryz.prog.info? 31).map (·.zero) = some (some (.agg ZH))) := Lib.hid (by rw [hZH]; kernel_rfl)
      have HZS : Hid (ZH.size = cs.size) := Lib.hid (by rw [hZH, hsc]; rfl)
      have HSI : Hid ((Tryz.prog.info? 31).map (·.size) = some cs.size) := Lib.hid (by rw [hsc]; kernel_rfl)
      have huH := Tryz.underlying31
      have hb0 : Below wr.heap.size wr (wr.alloc (.cells cs 31)) := (Below.refl _ wr).alloc (Nat.le_refl _) _
      obtain ⟨n0, ns, hns, hhd⟩ := head_at hgx.ne
      have hn0 : (0 : Int) < (x.h.names.length : Int) := by rw [hns, List.length_cons]; omega
      have c16 := hbk.nm
      have hst := hbk.names
      rw [hns, List.map_cons] at hst
      have cst : (wr.alloc (.cells cs 31)).cell? ⟨x.g, 0, none⟩ = some (.string (tb n0)) := hst.2 0 (by simp)
      have hft := firstN_take hx
      rw [hhd] at hft
      have HFT := Lib.hid hft
      have HLD := Lib.hid hld
      have HC1 := Lib.hid hc1
      have hRW2 := HRW.out.alloc (.cells cs 31)
      have HRW2 := Lib.hid hRW2
      have HB0 := Lib.hid (HBA.out.trans (hb0.mono HBA.out.size))
      generalize tb n0 = y at cst hft HFT
      generalize x.h.names.length = nl at hn0 c16
      clear hrow hgx hld hnm hbk hsc hc1 hcs hZH hb0 hns hhd hst hft hRW2 hx
      go_wp2_with (first
        | (refine wpList_load_agg rfl 31 (.tmp 10) rfl ⟨b, k * 17, none⟩ rfl cs _ HLD.out huH rfl HSI.out ?_; go_simp)
        | (refine wpList_alloc_z rfl 31 rfl ZH HZA.out ?_; go_simp)
        | (refine wpList_store_new rfl 31 (.tmp 5) (.tmp 11) rfl wr.heap.size rfl ZH cs 31 rfl rfl HSI.out HZS.out HC1.out ?_; go_simp)
        | (refine wpList_append_strs rfl (.tmp 12) (.tmp 17) rfl w.heap.size k 1 _ (firstN (ls.take k)) [y] rfl (HRW2.out.alloc _) (by omega) (by rw [World.size_alloc]; have := HB0.out.size; omega) ⟨wr.heap.size + 1, 0, none⟩ 1 rfl rfl (fun j hj => by rw [Addr.add_lit, Nat.zero_add]; match j, hj with | 0, _ => rw [show wr.heap.size + 1 = (wr.alloc (.cells cs 31)).heap.size from (World.size_alloc _ _).symm, World.cell?_alloc_mark]; rfl) ?_
           intro v5 w5 ho5 hb5
           rw [← HFT.out] at ho5
           have HO5 := Lib.hid ho5
           have HB5 := Lib.hid ((HB0.out.alloc HB0.out.size _).trans hb5)
           clear ho5 hb5; go_simp))
      go_roundg g
      case measure => omega
      case rel => exact ⟨k + 1, by go_num, by omega, HO5, HB5⟩
    · have hkI : ¬ (k : Int) < (len : Int) := by omega
      have hke : k = len := by omega
      subst hke
      rw [List.take_of_length_le (by omega)] at HRW
      go_wp2_with fail
      go_ret
      exact ⟨_, rfl, HRW.out, HBA.out⟩
end Go.Proofs.YtclfmokdjmnjcaaGreatDoor
