/-
  The walk of HostsWords: words are what stands between blanks and tabs, up to a #. Conditions: the text is one that may come in; the library's variables hold what their initialisers lay.
-/
import Derived.Test.YtclfmokdjmnjcaaGreatDoorHostsAll
import Derived.Laws.Concat
import Derived.BigQuiet
namespace Go.Proofs.YtclfmokdjmnjcaaGreatDoor
open Go.RowKit

theorem own_cellsW {w : World} {base n size : Nat} {e : TypeId} {v : Value} {xs : List Value} (h : w.ownsRow base e size v n xs) (h0 : 0 < n) : ∃ g cap, v = .slice (some ⟨g, 0, none⟩) n cap ∧ g < w.heap.size ∧ ∀ k u, xs[k]? = some u → w.cell? ⟨g, k, none⟩ = some u := by
  rcases h.2 with ⟨_, h1⟩ | ⟨g, cap, cur, hv, hb, hg, hc, hm, hs, ht⟩
  · omega
  · refine ⟨g, cap, hv, (Array.getElem?_eq_some_iff.1 hg).1, fun k u hk => ?_⟩
    rw [cell_of_row w g k cur _ (0, 0) hg, ← Array.getElem?_toList]
    rw [← ht] at hk
    have hkl := (List.getElem?_eq_some_iff.1 hk).1
    rw [List.length_take] at hkl
    rwa [List.getElem?_take_of_lt (by omega)] at hk
theorem tl_end : toldL [] = [] := rfl
theorem toldL_hash (l : List UInt8) : toldL (35 :: l) = [] := by rw [toldL, if_pos rfl]
theorem toldL_next {c : UInt8} (h : c ≠ 35) (l : List UInt8) : toldL (c :: l) = c :: toldL l := by rw [toldL, if_neg h]
theorem fw_step {c : UInt8} (h : spc c = false) (cur l : List UInt8) : fw cur (c :: l) = fw (cur ++ [c]) l := by rw [fw, if_neg (by rw [h]; decide)]
theorem fw_end (cur : List UInt8) : fw cur [] = if cur = [] then [] else [cur] := by rw [fw]
/-- how the law's own loop stands at byte k -/
structure WsAt (w wr : World) (s : ByteArray) (k : Nat) (W : ByteArray) (v : Value) (wt : List ByteArray) : Prop where
  below : Below w.heap.size w wr
  row : wr.ownsRow w.heap.size 9 1 v wt.length (wt.map Value.string)
  size : W.size ≤ k
  len : wt.length ≤ k
  fin : k = s.size + 1 → W.size = 0
  all : wt.map (·.data.toList) ++ fw W.data.toList (toldL (s.data.toList.drop k)) = wordsL s.data.toList
theorem dropE (s : ByteArray) : s.data.toList.drop s.size = [] := List.drop_eq_nil_of_le (by rw [← Lib.size_eq]; exact Nat.le_refl _)
theorem dropM (s : ByteArray) : s.data.toList.drop (s.size + 1) = [] := List.drop_eq_nil_of_le (by rw [← Lib.size_eq]; omega)
theorem extract1 (s : ByteArray) (k : Nat) (h : k < s.size) : (s.extract k (k + 1)).data.toList = [s[k]] := by
  rw [ByteArray.data_extract, Array.toList_extract]
  show (s.data.toList.drop k).take (k + 1 - k) = _
  rw [dropF_at s k h, show k + 1 - k = 1 by omega]; rfl
theorem snocD (wt : List ByteArray) (W : ByteArray) : (wt ++ [W]).map (·.data.toList) = wt.map (·.data.toList) ++ [W.data.toList] := by rw [List.map_append]; rfl
set_option maxRecDepth 100000 in
set_option maxHeartbeats 4000000 in
theorem hostsWords_walk (s : ByteArray) (hs : s.size ≤ 140737488351232) (w : World) (he : AEnv w) :
    Calls Tryz.prog 5 #[.string s] w fun e w' => e = .returned (.bool true) ∧ Below w.heap.size w w' := by
  have HE := Lib.hid he
  have HL := Lib.hid (fun W => light_e s W (by omega))
  clear he
  go_enter Tryz.func5, Tryz.ntmps5
  go_wp2_with fail
  refine (fit6_e _ HE.out).mono ?_
  rintro e w1 ⟨rfl, hb1⟩
  have HB1 := Lib.hid hb1
  have HE1 := Lib.hid (HE.out.below hb1)
  clear hb1
  by_cases hs2 : s.size ≤ 2000
  · rw [decide_eq_true hs2] at HL
    have hwd := words_e s w1 HE1.out (by omega)
    go_wp2_with (go_at_call 10; refine (HL.out _).mono ?_; rintro e w2 ⟨rfl, hw⟩; obtain rfl := hw.symm)
    refine hwd.mono ?_
    rintro e w2 ⟨b, xs, hxs, rfl, hst, hb2⟩
    have HB2 := Lib.hid (HB1.out.trans (hb2.mono HB1.out.size))
    have HXS := Lib.hid hxs
    have HST := Lib.hid hst
    clear hwd hb2 hxs hst
    go_wp2_with fail
    go_loopg [18, 4, 5, 6] (s.size + 1) (fun gk i v wd _ wr => ∃ (k : Nat) (W : ByteArray) (wt : List ByteArray), i = .int .i64 k ∧ wd = .string W ∧ k + gk = s.size + 1 ∧ WsAt w2 wr s k W v wt)
    case atStart => exact ⟨0, ⟨#[]⟩, [], rfl, rfl, by simp, Below.refl _ _, World.ownsRow_nil _ _ _ _, by decide, by decide, fun _ => rfl, rfl⟩
    case round =>
      obtain ⟨k, W, wt, rfl, rfl, hk, hat⟩ := hrel
      obtain ⟨B, cap, hv⟩ := own_form hat.row
      subst hv
      by_cases hks : k ≤ s.size
      · obtain ⟨g, rfl⟩ : ∃ g, gk = g + 1 := ⟨gk - 1, by omega⟩
        have hkI : (k : Int) < (s.size : Int) + 1 := by omega
        have hkk : (k : Int) ≤ 2000 := by omega
        have HRW := Lib.hid hat.row
        have HBA := Lib.hid hat.below
        have hWs := hat.size
        have hwl := hat.len
        have HALL := Lib.hid hat.all
        clear hat
        by_cases hke : k = s.size
        · -- behind the text
          have hall := HALL.out
          rw [hke, dropE s, tl_end, fw_end] at hall
          have hkI2 : (k : Int) = (s.size : Int) := by omega
          have hnl : ¬ (k : Int) < (s.size : Int) := by omega
          by_cases hW : W = ⟨#[]⟩
          · subst hW
            rw [if_pos rfl, List.append_nil] at hall
            have HN : Hid (WsAt w2 wr s (k + 1) ⟨#[]⟩ _ wt) := Lib.hid ⟨HBA.out, HRW.out, by show 0 ≤ _; omega, by omega, fun _ => rfl, by rw [hke, dropM s]; show _ ++ fw [] (toldL []) = _; rw [tl_end, fw_end, if_pos rfl, List.append_nil]; exact hall⟩
            clear hall hke
            go_wp2_with fail
            go_roundg g
            case measure => omega
            case rel => exact ⟨k + 1, ⟨#[]⟩, wt, by go_num, rfl, by omega, HN.out⟩
          · have hWd : W.data.toList ≠ [] := fun e => hW (bytes_inj e)
            rw [if_neg hWd] at hall
            have hW1 : ¬ W.toList = [] := by rw [Lib.toList_data]; exact hWd
            have hW2 : (W.toList == []) = false := beq_eq_false_iff_ne.2 hW1
            have hW3 : W.toList.isEmpty = false := by rw [List.isEmpty_eq_false_iff]; exact hW1
            have HF : Hid ((wt ++ [W]).map (·.data.toList) = wordsL s.data.toList) := Lib.hid (by rw [snocD]; exact hall)
            clear hall
            go_wp2_with (first
                | (refine wpList_append_strs rfl (.tmp 45) (.tmp 47) rfl w2.heap.size wt.length 1 _ wt [W] rfl (HRW.out.alloc _) (by omega) (by rw [World.size_alloc]; have := HBA.out.size; omega) ⟨wr.heap.size, 0, none⟩ 1 rfl rfl (fun j hj => by rw [Addr.add_lit, Nat.zero_add, World.cell?_alloc_mark]; match j, hj with | 0, _ => rfl) ?_; intro v5 w5 ho5 hb5; obtain ⟨B5, cap5, hv5⟩ := own_form ho5; subst hv5; have HO5 := Lib.hid ho5; have HB5 := Lib.hid ((HBA.out.alloc HBA.out.size _).trans hb5); clear ho5 hb5; go_simp))
            have HN : Hid (WsAt w2 w5 s (k + 1) ⟨#[]⟩ (.slice B5 (wt.length + 1) cap5) (wt ++ [W])) := Lib.hid ⟨HB5.out, by rw [List.length_append]; exact HO5.out, by show 0 ≤ _; omega, by rw [List.length_append, List.length_singleton]; omega, fun _ => rfl, by rw [hke, dropM s]; show _ ++ fw [] (toldL []) = _; rw [tl_end, fw_end, if_pos rfl, List.append_nil]; exact HF.out⟩
            go_roundg g
            case measure => omega
            case rel => exact ⟨k + 1, ⟨#[]⟩, wt ++ [W], by go_num, rfl, by omega, HN.out⟩
        · have hlt : k < s.size := by omega
          have hkI2 : ¬ (k : Int) = (s.size : Int) := by omega
          have hnl : (k : Int) < (s.size : Int) := by omega
          have hall := HALL.out
          rw [dropF_at s k hlt] at hall
          by_cases h35 : s[k] = 35
          · have e35 : (s[k].toNat : Int) = 35 := by rw [h35]; rfl
            rw [h35, toldL_hash, fw_end] at hall
            by_cases hW : W = ⟨#[]⟩
            · subst hW
              rw [if_pos rfl, List.append_nil] at hall
              have HF := Lib.hid hall
              have HRow := HRW
              have HBB := Lib.hid (HB2.out.trans (HBA.out.mono HB2.out.size))
              have HStr := Lib.hid (HST.out.below HBA.out)
              clear hall h35 HALL
              have hwx : wt = xs := map_data_inj (by rw [HF.out, HXS.out])
              subst hwx
              go_wp2_with fail
              go_loopg [74, 7] wt.length (fun gk i _ wr2 => ∃ k : Nat, i = .int .i64 k ∧ k + gk = wt.length ∧ Below wr.heap.size wr wr2)
              case atStart => exact ⟨0, rfl, by simp, Below.refl _ _⟩
              case round =>
                obtain ⟨k, rfl, hk, hbw⟩ := hrel
                by_cases hlt : k < wt.length
                · obtain ⟨g, rfl⟩ : ∃ g, gk = g + 1 := ⟨gk - 1, by omega⟩
                  obtain ⟨g1, cap1, hv1, hg1, hcl⟩ := own_cellsW HRow.out (by omega)
                  injection hv1 with hB1 hn1 hc1
                  subst hB1
                  subst hc1
                  clear hn1
                  have c1 : wr.cell? ⟨b, k, none⟩ = some (.string (wt.getD k ByteArray.empty)) := by
                    have h := HStr.out
                    rw [hbw.cell (p := ⟨b, k, none⟩) h.1]
                    have := h.2 k hlt
                    rwa [Nat.zero_add] at this
                  have c2 : wr.cell? ⟨g1, k, none⟩ = some (.string (wt.getD k ByteArray.empty)) := by
                    rw [hbw.cell (p := ⟨g1, k, none⟩) hg1]
                    refine hcl k _ ?_
                    rw [List.getElem?_map, List.getElem?_eq_getElem hlt, List.getD_eq_getElem?_getD, List.getElem?_eq_getElem hlt]; rfl
                  have hkI : (k : Int) < (wt.length : Int) := by omega
                  have hkz : (wt.length : Int) ≤ 5000 := by omega
                  have HBn := Lib.hid hbw
                  generalize wt.getD k ByteArray.empty = y at c1 c2
                  clear hcl hbw
                  go_wp2_with fail
                  go_quiet (fail)
                  go_wp2_with fail
                  go_roundg g
                  case measure => omega
                  case rel => exact ⟨k + 1, by go_num, by omega, below_drewQ HBn.out _⟩
                · have hkI : ¬ (k : Int) < (wt.length : Int) := by omega
                  have HBe := Lib.hid (HBB.out.trans (hbw.mono HBB.out.size))
                  clear hbw
                  go_wp2_with fail
                  go_ret
                  exact ⟨rfl, HBe.out⟩
            · have hWd : W.data.toList ≠ [] := fun e => hW (bytes_inj e)
              rw [if_neg hWd] at hall
              have hW1 : ¬ W.toList = [] := by rw [Lib.toList_data]; exact hWd
              have hW2 : (W.toList == []) = false := beq_eq_false_iff_ne.2 hW1
              have hW3 : W.toList.isEmpty = false := by rw [List.isEmpty_eq_false_iff]; exact hW1
              have HF0 : Hid ((wt ++ [W]).map (·.data.toList) = wordsL s.data.toList) := Lib.hid (by rw [snocD]; exact hall)
              have hxl : xs.length = wt.length + 1 := by
                have := congrArg List.length (HF0.out.trans HXS.out.symm)
                rw [List.length_map, List.length_map, List.length_append] at this
                exact this.symm
              clear hall h35 HALL
              go_wp2_with (first
                  | (refine wpList_append_strs rfl (.tmp 45) (.tmp 47) rfl w2.heap.size wt.length 1 _ wt [W] rfl (HRW.out.alloc _) (by omega) (by rw [World.size_alloc]; have := HBA.out.size; omega) ⟨wr.heap.size, 0, none⟩ 1 rfl rfl (fun j hj => by rw [Addr.add_lit, Nat.zero_add, World.cell?_alloc_mark]; match j, hj with | 0, _ => rfl) ?_; intro v5 w5 ho5 hb5; obtain ⟨B5, cap5, hv5⟩ := own_form ho5; subst hv5; have HO5 := Lib.hid ho5; have HB5 := Lib.hid ((HBA.out.alloc HBA.out.size _).trans hb5); clear ho5 hb5; go_simp))
              clear hxl
              have HBB := Lib.hid (HB2.out.trans (HB5.out.mono HB2.out.size))
              have HStr := Lib.hid (HST.out.below HB5.out)
              have HRow : Hid (w5.ownsRow w2.heap.size 9 1 (.slice B5 (wt.length + 1) cap5) (wt ++ [W]).length ((wt ++ [W]).map Value.string)) := Lib.hid (by rw [List.length_append]; exact HO5.out)
              have hwl5 : (wt ++ [W]).length ≤ 2001 := by rw [List.length_append, List.length_singleton]; omega
              have HF := HF0
              have hle5 : wt.length + 1 = (wt ++ [W]).length := by rw [List.length_append]; rfl
              have hle6 : (wt.length : Int) + 1 = (((wt ++ [W]).length : Nat) : Int) := by rw [List.length_append, List.length_singleton]; omega
              have hwl : (wt ++ [W]).length ≤ 2002 := by omega
              clear HF0 hwl5
              rw [hle5] at HRow ⊢
              try rw [hle6]
              clear hle5 hle6
              generalize wt ++ [W] = wt5 at HRow HF hwl ⊢
              have hwx : wt5 = xs := map_data_inj (by rw [HF.out, HXS.out])
              subst hwx
              go_wp2_with fail
              go_loopg [74, 7] wt5.length (fun gk i _ wr2 => ∃ k : Nat, i = .int .i64 k ∧ k + gk = wt5.length ∧ Below w5.heap.size w5 wr2)
              case atStart => exact ⟨0, rfl, by simp, Below.refl _ _⟩
              case round =>
                obtain ⟨k, rfl, hk, hbw⟩ := hrel
                by_cases hlt : k < wt5.length
                · obtain ⟨g, rfl⟩ : ∃ g, gk = g + 1 := ⟨gk - 1, by omega⟩
                  obtain ⟨g1, cap1, hv1, hg1, hcl⟩ := own_cellsW HRow.out (by omega)
                  injection hv1 with hB1 hn1 hc1
                  subst hB1
                  subst hc1
                  clear hn1
                  have c1 : wr.cell? ⟨b, k, none⟩ = some (.string (wt5.getD k ByteArray.empty)) := by
                    have h := HStr.out
                    rw [hbw.cell (p := ⟨b, k, none⟩) h.1]
                    have := h.2 k hlt
                    rwa [Nat.zero_add] at this
                  have c2 : wr.cell? ⟨g1, k, none⟩ = some (.string (wt5.getD k ByteArray.empty)) := by
                    rw [hbw.cell (p := ⟨g1, k, none⟩) hg1]
                    refine hcl k _ ?_
                    rw [List.getElem?_map, List.getElem?_eq_getElem hlt, List.getD_eq_getElem?_getD, List.getElem?_eq_getElem hlt]; rfl
                  have hkI : (k : Int) < (wt5.length : Int) := by omega
                  have hkz : (wt5.length : Int) ≤ 5000 := by omega
                  have HBn := Lib.hid hbw
                  generalize wt5.getD k ByteArray.empty = y at c1 c2
                  clear hcl hbw
                  go_wp2_with fail
                  go_quiet (fail)
                  go_wp2_with fail
                  go_roundg g
                  case measure => omega
                  case rel => exact ⟨k + 1, by go_num, by omega, below_drewQ HBn.out _⟩
                · have hkI : ¬ (k : Int) < (wt5.length : Int) := by omega
                  have HBe := Lib.hid (HBB.out.trans (hbw.mono HBB.out.size))
                  clear hbw
                  go_wp2_with fail
                  go_ret
                  exact ⟨rfl, HBe.out⟩
          · have e35 : ¬ (s[k].toNat : Int) = 35 := fun h => h35 (UInt8.toNat_inj.1 (by show s[k].toNat = 35; omega))
            rw [toldL_next h35] at hall
            by_cases hsp : spc s[k] = true
            · rw [fw_space hsp] at hall
              have hz : (s[k].toNat : Int) = 32 ∨ (¬ (s[k].toNat : Int) = 32 ∧ (s[k].toNat : Int) = 9) := by
                unfold spc at hsp
                rw [Bool.or_eq_true, beq_iff_eq, beq_iff_eq] at hsp
                rcases hsp with h | h <;> rw [h]
                · exact .inl rfl
                · exact .inr ⟨by decide, rfl⟩
              have hfe : ∀ W : ByteArray, W.data.toList ≠ [] → (if W.data.toList = [] then ([] : List (List UInt8)) else [W.data.toList]) = [W.data.toList] := fun W h => if_neg h
              by_cases hW : W = ⟨#[]⟩
              · subst hW
                have HN : Hid (WsAt w2 wr s (k + 1) ⟨#[]⟩ _ wt) := Lib.hid ⟨HBA.out, HRW.out, by show 0 ≤ _; omega, by omega, fun _ => rfl, by simpa using hall⟩
                clear hall h35 hsp
                rcases hz with hz | ⟨hz0, hz⟩
                · go_wp2_with fail
                  go_roundg g
                  case measure => omega
                  case rel => exact ⟨k + 1, ⟨#[]⟩, wt, by go_num, rfl, by omega, HN.out⟩
                · go_wp2_with fail
                  go_roundg g
                  case measure => omega
                  case rel => exact ⟨k + 1, ⟨#[]⟩, wt, by go_num, rfl, by omega, HN.out⟩
              · have hWd : W.data.toList ≠ [] := fun e => hW (bytes_inj e)
                rw [hfe W hWd] at hall
                have hW1 : ¬ W.toList = [] := by rw [Lib.toList_data]; exact hWd
                have hW2 : (W.toList == []) = false := beq_eq_false_iff_ne.2 hW1
                have hW3 : W.toList.isEmpty = false := by rw [List.isEmpty_eq_false_iff]; exact hW1
                have HF : Hid ((wt ++ [W]).map (·.data.toList) ++ fw [] (toldL (s.data.toList.drop (k + 1))) = wordsL s.data.toList) := Lib.hid (by rw [snocD, List.append_assoc]; exact hall)
                clear hall h35 hsp hfe
                rcases hz with hz | ⟨hz0, hz⟩
                · go_wp2_with (first
                    | (refine wpList_append_strs rfl (.tmp 45) (.tmp 47) rfl w2.heap.size wt.length 1 _ wt [W] rfl (HRW.out.alloc _) (by omega) (by rw [World.size_alloc]; have := HBA.out.size; omega) ⟨wr.heap.size, 0, none⟩ 1 rfl rfl (fun j hj => by rw [Addr.add_lit, Nat.zero_add, World.cell?_alloc_mark]; match j, hj with | 0, _ => rfl) ?_; intro v5 w5 ho5 hb5; obtain ⟨B5, cap5, hv5⟩ := own_form ho5; subst hv5; have HO5 := Lib.hid ho5; have HB5 := Lib.hid ((HBA.out.alloc HBA.out.size _).trans hb5); clear ho5 hb5; go_simp))
                  have HN : Hid (WsAt w2 w5 s (k + 1) ⟨#[]⟩ (.slice B5 (wt.length + 1) cap5) (wt ++ [W])) := Lib.hid ⟨HB5.out, by rw [List.length_append]; exact HO5.out, by show 0 ≤ _; omega, by rw [List.length_append, List.length_singleton]; omega, fun _ => rfl, HF.out⟩
                  go_roundg g
                  case measure => omega
                  case rel => exact ⟨k + 1, ⟨#[]⟩, wt ++ [W], by go_num, rfl, by omega, HN.out⟩
                · go_wp2_with (first
                    | (refine wpList_append_strs rfl (.tmp 45) (.tmp 47) rfl w2.heap.size wt.length 1 _ wt [W] rfl (HRW.out.alloc _) (by omega) (by rw [World.size_alloc]; have := HBA.out.size; omega) ⟨wr.heap.size, 0, none⟩ 1 rfl rfl (fun j hj => by rw [Addr.add_lit, Nat.zero_add, World.cell?_alloc_mark]; match j, hj with | 0, _ => rfl) ?_; intro v5 w5 ho5 hb5; obtain ⟨B5, cap5, hv5⟩ := own_form ho5; subst hv5; have HO5 := Lib.hid ho5; have HB5 := Lib.hid ((HBA.out.alloc HBA.out.size _).trans hb5); clear ho5 hb5; go_simp))
                  have HN : Hid (WsAt w2 w5 s (k + 1) ⟨#[]⟩ (.slice B5 (wt.length + 1) cap5) (wt ++ [W])) := Lib.hid ⟨HB5.out, by rw [List.length_append]; exact HO5.out, by show 0 ≤ _; omega, by rw [List.length_append, List.length_singleton]; omega, fun _ => rfl, HF.out⟩
                  go_roundg g
                  case measure => omega
                  case rel => exact ⟨k + 1, ⟨#[]⟩, wt ++ [W], by go_num, rfl, by omega, HN.out⟩
            · have hsp' := Bool.eq_false_iff.2 hsp
              rw [fw_step hsp'] at hall
              have hz1 : ¬ (s[k].toNat : Int) = 32 := fun h => hsp (by have : s[k] = 32 := UInt8.toNat_inj.1 (by show s[k].toNat = 32; omega); rw [this]; rfl)
              have hz2 : ¬ (s[k].toNat : Int) = 9 := fun h => hsp (by have : s[k] = 9 := UInt8.toNat_inj.1 (by show s[k].toNat = 9; omega); rw [this]; rfl)
              have hex : (s.extract k (k + 1)).data.toList = [s[k]] := extract1 s k hlt
              have hx1 : (s.extract k (k + 1)).size = 1 := by rw [Lib.size_eq, hex]; rfl
              have hadd := fun W' => run_string_add_sum (P := Tryz.prog) (w := W') W (s.extract k (k + 1)) (by rw [hx1]; omega)
              have hnd : (W ++ s.extract k (k + 1)).data.toList = W.data.toList ++ [s[k]] := by rw [ByteArray.data_append, Array.toList_append, hex]
              have hns : (W ++ s.extract k (k + 1)).size ≤ k + 1 := by rw [Lib.size_eq, hnd, List.length_append, ← Lib.size_eq]; show W.size + 1 ≤ k + 1; omega
              generalize W ++ s.extract k (k + 1) = W2 at hadd hnd hns
              have HN : Hid (WsAt w2 wr s (k + 1) W2 _ wt) := Lib.hid ⟨HBA.out, HRW.out, hns, by omega, fun h => by omega, by rw [hnd]; exact hall⟩
              have b1 : ((k : Int) == (s.size : Int)) = false := beq_eq_false_iff_ne.2 hkI2
              have b2 : ((s[k].toNat : Int) == 35) = false := beq_eq_false_iff_ne.2 e35
              have b3 : ((s[k].toNat : Int) == 32) = false := beq_eq_false_iff_ne.2 hz1
              have b4 : ((s[k].toNat : Int) == 9) = false := beq_eq_false_iff_ne.2 hz2
              clear hall h35 hsp hsp' hnd hns hex
              go_wp2_with fail
              go_roundg g
              case measure => omega
              case rel => exact ⟨k + 1, W2, wt, by go_num, rfl, by omega, HN.out⟩
      · have hke : k = s.size + 1 := by omega
        have hall := hat.all
        have hW0 : W.data.toList = [] := List.length_eq_zero_iff.1 (by have := hat.fin hke; rwa [Lib.size_eq] at this)
        rw [hke, dropM s, tl_end, fw_end, if_pos hW0, List.append_nil] at hall
        have HF := Lib.hid hall
        have HRow := Lib.hid hat.row
        have HBB := Lib.hid (HB2.out.trans (hat.below.mono HB2.out.size))
        have HStr := Lib.hid (HST.out.below hat.below)
        have hwl : wt.length ≤ 2002 := by have := hat.len; omega
        have hkI : ¬ (k : Int) < (s.size : Int) + 1 := by omega
        clear hall hat
        have hwx : wt = xs := map_data_inj (by rw [HF.out, HXS.out])
        subst hwx
        go_wp2_with fail
        go_loopg [74, 7] wt.length (fun gk i _ wr2 => ∃ k : Nat, i = .int .i64 k ∧ k + gk = wt.length ∧ Below wr.heap.size wr wr2)
        case atStart => exact ⟨0, rfl, by simp, Below.refl _ _⟩
        case round =>
          obtain ⟨k, rfl, hk, hbw⟩ := hrel
          by_cases hlt : k < wt.length
          · obtain ⟨g, rfl⟩ : ∃ g, gk = g + 1 := ⟨gk - 1, by omega⟩
            obtain ⟨g1, cap1, hv1, hg1, hcl⟩ := own_cellsW HRow.out (by omega)
            injection hv1 with hB1 hn1 hc1
            subst hB1
            subst hc1
            clear hn1
            have c1 : wr.cell? ⟨b, k, none⟩ = some (.string (wt.getD k ByteArray.empty)) := by
              have h := HStr.out
              rw [hbw.cell (p := ⟨b, k, none⟩) h.1]
              have := h.2 k hlt
              rwa [Nat.zero_add] at this
            have c2 : wr.cell? ⟨g1, k, none⟩ = some (.string (wt.getD k ByteArray.empty)) := by
              rw [hbw.cell (p := ⟨g1, k, none⟩) hg1]
              refine hcl k _ ?_
              rw [List.getElem?_map, List.getElem?_eq_getElem hlt, List.getD_eq_getElem?_getD, List.getElem?_eq_getElem hlt]; rfl
            have hkI : (k : Int) < (wt.length : Int) := by omega
            have hkz : (wt.length : Int) ≤ 5000 := by omega
            have HBn := Lib.hid hbw
            generalize wt.getD k ByteArray.empty = y at c1 c2
            clear hcl hbw
            go_wp2_with fail
            go_quiet (fail)
            go_wp2_with fail
            go_roundg g
            case measure => omega
            case rel => exact ⟨k + 1, by go_num, by omega, below_drewQ HBn.out _⟩
          · have hkI : ¬ (k : Int) < (wt.length : Int) := by omega
            have HBe := Lib.hid (HBB.out.trans (hbw.mono HBB.out.size))
            clear hbw
            go_wp2_with fail
            go_ret
            exact ⟨rfl, HBe.out⟩
  · rw [decide_eq_false hs2] at HL
    go_wp2_with (go_at_call 10; refine (HL.out _).mono ?_; rintro e w2 ⟨rfl, hw⟩; obtain rfl := hw.symm)
    go_ret
    exact ⟨rfl, HB1.out⟩
end Go.Proofs.YtclfmokdjmnjcaaGreatDoor
