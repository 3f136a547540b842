/-
  The walk of LabelParts: whatever text it is called with, it returns true. Conditions: the text lies within the form's own reach, and the library's variable MaxLen holds some number.
-/
import Derived.Test.YtpbjijjeglpakaaDoorPartsStep
namespace Go.Proofs.YtpbjijjeglpakaaDoor
open Go.RowKit

set_option maxRecDepth 100000 in
set_option maxHeartbeats 1000000 in
theorem labelParts_walk (s : ByteArray) (w : World) (he : Env w) (hs : s.size ≤ 140737488351232) :
    Calls Tryd.prog 5 #[.string s] w fun e w' => e = .returned (.bool true) ∧ Below w.heap.size w w' := by
  by_cases hl : s.size ≤ 600
  · have hs' : s.size < 4294967281 := by omega
    have hpl := pieces_le s
    have HP := Lib.hid (show (pieces s).length = s.data.toList.count 46 + 1 by rw [pieces_length, sp_points])
    go_enter Tryd.func5, Tryd.ntmps5
    go_wp2_with fail
    refine (fit_e w he).mono ?_; rintro e w1 ⟨rfl, hb1, he1⟩
    go_wp2_with fail
    have hb2 := hb1.alloc hb1.size (.cells #[.string s] 9)
    have he2 := he1.below ((Below.refl _ w1).alloc (Nat.le_refl _) (.cells #[.string s] 9))
    refine (light_1 s _ _ hs (by first | go_simp | simp)).mono ?_; rintro e w2 ⟨rfl, hw2⟩
    rw [decide_eq_true hl]
    rw [hw2] at hb2 he2
    clear hw2
    go_wp2_with fail
    refine (split_e s _ he2 hs').mono ?_; rintro e w3 ⟨b, rfl, hb3, he3, hs3, hg3⟩
    have hb := hb2.trans (hb3.mono hb2.size)
    clear hb1 hb2 hb3 he1 he2 hg3
    go_wp2
    go_loop [4, 5, 19] (fun p _ i => ∃ k : Nat, k ≤ s.size ∧ i = .int .i64 k ∧ p = .int .i64 ((s.data.toList.take k).count 46)) (fun _ _ i => s.size - (intOf i).toNat)
    case atStart => exact ⟨0, Nat.zero_le _, rfl, rfl⟩
    case round =>
      obtain ⟨k, hk, rfl, rfl⟩ := hrel
      have hcnt : (s.data.toList.take k).count 46 ≤ 600 := Nat.le_trans (Nat.le_trans List.count_le_length (List.length_take_le _ _)) (by omega)
      by_cases hlt : k < s.size
      · have HN := Lib.hid (count_next s k hlt)
        by_cases hp : s[k] = 46
        · have ht : ((s[k].toNat : Int) == 46) = true := by rw [byte_eq46]; exact decide_eq_true hp
          have HQ := Lib.hid hp
          clear hp
          go_wp2
          go_round
          case rel => exact ⟨k + 1, by omega, by go_num, by rw [HN.out, if_pos HQ.out]; go_num⟩
          case measure => simp [intOf]; omega
        · have ht : ((s[k].toNat : Int) == 46) = false := by rw [byte_eq46]; exact decide_eq_false hp
          have HQ := Lib.hid hp
          clear hp
          go_wp2
          go_round
          case rel => exact ⟨k + 1, by omega, by go_num, by rw [HN.out, if_neg HQ.out]; go_num⟩
          case measure => simp [intOf]; omega
      · obtain rfl : k = s.size := by omega
        have hall : s.data.toList.take s.size = s.data.toList := List.take_of_length_le (by rw [← Lib.size_eq]; exact Nat.le_refl _)
        rw [hall] at hcnt ⊢
        clear hall
        generalize hc : s.data.toList.count 46 = c at *
        clear hc
        go_wp2
        go_loop [7, 8, 31, 37] (fun _ _ i _ => ∃ k : Nat, k ≤ (pieces s).length ∧ i = .int .i64 k) (fun _ _ i _ => (pieces s).length - (intOf i).toNat)
        case atStart => exact ⟨0, Nat.zero_le _, rfl⟩
        case round =>
          obtain ⟨k, hk, rfl⟩ := hrel
          by_cases hlt2 : k < (pieces s).length
          · have c0 := hs3.2 k hlt2
            rw [Nat.zero_add] at c0
            have NP := Lib.hid (piece_no_point s k hlt2)
            have hxs := Nat.le_trans (piece_size s k hlt2) hl
            generalize (pieces s).getD k ByteArray.empty = x at *
            go_wp2
            go_loop [8, 37] (fun _ j => ∃ m : Nat, m ≤ x.size ∧ j = .int .i64 m) (fun _ j => x.size - (intOf j).toNat)
            case atStart => exact ⟨0, Nat.zero_le _, rfl⟩
            case round =>
              obtain ⟨m, hm, rfl⟩ := hrel
              by_cases hlt3 : m < x.size
              · have ht := NP.out m hlt3
                go_wp2
                go_round
                case rel => exact ⟨m + 1, by omega, by go_num⟩
                case measure => simp [intOf]; omega
              · obtain rfl : m = x.size := by omega
                go_wp2
                go_round
                case rel => exact ⟨k + 1, by omega, by go_num⟩
                case measure => simp [intOf]; omega
          · obtain rfl : k = (pieces s).length := by omega
            have HCN : Hid (((pieces s).length : Int) = (c : Int) + 1) := by show _ = _; rw [HP.out]; omega
            have HLK : Hid ((if (s.toList == [46]) = true then 0 else (c : Int) + 1) = (cntB s : Int)) := by
              show _ = _
              unfold cntB
              cases (s.toList == [46])
              · simp [HP.out]
              · simp
            have hg3 : Good w3 w3 := ⟨he3, Below.refl _ _⟩
            have H3 := Lib.hid hs3
            have HB := Lib.hid hb
            clear hs3 hb
            go_wp2
            refine wp_region_inv partsOps (by kernel_rfl) (by kernel_rfl) (PInv w3 s (.slice (some ⟨b, 0, none⟩) (pieces s).length (pieces s).length) ((c : Int) + 1) c (cntB s) []) ?hend ?hstep ?h0
            case hstep => exact fun listed a w i hI hi => parts_step he3 hl H3.out rfl HCN.out rfl (by omega) (by omega) rfl HLK.out hI hi
            case h0 =>
              have hnone : ∀ i, (Array.replicate partsOps.size false).getD i false = true → False := fun i h => by
                rw [Array.getD_eq_getD_getElem?, Array.getElem?_replicate] at h
                split at h <;> simp at h
              exact ⟨rfl, by rw [Array.size_replicate, partsSize], rfl, rfl, rfl, rfl, fun i _ _ h => (hnone i h).elim, hg3.drew, fun h => (hnone _ h).elim, fun h => (hnone _ h).elim, fun h => (hnone _ h).elim, fun h => (hnone _ h).elim⟩
            case hend =>
              intro listed a wz hI hr
              obtain ⟨h2, hdf, hgz⟩ := parts_end hI hr
              have hres : ∀ tm : Array Value, tm.getD 2 undef = .bool true → (results Tryd.f5 tm).run Tryd.prog wz = .ok (.bool true) wz := fun tm h => by
                have h' : tm[2]?.getD undef = .bool true := by rw [← Array.getD_eq_getD_getElem?]; exact h
                simp [results, Tryd.results5, go_sem, h']
              go_wp2
              exact bodyPost_ret (v := .bool true) (hres _ h2) hdf ⟨rfl, HB.out.trans (hgz.2.mono HB.out.size)⟩
  · go_enter Tryd.func5, Tryd.ntmps5
    go_wp2_with fail
    refine (fit_e w he).mono ?_; rintro e w1 ⟨rfl, hb1, he1⟩
    go_wp2_with fail
    refine (light_1 s _ _ hs (by first | go_simp | simp)).mono ?_; rintro e w2 ⟨rfl, rfl⟩
    rw [decide_eq_false hl]
    go_wp2
    go_ret
    exact ⟨rfl, hb1.alloc hb1.size _⟩
end Go.Proofs.YtpbjijjeglpakaaDoor
