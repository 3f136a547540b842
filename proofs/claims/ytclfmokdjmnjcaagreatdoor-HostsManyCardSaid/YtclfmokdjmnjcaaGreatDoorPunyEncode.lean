/-
  The walk of puny.Encode. Conditions: the list is in memory; each theorem states its own.
-/
import Derived.Test.YtclfmokdjmnjcaaGreatDoorPunyEncLib
namespace Go.Proofs.YtclfmokdjmnjcaaGreatDoor
open Go.RowKit

set_option maxHeartbeats 400000 in
theorem encode_long (A : Option Addr) (n c : Nat) (w : World) (hn : 63 < n) (hn63 : n ≤ 9223372036854775807) :
    Calls Tryz.prog 81 #[.slice A n c] w fun e w' => e = .returned (.tuple #[.string ⟨#[]⟩, .int .i64 2]) ∧ w = w' := by
  go_enter Tryz.func81, Tryz.ntmps81
  go_wp2
  go_ret2
  exact ⟨rfl, rfl⟩

set_option maxRecDepth 100000 in
set_option maxHeartbeats 4000000 in
theorem encode_plain (A : Option Addr) (n c f : Nat) (l : List Nat) (w : World) (hn : l.length = n) (hn63 : n ≤ 63) (hr : Runes w A l) (hv : ∀ r ∈ l, okR r) (hF : (l.filter (· < 128)).length = f) (hf : ¬ 0 < f) :
    Calls Tryz.prog 81 #[.slice A n c] w fun e w' => EncPost w l e w' := by
  have hle : ∀ r ∈ l, r ≤ 1114111 := fun r h => okR_le (hv r h)
  have hfn : f ≤ n := by rw [← hF, ← hn]; exact List.length_filter_le _ _
  have HN := Lib.hid hn
  have HF := Lib.hid hF
  have C1 := containsW A n c l w hn (by omega) hr
  rw [anyW_ok hv] at C1
  have C2 := basics_any A n c l w hn (by omega) hle hr
  clear hn hF
  go_enter Tryz.func81, Tryz.ntmps81
  go_wp2_with fail
  refine C1.mono ?_; rintro e w' ⟨rfl, rfl⟩
  clear C1
  go_wp2_with fail
  refine C2.mono ?_; rintro e w1 ⟨v, m, rfl, hown, hb⟩
  clear C2
  have hmf : m = f := by have := own_len hown; rw [this, List.length_map]; exact HF.out
  subst hmf
  obtain ⟨f, rfl⟩ : ∃ f, f = m := ⟨_, rfl⟩
  obtain ⟨B, cap, rfl⟩ := own_form hown
  have P1 := Lib.hid (preB_none (l := l) (by have := HF.out; omega))
  have AT : Hid (EncAt w.heap.size w w1 l (.slice B f cap) 128 0 0 72 f) := by
    have := EncAt.start (l := l) (by rw [P1.out.2]; rw [P1.out.1] at hown; exact hown) hb (by omega)
    rw [HF.out] at this
    exact this
  clear hown hb P1
  go_wp2_with fail
  go_loopw [4, 6, 7, 8, 9] (fun x4 x6 x7 x8 x9 wq => ∃ a delta b dn : Nat, x6 = .int .i32 a ∧ x7 = .int .i64 delta ∧ x8 = .int .i64 b ∧ x9 = .int .i64 dn ∧ a ≤ 1114112 ∧ Hid (EncAt w.heap.size w wq l x4 a 0 delta b dn)) (fun _ x6 _ _ _ _ => 1114112 - (intOf x6).toNat)
  case atStart => exact ⟨128, 0, 72, f, rfl, rfl, rfl, rfl, by omega, AT⟩
  case round =>
    clear AT
    obtain ⟨a, delta, b, dn, rfl, rfl, rfl, rfl, ha, HA⟩ := hrel
    obtain ⟨wo, hwo⟩ : ∃ wo : World, wo = wr := ⟨_, rfl⟩
    subst hwo
    have hdn : dn ≤ n := by have := HA.out.dn_le; have := HN.out; omega
    have hdl : delta ≤ a * 64 + 63 := HA.out.delta_le (by have := HN.out; omega)
    by_cases hlt : dn < n
    · have hroom : a ≤ 1114111 := HA.out.room (by have := HN.out; omega) hv
      have HJ := Lib.hid (HA.out.jump hroom)
      have hbl := HA.out.below
      have hszo := hbl.size
      have C3 := least_any A n c a l wo HN.out (by omega) hle (hr.below hbl)
      have j1 : lst l a ≤ 1114111 := lst_le _ _
      have j2 : a ≤ lst l a := lst_ge hroom
      clear hbl
      revert HJ C3 j1 j2
      generalize lst l a = nx
      intro HJ C3 j1 j2
      obtain ⟨q, hq⟩ : ∃ q, q = (nx - a) * (dn + 1) := ⟨_, rfl⟩
      have hqi : ((nx : Int) - (a : Int)) * ((dn : Int) + 1) = (q : Int) := by
        rw [hq, show (nx : Int) - (a : Int) = ((nx - a : Nat) : Int) by omega]; simp
      have hq1 : q ≤ 1114112 * 64 := by rw [hq]; exact Nat.mul_le_mul (by omega) (by omega)
      have HQ := Lib.hid hq; clear hq
      have HJ2 : Hid (EncAt w.heap.size w wo l u4 nx 0 (delta + q) b dn) := by have := HJ.out; rw [← HQ.out] at this; exact this
      clear HJ
      go_wp2_with fail
      refine C3.mono ?_; rintro e w' ⟨rfl, rfl⟩
      clear C3
      go_wp2_with fail
      clear hdl hdn hlt HQ hq1 hqi ha
      go_loopw [4, 7, 8, 9, 49] (fun x4 x7 x8 x9 x49 wq => ∃ j delta b dn : Nat, x49 = .int .i64 j ∧ x7 = .int .i64 delta ∧ x8 = .int .i64 b ∧ x9 = .int .i64 dn ∧ j ≤ n ∧ Hid (EncAt w.heap.size w wq l x4 nx j delta b dn)) (fun _ _ _ _ x49 _ => n - (intOf x49).toNat)
      case atStart => exact ⟨0, delta + q, b, dn, rfl, by go_num, rfl, rfl, Nat.zero_le _, HJ2⟩
      case round =>
        clear HJ2 hszo
        obtain ⟨j, delta, b, dn, rfl, rfl, rfl, rfl, hj, HA⟩ := hrel
        obtain ⟨wi, hwi⟩ : ∃ wi : World, wi = wr := ⟨_, rfl⟩
        subst hwi
        have hdn : dn ≤ n := by have := HA.out.dn_le; have := HN.out; omega
        have hdl : delta ≤ nx * 64 + 63 := HA.out.delta_le (by have := HN.out; omega)
        by_cases hlt : j < n
        · have hjl : j < l.length := by rw [HN.out]; exact hlt
          have hbl := HA.out.below
          have hszi := hbl.size
          obtain ⟨bb, o, rfl, hbb, hcell⟩ := hr.below hbl (by omega)
          have c0 := hcell j hjl
          have r1 := hle _ (getD_mem_nat hjl)
          have RV := Lib.hid (hv _ (getD_mem_nat hjl))
          clear hcell hbl
          rcases Nat.lt_trichotomy (l.getD j 0) nx with h | h | h
          · have HS := Lib.hid (HA.out.less hjl h)
            clear HA RV
            revert c0 r1 h
            generalize l.getD j 0 = r
            intro c0 r1 h
            go_wp2_with fail
            go_roundw
            case rel => exact ⟨j + 1, delta + 1, b, dn, by go_num, by go_num, rfl, rfl, by omega, HS⟩
            case measure => simp [intOf]; omega
          · obtain ⟨m, ws, hown, henc, hm⟩ := HA.out.row
            have HM := Lib.hid h
            have hbb2 := HA.out.bb
            have W := write_any w.heap.size _ m delta b _ wi hown hszi (by omega) (by omega) (by omega)
            have HE := Lib.hid henc
            rw [h] at c0 RV
            clear henc hown h
            go_wp2_with fail
            refine W.mono ?_; rintro e w' ⟨v', n', rfl, hown', hb', hn'⟩
            have HS := Lib.hid (HA.out.same HE.out hm hjl HM.out RV.out (by have := HN.out; omega) hown' hb' hn')
            clear W HE hown' hb' hn'
            go_wp2_with fail
            refine (adp_at (delta : Int) ((dn : Int) + 1) ((dn : Int) == (f : Int)) delta (dn + 1) (dn == (l.filter (· < 128)).length) _ rfl (by omega) (by rw [HF.out, Bool.eq_iff_iff]; simp; omega) (by omega) (by omega) (by omega)).mono ?_; rintro e w3 ⟨rfl, rfl⟩
            clear HA
            revert HS
            generalize adp delta (dn + 1) (dn == (l.filter (· < 128)).length) = b2
            intro HS
            go_wp2_with fail
            go_roundw
            case rel => exact ⟨j + 1, 0, b2, dn + 1, by go_num, rfl, rfl, by go_num, by omega, HS⟩
            case measure => simp [intOf]; omega
          · have HS := Lib.hid (HA.out.more hjl h)
            clear HA RV
            revert c0 r1 h
            generalize l.getD j 0 = r
            intro c0 r1 h
            go_wp2_with fail
            go_roundw
            case rel => exact ⟨j + 1, delta, b, dn, by go_num, rfl, rfl, rfl, by omega, HS⟩
            case measure => simp [intOf]; omega
        · obtain rfl : j = n := by omega
          go_wp2_with fail
          go_roundw
          case rel => exact ⟨nx + 1, delta + 1, b, dn, by go_num, by go_num, rfl, rfl, by omega, Lib.hid (HA.out.next HN.out.symm)⟩
          case measure => simp [intOf]; omega
    · obtain ⟨m, t, hdone⟩ := HA.out.done (by rw [HN.out]; exact hlt)
      have hbl := Lib.hid HA.out.below
      rcases hdone with ⟨hown, hpw, hm⟩ | hno
      · obtain ⟨B2, cap2, rfl⟩ := own_form hown
        have hcv := own_string hown
        have hlen := own_len hown
        have HP := Lib.hid hpw
        clear hpw HA hown
        by_cases h63 : m ≤ 63
        · have HL := Lib.hid hlen; clear hlen
          go_wp2_with fail
          go_ret2
          exact ⟨t, HP.out, hbl.out, .inl ⟨by rw [← HL.out]; exact h63, rfl⟩⟩
        · have HL := Lib.hid hlen; clear hlen
          clear hcv
          go_wp2_with fail
          go_ret2
          exact ⟨t, HP.out, hbl.out, .inr ⟨by rw [← HL.out]; omega, rfl⟩⟩
      · exact absurd HN.out (by omega)
set_option maxRecDepth 100000 in
set_option maxHeartbeats 4000000 in
theorem encode_dash (A : Option Addr) (n c f : Nat) (l : List Nat) (w : World) (hn : l.length = n) (hn63 : n ≤ 63) (hr : Runes w A l) (hv : ∀ r ∈ l, okR r) (hF : (l.filter (· < 128)).length = f) (hf : 0 < f) :
    Calls Tryz.prog 81 #[.slice A n c] w fun e w' => EncPost w l e w' := by
  have hle : ∀ r ∈ l, r ≤ 1114111 := fun r h => okR_le (hv r h)
  have hfn : f ≤ n := by rw [← hF, ← hn]; exact List.length_filter_le _ _
  have HN := Lib.hid hn
  have HF := Lib.hid hF
  have C1 := containsW A n c l w hn (by omega) hr
  rw [anyW_ok hv] at C1
  have C2 := basics_any A n c l w hn (by omega) hle hr
  clear hn hF
  go_enter Tryz.func81, Tryz.ntmps81
  go_wp2_with fail
  refine C1.mono ?_; rintro e w' ⟨rfl, rfl⟩
  clear C1
  go_wp2_with fail
  refine C2.mono ?_; rintro e w1 ⟨v, m, rfl, hown, hb⟩
  clear C2
  have hmf : m = f := by have := own_len hown; rw [this, List.length_map]; exact HF.out
  subst hmf
  obtain ⟨f, rfl⟩ : ∃ f, f = m := ⟨_, rfl⟩
  have P1 := Lib.hid (preB_some (l := l) (by have := HF.out; omega))
  obtain ⟨B, cap, rfl⟩ := own_form hown
  have hsz1 := hb.size
  have HB := Lib.hid hb; clear hb
  go_wp2_with (at_builtin; refine wpList_append_b rfl (.tmp 24) (.tmp 25) rfl w.heap.size _ ((l.filter (· < 128)).map UInt8.ofNat) f rfl (hown.alloc _) ⟨w1.heap.size, 0, none⟩ 45 rfl (cell_new _ _ _ _ _ rfl) (by omega) (by simp; omega) ?_; intro v2 w2 hown2 hb2; have AT := Lib.hid (EncAt.start (l := l) (by rw [P1.out]; exact hown2) ((HB.out.alloc hsz1 _).trans hb2) (by omega)); rw [HF.out] at AT; clear hown hown2 hb2 hsz1 HB P1)
  go_loopw [4, 6, 7, 8, 9] (fun x4 x6 x7 x8 x9 wq => ∃ a delta b dn : Nat, x6 = .int .i32 a ∧ x7 = .int .i64 delta ∧ x8 = .int .i64 b ∧ x9 = .int .i64 dn ∧ a ≤ 1114112 ∧ Hid (EncAt w.heap.size w wq l x4 a 0 delta b dn)) (fun _ x6 _ _ _ _ => 1114112 - (intOf x6).toNat)
  case atStart => exact ⟨128, 0, 72, f, rfl, rfl, rfl, rfl, by omega, AT⟩
  case round =>
    clear AT
    obtain ⟨a, delta, b, dn, rfl, rfl, rfl, rfl, ha, HA⟩ := hrel
    obtain ⟨wo, hwo⟩ : ∃ wo : World, wo = wr := ⟨_, rfl⟩
    subst hwo
    have hdn : dn ≤ n := by have := HA.out.dn_le; have := HN.out; omega
    have hdl : delta ≤ a * 64 + 63 := HA.out.delta_le (by have := HN.out; omega)
    by_cases hlt : dn < n
    · have hroom : a ≤ 1114111 := HA.out.room (by have := HN.out; omega) hv
      have HJ := Lib.hid (HA.out.jump hroom)
      have hbl := HA.out.below
      have hszo := hbl.size
      have C3 := least_any A n c a l wo HN.out (by omega) hle (hr.below hbl)
      have j1 : lst l a ≤ 1114111 := lst_le _ _
      have j2 : a ≤ lst l a := lst_ge hroom
      clear hbl
      revert HJ C3 j1 j2
      generalize lst l a = nx
      intro HJ C3 j1 j2
      obtain ⟨q, hq⟩ : ∃ q, q = (nx - a) * (dn + 1) := ⟨_, rfl⟩
      have hqi : ((nx : Int) - (a : Int)) * ((dn : Int) + 1) = (q : Int) := by
        rw [hq, show (nx : Int) - (a : Int) = ((nx - a : Nat) : Int) by omega]; simp
      have hq1 : q ≤ 1114112 * 64 := by rw [hq]; exact Nat.mul_le_mul (by omega) (by omega)
      have HQ := Lib.hid hq; clear hq
      have HJ2 : Hid (EncAt w.heap.size w wo l u4 nx 0 (delta + q) b dn) := by have := HJ.out; rw [← HQ.out] at this; exact this
      clear HJ
      go_wp2_with fail
      refine C3.mono ?_; rintro e w' ⟨rfl, rfl⟩
      clear C3
      go_wp2_with fail
      clear hdl hdn hlt HQ hq1 hqi ha
      go_loopw [4, 7, 8, 9, 49] (fun x4 x7 x8 x9 x49 wq => ∃ j delta b dn : Nat, x49 = .int .i64 j ∧ x7 = .int .i64 delta ∧ x8 = .int .i64 b ∧ x9 = .int .i64 dn ∧ j ≤ n ∧ Hid (EncAt w.heap.size w wq l x4 nx j delta b dn)) (fun _ _ _ _ x49 _ => n - (intOf x49).toNat)
      case atStart => exact ⟨0, delta + q, b, dn, rfl, by go_num, rfl, rfl, Nat.zero_le _, HJ2⟩
      case round =>
        clear HJ2 hszo
        obtain ⟨j, delta, b, dn, rfl, rfl, rfl, rfl, hj, HA⟩ := hrel
        obtain ⟨wi, hwi⟩ : ∃ wi : World, wi = wr := ⟨_, rfl⟩
        subst hwi
        have hdn : dn ≤ n := by have := HA.out.dn_le; have := HN.out; omega
        have hdl : delta ≤ nx * 64 + 63 := HA.out.delta_le (by have := HN.out; omega)
        by_cases hlt : j < n
        · have hjl : j < l.length := by rw [HN.out]; exact hlt
          have hbl := HA.out.below
          have hszi := hbl.size
          obtain ⟨bb, o, rfl, hbb, hcell⟩ := hr.below hbl (by omega)
          have c0 := hcell j hjl
          have r1 := hle _ (getD_mem_nat hjl)
          have RV := Lib.hid (hv _ (getD_mem_nat hjl))
          clear hcell hbl
          rcases Nat.lt_trichotomy (l.getD j 0) nx with h | h | h
          · have HS := Lib.hid (HA.out.less hjl h)
            clear HA RV
            revert c0 r1 h
            generalize l.getD j 0 = r
            intro c0 r1 h
            go_wp2_with fail
            go_roundw
            case rel => exact ⟨j + 1, delta + 1, b, dn, by go_num, by go_num, rfl, rfl, by omega, HS⟩
            case measure => simp [intOf]; omega
          · obtain ⟨m, ws, hown, henc, hm⟩ := HA.out.row
            have HM := Lib.hid h
            have hbb2 := HA.out.bb
            have W := write_any w.heap.size _ m delta b _ wi hown hszi (by omega) (by omega) (by omega)
            have HE := Lib.hid henc
            rw [h] at c0 RV
            clear henc hown h
            go_wp2_with fail
            refine W.mono ?_; rintro e w' ⟨v', n', rfl, hown', hb', hn'⟩
            have HS := Lib.hid (HA.out.same HE.out hm hjl HM.out RV.out (by have := HN.out; omega) hown' hb' hn')
            clear W HE hown' hb' hn'
            go_wp2_with fail
            refine (adp_at (delta : Int) ((dn : Int) + 1) ((dn : Int) == (f : Int)) delta (dn + 1) (dn == (l.filter (· < 128)).length) _ rfl (by omega) (by rw [HF.out, Bool.eq_iff_iff]; simp; omega) (by omega) (by omega) (by omega)).mono ?_; rintro e w3 ⟨rfl, rfl⟩
            clear HA
            revert HS
            generalize adp delta (dn + 1) (dn == (l.filter (· < 128)).length) = b2
            intro HS
            go_wp2_with fail
            go_roundw
            case rel => exact ⟨j + 1, 0, b2, dn + 1, by go_num, rfl, rfl, by go_num, by omega, HS⟩
            case measure => simp [intOf]; omega
          · have HS := Lib.hid (HA.out.more hjl h)
            clear HA RV
            revert c0 r1 h
            generalize l.getD j 0 = r
            intro c0 r1 h
            go_wp2_with fail
            go_roundw
            case rel => exact ⟨j + 1, delta, b, dn, by go_num, rfl, rfl, rfl, by omega, HS⟩
            case measure => simp [intOf]; omega
        · obtain rfl : j = n := by omega
          go_wp2_with fail
          go_roundw
          case rel => exact ⟨nx + 1, delta + 1, b, dn, by go_num, by go_num, rfl, rfl, by omega, Lib.hid (HA.out.next HN.out.symm)⟩
          case measure => simp [intOf]; omega
    · obtain ⟨m, t, hdone⟩ := HA.out.done (by rw [HN.out]; exact hlt)
      have hbl := Lib.hid HA.out.below
      rcases hdone with ⟨hown, hpw, hm⟩ | hno
      · obtain ⟨B2, cap2, rfl⟩ := own_form hown
        have hcv := own_string hown
        have hlen := own_len hown
        have HP := Lib.hid hpw
        clear hpw HA hown
        by_cases h63 : m ≤ 63
        · have HL := Lib.hid hlen; clear hlen
          go_wp2_with fail
          go_ret2
          exact ⟨t, HP.out, hbl.out, .inl ⟨by rw [← HL.out]; exact h63, rfl⟩⟩
        · have HL := Lib.hid hlen; clear hlen
          clear hcv
          go_wp2_with fail
          go_ret2
          exact ⟨t, HP.out, hbl.out, .inr ⟨by rw [← HL.out]; omega, rfl⟩⟩
      · exact absurd HN.out (by omega)

theorem encode_any (A : Option Addr) (n c : Nat) (l : List Nat) (w : World) (hn : l.length = n) (hn63 : n ≤ 63) (hr : Runes w A l) (hv : ∀ r ∈ l, okR r) :
    Calls Tryz.prog 81 #[.slice A n c] w fun e w' => EncPost w l e w' := by
  by_cases h : 0 < (l.filter (· < 128)).length
  · exact encode_dash A n c _ l w hn hn63 hr hv rfl h
  · exact encode_plain A n c _ l w hn hn63 hr hv rfl h
set_option maxHeartbeats 400000 in
theorem encode_bad (A : Option Addr) (n c : Nat) (l : List Nat) (w : World) (hn : l.length = n) (hn63 : n ≤ 63) (hr : Runes w A l) (hv : ¬ ∀ r ∈ l, okR r) :
    Calls Tryz.prog 81 #[.slice A n c] w fun e w' => e = .returned (.tuple #[.string ⟨#[]⟩, .int .i64 13]) ∧ w = w' := by
  have C1 := containsW A n c l w hn (by omega) hr
  rw [anyW_bad hv] at C1
  clear hn
  go_enter Tryz.func81, Tryz.ntmps81
  go_wp2_with fail
  refine C1.mono ?_; rintro e w' ⟨rfl, rfl⟩
  go_wp2
  go_ret2
  exact ⟨rfl, rfl⟩
end Go.Proofs.YtclfmokdjmnjcaaGreatDoor
