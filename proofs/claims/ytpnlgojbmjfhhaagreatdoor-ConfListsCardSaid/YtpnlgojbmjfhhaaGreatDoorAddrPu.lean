/-
  The walk of strconv.ParseUint at the two uses that package addr has: base 10 and 8 bits, base 16 and 16 bits. Conditions: the text is not longer than each states; the library's variables hold errors.
-/
import Derived.Test.YtpnlgojbmjfhhaaGreatDoorAddrMem
import Derived.Lib.ParseIntBMem
import Derived.Lib.ConvBytes
import Derived.BigCall
import Derived.BigGuard
import Derived.Lib.IfaceEq
namespace Go.Proofs.YtpnlgojbmjfhhaaGreatDoor
open Go.RowKit

/-- what the inner call answers: the number; or one of two errors -/
def PuPost (b M : Nat) (t : ByteArray) (w : World) (e : Ending) (w' : World) : Prop :=
  Below w.heap.size w w' ∧ ((∃ v, rdT b M t.data.toList = some v ∧ e = .returned (.tuple #[.int .u64 v, .nilIface])) ∨ (rdT b M t.data.toList = none ∧ ∃ (x k : Int), (k = 1 ∨ k = 2) ∧ e = .returned (.tuple #[.int .u64 x, .iface 185 (.int .i64 k)])))
theorem or32 (c : UInt8) : bits BinOp.or IntKind.u8 (c.toNat : Int) 32 = ((c ||| 32).toNat : Int) := by
  have h : ∀ k : Fin 256, bits BinOp.or IntKind.u8 ((UInt8.ofNat k.val).toNat : Int) 32 = ((UInt8.ofNat k.val ||| 32).toNat : Int) := by decide +kernel
  simpa using h ⟨c.toNat, c.toNat_lt⟩
theorem lowerP_e (c : UInt8) (w : World) : Calls Tryz.prog 140 #[.int .u8 c.toNat] w fun e w' => e = .returned (.int .u8 (c ||| 32).toNat) ∧ w' = w := by
  have h := or32 c
  go_enter Tryz.func140, Tryz.ntmps140
  go_wp2_with (simp only [h])
  go_ret
  exact ⟨rfl, rfl⟩
theorem lower95 (w : World) : Calls Tryz.prog 140 #[.int .u8 95] w fun e w' => e = .returned (.int .u8 127) ∧ w' = w := lowerP_e 95 w

set_option maxRecDepth 100000 in
set_option maxHeartbeats 4000000 in
theorem pu16 (t : ByteArray) (hmax : t.size ≤ 1099511627776) (w : World) :
    Calls Tryz.prog 132 #[.string t, .int .i64 16, .int .i64 16] w (PuPost 16 65535 t w) := by
  by_cases hne : t.data.toList = []
  · obtain rfl : t = ⟨#[]⟩ := bytes_inj hne
    have hr := Lib.hid (show rdT 16 65535 [] = none by rfl)
    go_enter Tryz.func132, Tryz.ntmps132
    go_wp2
    go_ret2
    exact ⟨Below.refl _ _, Or.inr ⟨hr.out, 0, 2, .inr rfl, rfl⟩⟩
  have hemp : t.toList.isEmpty = false := by
    rw [← decide_eq_emptyBytes]
    exact decide_eq_false (fun h => hne (by rw [h]; rfl))
  have hsz : t.data.toList.length = t.size := (Lib.size_eq t).symm
  have hcv := Lib.run_convert_string_bytes (P := Tryz.prog) w 9 62 5 t (u := .string) Tryz.underlying9 Tryz.underlying62 Tryz.underlying5
  have hB : ∀ j, j < t.size → (Lib.bytesWorld w 5 t).cell? ⟨w.heap.size, j, none⟩ = some (.int .u8 (t.data.toList.getD j 0).toNat) := fun j hj => Lib.bytesWorld_cell w 5 t j hj
  have hbel : Below w.heap.size w (Lib.bytesWorld w 5 t) := Joins.below_bytesWorld _ w _ t (Nat.le_refl _)
  have hR0 : rdT 16 65535 t.data.toList = rdN 16 65535 0 t.data.toList := if_neg hne
  obtain ⟨W1, hW1⟩ : ∃ W1, W1 = Lib.bytesWorld w 5 t := ⟨_, rfl⟩
  rw [← hW1] at hcv hB hbel
  clear hW1
  obtain ⟨bs, hL⟩ : ∃ bs, bs = t.data.toList := ⟨_, rfl⟩
  have HP : Hid (∀ e w', (Below w.heap.size w w' ∧ ((∃ v, rdN 16 65535 0 bs = some v ∧ e = .returned (.tuple #[.int .u64 v, .nilIface])) ∨ (rdN 16 65535 0 bs = none ∧ ∃ (x k : Int), (k = 1 ∨ k = 2) ∧ e = .returned (.tuple #[.int .u64 x, .iface 185 (.int .i64 k)])))) → PuPost 16 65535 t w e w') := Lib.hid fun e w' h => by
    unfold PuPost
    rw [hR0, ← hL]; exact h
  rw [← hL] at hB hsz
  have HB := Lib.hid hB
  have HBel := Lib.hid hbel
  clear hL hR0 hne hB hbel
  have hmv : IntKind.u64.wrap (IntKind.u64.wrap 65536 - 1) = 65535 := by
    rw [IntKind.wrap_u64, IntKind.wrap_u64]
    decide
  go_enter Tryz.func132, Tryz.ntmps132
  go_wp2
  go_loop [12, 13, 101] (fun vu vn vi => ∃ (k acc : Nat) (a : Int), vu = .bool false ∧ vn = .int .u64 a ∧ vi = .int .i64 k ∧ k ≤ t.size ∧ Hid (a = (acc : Int) ∧ acc ≤ 65535 ∧ rdN 16 65535 0 bs = rdN 16 65535 acc (bs.drop k)))
    (fun _ _ vi => t.size - (intOf vi).toNat)
  case atStart => exact ⟨0, 0, 0, rfl, rfl, rfl, by omega, rfl, by omega, rfl⟩
  case round =>
    obtain ⟨k, acc, a, rfl, rfl, rfl, hk, hh⟩ := hrel
    obtain ⟨ha, hacc, hdec⟩ := hh.out
    clear hh
    have a0 : 0 ≤ a := by omega
    have a1 : a ≤ 65535 := by omega
    by_cases hkn : k < t.size
    · have hc := HB.out k hkn
      have hdrop : bs.drop k = bs[k]'(by omega) :: bs.drop (k + 1) := List.drop_eq_getElem_cons (by omega)
      have hget : bs.getD k 0 = bs[k]'(by omega) := by simp [List.getD, List.getElem?_eq_getElem (show k < bs.length by omega)]
      rw [hdrop] at hdec
      rw [hget] at hc
      generalize bs[k]'(by omega) = c at hc hdec
      have hc256 : c.toNat < 256 := c.toNat_lt
      clear hdrop hget
      by_cases hdig : 48 ≤ c.toNat ∧ c.toNat ≤ 57
      · obtain ⟨hd0, hd1⟩ := hdig
        have hdv : dv c = some (c.toNat - 48) := if_pos ⟨hd0, hd1⟩
        rw [rdN, hdv] at hdec
        by_cases hov : 65535 < acc * 16 + (c.toNat - 48)
        · have hF := Lib.hid (hdec.trans (if_neg (fun h => by omega)))
          have iov : 65535 < a * 16 + ((c.toNat : Int) - 48) := by omega
          clear hacc hov ha hdec hdv
          go_wp2
          go_ret2
          exact HP.out _ _ ⟨HBel.out, .inr ⟨hF.out, 65535, 1, .inl rfl, rfl⟩⟩
        · have HN : Hid (a * 16 + ((c.toNat : Int) - 48) = ((acc * 16 + (c.toNat - 48) : Nat) : Int) ∧ acc * 16 + (c.toNat - 48) ≤ 65535 ∧ rdN 16 65535 0 bs = rdN 16 65535 (acc * 16 + (c.toNat - 48)) (bs.drop (k + 1))) := Lib.hid ⟨by omega, by omega, hdec.trans (if_pos ⟨by omega, by omega⟩)⟩
          have iov : a * 16 + ((c.toNat : Int) - 48) ≤ 65535 := by omega
          clear hacc hov hdec ha hdv
          go_wp2
          refine ⟨⟨k + 1, acc * 16 + (c.toNat - 48), a * 16 + ((c.toNat : Int) - 48), rfl, (by first | rfl | (congr 1; omega)), (by first | rfl | (congr 1; omega)), by omega, HN⟩, by simp [intOf]; omega⟩
      · have hlo := lowerP_e c
        obtain ⟨L, hLd⟩ : ∃ L, L = (c ||| 32).toNat := ⟨_, rfl⟩
        have hL256 : L < 256 := by rw [hLd]; exact UInt8.toNat_lt _
        rw [← hLd] at hlo
        by_cases hlet : 97 ≤ L ∧ L ≤ 122
        · obtain ⟨hl0, hl1⟩ := hlet
          have hdv : dv c = some (L - 87) := by unfold dv; rw [if_neg hdig, ← hLd, if_pos ⟨hl0, hl1⟩]
          have h95 : ¬ (c.toNat : Int) = 95 := fun e => by
            have e' : c = 95 := UInt8.toNat_inj.1 (by rw [show (95 : UInt8).toNat = 95 from rfl]; omega)
            subst e'
            have : L = 127 := hLd
            omega
          rw [rdN, hdv] at hdec
          by_cases hbase : 16 ≤ L - 87
          · have hF := Lib.hid (hdec.trans (if_neg (fun h => by omega)))
            clear hacc ha hdec hdv hLd
            have hdig' : (c.toNat : Int) < 48 ∨ 57 < (c.toNat : Int) := by omega
            have hb2 : 16 ≤ (L : Int) - 97 + 10 := by omega
            go_wp2_with (go_at_call 140; refine (hlo _).mono ?_; rintro e w' ⟨rfl, rfl⟩)
            all_goals go_ret2
            all_goals exact HP.out _ _ ⟨HBel.out, .inr ⟨hF.out, 0, 2, .inr rfl, rfl⟩⟩
          · have hb2 : (L : Int) - 97 + 10 < 16 := by omega
            have hdig' : (c.toNat : Int) < 48 ∨ 57 < (c.toNat : Int) := by omega
            by_cases hov : 65535 < acc * 16 + (L - 87)
            · have hF := Lib.hid (hdec.trans (if_neg (fun h => by omega)))
              have iov : 65535 < a * 16 + ((L : Int) - 97 + 10) := by omega
              clear hacc hov ha hdec hdv hLd
              go_wp2_with (go_at_call 140; refine (hlo _).mono ?_; rintro e w' ⟨rfl, rfl⟩)
              all_goals go_ret2
              all_goals exact HP.out _ _ ⟨HBel.out, .inr ⟨hF.out, 65535, 1, .inl rfl, rfl⟩⟩
            · have HN : Hid (a * 16 + ((L : Int) - 97 + 10) = ((acc * 16 + (L - 87) : Nat) : Int) ∧ acc * 16 + (L - 87) ≤ 65535 ∧ rdN 16 65535 0 bs = rdN 16 65535 (acc * 16 + (L - 87)) (bs.drop (k + 1))) := Lib.hid ⟨by omega, by omega, hdec.trans (if_pos ⟨by omega, by omega⟩)⟩
              have iov : a * 16 + ((L : Int) - 97 + 10) ≤ 65535 := by omega
              clear hacc hov hdec ha hdv hLd
              go_wp2_with (go_at_call 140; refine (hlo _).mono ?_; rintro e w' ⟨rfl, rfl⟩)
              all_goals refine ⟨⟨k + 1, acc * 16 + (L - 87), a * 16 + ((L : Int) - 97 + 10), rfl, (by first | rfl | (congr 1; omega)), (by first | rfl | (congr 1; omega)), by omega, HN⟩, by simp [intOf]; omega⟩
        · have hdv : dv c = none := by unfold dv; rw [if_neg hdig, ← hLd, if_neg hlet]
          rw [rdN, hdv] at hdec
          have hF := Lib.hid hdec
          have hdig' : (c.toNat : Int) < 48 ∨ 57 < (c.toNat : Int) := by omega
          have hlet' : (L : Int) < 97 ∨ 122 < (L : Int) := by omega
          have h95 : (c.toNat : Int) = 95 ∨ ¬ (c.toNat : Int) = 95 := Decidable.em _
          clear hacc ha hdec hdv hLd hdig hlet
          rcases h95 with h95 | h95
          all_goals rcases hlet' with hlet' | hlet'
          all_goals rcases hdig' with hdig' | hdig'
          all_goals try omega
          all_goals go_wp2_with (first
            | (go_at_call 140; refine (hlo _).mono ?_; rintro e w' ⟨rfl, rfl⟩)
            | (go_at_call 140; refine (lower95 _).mono ?_; rintro e w' ⟨rfl, rfl⟩))
          all_goals go_ret2
          all_goals exact HP.out _ _ ⟨HBel.out, .inr ⟨hF.out, 0, 2, .inr rfl, rfl⟩⟩
    · have hkk : k = t.size := by omega
      subst hkk
      rw [List.drop_eq_nil_of_le (by omega), rdN] at hdec
      subst ha
      have hF := Lib.hid hdec
      clear hacc hdec a0 a1
      go_wp2
      go_ret2
      exact HP.out _ _ ⟨HBel.out, .inl ⟨acc, hF.out, rfl⟩⟩

set_option maxRecDepth 100000 in
set_option maxHeartbeats 4000000 in
theorem pu8 (t : ByteArray) (hmax : t.size ≤ 1099511627776) (w : World) :
    Calls Tryz.prog 132 #[.string t, .int .i64 10, .int .i64 8] w (PuPost 10 255 t w) := by
  by_cases hne : t.data.toList = []
  · obtain rfl : t = ⟨#[]⟩ := bytes_inj hne
    have hr := Lib.hid (show rdT 10 255 [] = none by rfl)
    go_enter Tryz.func132, Tryz.ntmps132
    go_wp2
    go_ret2
    exact ⟨Below.refl _ _, Or.inr ⟨hr.out, 0, 2, .inr rfl, rfl⟩⟩
  have hemp : t.toList.isEmpty = false := by
    rw [← decide_eq_emptyBytes]
    exact decide_eq_false (fun h => hne (by rw [h]; rfl))
  have hsz : t.data.toList.length = t.size := (Lib.size_eq t).symm
  have hcv := Lib.run_convert_string_bytes (P := Tryz.prog) w 9 62 5 t (u := .string) Tryz.underlying9 Tryz.underlying62 Tryz.underlying5
  have hB : ∀ j, j < t.size → (Lib.bytesWorld w 5 t).cell? ⟨w.heap.size, j, none⟩ = some (.int .u8 (t.data.toList.getD j 0).toNat) := fun j hj => Lib.bytesWorld_cell w 5 t j hj
  have hbel : Below w.heap.size w (Lib.bytesWorld w 5 t) := Joins.below_bytesWorld _ w _ t (Nat.le_refl _)
  have hR0 : rdT 10 255 t.data.toList = rdN 10 255 0 t.data.toList := if_neg hne
  obtain ⟨W1, hW1⟩ : ∃ W1, W1 = Lib.bytesWorld w 5 t := ⟨_, rfl⟩
  rw [← hW1] at hcv hB hbel
  clear hW1
  obtain ⟨bs, hL⟩ : ∃ bs, bs = t.data.toList := ⟨_, rfl⟩
  have HP : Hid (∀ e w', (Below w.heap.size w w' ∧ ((∃ v, rdN 10 255 0 bs = some v ∧ e = .returned (.tuple #[.int .u64 v, .nilIface])) ∨ (rdN 10 255 0 bs = none ∧ ∃ (x k : Int), (k = 1 ∨ k = 2) ∧ e = .returned (.tuple #[.int .u64 x, .iface 185 (.int .i64 k)])))) → PuPost 10 255 t w e w') := Lib.hid fun e w' h => by
    unfold PuPost
    rw [hR0, ← hL]; exact h
  rw [← hL] at hB hsz
  have HB := Lib.hid hB
  have HBel := Lib.hid hbel
  clear hL hR0 hne hB hbel
  have hmv : IntKind.u64.wrap (IntKind.u64.wrap 256 - 1) = 255 := by
    rw [IntKind.wrap_u64, IntKind.wrap_u64]
    decide
  go_enter Tryz.func132, Tryz.ntmps132
  go_wp2
  go_loop [12, 13, 101] (fun vu vn vi => ∃ (k acc : Nat) (a : Int), vu = .bool false ∧ vn = .int .u64 a ∧ vi = .int .i64 k ∧ k ≤ t.size ∧ Hid (a = (acc : Int) ∧ acc ≤ 255 ∧ rdN 10 255 0 bs = rdN 10 255 acc (bs.drop k)))
    (fun _ _ vi => t.size - (intOf vi).toNat)
  case atStart => exact ⟨0, 0, 0, rfl, rfl, rfl, by omega, rfl, by omega, rfl⟩
  case round =>
    obtain ⟨k, acc, a, rfl, rfl, rfl, hk, hh⟩ := hrel
    obtain ⟨ha, hacc, hdec⟩ := hh.out
    clear hh
    have a0 : 0 ≤ a := by omega
    have a1 : a ≤ 255 := by omega
    by_cases hkn : k < t.size
    · have hc := HB.out k hkn
      have hdrop : bs.drop k = bs[k]'(by omega) :: bs.drop (k + 1) := List.drop_eq_getElem_cons (by omega)
      have hget : bs.getD k 0 = bs[k]'(by omega) := by simp [List.getD, List.getElem?_eq_getElem (show k < bs.length by omega)]
      rw [hdrop] at hdec
      rw [hget] at hc
      generalize bs[k]'(by omega) = c at hc hdec
      have hc256 : c.toNat < 256 := c.toNat_lt
      clear hdrop hget
      by_cases hdig : 48 ≤ c.toNat ∧ c.toNat ≤ 57
      · obtain ⟨hd0, hd1⟩ := hdig
        have hdv : dv c = some (c.toNat - 48) := if_pos ⟨hd0, hd1⟩
        rw [rdN, hdv] at hdec
        by_cases hov : 255 < acc * 10 + (c.toNat - 48)
        · have hF := Lib.hid (hdec.trans (if_neg (fun h => by omega)))
          have iov : 255 < a * 10 + ((c.toNat : Int) - 48) := by omega
          clear hacc hov ha hdec hdv
          go_wp2
          go_ret2
          exact HP.out _ _ ⟨HBel.out, .inr ⟨hF.out, 255, 1, .inl rfl, rfl⟩⟩
        · have HN : Hid (a * 10 + ((c.toNat : Int) - 48) = ((acc * 10 + (c.toNat - 48) : Nat) : Int) ∧ acc * 10 + (c.toNat - 48) ≤ 255 ∧ rdN 10 255 0 bs = rdN 10 255 (acc * 10 + (c.toNat - 48)) (bs.drop (k + 1))) := Lib.hid ⟨by omega, by omega, hdec.trans (if_pos ⟨by omega, by omega⟩)⟩
          have iov : a * 10 + ((c.toNat : Int) - 48) ≤ 255 := by omega
          clear hacc hov hdec ha hdv
          go_wp2
          refine ⟨⟨k + 1, acc * 10 + (c.toNat - 48), a * 10 + ((c.toNat : Int) - 48), rfl, (by first | rfl | (congr 1; omega)), (by first | rfl | (congr 1; omega)), by omega, HN⟩, by simp [intOf]; omega⟩
      · have hlo := lowerP_e c
        obtain ⟨L, hLd⟩ : ∃ L, L = (c ||| 32).toNat := ⟨_, rfl⟩
        have hL256 : L < 256 := by rw [hLd]; exact UInt8.toNat_lt _
        rw [← hLd] at hlo
        by_cases hlet : 97 ≤ L ∧ L ≤ 122
        · obtain ⟨hl0, hl1⟩ := hlet
          have hdv : dv c = some (L - 87) := by unfold dv; rw [if_neg hdig, ← hLd, if_pos ⟨hl0, hl1⟩]
          have h95 : ¬ (c.toNat : Int) = 95 := fun e => by
            have e' : c = 95 := UInt8.toNat_inj.1 (by rw [show (95 : UInt8).toNat = 95 from rfl]; omega)
            subst e'
            have : L = 127 := hLd
            omega
          rw [rdN, hdv] at hdec
          by_cases hbase : 10 ≤ L - 87
          · have hF := Lib.hid (hdec.trans (if_neg (fun h => by omega)))
            clear hacc ha hdec hdv hLd
            have hdig' : (c.toNat : Int) < 48 ∨ 57 < (c.toNat : Int) := by omega
            have hb2 : 10 ≤ (L : Int) - 97 + 10 := by omega
            go_wp2_with (go_at_call 140; refine (hlo _).mono ?_; rintro e w' ⟨rfl, rfl⟩)
            all_goals go_ret2
            all_goals exact HP.out _ _ ⟨HBel.out, .inr ⟨hF.out, 0, 2, .inr rfl, rfl⟩⟩
          · omega
        · have hdv : dv c = none := by unfold dv; rw [if_neg hdig, ← hLd, if_neg hlet]
          rw [rdN, hdv] at hdec
          have hF := Lib.hid hdec
          have hdig' : (c.toNat : Int) < 48 ∨ 57 < (c.toNat : Int) := by omega
          have hlet' : (L : Int) < 97 ∨ 122 < (L : Int) := by omega
          have h95 : (c.toNat : Int) = 95 ∨ ¬ (c.toNat : Int) = 95 := Decidable.em _
          clear hacc ha hdec hdv hLd hdig hlet
          rcases h95 with h95 | h95
          all_goals rcases hlet' with hlet' | hlet'
          all_goals rcases hdig' with hdig' | hdig'
          all_goals try omega
          all_goals go_wp2_with (first
            | (go_at_call 140; refine (hlo _).mono ?_; rintro e w' ⟨rfl, rfl⟩)
            | (go_at_call 140; refine (lower95 _).mono ?_; rintro e w' ⟨rfl, rfl⟩))
          all_goals go_ret2
          all_goals exact HP.out _ _ ⟨HBel.out, .inr ⟨hF.out, 0, 2, .inr rfl, rfl⟩⟩
    · have hkk : k = t.size := by omega
      subst hkk
      rw [List.drop_eq_nil_of_le (by omega), rdN] at hdec
      subst ha
      have hF := Lib.hid hdec
      clear hacc hdec a0 a1
      go_wp2
      go_ret2
      exact HP.out _ _ ⟨HBel.out, .inl ⟨acc, hF.out, rfl⟩⟩
end Go.Proofs.YtpnlgojbmjfhhaaGreatDoor
