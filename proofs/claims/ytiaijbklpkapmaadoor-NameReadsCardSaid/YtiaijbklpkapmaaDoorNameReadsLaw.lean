/-
  The walk of NameReads: whatever text it is called with, it returns true. Conditions: the text lies within the form's own reach, and the library's variable MaxLen holds some number.
-/
import Derived.Test.YtiaijbklpkapmaaDoorNamePartsLib
import Derived.BigQuiet
import Derived.Deep.QuietTactic
namespace Go.Proofs.YtiaijbklpkapmaaDoor
open Go.RowKit

theorem TU.form {s u : List UInt8} {m : Nat} (h : TU s m u) : (m = 1 ∧ u = [] ∧ ¬ TA s 0 s) ∨ (m = 0 ∧ TA s 0 s) := by
  cases h with
  | no h => exact .inl ⟨rfl, rfl, h⟩
  | ok zs h hz => exact .inr ⟨rfl, h⟩
theorem TU.size {s u : List UInt8} (h : TU s 0 u) : u.length ≤ 506 := by
  rcases h.form with ⟨h1, _⟩ | ⟨_, ht⟩
  · cases h1
  · obtain ⟨_, u', hu, _, hl⟩ := ht.back
    rw [(h.det hu).2]; exact hl
/-- how the loop stands: both lists lie as they were laid -/
structure LsAt (w wr : World) (g1 g2 : Nat) (xs ys : List ByteArray) : Prop where
  below : Below w.heap.size w wr
  a : StrsF wr g1 xs
  b : StrsF wr g2 ys
theorem LsAt.drewN {w wr : World} {g1 g2 : Nat} {xs ys : List ByteArray} (h : LsAt w wr g1 g2 xs ys) (q : Nat) : LsAt w (wr.drewN q) g1 g2 xs ys :=
  ⟨below_drewN h.below q, h.a.below (below_drewN (Below.refl _ _) q), h.b.below (below_drewN (Below.refl _ _) q)⟩
theorem mark_at {y : ByteArray} : ((y.extract 0 4).toList == [120, 110, 45, 45]) = true ↔ XN <+: y.data.toList := by
  rw [Lib.toList_data, Lib.extract_data, beq_iff_eq]
  constructor
  · intro e
    refine ⟨y.data.toList.drop 4, ?_⟩
    have h1 : y.data.toList.take 4 = XN := by
      unfold XN
      simpa using e
    rw [← h1, List.take_append_drop]
  · rintro ⟨P, hP⟩
    rw [← hP]; rfl
set_option maxRecDepth 100000 in
set_option maxHeartbeats 2000000 in
theorem nameReads_walk (s : ByteArray) (w : World) (he : Env w) (hs : s.size ≤ 140737488351232) :
    Calls Tryd.prog 9 #[.string s] w fun e w' => e = .returned (.bool true) ∧ Below w.heap.size w w' := by
  by_cases hl : s.size ≤ 900
  · go_enter Tryd.func9, Tryd.ntmps9
    go_wp2_with fail
    refine (fit_e w he).mono ?_; rintro e w1 ⟨rfl, hb1, he1⟩
    go_wp2_with fail
    refine (tu_e s w1 he1 (by omega)).mono ?_; rintro e w2 ⟨m, u, rfl, hb2, he2, htu⟩
    have hb := hb1.trans (hb2.mono hb1.size)
    clear hb1 hb2
    rcases htu.out.form with ⟨rfl, hu, hno⟩ | ⟨rfl, hyes⟩
    · obtain rfl : u = ⟨#[]⟩ := bytes_inj hu
      have HNO := Lib.hid hno
      clear hno hu htu
      go_wp2_with fail
      refine (ta_e s w2 he2 (by omega)).mono ?_; rintro e w3 ⟨n, t, rfl, hb3, he3, hta⟩
      replace hb := hb.trans (hb3.mono hb.size)
      clear hb3
      by_cases hn : n = 0
      · subst hn
        have hts := (bytes_ne (fun e : t = s => HNO.out (e ▸ hta.out))).2
        clear hta
        go_wp2_with fail
        go_ret
        exact ⟨rfl, hb⟩
      · have hn' : ((n : Int) == 0) = false := by simp; omega
        clear hta
        go_wp2_with fail
        go_ret
        exact ⟨rfl, hb⟩
    · have C := ta_at s s 0 w2 he2 (by omega) hyes
      obtain ⟨hlen, hlab⟩ := htu.out.labels
      have hus : u.size ≤ 506 := by rw [Lib.size_eq]; exact htu.out.size
      rw [← pieces_length, ← pieces_length] at hlen
      have HLAB := Lib.hid hlab
      have HLEN := Lib.hid hlen
      clear hyes htu hlab hlen
      go_wp2_with fail
      refine C.mono ?_; rintro e w3 ⟨rfl, hb3, he3⟩
      replace hb := hb.trans (hb3.mono hb.size)
      clear hb3 C
      go_wp2_with fail
      refine (split_f s w3 he3 (by omega)).mono ?_; rintro e w4 ⟨rfl, hb4, hr1⟩
      have he4 := he3.below hb4
      replace hb := hb.trans (hb4.mono hb.size)
      go_wp2_with fail
      refine (split_f u w4 he4 (by omega)).mono ?_; rintro e w5 ⟨rfl, hb5, hr2⟩
      have HA0 : Hid (LsAt w w5 w3.heap.size w4.heap.size (pieces s) (pieces u)) := Lib.hid ⟨hb.trans (hb5.mono hb.size), hr1.below hb5, hr2⟩
      have HP1 := Lib.hid (pieces_data s)
      have HP2 := Lib.hid (pieces_data u)
      have hpl := pieces_le s
      clear hr1 hr2 hb hb4 hb5
      revert HA0 HP1 HP2 HLEN hpl
      generalize pieces s = xs
      generalize pieces u = ys
      intro HLEN HA0 HP1 HP2 hpl
      obtain ⟨N, hN⟩ : ∃ N, ys.length = N := ⟨_, rfl⟩
      have hM : xs.length = N := HLEN.out.trans hN
      rw [hM] at hpl ⊢
      rw [hN]
      have HX := Lib.hid hM
      have HY := Lib.hid hN
      have hN2 : N ≤ 902 := by omega
      clear HLEN hM hN hpl
      go_wp2_with fail
      go_loopw [51] (fun i wr => ∃ k : Nat, k ≤ N ∧ i = .int .i64 k ∧ Hid (LsAt w wr w3.heap.size w4.heap.size xs ys)) (fun i _ => N - (intOf i).toNat)
      case atStart => exact ⟨0, Nat.zero_le _, rfl, HA0⟩
      case round =>
        obtain ⟨k, hk, rfl, HA⟩ := hrel
        by_cases hlt : k < N
        · have hkx : k < xs.length := by rw [HX.out]; exact hlt
          have hky : k < ys.length := by rw [HY.out]; exact hlt
          have c0 := HA.out.a.cells k hkx
          have c1 := HA.out.b.cells k hky
          have hiff := HLAB.out k (xs.getD k ByteArray.empty).data.toList (ys.getD k ByteArray.empty).data.toList (by rw [← HP1.out, List.getElem?_map, List.getElem?_eq_getElem hkx]; simp [List.getD, List.getElem?_eq_getElem hkx]) (by rw [← HP2.out, List.getElem?_map, List.getElem?_eq_getElem hky]; simp [List.getD, List.getElem?_eq_getElem hky])
          generalize xs.getD k ByteArray.empty = y at c0 hiff
          generalize ys.getD k ByteArray.empty = z at c1 hiff
          clear hkx hky
          by_cases h4 : 4 < y.size
          · by_cases hx : XN <+: y.data.toList
            · have hm := mark_at.2 hx
              have hne := (bytes_ne (fun e : y = z => (hiff.1 (by rw [e])) ⟨by rw [← Lib.size_eq]; exact h4, hx⟩)).2
              clear hx hiff
              go_wp2_with fail
              go_quiet (fail)
              go_wp2_with fail
              go_roundw
              case rel => exact ⟨k + 1, by omega, by go_num, Lib.hid (HA.out.drewN _)⟩
              case measure => simp [intOf]; omega
            · have hm : ((y.extract 0 4).toList == [120, 110, 45, 45]) = false := by
                rw [Bool.eq_false_iff]; exact fun e => hx (mark_at.1 e)
              obtain rfl : y = z := bytes_inj (hiff.2 fun h => hx h.2)
              clear hx hiff
              go_wp2_with fail
              go_quiet (fail)
              go_wp2_with fail
              go_roundw
              case rel => exact ⟨k + 1, by omega, by go_num, Lib.hid (HA.out.drewN _)⟩
              case measure => simp [intOf]; omega
          · obtain rfl : y = z := bytes_inj (hiff.2 fun h => h4 (by rw [Lib.size_eq]; exact h.1))
            clear hiff
            go_wp2_with fail
            go_quiet (fail)
            go_wp2_with fail
            go_roundw
            case rel => exact ⟨k + 1, by omega, by go_num, Lib.hid (HA.out.drewN _)⟩
            case measure => simp [intOf]; omega
        · obtain rfl : k = N := by omega
          go_wp2_with fail
          go_ret
          exact ⟨rfl, HA.out.below⟩
  · go_enter Tryd.func9, Tryd.ntmps9
    go_wp2_with fail
    refine (fit_e w he).mono ?_; rintro e w1 ⟨rfl, hb1, he1⟩
    go_wp2_with fail
    go_ret
    exact ⟨rfl, hb1⟩
end Go.Proofs.YtiaijbklpkapmaaDoor
