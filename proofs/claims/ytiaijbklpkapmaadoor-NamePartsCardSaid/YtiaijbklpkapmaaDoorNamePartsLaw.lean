/-
  The walk of NameParts: whatever two texts it is called with, it returns true. Conditions: the texts lie within the form's own reach, and the library's variable MaxLen holds some number.
-/
import Derived.Test.YtiaijbklpkapmaaDoorNameBackLaw
namespace Go.Proofs.YtiaijbklpkapmaaDoor
open Go.RowKit

theorem last_byte {s : ByteArray} (h : 0 < s.size) : s.data.toList.getLast? = some (s[s.size - 1]'(by omega)) := by
  rw [List.getLast?_eq_getElem?, ← Lib.size_eq]
  exact Lib.data_getElem? s _ (by omega)
theorem byte46 (b : UInt8) : ((b.toNat : Int) == 46) = decide (b = 46) := by
  rw [Bool.eq_iff_iff, beq_iff_eq, decide_eq_true_iff]
  constructor
  · intro h; apply UInt8.toNat_inj.1; show b.toNat = 46; omega
  · rintro rfl; rfl
theorem last_point {s : ByteArray} (h : 0 < s.size) : (((s[s.size - 1]'(by omega)).toNat : Int) == 46) = true ↔ s.data.toList.getLast? = some 46 := by
  rw [last_byte h, byte46, decide_eq_true_iff, Option.some.injEq]
theorem nonempty {s : ByteArray} (h : 0 < s.size) : (s.toList == []) = false ∧ ¬ s.toList = [] := by
  have : ¬ s.toList = [] := fun e => by
    rw [Lib.toList_data] at e
    rw [Lib.size_eq, e] at h
    simp at h
  exact ⟨by simpa using this, this⟩
theorem empty_size {s : ByteArray} (h : ¬ 0 < s.size) : s = ⟨#[]⟩ := bytes_inj (List.length_eq_zero_iff.1 (by rw [← Lib.size_eq]; omega))
theorem join3 (a b : ByteArray) : (a ++ { data := #[46] } ++ b).data.toList = a.data.toList ++ 46 :: b.data.toList := by
  rw [ByteArray.data_append, ByteArray.data_append, Array.toList_append, Array.toList_append, List.append_assoc]; rfl
theorem join3_size (a b : ByteArray) : (a ++ { data := #[46] } ++ b).size = a.size + 1 + b.size := by
  rw [ByteArray.size_append, ByteArray.size_append]; rfl
/-- does a text end with a point? -/
def ends (s : ByteArray) : Prop := s.data.toList.getLast? = some 46
theorem ends_pos {s : ByteArray} (h : ends s) : 0 < s.size := by
  rw [Lib.size_eq]
  rcases Nat.eq_zero_or_pos s.data.toList.length with h0 | h0
  · unfold ends at h
    rw [List.length_eq_zero_iff.1 h0] at h
    simp at h
  · exact h0

/-- a text that doesn't end with a point: it is empty, or its last byte is another one -/
theorem not_ends {s : ByteArray} (h : ¬ ends s) : ((s.toList == []) = true ∧ s.toList = []) ∨ ∃ h0 : 0 < s.size, (((s[s.size - 1]'(by omega)).toNat : Int) == 46) = false ∧ (s.toList == []) = false ∧ ¬ s.toList = [] := by
  by_cases h0 : 0 < s.size
  · refine .inr ⟨h0, ?_, nonempty h0⟩
    rw [Bool.eq_false_iff]
    exact fun e => h ((last_point h0).1 e)
  · obtain rfl := empty_size h0
    exact .inl ⟨by rw [Lib.toList_data]; rfl, by rw [Lib.toList_data]⟩
set_option maxRecDepth 100000 in
set_option maxHeartbeats 4000000 in
theorem nameParts_walk (a b : ByteArray) (w : World) (he : Env w) (hs : a.size ≤ 140737488351232) (ht : b.size ≤ 140737488351232) :
    Calls Tryd.prog 8 #[.string a, .string b] w fun e w' => e = .returned (.bool true) ∧ Below w.heap.size w w' := by
  by_cases hl : a.size + b.size ≤ 400
  · by_cases ha : ends a
    · have h0 := ends_pos ha
      have h1 := (last_point h0).2 ha
      have h2 := nonempty h0
      clear ha
      go_enter Tryd.func8, Tryd.ntmps8
      go_wp2_with fail
      refine (fit_e w he).mono ?_; rintro e w1 ⟨rfl, hb1, he1⟩
      go_wp2_with fail
      go_ret
      exact ⟨rfl, hb1⟩
    · have HA := Lib.hid ha
      have hA := not_ends ha
      clear ha
      by_cases hb : ends b
      · have h0 := ends_pos hb
        have h1 := (last_point h0).2 hb
        have h2 := nonempty h0
        clear hb HA
        rcases hA with ⟨g1, g2⟩ | ⟨g0, g1, g2, g3⟩
        all_goals
          go_enter Tryd.func8, Tryd.ntmps8
          go_wp2_with fail
          refine (fit_e w he).mono ?_; rintro e w1 ⟨rfl, hb1, he1⟩
          go_wp2_with fail
          go_ret
          exact ⟨rfl, hb1⟩
      · have HB := Lib.hid hb
        have hB := not_ends hb
        have hjs : (a ++ { data := #[46] } ++ b).size ≤ 9223372036854775807 := by rw [join3_size]; omega
        have LEN : Hid (a.data.toList.length + b.data.toList.length ≤ 400) := by rw [Lib.size_eq, Lib.size_eq] at hl; exact Lib.hid hl
        clear hb
        rcases hB with ⟨e1, e2⟩ | ⟨e0, e1, e2, e3⟩
        · rcases hA with ⟨g1, g2⟩ | ⟨g0, g1, g2, g3⟩
          all_goals
            go_enter Tryd.func8, Tryd.ntmps8
            go_wp2_with fail
            refine (fit_e w he).mono ?_; rintro e w1 ⟨rfl, hb1, he1⟩
            go_wp2_with fail
            refine (ta_e a w1 he1 (by omega)).mono ?_; rintro e w2 ⟨n, x, rfl, hb2, he2, hta⟩
            have hb := hb1.trans (hb2.mono hb1.size)
            clear hb1 hb2
            go_wp2_with fail
            refine (ta_e b w2 he2 (by omega)).mono ?_; rintro e w3 ⟨m, y, rfl, hb3, he3, htb⟩
            replace hb := hb.trans (hb3.mono hb.size)
            clear hb3
            by_cases hn : n = 0 ∨ n = 2
            · clear hta htb
              rcases hn with rfl | rfl
              all_goals
                have C := ta_e (a ++ { data := #[46] } ++ b) w3 he3 hjs
                go_wp2_with fail
                refine C.mono ?_; rintro e w4 ⟨k, z, rfl, hb4, he4, hk⟩
                replace hb := hb.trans (hb4.mono hb.size)
                clear C hb4 hk
                go_wp2_with fail
                go_ret
                exact ⟨rfl, hb⟩
            · have hnum := hta.out.num.1
              have H := Lib.hid (hta.out.parts_err (b := b.data.toList) (by omega) (by omega) LEN.out HA.out HB.out)
              have hn13 : n = 1 ∨ n = 3 := by omega
              clear hn hnum htb hta
              rcases hn13 with rfl | rfl
              all_goals
                have C := ta_at (a ++ { data := #[46] } ++ b) ⟨#[]⟩ _ w3 he3 hjs (by rw [join3]; exact H.out)
                go_wp2_with fail
                refine C.mono ?_; rintro e w4 ⟨rfl, hb4, he4⟩
                replace hb := hb.trans (hb4.mono hb.size)
                clear C hb4
                go_wp2_with fail
                go_ret
                exact ⟨rfl, hb⟩
        · have HNE := Lib.hid (show b.data.toList ≠ [] by rw [← Lib.toList_data]; exact e3)
          rcases hA with ⟨g1, g2⟩ | ⟨g0, g1, g2, g3⟩
          all_goals
            go_enter Tryd.func8, Tryd.ntmps8
            go_wp2_with fail
            refine (fit_e w he).mono ?_; rintro e w1 ⟨rfl, hb1, he1⟩
            go_wp2_with fail
            refine (ta_e a w1 he1 (by omega)).mono ?_; rintro e w2 ⟨n, x, rfl, hb2, he2, hta⟩
            have hb := hb1.trans (hb2.mono hb1.size)
            clear hb1 hb2
            go_wp2_with fail
            refine (ta_e b w2 he2 (by omega)).mono ?_; rintro e w3 ⟨m, y, rfl, hb3, he3, htb⟩
            replace hb := hb.trans (hb3.mono hb.size)
            clear hb3
            by_cases hn : n = 0 ∨ n = 2
            · rcases hn with rfl | rfl
              · by_cases hm2 : m = 2
                · subst hm2
                  clear hta htb
                  have C := ta_e (a ++ { data := #[46] } ++ b) w3 he3 hjs
                  go_wp2_with fail
                  refine C.mono ?_; rintro e w4 ⟨k, z, rfl, hb4, he4, hk⟩
                  replace hb := hb.trans (hb4.mono hb.size)
                  clear C hb4 hk
                  go_wp2_with fail
                  go_ret
                  exact ⟨rfl, hb⟩
                · obtain ⟨P1, P2⟩ := hta.out.parts htb.out hm2 HNE.out LEN.out HA.out HB.out
                  by_cases hm0 : m = 0
                  · subst hm0
                    obtain ⟨P3, P4⟩ := P2 rfl
                    have hxs : x.size ≤ 253 := by rw [Lib.size_eq]; exact hta.out.right.2.1
                    have hys : y.size ≤ 253 := by rw [Lib.size_eq]; exact htb.out.right.2.1
                    by_cases hbig : 253 < x.size + 1 + y.size
                    · have H := Lib.hid (P3 (by rw [← Lib.size_eq, ← Lib.size_eq]; exact hbig))
                      have hbig' : decide ((253 : Int) < (x.size : Int) + 1 + (y.size : Int)) = true := decide_eq_true (by omega)
                      clear P1 P2 P3 P4 hta htb
                      have C := ta_at (a ++ { data := #[46] } ++ b) ⟨#[]⟩ 2 w3 he3 hjs (by rw [join3]; exact H.out)
                      go_wp2_with fail
                      refine C.mono ?_; rintro e w4 ⟨rfl, hb4, he4⟩
                      replace hb := hb.trans (hb4.mono hb.size)
                      clear C hb4
                      go_wp2_with fail
                      go_ret
                      exact ⟨rfl, hb⟩
                    · have H := Lib.hid (P4 (by rw [← Lib.size_eq, ← Lib.size_eq]; omega))
                      have hbig' : decide ((253 : Int) < (x.size : Int) + 1 + (y.size : Int)) = false := decide_eq_false (by omega)
                      clear P1 P2 P3 P4 hta htb
                      have C := ta_at (a ++ { data := #[46] } ++ b) (x ++ { data := #[46] } ++ y) 0 w3 he3 hjs (by rw [join3, join3]; exact H.out)
                      go_wp2_with fail
                      refine C.mono ?_; rintro e w4 ⟨rfl, hb4, he4⟩
                      replace hb := hb.trans (hb4.mono hb.size)
                      clear C hb4
                      go_wp2_with fail
                      go_ret
                      exact ⟨rfl, hb⟩
                  · have hnum := htb.out.num.1
                    have H := Lib.hid (P1 hm0)
                    have hm13 : m = 1 ∨ m = 3 := by omega
                    clear P1 P2 hm0 hm2 hnum hta htb
                    rcases hm13 with rfl | rfl
                    all_goals
                      have C := ta_at (a ++ { data := #[46] } ++ b) ⟨#[]⟩ _ w3 he3 hjs (by rw [join3]; exact H.out)
                      go_wp2_with fail
                      refine C.mono ?_; rintro e w4 ⟨rfl, hb4, he4⟩
                      replace hb := hb.trans (hb4.mono hb.size)
                      clear C hb4
                      go_wp2_with fail
                      go_ret
                      exact ⟨rfl, hb⟩
              · clear hta htb
                have C := ta_e (a ++ { data := #[46] } ++ b) w3 he3 hjs
                go_wp2_with fail
                refine C.mono ?_; rintro e w4 ⟨k, z, rfl, hb4, he4, hk⟩
                replace hb := hb.trans (hb4.mono hb.size)
                clear C hb4 hk
                go_wp2_with fail
                go_ret
                exact ⟨rfl, hb⟩
            · have hnum := hta.out.num.1
              have H := Lib.hid (hta.out.parts_err (b := b.data.toList) (by omega) (by omega) LEN.out HA.out HB.out)
              have hn13 : n = 1 ∨ n = 3 := by omega
              clear hn hnum htb hta
              rcases hn13 with rfl | rfl
              all_goals
                have C := ta_at (a ++ { data := #[46] } ++ b) ⟨#[]⟩ _ w3 he3 hjs (by rw [join3]; exact H.out)
                go_wp2_with fail
                refine C.mono ?_; rintro e w4 ⟨rfl, hb4, he4⟩
                replace hb := hb.trans (hb4.mono hb.size)
                clear C hb4
                go_wp2_with fail
                go_ret
                exact ⟨rfl, hb⟩
  · go_enter Tryd.func8, Tryd.ntmps8
    go_wp2_with fail
    refine (fit_e w he).mono ?_; rintro e w1 ⟨rfl, hb1, he1⟩
    have hl' : decide ((400 : Int) < (a.size : Int) + (b.size : Int)) = true := decide_eq_true (by omega)
    go_wp2_with fail
    go_ret
    exact ⟨rfl, hb1⟩
end Go.Proofs.YtiaijbklpkapmaaDoor
