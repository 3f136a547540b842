/-
  The walk of NameBack: whatever text it is called with, it returns true. Conditions: the text lies within the form's own reach, and the library's variable MaxLen holds some number.
-/
import Derived.Test.YtiaijbklpkapmaaDoorNameLaw
namespace Go.Proofs.YtiaijbklpkapmaaDoor
open Go.RowKit

theorem of_list (l : List UInt8) : ∃ u : ByteArray, u.data.toList = l := ⟨⟨l.toArray⟩, rfl⟩
theorem empty_of {y : ByteArray} (h : y.data.toList = []) : y = ⟨#[]⟩ := bytes_inj h
set_option maxRecDepth 100000 in
set_option maxHeartbeats 1000000 in
theorem nameBack_walk (s : ByteArray) (w : World) (he : Env w) (hs : s.size ≤ 140737488351232) :
    Calls Tryd.prog 3 #[.string s] w fun e w' => e = .returned (.bool true) ∧ Below w.heap.size w w' := by
  by_cases hl : s.size ≤ 1500
  · go_enter Tryd.func3, Tryd.ntmps3
    go_wp2_with fail
    refine (fit_e w he).mono ?_; rintro e w1 ⟨rfl, hb1, he1⟩
    go_wp2_with fail
    refine (ta_e s w1 he1 (by omega)).mono ?_; rintro e w2 ⟨n, t, rfl, hb2, he2, hta⟩
    have hb := hb1.trans (hb2.mono hb1.size)
    clear hb1 hb2
    by_cases hn : n = 0
    · subst hn
      obtain ⟨hta1, u0, htu, hta2, hul⟩ := hta.out.back
      have ht : t.size ≤ 253 := by rw [Lib.size_eq]; exact hta.out.right.2.1
      obtain ⟨u, rfl⟩ := of_list u0
      have hus : u.size ≤ 506 := by rw [Lib.size_eq]; exact hul
      have C3 := tu_at t u 0 w2 he2 (by omega) htu
      have H2 := Lib.hid hta2
      have H1 := Lib.hid hta1
      clear hta1 hta2 htu hta hul
      go_wp2_with fail
      refine C3.mono ?_; rintro e w3 ⟨rfl, hb3, he3⟩
      replace hb := hb.trans (hb3.mono hb.size)
      clear C3 hb3
      have C4 := ta_at u t 0 w3 he3 (by omega) H2.out
      go_wp2_with fail
      refine C4.mono ?_; rintro e w4 ⟨rfl, hb4, he4⟩
      replace hb := hb.trans (hb4.mono hb.size)
      clear C4 hb4
      have C5 := ta_at t t 0 w4 he4 (by omega) H1.out
      go_wp2_with fail
      refine C5.mono ?_; rintro e w5 ⟨rfl, hb5, he5⟩
      replace hb := hb.trans (hb5.mono hb.size)
      clear C5 hb5
      go_wp2_with fail
      go_ret
      exact ⟨rfl, hb⟩
    · obtain ⟨hn3, ht⟩ := hta.out.num
      obtain rfl := empty_of (ht hn)
      have h3 : n = 1 ∨ n = 2 ∨ n = 3 := by omega
      clear ht hta
      rcases h3 with rfl | rfl | rfl
      all_goals
        clear hn hn3
        go_wp2_with fail
        go_ret
        exact ⟨rfl, hb⟩
  · go_enter Tryd.func3, Tryd.ntmps3
    go_wp2_with fail
    refine (fit_e w he).mono ?_; rintro e w1 ⟨rfl, hb1, he1⟩
    go_wp2_with fail
    go_ret
    exact ⟨rfl, hb1⟩
end Go.Proofs.YtiaijbklpkapmaaDoor
