/-
  The walk of the laws' own helper fit (the example holds), and the calls ToASCII and ToUnicode by what the document says of them. Condition: the library's variable MaxLen holds some number.
-/
import Derived.Test.YtiaijbklpkapmaaDoorNameUni
namespace Go.Proofs.YtiaijbklpkapmaaDoor
open Go.RowKit

theorem ta_at (s t : ByteArray) (n : Nat) (w : World) (he : Env w) (hs : s.size ≤ 9223372036854775807) (h : TA s.data.toList n t.data.toList) :
    Calls Tryd.prog 12 #[.string s] w fun e w' => e = .returned (.tuple #[.string t, .int .i64 n]) ∧ Below w.heap.size w w' ∧ Env w' :=
  (toASCII_any s w he hs).mono fun e w' ⟨m, y, h1, h2, h3⟩ => by
    obtain ⟨e1, e2⟩ := h3.det h
    subst e1
    obtain rfl := bytes_inj e2
    exact ⟨h1, h2, he.below h2⟩
theorem tu_at (s t : ByteArray) (n : Nat) (w : World) (he : Env w) (hs : s.size ≤ 9223372036854775807) (h : TU s.data.toList n t.data.toList) :
    Calls Tryd.prog 13 #[.string s] w fun e w' => e = .returned (.tuple #[.string t, .int .i64 n]) ∧ Below w.heap.size w w' ∧ Env w' :=
  (toUnicode_any s w he hs).mono fun e w' ⟨m, y, h1, h2, h3⟩ => by
    obtain ⟨e1, e2⟩ := h3.det h
    subst e1
    obtain rfl := bytes_inj e2
    exact ⟨h1, h2, he.below h2⟩
/-- for every text there is what ToASCII answers -/
theorem ta_e (s : ByteArray) (w : World) (he : Env w) (hs : s.size ≤ 9223372036854775807) :
    Calls Tryd.prog 12 #[.string s] w fun e w' => ∃ (n : Nat) (t : ByteArray), e = .returned (.tuple #[.string t, .int .i64 n]) ∧ Below w.heap.size w w' ∧ Env w' ∧ Hid (TA s.data.toList n t.data.toList) :=
  (toASCII_any s w he hs).mono fun _ _ ⟨m, y, h1, h2, h3⟩ => ⟨m, y, h1, h2, he.below h2, Lib.hid h3⟩
theorem tu_e (s : ByteArray) (w : World) (he : Env w) (hs : s.size ≤ 9223372036854775807) :
    Calls Tryd.prog 13 #[.string s] w fun e w' => ∃ (n : Nat) (t : ByteArray), e = .returned (.tuple #[.string t, .int .i64 n]) ∧ Below w.heap.size w w' ∧ Env w' ∧ Hid (TU s.data.toList n t.data.toList) :=
  (toUnicode_any s w he hs).mono fun _ _ ⟨m, y, h1, h2, h3⟩ => ⟨m, y, h1, h2, he.below h2, Lib.hid h3⟩

theorem fit_nlab : NLab [98, 252, 99, 104, 101, 114] := by
  refine ⟨⟨252, by simp, by omega⟩, ?_, ?_, by simp, by simp⟩
  · intro r hr
    simp only [List.mem_cons, List.not_mem_nil, or_false] at hr
    unfold stN
    omega
  · intro r hr
    simp only [List.mem_cons, List.not_mem_nil, or_false] at hr
    unfold goodN
    omega
theorem fit_de : RightL [100, 101] := by
  refine ⟨by simp, by simp, ?_, by simp, by simp⟩
  intro c hc
  simp only [List.mem_cons, List.not_mem_nil, or_false] at hc
  unfold stN
  have e1 : (100 : UInt8).toNat = 100 := rfl
  have e2 : (101 : UInt8).toNat = 101 := rfl
  rcases hc with rfl | rfl <;> omega
theorem fit_ta : TA [66, 195, 188, 99, 104, 101, 114, 46, 68, 69, 46] 0 [120, 110, 45, 45, 98, 99, 104, 101, 114, 45, 107, 118, 97, 46, 100, 101] := by
  have h1 : Lab [66, 195, 188, 99, 104, 101, 114] 0 (XN ++ [98, 99, 104, 101, 114, 45, 107, 118, 97]) :=
    .wide [98, 252, 99, 104, 101, 114] _ (fun h => by have := h 195 (by simp); have e : (195 : UInt8).toNat = 195 := rfl; omega) (by decide) fit_nlab bucher (by decide)
  have h2 : Lab [68, 69] 0 [100, 101] := by
    have e : low [68, 69] = [100, 101] := by decide
    have := Lab.plain (x := [68, 69]) (fun c hc => by
      simp only [List.mem_cons, List.not_mem_nil, or_false] at hc
      have e1 : (68 : UInt8).toNat = 68 := rfl
      have e2 : (69 : UInt8).toNat = 69 := rfl
      rcases hc with rfl | rfl <;> omega) (by rw [e]; exact fit_de) (by decide)
    rw [e] at this
    exact this
  have h3 : sp (cutP [66, 195, 188, 99, 104, 101, 114, 46, 68, 69, 46]) = [[66, 195, 188, 99, 104, 101, 114], [68, 69]] := by decide
  have := TA.ok (s := [66, 195, 188, 99, 104, 101, 114, 46, 68, 69, 46]) (by decide) _ (by rw [h3]; exact .next h1 (.next h2 .nil)) (by decide)
  exact this
theorem fit_tu : TU [120, 110, 45, 45, 98, 99, 104, 101, 114, 45, 107, 118, 97, 46, 100, 101] 0 [98, 195, 188, 99, 104, 101, 114, 46, 100, 101] := by
  have h3 : sp [120, 110, 45, 45, 98, 99, 104, 101, 114, 45, 107, 118, 97, 46, 100, 101] = [XN ++ [98, 99, 104, 101, 114, 45, 107, 118, 97], [100, 101]] := by decide
  have := TU.ok (s := [120, 110, 45, 45, 98, 99, 104, 101, 114, 45, 107, 118, 97, 46, 100, 101]) _ fit_ta.back.1 (by rw [h3]; exact .next (.puny _ _ rfl fit_nlab bucher) (.next (.plain (by decide)) .nil))
  have e : jn [utf [98, 252, 99, 104, 101, 114], [100, 101]] = [98, 195, 188, 99, 104, 101, 114, 46, 100, 101] := by decide
  rw [e] at this
  exact this
theorem cntB_eq {s : ByteArray} (h : s.data.toList ≠ [46]) : cntB s = (sp s.data.toList).length := by
  unfold cntB
  rw [if_neg, pieces_length]
  rw [Lib.toList_data, beq_iff_eq]
  exact h
theorem fit_count (w : World) (he : Env w) : Calls Tryd.prog 18 #[.string ⟨#[120, 110, 45, 45, 98, 99, 104, 101, 114, 45, 107, 118, 97, 46, 100, 101]⟩] w fun e w' => e = .returned (.int .i64 2) ∧ Below w.heap.size w w' ∧ Env w' := by
  have := count_e ⟨#[120, 110, 45, 45, 98, 99, 104, 101, 114, 45, 107, 118, 97, 46, 100, 101]⟩ w he (by decide)
  rw [cntB_eq (by decide), show (sp (ByteArray.mk #[120, 110, 45, 45, 98, 99, 104, 101, 114, 45, 107, 118, 97, 46, 100, 101]).data.toList).length = 2 by decide] at this
  exact this
set_option maxHeartbeats 1000000 in
theorem fit_e (w : World) (he : Env w) :
    Calls Tryd.prog 11 #[] w fun e w' => e = .returned (.bool true) ∧ Below w.heap.size w w' ∧ Env w' := by
  have C1 := ta_at ⟨#[66, 195, 188, 99, 104, 101, 114, 46, 68, 69, 46]⟩ ⟨#[120, 110, 45, 45, 98, 99, 104, 101, 114, 45, 107, 118, 97, 46, 100, 101]⟩ 0 w he (by decide) fit_ta
  go_enter Tryd.func11, Tryd.ntmps11
  go_wp2_with fail
  refine C1.mono ?_; rintro e w1 ⟨rfl, hb1, he1⟩
  clear C1
  have C2 := tu_at ⟨#[120, 110, 45, 45, 98, 99, 104, 101, 114, 45, 107, 118, 97, 46, 100, 101]⟩ ⟨#[98, 195, 188, 99, 104, 101, 114, 46, 100, 101]⟩ 0 w1 he1 (by decide) fit_tu
  go_wp2_with fail
  refine C2.mono ?_; rintro e w2 ⟨rfl, hb2, he2⟩
  clear C2
  have C3 := fit_count w2 he2
  go_wp2_with fail
  refine C3.mono ?_; rintro e w3 ⟨rfl, hb3, he3⟩
  clear C3
  have hb := hb1.trans (hb2.mono hb1.size)
  go_wp2_with fail
  go_ret
  exact ⟨rfl, hb.trans (hb3.mono hb.size), he3⟩
end Go.Proofs.YtiaijbklpkapmaaDoor
