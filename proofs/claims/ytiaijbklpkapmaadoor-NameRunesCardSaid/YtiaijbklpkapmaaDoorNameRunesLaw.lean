/-
  The walk of NameRunes: whatever rune it is called with, it returns true. Condition: the library's variable MaxLen holds some number.
-/
import Derived.Test.YtiaijbklpkapmaaDoorNameLaw
import Derived.Laws.BitsLemmas
namespace Go.Proofs.YtiaijbklpkapmaaDoor
open Go.RowKit

theorem i32_and1 (n : Int) : bits .and .i32 n 1 = n % 2 := by
  have h1 : (BitVec.ofInt 32 1).toNat = 2 ^ 1 - 1 := by decide
  have key : (BitVec.ofInt 32 n &&& BitVec.ofInt 32 1).toNat = (n % ((2 ^ 32 : Nat) : Int)).toNat % 2 ^ 1 := by
    rw [BitVec.toNat_and, BitVec.toNat_ofInt, h1, Nat.and_two_pow_sub_one_eq_mod]
  show IntKind.i32.wrap ((BitVec.ofInt 32 n &&& BitVec.ofInt 32 1).toNat : Nat) = n % 2
  rw [key, IntKind.wrap_i32]
  omega
/-- a name of a letter and one rune beyond ASCII -/
theorem rune_ta {r : Nat} (h1 : 128 ≤ r) (h2 : okR r) : (goodN r → ∃ y : ByteArray, TA (utf [97, r]) 0 y.data.toList) ∧ (¬ goodN r → TA (utf [97, r]) 1 []) := by
  have e97 : (97 : UInt8).toNat = 97 := rfl
  obtain ⟨L1, L2⟩ := Lab.rune (c := 97) (by unfold stN; omega) (by omega) (by decide) h1 h2
  rw [e97] at L1 L2
  have hno : (46 : UInt8) ∉ utf [97, r] := fun hc => by
    obtain ⟨x, hx, hc⟩ := mem_utf hc
    have e46 : (46 : UInt8).toNat = 46 := rfl
    rcases List.mem_cons.1 hx with rfl | hx
    · rw [u8_low (by omega)] at hc
      have := congrArg UInt8.toNat (List.mem_singleton.1 hc)
      rw [nat8 (by omega)] at this; omega
    · rw [List.mem_singleton.1 hx] at hc
      have := u8_all_high h1 (okR_le h2) _ hc
      omega
  have hcut : cutP (utf [97, r]) = utf [97, r] := by
    unfold cutP
    rw [if_neg fun e => hno (List.mem_of_getLast? e)]
  have hlen : (utf [97, r]).length ≤ 1012 := by have := utf_len4 [97, r]; simp at this; omega
  have hsp : sp (cutP (utf [97, r])) = [utf [97, r]] := by rw [hcut, sp_plain hno]
  constructor
  · intro hg
    obtain ⟨y, hy, hyl⟩ := L1 hg
    refine ⟨⟨y.toArray⟩, ?_⟩
    have := TA.ok hlen [y] (by rw [hsp]; exact .next hy .nil) (by show y.length ≤ 253; omega)
    exact this
  · intro hg
    exact .err hlen 1 (by decide) (by rw [hsp]; exact .err (L2 hg) (by decide))
theorem one_rune {r : Nat} (h : okR r) : ({ data := #[97] } ++ Utf8.encode (r : Int) : ByteArray).data.toList = utf [97, r] := by
  rw [ByteArray.data_append, Array.toList_append, u8_eq h]
  unfold utf
  simp only [List.flatMap_cons, List.flatMap_nil, List.append_nil]
  rw [u8_low (r := 97) (by omega)]; rfl
/-- the cases of a rune beyond ASCII: what is asked for, what goes out, and what Good says -/
theorem rune_cases (r : Int) (h1 : 128 ≤ r) (h2 : r ≤ 1114111) (h3 : r ≤ 55295 ∨ 57344 ≤ r) : ∃ (y : ByteArray) (n : Nat),
    Hid (({ data := #[97] } ++ Utf8.encode r : ByteArray).size ≤ 9223372036854775807) ∧ Hid (TA ({ data := #[97] } ++ Utf8.encode r : ByteArray).data.toList n y.data.toList) ∧
    Hid (∀ w, Calls Tryd.prog 20 #[.int .i32 r] w fun e w' => e = .returned (.bool (gI r)) ∧ w = w') ∧
    ((n = 0 ∧ gI r = true ∧ ((223 ≤ r ∧ r ≤ 255 ∧ (r != 247) = true) ∨ (256 ≤ r ∧ r ≤ 311 ∧ bits .and .i32 r 1 = 1) ∨ (945 ≤ r ∧ r ≤ 969) ∨ (1072 ≤ r ∧ r ≤ 1119))) ∨
     (n = 1 ∧ gI r = false ∧ (r ≤ 222 ∨ r = 247 ∨ (256 ≤ r ∧ r ≤ 311 ∧ bits .and .i32 r 1 = 0) ∨ (312 ≤ r ∧ r ≤ 944) ∨ (970 ≤ r ∧ r ≤ 1071) ∨ (1120 ≤ r ∧ r ≤ 55295) ∨ 57344 ≤ r))) := by
  obtain ⟨k, rfl⟩ : ∃ k : Nat, r = k := ⟨r.toNat, by omega⟩
  have hok : okR k := by unfold okR; omega
  have hsz := encode_size_le (k : Int)
  have hnd := i32_and1 k
  obtain ⟨T1, T2⟩ := rune_ta (r := k) (by omega) hok
  have hor := one_rune hok
  have hsize : Hid (({ data := #[97] } ++ Utf8.encode (k : Int) : ByteArray).size ≤ 9223372036854775807) := Lib.hid (by rw [ByteArray.size_append]; show 1 + _ ≤ _; omega)
  by_cases hg : goodN k
  · obtain ⟨y, hy⟩ := T1 hg
    refine ⟨y, 0, hsize, Lib.hid (by rw [hor]; exact hy), Lib.hid fun w => good_any (k : Int) w, .inl ⟨rfl, (gI_iff k).2 hg, ?_⟩⟩
    unfold goodN at hg
    rcases hg with ⟨a, b, c⟩ | ⟨a, b, c⟩ | h | h
    · exact .inl ⟨by omega, by omega, by simp; omega⟩
    · exact .inr (.inl ⟨by omega, by omega, by rw [hnd]; omega⟩)
    · exact .inr (.inr (.inl ⟨by omega, by omega⟩))
    · exact .inr (.inr (.inr ⟨by omega, by omega⟩))
  · refine ⟨⟨#[]⟩, 1, hsize, Lib.hid (by rw [hor]; exact T2 hg), Lib.hid fun w => good_any (k : Int) w, .inr ⟨rfl, ?_, ?_⟩⟩
    · rw [Bool.eq_false_iff]; exact fun e => hg ((gI_iff k).1 e)
    · unfold goodN at hg
      rw [hnd]
      omega
set_option maxRecDepth 100000 in
set_option maxHeartbeats 2000000 in
theorem nameRunes_walk (r : Int) (w : World) (he : Env w) :
    Calls Tryd.prog 6 #[.int .i32 r] w fun e w' => e = .returned (.bool true) ∧ Below w.heap.size w w' := by
  by_cases hin : 128 ≤ r ∧ r ≤ 1114111 ∧ (r ≤ 55295 ∨ 57344 ≤ r)
  · obtain ⟨y, n, HJ, HT, HG, hcase⟩ := rune_cases r hin.1 hin.2.1 hin.2.2
    obtain ⟨i1, i2, i3⟩ := hin
    clear i3
    have hsz := encode_size_le r
    rcases hcase with ⟨rfl, hg, hcase⟩ | ⟨rfl, hg, hcase⟩
    · have HG' : Hid (∀ w, Calls Tryd.prog 20 #[.int .i32 r] w fun e w' => e = .returned (.bool true) ∧ w = w') := Lib.hid fun w => by
        have := HG.out w
        rw [hg] at this; exact this
      clear HG hg
      rcases hcase with ⟨a, b, c⟩ | ⟨a, b, c⟩ | ⟨a, b⟩ | ⟨a, b⟩
      all_goals try subst a
      all_goals
        go_enter Tryd.func6, Tryd.ntmps6
        go_wp2_with fail
        refine (fit_e w he).mono ?_; rintro e w1 ⟨rfl, hb1, he1⟩
        go_wp2_with fail
        refine (ta_at _ y 0 w1 he1 HJ.out HT.out).mono ?_; rintro e w2 ⟨rfl, hb2, he2⟩
        have hb := hb1.trans (hb2.mono hb1.size)
        clear hb1 hb2
        go_wp2_with fail
        refine (HG'.out w2).mono ?_; rintro e w' ⟨rfl, rfl⟩
        go_wp2_with fail
        go_ret
        first | exact ⟨rfl, hb⟩ | exact ⟨ret_bool (by simp; omega), hb⟩
    · have HG' : Hid (∀ w, Calls Tryd.prog 20 #[.int .i32 r] w fun e w' => e = .returned (.bool false) ∧ w = w') := Lib.hid fun w => by
        have := HG.out w
        rw [hg] at this; exact this
      clear HG hg
      rcases hcase with a | a | ⟨a, b, c⟩ | ⟨a, b⟩ | ⟨a, b⟩ | ⟨a, b⟩ | a
      all_goals try subst a
      all_goals
        go_enter Tryd.func6, Tryd.ntmps6
        go_wp2_with fail
        refine (fit_e w he).mono ?_; rintro e w1 ⟨rfl, hb1, he1⟩
        go_wp2_with fail
        refine (ta_at _ y 1 w1 he1 HJ.out HT.out).mono ?_; rintro e w2 ⟨rfl, hb2, he2⟩
        have hb := hb1.trans (hb2.mono hb1.size)
        clear hb1 hb2
        go_wp2_with fail
        refine (HG'.out w2).mono ?_; rintro e w' ⟨rfl, rfl⟩
        go_wp2_with fail
        go_ret
        first | exact ⟨rfl, hb⟩ | exact ⟨ret_bool (by simp; omega), hb⟩
  · have hcase : r < 128 ∨ 1114111 < r ∨ (55296 ≤ r ∧ r ≤ 57343) := by omega
    clear hin
    rcases hcase with a | a | ⟨a, b⟩
    all_goals
      go_enter Tryd.func6, Tryd.ntmps6
      go_wp2_with fail
      refine (fit_e w he).mono ?_; rintro e w1 ⟨rfl, hb1, he1⟩
      go_wp2_with fail
      go_ret
      exact ⟨rfl, hb1⟩
end Go.Proofs.YtiaijbklpkapmaaDoor
