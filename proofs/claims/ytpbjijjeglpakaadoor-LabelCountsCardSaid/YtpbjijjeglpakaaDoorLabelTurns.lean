/-
  The walk of LabelTurns: whatever three texts it is called with, it returns true. Conditions: the texts lie within the form's own reach, and the library's variable MaxLen holds some number.
-/
import Derived.Test.YtpbjijjeglpakaaDoorLabelUnder
namespace Go.Proofs.YtpbjijjeglpakaaDoor
open Go.RowKit

theorem low_dot (l : List UInt8) : (low l == [46]) = (l == [46]) := by
  rw [Bool.eq_iff_iff, beq_iff_eq, beq_iff_eq]
  cases l with
  | nil => simp [low]
  | cons c t =>
    unfold low
    rw [List.map_cons, List.cons.injEq, List.cons.injEq, List.map_eq_nil_iff, lowc_point]
theorem und_low (s t : ByteArray) : undB (lowB s) (lowB t) = undB s t := by
  unfold undB; rw [lowB_data, lowB_data, low_low, low_low, low_dot]
theorem und_suffix {s t : ByteArray} (h : (46 :: low t.data.toList) <:+ low s.data.toList) : undB s t = true := by
  unfold undB; rw [List.isSuffixOf_iff_suffix.2 h]; simp
theorem und_x (s t : ByteArray) : undB (s ++ { data := #[46] } ++ t) t = true := by
  apply und_suffix
  rw [ByteArray.data_append, ByteArray.data_append, Array.toList_append, Array.toList_append, low_append, low_append, List.append_assoc]
  exact List.suffix_append _ _
theorem und_cases {s t : ByteArray} (h : undB s t = true) : t.data.toList = [46] ∨ low s.data.toList = low t.data.toList ∨ (46 :: low t.data.toList) <:+ low s.data.toList := by
  unfold undB at h
  simp only [Bool.or_eq_true, beq_iff_eq, List.isSuffixOf_iff_suffix] at h
  rcases h with (h | h) | h
  · exact .inl h
  · exact .inr (.inl h)
  · exact .inr (.inr h)
theorem und_trans {s t u : ByteArray} (hd : ¬ t.data.toList = [46]) (h1 : undB s t = true) (h2 : undB t u = true) : undB s u = true := by
  rcases und_cases h2 with h | h | h
  · unfold undB; rw [h]; simp
  · rcases und_cases h1 with h' | h' | h'
    · exact absurd h' hd
    · unfold undB; rw [h', h]; simp
    · rw [h] at h'; exact und_suffix h'
  · rcases und_cases h1 with h' | h' | h'
    · exact absurd h' hd
    · rw [← h'] at h; exact und_suffix h
    · exact und_suffix (h.trans ((List.suffix_cons _ _).trans h'))
theorem stI_lowc (b : UInt8) : stI ((lowc b).toNat : Int) = stI (b.toNat : Int) := by
  have h : ∀ k : Fin 256, stI ((lowc (UInt8.ofNat k.val)).toNat : Int) = stI ((UInt8.ofNat k.val).toNat : Int) := by decide +kernel
  simpa using h ⟨b.toNat, b.toNat_lt⟩
theorem lowc_dash (b : UInt8) : lowc b = 45 ↔ b = 45 := by
  have h : ∀ k : Fin 256, lowc (UInt8.ofNat k.val) = 45 ↔ UInt8.ofNat k.val = 45 := by decide +kernel
  simpa using h ⟨b.toNat, b.toNat_lt⟩
theorem dash_map (o : Option UInt8) : (o.map lowc != some 45) = (o != some 45) := by
  cases o with
  | none => rfl
  | some b =>
    rw [Bool.eq_iff_iff, bne_iff_ne, bne_iff_ne]
    simp only [Option.map_some, ne_eq, Option.some.injEq, lowc_dash]
theorem right_low (s : ByteArray) : rightB (lowB s) = rightB s := by
  unfold rightB
  rw [lowB_size, lowB_data]
  have h1 : (low s.data.toList).all (fun c => stI c.toNat) = s.data.toList.all (fun c => stI c.toNat) := by
    unfold low; rw [List.all_map]; congr 1; funext b; exact stI_lowc b
  have h2 : ∀ i, (low s.data.toList)[i]? = (s.data.toList[i]?).map lowc := fun i => by unfold low; rw [List.getElem?_map]
  rw [h1, h2, h2, dash_map, dash_map]
theorem right_again (s : ByteArray) (w : World) (hs : (lowB s).size ≤ maxLen) :
    Calls Tryd.prog 11 #[.string (lowB s)] w fun e w' => e = .returned (.bool (rightB s)) ∧ w = w' := by
  have := right_any (lowB s) w hs
  rw [right_low] at this
  exact this

set_option maxRecDepth 100000 in
set_option maxHeartbeats 1000000 in
theorem labelTurns_walk (s t u : ByteArray) (w : World) (he : Env w) (hs : s.size ≤ 140737488351232) (ht : t.size ≤ 140737488351232) (hu : u.size ≤ 140737488351232) :
    Calls Tryd.prog 7 #[.string s, .string t, .string u] w fun e w' => e = .returned (.bool true) ∧ Below w.heap.size w w' := by
  by_cases hl : s.size + (t.size + u.size) ≤ 600
  · have hs' : s.size < 4294967281 := by omega
    have ht' : t.size < 4294967281 := by omega
    have hu' : u.size < 4294967281 := by omega
    have hb0 : s.size ≤ 600 := by omega
    have hb1 : t.size ≤ 600 := by omega
    have hb2 : u.size ≤ 600 := by omega
    have hls : (lowB s).size < 4294967281 := by rw [lowB_size]; omega
    have hlt : (lowB t).size < 4294967281 := by rw [lowB_size]; omega
    have hx : (s ++ { data := #[46] } ++ t).size < 4294967281 := by simp only [ByteArray.size_append]; show s.size + 1 + t.size < _; omega
    have hy : (s ++ { data := #[46] } ++ t ++ { data := #[46] } ++ u).size < 4294967281 := by simp only [ByteArray.size_append]; show s.size + 1 + t.size + 1 + u.size < _; omega
    cases hd : (t.toList == [46])
    · have hd' : ¬ t.data.toList = [46] := by rw [← Lib.toList_data]; intro e; rw [e] at hd; simp at hd
      have key : (undB s t = false) ∨ (undB s t = true ∧ undB t u = false) ∨ (undB s t = true ∧ undB t u = true ∧ undB s u = true) := by
        cases h1 : undB s t
        · exact .inl rfl
        · cases h2 : undB t u
          · exact .inr (.inl ⟨rfl, rfl⟩)
          · exact .inr (.inr ⟨rfl, rfl, und_trans hd' h1 h2⟩)
      have KEY := Lib.hid key
      clear key hd'
      go_enter Tryd.func7, Tryd.ntmps7
      go_wp2_with fail
      refine (fit_e w he).mono ?_; rintro e w1 ⟨rfl, hb1, he1⟩
      go_wp2_with fail
      have hb2 := hb1.alloc hb1.size (.cells #[.string s, .string t, .string u] 9)
      have he2 := he1.below ((Below.refl _ w1).alloc (Nat.le_refl _) (.cells #[.string s, .string t, .string u] 9))
      refine (light_3 s t u _ _ hs ht hu (by first | go_simp | simp) (by first | go_simp | simp) (by first | go_simp | simp)).mono ?_; rintro e w2 ⟨rfl, hw2⟩
      rw [decide_eq_true hl]
      rw [hw2] at hb2 he2
      clear hw2
      have hb := hb2
      have he := he2
      clear hb1 hb2 he1 he2
      rcases KEY.out with h1 | ⟨h1, h2⟩ | ⟨h1, h2, h3⟩
      · have Hh1 := Lib.hid h1; clear h1
        go_wp2_with fail
        refine (under_f s t _ he hs' ht' Hh1.out).mono ?_; rintro e w3 ⟨rfl, hb', he'⟩
        replace hb := hb.trans (hb'.mono hb.size)
        replace he := he'
        clear hb' he'
        go_wp2_with fail
        refine (lower_e s _ he hs').mono ?_; rintro e w4 ⟨rfl, hb', he'⟩
        replace hb := hb.trans (hb'.mono hb.size)
        replace he := he'
        clear hb' he'
        go_wp2_with fail
        refine (lower_e t _ he ht').mono ?_; rintro e w5 ⟨rfl, hb', he'⟩
        replace hb := hb.trans (hb'.mono hb.size)
        replace he := he'
        clear hb' he'
        go_wp2_with fail
        refine (under_f (lowB s) (lowB t) _ he hls hlt (by rw [und_low]; exact Hh1.out)).mono ?_; rintro e w6 ⟨rfl, hb', he'⟩
        replace hb := hb.trans (hb'.mono hb.size)
        replace he := he'
        clear hb' he'
        go_wp2_with fail
        refine (under_t _ t _ he hx ht' (und_x s t)).mono ?_; rintro e w7 ⟨rfl, hb', he'⟩
        replace hb := hb.trans (hb'.mono hb.size)
        replace he := he'
        clear hb' he'
        go_wp2_with fail
        refine (under_t _ u _ he hy hu' (und_x _ u)).mono ?_; rintro e w8 ⟨rfl, hb', he'⟩
        replace hb := hb.trans (hb'.mono hb.size)
        replace he := he'
        clear hb' he'
        go_wp2_with fail
        refine (under_f s t _ he hs' ht' Hh1.out).mono ?_; rintro e w9 ⟨rfl, hb', he'⟩
        replace hb := hb.trans (hb'.mono hb.size)
        replace he := he'
        clear hb' he'
        go_wp2_with fail
        refine (right_any s _ (by unfold maxLen; omega)).mono ?_; rintro e w10 ⟨rfl, hw⟩
        rw [hw] at hb he
        clear hw
        go_wp2_with fail
        refine (lower_e s _ he hs').mono ?_; rintro e w11 ⟨rfl, hb', he'⟩
        replace hb := hb.trans (hb'.mono hb.size)
        replace he := he'
        clear hb' he'
        go_wp2_with fail
        refine (right_again s _ (by unfold maxLen; omega)).mono ?_; rintro e w12 ⟨rfl, hw⟩
        rw [hw] at hb he
        clear hw
        go_wp2
        go_ret
        exact ⟨ret_bool (by simp), hb⟩
      · have Hh1 := Lib.hid h1; clear h1
        have Hh2 := Lib.hid h2; clear h2
        go_wp2_with fail
        refine (under_t s t _ he hs' ht' Hh1.out).mono ?_; rintro e w3 ⟨rfl, hb', he'⟩
        replace hb := hb.trans (hb'.mono hb.size)
        replace he := he'
        clear hb' he'
        go_wp2_with fail
        refine (lower_e s _ he hs').mono ?_; rintro e w4 ⟨rfl, hb', he'⟩
        replace hb := hb.trans (hb'.mono hb.size)
        replace he := he'
        clear hb' he'
        go_wp2_with fail
        refine (lower_e t _ he ht').mono ?_; rintro e w5 ⟨rfl, hb', he'⟩
        replace hb := hb.trans (hb'.mono hb.size)
        replace he := he'
        clear hb' he'
        go_wp2_with fail
        refine (under_t (lowB s) (lowB t) _ he hls hlt (by rw [und_low]; exact Hh1.out)).mono ?_; rintro e w6 ⟨rfl, hb', he'⟩
        replace hb := hb.trans (hb'.mono hb.size)
        replace he := he'
        clear hb' he'
        go_wp2_with fail
        refine (under_t _ t _ he hx ht' (und_x s t)).mono ?_; rintro e w7 ⟨rfl, hb', he'⟩
        replace hb := hb.trans (hb'.mono hb.size)
        replace he := he'
        clear hb' he'
        go_wp2_with fail
        refine (under_t _ u _ he hy hu' (und_x _ u)).mono ?_; rintro e w8 ⟨rfl, hb', he'⟩
        replace hb := hb.trans (hb'.mono hb.size)
        replace he := he'
        clear hb' he'
        go_wp2_with fail
        refine (under_t s t _ he hs' ht' Hh1.out).mono ?_; rintro e w9 ⟨rfl, hb', he'⟩
        replace hb := hb.trans (hb'.mono hb.size)
        replace he := he'
        clear hb' he'
        go_wp2_with fail
        refine (under_f t u _ he ht' hu' Hh2.out).mono ?_; rintro e w10 ⟨rfl, hb', he'⟩
        replace hb := hb.trans (hb'.mono hb.size)
        replace he := he'
        clear hb' he'
        go_wp2_with fail
        refine (right_any s _ (by unfold maxLen; omega)).mono ?_; rintro e w11 ⟨rfl, hw⟩
        rw [hw] at hb he
        clear hw
        go_wp2_with fail
        refine (lower_e s _ he hs').mono ?_; rintro e w12 ⟨rfl, hb', he'⟩
        replace hb := hb.trans (hb'.mono hb.size)
        replace he := he'
        clear hb' he'
        go_wp2_with fail
        refine (right_again s _ (by unfold maxLen; omega)).mono ?_; rintro e w13 ⟨rfl, hw⟩
        rw [hw] at hb he
        clear hw
        go_wp2
        go_ret
        exact ⟨ret_bool (by simp), hb⟩
      · have Hh1 := Lib.hid h1; clear h1
        have Hh2 := Lib.hid h2; clear h2
        have Hh3 := Lib.hid h3; clear h3
        go_wp2_with fail
        refine (under_t s t _ he hs' ht' Hh1.out).mono ?_; rintro e w3 ⟨rfl, hb', he'⟩
        replace hb := hb.trans (hb'.mono hb.size)
        replace he := he'
        clear hb' he'
        go_wp2_with fail
        refine (lower_e s _ he hs').mono ?_; rintro e w4 ⟨rfl, hb', he'⟩
        replace hb := hb.trans (hb'.mono hb.size)
        replace he := he'
        clear hb' he'
        go_wp2_with fail
        refine (lower_e t _ he ht').mono ?_; rintro e w5 ⟨rfl, hb', he'⟩
        replace hb := hb.trans (hb'.mono hb.size)
        replace he := he'
        clear hb' he'
        go_wp2_with fail
        refine (under_t (lowB s) (lowB t) _ he hls hlt (by rw [und_low]; exact Hh1.out)).mono ?_; rintro e w6 ⟨rfl, hb', he'⟩
        replace hb := hb.trans (hb'.mono hb.size)
        replace he := he'
        clear hb' he'
        go_wp2_with fail
        refine (under_t _ t _ he hx ht' (und_x s t)).mono ?_; rintro e w7 ⟨rfl, hb', he'⟩
        replace hb := hb.trans (hb'.mono hb.size)
        replace he := he'
        clear hb' he'
        go_wp2_with fail
        refine (under_t _ u _ he hy hu' (und_x _ u)).mono ?_; rintro e w8 ⟨rfl, hb', he'⟩
        replace hb := hb.trans (hb'.mono hb.size)
        replace he := he'
        clear hb' he'
        go_wp2_with fail
        refine (under_t s t _ he hs' ht' Hh1.out).mono ?_; rintro e w9 ⟨rfl, hb', he'⟩
        replace hb := hb.trans (hb'.mono hb.size)
        replace he := he'
        clear hb' he'
        go_wp2_with fail
        refine (under_t t u _ he ht' hu' Hh2.out).mono ?_; rintro e w10 ⟨rfl, hb', he'⟩
        replace hb := hb.trans (hb'.mono hb.size)
        replace he := he'
        clear hb' he'
        go_wp2_with fail
        refine (under_t s u _ he hs' hu' Hh3.out).mono ?_; rintro e w11 ⟨rfl, hb', he'⟩
        replace hb := hb.trans (hb'.mono hb.size)
        replace he := he'
        clear hb' he'
        go_wp2_with fail
        refine (right_any s _ (by unfold maxLen; omega)).mono ?_; rintro e w12 ⟨rfl, hw⟩
        rw [hw] at hb he
        clear hw
        go_wp2_with fail
        refine (lower_e s _ he hs').mono ?_; rintro e w13 ⟨rfl, hb', he'⟩
        replace hb := hb.trans (hb'.mono hb.size)
        replace he := he'
        clear hb' he'
        go_wp2_with fail
        refine (right_again s _ (by unfold maxLen; omega)).mono ?_; rintro e w14 ⟨rfl, hw⟩
        rw [hw] at hb he
        clear hw
        go_wp2
        go_ret
        exact ⟨ret_bool (by simp), hb⟩
    · go_enter Tryd.func7, Tryd.ntmps7
      go_wp2_with fail
      refine (fit_e w he).mono ?_; rintro e w1 ⟨rfl, hb1, he1⟩
      go_wp2_with fail
      refine (light_3 s t u _ _ hs ht hu (by first | go_simp | simp) (by first | go_simp | simp) (by first | go_simp | simp)).mono ?_; rintro e w2 ⟨rfl, rfl⟩
      rw [decide_eq_true hl]
      go_wp2
      go_ret
      exact ⟨rfl, hb1.alloc hb1.size _⟩
  · go_enter Tryd.func7, Tryd.ntmps7
    go_wp2_with fail
    refine (fit_e w he).mono ?_; rintro e w1 ⟨rfl, hb1, he1⟩
    go_wp2_with fail
    refine (light_3 s t u _ _ hs ht hu (by first | go_simp | simp) (by first | go_simp | simp) (by first | go_simp | simp)).mono ?_; rintro e w2 ⟨rfl, rfl⟩
    rw [decide_eq_false hl]
    go_wp2
    go_ret
    exact ⟨rfl, hb1.alloc hb1.size _⟩
end Go.Proofs.YtpbjijjeglpakaaDoor
