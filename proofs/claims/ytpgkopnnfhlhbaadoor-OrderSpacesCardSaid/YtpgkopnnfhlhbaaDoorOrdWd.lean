/-
  The walks of hosts.Words and of order's words: what they answer. Conditions: the library's variable MaxLen holds some number, and the lengths that each states.
-/
import Derived.Test.YtpgkopnnfhlhbaaDoorOrdFn
import Derived.Test.YtpgkopnnfhlhbaaDoorShelf
import Derived.Lib.FieldsP
import Derived.Lib.SpaceUEq
import Derived.Lib.ReplaceLaws
import Derived.Laws.RangeAny
import Derived.Laws.OwnMore
import Derived.Laws.MakeOwn
import Derived.Laws.IdiomStrings
import Derived.Lib.SlBytesRow
namespace Go.Proofs.YtpgkopnnfhlhbaaDoor
open Go.Lib

theorem size_eq (s : ByteArray) : s.size = s.data.toList.length := Lib.size_eq s
def pSp (r : Nat) : Bool := decide (r = 32) || decide (r = 9)
theorem pSp_high {r : Nat} (h : 128 ≤ r) : pSp r = false := by
  unfold pSp
  rw [decide_eq_false (by omega), decide_eq_false (by omega)]; rfl
theorem pSp_low (c : UInt8) : pSp c.toNat = spc c := by
  have h : ∀ k : Fin 256, pSp (UInt8.ofNat k.val).toNat = spc (UInt8.ofNat k.val) := by decide +kernel
  simpa using h ⟨c.toNat, c.toNat_lt⟩
theorem spc_high {c : UInt8} (h : 128 ≤ c.toNat) : spc c = false := by rw [← pSp_low]; exact pSp_high h
theorem byteF_at (s : ByteArray) (i : Nat) (h : i < s.size) : s.data.toList.getD i 0 = s[i]'h := by
  rw [List.getD_eq_getElem?_getD, Array.getElem?_toList, Array.getElem?_eq_getElem h]; rfl
theorem dropF_at (s : ByteArray) (i : Nat) (h : i < s.size) : s.data.toList.drop i = s[i]'h :: s.data.toList.drop (i + 1) := by
  rw [List.drop_eq_getElem_cons (by rw [← size_eq]; exact h)]; rfl
theorem step_bytes (s : ByteArray) (pos : Nat) (hp : pos < s.size) :
    (pSp (Utf8.decode s pos).1 = true → (Utf8.decode s pos).2 = 1 ∧ spc (s[pos]'hp) = true) ∧ (pSp (Utf8.decode s pos).1 = false → ∀ c ∈ (s.data.toList.drop pos).take (Utf8.decode s pos).2, spc c = false) := by
  by_cases h1 : (s[pos]'hp).toNat < 128
  · rw [decode_ascii s pos hp h1]
    refine ⟨fun h => ⟨rfl, by rw [← pSp_low]; exact h⟩, fun h c hc => ?_⟩
    rw [dropF_at s pos hp] at hc
    simp only [List.take_succ_cons, List.take_zero, List.mem_singleton] at hc
    rw [hc, ← pSp_low]; exact h
  · have hh := (decode_high s pos hp (by omega)).1
    refine ⟨fun h => (by rw [pSp_high hh] at h; cases h), fun _ c hc => ?_⟩
    have hl : s.data.toList.length = s.size := (size_eq s).symm
    have hcs := decodeN_conts (s.data.toList.length - pos) (s.data.toList.getD pos 0).toNat (s.data.toList.getD (pos + 1) 0).toNat (s.data.toList.getD (pos + 2) 0).toNat (s.data.toList.getD (pos + 3) 0).toNat
    rw [← decode_N] at hcs
    obtain ⟨c2, c3, c4, c5⟩ := hcs
    obtain ⟨j, hj, hg⟩ := List.getElem_of_mem hc
    rw [List.length_take, List.length_drop] at hj
    have hcj : c = s.data.toList.getD (pos + j) 0 := by
      rw [← hg, List.getElem_take, List.getElem_drop, List.getD_eq_getElem?_getD, List.getElem?_eq_getElem (by omega)]; rfl
    rw [hcj]
    apply spc_high
    have hj4 : j = 0 ∨ j = 1 ∨ j = 2 ∨ j = 3 := by omega
    rcases hj4 with rfl | rfl | rfl | rfl
    · rw [Nat.add_zero, byteF_at s pos hp]; omega
    · have := (c2 (by omega)).1; omega
    · have := (c3 (by omega)).1; omega
    · have := (c4 (by omega)).1; omega
theorem fields_eq (s : ByteArray) : ∀ (f pos : Nat) (st : Option Nat) (acc : List (Nat × Nat)), s.size ≤ pos + f → pos ≤ s.size → (∀ a, st = some a → a < pos) →
    acc.map (fun p => pieceU s.data.toList p.1 p.2) ++ fw (openPiece s.data.toList st pos) (s.data.toList.drop pos) = (closeSpans s (spansFromP pSp s f pos st acc)).map (fun p => pieceU s.data.toList p.1 p.2)
  | 0, pos, st, acc, h, hp, hst => by
    obtain rfl : pos = s.size := by omega
    have hd : s.data.toList.drop s.size = [] := List.drop_eq_nil_of_le (by rw [← size_eq]; exact Nat.le_refl _)
    rw [hd, fw]
    cases st with
    | none => simp [spansFromP, closeSpans, openPiece]
    | some a =>
      have := pieceU_ne s.data.toList a s.size (hst a rfl) (by rw [← size_eq]; exact Nat.le_refl _)
      simp [spansFromP, closeSpans, openPiece, this]
  | f + 1, pos, st, acc, h, hp, hst => by
    by_cases hlt : pos < s.size
    · have hw := width_pos s pos
      have hwn : pos + (Utf8.decode s pos).2 ≤ s.size := by
        have := decodeN_le_n' (s.size - pos) (s.get! pos).toNat (s.get! (pos + 1)).toNat (s.get! (pos + 2)).toNat (s.get! (pos + 3)).toNat (by omega)
        rw [← decode_at] at this
        omega
      obtain ⟨hy, hn⟩ := step_bytes s pos hlt
      simp only [spansFromP, if_pos hlt]
      cases hsp : pSp (Utf8.decode s pos).1 with
      | true =>
        obtain ⟨hw1, hc⟩ := hy hsp
        rw [dropF_at s pos hlt, fw_space hc, hw1]
        simp only [if_true]
        cases st with
        | none =>
          have ih := fields_eq s f (pos + 1) none acc (by omega) (by omega) (fun a h => by cases h)
          simpa [openPiece] using ih
        | some a =>
          have hpn := pieceU_ne s.data.toList a pos (hst a rfl) (by rw [← size_eq]; omega)
          have ih := fields_eq s f (pos + 1) none (acc ++ [(a, pos)]) (by omega) (by omega) (fun a h => by cases h)
          simpa [openPiece, hpn] using ih
      | false =>
        have hx := hn hsp
        have hsplit : s.data.toList.drop pos = (s.data.toList.drop pos).take (Utf8.decode s pos).2 ++ s.data.toList.drop (pos + (Utf8.decode s pos).2) := by
          conv => lhs; rw [← List.take_append_drop (Utf8.decode s pos).2 (s.data.toList.drop pos), List.drop_drop]
        rw [hsplit, fw_plain _ _ _ hx]
        simp only [Bool.false_eq_true, if_false]
        cases st with
        | none =>
          have ih := fields_eq s f (pos + (Utf8.decode s pos).2) (some pos) acc (by omega) hwn (fun a h => by cases h; omega)
          have e : ([] : List UInt8) ++ (s.data.toList.drop pos).take (Utf8.decode s pos).2 = pieceU s.data.toList pos (pos + (Utf8.decode s pos).2) := by
            unfold pieceU
            rw [List.nil_append, Nat.add_sub_cancel_left]
          simp only [openPiece] at ih ⊢
          rw [e]
          exact ih
        | some a =>
          have ih := fields_eq s f (pos + (Utf8.decode s pos).2) (some a) acc (by omega) hwn (fun b h => by cases h; have := hst a rfl; omega)
          simp only [openPiece] at ih ⊢
          rw [pieceU_grow _ _ _ _ (Nat.le_of_lt (hst a rfl))]
          exact ih
    · obtain rfl : pos = s.size := by omega
      have hd : s.data.toList.drop s.size = [] := List.drop_eq_nil_of_le (by rw [← size_eq]; exact Nat.le_refl _)
      rw [hd, fw, spansFromP_end _ s _ _ _ _ hlt]
      cases st with
      | none => simp [closeSpans, openPiece]
      | some a =>
        have := pieceU_ne s.data.toList a s.size (hst a rfl) (by rw [← size_eq]; exact Nat.le_refl _)
        simp [closeSpans, openPiece, this]
theorem goFields_fw (s : ByteArray) : (goFieldsP pSp s).map (·.data.toList) = fw [] s.data.toList := by
  have h := fields_eq s s.size 0 none [] (by omega) (Nat.zero_le _) (fun a h => by cases h)
  simp only [List.map_nil, List.nil_append, openPiece, List.drop_zero] at h
  unfold goFieldsP spansOfP
  rw [h, List.map_map]
  congr 1
  funext p
  simp [pieceU]
end Go.Proofs.YtpgkopnnfhlhbaaDoor
namespace Go.Proofs.YtpgkopnnfhlhbaaDoor
open Go.RowKit

/-- the library's variable MaxLen holds some number -/
def Env (w : World) : Prop := 0 < w.heap.size ∧ ∃ m : Int, w.cell? ⟨0, 0, none⟩ = some (.int .i64 m)
theorem Env.below {w w' : World} (h : Env w) (hb : Below w.heap.size w w') : Env w' :=
  ⟨Nat.lt_of_lt_of_le h.1 hb.size, h.2.imp fun _ hm => (hb.cell (p := ⟨0, 0, none⟩) h.1).trans hm⟩
/-- block b holds these texts -/
def Strs (w : World) (b : Nat) (xs : List ByteArray) : Prop := b < w.heap.size ∧ ∀ j, j < xs.length → w.cell? ⟨b, 0 + j, none⟩ = some (.string (xs.getD j ByteArray.empty))
theorem Strs.below {w w' : World} {b : Nat} {xs : List ByteArray} (h : Strs w b xs) (hb : Below w.heap.size w w') : Strs w' b xs :=
  ⟨Nat.lt_of_lt_of_le h.1 hb.size, fun j hj => (hb.cell (p := ⟨b, 0 + j, none⟩) h.1).trans (h.2 j hj)⟩
/-- block b holds these texts, and they may be written -/
structure StrsF (w : World) (b : Nat) (xs : List ByteArray) : Prop where
  lt : b < w.heap.size
  cells : ∀ j, j < xs.length → w.cell? ⟨b, j, none⟩ = some (.string (xs.getD j ByteArray.empty))
  free : ∀ j, j < xs.length → w.frozen? ⟨b, j, none⟩ = false
theorem StrsF.strs {w : World} {b : Nat} {xs : List ByteArray} (h : StrsF w b xs) : Strs w b xs := ⟨h.lt, fun j hj => by rw [Nat.zero_add]; exact h.cells j hj⟩
/-- block g begins with these texts, has room for c, and may be written -/
structure Rw (w : World) (g : Nat) (ys : List ByteArray) (c : Nat) : Prop where
  lt : g < w.heap.size
  le : ys.length ≤ c
  cells : ∀ j, j < ys.length → w.cell? ⟨g, j, none⟩ = some (.string (ys.getD j ByteArray.empty))
  there : ∀ j, j < c → (w.cell? ⟨g, j, none⟩).isSome = true ∧ w.frozen? ⟨g, j, none⟩ = false
theorem Rw.of_strs {w : World} {g : Nat} {ys : List ByteArray} (h : StrsF w g ys) : Rw w g ys ys.length :=
  ⟨h.lt, Nat.le_refl _, h.cells, fun j hj => ⟨by rw [h.cells j hj]; rfl, h.free j hj⟩⟩
theorem Rw.strs {w : World} {g : Nat} {ys : List ByteArray} {c : Nat} (h : Rw w g ys c) : StrsF w g ys := ⟨h.lt, h.cells, fun j hj => (h.there j (Nat.lt_of_lt_of_le hj h.le)).2⟩
theorem Rw.below {w w' : World} {g : Nat} {ys : List ByteArray} {c : Nat} (h : Rw w g ys c) (hb : Below w.heap.size w w') : Rw w' g ys c :=
  ⟨Nat.lt_of_lt_of_le h.lt hb.size, h.le, fun j hj => (hb.cell (p := ⟨g, j, none⟩) h.lt).trans (h.cells j hj), fun j hj => by
    rw [hb.cell (p := ⟨g, j, none⟩) h.lt, hb.frozen (p := ⟨g, j, none⟩) h.lt]; exact h.there j hj⟩
theorem Rw.of_own {w : World} {base g n cap : Nat} {ys : List ByteArray} (h : w.ownsRow base 9 1 (.slice (some ⟨g, 0, none⟩) n cap) n (ys.map Value.string)) : Rw w g ys cap ∧ ys.length = n ∧ base ≤ g := by
  obtain ⟨h1, h2⟩ := h
  rw [List.length_map, Nat.mul_one] at h1
  rcases h2 with ⟨e, _⟩ | ⟨g', cap', cur, e, hb, hg, hc, hm, hs, ht⟩
  · cases e
  · injection e with e1 e2 e3
    injection e1 with e1
    injection e1 with e1 _ _
    subst e1
    subst e3
    rw [Nat.mul_one] at ht hs
    refine ⟨⟨(Array.getElem?_eq_some_iff.1 hg).1, by omega, fun j hj => ?_, fun j hj => ?_⟩, h1, hb⟩
    · rw [cell_of_row w g j cur 9 (0, 0) hg, ← Array.getElem?_toList]
      have : (cur.toList.take n)[j]? = some (.string (ys.getD j ByteArray.empty)) := by
        rw [ht, List.getElem?_map, List.getD_eq_getElem?_getD, List.getElem?_eq_getElem hj]; rfl
      rwa [List.getElem?_take_of_lt (by omega)] at this
    · refine ⟨?_, frozen_of_row w g j cur 9 hg⟩
      rw [cell_of_row w g j cur 9 (0, 0) hg, Array.getElem?_eq_getElem (by omega)]; rfl
theorem below_drewQ {B : Nat} {a w : World} (h : Below B a w) (q : Nat) : Below B a (w.drewN q) := ⟨h.os, h.tape, h.output, h.size, h.block⟩
theorem parts_e (r : Nat) (W : World) : Calls Tryd.prog 24 #[.int .i32 r] W fun e w' => e = .returned (.bool (pSp r)) ∧ ∃ q, w' = W.drewN q := by
  have hp : pSp r = (decide (r = 32) || decide (r = 9)) := rfl
  by_cases h1 : r = 32
  · subst h1
    go_enter Tryd.func24, Tryd.ntmps24
    go_wp2
    go_ret
    exact ⟨rfl, 0, rfl⟩
  · by_cases h2 : r = 9
    · subst h2
      go_enter Tryd.func24, Tryd.ntmps24
      go_wp2
      go_ret
      exact ⟨rfl, 0, rfl⟩
    · have z1 : ¬ (r : Int) = 32 := by omega
      have z2 : ¬ (r : Int) = 9 := by omega
      have hx : pSp r = false := by rw [hp, decide_eq_false h1, decide_eq_false h2]; rfl
      rw [hx]
      clear hp h1 h2 hx
      go_enter Tryd.func24, Tryd.ntmps24
      go_wp2
      all_goals go_ret
      all_goals exact ⟨by simp [z1, z2], 0, rfl⟩
theorem partsP_at (w : World) : PredAt Tryd.prog 24 #[] encR pSp w := fun W r _ => parts_e r W
/-- what Words answers -/
def WdPost (w : World) (s : List UInt8) (e : Ending) (w' : World) : Prop :=
  ∃ (b : Nat) (xs : List ByteArray), xs.map (·.data.toList) = wordsL s ∧ e = .returned (.slice (some ⟨b, 0, none⟩) xs.length xs.length) ∧ Strs w' b xs ∧ Below w.heap.size w w'
set_option maxRecDepth 100000 in
set_option maxHeartbeats 1000000 in
theorem words_e (s : ByteArray) (w : World) (he : Env w) (hs : s.size < 4294967281) : Calls Tryd.prog 14 #[.string s] w (WdPost w s.data.toList) := by
  obtain ⟨m, hm⟩ := he.2
  have hcut := Tryd.strings_Cut s ⟨#[35]⟩ m w hs hm
  have ht : (Go.Lib.cut s.data.toList [35]).1 = toldL s.data.toList := (toldL_cut _).symm
  rw [show (ByteArray.mk #[35]).data.toList = [35] from rfl, ht] at hcut
  obtain ⟨t, hte⟩ : ∃ t : ByteArray, t = ⟨(toldL s.data.toList).toArray⟩ := ⟨_, rfl⟩
  rw [← hte] at hcut
  have htd : t.data.toList = toldL s.data.toList := by rw [hte]
  have hts : t.size ≤ 4294967296 := by
    have := toldL_len s.data.toList
    rw [Lib.size_eq, htd]
    rw [Lib.size_eq] at hs
    omega
  have hff := fun W => Tryd.strings_FieldsFunc 24 #[] (enters_of Tryd.func24 (by kernel_rfl) rfl) pSp t W hts (partsP_at W)
  have hw : (Go.Lib.goFieldsP pSp t).map (·.data.toList) = wordsL s.data.toList := by rw [goFields_fw, htd]; rfl
  generalize Go.Lib.goFieldsP pSp t = xs at hff hw
  have HF := Lib.hid hff
  have HW := Lib.hid hw
  clear hff hw hte htd hts hm ht he
  go_enter Tryd.func14, Tryd.ntmps14
  go_wp2_with fail
  refine hcut.mono ?_
  rintro e w1 ⟨rfl, q, rfl⟩
  clear hcut
  go_wp2_with fail
  refine (HF.out _).mono ?_
  rintro e w2 ⟨A, rfl, hA, hown, hb⟩
  have HO := Lib.hid (Rw.of_own hown).1
  have HB := Lib.hid hb
  clear hown hb
  go_wp2
  go_ret
  exact ⟨A, xs, HW.out, rfl, HO.out.strs.strs, (below_drewQ (Below.refl _ w) q).trans HB.out⟩
/-- ReplaceAll of a [ or a ] -/
theorem replace_e (s : ByteArray) (c : UInt8) (w : World) (he : Env w) (hs : s.size ≤ 1000000000) : Calls Tryd.prog 25 #[.string s, .string ⟨#[c]⟩, .string ⟨#[32, c, 32]⟩] w fun e w' => e = .returned (.string (tb (repB c s.data.toList))) ∧ Below w.heap.size w w' := by
  obtain ⟨m, hm⟩ := he.2
  have hcb : Lib.countB s ⟨#[c]⟩ ≤ s.size + 1 := by
    have h : Lib.countB s ⟨#[c]⟩ ≤ s.data.toList.length + 1 := Lib.count_le _ _
    rw [size_eq]; exact h
  have h := Tryd.strings_ReplaceAll s ⟨#[c]⟩ ⟨#[32, c, 32]⟩ m w (by omega) hm (by show 1 ≤ 1; omega) (by
    show s.size + Lib.countB s ⟨#[c]⟩ * 3 ≤ _
    omega)
  have e : Lib.replaceAll s.data.toList (ByteArray.mk #[c]).data.toList (ByteArray.mk #[32, c, 32]).data.toList = repB c s.data.toList := by
    show Lib.replaceAll s.data.toList [c] [32, c, 32] = _
    unfold Lib.replaceAll Lib.replace Lib.replaceNum
    rw [if_neg (by simp), if_pos (.inl (by decide))]
    exact replaceK_rep c _ _ (Nat.le_of_eq (Lib.count_one _ _).symm)
  rw [e] at h
  exact h
theorem words8_e (s : ByteArray) (w : World) (he : Env w) (hs : s.size ≤ 100000000) : Calls Tryd.prog 15 #[.string s] w (WdPost w (apart s.data.toList)) := by
  have h1 := replace_e s 91 w he (by omega)
  have hz1 : (tb (repB 91 s.data.toList)).size ≤ 300000000 := by
    have := repB_len 91 s.data.toList
    rw [size_eq, tb_data]; rw [size_eq] at hs; omega
  have ha : apart s.data.toList = repB 93 (tb (repB 91 s.data.toList)).data.toList := rfl
  rw [ha]
  generalize tb (repB 91 s.data.toList) = t at h1 hz1
  have hz2 : (tb (repB 93 t.data.toList)).size ≤ 900000000 := by
    have := repB_len 93 t.data.toList
    rw [size_eq, tb_data]; rw [size_eq] at hz1; omega
  have h2 := fun W hW => replace_e t 93 W hW (by omega)
  obtain ⟨u, hu⟩ : ∃ u, u = tb (repB 93 t.data.toList) := ⟨_, rfl⟩
  have hud : repB 93 t.data.toList = u.data.toList := by rw [hu, tb_data]
  rw [← hu] at hz2 h2
  rw [hud]
  have H2 := Lib.hid h2
  have HE := Lib.hid he
  have HZ := Lib.hid hz2
  clear h2 ha hu hud hz1 hz2 hs he
  go_enter Tryd.func15, Tryd.ntmps15
  go_wp2_with fail
  refine h1.mono ?_
  rintro e w1 ⟨rfl, hb1⟩
  have he1 := HE.out.below hb1
  have c2 := H2.out w1 he1
  have HB1 := Lib.hid hb1
  have HE1 := Lib.hid he1
  clear h1 hb1 he1
  go_wp2_with fail
  refine c2.mono ?_
  rintro e w2 ⟨rfl, hb2⟩
  have c3 := words_e u w2 (HE1.out.below hb2) (by have := HZ.out; omega)
  have HB2 := Lib.hid (HB1.out.trans (hb2.mono HB1.out.size))
  clear c2 hb2
  go_wp2_with fail
  refine c3.mono ?_
  rintro e w3 ⟨b, xs, hx, rfl, hst, hb3⟩
  have HX := Lib.hid hx
  have HS := Lib.hid hst
  have HB3 := Lib.hid (HB2.out.trans (hb3.mono HB2.out.size))
  clear c3 hx hst hb3
  go_wp2
  go_ret
  exact ⟨b, xs, HX.out, rfl, HS.out, HB3.out⟩
end Go.Proofs.YtpgkopnnfhlhbaaDoor
