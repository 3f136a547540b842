/-
  The walks of name.wideGoesOut, isRead, ofWide and goesOut: how a label goes out, for every text. Condition: the text has no more bytes than a name may have that is read.
-/
import Derived.Test.YtgopjgbcnjkblaaGreatDoorNameFn
import Derived.Test.YtgopjgbcnjkblaaGreatDoorPunyFns
namespace Go.Proofs.YtgopjgbcnjkblaaGreatDoor
open Go.RowKit

theorem below_iter (w : World) (s : ByteArray) (pos : Nat) : Below w.heap.size w (w.iter s pos) := (Below.refl _ w).alloc (Nat.le_refl _) _
theorem pre_any (s p : ByteArray) (b : Bool) (w : World) (h : Lib.hasPrefix s.data.toList p.data.toList = b) : Calls Tryz.prog 64 #[.string s, .string p] w fun e w' => e = .returned (.bool b) ∧ w = w' :=
  (Tryz.strings_HasPrefix s p w).mono fun _ _ ⟨h1, h2⟩ => ⟨h ▸ h1, h2.symm⟩
theorem suf_any (s p : ByteArray) (b : Bool) (w : World) (hs : s.size ≤ 9223372036854775807) (h : Lib.hasSuffix s.data.toList p.data.toList = b) : Calls Tryz.prog 70 #[.string s, .string p] w fun e w' => e = .returned (.bool b) ∧ w = w' :=
  (Tryz.strings_HasSuffix s p w hs).mono fun _ _ ⟨h1, h2⟩ => ⟨h ▸ h1, h2.symm⟩
theorem pre_dash (l : List UInt8) : Lib.hasPrefix l [45] = true ↔ l.head? = some 45 := by
  cases l with
  | nil => simp [Lib.hasPrefix]
  | cons c l =>
    unfold Lib.hasPrefix
    rw [List.isPrefixOf_iff_prefix]
    constructor
    · rintro ⟨a, ha⟩
      injection ha with h1 _
      rw [← h1]; rfl
    · intro h
      injection h with h
      rw [h]; exact ⟨l, rfl⟩
theorem suf_dash (l : List UInt8) : Lib.hasSuffix l [45] = true ↔ l.getLast? = some 45 := by
  unfold Lib.hasSuffix
  rw [List.isSuffixOf_iff_suffix]
  constructor
  · rintro ⟨a, rfl⟩; simp
  · intro h
    obtain ⟨a, rfl⟩ := List.getLast?_eq_some_iff.1 h
    exact ⟨a, rfl⟩

structure RAt (s : ByteArray) (b pos : Nat) : Prop where
  all : (∀ r ∈ runesN s b pos, stR r) → ∀ r ∈ runesN s s.size 0, stR r
  mem : ∀ r ∈ runesN s b pos, r ∈ runesN s s.size 0
  fuel : s.size ≤ pos + b
theorem RAt.start (s : ByteArray) : RAt s s.size 0 := ⟨fun h => h, fun _ h => h, by omega⟩
theorem RAt.next {s : ByteArray} {b pos : Nat} (h : RAt s (b + 1) pos) (hp : pos < s.size) (hr : stR (Utf8.decode s pos).1) : RAt s b (pos + (Utf8.decode s pos).2) := by
  have e : runesN s (b + 1) pos = (Utf8.decode s pos).1 :: runesN s b (pos + (Utf8.decode s pos).2) := by
    rw [runesN, if_pos hp]
  have h1 := h.all
  have h2 := h.mem
  rw [e] at h1 h2
  refine ⟨fun ha => h1 fun r hm => ?_, fun r hm => h2 r (List.mem_cons_of_mem _ hm), by have := h.fuel; have := width_pos1 s pos hp; omega⟩
  rcases List.mem_cons.1 hm with rfl | hm
  · exact hr
  · exact ha r hm
theorem RAt.bad {s : ByteArray} {b pos : Nat} (h : RAt s (b + 1) pos) (hp : pos < s.size) (hr : ¬ stR (Utf8.decode s pos).1) : ∃ r ∈ runesN s s.size 0, ¬ stR r := by
  have e : runesN s (b + 1) pos = (Utf8.decode s pos).1 :: runesN s b (pos + (Utf8.decode s pos).2) := by
    rw [runesN, if_pos hp]
  exact ⟨_, h.mem _ (by rw [e]; exact List.mem_cons_self), hr⟩
theorem RAt.done {s : ByteArray} {b pos : Nat} (h : RAt s b pos) (hp : ¬ pos < s.size) : ∀ r ∈ runesN s s.size 0, stR r := by
  refine h.all fun r hm => ?_
  cases b with
  | zero => cases hm
  | succ b => rw [runesN, if_neg hp] at hm; cases hm

/-- a label of small letters, some beyond ASCII, as it goes out -/
inductive Wg (x : List UInt8) : Nat → List UInt8 → Prop
  | wide (l : List Nat) (P : List UInt8) (hx : x = utf l) (hl : NLab l) (hp : PunyW P l) (hs : P.length ≤ 59) : Wg x 0 (XN ++ P)
  | long (l : List Nat) (hx : x = utf l) (hl : NLab l) (hs : ∀ P, PunyW P l → 59 < P.length) : Wg x 2 []
  | wrong (hn : ∀ l, x = utf l → ¬ NLab l) : Wg x 1 []
/-- what a call answers that has a text and an error -/
def TwoPost (R : Nat → List UInt8 → Prop) (w : World) (e : Ending) (w' : World) : Prop :=
  ∃ (n : Nat) (y : ByteArray), e = .returned (.tuple #[.string y, .int .i64 n]) ∧ Below w.heap.size w w' ∧ R n y.data.toList
theorem wg_head {s : ByteArray} (h : s.data.toList.head? = some 45) : Wg s.data.toList 1 [] := .wrong fun _ e hl => (nlab_back e hl).2.1 h
theorem wg_last {s : ByteArray} (h : s.data.toList.getLast? = some 45) : Wg s.data.toList 1 [] := .wrong fun _ e hl => (nlab_back e hl).2.2 h
theorem wg_bad {s : ByteArray} (h : ∃ r ∈ runesN s s.size 0, ¬ stR r) : Wg s.data.toList 1 [] := .wrong fun _ e hl => by
  obtain ⟨r, hr, hn⟩ := h
  exact hn ((nlab_back e hl).1 r hr)

set_option maxRecDepth 100000 in
set_option maxHeartbeats 1000000 in
theorem wgo_any (s : ByteArray) (w : World) (hs : s.size ≤ 1012) (hc : ∀ c ∈ s.data.toList, ¬ (65 ≤ c.toNat ∧ c.toNat ≤ 90)) (hw : ¬ asc s.data.toList) :
    Calls Tryz.prog 62 #[.string s] w fun e w' => TwoPost (Wg s.data.toList) w e w' := by
  have HC := Lib.hid hc
  have HW := Lib.hid hw
  clear hc hw
  by_cases h1 : s.data.toList.head? = some 45
  · have HR := Lib.hid (wg_head h1)
    have P1 := pre_any s ⟨#[45]⟩ true w ((pre_dash _).2 h1)
    clear h1
    go_enter Tryz.func62, Tryz.ntmps62
    go_wp2_with (go_at_call 64; refine P1.mono ?_; rintro e w' ⟨rfl, rfl⟩)
    go_ret2
    exact ⟨1, ⟨#[]⟩, rfl, Below.refl _ _, HR.out⟩
  · have P1 := pre_any s ⟨#[45]⟩ false w (by rw [Bool.eq_false_iff]; exact fun e => h1 ((pre_dash _).1 e))
    by_cases h2 : s.data.toList.getLast? = some 45
    · have HR := Lib.hid (wg_last h2)
      have P2 := suf_any s ⟨#[45]⟩ true w (by omega) ((suf_dash _).2 h2)
      clear h1 h2
      go_enter Tryz.func62, Tryz.ntmps62
      go_wp2_with (first
        | (go_at_call 64; refine P1.mono ?_; rintro e w' ⟨rfl, rfl⟩)
        | (go_at_call 70; refine P2.mono ?_; rintro e w' ⟨rfl, rfl⟩))
      go_ret2
      exact ⟨1, ⟨#[]⟩, rfl, Below.refl _ _, HR.out⟩
    · have P2 := suf_any s ⟨#[45]⟩ false w (by omega) (by rw [Bool.eq_false_iff]; exact fun e => h2 ((suf_dash _).1 e))
      have H1 := Lib.hid h1
      have H2 := Lib.hid h2
      clear h1 h2
      go_enter Tryz.func62, Tryz.ntmps62
      go_wp2_with (first
        | (go_at_call 64; refine P1.mono ?_; rintro e w' ⟨rfl, rfl⟩)
        | (go_at_call 70; refine P2.mono ?_; rintro e w' ⟨rfl, rfl⟩))
      clear P1 P2
      go_loopw [5] (fun _ wr => ∃ pos b : Nat, wr = w.iter s pos ∧ RAt s b pos) (fun _ wr => s.size - wr.iterPos w.heap.size)
      case atStart => exact ⟨0, s.size, rfl, RAt.start s⟩
      case round =>
        obtain ⟨pos, b, rfl, hat⟩ := hrel
        by_cases hp : pos < s.size
        · obtain ⟨b, rfl⟩ : ∃ b', b = b' + 1 := ⟨b - 1, by have := hat.fuel; omega⟩
          have hnx := fun ty => run_next_any (P := Tryz.prog) w s pos ty hp
          have hwd := width_pos1 s pos hp
          by_cases hr : stR (Utf8.decode s pos).1
          · have HN := Lib.hid (hat.next hp hr)
            have ST := stands_yes (Utf8.decode s pos).1 (w.iter s (pos + (Utf8.decode s pos).2)) hr
            clear hat hr
            go_wp2_with (go_at_call 71; refine ST.mono ?_; rintro e w' ⟨rfl, rfl⟩)
            go_roundw
            case rel => exact ⟨_, b, rfl, HN.out⟩
            case measure => simp; omega
          · have HB := Lib.hid (wg_bad (hat.bad hp hr))
            have ST := stands_no (Utf8.decode s pos).1 (w.iter s (pos + (Utf8.decode s pos).2)) hr
            clear hat hr
            go_wp2_with (go_at_call 71; refine ST.mono ?_; rintro e w' ⟨rfl, rfl⟩)
            go_ret2
            exact ⟨1, ⟨#[]⟩, rfl, below_iter _ _ _, HB.out⟩
        · have hnx := fun ty => run_next_end (P := Tryz.prog) w s pos ty hp
          obtain ⟨hu, hn⟩ := nlab_of HC.out HW.out (hat.done hp) H1.out H2.out
          obtain ⟨g, cap, W1, hcv, hown, hb⟩ := conv_runes s (w.iter s pos) (by omega)
          have hb1 := Lib.hid ((below_iter w s pos).trans (hb.mono (below_iter w s pos).size))
          have hsz1 := Nat.le_trans (below_iter w s pos).size hb.size
          have hll := runesN_length s s.size 0
          have HO := Lib.hid hown
          have HU := Lib.hid hu
          have HN := Lib.hid hn
          clear hu hn hown hat HC HW hb
          revert hcv HO HU HN hll
          generalize runesN s s.size 0 = L
          intro hcv hll HO HU HN
          by_cases hl : L.length ≤ 63
          · have E := encode_any (some ⟨g, 0, none⟩) L.length cap L W1 rfl hl (own_runes HO.out _ cap rfl) HN.out.okR
            go_wp2_with fail
            refine E.mono ?_; rintro e w2 ⟨t, hpw, hb2, ⟨h63, rfl⟩ | ⟨h63, rfl⟩⟩
            · obtain ⟨y, hy⟩ : ∃ y : ByteArray, y = ⟨t.toArray⟩ := ⟨_, rfl⟩
              have hyl : y.data.toList = t := by rw [hy]
              have hys : y.size = t.length := by rw [Lib.size_eq, hyl]
              rw [← hy]
              have HP := Lib.hid hpw
              have HYL := Lib.hid hyl
              have HB := Lib.hid (hb1.out.trans (hb2.mono hsz1))
              clear hpw hy hyl hb1 hb2 E hcv HO
              by_cases h59 : t.length ≤ 59
              · have HR : Hid (Wg s.data.toList 0 (XN ++ y.data.toList)) := Lib.hid (.wide L _ HU.out HN.out (by rw [HYL.out]; exact HP.out) (by rw [HYL.out]; exact h59))
                have hy59 : y.size ≤ 59 := by omega
                clear hys HYL
                go_wp2_with fail
                go_ret2
                exact ⟨0, _, rfl, HB.out, by rw [ByteArray.data_append, Array.toList_append]; exact HR.out⟩
              · have HR : Hid (Wg s.data.toList 2 []) := Lib.hid (.long L HU.out HN.out fun P hP => by rw [hP.one HP.out]; omega)
                have hy59 : 59 < y.size := by omega
                have hy63 : y.size ≤ 63 := by omega
                clear hys HYL
                go_wp2_with fail
                go_ret2
                exact ⟨2, ⟨#[]⟩, rfl, HB.out, HR.out⟩
            · have HR : Hid (Wg s.data.toList 2 []) := Lib.hid (.long L HU.out HN.out fun P hP => by rw [hP.one hpw]; omega)
              have HB := Lib.hid (hb1.out.trans (hb2.mono hsz1))
              clear hpw hb1 hb2 E hcv HO
              go_wp2_with fail
              go_ret2
              exact ⟨2, ⟨#[]⟩, rfl, HB.out, HR.out⟩
          · have E := encode_long (some ⟨g, 0, none⟩) L.length cap W1 (by omega) (by omega)
            have HR : Hid (Wg s.data.toList 2 []) := Lib.hid (.long L HU.out HN.out fun P hP => by have := (HN.out.puny hP).2.2.2; omega)
            go_wp2_with fail
            refine E.mono ?_; rintro e w2 ⟨rfl, rfl⟩
            clear E hcv HO
            go_wp2_with fail
            go_ret2
            exact ⟨2, ⟨#[]⟩, rfl, hb1.out, HR.out⟩
end Go.Proofs.YtgopjgbcnjkblaaGreatDoor
