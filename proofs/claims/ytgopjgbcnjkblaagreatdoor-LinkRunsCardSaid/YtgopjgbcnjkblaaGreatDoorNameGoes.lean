/-
  The walks of name.isRead, ofWide and goesOut: how a label goes out, and how one with the mark is read, for every text. Conditions: each states its own.
-/
import Derived.Test.YtgopjgbcnjkblaaGreatDoorNameWide
namespace Go.Proofs.YtgopjgbcnjkblaaGreatDoor
open Go.RowKit

theorem own_utf {w : World} {base n : Nat} {v : Value} {xs : List Nat} (h : w.ownsRow base 21 1 v n (rvs xs)) (hv : ∀ r ∈ xs, okR r) : (convert 110 9 v).run Tryz.prog w = .ok (.string ⟨(utf xs).toArray⟩) w := by
  have hl : n = xs.length := by have := h.1; rw [rvs_length] at this; omega
  have hb : runesBytes (xs.map fun (r : Nat) => (r : Int)) = ⟨(utf xs).toArray⟩ := bytes_inj (by rw [runesBytes_utf hv])
  have hrun : ∀ g cap, (∀ j, j < xs.length → w.cell? ⟨g, j, none⟩ = some (.int .i32 (xs.getD j 0 : Nat))) → (convert 110 9 (.slice (some ⟨g, 0, none⟩) n cap)).run Tryz.prog w = .ok (.string ⟨(utf xs).toArray⟩) w := by
    intro g cap hc
    have := run_convert_runes (P := Tryz.prog) w 110 9 21 ⟨g, 0, none⟩ n cap (xs.map fun (r : Nat) => (r : Int)) (by rw [List.length_map]; omega) Tryz.underlying110 Tryz.underlying21 Tryz.underlying9 (fun j hj => by
      rw [List.length_map] at hj
      rw [Addr.add_lit, Nat.zero_add, hc j hj]
      simp [List.getD, List.getElem?_map, List.getElem?_eq_getElem hj])
    rw [List.take_of_length_le (by rw [List.length_map]; omega), hb] at this
    exact this
  rcases Nat.eq_zero_or_pos n with h0 | h0
  · subst h0
    have e : xs = [] := List.length_eq_zero_iff.1 hl.symm
    subst e
    rcases h.2 with ⟨rfl, _⟩ | ⟨g, cap, _, rfl, _⟩
    · exact run_convert_runes_nil w 110 9 21 0 0 Tryz.underlying110 Tryz.underlying21 Tryz.underlying9
    · exact hrun g cap (fun j hj => by simp at hj)
  · obtain ⟨g, cap, rfl, _, hlt⟩ := h.form h0
    exact hrun g cap fun j hj => by rw [h.cellAt j (by omega), rvs_at hj, getD_at hj]

/-- a label with the mark as it is read -/
inductive Ir (P : List UInt8) : Nat → List UInt8 → Prop
  | none (h : ∀ l, ¬ Puny P l) : Ir P 3 []
  | some (l : List Nat) (h : Puny P l) : Ir P 0 (utf l)
theorem extract_mark {s : ByteArray} {P : List UInt8} (h : s.data.toList = XN ++ P) : (s.extract 4 s.size).data.toList = P ∧ 4 ≤ s.size ∧ (s.extract 4 s.size).size = P.length ∧ s.size = P.length + 4 := by
  have h1 : (s.extract 4 s.size).data.toList = P := by
    rw [Lib.extract_to_end, h]; rfl
  have hs := Lib.size_eq s
  rw [h, List.length_append] at hs
  have : (XN).length = 4 := rfl
  exact ⟨h1, by omega, by rw [Lib.size_eq, h1], by omega⟩
set_option maxHeartbeats 1000000 in
theorem isRead_any (s : ByteArray) (P : List UInt8) (w : World) (h : s.data.toList = XN ++ P) (hP : P.length ≤ 63) :
    Calls Tryz.prog 75 #[.string s] w fun e w' => TwoPost (Ir P) w e w' := by
  obtain ⟨h1, h4, h2, h3⟩ := extract_mark h
  have C := decode_any (s.extract 4 s.size) w (by omega)
  have H1 := Lib.hid h1
  have hmax : s.size ≤ 67 := by omega
  clear h h1 h2 h3
  go_enter Tryz.func75, Tryz.ntmps75
  go_wp2_with fail
  refine C.mono ?_
  rintro e w1 (⟨rfl, hb1, hno⟩ | ⟨v, n, l, rfl, hown, hb1, hp⟩)
  · have HN : Hid (Ir P 3 []) := Lib.hid (.none (by rw [← H1.out]; exact hno))
    have hcv := run_convert_runes_nil (P := Tryz.prog) w1 110 9 21 0 0 Tryz.underlying110 Tryz.underlying21 Tryz.underlying9
    have HB := Lib.hid hb1
    clear hno hb1 C
    go_wp2_with fail
    go_ret2
    exact ⟨3, _, rfl, HB.out, HN.out⟩
  · have HN : Hid (Ir P 0 (utf l)) := Lib.hid (.some l (by rw [← H1.out]; exact hp))
    have hcv := own_utf hown hp.valid
    have HB := Lib.hid hb1
    clear hp hb1 C hown
    go_wp2_with fail
    go_ret2
    exact ⟨0, _, rfl, HB.out, HN.out⟩

def OwPost (P : List UInt8) (w : World) (e : Ending) (w' : World) : Prop :=
  ∃ b : Bool, e = .returned (.bool b) ∧ Below w.heap.size w w' ∧ (b = true ↔ ∃ l, NLab l ∧ PunyW P l)
theorem utf_len4 (l : List Nat) : (utf l).length ≤ 4 * l.length := by
  induction l with
  | nil => simp [utf]
  | cons r l ih =>
    have e : utf (r :: l) = u8 r ++ utf l := rfl
    have := u8_length r
    rw [e, List.length_append, List.length_cons]
    omega
set_option maxHeartbeats 1000000 in
theorem ofWide_any (s : ByteArray) (P : List UInt8) (w : World) (h : s.data.toList = XN ++ P) (hr : RightL s.data.toList) (hl : low s.data.toList = s.data.toList) :
    Calls Tryz.prog 65 #[.string s] w fun e w' => OwPost P w e w' := by
  have hP : P.length ≤ 59 := by
    have := hr.len
    rw [h, List.length_append] at this
    have : (XN).length = 4 := rfl
    omega
  have C := isRead_any s P w h (by omega)
  have HS := Lib.hid h
  have HR := Lib.hid hr
  have HL := Lib.hid hl
  clear h hr hl
  go_enter Tryz.func65, Tryz.ntmps65
  go_wp2_with fail
  refine C.mono ?_
  rintro e w1 ⟨n, y, rfl, hb1, hir⟩
  clear C
  obtain ⟨yl, hyl⟩ : ∃ yl, y.data.toList = yl := ⟨_, rfl⟩
  rw [hyl] at hir
  cases hir with
  | none hno =>
    have HN : Hid (false = true ↔ ∃ l, NLab l ∧ PunyW P l) := Lib.hid ⟨(fun h => by cases h), fun ⟨l, _, h⟩ => absurd h.puny (hno l)⟩
    have HB := Lib.hid hb1
    clear hno hb1 hyl
    go_wp2_with fail
    go_ret
    exact ⟨false, rfl, HB.out, HN.out⟩
  | some l hp =>
    obtain ⟨m1, m2, m3⟩ := lab_mark HS.out HR.out HL.out hp
    have hll := hp.length
    have hyz : y.size ≤ 1012 := by rw [Lib.size_eq, hyl]; have := utf_len4 l; omega
    have W := wgo_any y w1 hyz (by rw [hyl]; exact m3) (by rw [hyl]; exact m2)
    rw [hyl] at W
    have HY := Lib.hid hyl
    have HP := Lib.hid hp
    have HM := Lib.hid m1
    clear hyl hp m1 m2 m3
    go_wp2_with fail
    refine W.mono ?_
    rintro e w2 ⟨n2, y2, rfl, hb2, hwg⟩
    clear W
    have HB := Lib.hid (hb1.trans (hb2.mono hb1.size))
    clear hb1 hb2
    obtain ⟨yl2, hyl2⟩ : ∃ yl, y2.data.toList = yl := ⟨_, rfl⟩
    rw [hyl2] at hwg
    cases hwg with
    | wide l' P' hx hl' hp' hs' =>
      obtain rfl := utf_inj HP.out.valid hl'.okR hx
      have hpw := (HM.out hl').1
      obtain rfl := hp'.one hpw
      obtain rfl : y2 = s := bytes_inj (hyl2.trans HS.out.symm)
      have HN : Hid (true = true ↔ ∃ l, NLab l ∧ PunyW P' l) := Lib.hid ⟨fun _ => ⟨_, hl', hpw⟩, fun _ => rfl⟩
      clear hx hl' hp' hs' hyl2 hpw
      go_wp2_with fail
      go_ret
      exact ⟨true, rfl, HB.out, by simpa using HN.out⟩
    | long l' hx hl' hs' =>
      obtain rfl := utf_inj HP.out.valid hl'.okR hx
      have hpw := HM.out hl'
      have := hs' _ hpw.1
      omega
    | wrong hn =>
      have HN : Hid (false = true ↔ ∃ l, NLab l ∧ PunyW P l) := Lib.hid ⟨(fun h => by cases h), fun ⟨l', h1, h2⟩ => by
        obtain rfl := HP.out.det h2.puny
        exact absurd h1 (hn _ rfl)⟩
      clear hn hyl2
      go_wp2_with fail
      go_ret
      exact ⟨false, rfl, HB.out, HN.out⟩

theorem lab_of_wg {x y : List UInt8} {n : Nat} (ha : ¬ asc x) (h : Wg (low x) n y) : Lab x n y := by
  cases h with
  | wide l P hx hl hp hs => exact .wide l P ha hx hl hp hs
  | long l hx hl hs => exact .long l ha hx hl hs
  | wrong hn => exact .wrong ha hn
theorem pre_mark (l : List UInt8) : Lib.hasPrefix l [120, 110, 45, 45] = true ↔ XN <+: l := by
  unfold Lib.hasPrefix
  rw [List.isPrefixOf_iff_prefix]; rfl
set_option maxHeartbeats 1000000 in
theorem goesOut_any (s : ByteArray) (w : World) (hs : s.size ≤ 1012) :
    Calls Tryz.prog 42 #[.string s] w fun e w' => TwoPost (Lab s.data.toList) w e w' := by
  have C1 := lower_any s w (by unfold maxLen; omega)
  have hls : (lowB s).size ≤ 1012 := by rw [lowB_size]; exact hs
  have hld : (lowB s).data.toList = low s.data.toList := lowB_data s
  have HLD := Lib.hid hld
  clear hld
  go_enter Tryz.func42, Tryz.ntmps42
  go_wp2_with fail
  refine C1.mono ?_
  rintro e w1 ⟨rfl, hb1⟩
  clear C1
  have C2 := wide_any (lowB s) w1
  cases hw : wideB (lowB s) with
  | true =>
    rw [hw] at C2
    have ha := wideB_true hw
    have HA := Lib.hid ha
    clear hw ha
    go_wp2_with fail
    refine C2.mono ?_
    rintro e w2 ⟨rfl, hb2⟩
    clear C2
    have C3 := wgo_any (lowB s) w2 hls (by rw [HLD.out]; exact low_no_caps _) HA.out
    go_wp2_with fail
    refine C3.mono ?_
    rintro e w3 ⟨n, y, rfl, hb3, hwg⟩
    clear C3
    have hb12 := hb1.trans (hb2.mono hb1.size)
    have HB := Lib.hid (hb12.trans (hb3.mono hb12.size))
    have HL : Hid (Lab s.data.toList n y.data.toList) := Lib.hid (lab_of_wg (fun h => HA.out (by rw [HLD.out]; exact (asc_low _).2 h)) (by rw [← HLD.out]; exact hwg))
    clear hwg hb1 hb2 hb3 hb12
    go_wp2_with fail
    go_ret2
    exact ⟨n, y, rfl, HB.out, HL.out⟩
  | false =>
    rw [hw] at C2
    have ha := wideB_false hw
    rw [HLD.out] at ha
    have HA := Lib.hid ((asc_low _).1 ha)
    clear hw ha
    go_wp2_with fail
    refine C2.mono ?_
    rintro e w2 ⟨rfl, hb2⟩
    clear C2
    have hb12 := hb1.trans (hb2.mono hb1.size)
    have hsz12 := hb12.size
    have HB12 := Lib.hid hb12
    clear hb1 hb2 hb12
    have C3 := right_any (lowB s) w2 (by unfold maxLen; omega)
    cases hr : rightB (lowB s) with
    | false =>
      rw [hr] at C3
      have HL : Hid (Lab s.data.toList 1 []) := Lib.hid (.bad HA.out fun h => by
        rw [← HLD.out, ← rightB_iff, hr] at h
        cases h)
      clear hr
      go_wp2_with (go_at_call 63; refine C3.mono ?_; rintro e w' ⟨rfl, rfl⟩)
      go_ret2
      exact ⟨1, ⟨#[]⟩, rfl, HB12.out, HL.out⟩
    | true =>
      rw [hr] at C3
      have hR := (rightB_iff _).1 hr
      clear hr
      cases hx : Lib.hasPrefix (lowB s).data.toList [120, 110, 45, 45] with
      | false =>
        have C4 := pre_any (lowB s) ⟨#[120, 110, 45, 45]⟩ false w2 hx
        have HL : Hid (Lab s.data.toList 0 (lowB s).data.toList) := by
          rw [HLD.out] at hR hx ⊢
          exact Lib.hid (.plain HA.out hR fun h => by rw [(pre_mark _).2 h] at hx; cases hx)
        clear hx hR
        go_wp2_with (first
          | (go_at_call 63; refine C3.mono ?_; rintro e w' ⟨rfl, rfl⟩)
          | (go_at_call 64; refine C4.mono ?_; rintro e w' ⟨rfl, rfl⟩))
        go_ret2
        exact ⟨0, lowB s, rfl, HB12.out, HL.out⟩
      | true =>
        have C4 := pre_any (lowB s) ⟨#[120, 110, 45, 45]⟩ true w2 hx
        obtain ⟨P, hP⟩ := (pre_mark _).1 hx
        have C5 := ofWide_any (lowB s) P w2 hP.symm hR (by rw [HLD.out]; exact low_low _)
        rw [HLD.out] at hP hR
        have HP := Lib.hid hP
        have HR := Lib.hid hR
        clear hx hR hP
        go_wp2_with fail
        refine C3.mono ?_; rintro e w' ⟨rfl, rfl⟩
        go_wp2_with fail
        refine C4.mono ?_; rintro e w' ⟨rfl, rfl⟩
        go_wp2_with fail
        refine C5.mono ?_
        rintro e w3 ⟨b, rfl, hb3, hiff⟩
        have HB := Lib.hid (HB12.out.trans (hb3.mono hsz12))
        clear C3 C4 C5 hb3
        cases b with
        | true =>
          have HL : Hid (Lab s.data.toList 0 (lowB s).data.toList) := by
            rw [HLD.out]
            obtain ⟨l, h1, h2⟩ := hiff.1 rfl
            exact Lib.hid (.puny l P HA.out HR.out HP.out.symm h1 h2)
          clear hiff
          go_wp2_with fail
          go_ret2
          exact ⟨0, lowB s, rfl, HB.out, HL.out⟩
        | false =>
          have HL : Hid (Lab s.data.toList 3 []) := Lib.hid (.none HA.out HR.out ⟨P, HP.out⟩ fun l P' h1 h2 h3 => by
            have := HP.out.trans h1
            obtain rfl : P = P' := List.append_cancel_left this
            have := hiff.2 ⟨l, h2, h3⟩
            cases this)
          clear hiff
          go_wp2_with fail
          go_ret2
          exact ⟨3, ⟨#[]⟩, rfl, HB.out, HL.out⟩
end Go.Proofs.YtgopjgbcnjkblaaGreatDoor
