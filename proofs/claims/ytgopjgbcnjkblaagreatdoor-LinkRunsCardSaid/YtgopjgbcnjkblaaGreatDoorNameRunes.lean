/-
  Plain facts on a text's runes, no program: a text whose runes may all stand in a label is what they are written as, and is a label just if it begins and ends with none that may not. No condition.
-/
import Derived.Test.YtgopjgbcnjkblaaGreatDoorNameFacts
namespace Go.Proofs.YtgopjgbcnjkblaaGreatDoor

/-- a rune that may stand in a label -/
def stR (r : Nat) : Prop := goodN r ∨ stN r
theorem stR_lt {r : Nat} (h : stR r) : r < 2048 := by unfold stR goodN stN at h; omega
theorem list_get {s : ByteArray} {j : Nat} (h : j < s.size) : s.data.toList[j]? = some (s.get! j) := by
  have h' : j < s.data.size := h
  have : s.get! j = s.data[j]! := rfl
  rw [this, getElem!_pos s.data j h', List.getElem?_eq_getElem (by simpa using h')]
  simp
theorem drop_get {s : ByteArray} {j : Nat} (h : j < s.size) : s.data.toList.drop j = s.get! j :: s.data.toList.drop (j + 1) := by
  have hl : j < s.data.toList.length := by rw [← Lib.size_eq]; exact h
  rw [List.drop_eq_getElem_cons hl]
  have := list_get h
  rw [List.getElem?_eq_getElem hl] at this
  rw [Option.some.inj this]
theorem byte_of {a : UInt8} {n : Nat} (h : a.toNat = n) : UInt8.ofNat n = a := by
  subst h; simp
/-- a rune of one or two bytes is read from just its own bytes -/
theorem decode_back (s : ByteArray) (i : Nat) (hi : i < s.size) (h : (Utf8.decode s i).1 < 2048) : s.data.toList.drop i = u8 (Utf8.decode s i).1 ++ s.data.toList.drop (i + (Utf8.decode s i).2) ∧ i + (Utf8.decode s i).2 ≤ s.size := by
  have hd := Lib.decode_at s i
  have g0 := (s.get! i).toNat_lt
  have g1 := (s.get! (i + 1)).toNat_lt
  by_cases h1 : (s.get! i).toNat < 128
  · have e : Utf8.decode s i = ((s.get! i).toNat, 1) := by rw [hd]; unfold Lib.decodeN; rw [if_pos h1]
    rw [e]
    refine ⟨?_, by simp only; omega⟩
    rw [drop_get hi, u8_low h1, byte_of rfl]; rfl
  · by_cases h2 : (s.get! i).toNat / 32 = 6 ∧ (1 < s.size - i ∧ (s.get! (i + 1)).toNat / 64 = 2)
    · by_cases h3 : (s.get! i).toNat % 32 * 64 + (s.get! (i + 1)).toNat % 64 ≥ 128
      · have e : Utf8.decode s i = ((s.get! i).toNat % 32 * 64 + (s.get! (i + 1)).toNat % 64, 2) := by
          rw [hd]; unfold Lib.decodeN; rw [if_neg h1, if_pos h2, if_pos h3]
        rw [e]
        refine ⟨?_, by simp only; omega⟩
        simp only
        rw [drop_get hi, drop_get (j := i + 1) (by omega)]
        unfold u8
        rw [if_neg (by omega), if_pos (by omega), byte_of (a := s.get! i) (by omega), byte_of (a := s.get! (i + 1)) (by omega)]; rfl
      · exfalso
        rw [hd] at h; unfold Lib.decodeN at h; rw [if_neg h1, if_pos h2, if_neg h3] at h
        simp at h
    · exfalso
      rw [hd] at h; unfold Lib.decodeN at h; rw [if_neg h1, if_neg h2] at h
      split at h
      · split at h
        · rename_i h4; simp only at h; omega
        · simp at h
      · split at h
        · split at h
          · rename_i h4; simp only at h; omega
          · simp at h
        · simp at h
theorem width_pos1 (s : ByteArray) (pos : Nat) (h : pos < s.size) : 1 ≤ (Utf8.decode s pos).2 := by
  by_cases ha : (s[pos]'h).toNat < 128
  · rw [decode_ascii s pos h ha]
    exact Nat.le_refl _
  · exact (decode_high s pos h (by omega)).2
theorem utf_runesN (s : ByteArray) : ∀ (b i : Nat), (∀ r ∈ runesN s b i, r < 2048) → s.size ≤ i + b → utf (runesN s b i) = s.data.toList.drop i
  | 0, i, _, hb => by rw [List.drop_of_length_le (by rw [← Lib.size_eq]; omega)]; rfl
  | b + 1, i, h, hb => by
    unfold runesN at h ⊢
    by_cases hi : i < s.size
    · rw [if_pos hi] at h ⊢
      obtain ⟨h1, _⟩ := decode_back s i hi (h _ List.mem_cons_self)
      have hw := width_pos1 s i hi
      have ih := utf_runesN s b (i + (Utf8.decode s i).2) (fun r hr => h r (List.mem_cons_of_mem _ hr)) (by omega)
      have e : ∀ (r : Nat) (l : List Nat), utf (r :: l) = u8 r ++ utf l := fun _ _ => rfl
      rw [e, ih, ← h1]
    · rw [if_neg hi, List.drop_of_length_le (by rw [← Lib.size_eq]; omega)]; rfl
theorem utf_all {s : ByteArray} (h : ∀ r ∈ runesN s s.size 0, r < 2048) : utf (runesN s s.size 0) = s.data.toList := by
  rw [utf_runesN s s.size 0 h (by omega)]; simp
theorem runesN_of {s : ByteArray} {l : List Nat} (h : s.data.toList = utf l) (hl : ∀ r ∈ l, okR r) : runesN s s.size 0 = l :=
  runesN_utf s l [] s.size hl (by simpa using h) (by simp)
theorem u8_head {r : Nat} (h : r < 2048) : (u8 r).head? = some 45 ↔ r = 45 := by
  unfold u8
  have e45 : (45 : UInt8).toNat = 45 := rfl
  by_cases h1 : r < 128
  · rw [if_pos h1, List.head?_cons, Option.some.injEq]
    constructor
    · intro e
      have := congrArg UInt8.toNat e
      rw [nat8 (by omega)] at this; omega
    · rintro rfl; rfl
  · rw [if_neg h1, if_pos h, List.head?_cons, Option.some.injEq]
    constructor
    · intro e
      have := congrArg UInt8.toNat e
      rw [nat8 (by omega)] at this; omega
    · intro e; omega
theorem u8_last {r : Nat} (h : r < 2048) : (u8 r).getLast? = some 45 ↔ r = 45 := by
  unfold u8
  have e45 : (45 : UInt8).toNat = 45 := rfl
  by_cases h1 : r < 128
  · rw [if_pos h1, List.getLast?_singleton, Option.some.injEq]
    constructor
    · intro e
      have := congrArg UInt8.toNat e
      rw [nat8 (by omega)] at this; omega
    · rintro rfl; rfl
  · rw [if_neg h1, if_pos h, List.getLast?_cons_cons, List.getLast?_singleton, Option.some.injEq]
    constructor
    · intro e
      have := congrArg UInt8.toNat e
      rw [nat8 (by omega)] at this; omega
    · intro e; omega
theorem u8_ne (r : Nat) : u8 r ≠ [] := fun e => by
  have := u8_length r
  rw [e] at this; simp at this
theorem utf_head {l : List Nat} (h : ∀ r ∈ l, r < 2048) : (utf l).head? = some 45 ↔ l.head? = some 45 := by
  cases l with
  | nil => simp [utf]
  | cons r l =>
    have e : utf (r :: l) = u8 r ++ utf l := rfl
    have h1 := u8_head (h r List.mem_cons_self)
    rw [e, List.head?_append]
    cases hq : (u8 r).head? with
    | none => exact absurd (List.head?_eq_none_iff.1 hq) (u8_ne r)
    | some q =>
      rw [hq] at h1
      simp only [Option.some_or, h1, List.head?_cons, Option.some.injEq]
theorem utf_append (a b : List Nat) : utf (a ++ b) = utf a ++ utf b := by unfold utf; rw [List.flatMap_append]
theorem utf_last {l : List Nat} (h : ∀ r ∈ l, r < 2048) : (utf l).getLast? = some 45 ↔ l.getLast? = some 45 := by
  rcases List.eq_nil_or_concat l with rfl | ⟨l', r, rfl⟩
  · simp [utf]
  · rw [List.concat_eq_append] at h ⊢
    have e : utf [r] = u8 r := by unfold utf; simp
    rw [utf_append, e, List.getLast?_append, List.getLast?_append]
    have h1 := u8_last (h r (by simp))
    cases hq : (u8 r).getLast? with
    | none => exact absurd (List.getLast?_eq_none_iff.1 hq) (u8_ne r)
    | some q =>
      rw [hq] at h1
      simp only [Option.some_or, List.getLast?_singleton, h1, Option.some.injEq]
/-- a text without capitals, some of it beyond ASCII: a label just if its runes may stand, and neither end is - -/
theorem nlab_of {s : ByteArray} (hc : ∀ c ∈ s.data.toList, ¬ (65 ≤ c.toNat ∧ c.toNat ≤ 90)) (hw : ¬ asc s.data.toList) (h : ∀ r ∈ runesN s s.size 0, stR r) (h1 : s.data.toList.head? ≠ some 45) (h2 : s.data.toList.getLast? ≠ some 45) :
    s.data.toList = utf (runesN s s.size 0) ∧ NLab (runesN s s.size 0) := by
  have hlt : ∀ r ∈ runesN s s.size 0, r < 2048 := fun r hr => stR_lt (h r hr)
  have hu := utf_all hlt
  refine ⟨hu.symm, ?_, ?_, ?_, ?_, ?_⟩
  · have : ∃ c ∈ s.data.toList, 128 ≤ c.toNat := Classical.byContradiction fun hn => hw fun c hc => Nat.lt_of_not_le fun hge => hn ⟨c, hc, hge⟩
    obtain ⟨c, hc, hge⟩ := this
    rw [← hu] at hc
    obtain ⟨r, hr, hcr⟩ := mem_utf hc
    refine ⟨r, hr, Nat.le_of_not_lt fun hl => ?_⟩
    rw [u8_low hl] at hcr
    rw [List.mem_singleton.1 hcr, nat8 (by omega)] at hge
    omega
  · intro r hr hl
    have hs := h r hr
    refine ⟨?_, fun hcap => ?_⟩
    · rcases hs with hs | hs
      · unfold goodN at hs; omega
      · exact hs
    · refine hc (UInt8.ofNat r) ?_ (by rw [nat8 (by omega)]; exact hcap)
      rw [← hu]
      exact List.mem_flatMap.2 ⟨r, hr, by rw [u8_low hl]; simp⟩
  · intro r hr hge
    rcases h r hr with hs | hs
    · exact hs
    · have := stN_lt hs; omega
  · rw [Ne, ← utf_head hlt, hu]; exact h1
  · rw [Ne, ← utf_last hlt, hu]; exact h2
theorem nlab_back {s : ByteArray} {l : List Nat} (h : s.data.toList = utf l) (hl : NLab l) : (∀ r ∈ runesN s s.size 0, stR r) ∧ s.data.toList.head? ≠ some 45 ∧ s.data.toList.getLast? ≠ some 45 := by
  rw [runesN_of h hl.okR]
  refine ⟨fun r hr => ?_, ?_, ?_⟩
  · rcases Nat.lt_or_ge r 128 with h1 | h1
    · exact .inr (hl.small r hr h1).1
    · exact .inl (hl.high r hr h1)
  · rw [h, Ne, utf_head hl.le]; exact hl.head
  · rw [h, Ne, utf_last hl.le]; exact hl.last
theorem u8_all_high {r : Nat} (h : 128 ≤ r) (h2 : r ≤ 1114111) : ∀ c ∈ u8 r, 128 ≤ c.toNat := fun c hc => by
  unfold u8 at hc
  rw [if_neg (by omega)] at hc
  split at hc
  · rcases List.mem_cons.1 hc with rfl | hc
    · rw [nat8 (by omega)]; omega
    · rw [List.mem_singleton.1 hc, nat8 (by omega)]; omega
  · split at hc
    · rcases List.mem_cons.1 hc with rfl | hc
      · rw [nat8 (by omega)]; omega
      · rcases List.mem_cons.1 hc with rfl | hc
        · rw [nat8 (by omega)]; omega
        · rw [List.mem_singleton.1 hc, nat8 (by omega)]; omega
    · rcases List.mem_cons.1 hc with rfl | hc
      · rw [nat8 (by omega)]; omega
      · rcases List.mem_cons.1 hc with rfl | hc
        · rw [nat8 (by omega)]; omega
        · rcases List.mem_cons.1 hc with rfl | hc
          · rw [nat8 (by omega)]; omega
          · rw [List.mem_singleton.1 hc, nat8 (by omega)]; omega
/-- what is read behind xn-- of a label that may be, small: some rune beyond ASCII, no capital -/
theorem puny_wide {P : List UInt8} {l : List Nat} (h : Puny P l) (h0 : P ≠ []) (h1 : P.getLast? ≠ some 45) (hc : ∀ c ∈ P, ¬ (65 ≤ c.toNat ∧ c.toNat ≤ 90)) :
    ¬ asc (utf l) ∧ ∀ c ∈ utf l, ¬ (65 ≤ c.toNat ∧ c.toNat ≤ 90) := by
  have hv := h.valid
  obtain ⟨bs, ds, e1, e2, e3, e4⟩ := h
  have hlow := e4.low 128 (Nat.le_refl _)
  have hf : (bs.map (·.toNat)).filter (· < 128) = bs.map (·.toNat) := filter_all fun r hr => by
    obtain ⟨c, hc, rfl⟩ := List.mem_map.1 hr; exact e3 c hc
  rw [hf] at hlow
  have hne : ds ≠ [] := by
    rintro rfl
    unfold shp at e1
    split at e1
    · exact h0 e1
    · rw [e1] at h1
      simp at h1
  have hmore := e4.more (by simpa using hne)
  obtain ⟨r, hr, hge⟩ : ∃ r ∈ l, 128 ≤ r := exists_ge (by rw [hlow]; exact hmore)
  constructor
  · intro ha
    have hl := u8_length r
    obtain ⟨c, hcr⟩ := List.exists_mem_of_length_pos (show 0 < (u8 r).length by omega)
    have h2 := u8_all_high hge (okR_le (hv r hr)) c hcr
    have := ha c (List.mem_flatMap.2 ⟨r, hr, hcr⟩)
    omega
  · intro c hcu
    obtain ⟨r, hr, hcr⟩ := mem_utf hcu
    rcases Nat.lt_or_ge r 128 with h2 | h2
    · rw [u8_low h2] at hcr
      have hm : r ∈ l.filter (· < 128) := List.mem_filter.2 ⟨hr, by simpa using h2⟩
      rw [hlow] at hm
      obtain ⟨b, hb, rfl⟩ := List.mem_map.1 hm
      rw [List.mem_singleton.1 hcr, nat8 (by omega)]
      refine hc b ?_
      rw [e1]; unfold shp
      split
      · rename_i h3; rw [h3] at hb; cases hb
      · exact List.mem_append_left _ hb
    · have := u8_all_high h2 (okR_le (hv r hr)) c hcr
      omega
/-- a label with the mark, as it may be, small, goes out as it is just if the runes that stand behind the mark are a label's -/
theorem lab_mark {s P : List UInt8} {l : List Nat} (hs : s = XN ++ P) (hr : RightL s) (hl : low s = s) (hp : Puny P l) : (NLab l → PunyW P l ∧ P.length ≤ 59) ∧ ¬ asc (utf l) ∧ (∀ c ∈ utf l, ¬ (65 ≤ c.toNat ∧ c.toNat ≤ 90)) := by
  have hcap : ∀ c ∈ P, ¬ (65 ≤ c.toNat ∧ c.toNat ≤ 90) := fun c hc => by
    have := low_no_caps s c
    rw [hl] at this
    exact this (by rw [hs]; exact List.mem_append_right _ hc)
  have hP : P ≠ [] := by
    rintro rfl
    have := hr.last
    rw [hs] at this
    exact this rfl
  have hlast : P.getLast? ≠ some 45 := fun e => hr.last (by rw [hs, List.getLast?_append, e]; rfl)
  have hlen := hr.len
  rw [hs, List.length_append] at hlen
  have : (XN).length = 4 := rfl
  obtain ⟨w1, w2⟩ := puny_wide hp hP hlast hcap
  exact ⟨fun _ => ⟨hp.low hcap, by omega⟩, w1, w2⟩
end Go.Proofs.YtgopjgbcnjkblaaGreatDoor
