/-
  Plain facts on names as they go out and as they are read, in the document's words, no program: labels, whole names, and that a name that goes out is read, and goes out again, as it was. No condition.
-/
import Derived.Test.YtgopjgbcnjkblaaGreatDoorMath
import Derived.Test.YtgopjgbcnjkblaaGreatDoorUtf
import Derived.Test.YtgopjgbcnjkblaaGreatDoorPunyFacts
namespace Go.Proofs.YtgopjgbcnjkblaaGreatDoor

/-- a byte that stands in a label -/
def stN (n : Nat) : Prop := (65 ≤ n ∧ n ≤ 90) ∨ (97 ≤ n ∧ n ≤ 122) ∨ (48 ≤ n ∧ n ≤ 57) ∨ n = 45 ∨ n = 95
/-- a rune beyond ASCII that may stand in a label -/
def goodN (r : Nat) : Prop := (223 ≤ r ∧ r ≤ 255 ∧ r ≠ 247) ∨ (256 ≤ r ∧ r ≤ 311 ∧ r % 2 = 1) ∨ (945 ≤ r ∧ r ≤ 969) ∨ (1072 ≤ r ∧ r ≤ 1119)
/-- a label that may be -/
structure RightL (l : List UInt8) : Prop where
  pos : 1 ≤ l.length
  len : l.length ≤ 63
  all : ∀ c ∈ l, stN c.toNat
  head : l.head? ≠ some 45
  last : l.getLast? ≠ some 45
def asc (l : List UInt8) : Prop := ∀ c ∈ l, c.toNat < 128
def XN : List UInt8 := [120, 110, 45, 45]
/-- the runes of a label with some beyond ASCII, small -/
structure NLab (l : List Nat) : Prop where
  wide : ∃ r ∈ l, 128 ≤ r
  small : ∀ r ∈ l, r < 128 → stN r ∧ ¬ (65 ≤ r ∧ r ≤ 90)
  high : ∀ r ∈ l, 128 ≤ r → goodN r
  head : l.head? ≠ Option.some 45
  last : l.getLast? ≠ Option.some 45
theorem NLab.okR {l : List Nat} (h : NLab l) : ∀ r ∈ l, okR r := fun r hr => by
  rcases Nat.lt_or_ge r 128 with h1 | h1
  · exact .inl (by omega)
  · have := h.high r hr h1
    unfold goodN at this
    exact .inl (by omega)
theorem NLab.le {l : List Nat} (h : NLab l) : ∀ r ∈ l, r < 2048 := fun r hr => by
  rcases Nat.lt_or_ge r 128 with h1 | h1
  · omega
  · have := h.high r hr h1
    unfold goodN at this
    omega

/-- a label as it goes out: the error's number, and the label -/
inductive Lab (x : List UInt8) : Nat → List UInt8 → Prop
  | plain (ha : asc x) (hr : RightL (low x)) (hx : ¬ XN <+: low x) : Lab x 0 (low x)
  | puny (l : List Nat) (P : List UInt8) (ha : asc x) (hr : RightL (low x)) (hx : low x = XN ++ P) (hl : NLab l) (hp : PunyW P l) : Lab x 0 (low x)
  | bad (ha : asc x) (hr : ¬ RightL (low x)) : Lab x 1 []
  | none (ha : asc x) (hr : RightL (low x)) (hx : XN <+: low x) (hn : ∀ l P, low x = XN ++ P → NLab l → ¬ PunyW P l) : Lab x 3 []
  | wide (l : List Nat) (P : List UInt8) (ha : ¬ asc x) (hx : low x = utf l) (hl : NLab l) (hp : PunyW P l) (hs : P.length ≤ 59) : Lab x 0 (XN ++ P)
  | long (l : List Nat) (ha : ¬ asc x) (hx : low x = utf l) (hl : NLab l) (hs : ∀ P, PunyW P l → 59 < P.length) : Lab x 2 []
  | wrong (ha : ¬ asc x) (hn : ∀ l, low x = utf l → ¬ NLab l) : Lab x 1 []
theorem Lab.det {x y y' : List UInt8} {e e' : Nat} (h : Lab x e y) (h' : Lab x e' y') : e = e' ∧ y = y' := by
  cases h with
  | plain ha hr hx =>
    cases h' with
    | plain => exact ⟨rfl, rfl⟩
    | puny => exact ⟨rfl, rfl⟩
    | bad _ hr' => exact absurd hr hr'
    | none _ _ hx' => exact absurd hx' hx
    | wide _ _ ha' => exact absurd ha ha'
    | long _ ha' => exact absurd ha ha'
    | wrong ha' => exact absurd ha ha'
  | puny l P ha hr hx hl hp =>
    cases h' with
    | plain => exact ⟨rfl, rfl⟩
    | puny => exact ⟨rfl, rfl⟩
    | bad _ hr' => exact absurd hr hr'
    | none _ _ _ hn => exact absurd hp (hn l P hx hl)
    | wide _ _ ha' => exact absurd ha ha'
    | long _ ha' => exact absurd ha ha'
    | wrong ha' => exact absurd ha ha'
  | bad ha hr =>
    cases h' with
    | plain _ hr' => exact absurd hr' hr
    | puny _ _ _ hr' => exact absurd hr' hr
    | bad => exact ⟨rfl, rfl⟩
    | none _ hr' => exact absurd hr' hr
    | wide _ _ ha' => exact absurd ha ha'
    | long _ ha' => exact absurd ha ha'
    | wrong ha' => exact absurd ha ha'
  | none ha hr hx hn =>
    cases h' with
    | plain _ _ hx' => exact absurd hx hx'
    | puny l P _ _ hx' hl hp => exact absurd hp (hn l P hx' hl)
    | bad _ hr' => exact absurd hr hr'
    | none => exact ⟨rfl, rfl⟩
    | wide _ _ ha' => exact absurd ha ha'
    | long _ ha' => exact absurd ha ha'
    | wrong ha' => exact absurd ha ha'
  | wide l P ha hx hl hp hs =>
    cases h' with
    | plain ha' => exact absurd ha' ha
    | puny _ _ ha' => exact absurd ha' ha
    | bad ha' => exact absurd ha' ha
    | none ha' => exact absurd ha' ha
    | wide l' P' _ hx' hl' hp' _ =>
      obtain rfl := utf_inj hl.okR hl'.okR (hx.symm.trans hx')
      rw [hp.one hp']
      exact ⟨rfl, rfl⟩
    | long l' _ hx' hl' hs' =>
      obtain rfl := utf_inj hl.okR hl'.okR (hx.symm.trans hx')
      have := hs' _ hp
      omega
    | wrong _ hn => exact absurd hl (hn l hx)
  | long l ha hx hl hs =>
    cases h' with
    | plain ha' => exact absurd ha' ha
    | puny _ _ ha' => exact absurd ha' ha
    | bad ha' => exact absurd ha' ha
    | none ha' => exact absurd ha' ha
    | wide l' P' _ hx' hl' hp' hs' =>
      obtain rfl := utf_inj hl.okR hl'.okR (hx.symm.trans hx')
      have := hs _ hp'
      omega
    | long => exact ⟨rfl, rfl⟩
    | wrong _ hn => exact absurd hl (hn l hx)
  | wrong ha hn =>
    cases h' with
    | plain ha' => exact absurd ha' ha
    | puny _ _ ha' => exact absurd ha' ha
    | bad ha' => exact absurd ha' ha
    | none ha' => exact absurd ha' ha
    | wide l' _ _ hx' hl' => exact absurd hl' (hn l' hx')
    | long l' _ hx' hl' => exact absurd hl' (hn l' hx')
    | wrong => exact ⟨rfl, rfl⟩

theorem lowc_high {b : UInt8} (h : 128 ≤ b.toNat) : lowc b = b := by
  have : ∀ k : Fin 256, 128 ≤ k.val → lowc (UInt8.ofNat k.val) = UInt8.ofNat k.val := by decide +kernel
  have := this ⟨b.toNat, b.toNat_lt⟩ h
  simpa using this
theorem lowc_small {b : UInt8} (h : ¬ (65 ≤ b.toNat ∧ b.toNat ≤ 90)) : lowc b = b := by
  have : ∀ k : Fin 256, ¬ (65 ≤ k.val ∧ k.val ≤ 90) → lowc (UInt8.ofNat k.val) = UInt8.ofNat k.val := by decide +kernel
  have := this ⟨b.toNat, b.toNat_lt⟩ h
  simpa using this
theorem low_same {l : List UInt8} (h : ∀ c ∈ l, ¬ (65 ≤ c.toNat ∧ c.toNat ≤ 90)) : low l = l := by
  unfold low
  conv => rhs; rw [← List.map_id l]
  exact List.map_congr_left fun c hc => lowc_small (h c hc)
theorem low_no_caps (l : List UInt8) : ∀ c ∈ low l, ¬ (65 ≤ c.toNat ∧ c.toNat ≤ 90) := fun c hc => by
  unfold low at hc
  obtain ⟨b, _, rfl⟩ := List.mem_map.1 hc
  have : ∀ k : Fin 256, ¬ (65 ≤ (lowc (UInt8.ofNat k.val)).toNat ∧ (lowc (UInt8.ofNat k.val)).toNat ≤ 90) := by decide +kernel
  have := this ⟨b.toNat, b.toNat_lt⟩
  simpa using this
theorem lowc_asc (b : UInt8) : (lowc b).toNat < 128 ↔ b.toNat < 128 := by
  have : ∀ k : Fin 256, (lowc (UInt8.ofNat k.val)).toNat < 128 ↔ k.val < 128 := by decide +kernel
  have := this ⟨b.toNat, b.toNat_lt⟩
  simpa using this
theorem asc_low (l : List UInt8) : asc (low l) ↔ asc l := by
  unfold asc low
  constructor
  · intro h c hc
    exact (lowc_asc c).1 (h _ (List.mem_map_of_mem hc))
  · intro h c hc
    obtain ⟨b, hb, rfl⟩ := List.mem_map.1 hc
    exact (lowc_asc b).2 (h b hb)
/-- the bytes of a rune beyond ASCII are beyond it all -/
theorem u8_high {r : Nat} (h : 128 ≤ r) (h2 : r < 2048) : ∀ c ∈ u8 r, 128 ≤ c.toNat := fun c hc => by
  unfold u8 at hc
  rw [if_neg (by omega), if_pos h2] at hc
  rcases List.mem_cons.1 hc with rfl | hc
  · rw [nat8 (by omega)]; omega
  · rw [List.mem_singleton.1 hc, nat8 (by omega)]; omega
theorem u8_low {r : Nat} (h : r < 128) : u8 r = [UInt8.ofNat r] := by unfold u8; rw [if_pos h]
theorem mem_utf {l : List Nat} {c : UInt8} (h : c ∈ utf l) : ∃ r ∈ l, c ∈ u8 r := by
  unfold utf at h
  obtain ⟨r, hr, hc⟩ := List.mem_flatMap.1 h
  exact ⟨r, hr, hc⟩
theorem NLab.no_caps {l : List Nat} (h : NLab l) : ∀ c ∈ utf l, ¬ (65 ≤ c.toNat ∧ c.toNat ≤ 90) := fun c hc => by
  obtain ⟨r, hr, hc⟩ := mem_utf hc
  rcases Nat.lt_or_ge r 128 with h1 | h1
  · rw [u8_low h1] at hc
    rw [List.mem_singleton.1 hc, nat8 (by omega)]
    exact (h.small r hr h1).2
  · have := u8_high h1 (h.le r hr) c hc; omega
theorem NLab.no_point {l : List Nat} (h : NLab l) : (46 : UInt8) ∉ utf l := fun hc => by
  obtain ⟨r, hr, hc⟩ := mem_utf hc
  rcases Nat.lt_or_ge r 128 with h1 | h1
  · rw [u8_low h1] at hc
    have e := congrArg UInt8.toNat (List.mem_singleton.1 hc)
    rw [nat8 (by omega)] at e
    have e46 : (46 : UInt8).toNat = 46 := rfl
    have := (h.small r hr h1).1
    unfold stN at this
    omega
  · have := u8_high h1 (h.le r hr) _ hc
    have e46 : (46 : UInt8).toNat = 46 := rfl
    omega
theorem NLab.not_asc {l : List Nat} (h : NLab l) : ¬ asc (utf l) := fun ha => by
  obtain ⟨r, hr, h1⟩ := h.wide
  have hl := u8_length r
  obtain ⟨c, hc⟩ := List.exists_mem_of_length_pos (show 0 < (u8 r).length by omega)
  have h2 := u8_high h1 (h.le r hr) c hc
  have := ha c (List.mem_flatMap.2 ⟨r, hr, hc⟩)
  omega
theorem utf_len {l : List Nat} (h : ∀ r ∈ l, r < 2048) : (utf l).length ≤ 2 * l.length := by
  induction l with
  | nil => simp [utf]
  | cons r l ih =>
    have := ih fun x hx => h x (List.mem_cons_of_mem _ hx)
    have e : utf (r :: l) = u8 r ++ utf l := rfl
    rw [e, List.length_append, List.length_cons]
    have h2 : (u8 r).length ≤ 2 := by
      unfold u8
      have := h r List.mem_cons_self
      by_cases h1 : r < 128
      · rw [if_pos h1]; simp
      · rw [if_neg h1, if_pos this]; simp
    omega
theorem utf_pos {l : List Nat} (h : l ≠ []) : utf l ≠ [] := by
  cases l with
  | nil => exact absurd rfl h
  | cons r l =>
    have e : utf (r :: l) = u8 r ++ utf l := rfl
    rw [e]
    intro e2
    have h1 := congrArg List.length e2
    have h2 := u8_length r
    rw [List.length_append, List.length_nil] at h1
    omega
/-- the Punycode of a label with runes beyond ASCII: its signs, and that it ends with a digit -/
theorem NLab.puny {l : List Nat} {P : List UInt8} (h : NLab l) (hp : PunyW P l) : (∀ c ∈ P, stN c.toNat ∧ ¬ (65 ≤ c.toNat ∧ c.toNat ≤ 90)) ∧ P.getLast? ≠ some 45 ∧ P ≠ [] ∧ l.length ≤ P.length := by
  have hlen := hp.puny.length
  obtain ⟨bs, ds, h1, h2, h3, h4⟩ := hp
  have hne : ds ≠ [] := by
    rintro rfl
    cases h4 with
    | stop =>
      obtain ⟨r, hr, hge⟩ := h.wide
      obtain ⟨c, hc, rfl⟩ := List.mem_map.1 hr
      have := h3 c hc
      omega
    | step _ _ _ _ _ _ _ _ h => simp [rd] at h
  have hsg : ∀ d < 36, stN (sg d).toNat ∧ ¬ (65 ≤ (sg d).toNat ∧ (sg d).toNat ≤ 90) := fun d hd => by
    have : ∀ k : Fin 36, ((97 ≤ (sg k.val).toNat ∧ (sg k.val).toNat ≤ 122) ∨ (48 ≤ (sg k.val).toNat ∧ (sg k.val).toNat ≤ 57)) := by decide +kernel
    have := this ⟨d, hd⟩
    simp only at this
    unfold stN
    omega
  have hds : ∀ c ∈ ds.map sg, (stN c.toNat ∧ ¬ (65 ≤ c.toNat ∧ c.toNat ≤ 90)) ∧ c ≠ 45 := fun c hc => by
    obtain ⟨d, hd, rfl⟩ := List.mem_map.1 hc
    exact ⟨hsg d (h2 d hd), sg_ne (h2 d hd)⟩
  have hbs : ∀ c ∈ bs, stN c.toNat ∧ ¬ (65 ≤ c.toNat ∧ c.toNat ≤ 90) := fun c hc => by
    have hm : c.toNat ∈ l := by
      have e := h4.low 128 (Nat.le_refl _)
      have hf : (bs.map (·.toNat)).filter (· < 128) = bs.map (·.toNat) := filter_all fun r hr => by
        obtain ⟨c, hc, rfl⟩ := List.mem_map.1 hr; exact h3 c hc
      rw [hf] at e
      have : c.toNat ∈ l.filter (· < 128) := by rw [e]; exact List.mem_map_of_mem hc
      exact (List.mem_filter.1 this).1
    exact h.small _ hm (h3 c hc)
  have h45 : stN (45 : UInt8).toNat ∧ ¬ (65 ≤ (45 : UInt8).toNat ∧ (45 : UInt8).toNat ≤ 90) := by
    have : (45 : UInt8).toNat = 45 := rfl
    unfold stN; omega
  have hlast : P.getLast? = (ds.map sg).getLast? := by
    rw [h1]; unfold shp
    split
    · rfl
    · rw [List.getLast?_append, show (45 :: ds.map sg).getLast? = (ds.map sg).getLast? from List.getLast?_cons_of_ne_nil (by simpa using hne)]
      cases hq : (ds.map sg).getLast? with
      | none => simp at hq; exact absurd hq hne
      | some _ => rfl
  refine ⟨?_, ?_, ?_, hlen⟩
  · intro c hc
    rw [h1] at hc; unfold shp at hc
    split at hc
    · exact (hds c hc).1
    · rcases List.mem_append.1 hc with hc | hc
      · exact hbs c hc
      · rcases List.mem_cons.1 hc with rfl | hc
        · exact h45
        · exact (hds c hc).1
  · rw [hlast]
    intro e
    exact (hds 45 (List.mem_of_getLast? e)).2 rfl
  · intro e
    rw [e] at hlast
    have := List.getLast?_eq_none_iff.1 hlast.symm
    simp at this
    exact hne this
end Go.Proofs.YtgopjgbcnjkblaaGreatDoor
