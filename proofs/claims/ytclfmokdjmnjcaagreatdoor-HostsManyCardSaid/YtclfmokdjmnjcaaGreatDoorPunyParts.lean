/-
  The walk of puny.parts: what stands as it is, and the digits behind it. Condition: the text is short.
-/
import Derived.Test.YtclfmokdjmnjcaaGreatDoorPunyInsert
import Derived.Test.YtclfmokdjmnjcaaGreatDoorPunyRunes
import Derived.RegionTactic
namespace Go.Proofs.YtclfmokdjmnjcaaGreatDoor
open Go.RowKit

theorem runesN_eq (s : ByteArray) : ∀ (b i : Nat) (acc : Array Value), (Conv.runesFrom s b i acc).toList = acc.toList ++ rvs (runesN s b i)
  | 0, _, acc => by simp [Conv.runesFrom, runesN, rvs]
  | b + 1, i, acc => by
    unfold Conv.runesFrom runesN
    split
    · have := runesN_eq s b (i + (Utf8.decode s i).2) (acc.push (.int .i32 (Int.ofNat (Utf8.decode s i).1)))
      rw [this]
      simp [rvs]
    · simp [rvs]
/-- what parts answers -/
def PtPost (s : ByteArray) (w : World) (e : Ending) (w' : World) : Prop :=
  (e = .returned (.tuple #[.slice none 0 0, .string ⟨#[]⟩, .bool false]) ∧ Below w.heap.size w w' ∧ ∀ bs ds : List UInt8, s.data.toList = shp bs ds → (∀ c ∈ bs, c.toNat < 128) → (45 : UInt8) ∉ ds → False) ∨
  ∃ (v : Value) (t : ByteArray) (bs : List UInt8), e = .returned (.tuple #[v, .string t, .bool true]) ∧ w'.ownsRow w.heap.size 21 1 v bs.length (rvs (bs.map (·.toNat))) ∧ Below w.heap.size w w' ∧
    s.data.toList = shp bs t.data.toList ∧ (∀ c ∈ bs, c.toNat < 128) ∧ (45 : UInt8) ∉ t.data.toList
theorem byte_list {s : ByteArray} {j : Nat} (h : j < s.size) : s.data.toList[j]? = some (s.data[j]!) := by
  have : j < s.data.size := h
  rw [List.getElem?_eq_getElem (by simpa using this), getElem!_pos s.data j this]
  simp
theorem dash_none {s : ByteArray} (h : ∀ j, j < s.size → ((s.data[j]!).toNat : Int) ≠ 45) : (45 : UInt8) ∉ s.data.toList := fun hm => by
  obtain ⟨j, hj, e⟩ := List.getElem_of_mem hm
  have hj' : j < s.size := by rw [Lib.size_eq]; exact hj
  have := byte_list hj'
  rw [List.getElem?_eq_getElem hj, e] at this
  injection this with this
  exact h j hj' (by rw [← this]; rfl)
theorem dash_at {s : ByteArray} {i : Nat} (hi : i < s.size) (h1 : ((s.data[i]!).toNat : Int) = 45) (h2 : ∀ j, i < j → j < s.size → ((s.data[j]!).toNat : Int) ≠ 45) :
    s.data.toList = s.data.toList.take i ++ 45 :: s.data.toList.drop (i + 1) ∧ (45 : UInt8) ∉ s.data.toList.drop (i + 1) := by
  have hl : i < s.data.toList.length := by rw [← Lib.size_eq]; exact hi
  have e : s.data.toList[i] = 45 := by
    have := byte_list hi
    rw [List.getElem?_eq_getElem hl] at this
    injection this with this
    rw [this]
    exact UInt8.toNat_inj.1 (by show _ = 45; omega)
  refine ⟨?_, fun hm => ?_⟩
  · conv => lhs; rw [← List.take_append_drop i s.data.toList, List.drop_eq_getElem_cons hl, e]
  · obtain ⟨j, hj, e2⟩ := List.getElem_of_mem hm
    rw [List.getElem_drop] at e2
    simp only [List.length_drop] at hj
    have hj' : i + 1 + j < s.size := by rw [Lib.size_eq]; omega
    have := byte_list hj'
    rw [List.getElem?_eq_getElem (by rw [← Lib.size_eq]; exact hj'), e2] at this
    injection this with this
    exact h2 (i + 1 + j) (by omega) hj' (by rw [← this]; rfl)
/-- the runes of bytes that are below 128 all, or not -/
theorem runes_all {s : ByteArray} : (anyB (runesN s s.size 0) = false → (∀ c ∈ s.data.toList, c.toNat < 128) ∧ runesN s s.size 0 = s.data.toList.map (·.toNat)) ∧ (anyB (runesN s s.size 0) = true → ¬ ∀ c ∈ s.data.toList, c.toNat < 128) := by
  have key : (∀ c ∈ s.data.toList, c.toNat < 128) → runesN s s.size 0 = s.data.toList.map (·.toNat) := fun h => by
    have := runesN_ascii s (fun j hj => h _ (List.mem_of_getElem? (Lib.data_getElem? s j hj))) s.size 0 (by omega)
    rwa [List.drop_zero] at this
  constructor
  · intro h
    have hall : ∀ c ∈ s.data.toList, c.toNat < 128 := fun c hc => by
      obtain ⟨k, hk, e⟩ := List.getElem_of_mem hc
      have hk' : k < s.size := by rw [Lib.size_eq]; exact hk
      rcases Nat.lt_or_ge c.toNat 128 with h1 | h1
      · exact h1
      · exfalso
        have e2 : s[k]'hk' = c := by
          have := Lib.data_getElem? s k hk'
          rw [List.getElem?_eq_getElem hk, e] at this
          exact (Option.some.inj this).symm
        obtain ⟨r, hr, hge⟩ := runesN_high s k hk' (by rw [e2]; exact h1) s.size 0 (Nat.zero_le _) (by omega)
        have := anyB_iff.1 h r hr
        omega
    exact ⟨hall, key hall⟩
  · intro h hall
    have : anyB (runesN s s.size 0) = false := anyB_iff.2 fun r hr => by
      rw [key hall] at hr
      obtain ⟨c, hc, rfl⟩ := List.mem_map.1 hr
      exact hall c hc
    rw [this] at h; cases h

theorem parts_no {s : ByteArray} {i : Nat} (hs : s.data.toList = s.data.toList.take i ++ 45 :: s.data.toList.drop (i + 1)) (hd : (45 : UInt8) ∉ s.data.toList.drop (i + 1)) (h : i = 0 ∨ ¬ ∀ c ∈ s.data.toList.take i, c.toNat < 128) :
    ∀ bs ds : List UInt8, s.data.toList = shp bs ds → (∀ c ∈ bs, c.toNat < 128) → (45 : UInt8) ∉ ds → False := by
  intro bs ds e1 e2 e3
  unfold shp at e1
  split at e1
  · rw [← e1, hs] at e3
    exact e3 (List.mem_append_right _ List.mem_cons_self)
  · rename_i hne
    obtain ⟨a1, a2⟩ := tail_inj hd e3 (hs.symm.trans e1)
    rcases h with h | h
    · subst h
      exact hne (by rw [← a1]; simp)
    · exact h (by rw [a1]; exact e2)
theorem parts_yes {s : ByteArray} {i : Nat} (hs : s.data.toList = s.data.toList.take i ++ 45 :: s.data.toList.drop (i + 1)) (h0 : i ≠ 0) (hl : i < s.size) : s.data.toList = shp (s.data.toList.take i) (s.data.toList.drop (i + 1)) := by
  unfold shp
  rw [if_neg]
  · exact hs
  · intro e
    have := congrArg List.length e
    rw [List.length_take, List.length_nil, ← Lib.size_eq] at this
    omega

set_option maxRecDepth 100000 in
set_option maxHeartbeats 400000 in
theorem parts_none (s : ByteArray) (w : World) (hs : s.size ≤ 63) (h : Lib.lastIndexByte s 45 = -1) (hno : (45 : UInt8) ∉ s.data.toList) :
    Calls Tryz.prog 116 #[.string s] w fun e w' => PtPost s w e w' := by
  have C := Tryz.strings_LastIndexByte s 45 (by omega) w
  rw [h] at C
  clear h
  have HN := Lib.hid hno
  clear hno
  go_enter Tryz.func116, Tryz.ntmps116
  go_wp2_with fail
  refine C.mono ?_; rintro e w' ⟨rfl, rfl⟩
  go_wp2
  go_ret3
  exact .inr ⟨_, s, [], rfl, World.ownsRow_nil _ _ _ _, Below.refl _ _, rfl, by simp, HN.out⟩

/-- the runes of a text's first bytes, as the conversion lays them -/
theorem conv_runes (t : ByteArray) (w : World) (ht : t.size ≤ 100000) : ∃ g cap W1, (convert 9 108 (.string t)).run Tryz.prog w = .ok (.slice (some ⟨g, 0, none⟩) (runesN t t.size 0).length cap) W1 ∧
    W1.ownsRow w.heap.size 21 1 (.slice (some ⟨g, 0, none⟩) (runesN t t.size 0).length cap) (runesN t t.size 0).length (rvs (runesN t t.size 0)) ∧ Below w.heap.size w W1 := by
  have hl := runesN_length t t.size 0
  have e := runesN_eq t t.size 0 #[]
  have hsz : (Conv.runesFrom t t.size 0 #[]).size = (runesN t t.size 0).length := by
    have := congrArg List.length e
    simpa [rvs_length] using this
  have hr := run_runes_of_string (P := Tryz.prog) w 9 108 21 t Tryz.underlying9 Tryz.underlying108 Tryz.underlying21 (by omega)
  rw [hsz] at hr
  have hG := grownCap_ge w (runesN t t.size 0).length 0 21
  have hM := grownCap_le_maxLen w (runesN t t.size 0).length 0 21 (by unfold maxLen; omega)
  refine ⟨_, _, _, hr, ⟨by rw [rvs_length]; omega, .inr ⟨w.heap.size, _, _, rfl, Nat.le_refl _, heap_alloc_new _ _, hG, hM, ?_, ?_⟩⟩, (Below.refl _ w).drew.alloc (Nat.le_refl _) _⟩
  · simp [hsz]; omega
  · rw [Nat.mul_one, Array.toList_append, e, List.take_append_of_le_length (by simp [rvs_length]), List.take_of_length_le (by simp [rvs_length])]; rfl
theorem own_runes {w : World} {base n : Nat} {v : Value} {xs : List Nat} (h : w.ownsRow base 21 1 v n (rvs xs)) (A : Option Addr) (c : Nat) (hv : v = .slice A n c) : Runes w A xs := fun h0 => by
  have hl : n = xs.length := by have := h.1; rw [rvs_length] at this; omega
  obtain ⟨g, cap, hv2, _, hlt⟩ := h.form (by omega)
  have e := hv.symm.trans hv2
  injection e with e1 _ e2
  subst e1 e2 hv
  refine ⟨g, 0, rfl, hlt, fun j hj => ?_⟩
  rw [Nat.zero_add, h.cellAt j (by omega), rvs_at hj, getD_at hj]

set_option maxRecDepth 100000 in
set_option maxHeartbeats 1000000 in
theorem parts_at (s : ByteArray) (i : Nat) (w : World) (hs : s.size ≤ 63) (h : Lib.lastIndexByte s 45 = (i : Int)) (hi : i < s.size) (he : s.data.toList = s.data.toList.take i ++ 45 :: s.data.toList.drop (i + 1)) (hd : (45 : UInt8) ∉ s.data.toList.drop (i + 1)) :
    Calls Tryz.prog 116 #[.string s] w fun e w' => PtPost s w e w' := by
  have C := Tryz.strings_LastIndexByte s 45 (by omega) w
  rw [h] at C
  clear h
  have HD := Lib.hid hd
  have HE := Lib.hid he
  clear hd he
  obtain ⟨t, ht⟩ : ∃ t, t = s.extract 0 i := ⟨_, rfl⟩
  have htd : t.data.toList = s.data.toList.take i := by rw [ht, Lib.extract_data]; simp
  have hts : t.size ≤ 1000 := by rw [Lib.size_eq, htd, List.length_take, ← Lib.size_eq]; omega
  obtain ⟨g, cap, W1, hcv, hown, hb⟩ := conv_runes t w (by omega)
  have hrl : (runesN t t.size 0).length ≤ 1000 := by have := runesN_length t t.size 0; omega
  have CB := containsB _ _ cap (runesN t t.size 0) W1 rfl (by omega) (own_runes hown _ cap rfl)
  have RA := Lib.hid (runes_all (s := t))
  have HT := Lib.hid htd
  have HO := Lib.hid hown
  have HB := Lib.hid hb
  clear htd hown hb hts
  revert hcv CB RA HO hrl
  generalize runesN t t.size 0 = L
  intro hcv hrl CB RA HO
  obtain ⟨m, hm⟩ : ∃ m, m = L.length := ⟨_, rfl⟩
  rw [← hm] at hcv CB HO hrl
  have HM := Lib.hid hm; clear hm
  by_cases h0 : i = 0
  · have N := Lib.hid (parts_no HE.out HD.out (.inl h0))
    have hte : t = ByteArray.empty := by
      apply ByteArray.ext
      apply Array.toList_inj.1
      rw [HT.out, h0]; rfl
    rw [hte] at hcv
    clear CB hte ht RA HO HT HD HE hi
    subst h0
    go_enter Tryz.func116, Tryz.ntmps116
    go_wp2_with fail
    refine C.mono ?_; rintro e w' ⟨rfl, rfl⟩
    clear C
    go_wp2
    go_ret3
    exact .inl ⟨rfl, HB.out, N.out⟩
  · have h0' : ((i : Int) == 0) = false := by rw [beq_eq_false_iff_ne]; omega
    have h0n : 0 < i := by omega
    have H0 := Lib.hid h0; clear h0
    rw [ht] at hcv
    have HTE := Lib.hid ht; clear ht
    cases hb : anyB L with
    | true =>
      have N := Lib.hid (parts_no HE.out HD.out (.inr (by rw [← HT.out]; exact RA.out.2 hb)))
      rw [hb] at CB
      clear hb RA HO
      go_enter Tryz.func116, Tryz.ntmps116
      go_wp2_with fail
      refine C.mono ?_; rintro e w' ⟨rfl, rfl⟩
      clear C
      go_wp2_with fail
      refine CB.mono ?_; rintro e w2 ⟨rfl, rfl⟩
      go_wp2
      go_ret3
      exact .inl ⟨rfl, HB.out, N.out⟩
    | false =>
      have N := Lib.hid (parts_yes HE.out H0.out hi)
      have R := Lib.hid (RA.out.1 hb)
      rw [hb] at CB
      clear hb RA
      have k1 : (i : Int) + 1 ≤ (s.size : Int) := by omega
      have k2 : (0 : Int) ≤ (i : Int) + 1 := by omega
      have k3 : ((i : Int) + 1).toNat = i + 1 := by omega
      have k4 : IntKind.i64.wrap ((i : Int) + 1) = (i : Int) + 1 := by rw [IntKind.wrap_i64]; omega
      go_enter Tryz.func116, Tryz.ntmps116
      go_wp2_with fail
      refine C.mono ?_; rintro e w' ⟨rfl, rfl⟩
      clear C
      go_wp2_with fail
      refine CB.mono ?_; rintro e w2 ⟨rfl, rfl⟩
      go_wp2
      go_region
      go_wp2
      go_ret3
      have hm : m = (s.data.toList.take i).length := by
        rw [HM.out, R.out.2, List.length_map, HT.out]
      have hx : (s.extract (i + 1) s.size).data.toList = s.data.toList.drop (i + 1) := by
        rw [Lib.extract_data]
        rw [List.take_of_length_le (by rw [List.length_drop, ← Lib.size_eq]; omega)]
      refine .inr ⟨_, _, s.data.toList.take i, rfl, ?_, HB.out.drew, by rw [hx]; exact N.out, by rw [← HT.out]; exact R.out.1, by rw [hx]; exact HD.out⟩
      have ho := HO.out.drew
      rw [R.out.2, HT.out] at ho
      rw [← hm]
      exact ho

theorem parts_any (s : ByteArray) (w : World) (hs : s.size ≤ 63) : Calls Tryz.prog 116 #[.string s] w fun e w' => PtPost s w e w' := by
  rcases Lib.lastIndexByte_spec s 45 with ⟨h1, h2⟩ | ⟨i, hi, h1, h2, h3⟩
  · exact parts_none s w hs h1 (dash_none h2)
  · obtain ⟨e1, e2⟩ := dash_at hi h2 h3
    exact parts_at s i w hs h1 hi e1 e2
end Go.Proofs.YtclfmokdjmnjcaaGreatDoor
