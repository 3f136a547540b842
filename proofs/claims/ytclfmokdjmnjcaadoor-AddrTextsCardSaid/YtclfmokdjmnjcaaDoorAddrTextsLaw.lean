/-
  The walk of AddrTexts: texts are as the document has them: groups without noughts ahead, one stretch of zeros left out. Conditions: sixteen bytes; the library's variables hold what their initialisers lay.
-/
import Derived.Test.YtclfmokdjmnjcaaDoorAddrFit
import Derived.Test.YtclfmokdjmnjcaaDoorAddrRow
import Derived.Test.YtclfmokdjmnjcaaDoorAddrRevMath
namespace Go.Proofs.YtclfmokdjmnjcaaDoor
open Go.RowKit

theorem cell_bvs {w : World} {g : Nat} {x : List UInt8} {t : TypeId} {fr : Nat × Nat} (h : w.heap[g]? = some (.cells (bvs x).toArray t fr)) {k : Nat} (hk : k < x.length) : w.cell? ⟨g, k, none⟩ = some (.int .u8 (x.getD k 0).toNat) := by
  have := cell_of_row w g k _ t fr h
  rw [this]
  unfold bvs
  rw [List.getD_eq_getElem?_getD, List.getElem?_eq_getElem hk]
  simp [hk]
theorem byteD_at (s : ByteArray) (i : Nat) (h : i < s.size) : s.data.toList.getD i 0 = s[i]'h := by
  rw [List.getD_eq_getElem?_getD, Array.getElem?_toList, Array.getElem?_eq_getElem h]; rfl
theorem dropB_at (s : ByteArray) (i : Nat) (h : i < s.size) : s.data.toList.drop i = s[i]'h :: s.data.toList.drop (i + 1) := by
  rw [List.drop_eq_getElem_cons (by rw [← Lib.size_eq]; exact h)]; rfl
theorem dropB_end (s : ByteArray) : s.data.toList.drop s.size = [] := List.drop_eq_nil_of_le (by rw [← Lib.size_eq]; exact Nat.le_refl _)
theorem u8z {c : UInt8} {n : Nat} (hn : n < 256) (h : (c.toNat : Int) = n) : c = UInt8.ofNat n := UInt8.toNat_inj.1 (by rw [UInt8.toNat_ofNat']; omega)
theorem u8nz {c : UInt8} {n : Nat} (h : ¬ (c.toNat : Int) = n) (hn : n < 256) : c ≠ UInt8.ofNat n := fun e => h (by rw [e, UInt8.toNat_ofNat']; omega)
/-- digits and points that are still to come -/
structure D4 (s : ByteArray) (k n p : Nat) : Prop where
  dig : n + (s.data.toList.drop k).countP digB = s.data.toList.countP digB
  pts : p + (s.data.toList.drop k).count 46 = s.data.toList.count 46
theorem D4.step {s : ByteArray} {k n p : Nat} (h : D4 s k n p) (hk : k < s.size) : D4 s (k + 1) (n + if digB s[k] = true then 1 else 0) (p + if s[k] = 46 then 1 else 0) := by
  have h1 := h.dig
  have h2 := h.pts
  rw [dropB_at s k hk] at h1 h2
  rw [List.countP_cons] at h1
  rw [List.count_cons] at h2
  refine ⟨by omega, ?_⟩
  by_cases e : s[k] = 46
  · rw [if_pos e]; rw [if_pos (by rw [e]; rfl)] at h2; omega
  · rw [if_neg e]; rw [if_neg (by rw [beq_iff_eq]; exact e)] at h2; omega
theorem nb_cons (p : Bool) (c : UInt8) (l : List UInt8) : nb p (c :: l) = ((c == 48 && p && (match l with | [] => false | d :: _ => d != 58)) || nb (c == 58) l) := by cases l <;> rfl
def prG (s : ByteArray) : Nat → Bool
  | 0 => false
  | k + 1 => s.data.toList.getD k 0 == 58
def prN (s : ByteArray) : Nat → Bool
  | 0 => true
  | k + 1 => s.data.toList.getD k 0 == 58
/-- gaps and colons that are still to come; no nought is wrong -/
structure D6 (s : ByteArray) (G C : Nat) (k g c : Nat) : Prop where
  gaps : g + gp (prG s k) (s.data.toList.drop k) = G
  cols : c + (s.data.toList.drop k).count 58 = C
  nought : nb (prN s k) (s.data.toList.drop k) = false
theorem D6.step {s : ByteArray} {G C k g c : Nat} (h : D6 s G C k g c) (hk : k < s.size) :
    D6 s G C (k + 1) (g + if s[k] = 58 ∧ prG s k = true then 1 else 0) (c + if s[k] = 58 then 1 else 0) := by
  have h1 := h.gaps
  have h2 := h.cols
  have h3 := h.nought
  rw [dropB_at s k hk] at h1 h2 h3
  rw [gp] at h1
  rw [List.count_cons] at h2
  rw [nb_cons, Bool.or_eq_false_iff] at h3
  have hp : prG s (k + 1) = (s[k] == 58) := by show (s.data.toList.getD k 0 == 58) = _; rw [byteD_at s k hk]
  have hq : prN s (k + 1) = (s[k] == 58) := by show (s.data.toList.getD k 0 == 58) = _; rw [byteD_at s k hk]
  refine ⟨by rw [hp]; omega, ?_, by rw [hq]; exact h3.2⟩
  by_cases e : s[k] = 58
  · rw [if_pos e]; rw [if_pos (by rw [e]; rfl)] at h2; omega
  · rw [if_neg e]; rw [if_neg (by rw [beq_iff_eq]; exact e)] at h2; omega
theorem D6.next {s : ByteArray} {G C k g c : Nat} (h : D6 s G C k g c) (hk : k + 1 < s.size) (h0 : s[k]'(by omega) = 48) (hp : prN s k = true) : s[k + 1] = 58 := by
  have h3 := h.nought
  rw [dropB_at s k (by omega), dropB_at s (k + 1) hk, nb_cons, Bool.or_eq_false_iff, h0, hp] at h3
  simpa using h3.1
def zq (a : List UInt8) (i : Nat) : Bool := a.getD (2 * i) 0 == 0 && a.getD (2 * i + 1) 0 == 0 && a.getD (2 * i + 2) 0 == 0 && a.getD (2 * i + 3) 0 == 0
def zTo (a : List UInt8) (k : Nat) : Bool := (List.range k).any (zq a)
theorem zTo_step (a : List UInt8) (k : Nat) : zTo a (k + 1) = (zTo a k || zq a k) := by unfold zTo; rw [List.range_succ, List.any_append]; simp
theorem zTo_all {a : List UInt8} (h : a.length = 16) : zTo a 7 = twoZ (grp a) := by
  have hl := grp_length 8 a h
  have hv : ∀ i, i < 8 → ((grp a).getD i 1 == 0) = (a.getD (2 * i) 0 == 0 && a.getD (2 * i + 1) 0 == 0) := fun i hi => by
    have e : (grp a).getD i 1 = (grp a).getD i 0 := by
      rw [List.getD_eq_getElem?_getD, List.getD_eq_getElem?_getD, List.getElem?_eq_getElem (by omega)]; rfl
    rw [e, grp_at 8 a i h hi]
    rw [Bool.eq_iff_iff, Bool.and_eq_true, beq_iff_eq, beq_iff_eq, beq_iff_eq, ← UInt8.toNat_inj, ← UInt8.toNat_inj]
    show _ = 0 ↔ _ = 0 ∧ _ = 0
    omega
  unfold zTo twoZ
  rw [Bool.eq_iff_iff, List.any_eq_true, List.any_eq_true]
  constructor
  · rintro ⟨i, hi, hz⟩
    refine ⟨i, hi, ?_⟩
    rw [List.mem_range] at hi
    rw [hv i (by omega), hv (i + 1) (by omega), show 2 * (i + 1) = 2 * i + 2 by omega]
    unfold zq at hz
    simpa [Bool.and_assoc] using hz
  · rintro ⟨i, hi, hz⟩
    refine ⟨i, hi, ?_⟩
    rw [List.mem_range] at hi
    rw [hv i (by omega), hv (i + 1) (by omega), show 2 * (i + 1) = 2 * i + 2 by omega] at hz
    unfold zq
    simpa [Bool.and_assoc] using hz
theorem hexB_z {c : UInt8} (h : hexB c = true) : (48 ≤ (c.toNat : Int) ∧ (c.toNat : Int) ≤ 57) ∨ (97 ≤ (c.toNat : Int) ∧ (c.toNat : Int) ≤ 102) := by
  unfold hexB digB at h
  rw [Bool.or_eq_true, decide_eq_true_iff, decide_eq_true_iff] at h
  omega
theorem digB_z (c : UInt8) : digB c = true ↔ 48 ≤ (c.toNat : Int) ∧ (c.toNat : Int) ≤ 57 := by
  unfold digB
  rw [decide_eq_true_iff]
  omega
set_option maxRecDepth 100000 in
set_option maxHeartbeats 4000000 in
theorem addrTexts_walk (a : List UInt8) (ha : a.length = 16) (w : World) (he : AEnv w) :
    Calls Tryd.prog 3 #[.agg (bvs a).toArray] w fun e w' => e = .returned (.bool true) ∧ Below w.heap.size w w' := by
  have hS := sizeBv ha
  have hu := Tryd.underlying23
  have hprint := fun W (hW : AEnv W) => print_e a ha W hW
  have h4e := fun W => is4_e a ha W
  have ht4 : isV4 a = true → _ := fun h => tx4 ha h
  have ht6 : isV4 a = false → _ := fun h => tx6 ha h
  obtain ⟨s, hs⟩ : ∃ s, s = tb (txt a) := ⟨_, rfl⟩
  have hsd : s.data.toList = txt a := by rw [hs, tb_data]
  have hsl : s.size = (txt a).length := by rw [Lib.size_eq, hsd]
  rw [← hsd] at ht4 ht6
  rw [← Lib.size_eq] at ht4
  simp only [← hs] at hprint
  have hcell : ∀ W : World, W.heap[w.heap.size]? = some (.cells (bvs a).toArray 23 (0, 0)) → ∀ j, j < 16 → W.cell? ⟨w.heap.size, j, none⟩ = some (.int .u8 (a.getD j 0).toNat) := fun W hW j hj => cell_bvs hW (by omega)
  have hzt := zTo_all ha
  have HLE : Hid (s.size ≤ 39) := Lib.hid (by rw [hsl]; exact txt_len ha)
  obtain ⟨r, hr⟩ : ∃ r, r = (bvs a).toArray := ⟨_, rfl⟩
  simp only [← hr] at hS hprint h4e hcell ⊢
  have hb0 : Below w.heap.size w (w.alloc (.cells r 23)) := (Below.refl _ w).alloc (Nat.le_refl _) _
  have HE := Lib.hid (he.below hb0)
  have HB0 := Lib.hid hb0
  have HR0 := Lib.hid (Row.new w r)
  have HS := Lib.hid hS
  have HPr := Lib.hid hprint
  have H4 := Lib.hid h4e
  have HT4 := Lib.hid ht4
  have HT6 := Lib.hid ht6
  have HC := Lib.hid hcell
  have HZT := Lib.hid hzt
  clear hS hprint h4e ht4 ht6 hcell hr hb0 he ha hs hsd hsl hzt
  go_enter Tryd.func3, Tryd.ntmps3
  go_wp2_with fail
  refine (fit5_e _ HE.out).mono ?_
  rintro e w1 ⟨rfl, hb1⟩
  have HB1 := Lib.hid (HB0.out.trans (hb1.mono HB0.out.size))
  have HE1 := Lib.hid (HE.out.below hb1)
  have HR1 := Lib.hid (HR0.out.below hb1)
  clear hb1
  go_wp2_with (first
    | (refine wpList_load_row rfl 23 (.tmp 1) rfl w.heap.size rfl 23 r (0, 0) _ HR1.out hu rfl HS.out ?_; go_simp))
  refine (HPr.out _ HE1.out).mono ?_
  rintro e w2 ⟨rfl, hb2⟩
  have HB2 := Lib.hid (HB1.out.trans (hb2.mono HB1.out.size))
  have HR2 := Lib.hid (HR1.out.below hb2)
  clear hb2
  go_wp2_with (first
    | (refine wpList_load_row rfl 23 (.tmp 1) rfl w.heap.size rfl 23 r (0, 0) _ HR2.out hu rfl HS.out ?_; go_simp))
  refine (H4.out _).mono ?_
  rintro e w3 ⟨rfl, hb3⟩
  have HB3 := Lib.hid (HB2.out.trans (hb3.mono HB2.out.size))
  have HR3 := Lib.hid (HR2.out.below hb3)
  clear hb3
  cases h4 : isV4 a
  · obtain ⟨hsg, hno, hga, hco, hle⟩ := HT6.out h4
    have HSG := Lib.hid hsg
    have HST : Hid (D6 s (if twoZ (grp a) = true then 1 else 0) (s.data.toList.count 58) 0 0 0) := Lib.hid ⟨by rw [← hga, Nat.zero_add]; rfl, by rw [Nat.zero_add]; rfl, hno⟩
    have HCO := Lib.hid hco
    rw [← Lib.size_eq] at hle
    have hle' : (s.size : Int) ≤ 39 := by omega
    have HCB : Hid (s.data.toList.count 58 ≤ 39) := Lib.hid (by have h2 := List.count_le_length (a := (58 : UInt8)) (l := s.data.toList); rw [← Lib.size_eq] at h2; omega)
    clear hsg hno hga hco HT4 HT6 HPr H4
    go_wp2_with fail
    generalize (s.data.toList.count 58) = C at HST HCO HCB
    obtain ⟨G, hG⟩ : ∃ G, G = (if twoZ (grp a) = true then 1 else 0) := ⟨_, rfl⟩
    rw [← hG] at HST
    have HG := Lib.hid hG
    clear hG
    go_loop [68, 7, 9, 10, 11] (fun i g c _ _ => ∃ (k gg cc : Nat), k ≤ s.size ∧ i = .int .i64 k ∧ g = .int .i64 gg ∧ c = .int .i64 cc ∧ D6 s G C k gg cc) (fun i _ _ _ _ => s.size - (intOf i).toNat)
    case atStart => exact ⟨0, 0, 0, Nat.zero_le _, rfl, rfl, rfl, HST.out⟩
    case round =>
      obtain ⟨k, g, c, hk, rfl, rfl, rfl, hat⟩ := hrel
      by_cases hlt : k < s.size
      · have hst := hat.step hlt
        have hmem : s[k] ∈ s.data.toList := by
          rw [← byteD_at s k hlt, List.getD_eq_getElem?_getD, List.getElem?_eq_getElem (by rw [← Lib.size_eq]; exact hlt)]
          exact List.getElem_mem _
        have hz := HSG.out _ hmem
        have hnx := fun (h : k + 1 < s.size) => hat.next h
        have hgb : (g : Int) ≤ 1 := by
          have h1 := hat.gaps
          have h2 := HG.out
          have h3 : G ≤ 1 := by rw [h2]; split <;> omega
          omega
        have hcb : (c : Int) ≤ 39 := by
          have h1 := hat.cols
          have h2 := HCB.out
          omega
        have hprG : ∀ j, k = j + 1 → prG s k = (s.data.toList.getD j 0 == 58) := fun j h => by rw [h]; rfl
        have hprN : ∀ j, k = j + 1 → prN s k = (s.data.toList.getD j 0 == 58) := fun j h => by rw [h]; rfl
        have hN0 : k = 0 → prN s k = true := fun h => by rw [h]; rfl
        have hG0 : k = 0 → prG s k = false := fun h => by rw [h]; rfl
        have HPG := Lib.hid hprG
        have HPN := Lib.hid hprN
        have HN0 := Lib.hid hN0
        have HG0 := Lib.hid hG0
        have HNX := Lib.hid hnx
        have HST := Lib.hid hst
        clear hat hst hnx hprG hprN hN0 hG0 hmem
        rcases hz with hz | hz
        · have hh := hexB_z hz
          have h58 : ¬ s[k] = 58 := (hexB_no hz).2
          have h58' : ¬ (s[k].toNat : Int) = 58 := fun h => h58 (u8z (n := 58) (by decide) h)
          have HN : Hid (D6 s G C (k + 1) g c) := Lib.hid (by have := HST.out; rwa [if_neg (fun h => h58 h.1), if_neg h58] at this)
          by_cases h48 : s[k] = 48
          · have e : (s[k].toNat : Int) = 48 := by rw [h48]; rfl
            clear hh hz h58 h58'
            have hnp : ∀ h : k + 1 < s.size, prN s k = true → (s[k + 1].toNat : Int) = 58 := fun h hp => by rw [HNX.out h h48 hp]; rfl
            rcases Nat.eq_zero_or_pos k with h0 | h0
            · have hp := HN0.out h0
              subst h0
              by_cases hl : 0 + 1 < s.size
              · have e2 := hnp hl hp
                clear hnp h48
                go_wp2
                refine ⟨⟨0 + 1, g, c, by omega, by go_num, by go_num, by go_num, HN.out⟩, by simp [intOf]; omega⟩
              · have hl' : ¬ (1 < (s.size : Int)) := by omega
                clear hnp h48
                go_wp2
                refine ⟨⟨0 + 1, g, c, by omega, by go_num, by go_num, by go_num, HN.out⟩, by simp [intOf]; omega⟩
            · obtain ⟨j, hj⟩ : ∃ j, k = j + 1 := ⟨k - 1, by omega⟩
              have hjs : j < s.size := by omega
              have ej : (k : Int) - 1 = (j : Int) := by omega
              have k0 : ¬ (k : Int) = 0 := by omega
              by_cases hp : s[j] = 58
              · have e0 : (s[j].toNat : Int) = 58 := by rw [hp]; rfl
                have hpn : prN s k = true := by rw [HPN.out j hj, byteD_at s j hjs, hp]; rfl
                by_cases hl : k + 1 < s.size
                · have e2 := hnp hl hpn
                  clear hnp h48 hj hp hpn
                  go_wp2
                  refine ⟨⟨k + 1, g, c, by omega, by go_num, by go_num, by go_num, HN.out⟩, by simp [intOf]; omega⟩
                · have hl' : ¬ ((k : Int) + 1 < (s.size : Int)) := by omega
                  clear hnp h48 hj hp hpn
                  go_wp2
                  refine ⟨⟨k + 1, g, c, by omega, by go_num, by go_num, by go_num, HN.out⟩, by simp [intOf]; omega⟩
              · have e0 : ¬ (s[j].toNat : Int) = 58 := fun h => hp (u8z (n := 58) (by decide) h)
                clear hnp h48 hj hp
                go_wp2
                refine ⟨⟨k + 1, g, c, by omega, by go_num, by go_num, by go_num, HN.out⟩, by simp [intOf]; omega⟩
          · have e : ¬ (s[k].toNat : Int) = 48 := fun h => h48 (u8z (n := 48) (by decide) h)
            clear hz h58 h48
            rcases hh with ⟨a1, a2⟩ | ⟨a1, a2⟩
            · go_wp2
              refine ⟨⟨k + 1, g, c, by omega, by go_num, by go_num, by go_num, HN.out⟩, by simp [intOf]; omega⟩
            · have a3 : ¬ (s[k].toNat : Int) ≤ 57 := by omega
              go_wp2
              refine ⟨⟨k + 1, g, c, by omega, by go_num, by go_num, by go_num, HN.out⟩, by simp [intOf]; omega⟩
        · have e : (s[k].toNat : Int) = 58 := by rw [hz]; rfl
          have HN1 : Hid (D6 s G C (k + 1) (g + if prG s k = true then 1 else 0) (c + 1)) := Lib.hid (by have := HST.out; simpa [hz] using this)
          clear hz
          rcases Nat.eq_zero_or_pos k with h0 | h0
          · have HN : Hid (D6 s G C (k + 1) g (c + 1)) := Lib.hid (by have := HN1.out; rwa [HG0.out h0, if_neg (by decide)] at this)
            subst h0
            go_wp2
            refine ⟨⟨0 + 1, g, c + 1, by omega, by go_num, by go_num, by go_num, HN.out⟩, by simp [intOf]; omega⟩
          · obtain ⟨j, hj⟩ : ∃ j, k = j + 1 := ⟨k - 1, by omega⟩
            have hjs : j < s.size := by omega
            have ej : (k : Int) - 1 = (j : Int) := by omega
            have hpg := HPG.out j hj
            rw [byteD_at s j hjs] at hpg
            by_cases hp : s[j] = 58
            · have e0 : (s[j].toNat : Int) = 58 := by rw [hp]; rfl
              have HN : Hid (D6 s G C (k + 1) (g + 1) (c + 1)) := Lib.hid (by have := HN1.out; rwa [hpg, hp, if_pos (by decide)] at this)
              clear hj hp hpg
              go_wp2
              refine ⟨⟨k + 1, g + 1, c + 1, by omega, by go_num, by go_num, by go_num, HN.out⟩, by simp [intOf]; omega⟩
            · have e0 : ¬ (s[j].toNat : Int) = 58 := fun h => hp (u8z (n := 58) (by decide) h)
              have HN : Hid (D6 s G C (k + 1) g (c + 1)) := Lib.hid (by have := HN1.out; rwa [hpg, if_neg (by rw [beq_iff_eq]; exact hp)] at this)
              clear hj hp hpg
              go_wp2
              refine ⟨⟨k + 1, g, c + 1, by omega, by go_num, by go_num, by go_num, HN.out⟩, by simp [intOf]; omega⟩
      · obtain rfl : k = s.size := by omega
        have hgG : g = G := by
          have := hat.gaps
          rw [dropB_end] at this
          exact this
        have hcC : c = C := by
          have := hat.cols
          rw [dropB_end] at this
          exact this
        subst hgG
        subst hcC
        clear hat
        go_wp2
        go_loop [131, 8, 12] (fun i z _ => ∃ (k zz : Nat), k ≤ 7 ∧ i = .int .i64 k ∧ z = .int .i64 zz ∧ zz = (if zTo a k = true then 1 else 0)) (fun i _ _ => 7 - (intOf i).toNat)
        case atStart => exact ⟨0, 0, by omega, rfl, rfl, rfl⟩
        case round =>
          obtain ⟨k, zz, hk, rfl, rfl, hzz⟩ := hrel
          by_cases hlt : k < 7
          · have c0 := HC.out _ HR3.out (2 * k) (by omega)
            have c1 := HC.out _ HR3.out (2 * k + 1) (by omega)
            have c2 := HC.out _ HR3.out (2 * k + 2) (by omega)
            have c3 := HC.out _ HR3.out (2 * k + 3) (by omega)
            have hzs := zTo_step a k
            have hzq : zq a k = (a.getD (2 * k) 0 == 0 && a.getD (2 * k + 1) 0 == 0 && a.getD (2 * k + 2) 0 == 0 && a.getD (2 * k + 3) 0 == 0) := rfl
            have hev : ∀ x : UInt8, (x == 0) = decide ((x.toNat : Int) = 0) := fun x => by
              rw [Bool.eq_iff_iff, beq_iff_eq, decide_eq_true_iff, ← UInt8.toNat_inj]
              show x.toNat = 0 ↔ _
              omega
            rw [hev, hev, hev, hev] at hzq
            generalize ((a.getD (2 * k) 0).toNat : Int) = b0 at c0 hzq
            generalize ((a.getD (2 * k + 1) 0).toNat : Int) = b1 at c1 hzq
            generalize ((a.getD (2 * k + 2) 0).toNat : Int) = b2 at c2 hzq
            generalize ((a.getD (2 * k + 3) 0).toNat : Int) = b3 at c3 hzq
            have hkeep : zq a k = false → zz = (if zTo a (k + 1) = true then 1 else 0) := fun h => by rw [hzs, h, Bool.or_false]; exact hzz
            have hset : zq a k = true → 1 = (if zTo a (k + 1) = true then 1 else 0) := fun h => by rw [hzs, h, Bool.or_true]; rfl
            have HK := Lib.hid hkeep
            have HSe := Lib.hid hset
            have HQ := Lib.hid hzq
            clear hkeep hset hzq hzs hzz hev
            by_cases n0 : b0 = 0
            · by_cases n1 : b1 = 0
              · by_cases n2 : b2 = 0
                · by_cases n3 : b3 = 0
                  · go_wp2
                    exact ⟨⟨k + 1, 1, by omega, by go_num, rfl, HSe.out (by rw [HQ.out, n0, n1, n2, n3]; rfl)⟩, by simp [intOf]; omega⟩
                  · go_wp2
                    exact ⟨⟨k + 1, zz, by omega, by go_num, rfl, HK.out (by rw [HQ.out, decide_eq_false n3]; simp)⟩, by simp [intOf]; omega⟩
                · go_wp2
                  exact ⟨⟨k + 1, zz, by omega, by go_num, rfl, HK.out (by rw [HQ.out, decide_eq_false n2]; simp)⟩, by simp [intOf]; omega⟩
              · go_wp2
                exact ⟨⟨k + 1, zz, by omega, by go_num, rfl, HK.out (by rw [HQ.out, decide_eq_false n1]; simp)⟩, by simp [intOf]; omega⟩
            · go_wp2
              exact ⟨⟨k + 1, zz, by omega, by go_num, rfl, HK.out (by rw [HQ.out, decide_eq_false n0]; simp)⟩, by simp [intOf]; omega⟩
          · obtain rfl : k = 7 := by omega
            rw [HZT.out] at hzz
            have hGG := HG.out
            cases htz : twoZ (grp a)
            · have hC7 := HCO.out htz
              rw [htz, if_neg (by decide)] at hzz hGG
              subst hzz
              subst hGG
              subst hC7
              go_wp2
              go_ret
              exact ⟨rfl, HB3.out⟩
            · rw [htz, if_pos rfl] at hzz hGG
              subst hzz
              subst hGG
              go_wp2
              go_ret
              exact ⟨rfl, HB3.out⟩
  · obtain ⟨t1, t2, t3, t4, t5⟩ := HT4.out h4
    have c10 := HC.out _ HR3.out 10 (by omega)
    have c11 := HC.out _ HR3.out 11 (by omega)
    rw [t4] at c10
    rw [t5] at c11
    have hsl : (s.size : Int) ≤ 100000 := by have := HLE.out; omega
    have HST : Hid (D4 s 0 0 0) := Lib.hid ⟨by rw [Nat.zero_add]; rfl, by rw [Nat.zero_add]; rfl⟩
    have T1 := Lib.hid t1
    have T2 := Lib.hid t2
    have T3 := Lib.hid t3
    clear t1 t2 t3 t4 t5 HT4 HT6 HPr H4
    go_wp2_with fail
    go_loop [21, 4, 5, 6] (fun i n p _ => ∃ (k nn pp : Nat), k ≤ s.size ∧ i = .int .i64 k ∧ n = .int .i64 nn ∧ p = .int .i64 pp ∧ D4 s k nn pp) (fun i _ _ _ => s.size - (intOf i).toNat)
    case atStart => exact ⟨0, 0, 0, Nat.zero_le _, rfl, rfl, rfl, HST.out⟩
    case round =>
      obtain ⟨k, n, p, hk, rfl, rfl, rfl, hat⟩ := hrel
      by_cases hlt : k < s.size
      · have hst := hat.step hlt
        have hnb : (n : Int) ≤ 100000 := by
          have h1 := hat.dig
          have h2 := List.countP_le_length (p := digB) (l := s.data.toList)
          rw [← Lib.size_eq] at h2
          omega
        have hpb : (p : Int) ≤ 100000 := by
          have h1 := hat.pts
          have h2 := List.count_le_length (a := (46 : UInt8)) (l := s.data.toList)
          rw [← Lib.size_eq] at h2
          omega
        have HST := Lib.hid hst
        clear hat hst
        by_cases h46 : s[k] = 46
        · have e : (s[k].toNat : Int) = 46 := by rw [h46]; rfl
          have HN : Hid (D4 s (k + 1) n (p + 1)) := Lib.hid (by have := HST.out; rwa [if_pos h46, h46, if_neg (by decide)] at this)
          clear h46
          go_wp2
          refine ⟨⟨k + 1, n, p + 1, by omega, by go_num, by go_num, by go_num, HN.out⟩, by simp [intOf]; omega⟩
        · have e : ¬ (s[k].toNat : Int) = 46 := fun h => h46 (u8z (n := 46) (by decide) h)
          by_cases hd : digB s[k] = true
          · obtain ⟨a1, a2⟩ := (digB_z _).1 hd
            have HN : Hid (D4 s (k + 1) (n + 1) p) := Lib.hid (by have := HST.out; rwa [if_neg h46, if_pos hd] at this)
            clear h46 hd
            go_wp2
            refine ⟨⟨k + 1, n + 1, p, by omega, by go_num, by go_num, by go_num, HN.out⟩, by simp [intOf]; omega⟩
          · have HN : Hid (D4 s (k + 1) n p) := Lib.hid (by have := HST.out; rwa [if_neg h46, if_neg hd] at this)
            by_cases hd1 : 48 ≤ (s[k].toNat : Int)
            · have hd2 : ¬ (s[k].toNat : Int) ≤ 57 := fun h => hd ((digB_z _).2 ⟨hd1, h⟩)
              clear h46 hd
              go_wp2
              refine ⟨⟨k + 1, n, p, by omega, by go_num, by go_num, by go_num, HN.out⟩, by simp [intOf]; omega⟩
            · clear h46 hd
              go_wp2
              refine ⟨⟨k + 1, n, p, by omega, by go_num, by go_num, by go_num, HN.out⟩, by simp [intOf]; omega⟩
      · obtain rfl : k = s.size := by omega
        have h1 := hat.dig
        have h2 := hat.pts
        rw [dropB_end] at h1 h2
        have h3 := T1.out
        have h4' := T2.out
        have h5 := T3.out
        simp only [List.countP_nil, List.count_nil, Nat.add_zero] at h1 h2
        obtain rfl : p = 3 := by omega
        have en : (s.size : Int) - 3 = (n : Int) := by omega
        have en4 : 4 ≤ (n : Int) := by omega
        clear h1 h2 h3 h4' h5 hat
        go_wp2
        go_ret
        exact ⟨rfl, HB3.out⟩
end Go.Proofs.YtclfmokdjmnjcaaDoor
