/-
  PROVED: whatever text LabelRight is called with, it returns true and leaves the text as it was. Conditions: those that the given row and card print, and no other.
-/
import Derived.Test.YtpbjijjeglpakaaDoorLaw
import Derived.Laws.IdiomStrings
namespace Go.Proofs.YtpbjijjeglpakaaDoor
open Go.RowKit

/-- may the byte at place i of l stand in a label, as the law says it? -/
def okAt (l : List UInt8) (i : Nat) : Bool := (stI ((l.getD i 0).toNat : Int) && ((l.getD i 0).toNat : Int) != 45) || (((l.getD i 0).toNat : Int) == 45 && decide (0 < i) && decide (i + 1 < l.length))
def wantAt (l : List UInt8) (k : Nat) : Bool := (decide (1 ≤ l.length) && decide (l.length ≤ 63)) && (List.range k).all (okAt l)
theorem getD_at {l : List UInt8} {i : Nat} (h : i < l.length) : l.getD i 0 = l[i] := by simp [List.getD, List.getElem?_eq_getElem h]
theorem wantAt_next (l : List UInt8) (k : Nat) : wantAt l (k + 1) = (wantAt l k && okAt l k) := by
  unfold wantAt; rw [List.range_succ, List.all_append]; simp [Bool.and_assoc]
theorem want_right (s : ByteArray) : rightB s = wantAt s.data.toList s.size := by
  have hsz := Lib.size_eq s
  unfold rightB wantAt
  rw [← hsz]
  by_cases h1 : 1 ≤ s.size
  · by_cases h2 : s.size ≤ 63
    · rw [decide_eq_true h1, decide_eq_true h2]
      rw [Bool.eq_iff_iff]
      have hall : (List.range s.size).all (okAt s.data.toList) = true ↔ ∀ i, i < s.size → okAt s.data.toList i = true := by
        rw [List.all_eq_true]; simp [List.mem_range]
      have hst : s.data.toList.all (fun c => stI c.toNat) = true ↔ ∀ i, i < s.size → stI ((s.data.toList.getD i 0).toNat : Int) = true := by
        rw [List.all_eq_true]
        constructor
        · intro h i hi
          have hi' : i < s.data.toList.length := by omega
          rw [getD_at hi']
          exact h _ (List.getElem_mem hi')
        · intro h c hc
          obtain ⟨i, hi, rfl⟩ := List.getElem_of_mem hc
          have := h i (by omega)
          rw [getD_at hi] at this
          exact this
      have hfst : (s.data.toList[0]? != some 45) = ((s.data.toList.getD 0 0).toNat != 45) := by
        have h0 : 0 < s.data.toList.length := by omega
        rw [List.getElem?_eq_getElem h0, getD_at h0, Bool.eq_iff_iff, bne_iff_ne, bne_iff_ne]
        constructor
        · intro h e; apply h; rw [← UInt8.toNat_inj.1 (show (s.data.toList[0]).toNat = (45 : UInt8).toNat from e)]
        · intro h e; apply h; injection e with e; rw [e]; rfl
      have hlst : (s.data.toList[s.size - 1]? != some 45) = ((s.data.toList.getD (s.size - 1) 0).toNat != 45) := by
        have h0 : s.size - 1 < s.data.toList.length := by omega
        rw [List.getElem?_eq_getElem h0, getD_at h0, Bool.eq_iff_iff, bne_iff_ne, bne_iff_ne]
        constructor
        · intro h e; apply h; rw [← UInt8.toNat_inj.1 (show (s.data.toList[s.size - 1]).toNat = (45 : UInt8).toNat from e)]
        · intro h e; apply h; injection e with e; rw [e]; rfl
      simp only [Bool.and_eq_true, Bool.true_and]
      rw [hall, hst, hfst, hlst, bne_iff_ne, bne_iff_ne]
      constructor
      · rintro ⟨⟨ha, hf⟩, hl⟩ i hi
        have h := ha i hi
        unfold okAt
        by_cases e : ((s.data.toList.getD i 0).toNat : Int) = 45
        · have hi0 : 0 < i := by
            rcases Nat.eq_zero_or_pos i with rfl | h'
            · exact absurd (by omega) hf
            · exact h'
          have hi1 : i + 1 < s.data.toList.length := by
            rcases Nat.lt_or_ge (i + 1) s.data.toList.length with h' | h'
            · exact h'
            · have : i = s.size - 1 := by omega
              subst this; exact absurd (by omega) hl
          rw [decide_eq_true hi0, decide_eq_true hi1, e]; rfl
        · rw [h, show ((((s.data.toList.getD i 0).toNat : Int)) != 45) = true from bne_iff_ne.2 e]; rfl
      · intro ha
        refine ⟨⟨fun i hi => ?_, fun e => ?_⟩, fun e => ?_⟩
        · have := ha i hi
          unfold okAt at this
          rw [Bool.or_eq_true] at this
          rcases this with h | h
          · exact (Bool.and_eq_true_iff.1 h).1
          · simp only [Bool.and_eq_true, beq_iff_eq] at h
            rw [h.1.1]; rfl
        · have := ha 0 (by omega)
          unfold okAt at this
          rw [e] at this; simp at this
        · have := ha (s.size - 1) (by omega)
          unfold okAt at this
          rw [e, decide_eq_false (show ¬ (s.size - 1 + 1 < s.data.toList.length) by omega)] at this
          simp at this
    · rw [decide_eq_false h2]; simp
  · rw [decide_eq_false h1]; simp

theorem want_start (s : ByteArray) : wantAt s.data.toList 0 = (decide (1 ≤ s.size) && decide (s.size ≤ 63)) := by
  unfold wantAt; rw [← Lib.size_eq]; simp
/-- the law's test, on a number -/
def okI (n : Int) (a b : Bool) : Bool := (stI n && n != 45) || (n == 45 && a && b)
theorem okAt_eq (l : List UInt8) (k : Nat) : okAt l k = okI ((l.getD k 0).toNat : Int) (decide (0 < k)) (decide (k + 1 < l.length)) := rfl

set_option maxRecDepth 100000 in
set_option maxHeartbeats 2000000 in
theorem labelRight_walk (s : ByteArray) (w : World) (he : Env w) (hs : s.size ≤ 140737488351232) :
    Calls Tryd.prog 3 #[.string s] w fun e w' => e = .returned (.bool true) ∧ Below w.heap.size w w' := by
  have hcv2 := fun w s => run_bytes_of_string (P := Tryd.prog) w 9 24 5 s Tryd.underlying9 Tryd.underlying24 Tryd.underlying5
  have hsz : s.data.toList.length = s.size := (Lib.size_eq s).symm
  have HSZ := Lib.hid hsz
  have HS := Lib.hid (want_start s)
  clear hsz
  by_cases hl : s.size ≤ 600
  · by_cases h1 : 1 ≤ s.size
    all_goals
      have e1 : decide ((s.size : Int) < 1) = decide (s.size < 1) := by rw [Bool.eq_iff_iff, decide_eq_true_iff, decide_eq_true_iff]; omega
      have e2 : decide ((s.size : Int) ≤ 63) = decide (s.size ≤ 63) := by rw [Bool.eq_iff_iff, decide_eq_true_iff, decide_eq_true_iff]; omega
      go_enter Tryd.func3, Tryd.ntmps3
      go_wp2_with fail
      refine (fit_e w he).mono ?_; rintro e w1 ⟨rfl, hb1, he1⟩
      go_wp2_with fail
      refine (light_1 s _ _ hs (by first | go_simp | simp)).mono ?_; rintro e w2 ⟨rfl, rfl⟩
      rw [decide_eq_true hl]
      go_wp2
      go_loopw [3, 4, 5, 6, 24] (fun v _ _ _ i wr => ∃ k : Nat, k ≤ s.size ∧ i = .int .i64 k ∧ v = .bool (wantAt s.data.toList k) ∧ BytesAt wr (w1.heap.size + 1) s.data.toList ∧ Below w.heap.size w wr) (fun _ _ _ _ i _ => s.size - (intOf i).toNat)
      case atStart => exact ⟨0, Nat.zero_le _, rfl, congrArg Value.bool (by rw [HS.out]; simp [h1]), BytesAt.at_new _ _ _ _ _ (World.size_alloc _ _), ((hb1.alloc hb1.size _).alloc (by rw [World.size_alloc]; have := hb1.size; omega) _).drew⟩
      case round =>
        clear hcv2
        obtain ⟨k, hk, rfl, rfl, hB, hbw⟩ := hrel
        have HB := Lib.hid hB
        by_cases hlt : k < s.size
        · first
          | (exfalso; omega)
          | skip
          all_goals
            have c0 := hB.2 k (by rw [HSZ.out]; exact hlt)
            have HO := Lib.hid (okAt_eq s.data.toList k)
            have HN := Lib.hid (wantAt_next s.data.toList k)
            clear hB
            generalize hn : (((s.data.toList.getD k 0).toNat : Nat) : Int) = n at c0 HO
            clear hn
            generalize wantAt s.data.toList k = b at HN ⊢
            by_cases h45 : n = 45
            · subst h45
              go_each [0 < k, k + 1 < s.size] => (
                go_wp2
                all_goals
                  go_roundw
                  case rel => exact ⟨k + 1, by omega, by go_num, congrArg Value.bool (by rw [HN.out, HO.out, HSZ.out]; cases b <;> simp_all [okI, stI] <;> omega), HB.out, hbw⟩
                  case measure => simp [intOf]; omega)
            · by_cases h95 : n = 95
              · subst h95
                go_wp2
                all_goals
                  go_roundw
                  case rel => exact ⟨k + 1, by omega, by go_num, congrArg Value.bool (by rw [HN.out, HO.out, HSZ.out]; cases b <;> simp_all [okI, stI]), HB.out, hbw⟩
                  case measure => simp [intOf]; omega
              · have f45 : (n == 45) = false := beq_eq_false_iff_ne.2 h45
                have f95 : (n == 95) = false := beq_eq_false_iff_ne.2 h95
                go_each [97 ≤ n, n ≤ 122, 65 ≤ n, n ≤ 90, 48 ≤ n, n ≤ 57] => (
                  have HI := Lib.hid (show okI n (decide (0 < k)) (decide (k + 1 < s.size)) = decide ((65 ≤ n ∧ n ≤ 90) ∨ (97 ≤ n ∧ n ≤ 122) ∨ (48 ≤ n ∧ n ≤ 57)) by unfold okI stI; rw [f45]; simp [h45, h95])
                  go_wp2
                  all_goals
                    go_roundw
                    case rel => exact ⟨k + 1, by omega, by go_num, congrArg Value.bool (by rw [HN.out, HO.out, HSZ.out, HI.out]; cases b <;> simp [*]), HB.out, hbw⟩
                    case measure => simp [intOf]; omega)
        · obtain rfl : k = s.size := by omega
          clear hB
          have HR := Lib.hid (want_right s)
          go_wp2_with fail
          refine (right_any s _ (by unfold maxLen; omega)).mono ?_; rintro e w3 ⟨rfl, rfl⟩
          go_wp2
          go_ret
          exact ⟨ret_bool (by rw [HR.out]; simp), hbw⟩
  · go_enter Tryd.func3, Tryd.ntmps3
    go_wp2_with fail
    refine (fit_e w he).mono ?_; rintro e w1 ⟨rfl, hb1, he1⟩
    go_wp2_with fail
    refine (light_1 s _ _ hs (by first | go_simp | simp)).mono ?_; rintro e w2 ⟨rfl, rfl⟩
    rw [decide_eq_false hl]
    go_wp2
    go_ret
    exact ⟨rfl, hb1.alloc hb1.size _⟩
end Go.Proofs.YtpbjijjeglpakaaDoor
