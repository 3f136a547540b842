/-
  The walk of NameLong: whatever two numbers it is called with, it returns true. Condition: the library's variable MaxLen holds some number.
-/
import Derived.Test.YtiaijbklpkapmaaDoorNamePartsLib
import Derived.Laws.Bits128
namespace Go.Proofs.YtiaijbklpkapmaaDoor
open Go.RowKit

theorem i64_and7 (n : Int) : bits .and .i64 n 7 = n % 8 := by
  have h7 : (BitVec.ofInt 64 7).toNat = 2 ^ 3 - 1 := by decide
  have key : (BitVec.ofInt 64 n &&& BitVec.ofInt 64 7).toNat = (n % ((2 ^ 64 : Nat) : Int)).toNat % 2 ^ 3 := by
    rw [BitVec.toNat_and, BitVec.toNat_ofInt, h7, Nat.and_two_pow_sub_one_eq_mod]
  show IntKind.i64.wrap ((BitVec.ofInt 64 n &&& BitVec.ofInt 64 7).toNat : Nat) = n % 8
  rw [key, IntKind.wrap_i64]
  omega
def aL (n : Nat) : List UInt8 := List.replicate n 97
def aB (n : Nat) : ByteArray := ⟨(aL n).toArray⟩
theorem aB_data (n : Nat) : (aB n).data.toList = aL n := rfl
theorem aB_size (n : Nat) : (aB n).size = n := by rw [Lib.size_eq, aB_data]; unfold aL; simp
theorem aB_zero : aB 0 = { data := #[] } := rfl
theorem aB_next (n : Nat) : aB n ++ { data := #[97] } = aB (n + 1) := bytes_inj (by
  rw [ByteArray.data_append, Array.toList_append, aB_data, aB_data]
  unfold aL
  rw [List.replicate_succ'])
def lL (n k : Nat) : List (List UInt8) := List.replicate k (aL n)
def lB (n k : Nat) : ByteArray := ⟨(jn (lL n k)).toArray⟩
theorem lB_data (n k : Nat) : (lB n k).data.toList = jn (lL n k) := rfl
theorem lB_zero (n : Nat) : lB n 0 = { data := #[] } := rfl
theorem lB_one (n : Nat) : lB n 0 ++ aB n = lB n 1 := bytes_inj (by
  rw [ByteArray.data_append, Array.toList_append, lB_data, lB_data, aB_data]; rfl)
theorem lB_next (n k : Nat) (h : 0 < k) : lB n k ++ { data := #[46] } ++ aB n = lB n (k + 1) := bytes_inj (by
  have hne : lL n k ≠ [] := fun e => by
    have := congrArg List.length e
    unfold lL at this
    simp at this; omega
  rw [join3, lB_data, lB_data, aB_data]
  have : lL n (k + 1) = lL n k ++ [aL n] := by unfold lL; rw [List.replicate_succ']
  rw [this, jn_append hne (by simp)]; rfl)
theorem lL_length (n : Nat) : ∀ k, (jn (lL n k)).length + 1 ≤ k * (n + 1) + 1 ∧ (0 < k → k * (n + 1) = (jn (lL n k)).length + 1)
  | 0 => by simp [lL, jn]
  | 1 => by
    show (aL n).length + 1 ≤ _ ∧ _
    have e : jn (lL n 1) = aL n := rfl
    have : (aL n).length = n := by unfold aL; simp
    rw [e]; omega
  | k + 2 => by
    obtain ⟨h1, h2⟩ := lL_length n (k + 1)
    have h2 := h2 (by omega)
    have e : lL n (k + 2) = aL n :: lL n (k + 1) := by unfold lL; rw [List.replicate_succ]
    have hne : lL n (k + 1) ≠ [] := by unfold lL; simp
    have hl : (aL n).length = n := by unfold aL; simp
    have hj : (jn (lL n (k + 2))).length = n + 1 + (jn (lL n (k + 1))).length := by
      rw [e, jn_cons _ hne, List.length_append, List.length_cons, hl]; omega
    have hm : (k + 2) * (n + 1) = (k + 1) * (n + 1) + (n + 1) := Nat.succ_mul _ _
    omega
theorem aL_mem {n : Nat} {c : UInt8} (h : c ∈ aL n) : c = 97 := List.eq_of_mem_replicate h
theorem lL_mem {n k : Nat} {x : List UInt8} (h : x ∈ lL n k) : x = aL n := List.eq_of_mem_replicate h
/-- a name of k labels of n letters: how it goes out -/
theorem long_ta (n k : Nat) (hn : 1 ≤ n) (hk : 1 ≤ k) :
    ((jn (lL n k)).length ≤ 1012 → 63 < n → TA (jn (lL n k)) 1 []) ∧ (1012 < (jn (lL n k)).length → TA (jn (lL n k)) 2 []) ∧
    ((jn (lL n k)).length ≤ 1012 → n ≤ 63 → 253 < (jn (lL n k)).length → TA (jn (lL n k)) 2 []) ∧ (n ≤ 63 → (jn (lL n k)).length ≤ 253 → TA (jn (lL n k)) 0 (jn (lL n k))) := by
  have e97 : (97 : UInt8).toNat = 97 := rfl
  have hlen : (aL n).length = n := by unfold aL; simp
  have hlow : low (aL n) = aL n := low_same fun c hc => by rw [aL_mem hc]; omega
  have hne : aL n ≠ [] := fun e => by rw [e] at hlen; simp at hlen; omega
  have hpt : ∀ x ∈ lL n k, (46 : UInt8) ∉ x ∧ x ≠ [] := fun x hx => by
    rw [lL_mem hx]
    exact ⟨(fun h => by have := aL_mem h; cases this), hne⟩
  have hl0 : lL n k ≠ [] := by unfold lL; intro e; have := congrArg List.length e; simp at this; omega
  have hsp : sp (cutP (jn (lL n k))) = lL n k := by rw [cutP_jn hl0 hpt, sp_join _ hl0 fun x hx => (hpt x hx).1]
  have hall : ∀ x ∈ lL n k, asc x ∧ ¬ XN <+: low x := fun x hx => by
    rw [lL_mem hx, hlow]
    refine ⟨fun c hc => by rw [aL_mem hc]; omega, fun h => ?_⟩
    obtain ⟨P, hP⟩ := h
    have : (120 : UInt8) ∈ aL n := by rw [← hP]; exact List.mem_append_left _ List.mem_cons_self
    have := aL_mem this
    cases this
  obtain ⟨P1, P2⟩ := Labs.plain (lL n k) hall
  have hmap : (lL n k).map low = lL n k := by
    conv => rhs; rw [← List.map_id (lL n k)]
    exact List.map_congr_left fun x hx => by rw [lL_mem hx, hlow]; rfl
  rw [hmap] at P1
  have hmem : aL n ∈ lL n k := by
    unfold lL
    exact List.mem_replicate.2 ⟨by omega, rfl⟩
  have hok : n ≤ 63 → ∀ x ∈ lL n k, RightL x := fun h63 x hx => by
    rw [lL_mem hx]
    refine ⟨by omega, by omega, fun c hc => by rw [aL_mem hc]; unfold stN; omega, fun e => ?_, fun e => ?_⟩
    · have := aL_mem (List.mem_of_mem_head? (Option.mem_def.2 e)); cases this
    · have := aL_mem (List.mem_of_getLast? e); cases this
  have hbad : 63 < n → ¬ ∀ x ∈ lL n k, RightL x := fun h63 h => by have := (h _ hmem).len; omega
  refine ⟨fun h1 h2 => .err h1 1 (by decide) (by rw [hsp]; exact P2 (hbad h2)), fun h1 => .long h1, fun h1 h2 h3 => .big h1 _ (by rw [hsp]; exact P1 (hok h2)) h3, fun h1 h2 => .ok (by omega) _ (by rw [hsp]; exact P1 (hok h1)) h2⟩

set_option maxRecDepth 100000 in
set_option maxHeartbeats 2000000 in
theorem nameLong_walk (n m : Int) (w : World) (he : Env w) :
    Calls Tryd.prog 10 #[.int .i64 n, .int .i64 m] w fun e w' => e = .returned (.bool true) ∧ Below w.heap.size w w' := by
  obtain ⟨a, ha1, ha2⟩ : ∃ a : Nat, bits .and .i64 n 127 = (a : Int) ∧ a ≤ 127 := ⟨(n % 128).toNat, by rw [i64_and127]; omega, by omega⟩
  obtain ⟨b, hb1, hb2⟩ : ∃ b : Nat, bits .and .i64 m 7 = (b : Int) ∧ b ≤ 7 := ⟨(m % 8).toNat, by rw [i64_and7]; omega, by omega⟩
  go_enter Tryd.func10, Tryd.ntmps10
  go_wp2_with fail
  refine (fit_e w he).mono ?_; rintro e w1 ⟨rfl, hw1, he1⟩
  go_wp2_with fail
  clear ha1 hb1
  go_loop [19, 5] (fun i x => ∃ k : Nat, k ≤ a + 1 ∧ i = .int .i64 k ∧ x = .string (aB k)) (fun i _ => a + 1 - (intOf i).toNat)
  case atStart => exact ⟨0, Nat.zero_le _, rfl, rfl⟩
  case round =>
    obtain ⟨k, hk, rfl, rfl⟩ := hrel
    have hsz : (aB k).size ≤ 200 := by rw [aB_size]; omega
    by_cases hlt : k < a + 1
    · have HN := Lib.hid (aB_next k)
      go_wp2_with fail
      go_round
      case rel => exact ⟨k + 1, by omega, by go_num, by rw [HN.out]⟩
      case measure => simp [intOf]; omega
    · obtain rfl : k = a + 1 := by omega
      have hxs : (aB (a + 1)).size ≤ 128 := by rw [aB_size]; omega
      clear hsz
      go_wp2_with fail
      go_loop [25, 6] (fun i x => ∃ j : Nat, j ≤ b + 1 ∧ i = .int .i64 j ∧ x = .string (lB (a + 1) j)) (fun i _ => b + 1 - (intOf i).toNat)
      case atStart => exact ⟨0, Nat.zero_le _, rfl, rfl⟩
      case round =>
        obtain ⟨j, hj, rfl, rfl⟩ := hrel
        have hjl : (lB (a + 1) j).size ≤ 2000 := by
          rw [Lib.size_eq, lB_data]
          have := (lL_length (a + 1) j).1
          have : j * (a + 1 + 1) ≤ 8 * 129 := Nat.mul_le_mul (by omega) (by omega)
          omega
        by_cases hlt : j < b + 1
        · by_cases h0 : 0 < j
          · have HN := Lib.hid (lB_next (a + 1) j h0)
            have h0' : decide ((0 : Int) < (j : Int)) = true := decide_eq_true (by omega)
            go_wp2_with fail
            go_round
            case rel => exact ⟨j + 1, by omega, by go_num, by rw [HN.out]⟩
            case measure => simp [intOf]; omega
          · obtain rfl : j = 0 := by omega
            have HN := Lib.hid (lB_one (a + 1))
            have h0' : decide ((0 : Int) < ((0 : Nat) : Int)) = false := rfl
            go_wp2_with fail
            go_round
            case rel => exact ⟨1, by omega, rfl, by rw [HN.out]⟩
            case measure => simp [intOf]
        · obtain rfl : j = b + 1 := by omega
          obtain ⟨T1, T2, T3, T4⟩ := long_ta (a + 1) (b + 1) (by omega) (by omega)
          rw [← lB_data, ← Lib.size_eq] at T1 T2 T3 T4
          clear hlt
          by_cases h63 : 63 < a + 1
          · by_cases hL : (lB (a + 1) (b + 1)).size ≤ 1012
            · have C := ta_at (lB (a + 1) (b + 1)) ⟨#[]⟩ 1 w1 he1 (by omega) (T1 hL h63)
              clear T1 T2 T3 T4
              go_wp2_with fail
              refine C.mono ?_; rintro e w2 ⟨rfl, hw2, he2⟩
              clear C
              go_wp2_with fail
              go_ret
              exact ⟨rfl, hw1.trans (hw2.mono hw1.size)⟩
            · have C := ta_at (lB (a + 1) (b + 1)) ⟨#[]⟩ 2 w1 he1 (by omega) (T2 (by omega))
              clear T1 T2 T3 T4
              go_wp2_with fail
              refine C.mono ?_; rintro e w2 ⟨rfl, hw2, he2⟩
              clear C
              go_wp2_with fail
              go_ret
              exact ⟨rfl, hw1.trans (hw2.mono hw1.size)⟩
          · have hL1 : (lB (a + 1) (b + 1)).size ≤ 1012 := by
              rw [Lib.size_eq, lB_data]
              have := (lL_length (a + 1) (b + 1)).1
              have : (b + 1) * (a + 1 + 1) ≤ 8 * 64 := Nat.mul_le_mul (by omega) (by omega)
              omega
            by_cases hL : (lB (a + 1) (b + 1)).size ≤ 253
            · have C := ta_at (lB (a + 1) (b + 1)) (lB (a + 1) (b + 1)) 0 w1 he1 (by omega) (T4 (by omega) hL)
              clear T1 T2 T3 T4
              go_wp2_with fail
              refine C.mono ?_; rintro e w2 ⟨rfl, hw2, he2⟩
              clear C
              go_wp2_with fail
              go_ret
              exact ⟨rfl, hw1.trans (hw2.mono hw1.size)⟩
            · have C := ta_at (lB (a + 1) (b + 1)) ⟨#[]⟩ 2 w1 he1 (by omega) (T3 hL1 (by omega) (by omega))
              clear T1 T2 T3 T4
              go_wp2_with fail
              refine C.mono ?_; rintro e w2 ⟨rfl, hw2, he2⟩
              clear C
              go_wp2_with fail
              go_ret
              exact ⟨rfl, hw1.trans (hw2.mono hw1.size)⟩
end Go.Proofs.YtiaijbklpkapmaaDoor
