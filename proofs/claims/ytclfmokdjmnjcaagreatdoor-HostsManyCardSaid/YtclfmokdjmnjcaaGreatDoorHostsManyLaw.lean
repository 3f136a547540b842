/-
  The walk of HostsMany: no more lines are kept than may be, the first ones; no more records are told than a message has. Condition: the library's variables hold what their initialisers lay.
-/
import Derived.Test.YtclfmokdjmnjcaaGreatDoorHostsMapB
import Derived.Great.BuildSlice
import Derived.Laws.Cover1
import Derived.Laws.Concat
import Derived.Deep.RegionHeld3
import Derived.BigQuiet
import Derived.IntWalk
import Derived.Test.YtclfmokdjmnjcaaGreatDoorHostsPr
import Derived.Test.YtclfmokdjmnjcaaGreatDoorHostsTypesLaw
import Derived.Test.YtclfmokdjmnjcaaGreatDoorHostsBackLaw
namespace Go.Proofs.YtclfmokdjmnjcaaGreatDoor
open Go.RowKit

theorem and127 (n : Int) : ∃ m : Nat, m < 128 ∧ bits .and .i64 n 127 = (m : Int) := by
  have h1 : (BitVec.ofInt 64 127).toNat = 127 := by decide
  have h2 : (BitVec.ofInt 64 n &&& BitVec.ofInt 64 127).toNat ≤ 127 := by rw [BitVec.toNat_and, h1]; exact Nat.and_le_right
  refine ⟨(BitVec.ofInt 64 n &&& BitVec.ofInt 64 127).toNat, by omega, ?_⟩
  show IntKind.i64.wrap ((BitVec.ofInt 64 n &&& BitVec.ofInt 64 127).toNat : Int) = _
  exact IntWalk.i64_in _ (by omega)
theorem heap_last' {w : World} {o : Obj} {b : Nat} (h : b = w.heap.size) : (w.alloc o).heap[b]? = some o := by subst h; exact heap_alloc_last w o
theorem tb_app (a b : List UInt8) : tb a ++ tb b = tb (a ++ b) := by
  apply bytes_inj
  rw [ByteArray.data_append]
  simp [tb]
theorem digF : ∀ k : Fin 10, (hexD k.val).toNat = 48 + k.val := by decide +kernel
theorem digV (k : Nat) (h : k < 10) : ((hexD k).toNat : Int) = 48 + k := by have := digF ⟨k, h⟩; simp only at this; omega
theorem dig_cells2 {k : Nat} (h : k < 10) : ∀ j (hj : j < (decN k).length), (#[Value.int .u8 (48 + (k : Int) / 100), .int .u8 (48 + (k : Int) / 10 % 10), .int .u8 (48 + (k : Int) % 10)])[2 + j]? = some (.int .u8 (((decN k)[j]).toNat : Int)) := by
  have e : decN k = [hexD k] := by unfold decN; rw [if_pos h]
  rw [e]
  intro j hj
  match j, hj with
  | 0, _ =>
    show some (Value.int .u8 (48 + (k : Int) % 10)) = some (.int .u8 ((hexD k).toNat : Int))
    rw [digV k h]; congr 2; omega
theorem dig_cells1 {k : Nat} (h : 10 ≤ k ∧ k < 100) : ∀ j (hj : j < (decN k).length), (#[Value.int .u8 (48 + (k : Int) / 100), .int .u8 (48 + (k : Int) / 10 % 10), .int .u8 (48 + (k : Int) % 10)])[1 + j]? = some (.int .u8 (((decN k)[j]).toNat : Int)) := by
  have e : decN k = [hexD (k / 10), hexD (k % 10)] := by unfold decN; rw [if_neg (by omega), if_pos h.2]
  rw [e]
  intro j hj
  match j, hj with
  | 0, _ =>
    show some (Value.int .u8 (48 + (k : Int) / 10 % 10)) = some (.int .u8 ((hexD (k / 10)).toNat : Int))
    rw [digV (k / 10) (by omega)]; congr 2; omega
  | 1, _ =>
    show some (Value.int .u8 (48 + (k : Int) % 10)) = some (.int .u8 ((hexD (k % 10)).toNat : Int))
    rw [digV (k % 10) (by omega)]; congr 2
theorem dig_cells0 {k : Nat} (h : 100 ≤ k ∧ k < 128) : ∀ j (hj : j < (decN k).length), (#[Value.int .u8 (48 + (k : Int) / 100), .int .u8 (48 + (k : Int) / 10 % 10), .int .u8 (48 + (k : Int) % 10)])[0 + j]? = some (.int .u8 (((decN k)[j]).toNat : Int)) := by
  have e : decN k = [hexD (k / 100), hexD (k / 10 % 10), hexD (k % 10)] := by unfold decN; rw [if_neg (by omega), if_neg (by omega)]
  rw [e]
  intro j hj
  match j, hj with
  | 0, _ =>
    show some (Value.int .u8 (48 + (k : Int) / 100)) = some (.int .u8 ((hexD (k / 100)).toNat : Int))
    rw [digV (k / 100) (by omega)]; congr 2
  | 1, _ =>
    show some (Value.int .u8 (48 + (k : Int) / 10 % 10)) = some (.int .u8 ((hexD (k / 10 % 10)).toNat : Int))
    rw [digV (k / 10 % 10) (by omega)]; congr 2
  | 2, _ =>
    show some (Value.int .u8 (48 + (k : Int) % 10)) = some (.int .u8 ((hexD (k % 10)).toNat : Int))
    rw [digV (k % 10) (by omega)]; congr 2
set_option maxRecDepth 100000 in
set_option maxHeartbeats 4000000 in
theorem hostsMany_walk (n : Int) (w : World) (he : AEnv w) :
    Calls Tryz.prog 6 #[.int .i64 n] w fun e w' => e = .returned (.bool true) ∧ Below w.heap.size w w' := by
  obtain ⟨m, hm, hbm⟩ := and127 n
  have HE := Lib.hid he
  have hmm := @run_makeMap Tryz.prog
  clear he
  go_enter Tryz.func6, Tryz.ntmps6
  go_wp2_with fail
  refine (fit6_e _ HE.out).mono ?_
  rintro e w1 ⟨rfl, hb1⟩
  have HB1 := Lib.hid hb1
  have HE1 := Lib.hid (HE.out.below hb1)
  clear hb1
  go_wp2_with fail
  have hmI : (m : Int) < 128 := by omega
  go_loopg [13, 3, 4] m (fun gk i s _ wr => ∃ k : Nat, i = .int .i64 k ∧ k + gk = m ∧ s = .string (tb (manyT k)) ∧ Hid (Below w1.heap.size w1 wr))
  case atStart => exact ⟨0, rfl, by simp, rfl, Lib.hid (Below.refl _ _)⟩
  case round =>
    obtain ⟨k, rfl, hk, rfl, HBW⟩ := hrel
    by_cases hlt : k < m
    · obtain ⟨g, rfl⟩ : ∃ g, gk = g + 1 := ⟨gk - 1, by omega⟩
      have hkI : (k : Int) < (m : Int) := by omega
      have hnx := many_next (k := k) (by omega)
      have HNX := Lib.hid hnx
      clear hnx
      obtain ⟨D, hD⟩ : ∃ D, D = tb (decN k) := ⟨_, rfl⟩
      have HD := Lib.hid hD
      clear hD
      generalize hS : tb (manyT k) = S
      by_cases hk1 : k < 10
      · have q1 : (k : Int) < 100 := by omega
        have q2 : (k : Int) < 10 := by omega
        have HDl : (decN k).length = 1 := by unfold decN; rw [if_pos hk1]; rfl
        have HDg : ∀ j (hj : j < (decN k).length), (#[Value.int .u8 (48 + (k : Int) / 100), .int .u8 (48 + (k : Int) / 10 % 10), .int .u8 (48 + (k : Int) % 10)])[2 + j]? = some (.int .u8 (((decN k)[j]).toNat : Int)) := dig_cells2 hk1 
        have HC : ∀ w3 w5 w6 w7 : World, w3.heap.size = ((wr.alloc (.cells #[.int .u8 (48 + (k : Int) / 100), .int .u8 (48 + (k : Int) / 10 % 10), .int .u8 (48 + (k : Int) % 10)] 5)).alloc (.map #[] 0)).heap.size →
            (∀ j, j ≠ wr.heap.size + 1 → w3.heap[j]? = ((wr.alloc (.cells #[.int .u8 (48 + (k : Int) / 100), .int .u8 (48 + (k : Int) / 10 % 10), .int .u8 (48 + (k : Int) % 10)] 5)).alloc (.map #[] 0)).heap[j]?) →
            (∀ j, j ≠ w3.heap.size → w5.heap[j]? = (w3.alloc (.map #[] 0)).heap[j]?) → (∀ j, j ≠ w3.heap.size → w6.heap[j]? = w5.heap[j]?) → (∀ j, j ≠ wr.heap.size + 1 → w7.heap[j]? = w6.heap[j]?) →
            (convert 34 9 (.slice (some ⟨wr.heap.size, 2, none⟩) 1 1)).run Tryz.prog w7 = .ok (.string D) w7 := fun w3 w5 w6 w7 hs3 ho3 ho5 ho6 ho7 => by
          rw [World.size_alloc, World.size_alloc] at hs3
          have hblk : w7.heap[wr.heap.size]? = some (.cells #[.int .u8 (48 + (k : Int) / 100), .int .u8 (48 + (k : Int) / 10 % 10), .int .u8 (48 + (k : Int) % 10)] 5 (0, 0)) := by
            rw [ho7 _ (by omega), ho6 _ (by omega), ho5 _ (by omega), Lib.alloc_old _ _ _ (by omega), ho3 _ (by omega), Lib.alloc_old _ _ _ (by rw [World.size_alloc]; omega)]
            exact heap_alloc_last wr _
          have := run_convert_bytes_back (P := Tryz.prog) w7 34 9 5 ⟨wr.heap.size, 2, none⟩ 1 (decN k) Tryz.underlying34 Tryz.underlying5 Tryz.underlying9 (fun j hj => by
            rw [Addr.add_lit, Lib.cell_of_heap hblk]
            exact HDg j hj)
          rw [HDl] at this
          rw [this, HD.out]; rfl
        have HM6 : ∀ w3 w5 w6 : World, w3.heap.size = ((wr.alloc (.cells #[.int .u8 (48 + (k : Int) / 100), .int .u8 (48 + (k : Int) / 10 % 10), .int .u8 (48 + (k : Int) % 10)] 5)).alloc (.map #[] 0)).heap.size →
            w3.heap[wr.heap.size + 1]? = some (.map (#[].push { key := .bool true, val := .int .i64 2, born := 0 }) 1) → (∀ j, j ≠ w3.heap.size → w5.heap[j]? = (w3.alloc (.map #[] 0)).heap[j]?) → (∀ j, j ≠ w3.heap.size → w6.heap[j]? = w5.heap[j]?) →
            w6.heap[wr.heap.size + 1]? = some (.map (#[].push { key := .bool true, val := .int .i64 2, born := 0 }) 1) := fun w3 w5 w6 hs3 hb3 ho5 ho6 => by
          rw [World.size_alloc, World.size_alloc] at hs3
          rw [ho6 _ (by omega), ho5 _ (by omega), Lib.alloc_old _ _ _ (by omega)]; exact hb3
        have HLL : ∀ w3 w5 w6 w7 : World, w3.heap.size = ((wr.alloc (.cells #[.int .u8 (48 + (k : Int) / 100), .int .u8 (48 + (k : Int) / 10 % 10), .int .u8 (48 + (k : Int) % 10)] 5)).alloc (.map #[] 0)).heap.size → w5.heap.size = (w3.alloc (.map #[] 0)).heap.size → w6.heap.size = w5.heap.size →
            Below (wr.heap.size + 1) ((wr.alloc (.cells #[.int .u8 (48 + (k : Int) / 100), .int .u8 (48 + (k : Int) / 10 % 10), .int .u8 (48 + (k : Int) % 10)] 5)).alloc (.map #[] 0)) w3 → Below w3.heap.size (w3.alloc (.map #[] 0)) w5 → Below w3.heap.size w5 w6 → Below (wr.heap.size + 1) w6 w7 → Below w1.heap.size w1 w7 := fun w3 w5 w6 w7 hs3 hs5 hs6 h3 h5 h6 h7 => by
          rw [World.size_alloc, World.size_alloc] at hs3
          have hw := HBW.out.size
          have a1 := (HBW.out.alloc hw (.cells #[.int .u8 (48 + (k : Int) / 100), .int .u8 (48 + (k : Int) / 10 % 10), .int .u8 (48 + (k : Int) % 10)] 5)).alloc (by rw [World.size_alloc]; omega) (.map #[] 0)
          exact ((((a1.trans (h3.mono (by omega))).alloc (by omega) _).trans (h5.mono (by omega))).trans (h6.mono (by omega))).trans (h7.mono (by omega))
        have hSs := printL_len (l := manyL k) 1 (fun h hh => ⟨many_good k h hh, by
          obtain ⟨i, _, rfl⟩ := List.mem_map.1 hh
          exact Nat.le_refl 1⟩)
        have hSl : (manyL k).length = k := by unfold manyL; rw [List.length_map, List.length_range]
        rw [hSl] at hSs
        have hSs2 : S.size ≤ 38000 := by
          rw [← hS]
          show (manyT k).toArray.size ≤ _
          rw [List.size_toArray]
          unfold manyT
          omega
        have hDs : D.size ≤ 3 := by
          rw [HD.out]
          show (decN k).toArray.size ≤ _
          rw [List.size_toArray, HDl]; omega
        have hA1 := fun W => run_string_add_sum (P := Tryz.prog) (w := W) ⟨#[49, 48, 46, 48, 46, 48, 46]⟩ D (by rw [show (ByteArray.mk #[49, 48, 46, 48, 46, 48, 46]).size = 7 from rfl]; omega)
        have hA2 := fun W => run_string_add_sum (P := Tryz.prog) (w := W) (⟨#[49, 48, 46, 48, 46, 48, 46]⟩ ++ D) ⟨#[32, 104, 111, 115, 116, 10]⟩ (by rw [ByteArray.size_append, show (ByteArray.mk #[49, 48, 46, 48, 46, 48, 46]).size = 7 from rfl, show (ByteArray.mk #[32, 104, 111, 115, 116, 10]).size = 6 from rfl]; omega)
        have hA3 := fun W => run_string_add_sum (P := Tryz.prog) (w := W) S (⟨#[49, 48, 46, 48, 46, 48, 46]⟩ ++ D ++ ⟨#[32, 104, 111, 115, 116, 10]⟩) (by rw [ByteArray.size_append, ByteArray.size_append, show (ByteArray.mk #[49, 48, 46, 48, 46, 48, 46]).size = 7 from rfl, show (ByteArray.mk #[32, 104, 111, 115, 116, 10]).size = 6 from rfl]; omega)
        have hz : S ++ (⟨#[49, 48, 46, 48, 46, 48, 46]⟩ ++ D ++ ⟨#[32, 104, 111, 115, 116, 10]⟩) = tb (manyT (k + 1)) := by
          rw [← hS, HD.out, HNX.out]
          exact (congrArg (tb (manyT k) ++ ·) ((congrArg (· ++ (⟨#[32, 104, 111, 115, 116, 10]⟩ : ByteArray)) (tb_app [49, 48, 46, 48, 46, 48, 46] (decN k))).trans (tb_app _ [32, 104, 111, 115, 116, 10]))).trans (tb_app _ _)
        generalize (⟨#[49, 48, 46, 48, 46, 48, 46]⟩ : ByteArray) ++ D = z1 at hA1 hA2 hA3 hz
        generalize z1 ++ (⟨#[32, 104, 111, 115, 116, 10]⟩ : ByteArray) = z2 at hA2 hA3 hz
        generalize S ++ z2 = z3 at hA3 hz
        have HZ := Lib.hid hz
        clear hSs hSl hSs2 hDs hz hS
        go_wp2_with (first
          | (refine wpList_insB rfl (.tmp 31) (.const (.bool true)) (.const (.int .i64 2)) rfl (wr.heap.size + 1) true 2 #[] 0 rfl rfl rfl (heap_last' (by rw [World.size_alloc])) rfl ?_; intro w3 hs3 hb3 ho3 hB3; have HS3 := Lib.hid hs3; have HB3 := Lib.hid hb3; have HO3 := Lib.hid ho3; have HL3 := Lib.hid hB3; clear hs3 hb3 ho3 hB3; go_simp)
          | (refine wpList_insB rfl (.tmp 32) (.const (.bool true)) (.const (.int .i64 1)) rfl w3.heap.size true 1 #[] 0 rfl rfl rfl (heap_alloc_last w3 _) rfl ?_; intro w5 hs5 hb5 ho5 hB5; have HS5 := Lib.hid hs5; have HB5 := Lib.hid hb5; have HO5 := Lib.hid ho5; have HL5 := Lib.hid hB5; clear hs5 hb5 ho5 hB5; go_simp)
          | (refine wpList_insB rfl (.tmp 32) (.const (.bool false)) (.const (.int .i64 0)) rfl w3.heap.size false 0 _ 1 rfl rfl rfl HB5.out rfl ?_; intro w6 hs6 hb6 ho6 hB6; have HS6 := Lib.hid hs6; have HB6 := Lib.hid hb6; have HO6 := Lib.hid ho6; have HL6 := Lib.hid hB6; clear hs6 hb6 ho6 hB6; go_simp)
          | (refine wpList_lookB rfl (.tmp 33) (.tmp 35) rfl w3.heap.size true 1 _ 2 0 rfl rfl HB6.out rfl ?_; go_simp)
          | (refine wpList_insB rfl (.tmp 31) (.const (.bool false)) (.tmp 36) rfl (wr.heap.size + 1) false 1 _ 1 rfl rfl rfl (HM6 w3 w5 w6 HS3.out HB3.out HO5.out HO6.out) rfl ?_
             intro w7 hs7 hb7 ho7 hB7
             have HB7 := Lib.hid hb7
             have hcv := HC w3 w5 w6 w7 HS3.out HO3.out HO5.out HO6.out ho7
             have HL7 := Lib.hid (HLL w3 w5 w6 w7 HS3.out HS5.out HS6.out HL3.out HL5.out HL6.out hB7)
             clear hs7 hb7 ho7 hB7; go_simp)
          | (refine wpList_lookB rfl (.tmp 37) (.tmp 39) rfl (wr.heap.size + 1) true 2 _ 2 0 rfl rfl HB7.out rfl ?_; go_simp))
        go_roundg g
        case measure => omega
        case rel => exact ⟨k + 1, by go_num, by omega, by rw [HZ.out], HL7⟩
      · by_cases hk2 : k < 100
        · have q1 : (k : Int) < 100 := by omega
          have q2 : ¬ (k : Int) < 10 := by omega
          have hk1 : 10 ≤ k ∧ k < 100 := ⟨by omega, hk2⟩
          have HDl : (decN k).length = 2 := by unfold decN; rw [if_neg (by omega), if_pos hk2]; rfl
          have HDg : ∀ j (hj : j < (decN k).length), (#[Value.int .u8 (48 + (k : Int) / 100), .int .u8 (48 + (k : Int) / 10 % 10), .int .u8 (48 + (k : Int) % 10)])[1 + j]? = some (.int .u8 (((decN k)[j]).toNat : Int)) := dig_cells1 hk1 
          have HC : ∀ w3 w5 w6 w7 : World, w3.heap.size = ((wr.alloc (.cells #[.int .u8 (48 + (k : Int) / 100), .int .u8 (48 + (k : Int) / 10 % 10), .int .u8 (48 + (k : Int) % 10)] 5)).alloc (.map #[] 0)).heap.size →
              (∀ j, j ≠ wr.heap.size + 1 → w3.heap[j]? = ((wr.alloc (.cells #[.int .u8 (48 + (k : Int) / 100), .int .u8 (48 + (k : Int) / 10 % 10), .int .u8 (48 + (k : Int) % 10)] 5)).alloc (.map #[] 0)).heap[j]?) →
              (∀ j, j ≠ w3.heap.size → w5.heap[j]? = (w3.alloc (.map #[] 0)).heap[j]?) → (∀ j, j ≠ w3.heap.size → w6.heap[j]? = w5.heap[j]?) → (∀ j, j ≠ wr.heap.size + 1 → w7.heap[j]? = w6.heap[j]?) →
              (convert 34 9 (.slice (some ⟨wr.heap.size, 1, none⟩) 2 2)).run Tryz.prog w7 = .ok (.string D) w7 := fun w3 w5 w6 w7 hs3 ho3 ho5 ho6 ho7 => by
            rw [World.size_alloc, World.size_alloc] at hs3
            have hblk : w7.heap[wr.heap.size]? = some (.cells #[.int .u8 (48 + (k : Int) / 100), .int .u8 (48 + (k : Int) / 10 % 10), .int .u8 (48 + (k : Int) % 10)] 5 (0, 0)) := by
              rw [ho7 _ (by omega), ho6 _ (by omega), ho5 _ (by omega), Lib.alloc_old _ _ _ (by omega), ho3 _ (by omega), Lib.alloc_old _ _ _ (by rw [World.size_alloc]; omega)]
              exact heap_alloc_last wr _
            have := run_convert_bytes_back (P := Tryz.prog) w7 34 9 5 ⟨wr.heap.size, 1, none⟩ 2 (decN k) Tryz.underlying34 Tryz.underlying5 Tryz.underlying9 (fun j hj => by
              rw [Addr.add_lit, Lib.cell_of_heap hblk]
              exact HDg j hj)
            rw [HDl] at this
            rw [this, HD.out]; rfl
          have HM6 : ∀ w3 w5 w6 : World, w3.heap.size = ((wr.alloc (.cells #[.int .u8 (48 + (k : Int) / 100), .int .u8 (48 + (k : Int) / 10 % 10), .int .u8 (48 + (k : Int) % 10)] 5)).alloc (.map #[] 0)).heap.size →
              w3.heap[wr.heap.size + 1]? = some (.map (#[].push { key := .bool true, val := .int .i64 2, born := 0 }) 1) → (∀ j, j ≠ w3.heap.size → w5.heap[j]? = (w3.alloc (.map #[] 0)).heap[j]?) → (∀ j, j ≠ w3.heap.size → w6.heap[j]? = w5.heap[j]?) →
              w6.heap[wr.heap.size + 1]? = some (.map (#[].push { key := .bool true, val := .int .i64 2, born := 0 }) 1) := fun w3 w5 w6 hs3 hb3 ho5 ho6 => by
            rw [World.size_alloc, World.size_alloc] at hs3
            rw [ho6 _ (by omega), ho5 _ (by omega), Lib.alloc_old _ _ _ (by omega)]; exact hb3
          have HLL : ∀ w3 w5 w6 w7 : World, w3.heap.size = ((wr.alloc (.cells #[.int .u8 (48 + (k : Int) / 100), .int .u8 (48 + (k : Int) / 10 % 10), .int .u8 (48 + (k : Int) % 10)] 5)).alloc (.map #[] 0)).heap.size → w5.heap.size = (w3.alloc (.map #[] 0)).heap.size → w6.heap.size = w5.heap.size →
              Below (wr.heap.size + 1) ((wr.alloc (.cells #[.int .u8 (48 + (k : Int) / 100), .int .u8 (48 + (k : Int) / 10 % 10), .int .u8 (48 + (k : Int) % 10)] 5)).alloc (.map #[] 0)) w3 → Below w3.heap.size (w3.alloc (.map #[] 0)) w5 → Below w3.heap.size w5 w6 → Below (wr.heap.size + 1) w6 w7 → Below w1.heap.size w1 w7 := fun w3 w5 w6 w7 hs3 hs5 hs6 h3 h5 h6 h7 => by
            rw [World.size_alloc, World.size_alloc] at hs3
            have hw := HBW.out.size
            have a1 := (HBW.out.alloc hw (.cells #[.int .u8 (48 + (k : Int) / 100), .int .u8 (48 + (k : Int) / 10 % 10), .int .u8 (48 + (k : Int) % 10)] 5)).alloc (by rw [World.size_alloc]; omega) (.map #[] 0)
            exact ((((a1.trans (h3.mono (by omega))).alloc (by omega) _).trans (h5.mono (by omega))).trans (h6.mono (by omega))).trans (h7.mono (by omega))
          have hSs := printL_len (l := manyL k) 1 (fun h hh => ⟨many_good k h hh, by
            obtain ⟨i, _, rfl⟩ := List.mem_map.1 hh
            exact Nat.le_refl 1⟩)
          have hSl : (manyL k).length = k := by unfold manyL; rw [List.length_map, List.length_range]
          rw [hSl] at hSs
          have hSs2 : S.size ≤ 38000 := by
            rw [← hS]
            show (manyT k).toArray.size ≤ _
            rw [List.size_toArray]
            unfold manyT
            omega
          have hDs : D.size ≤ 3 := by
            rw [HD.out]
            show (decN k).toArray.size ≤ _
            rw [List.size_toArray, HDl]; omega
          have hA1 := fun W => run_string_add_sum (P := Tryz.prog) (w := W) ⟨#[49, 48, 46, 48, 46, 48, 46]⟩ D (by rw [show (ByteArray.mk #[49, 48, 46, 48, 46, 48, 46]).size = 7 from rfl]; omega)
          have hA2 := fun W => run_string_add_sum (P := Tryz.prog) (w := W) (⟨#[49, 48, 46, 48, 46, 48, 46]⟩ ++ D) ⟨#[32, 104, 111, 115, 116, 10]⟩ (by rw [ByteArray.size_append, show (ByteArray.mk #[49, 48, 46, 48, 46, 48, 46]).size = 7 from rfl, show (ByteArray.mk #[32, 104, 111, 115, 116, 10]).size = 6 from rfl]; omega)
          have hA3 := fun W => run_string_add_sum (P := Tryz.prog) (w := W) S (⟨#[49, 48, 46, 48, 46, 48, 46]⟩ ++ D ++ ⟨#[32, 104, 111, 115, 116, 10]⟩) (by rw [ByteArray.size_append, ByteArray.size_append, show (ByteArray.mk #[49, 48, 46, 48, 46, 48, 46]).size = 7 from rfl, show (ByteArray.mk #[32, 104, 111, 115, 116, 10]).size = 6 from rfl]; omega)
          have hz : S ++ (⟨#[49, 48, 46, 48, 46, 48, 46]⟩ ++ D ++ ⟨#[32, 104, 111, 115, 116, 10]⟩) = tb (manyT (k + 1)) := by
            rw [← hS, HD.out, HNX.out]
            exact (congrArg (tb (manyT k) ++ ·) ((congrArg (· ++ (⟨#[32, 104, 111, 115, 116, 10]⟩ : ByteArray)) (tb_app [49, 48, 46, 48, 46, 48, 46] (decN k))).trans (tb_app _ [32, 104, 111, 115, 116, 10]))).trans (tb_app _ _)
          generalize (⟨#[49, 48, 46, 48, 46, 48, 46]⟩ : ByteArray) ++ D = z1 at hA1 hA2 hA3 hz
          generalize z1 ++ (⟨#[32, 104, 111, 115, 116, 10]⟩ : ByteArray) = z2 at hA2 hA3 hz
          generalize S ++ z2 = z3 at hA3 hz
          have HZ := Lib.hid hz
          clear hSs hSl hSs2 hDs hz hS
          go_wp2_with (first
            | (refine wpList_insB rfl (.tmp 31) (.const (.bool true)) (.const (.int .i64 2)) rfl (wr.heap.size + 1) true 2 #[] 0 rfl rfl rfl (heap_last' (by rw [World.size_alloc])) rfl ?_; intro w3 hs3 hb3 ho3 hB3; have HS3 := Lib.hid hs3; have HB3 := Lib.hid hb3; have HO3 := Lib.hid ho3; have HL3 := Lib.hid hB3; clear hs3 hb3 ho3 hB3; go_simp)
            | (refine wpList_insB rfl (.tmp 32) (.const (.bool true)) (.const (.int .i64 1)) rfl w3.heap.size true 1 #[] 0 rfl rfl rfl (heap_alloc_last w3 _) rfl ?_; intro w5 hs5 hb5 ho5 hB5; have HS5 := Lib.hid hs5; have HB5 := Lib.hid hb5; have HO5 := Lib.hid ho5; have HL5 := Lib.hid hB5; clear hs5 hb5 ho5 hB5; go_simp)
            | (refine wpList_insB rfl (.tmp 32) (.const (.bool false)) (.const (.int .i64 0)) rfl w3.heap.size false 0 _ 1 rfl rfl rfl HB5.out rfl ?_; intro w6 hs6 hb6 ho6 hB6; have HS6 := Lib.hid hs6; have HB6 := Lib.hid hb6; have HO6 := Lib.hid ho6; have HL6 := Lib.hid hB6; clear hs6 hb6 ho6 hB6; go_simp)
            | (refine wpList_lookB rfl (.tmp 33) (.tmp 35) rfl w3.heap.size true 1 _ 2 0 rfl rfl HB6.out rfl ?_; go_simp)
            | (refine wpList_insB rfl (.tmp 31) (.const (.bool false)) (.tmp 36) rfl (wr.heap.size + 1) false 1 _ 1 rfl rfl rfl (HM6 w3 w5 w6 HS3.out HB3.out HO5.out HO6.out) rfl ?_
               intro w7 hs7 hb7 ho7 hB7
               have HB7 := Lib.hid hb7
               have hcv := HC w3 w5 w6 w7 HS3.out HO3.out HO5.out HO6.out ho7
               have HL7 := Lib.hid (HLL w3 w5 w6 w7 HS3.out HS5.out HS6.out HL3.out HL5.out HL6.out hB7)
               clear hs7 hb7 ho7 hB7; go_simp)
            | (refine wpList_lookB rfl (.tmp 37) (.tmp 39) rfl (wr.heap.size + 1) false 1 _ 2 1 rfl rfl HB7.out rfl ?_; go_simp))
          go_roundg g
          case measure => omega
          case rel => exact ⟨k + 1, by go_num, by omega, by rw [HZ.out], HL7⟩
        · have q1 : ¬ (k : Int) < 100 := by omega
          have q2 : ¬ (k : Int) < 10 := by omega
          have hk1 : 100 ≤ k ∧ k < 128 := ⟨by omega, by omega⟩
          have HDl : (decN k).length = 3 := by unfold decN; rw [if_neg (by omega), if_neg (by omega)]; rfl
          have HDg : ∀ j (hj : j < (decN k).length), (#[Value.int .u8 (48 + (k : Int) / 100), .int .u8 (48 + (k : Int) / 10 % 10), .int .u8 (48 + (k : Int) % 10)])[0 + j]? = some (.int .u8 (((decN k)[j]).toNat : Int)) := dig_cells0 hk1 
          have HC : ∀ w3 w5 w6 w7 : World, w3.heap.size = ((wr.alloc (.cells #[.int .u8 (48 + (k : Int) / 100), .int .u8 (48 + (k : Int) / 10 % 10), .int .u8 (48 + (k : Int) % 10)] 5)).alloc (.map #[] 0)).heap.size →
              (∀ j, j ≠ wr.heap.size + 1 → w3.heap[j]? = ((wr.alloc (.cells #[.int .u8 (48 + (k : Int) / 100), .int .u8 (48 + (k : Int) / 10 % 10), .int .u8 (48 + (k : Int) % 10)] 5)).alloc (.map #[] 0)).heap[j]?) →
              (∀ j, j ≠ w3.heap.size → w5.heap[j]? = (w3.alloc (.map #[] 0)).heap[j]?) → (∀ j, j ≠ w3.heap.size → w6.heap[j]? = w5.heap[j]?) → (∀ j, j ≠ wr.heap.size + 1 → w7.heap[j]? = w6.heap[j]?) →
              (convert 34 9 (.slice (some ⟨wr.heap.size, 0, none⟩) 3 3)).run Tryz.prog w7 = .ok (.string D) w7 := fun w3 w5 w6 w7 hs3 ho3 ho5 ho6 ho7 => by
            rw [World.size_alloc, World.size_alloc] at hs3
            have hblk : w7.heap[wr.heap.size]? = some (.cells #[.int .u8 (48 + (k : Int) / 100), .int .u8 (48 + (k : Int) / 10 % 10), .int .u8 (48 + (k : Int) % 10)] 5 (0, 0)) := by
              rw [ho7 _ (by omega), ho6 _ (by omega), ho5 _ (by omega), Lib.alloc_old _ _ _ (by omega), ho3 _ (by omega), Lib.alloc_old _ _ _ (by rw [World.size_alloc]; omega)]
              exact heap_alloc_last wr _
            have := run_convert_bytes_back (P := Tryz.prog) w7 34 9 5 ⟨wr.heap.size, 0, none⟩ 3 (decN k) Tryz.underlying34 Tryz.underlying5 Tryz.underlying9 (fun j hj => by
              rw [Addr.add_lit, Lib.cell_of_heap hblk]
              exact HDg j hj)
            rw [HDl] at this
            rw [this, HD.out]; rfl
          have HM6 : ∀ w3 w5 w6 : World, w3.heap.size = ((wr.alloc (.cells #[.int .u8 (48 + (k : Int) / 100), .int .u8 (48 + (k : Int) / 10 % 10), .int .u8 (48 + (k : Int) % 10)] 5)).alloc (.map #[] 0)).heap.size →
              w3.heap[wr.heap.size + 1]? = some (.map (#[].push { key := .bool true, val := .int .i64 2, born := 0 }) 1) → (∀ j, j ≠ w3.heap.size → w5.heap[j]? = (w3.alloc (.map #[] 0)).heap[j]?) → (∀ j, j ≠ w3.heap.size → w6.heap[j]? = w5.heap[j]?) →
              w6.heap[wr.heap.size + 1]? = some (.map (#[].push { key := .bool true, val := .int .i64 2, born := 0 }) 1) := fun w3 w5 w6 hs3 hb3 ho5 ho6 => by
            rw [World.size_alloc, World.size_alloc] at hs3
            rw [ho6 _ (by omega), ho5 _ (by omega), Lib.alloc_old _ _ _ (by omega)]; exact hb3
          have HLL : ∀ w3 w5 w6 w7 : World, w3.heap.size = ((wr.alloc (.cells #[.int .u8 (48 + (k : Int) / 100), .int .u8 (48 + (k : Int) / 10 % 10), .int .u8 (48 + (k : Int) % 10)] 5)).alloc (.map #[] 0)).heap.size → w5.heap.size = (w3.alloc (.map #[] 0)).heap.size → w6.heap.size = w5.heap.size →
              Below (wr.heap.size + 1) ((wr.alloc (.cells #[.int .u8 (48 + (k : Int) / 100), .int .u8 (48 + (k : Int) / 10 % 10), .int .u8 (48 + (k : Int) % 10)] 5)).alloc (.map #[] 0)) w3 → Below w3.heap.size (w3.alloc (.map #[] 0)) w5 → Below w3.heap.size w5 w6 → Below (wr.heap.size + 1) w6 w7 → Below w1.heap.size w1 w7 := fun w3 w5 w6 w7 hs3 hs5 hs6 h3 h5 h6 h7 => by
            rw [World.size_alloc, World.size_alloc] at hs3
            have hw := HBW.out.size
            have a1 := (HBW.out.alloc hw (.cells #[.int .u8 (48 + (k : Int) / 100), .int .u8 (48 + (k : Int) / 10 % 10), .int .u8 (48 + (k : Int) % 10)] 5)).alloc (by rw [World.size_alloc]; omega) (.map #[] 0)
            exact ((((a1.trans (h3.mono (by omega))).alloc (by omega) _).trans (h5.mono (by omega))).trans (h6.mono (by omega))).trans (h7.mono (by omega))
          have hSs := printL_len (l := manyL k) 1 (fun h hh => ⟨many_good k h hh, by
            obtain ⟨i, _, rfl⟩ := List.mem_map.1 hh
            exact Nat.le_refl 1⟩)
          have hSl : (manyL k).length = k := by unfold manyL; rw [List.length_map, List.length_range]
          rw [hSl] at hSs
          have hSs2 : S.size ≤ 38000 := by
            rw [← hS]
            show (manyT k).toArray.size ≤ _
            rw [List.size_toArray]
            unfold manyT
            omega
          have hDs : D.size ≤ 3 := by
            rw [HD.out]
            show (decN k).toArray.size ≤ _
            rw [List.size_toArray, HDl]; omega
          have hA1 := fun W => run_string_add_sum (P := Tryz.prog) (w := W) ⟨#[49, 48, 46, 48, 46, 48, 46]⟩ D (by rw [show (ByteArray.mk #[49, 48, 46, 48, 46, 48, 46]).size = 7 from rfl]; omega)
          have hA2 := fun W => run_string_add_sum (P := Tryz.prog) (w := W) (⟨#[49, 48, 46, 48, 46, 48, 46]⟩ ++ D) ⟨#[32, 104, 111, 115, 116, 10]⟩ (by rw [ByteArray.size_append, show (ByteArray.mk #[49, 48, 46, 48, 46, 48, 46]).size = 7 from rfl, show (ByteArray.mk #[32, 104, 111, 115, 116, 10]).size = 6 from rfl]; omega)
          have hA3 := fun W => run_string_add_sum (P := Tryz.prog) (w := W) S (⟨#[49, 48, 46, 48, 46, 48, 46]⟩ ++ D ++ ⟨#[32, 104, 111, 115, 116, 10]⟩) (by rw [ByteArray.size_append, ByteArray.size_append, show (ByteArray.mk #[49, 48, 46, 48, 46, 48, 46]).size = 7 from rfl, show (ByteArray.mk #[32, 104, 111, 115, 116, 10]).size = 6 from rfl]; omega)
          have hz : S ++ (⟨#[49, 48, 46, 48, 46, 48, 46]⟩ ++ D ++ ⟨#[32, 104, 111, 115, 116, 10]⟩) = tb (manyT (k + 1)) := by
            rw [← hS, HD.out, HNX.out]
            exact (congrArg (tb (manyT k) ++ ·) ((congrArg (· ++ (⟨#[32, 104, 111, 115, 116, 10]⟩ : ByteArray)) (tb_app [49, 48, 46, 48, 46, 48, 46] (decN k))).trans (tb_app _ [32, 104, 111, 115, 116, 10]))).trans (tb_app _ _)
          generalize (⟨#[49, 48, 46, 48, 46, 48, 46]⟩ : ByteArray) ++ D = z1 at hA1 hA2 hA3 hz
          generalize z1 ++ (⟨#[32, 104, 111, 115, 116, 10]⟩ : ByteArray) = z2 at hA2 hA3 hz
          generalize S ++ z2 = z3 at hA3 hz
          have HZ := Lib.hid hz
          clear hSs hSl hSs2 hDs hz hS
          go_wp2_with (first
            | (refine wpList_insB rfl (.tmp 31) (.const (.bool true)) (.const (.int .i64 2)) rfl (wr.heap.size + 1) true 2 #[] 0 rfl rfl rfl (heap_last' (by rw [World.size_alloc])) rfl ?_; intro w3 hs3 hb3 ho3 hB3; have HS3 := Lib.hid hs3; have HB3 := Lib.hid hb3; have HO3 := Lib.hid ho3; have HL3 := Lib.hid hB3; clear hs3 hb3 ho3 hB3; go_simp)
            | (refine wpList_insB rfl (.tmp 32) (.const (.bool true)) (.const (.int .i64 1)) rfl w3.heap.size true 1 #[] 0 rfl rfl rfl (heap_alloc_last w3 _) rfl ?_; intro w5 hs5 hb5 ho5 hB5; have HS5 := Lib.hid hs5; have HB5 := Lib.hid hb5; have HO5 := Lib.hid ho5; have HL5 := Lib.hid hB5; clear hs5 hb5 ho5 hB5; go_simp)
            | (refine wpList_insB rfl (.tmp 32) (.const (.bool false)) (.const (.int .i64 0)) rfl w3.heap.size false 0 _ 1 rfl rfl rfl HB5.out rfl ?_; intro w6 hs6 hb6 ho6 hB6; have HS6 := Lib.hid hs6; have HB6 := Lib.hid hb6; have HO6 := Lib.hid ho6; have HL6 := Lib.hid hB6; clear hs6 hb6 ho6 hB6; go_simp)
            | (refine wpList_lookB rfl (.tmp 33) (.tmp 35) rfl w3.heap.size false 0 _ 2 1 rfl rfl HB6.out rfl ?_; go_simp)
            | (refine wpList_insB rfl (.tmp 31) (.const (.bool false)) (.tmp 36) rfl (wr.heap.size + 1) false 0 _ 1 rfl rfl rfl (HM6 w3 w5 w6 HS3.out HB3.out HO5.out HO6.out) rfl ?_
               intro w7 hs7 hb7 ho7 hB7
               have HB7 := Lib.hid hb7
               have hcv := HC w3 w5 w6 w7 HS3.out HO3.out HO5.out HO6.out ho7
               have HL7 := Lib.hid (HLL w3 w5 w6 w7 HS3.out HS5.out HS6.out HL3.out HL5.out HL6.out hB7)
               clear hs7 hb7 ho7 hB7; go_simp)
            | (refine wpList_lookB rfl (.tmp 37) (.tmp 39) rfl (wr.heap.size + 1) false 0 _ 2 1 rfl rfl HB7.out rfl ?_; go_simp))
          go_roundg g
          case measure => omega
          case rel => exact ⟨k + 1, by go_num, by omega, by rw [HZ.out], HL7⟩
    · have hkI : ¬ (k : Int) < (m : Int) := by omega
      have hkm : k = m := by omega
      rw [hkm]
      have huA := Tryz.underlying28
      have hSs := printL_len (l := manyL m) 1 (fun h hh => ⟨many_good m h hh, by
        obtain ⟨i, _, rfl⟩ := List.mem_map.1 hh
        exact Nat.le_refl 1⟩)
      have hSl : (manyL m).length = m := by unfold manyL; rw [List.length_map, List.length_range]
      rw [hSl] at hSs
      have hp := hparse_at (tb (manyT m)) ((manyL m).take 64) (many_pd m) wr (HE1.out.below HBW.out) (by
        show (manyT m).toArray.size ≤ _
        rw [List.size_toArray]
        unfold manyT
        omega)
      clear hSs hSl
      generalize hSm : tb (manyT m) = SM at hp ⊢
      clear hSm
      have hkI2 : ¬ (m : Int) < (m : Int) := by omega
      go_wp2_with fail
      refine hp.mono ?_
      rintro e w4 ⟨A, c, l, hl, rfl, hA, hb4⟩
      have hll : l.length = ((manyL m).take 64).length := by rw [← hl, List.length_map]
      rw [many_len] at hll ⊢
      obtain ⟨M64, hM⟩ : ∃ M64, M64 = min m 64 := ⟨_, rfl⟩
      rw [← hM] at hll ⊢
      have hf := find_e A c M64 l ⟨#[104, 111, 115, 116]⟩ 1 w4 ((HE1.out.below HBW.out).below hb4) hA hll (by omega)
      have hb14 := HBW.out.trans (hb4.mono HBW.out.size)
      have HB4 := Lib.hid (HB1.out.trans (hb14.mono HB1.out.size))
      have HL := Lib.hid hl
      have HA := Lib.hid hA
      have HM := Lib.hid hM
      clear hp hb4 hA hl hb14 hM
      go_wp2_with fail
      refine hf.mono ?_
      rintro e w5 ⟨rv, rfl, hr, hb5⟩
      rw [HL.out, show (ByteArray.mk #[104, 111, 115, 116]).data.toList = HOST from rfl] at hr
      rw [HL.out, show (ByteArray.mk #[104, 111, 115, 116]).data.toList = HOST from rfl, many_any hm]
      have hfl := many_find_len hm
      have hf1 := many_first hm
      have hRA : ∀ r ∈ findL ((manyL m).take 64) HOST 1, r.addr.length = 16 := rec_addr (fun h hh => (many_good m h (List.mem_of_mem_take hh)).len)
      have HB5 := Lib.hid (HB4.out.trans (hb5.mono HB4.out.size))
      have HA5 := Lib.hid (HA.out.below hb5)
      generalize findL ((manyL m).take 64) HOST 1 = RS at hr hfl hf1 hRA
      obtain ⟨R, rc, rfl, hR⟩ : ∃ R rc, rv = .slice R RS.length rc ∧ (RS ≠ [] → ∃ b, R = some ⟨b, 0, none⟩ ∧ b < w5.heap.size ∧ ∀ k u, (rvsF ⟨#[104, 111, 115, 116]⟩ 1 RS)[k]? = some u → w5.cell? ⟨b, k, none⟩ = some u) := by
        rcases hr with ⟨rfl, rfl⟩ | ⟨_, b, c2, rfl, hlt, hc⟩
        · exact ⟨none, 0, rfl, fun h => absurd rfl h⟩
        · exact ⟨_, c2, rfl, fun _ => ⟨b, rfl, hlt, hc⟩⟩
      rw [hfl]
      obtain ⟨N32, hN⟩ : ∃ N32, N32 = min m 32 := ⟨_, rfl⟩
      rw [← hN]
      have hM := HM.out
      have hmi1 : min (m : Int) 64 = (M64 : Int) := by omega
      have hmi2 : min (min (m : Int) 32) 64 = (N32 : Int) := by omega
      have hmI0 : (0 : Int) ≤ (m : Int) := by omega
      have HN := Lib.hid hN
      have hN0 : 0 < m → (0 : Int) < (N32 : Int) := fun h => by omega
      have hM1 : 1 < m → (1 : Int) < (M64 : Int) := fun h => by omega
      have HM2 := Lib.hid hM
      clear hr hf hN hM hfl hb5 HM
      by_cases h0 : m = 0
      · rw [show decide (0 < m) = false from decide_eq_false (by omega)]
        have e1 : M64 = 0 := by omega
        have e2 : N32 = 0 := by have := HN.out; omega
        clear hN0 hM1 hf1 hR hRA hmm hbm hmi1 hmi2 HN HM2
        subst h0
        subst e1
        subst e2
        go_wp2_with fail
        refine wp_region_held_drew (S := (fun W : World => Below w5.heap.size w5 W)) (by kernel_rfl) (Below.refl _ w5).drew (fun hHeld => ?_)
        refine wpAnyH_take (i := 0) (oi := ({ dst := some 54, op := Go.Op.move (Go.Operand.tmp 5), type := 24, pos := "law.go:196", after := #[], guard := none } : Oper)) (v := .slice A 0 c) rfl (by kernel_rfl) (by kernel_rfl) (by kernel_rfl) (fun _ _ _ h => h) (Or.inl ⟨by rfl, fun w' _ => ?_⟩) hHeld ?_
        · go_simp <;> first | omega | exact hmi3 | (intro hq; exfalso; omega) | rfl
        simp only [Act.put, List.setIfInBounds_toArray, List.set_cons_zero, List.set_cons_succ]
        refine wpAnyH_take (i := 1) (oi := ({ dst := some 55, op := Go.Op.call { callee := Go.Callee.builtin Go.Builtin.len, args := #[Go.Operand.tmp 54], argTypes := #[24] }, type := 3, pos := "law.go:196", after := #[{ on := 0, ground := Go.Ground.data }], guard := none } : Oper)) (v := .int .i64 0) rfl (by kernel_rfl) (by kernel_rfl) (by kernel_rfl) (fun _ _ _ h => h) (Or.inl ⟨by rfl, fun w' _ => ?_⟩) hHeld ?_
        · go_simp <;> first | omega | exact hmi3 | (intro hq; exfalso; omega) | rfl
        simp only [Act.put, List.setIfInBounds_toArray, List.set_cons_zero, List.set_cons_succ]
        refine wpAnyH_take (i := 2) (oi := ({ dst := some 56, op := Go.Op.move (Go.Operand.tmp 0), type := 3, pos := "law.go:196", after := #[], guard := none } : Oper)) (v := .int .i64 0) rfl (by kernel_rfl) (by kernel_rfl) (by kernel_rfl) (fun _ _ _ h => h) (Or.inl ⟨by rfl, fun w' _ => ?_⟩) hHeld ?_
        · go_simp <;> first | omega | exact hmi3 | (intro hq; exfalso; omega) | rfl
        simp only [Act.put, List.setIfInBounds_toArray, List.set_cons_zero, List.set_cons_succ]
        refine wpAnyH_take (i := 3) (oi := ({ dst := some 57, op := Go.Op.call { callee := Go.Callee.builtin Go.Builtin.min, args := #[Go.Operand.tmp 56, Go.Operand.const (Go.Value.int Go.IntKind.i64 64)], argTypes := #[3, 3] }, type := 3, pos := "law.go:196", after := #[{ on := 2, ground := Go.Ground.data }], guard := none } : Oper)) (v := .int .i64 0) rfl (by kernel_rfl) (by kernel_rfl) (by kernel_rfl) (fun _ _ _ h => h) (Or.inl ⟨by rfl, fun w' _ => ?_⟩) hHeld ?_
        · go_simp <;> first | omega | exact hmi3 | (intro hq; exfalso; omega) | rfl
        simp only [Act.put, List.setIfInBounds_toArray, List.set_cons_zero, List.set_cons_succ]
        refine wpAnyH_take (i := 4) (oi := ({ dst := some 58, op := Go.Op.binOp Go.BinOp.eql 3 (Go.Operand.tmp 55) (Go.Operand.tmp 57) 3, type := 4, pos := "law.go:196", after := #[{ on := 1, ground := Go.Ground.data }, { on := 3, ground := Go.Ground.data }], guard := none } : Oper)) (v := .bool true) rfl (by kernel_rfl) (by kernel_rfl) (by kernel_rfl) (fun _ _ _ h => h) (Or.inl ⟨by rfl, fun w' _ => ?_⟩) hHeld ?_
        · go_simp <;> first | omega | exact hmi3 | (intro hq; exfalso; omega) | rfl
        simp only [Act.put, List.setIfInBounds_toArray, List.set_cons_zero, List.set_cons_succ]
        refine wpAnyH_take (i := 5) (oi := ({ dst := some 59, op := Go.Op.move (Go.Operand.tmp 58), type := 4, pos := "law.go:196", after := #[{ on := 4, ground := Go.Ground.data }], guard := none } : Oper)) (v := .bool true) rfl (by kernel_rfl) (by kernel_rfl) (by kernel_rfl) (fun _ _ _ h => h) (Or.inl ⟨by rfl, fun w' _ => ?_⟩) hHeld ?_
        · go_simp <;> first | omega | exact hmi3 | (intro hq; exfalso; omega) | rfl
        simp only [Act.put, List.setIfInBounds_toArray, List.set_cons_zero, List.set_cons_succ]
        refine wpAnyH_take (i := 6) (oi := ({ dst := some 60, op := Go.Op.move (Go.Operand.tmp 6), type := 36, pos := "law.go:196", after := #[{ on := 5, ground := Go.Ground.guard }], guard := some (5, true) } : Oper)) (v := .slice R 0 rc) rfl (by kernel_rfl) (by kernel_rfl) (by kernel_rfl) (fun _ _ _ h => h) (Or.inl ⟨by rfl, fun w' _ => ?_⟩) hHeld ?_
        · go_simp <;> first | omega | exact hmi3 | (intro hq; exfalso; omega) | rfl
        simp only [Act.put, List.setIfInBounds_toArray, List.set_cons_zero, List.set_cons_succ]
        refine wpAnyH_take (i := 7) (oi := ({ dst := some 61, op := Go.Op.call { callee := Go.Callee.builtin Go.Builtin.len, args := #[Go.Operand.tmp 60], argTypes := #[36] }, type := 3, pos := "law.go:196", after := #[{ on := 6, ground := Go.Ground.data }, { on := 5, ground := Go.Ground.guard }], guard := some (5, true) } : Oper)) (v := .int .i64 0) rfl (by kernel_rfl) (by kernel_rfl) (by kernel_rfl) (fun _ _ _ h => h) (Or.inl ⟨by rfl, fun w' _ => ?_⟩) hHeld ?_
        · go_simp <;> first | omega | exact hmi3 | (intro hq; exfalso; omega) | rfl
        simp only [Act.put, List.setIfInBounds_toArray, List.set_cons_zero, List.set_cons_succ]
        refine wpAnyH_take (i := 8) (oi := ({ dst := some 62, op := Go.Op.move (Go.Operand.tmp 0), type := 3, pos := "law.go:196", after := #[{ on := 5, ground := Go.Ground.guard }], guard := some (5, true) } : Oper)) (v := .int .i64 0) rfl (by kernel_rfl) (by kernel_rfl) (by kernel_rfl) (fun _ _ _ h => h) (Or.inl ⟨by rfl, fun w' _ => ?_⟩) hHeld ?_
        · go_simp <;> first | omega | exact hmi3 | (intro hq; exfalso; omega) | rfl
        simp only [Act.put, List.setIfInBounds_toArray, List.set_cons_zero, List.set_cons_succ]
        refine wpAnyH_take (i := 9) (oi := ({ dst := some 63, op := Go.Op.call { callee := Go.Callee.builtin Go.Builtin.min, args := #[Go.Operand.tmp 62, Go.Operand.const (Go.Value.int Go.IntKind.i64 32), Go.Operand.const (Go.Value.int Go.IntKind.i64 64)], argTypes := #[3, 3, 3] }, type := 3, pos := "law.go:196", after := #[{ on := 8, ground := Go.Ground.data }, { on := 5, ground := Go.Ground.guard }], guard := some (5, true) } : Oper)) (v := .int .i64 0) rfl (by kernel_rfl) (by kernel_rfl) (by kernel_rfl) (fun _ _ _ h => h) (Or.inl ⟨by rfl, fun w' _ => ?_⟩) hHeld ?_
        · go_simp <;> first | omega | exact hmi3 | (intro hq; exfalso; omega) | rfl
        simp only [Act.put, List.setIfInBounds_toArray, List.set_cons_zero, List.set_cons_succ]
        refine wpAnyH_take (i := 10) (oi := ({ dst := some 64, op := Go.Op.binOp Go.BinOp.eql 3 (Go.Operand.tmp 61) (Go.Operand.tmp 63) 3, type := 4, pos := "law.go:196", after := #[{ on := 7, ground := Go.Ground.data }, { on := 9, ground := Go.Ground.data }, { on := 5, ground := Go.Ground.guard }], guard := some (5, true) } : Oper)) (v := .bool true) rfl (by kernel_rfl) (by kernel_rfl) (by kernel_rfl) (fun _ _ _ h => h) (Or.inl ⟨by rfl, fun w' _ => ?_⟩) hHeld ?_
        · go_simp <;> first | omega | exact hmi3 | (intro hq; exfalso; omega) | rfl
        simp only [Act.put, List.setIfInBounds_toArray, List.set_cons_zero, List.set_cons_succ]
        refine wpAnyH_take (i := 11) (oi := ({ dst := some 65, op := Go.Op.pick (Go.Operand.tmp 59) (Go.Operand.tmp 64) (Go.Operand.const (Go.Value.bool false)), type := 4, pos := "law.go:196", after := #[{ on := 5, ground := Go.Ground.data }, { on := 10, ground := Go.Ground.data }], guard := none } : Oper)) (v := .bool true) rfl (by kernel_rfl) (by kernel_rfl) (by kernel_rfl) (fun _ _ _ h => h) (Or.inl ⟨by rfl, fun w' _ => ?_⟩) hHeld ?_
        · go_simp <;> first | omega | exact hmi3 | (intro hq; exfalso; omega) | rfl
        simp only [Act.put, List.setIfInBounds_toArray, List.set_cons_zero, List.set_cons_succ]
        refine wpAnyH_take (i := 12) (oi := ({ dst := some 66, op := Go.Op.move (Go.Operand.tmp 65), type := 4, pos := "law.go:196", after := #[{ on := 11, ground := Go.Ground.data }, { on := 5, ground := Go.Ground.chain }], guard := none } : Oper)) (v := .bool true) rfl (by kernel_rfl) (by kernel_rfl) (by kernel_rfl) (fun _ _ _ h => h) (Or.inl ⟨by rfl, fun w' _ => ?_⟩) hHeld ?_
        · go_simp <;> first | omega | exact hmi3 | (intro hq; exfalso; omega) | rfl
        simp only [Act.put, List.setIfInBounds_toArray, List.set_cons_zero, List.set_cons_succ]
        refine wpAnyH_take (i := 13) (oi := ({ dst := some 67, op := Go.Op.move (Go.Operand.tmp 7), type := 4, pos := "law.go:196", after := #[{ on := 12, ground := Go.Ground.guard }], guard := some (12, true) } : Oper)) (v := .bool false) rfl (by kernel_rfl) (by kernel_rfl) (by kernel_rfl) (fun _ _ _ h => h) (Or.inl ⟨by rfl, fun w' _ => ?_⟩) hHeld ?_
        · go_simp <;> first | omega | exact hmi3 | (intro hq; exfalso; omega) | rfl
        simp only [Act.put, List.setIfInBounds_toArray, List.set_cons_zero, List.set_cons_succ]
        refine wpAnyH_take (i := 14) (oi := ({ dst := some 68, op := Go.Op.move (Go.Operand.tmp 0), type := 3, pos := "law.go:196", after := #[{ on := 12, ground := Go.Ground.guard }], guard := some (12, true) } : Oper)) (v := .int .i64 0) rfl (by kernel_rfl) (by kernel_rfl) (by kernel_rfl) (fun _ _ _ h => h) (Or.inl ⟨by rfl, fun w' _ => ?_⟩) hHeld ?_
        · go_simp <;> first | omega | exact hmi3 | (intro hq; exfalso; omega) | rfl
        simp only [Act.put, List.setIfInBounds_toArray, List.set_cons_zero, List.set_cons_succ]
        refine wpAnyH_take (i := 15) (oi := ({ dst := some 69, op := Go.Op.binOp Go.BinOp.gtr 3 (Go.Operand.tmp 68) (Go.Operand.const (Go.Value.int Go.IntKind.i64 0)) 3, type := 4, pos := "law.go:196", after := #[{ on := 14, ground := Go.Ground.data }, { on := 12, ground := Go.Ground.guard }], guard := some (12, true) } : Oper)) (v := .bool false) rfl (by kernel_rfl) (by kernel_rfl) (by kernel_rfl) (fun _ _ _ h => h) (Or.inl ⟨by rfl, fun w' _ => ?_⟩) hHeld ?_
        · go_simp <;> first | omega | exact hmi3 | (intro hq; exfalso; omega) | rfl
        simp only [Act.put, List.setIfInBounds_toArray, List.set_cons_zero, List.set_cons_succ]
        refine wpAnyH_take (i := 16) (oi := ({ dst := some 70, op := Go.Op.binOp Go.BinOp.eql 4 (Go.Operand.tmp 67) (Go.Operand.tmp 69) 4, type := 4, pos := "law.go:196", after := #[{ on := 13, ground := Go.Ground.data }, { on := 15, ground := Go.Ground.data }, { on := 12, ground := Go.Ground.guard }], guard := some (12, true) } : Oper)) (v := .bool true) rfl (by kernel_rfl) (by kernel_rfl) (by kernel_rfl) (fun _ _ _ h => h) (Or.inl ⟨by rfl, fun w' _ => ?_⟩) hHeld ?_
        · go_simp <;> first | omega | exact hmi3 | (intro hq; exfalso; omega) | rfl
        simp only [Act.put, List.setIfInBounds_toArray, List.set_cons_zero, List.set_cons_succ]
        refine wpAnyH_take (i := 17) (oi := ({ dst := some 71, op := Go.Op.pick (Go.Operand.tmp 66) (Go.Operand.tmp 70) (Go.Operand.const (Go.Value.bool false)), type := 4, pos := "law.go:196", after := #[{ on := 12, ground := Go.Ground.data }, { on := 16, ground := Go.Ground.data }], guard := none } : Oper)) (v := .bool true) rfl (by kernel_rfl) (by kernel_rfl) (by kernel_rfl) (fun _ _ _ h => h) (Or.inl ⟨by rfl, fun w' _ => ?_⟩) hHeld ?_
        · go_simp <;> first | omega | exact hmi3 | (intro hq; exfalso; omega) | rfl
        simp only [Act.put, List.setIfInBounds_toArray, List.set_cons_zero, List.set_cons_succ]
        refine wpAnyH_take (i := 18) (oi := ({ dst := some 72, op := Go.Op.move (Go.Operand.tmp 71), type := 4, pos := "law.go:196", after := #[{ on := 17, ground := Go.Ground.data }, { on := 12, ground := Go.Ground.chain }], guard := none } : Oper)) (v := .bool true) rfl (by kernel_rfl) (by kernel_rfl) (by kernel_rfl) (fun _ _ _ h => h) (Or.inl ⟨by rfl, fun w' _ => ?_⟩) hHeld ?_
        · go_simp <;> first | omega | exact hmi3 | (intro hq; exfalso; omega) | rfl
        simp only [Act.put, List.setIfInBounds_toArray, List.set_cons_zero, List.set_cons_succ]
        refine wpAnyH_take (i := 19) (oi := ({ dst := some 73, op := Go.Op.move (Go.Operand.tmp 0), type := 3, pos := "law.go:196", after := #[{ on := 18, ground := Go.Ground.guard }], guard := some (18, true) } : Oper)) (v := .int .i64 0) rfl (by kernel_rfl) (by kernel_rfl) (by kernel_rfl) (fun _ _ _ h => h) (Or.inl ⟨by rfl, fun w' _ => ?_⟩) hHeld ?_
        · go_simp <;> first | omega | exact hmi3 | (intro hq; exfalso; omega) | rfl
        simp only [Act.put, List.setIfInBounds_toArray, List.set_cons_zero, List.set_cons_succ]
        refine wpAnyH_take (i := 20) (oi := ({ dst := some 74, op := Go.Op.binOp Go.BinOp.eql 3 (Go.Operand.tmp 73) (Go.Operand.const (Go.Value.int Go.IntKind.i64 0)) 3, type := 4, pos := "law.go:196", after := #[{ on := 19, ground := Go.Ground.data }, { on := 18, ground := Go.Ground.guard }], guard := some (18, true) } : Oper)) (v := .bool true) rfl (by kernel_rfl) (by kernel_rfl) (by kernel_rfl) (fun _ _ _ h => h) (Or.inl ⟨by rfl, fun w' _ => ?_⟩) hHeld ?_
        · go_simp <;> first | omega | exact hmi3 | (intro hq; exfalso; omega) | rfl
        simp only [Act.put, List.setIfInBounds_toArray, List.set_cons_zero, List.set_cons_succ]
        refine wpAnyH_take (i := 21) (oi := ({ dst := some 75, op := Go.Op.move (Go.Operand.tmp 74), type := 4, pos := "law.go:196", after := #[{ on := 20, ground := Go.Ground.data }, { on := 18, ground := Go.Ground.chain }, { on := 18, ground := Go.Ground.guard }], guard := some (18, true) } : Oper)) (v := .bool true) rfl (by kernel_rfl) (by kernel_rfl) (by kernel_rfl) (fun _ _ _ h => h) (Or.inl ⟨by rfl, fun w' _ => ?_⟩) hHeld ?_
        · go_simp <;> first | omega | exact hmi3 | (intro hq; exfalso; omega) | rfl
        simp only [Act.put, List.setIfInBounds_toArray, List.set_cons_zero, List.set_cons_succ]
        refine wpAnyH_take (i := 22) (oi := ({ dst := some 76, op := Go.Op.move (Go.Operand.tmp 6), type := 36, pos := "law.go:196", after := #[{ on := 21, ground := Go.Ground.guard }], guard := some (21, false) } : Oper)) (v := undef) rfl (by kernel_rfl) (by kernel_rfl) (by kernel_rfl) (fun _ _ _ h => h) (Or.inr ⟨by rfl, rfl⟩) hHeld ?_
        simp only [Act.put, List.setIfInBounds_toArray, List.set_cons_zero, List.set_cons_succ]
        refine wpAnyH_take (i := 23) (oi := ({ dst := some 77, op := Go.Op.indexAddr 36 (Go.Operand.tmp 76) (Go.Operand.const (Go.Value.int Go.IntKind.i64 0)), type := 0, pos := "law.go:196", after := #[{ on := 22, ground := Go.Ground.data }, { on := 21, ground := Go.Ground.guard }], guard := some (21, false) } : Oper)) (v := undef) rfl (by kernel_rfl) (by kernel_rfl) (by kernel_rfl) (fun _ _ _ h => h) (Or.inr ⟨by rfl, rfl⟩) hHeld ?_
        simp only [Act.put, List.setIfInBounds_toArray, List.set_cons_zero, List.set_cons_succ]
        refine wpAnyH_take (i := 24) (oi := ({ dst := some 78, op := Go.Op.fieldAddr 40 (Go.Operand.tmp 77) 3, type := 0, pos := "law.go:196", after := #[{ on := 23, ground := Go.Ground.data }, { on := 21, ground := Go.Ground.guard }], guard := some (21, false) } : Oper)) (v := undef) rfl (by kernel_rfl) (by kernel_rfl) (by kernel_rfl) (fun _ _ _ h => h) (Or.inr ⟨by rfl, rfl⟩) hHeld ?_
        simp only [Act.put, List.setIfInBounds_toArray, List.set_cons_zero, List.set_cons_succ]
        refine wpAnyH_take (i := 25) (oi := ({ dst := some 79, op := Go.Op.load 28 (Go.Operand.tmp 78), type := 28, pos := "law.go:196", after := #[{ on := 24, ground := Go.Ground.data }, { on := 21, ground := Go.Ground.guard }], guard := some (21, false) } : Oper)) (v := undef) rfl (by kernel_rfl) (by kernel_rfl) (by kernel_rfl) (fun _ _ _ h => h) (Or.inr ⟨by rfl, rfl⟩) hHeld ?_
        simp only [Act.put, List.setIfInBounds_toArray, List.set_cons_zero, List.set_cons_succ]
        refine wpAnyH_take (i := 26) (oi := ({ dst := some 80, op := Go.Op.call { callee := Go.Callee.value (Go.Operand.func 15), args := #[Go.Operand.const (Go.Value.int Go.IntKind.u8 10), Go.Operand.const (Go.Value.int Go.IntKind.u8 0), Go.Operand.const (Go.Value.int Go.IntKind.u8 0), Go.Operand.const (Go.Value.int Go.IntKind.u8 0)], argTypes := #[5, 5, 5, 5] }, type := 28, pos := "law.go:196", after := #[{ on := 21, ground := Go.Ground.chain }, { on := 21, ground := Go.Ground.guard }], guard := some (21, false) } : Oper)) (v := undef) rfl (by kernel_rfl) (by kernel_rfl) (by kernel_rfl) (fun _ _ _ h => h) (Or.inr ⟨by rfl, rfl⟩) hHeld ?_
        simp only [Act.put, List.setIfInBounds_toArray, List.set_cons_zero, List.set_cons_succ]
        refine wpAnyH_take (i := 27) (oi := ({ dst := some 81, op := Go.Op.binOp Go.BinOp.eql 28 (Go.Operand.tmp 79) (Go.Operand.tmp 80) 28, type := 4, pos := "law.go:196", after := #[{ on := 25, ground := Go.Ground.data }, { on := 26, ground := Go.Ground.data }, { on := 21, ground := Go.Ground.guard }], guard := some (21, false) } : Oper)) (v := undef) rfl (by kernel_rfl) (by kernel_rfl) (by kernel_rfl) (fun _ _ _ h => h) (Or.inr ⟨by rfl, rfl⟩) hHeld ?_
        simp only [Act.put, List.setIfInBounds_toArray, List.set_cons_zero, List.set_cons_succ]
        refine wpAnyH_take (i := 28) (oi := ({ dst := some 82, op := Go.Op.pick (Go.Operand.tmp 75) (Go.Operand.const (Go.Value.bool true)) (Go.Operand.tmp 81), type := 4, pos := "law.go:196", after := #[{ on := 21, ground := Go.Ground.data }, { on := 27, ground := Go.Ground.data }, { on := 18, ground := Go.Ground.guard }], guard := some (18, true) } : Oper)) (v := .bool true) rfl (by kernel_rfl) (by kernel_rfl) (by kernel_rfl) (fun _ _ _ h => h) (Or.inl ⟨by rfl, fun w' _ => ?_⟩) hHeld ?_
        · go_simp <;> first | omega | exact hmi3 | (intro hq; exfalso; omega) | rfl
        simp only [Act.put, List.setIfInBounds_toArray, List.set_cons_zero, List.set_cons_succ]
        refine wpAnyH_take (i := 29) (oi := ({ dst := some 83, op := Go.Op.pick (Go.Operand.tmp 72) (Go.Operand.tmp 82) (Go.Operand.const (Go.Value.bool false)), type := 4, pos := "law.go:196", after := #[{ on := 18, ground := Go.Ground.data }, { on := 28, ground := Go.Ground.data }], guard := none } : Oper)) (v := .bool true) rfl (by kernel_rfl) (by kernel_rfl) (by kernel_rfl) (fun _ _ _ h => h) (Or.inl ⟨by rfl, fun w' _ => ?_⟩) hHeld ?_
        · go_simp <;> first | omega | exact hmi3 | (intro hq; exfalso; omega) | rfl
        simp only [Act.put, List.setIfInBounds_toArray, List.set_cons_zero, List.set_cons_succ]
        refine wpAnyH_take (i := 30) (oi := ({ dst := some 84, op := Go.Op.move (Go.Operand.tmp 83), type := 4, pos := "law.go:196", after := #[{ on := 29, ground := Go.Ground.data }, { on := 26, ground := Go.Ground.chain }], guard := none } : Oper)) (v := .bool true) rfl (by kernel_rfl) (by kernel_rfl) (by kernel_rfl) (fun _ _ _ h => h) (Or.inl ⟨by rfl, fun w' _ => ?_⟩) hHeld ?_
        · go_simp <;> first | omega | exact hmi3 | (intro hq; exfalso; omega) | rfl
        simp only [Act.put, List.setIfInBounds_toArray, List.set_cons_zero, List.set_cons_succ]
        refine wpAnyH_take (i := 31) (oi := ({ dst := some 85, op := Go.Op.move (Go.Operand.tmp 0), type := 3, pos := "law.go:196", after := #[{ on := 30, ground := Go.Ground.guard }], guard := some (30, true) } : Oper)) (v := .int .i64 0) rfl (by kernel_rfl) (by kernel_rfl) (by kernel_rfl) (fun _ _ _ h => h) (Or.inl ⟨by rfl, fun w' _ => ?_⟩) hHeld ?_
        · go_simp <;> first | omega | exact hmi3 | (intro hq; exfalso; omega) | rfl
        simp only [Act.put, List.setIfInBounds_toArray, List.set_cons_zero, List.set_cons_succ]
        refine wpAnyH_take (i := 32) (oi := ({ dst := some 86, op := Go.Op.binOp Go.BinOp.lss 3 (Go.Operand.tmp 85) (Go.Operand.const (Go.Value.int Go.IntKind.i64 2)) 3, type := 4, pos := "law.go:196", after := #[{ on := 31, ground := Go.Ground.data }, { on := 30, ground := Go.Ground.guard }], guard := some (30, true) } : Oper)) (v := .bool true) rfl (by kernel_rfl) (by kernel_rfl) (by kernel_rfl) (fun _ _ _ h => h) (Or.inl ⟨by rfl, fun w' _ => ?_⟩) hHeld ?_
        · go_simp <;> first | omega | exact hmi3 | (intro hq; exfalso; omega) | rfl
        simp only [Act.put, List.setIfInBounds_toArray, List.set_cons_zero, List.set_cons_succ]
        refine wpAnyH_take (i := 33) (oi := ({ dst := some 87, op := Go.Op.move (Go.Operand.tmp 86), type := 4, pos := "law.go:196", after := #[{ on := 32, ground := Go.Ground.data }, { on := 30, ground := Go.Ground.chain }, { on := 30, ground := Go.Ground.guard }], guard := some (30, true) } : Oper)) (v := .bool true) rfl (by kernel_rfl) (by kernel_rfl) (by kernel_rfl) (fun _ _ _ h => h) (Or.inl ⟨by rfl, fun w' _ => ?_⟩) hHeld ?_
        · go_simp <;> first | omega | exact hmi3 | (intro hq; exfalso; omega) | rfl
        simp only [Act.put, List.setIfInBounds_toArray, List.set_cons_zero, List.set_cons_succ]
        refine wpAnyH_take (i := 34) (oi := ({ dst := some 88, op := Go.Op.move (Go.Operand.tmp 5), type := 24, pos := "law.go:196", after := #[{ on := 33, ground := Go.Ground.guard }], guard := some (33, false) } : Oper)) (v := undef) rfl (by kernel_rfl) (by kernel_rfl) (by kernel_rfl) (fun _ _ _ h => h) (Or.inr ⟨by rfl, rfl⟩) hHeld ?_
        simp only [Act.put, List.setIfInBounds_toArray, List.set_cons_zero, List.set_cons_succ]
        refine wpAnyH_take (i := 35) (oi := ({ dst := some 89, op := Go.Op.indexAddr 24 (Go.Operand.tmp 88) (Go.Operand.const (Go.Value.int Go.IntKind.i64 1)), type := 0, pos := "law.go:196", after := #[{ on := 34, ground := Go.Ground.data }, { on := 33, ground := Go.Ground.guard }], guard := some (33, false) } : Oper)) (v := undef) rfl (by kernel_rfl) (by kernel_rfl) (by kernel_rfl) (fun _ _ _ h => h) (Or.inr ⟨by rfl, rfl⟩) hHeld ?_
        simp only [Act.put, List.setIfInBounds_toArray, List.set_cons_zero, List.set_cons_succ]
        refine wpAnyH_take (i := 36) (oi := ({ dst := some 90, op := Go.Op.fieldAddr 31 (Go.Operand.tmp 89) 0, type := 0, pos := "law.go:196", after := #[{ on := 35, ground := Go.Ground.data }, { on := 33, ground := Go.Ground.guard }], guard := some (33, false) } : Oper)) (v := undef) rfl (by kernel_rfl) (by kernel_rfl) (by kernel_rfl) (fun _ _ _ h => h) (Or.inr ⟨by rfl, rfl⟩) hHeld ?_
        simp only [Act.put, List.setIfInBounds_toArray, List.set_cons_zero, List.set_cons_succ]
        refine wpAnyH_take (i := 37) (oi := ({ dst := some 91, op := Go.Op.load 28 (Go.Operand.tmp 90), type := 28, pos := "law.go:196", after := #[{ on := 36, ground := Go.Ground.data }, { on := 33, ground := Go.Ground.guard }], guard := some (33, false) } : Oper)) (v := undef) rfl (by kernel_rfl) (by kernel_rfl) (by kernel_rfl) (fun _ _ _ h => h) (Or.inr ⟨by rfl, rfl⟩) hHeld ?_
        simp only [Act.put, List.setIfInBounds_toArray, List.set_cons_zero, List.set_cons_succ]
        refine wpAnyH_take (i := 38) (oi := ({ dst := some 92, op := Go.Op.call { callee := Go.Callee.value (Go.Operand.func 15), args := #[Go.Operand.const (Go.Value.int Go.IntKind.u8 10), Go.Operand.const (Go.Value.int Go.IntKind.u8 0), Go.Operand.const (Go.Value.int Go.IntKind.u8 0), Go.Operand.const (Go.Value.int Go.IntKind.u8 1)], argTypes := #[5, 5, 5, 5] }, type := 28, pos := "law.go:196", after := #[{ on := 33, ground := Go.Ground.chain }, { on := 33, ground := Go.Ground.guard }], guard := some (33, false) } : Oper)) (v := undef) rfl (by kernel_rfl) (by kernel_rfl) (by kernel_rfl) (fun _ _ _ h => h) (Or.inr ⟨by rfl, rfl⟩) hHeld ?_
        simp only [Act.put, List.setIfInBounds_toArray, List.set_cons_zero, List.set_cons_succ]
        refine wpAnyH_take (i := 39) (oi := ({ dst := some 93, op := Go.Op.binOp Go.BinOp.eql 28 (Go.Operand.tmp 91) (Go.Operand.tmp 92) 28, type := 4, pos := "law.go:196", after := #[{ on := 37, ground := Go.Ground.data }, { on := 38, ground := Go.Ground.data }, { on := 33, ground := Go.Ground.guard }], guard := some (33, false) } : Oper)) (v := undef) rfl (by kernel_rfl) (by kernel_rfl) (by kernel_rfl) (fun _ _ _ h => h) (Or.inr ⟨by rfl, rfl⟩) hHeld ?_
        simp only [Act.put, List.setIfInBounds_toArray, List.set_cons_zero, List.set_cons_succ]
        refine wpAnyH_take (i := 40) (oi := ({ dst := some 94, op := Go.Op.pick (Go.Operand.tmp 87) (Go.Operand.const (Go.Value.bool true)) (Go.Operand.tmp 93), type := 4, pos := "law.go:196", after := #[{ on := 33, ground := Go.Ground.data }, { on := 39, ground := Go.Ground.data }, { on := 30, ground := Go.Ground.guard }], guard := some (30, true) } : Oper)) (v := .bool true) rfl (by kernel_rfl) (by kernel_rfl) (by kernel_rfl) (fun _ _ _ h => h) (Or.inl ⟨by rfl, fun w' _ => ?_⟩) hHeld ?_
        · go_simp <;> first | omega | exact hmi3 | (intro hq; exfalso; omega) | rfl
        simp only [Act.put, List.setIfInBounds_toArray, List.set_cons_zero, List.set_cons_succ]
        refine wpAnyH_take (i := 41) (oi := ({ dst := some 95, op := Go.Op.pick (Go.Operand.tmp 84) (Go.Operand.tmp 94) (Go.Operand.const (Go.Value.bool false)), type := 4, pos := "law.go:196", after := #[{ on := 30, ground := Go.Ground.data }, { on := 40, ground := Go.Ground.data }], guard := none } : Oper)) (v := .bool true) rfl (by kernel_rfl) (by kernel_rfl) (by kernel_rfl) (fun _ _ _ h => h) (Or.inl ⟨by rfl, fun w' _ => ?_⟩) hHeld ?_
        · go_simp <;> first | omega | exact hmi3 | (intro hq; exfalso; omega) | rfl
        simp only [Act.put, List.setIfInBounds_toArray, List.set_cons_zero, List.set_cons_succ]
        refine wpAnyH_take (i := 42) (oi := ({ dst := some 2, op := Go.Op.assign (Go.Operand.tmp 95), type := 4, pos := "law.go:196", after := #[{ on := 41, ground := Go.Ground.data }, { on := 38, ground := Go.Ground.chain }, { on := 0, ground := Go.Ground.phase }, { on := 1, ground := Go.Ground.phase }, { on := 2, ground := Go.Ground.phase }, { on := 3, ground := Go.Ground.phase }, { on := 4, ground := Go.Ground.phase }, { on := 5, ground := Go.Ground.phase }, { on := 6, ground := Go.Ground.phase }, { on := 7, ground := Go.Ground.phase }, { on := 8, ground := Go.Ground.phase }, { on := 9, ground := Go.Ground.phase }, { on := 10, ground := Go.Ground.phase }, { on := 11, ground := Go.Ground.phase }, { on := 12, ground := Go.Ground.phase }, { on := 13, ground := Go.Ground.phase }, { on := 14, ground := Go.Ground.phase }, { on := 15, ground := Go.Ground.phase }, { on := 16, ground := Go.Ground.phase }, { on := 17, ground := Go.Ground.phase }, { on := 18, ground := Go.Ground.phase }, { on := 19, ground := Go.Ground.phase }, { on := 20, ground := Go.Ground.phase }, { on := 21, ground := Go.Ground.phase }, { on := 22, ground := Go.Ground.phase }, { on := 23, ground := Go.Ground.phase }, { on := 24, ground := Go.Ground.phase }, { on := 25, ground := Go.Ground.phase }, { on := 26, ground := Go.Ground.phase }, { on := 27, ground := Go.Ground.phase }, { on := 28, ground := Go.Ground.phase }, { on := 29, ground := Go.Ground.phase }, { on := 30, ground := Go.Ground.phase }, { on := 31, ground := Go.Ground.phase }, { on := 32, ground := Go.Ground.phase }, { on := 33, ground := Go.Ground.phase }, { on := 34, ground := Go.Ground.phase }, { on := 35, ground := Go.Ground.phase }, { on := 36, ground := Go.Ground.phase }, { on := 37, ground := Go.Ground.phase }, { on := 38, ground := Go.Ground.phase }, { on := 39, ground := Go.Ground.phase }, { on := 40, ground := Go.Ground.phase }, { on := 41, ground := Go.Ground.phase }], guard := none } : Oper)) (v := .bool true) rfl (by kernel_rfl) (by kernel_rfl) (by kernel_rfl) (fun _ _ _ h => h) (Or.inl ⟨by rfl, fun w' _ => ?_⟩) hHeld ?_
        · go_simp <;> first | omega | exact hmi3 | (intro hq; exfalso; omega) | rfl
        simp only [Act.put, List.setIfInBounds_toArray, List.set_cons_zero, List.set_cons_succ]
        refine wpAnyH_done (by kernel_rfl) ?_ _
        have HBn := Lib.hid (HB5.out.trans (hHeld.mono HB5.out.size))
        go_wp2_with fail
        go_ret
        exact ⟨rfl, HBn.out⟩
      · obtain ⟨b4, rfl, hb4l, hcl⟩ := hR (by intro e; have := hf1 (by omega); rw [e] at this; cases this)
        have hr0 := hf1 (by omega)
        have g0 : ¬ (m : Int) = 0 := by omega
        have g1 : (0 : Int) < (m : Int) := by omega
        have hN1 := hN0 (by omega)
        rw [show decide (0 < m) = true from decide_eq_true (by omega)]
        have RR : Hid (∀ W : World, Below w5.heap.size w5 W → W.rangeAt b4 3 (bvs (four12 ++ [10, 0, 0, 0]))) := Lib.hid (fun W hb j u hj => by
          refine (hb.cell (p := ⟨b4, 3 + j, none⟩) hb4l).trans (hcl _ _ ?_)
          have hjl := (List.getElem?_eq_some_iff.1 hj).1
          have hjl16 : j < 16 := by
            have e16 : (bvs (four12 ++ [10, 0, 0, 0])).length = 16 := rfl
            omega
          have h := rvsF_at (n := ⟨#[104, 111, 115, 116]⟩) (kind := 1) (j := 3 + j) hRA hr0 (by omega)
          rw [Nat.zero_mul, Nat.zero_add] at h
          rw [h]
          unfold rcells
          rw [Nat.add_comm 3 j]
          simp only [List.getElem?_cons_succ]
          rw [List.getElem?_append_left hjl]; exact hj)
        have HV0 : Hid (∀ W : World, Calls Tryz.prog 15 #[.int .u8 10, .int .u8 0, .int .u8 0, .int .u8 0] W fun e w' => e = .returned (.agg (bvs (four12 ++ [10, 0, 0, 0])).toArray) ∧ Below W.heap.size W w') := Lib.hid (fun W => v4_e 10 0 0 0 W)
        have HS0 : Hid ((Tryz.prog.info? 28).map (·.size) = some (bvs (four12 ++ [10, 0, 0, 0])).length) := Lib.hid (sizeBv (l := four12 ++ [10, 0, 0, 0]) rfl)
        have HQ0 : ∀ W : World, (Op.equalIn 10000 28 (.agg (bvs (four12 ++ [10, 0, 0, 0])).toArray) (.agg (bvs (four12 ++ [10, 0, 0, 0])).toArray)).run Tryz.prog W = .ok true W := fun W => by rw [run_eq_addr W rfl rfl, beq_self_eq_true]
        generalize bvs (four12 ++ [10, 0, 0, 0]) = f0 at RR HV0 HS0 HQ0
        by_cases h1 : m = 1
        · have e1 : M64 = 1 := by have := HM2.out; omega
          have e2 : N32 = 1 := by have := HN.out; omega
          clear hN0 hM1 hf1 hR hRA hcl hr0 hmm hbm hmi1 hmi2 HN HM2
          subst h1
          subst e1
          subst e2
          go_wp2_with fail
          refine wp_region_held_drew (S := (fun W : World => Below w5.heap.size w5 W)) (by kernel_rfl) (Below.refl _ w5).drew (fun hHeld => ?_)
          refine wpAnyH_take (i := 0) (oi := ({ dst := some 54, op := Go.Op.move (Go.Operand.tmp 5), type := 24, pos := "law.go:196", after := #[], guard := none } : Oper)) (v := .slice A 1 c) rfl (by kernel_rfl) (by kernel_rfl) (by kernel_rfl) (fun _ _ _ h => h) (Or.inl ⟨by rfl, fun w' _ => ?_⟩) hHeld ?_
          · go_simp <;> first | omega | exact hmi3 | (intro hq; exfalso; omega) | rfl
          simp only [Act.put, List.setIfInBounds_toArray, List.set_cons_zero, List.set_cons_succ]
          refine wpAnyH_take (i := 1) (oi := ({ dst := some 55, op := Go.Op.call { callee := Go.Callee.builtin Go.Builtin.len, args := #[Go.Operand.tmp 54], argTypes := #[24] }, type := 3, pos := "law.go:196", after := #[{ on := 0, ground := Go.Ground.data }], guard := none } : Oper)) (v := .int .i64 1) rfl (by kernel_rfl) (by kernel_rfl) (by kernel_rfl) (fun _ _ _ h => h) (Or.inl ⟨by rfl, fun w' _ => ?_⟩) hHeld ?_
          · go_simp <;> first | omega | exact hmi3 | (intro hq; exfalso; omega) | rfl
          simp only [Act.put, List.setIfInBounds_toArray, List.set_cons_zero, List.set_cons_succ]
          refine wpAnyH_take (i := 2) (oi := ({ dst := some 56, op := Go.Op.move (Go.Operand.tmp 0), type := 3, pos := "law.go:196", after := #[], guard := none } : Oper)) (v := .int .i64 1) rfl (by kernel_rfl) (by kernel_rfl) (by kernel_rfl) (fun _ _ _ h => h) (Or.inl ⟨by rfl, fun w' _ => ?_⟩) hHeld ?_
          · go_simp <;> first | omega | exact hmi3 | (intro hq; exfalso; omega) | rfl
          simp only [Act.put, List.setIfInBounds_toArray, List.set_cons_zero, List.set_cons_succ]
          refine wpAnyH_take (i := 3) (oi := ({ dst := some 57, op := Go.Op.call { callee := Go.Callee.builtin Go.Builtin.min, args := #[Go.Operand.tmp 56, Go.Operand.const (Go.Value.int Go.IntKind.i64 64)], argTypes := #[3, 3] }, type := 3, pos := "law.go:196", after := #[{ on := 2, ground := Go.Ground.data }], guard := none } : Oper)) (v := .int .i64 1) rfl (by kernel_rfl) (by kernel_rfl) (by kernel_rfl) (fun _ _ _ h => h) (Or.inl ⟨by rfl, fun w' _ => ?_⟩) hHeld ?_
          · go_simp <;> first | omega | exact hmi3 | (intro hq; exfalso; omega) | rfl
          simp only [Act.put, List.setIfInBounds_toArray, List.set_cons_zero, List.set_cons_succ]
          refine wpAnyH_take (i := 4) (oi := ({ dst := some 58, op := Go.Op.binOp Go.BinOp.eql 3 (Go.Operand.tmp 55) (Go.Operand.tmp 57) 3, type := 4, pos := "law.go:196", after := #[{ on := 1, ground := Go.Ground.data }, { on := 3, ground := Go.Ground.data }], guard := none } : Oper)) (v := .bool true) rfl (by kernel_rfl) (by kernel_rfl) (by kernel_rfl) (fun _ _ _ h => h) (Or.inl ⟨by rfl, fun w' _ => ?_⟩) hHeld ?_
          · go_simp <;> first | omega | exact hmi3 | (intro hq; exfalso; omega) | rfl
          simp only [Act.put, List.setIfInBounds_toArray, List.set_cons_zero, List.set_cons_succ]
          refine wpAnyH_take (i := 5) (oi := ({ dst := some 59, op := Go.Op.move (Go.Operand.tmp 58), type := 4, pos := "law.go:196", after := #[{ on := 4, ground := Go.Ground.data }], guard := none } : Oper)) (v := .bool true) rfl (by kernel_rfl) (by kernel_rfl) (by kernel_rfl) (fun _ _ _ h => h) (Or.inl ⟨by rfl, fun w' _ => ?_⟩) hHeld ?_
          · go_simp <;> first | omega | exact hmi3 | (intro hq; exfalso; omega) | rfl
          simp only [Act.put, List.setIfInBounds_toArray, List.set_cons_zero, List.set_cons_succ]
          refine wpAnyH_take (i := 6) (oi := ({ dst := some 60, op := Go.Op.move (Go.Operand.tmp 6), type := 36, pos := "law.go:196", after := #[{ on := 5, ground := Go.Ground.guard }], guard := some (5, true) } : Oper)) (v := .slice (some ⟨b4, 0, none⟩) 1 rc) rfl (by kernel_rfl) (by kernel_rfl) (by kernel_rfl) (fun _ _ _ h => h) (Or.inl ⟨by rfl, fun w' _ => ?_⟩) hHeld ?_
          · go_simp <;> first | omega | exact hmi3 | (intro hq; exfalso; omega) | rfl
          simp only [Act.put, List.setIfInBounds_toArray, List.set_cons_zero, List.set_cons_succ]
          refine wpAnyH_take (i := 7) (oi := ({ dst := some 61, op := Go.Op.call { callee := Go.Callee.builtin Go.Builtin.len, args := #[Go.Operand.tmp 60], argTypes := #[36] }, type := 3, pos := "law.go:196", after := #[{ on := 6, ground := Go.Ground.data }, { on := 5, ground := Go.Ground.guard }], guard := some (5, true) } : Oper)) (v := .int .i64 1) rfl (by kernel_rfl) (by kernel_rfl) (by kernel_rfl) (fun _ _ _ h => h) (Or.inl ⟨by rfl, fun w' _ => ?_⟩) hHeld ?_
          · go_simp <;> first | omega | exact hmi3 | (intro hq; exfalso; omega) | rfl
          simp only [Act.put, List.setIfInBounds_toArray, List.set_cons_zero, List.set_cons_succ]
          refine wpAnyH_take (i := 8) (oi := ({ dst := some 62, op := Go.Op.move (Go.Operand.tmp 0), type := 3, pos := "law.go:196", after := #[{ on := 5, ground := Go.Ground.guard }], guard := some (5, true) } : Oper)) (v := .int .i64 1) rfl (by kernel_rfl) (by kernel_rfl) (by kernel_rfl) (fun _ _ _ h => h) (Or.inl ⟨by rfl, fun w' _ => ?_⟩) hHeld ?_
          · go_simp <;> first | omega | exact hmi3 | (intro hq; exfalso; omega) | rfl
          simp only [Act.put, List.setIfInBounds_toArray, List.set_cons_zero, List.set_cons_succ]
          refine wpAnyH_take (i := 9) (oi := ({ dst := some 63, op := Go.Op.call { callee := Go.Callee.builtin Go.Builtin.min, args := #[Go.Operand.tmp 62, Go.Operand.const (Go.Value.int Go.IntKind.i64 32), Go.Operand.const (Go.Value.int Go.IntKind.i64 64)], argTypes := #[3, 3, 3] }, type := 3, pos := "law.go:196", after := #[{ on := 8, ground := Go.Ground.data }, { on := 5, ground := Go.Ground.guard }], guard := some (5, true) } : Oper)) (v := .int .i64 1) rfl (by kernel_rfl) (by kernel_rfl) (by kernel_rfl) (fun _ _ _ h => h) (Or.inl ⟨by rfl, fun w' _ => ?_⟩) hHeld ?_
          · go_simp <;> first | omega | exact hmi3 | (intro hq; exfalso; omega) | rfl
          simp only [Act.put, List.setIfInBounds_toArray, List.set_cons_zero, List.set_cons_succ]
          refine wpAnyH_take (i := 10) (oi := ({ dst := some 64, op := Go.Op.binOp Go.BinOp.eql 3 (Go.Operand.tmp 61) (Go.Operand.tmp 63) 3, type := 4, pos := "law.go:196", after := #[{ on := 7, ground := Go.Ground.data }, { on := 9, ground := Go.Ground.data }, { on := 5, ground := Go.Ground.guard }], guard := some (5, true) } : Oper)) (v := .bool true) rfl (by kernel_rfl) (by kernel_rfl) (by kernel_rfl) (fun _ _ _ h => h) (Or.inl ⟨by rfl, fun w' _ => ?_⟩) hHeld ?_
          · go_simp <;> first | omega | exact hmi3 | (intro hq; exfalso; omega) | rfl
          simp only [Act.put, List.setIfInBounds_toArray, List.set_cons_zero, List.set_cons_succ]
          refine wpAnyH_take (i := 11) (oi := ({ dst := some 65, op := Go.Op.pick (Go.Operand.tmp 59) (Go.Operand.tmp 64) (Go.Operand.const (Go.Value.bool false)), type := 4, pos := "law.go:196", after := #[{ on := 5, ground := Go.Ground.data }, { on := 10, ground := Go.Ground.data }], guard := none } : Oper)) (v := .bool true) rfl (by kernel_rfl) (by kernel_rfl) (by kernel_rfl) (fun _ _ _ h => h) (Or.inl ⟨by rfl, fun w' _ => ?_⟩) hHeld ?_
          · go_simp <;> first | omega | exact hmi3 | (intro hq; exfalso; omega) | rfl
          simp only [Act.put, List.setIfInBounds_toArray, List.set_cons_zero, List.set_cons_succ]
          refine wpAnyH_take (i := 12) (oi := ({ dst := some 66, op := Go.Op.move (Go.Operand.tmp 65), type := 4, pos := "law.go:196", after := #[{ on := 11, ground := Go.Ground.data }, { on := 5, ground := Go.Ground.chain }], guard := none } : Oper)) (v := .bool true) rfl (by kernel_rfl) (by kernel_rfl) (by kernel_rfl) (fun _ _ _ h => h) (Or.inl ⟨by rfl, fun w' _ => ?_⟩) hHeld ?_
          · go_simp <;> first | omega | exact hmi3 | (intro hq; exfalso; omega) | rfl
          simp only [Act.put, List.setIfInBounds_toArray, List.set_cons_zero, List.set_cons_succ]
          refine wpAnyH_take (i := 13) (oi := ({ dst := some 67, op := Go.Op.move (Go.Operand.tmp 7), type := 4, pos := "law.go:196", after := #[{ on := 12, ground := Go.Ground.guard }], guard := some (12, true) } : Oper)) (v := .bool true) rfl (by kernel_rfl) (by kernel_rfl) (by kernel_rfl) (fun _ _ _ h => h) (Or.inl ⟨by rfl, fun w' _ => ?_⟩) hHeld ?_
          · go_simp <;> first | omega | exact hmi3 | (intro hq; exfalso; omega) | rfl
          simp only [Act.put, List.setIfInBounds_toArray, List.set_cons_zero, List.set_cons_succ]
          refine wpAnyH_take (i := 14) (oi := ({ dst := some 68, op := Go.Op.move (Go.Operand.tmp 0), type := 3, pos := "law.go:196", after := #[{ on := 12, ground := Go.Ground.guard }], guard := some (12, true) } : Oper)) (v := .int .i64 1) rfl (by kernel_rfl) (by kernel_rfl) (by kernel_rfl) (fun _ _ _ h => h) (Or.inl ⟨by rfl, fun w' _ => ?_⟩) hHeld ?_
          · go_simp <;> first | omega | exact hmi3 | (intro hq; exfalso; omega) | rfl
          simp only [Act.put, List.setIfInBounds_toArray, List.set_cons_zero, List.set_cons_succ]
          refine wpAnyH_take (i := 15) (oi := ({ dst := some 69, op := Go.Op.binOp Go.BinOp.gtr 3 (Go.Operand.tmp 68) (Go.Operand.const (Go.Value.int Go.IntKind.i64 0)) 3, type := 4, pos := "law.go:196", after := #[{ on := 14, ground := Go.Ground.data }, { on := 12, ground := Go.Ground.guard }], guard := some (12, true) } : Oper)) (v := .bool true) rfl (by kernel_rfl) (by kernel_rfl) (by kernel_rfl) (fun _ _ _ h => h) (Or.inl ⟨by rfl, fun w' _ => ?_⟩) hHeld ?_
          · go_simp <;> first | omega | exact hmi3 | (intro hq; exfalso; omega) | rfl
          simp only [Act.put, List.setIfInBounds_toArray, List.set_cons_zero, List.set_cons_succ]
          refine wpAnyH_take (i := 16) (oi := ({ dst := some 70, op := Go.Op.binOp Go.BinOp.eql 4 (Go.Operand.tmp 67) (Go.Operand.tmp 69) 4, type := 4, pos := "law.go:196", after := #[{ on := 13, ground := Go.Ground.data }, { on := 15, ground := Go.Ground.data }, { on := 12, ground := Go.Ground.guard }], guard := some (12, true) } : Oper)) (v := .bool true) rfl (by kernel_rfl) (by kernel_rfl) (by kernel_rfl) (fun _ _ _ h => h) (Or.inl ⟨by rfl, fun w' _ => ?_⟩) hHeld ?_
          · go_simp <;> first | omega | exact hmi3 | (intro hq; exfalso; omega) | rfl
          simp only [Act.put, List.setIfInBounds_toArray, List.set_cons_zero, List.set_cons_succ]
          refine wpAnyH_take (i := 17) (oi := ({ dst := some 71, op := Go.Op.pick (Go.Operand.tmp 66) (Go.Operand.tmp 70) (Go.Operand.const (Go.Value.bool false)), type := 4, pos := "law.go:196", after := #[{ on := 12, ground := Go.Ground.data }, { on := 16, ground := Go.Ground.data }], guard := none } : Oper)) (v := .bool true) rfl (by kernel_rfl) (by kernel_rfl) (by kernel_rfl) (fun _ _ _ h => h) (Or.inl ⟨by rfl, fun w' _ => ?_⟩) hHeld ?_
          · go_simp <;> first | omega | exact hmi3 | (intro hq; exfalso; omega) | rfl
          simp only [Act.put, List.setIfInBounds_toArray, List.set_cons_zero, List.set_cons_succ]
          refine wpAnyH_take (i := 18) (oi := ({ dst := some 72, op := Go.Op.move (Go.Operand.tmp 71), type := 4, pos := "law.go:196", after := #[{ on := 17, ground := Go.Ground.data }, { on := 12, ground := Go.Ground.chain }], guard := none } : Oper)) (v := .bool true) rfl (by kernel_rfl) (by kernel_rfl) (by kernel_rfl) (fun _ _ _ h => h) (Or.inl ⟨by rfl, fun w' _ => ?_⟩) hHeld ?_
          · go_simp <;> first | omega | exact hmi3 | (intro hq; exfalso; omega) | rfl
          simp only [Act.put, List.setIfInBounds_toArray, List.set_cons_zero, List.set_cons_succ]
          refine wpAnyH_take (i := 19) (oi := ({ dst := some 73, op := Go.Op.move (Go.Operand.tmp 0), type := 3, pos := "law.go:196", after := #[{ on := 18, ground := Go.Ground.guard }], guard := some (18, true) } : Oper)) (v := .int .i64 1) rfl (by kernel_rfl) (by kernel_rfl) (by kernel_rfl) (fun _ _ _ h => h) (Or.inl ⟨by rfl, fun w' _ => ?_⟩) hHeld ?_
          · go_simp <;> first | omega | exact hmi3 | (intro hq; exfalso; omega) | rfl
          simp only [Act.put, List.setIfInBounds_toArray, List.set_cons_zero, List.set_cons_succ]
          refine wpAnyH_take (i := 20) (oi := ({ dst := some 74, op := Go.Op.binOp Go.BinOp.eql 3 (Go.Operand.tmp 73) (Go.Operand.const (Go.Value.int Go.IntKind.i64 0)) 3, type := 4, pos := "law.go:196", after := #[{ on := 19, ground := Go.Ground.data }, { on := 18, ground := Go.Ground.guard }], guard := some (18, true) } : Oper)) (v := .bool false) rfl (by kernel_rfl) (by kernel_rfl) (by kernel_rfl) (fun _ _ _ h => h) (Or.inl ⟨by rfl, fun w' _ => ?_⟩) hHeld ?_
          · go_simp <;> first | omega | exact hmi3 | (intro hq; exfalso; omega) | rfl
          simp only [Act.put, List.setIfInBounds_toArray, List.set_cons_zero, List.set_cons_succ]
          refine wpAnyH_take (i := 21) (oi := ({ dst := some 75, op := Go.Op.move (Go.Operand.tmp 74), type := 4, pos := "law.go:196", after := #[{ on := 20, ground := Go.Ground.data }, { on := 18, ground := Go.Ground.chain }, { on := 18, ground := Go.Ground.guard }], guard := some (18, true) } : Oper)) (v := .bool false) rfl (by kernel_rfl) (by kernel_rfl) (by kernel_rfl) (fun _ _ _ h => h) (Or.inl ⟨by rfl, fun w' _ => ?_⟩) hHeld ?_
          · go_simp <;> first | omega | exact hmi3 | (intro hq; exfalso; omega) | rfl
          simp only [Act.put, List.setIfInBounds_toArray, List.set_cons_zero, List.set_cons_succ]
          refine wpAnyH_take (i := 22) (oi := ({ dst := some 76, op := Go.Op.move (Go.Operand.tmp 6), type := 36, pos := "law.go:196", after := #[{ on := 21, ground := Go.Ground.guard }], guard := some (21, false) } : Oper)) (v := .slice (some ⟨b4, 0, none⟩) 1 rc) rfl (by kernel_rfl) (by kernel_rfl) (by kernel_rfl) (fun _ _ _ h => h) (Or.inl ⟨by rfl, fun w' _ => ?_⟩) hHeld ?_
          · go_simp <;> first | omega | exact hmi3 | (intro hq; exfalso; omega) | rfl
          simp only [Act.put, List.setIfInBounds_toArray, List.set_cons_zero, List.set_cons_succ]
          refine wpAnyH_take (i := 23) (oi := ({ dst := some 77, op := Go.Op.indexAddr 36 (Go.Operand.tmp 76) (Go.Operand.const (Go.Value.int Go.IntKind.i64 0)), type := 0, pos := "law.go:196", after := #[{ on := 22, ground := Go.Ground.data }, { on := 21, ground := Go.Ground.guard }], guard := some (21, false) } : Oper)) (v := .pointer (some ⟨b4, 0, none⟩)) rfl (by kernel_rfl) (by kernel_rfl) (by kernel_rfl) (fun _ _ _ h => h) (Or.inl ⟨by rfl, fun w' _ => ?_⟩) hHeld ?_
          · go_simp <;> first | omega | exact hmi3 | (intro hq; exfalso; omega) | rfl
          simp only [Act.put, List.setIfInBounds_toArray, List.set_cons_zero, List.set_cons_succ]
          refine wpAnyH_take (i := 24) (oi := ({ dst := some 78, op := Go.Op.fieldAddr 40 (Go.Operand.tmp 77) 3, type := 0, pos := "law.go:196", after := #[{ on := 23, ground := Go.Ground.data }, { on := 21, ground := Go.Ground.guard }], guard := some (21, false) } : Oper)) (v := .pointer (some ⟨b4, 3, none⟩)) rfl (by kernel_rfl) (by kernel_rfl) (by kernel_rfl) (fun _ _ _ h => h) (Or.inl ⟨by rfl, fun w' _ => ?_⟩) hHeld ?_
          · go_simp <;> first | omega | exact hmi3 | (intro hq; exfalso; omega) | rfl
          simp only [Act.put, List.setIfInBounds_toArray, List.set_cons_zero, List.set_cons_succ]
          refine wpAnyH_take (i := 25) (oi := ({ dst := some 79, op := Go.Op.load 28 (Go.Operand.tmp 78), type := 28, pos := "law.go:196", after := #[{ on := 24, ground := Go.Ground.data }, { on := 21, ground := Go.Ground.guard }], guard := some (21, false) } : Oper)) (v := .agg f0.toArray) rfl (by kernel_rfl) (by kernel_rfl) (by kernel_rfl) (fun _ _ _ h => h) (yieldsIf_load_mid (by rfl) _ _ rfl _ _ rfl _ _ (fun W h => RR.out W h) huA rfl HS0.out) hHeld ?_
          simp only [Act.put, List.setIfInBounds_toArray, List.set_cons_zero, List.set_cons_succ]
          refine wpAnyH_ready (rs := [26]) (by kernel_rfl) (by simp) ?_
          refine AllReadyH.cons (o := ({ dst := some 80, op := Go.Op.call { callee := Go.Callee.value (Go.Operand.func 15), args := #[Go.Operand.const (Go.Value.int Go.IntKind.u8 10), Go.Operand.const (Go.Value.int Go.IntKind.u8 0), Go.Operand.const (Go.Value.int Go.IntKind.u8 0), Go.Operand.const (Go.Value.int Go.IntKind.u8 0)], argTypes := #[5, 5, 5, 5] }, type := 28, pos := "law.go:196", after := #[{ on := 21, ground := Go.Ground.chain }, { on := 21, ground := Go.Ground.guard }], guard := some (21, false) } : Oper)) rfl (fun K hK => ?_) AllReadyH.nil
          go_simp
          go_at_call 15
          refine (HV0.out _).mono ?_
          rintro e' w11 ⟨rfl, hw11⟩
          refine hK.out _ _ (hHeld.trans (hw11.mono hHeld.size)) (fun hHeld1 => ?_)
          clear hK K
          refine wpAnyH_take (i := 27) (oi := ({ dst := some 81, op := Go.Op.binOp Go.BinOp.eql 28 (Go.Operand.tmp 79) (Go.Operand.tmp 80) 28, type := 4, pos := "law.go:196", after := #[{ on := 25, ground := Go.Ground.data }, { on := 26, ground := Go.Ground.data }, { on := 21, ground := Go.Ground.guard }], guard := some (21, false) } : Oper)) (v := .bool true) rfl (by kernel_rfl) (by kernel_rfl) (by kernel_rfl) (fun _ _ _ h => h) (Or.inl ⟨by rfl, fun w' _ => ?_⟩) hHeld1 ?_
          · go_simp <;> first | omega | exact hmi3 | (intro hq; exfalso; omega) | rfl
          simp only [Act.put, List.setIfInBounds_toArray, List.set_cons_zero, List.set_cons_succ]
          refine wpAnyH_take (i := 28) (oi := ({ dst := some 82, op := Go.Op.pick (Go.Operand.tmp 75) (Go.Operand.const (Go.Value.bool true)) (Go.Operand.tmp 81), type := 4, pos := "law.go:196", after := #[{ on := 21, ground := Go.Ground.data }, { on := 27, ground := Go.Ground.data }, { on := 18, ground := Go.Ground.guard }], guard := some (18, true) } : Oper)) (v := .bool true) rfl (by kernel_rfl) (by kernel_rfl) (by kernel_rfl) (fun _ _ _ h => h) (Or.inl ⟨by rfl, fun w' _ => ?_⟩) hHeld1 ?_
          · go_simp <;> first | omega | exact hmi3 | (intro hq; exfalso; omega) | rfl
          simp only [Act.put, List.setIfInBounds_toArray, List.set_cons_zero, List.set_cons_succ]
          refine wpAnyH_take (i := 29) (oi := ({ dst := some 83, op := Go.Op.pick (Go.Operand.tmp 72) (Go.Operand.tmp 82) (Go.Operand.const (Go.Value.bool false)), type := 4, pos := "law.go:196", after := #[{ on := 18, ground := Go.Ground.data }, { on := 28, ground := Go.Ground.data }], guard := none } : Oper)) (v := .bool true) rfl (by kernel_rfl) (by kernel_rfl) (by kernel_rfl) (fun _ _ _ h => h) (Or.inl ⟨by rfl, fun w' _ => ?_⟩) hHeld1 ?_
          · go_simp <;> first | omega | exact hmi3 | (intro hq; exfalso; omega) | rfl
          simp only [Act.put, List.setIfInBounds_toArray, List.set_cons_zero, List.set_cons_succ]
          refine wpAnyH_take (i := 30) (oi := ({ dst := some 84, op := Go.Op.move (Go.Operand.tmp 83), type := 4, pos := "law.go:196", after := #[{ on := 29, ground := Go.Ground.data }, { on := 26, ground := Go.Ground.chain }], guard := none } : Oper)) (v := .bool true) rfl (by kernel_rfl) (by kernel_rfl) (by kernel_rfl) (fun _ _ _ h => h) (Or.inl ⟨by rfl, fun w' _ => ?_⟩) hHeld1 ?_
          · go_simp <;> first | omega | exact hmi3 | (intro hq; exfalso; omega) | rfl
          simp only [Act.put, List.setIfInBounds_toArray, List.set_cons_zero, List.set_cons_succ]
          refine wpAnyH_take (i := 31) (oi := ({ dst := some 85, op := Go.Op.move (Go.Operand.tmp 0), type := 3, pos := "law.go:196", after := #[{ on := 30, ground := Go.Ground.guard }], guard := some (30, true) } : Oper)) (v := .int .i64 1) rfl (by kernel_rfl) (by kernel_rfl) (by kernel_rfl) (fun _ _ _ h => h) (Or.inl ⟨by rfl, fun w' _ => ?_⟩) hHeld1 ?_
          · go_simp <;> first | omega | exact hmi3 | (intro hq; exfalso; omega) | rfl
          simp only [Act.put, List.setIfInBounds_toArray, List.set_cons_zero, List.set_cons_succ]
          refine wpAnyH_take (i := 32) (oi := ({ dst := some 86, op := Go.Op.binOp Go.BinOp.lss 3 (Go.Operand.tmp 85) (Go.Operand.const (Go.Value.int Go.IntKind.i64 2)) 3, type := 4, pos := "law.go:196", after := #[{ on := 31, ground := Go.Ground.data }, { on := 30, ground := Go.Ground.guard }], guard := some (30, true) } : Oper)) (v := .bool true) rfl (by kernel_rfl) (by kernel_rfl) (by kernel_rfl) (fun _ _ _ h => h) (Or.inl ⟨by rfl, fun w' _ => ?_⟩) hHeld1 ?_
          · go_simp <;> first | omega | exact hmi3 | (intro hq; exfalso; omega) | rfl
          simp only [Act.put, List.setIfInBounds_toArray, List.set_cons_zero, List.set_cons_succ]
          refine wpAnyH_take (i := 33) (oi := ({ dst := some 87, op := Go.Op.move (Go.Operand.tmp 86), type := 4, pos := "law.go:196", after := #[{ on := 32, ground := Go.Ground.data }, { on := 30, ground := Go.Ground.chain }, { on := 30, ground := Go.Ground.guard }], guard := some (30, true) } : Oper)) (v := .bool true) rfl (by kernel_rfl) (by kernel_rfl) (by kernel_rfl) (fun _ _ _ h => h) (Or.inl ⟨by rfl, fun w' _ => ?_⟩) hHeld1 ?_
          · go_simp <;> first | omega | exact hmi3 | (intro hq; exfalso; omega) | rfl
          simp only [Act.put, List.setIfInBounds_toArray, List.set_cons_zero, List.set_cons_succ]
          refine wpAnyH_take (i := 34) (oi := ({ dst := some 88, op := Go.Op.move (Go.Operand.tmp 5), type := 24, pos := "law.go:196", after := #[{ on := 33, ground := Go.Ground.guard }], guard := some (33, false) } : Oper)) (v := undef) rfl (by kernel_rfl) (by kernel_rfl) (by kernel_rfl) (fun _ _ _ h => h) (Or.inr ⟨by rfl, rfl⟩) hHeld1 ?_
          simp only [Act.put, List.setIfInBounds_toArray, List.set_cons_zero, List.set_cons_succ]
          refine wpAnyH_take (i := 35) (oi := ({ dst := some 89, op := Go.Op.indexAddr 24 (Go.Operand.tmp 88) (Go.Operand.const (Go.Value.int Go.IntKind.i64 1)), type := 0, pos := "law.go:196", after := #[{ on := 34, ground := Go.Ground.data }, { on := 33, ground := Go.Ground.guard }], guard := some (33, false) } : Oper)) (v := undef) rfl (by kernel_rfl) (by kernel_rfl) (by kernel_rfl) (fun _ _ _ h => h) (Or.inr ⟨by rfl, rfl⟩) hHeld1 ?_
          simp only [Act.put, List.setIfInBounds_toArray, List.set_cons_zero, List.set_cons_succ]
          refine wpAnyH_take (i := 36) (oi := ({ dst := some 90, op := Go.Op.fieldAddr 31 (Go.Operand.tmp 89) 0, type := 0, pos := "law.go:196", after := #[{ on := 35, ground := Go.Ground.data }, { on := 33, ground := Go.Ground.guard }], guard := some (33, false) } : Oper)) (v := undef) rfl (by kernel_rfl) (by kernel_rfl) (by kernel_rfl) (fun _ _ _ h => h) (Or.inr ⟨by rfl, rfl⟩) hHeld1 ?_
          simp only [Act.put, List.setIfInBounds_toArray, List.set_cons_zero, List.set_cons_succ]
          refine wpAnyH_take (i := 37) (oi := ({ dst := some 91, op := Go.Op.load 28 (Go.Operand.tmp 90), type := 28, pos := "law.go:196", after := #[{ on := 36, ground := Go.Ground.data }, { on := 33, ground := Go.Ground.guard }], guard := some (33, false) } : Oper)) (v := undef) rfl (by kernel_rfl) (by kernel_rfl) (by kernel_rfl) (fun _ _ _ h => h) (Or.inr ⟨by rfl, rfl⟩) hHeld1 ?_
          simp only [Act.put, List.setIfInBounds_toArray, List.set_cons_zero, List.set_cons_succ]
          refine wpAnyH_take (i := 38) (oi := ({ dst := some 92, op := Go.Op.call { callee := Go.Callee.value (Go.Operand.func 15), args := #[Go.Operand.const (Go.Value.int Go.IntKind.u8 10), Go.Operand.const (Go.Value.int Go.IntKind.u8 0), Go.Operand.const (Go.Value.int Go.IntKind.u8 0), Go.Operand.const (Go.Value.int Go.IntKind.u8 1)], argTypes := #[5, 5, 5, 5] }, type := 28, pos := "law.go:196", after := #[{ on := 33, ground := Go.Ground.chain }, { on := 33, ground := Go.Ground.guard }], guard := some (33, false) } : Oper)) (v := undef) rfl (by kernel_rfl) (by kernel_rfl) (by kernel_rfl) (fun _ _ _ h => h) (Or.inr ⟨by rfl, rfl⟩) hHeld1 ?_
          simp only [Act.put, List.setIfInBounds_toArray, List.set_cons_zero, List.set_cons_succ]
          refine wpAnyH_take (i := 39) (oi := ({ dst := some 93, op := Go.Op.binOp Go.BinOp.eql 28 (Go.Operand.tmp 91) (Go.Operand.tmp 92) 28, type := 4, pos := "law.go:196", after := #[{ on := 37, ground := Go.Ground.data }, { on := 38, ground := Go.Ground.data }, { on := 33, ground := Go.Ground.guard }], guard := some (33, false) } : Oper)) (v := undef) rfl (by kernel_rfl) (by kernel_rfl) (by kernel_rfl) (fun _ _ _ h => h) (Or.inr ⟨by rfl, rfl⟩) hHeld1 ?_
          simp only [Act.put, List.setIfInBounds_toArray, List.set_cons_zero, List.set_cons_succ]
          refine wpAnyH_take (i := 40) (oi := ({ dst := some 94, op := Go.Op.pick (Go.Operand.tmp 87) (Go.Operand.const (Go.Value.bool true)) (Go.Operand.tmp 93), type := 4, pos := "law.go:196", after := #[{ on := 33, ground := Go.Ground.data }, { on := 39, ground := Go.Ground.data }, { on := 30, ground := Go.Ground.guard }], guard := some (30, true) } : Oper)) (v := .bool true) rfl (by kernel_rfl) (by kernel_rfl) (by kernel_rfl) (fun _ _ _ h => h) (Or.inl ⟨by rfl, fun w' _ => ?_⟩) hHeld1 ?_
          · go_simp <;> first | omega | exact hmi3 | (intro hq; exfalso; omega) | rfl
          simp only [Act.put, List.setIfInBounds_toArray, List.set_cons_zero, List.set_cons_succ]
          refine wpAnyH_take (i := 41) (oi := ({ dst := some 95, op := Go.Op.pick (Go.Operand.tmp 84) (Go.Operand.tmp 94) (Go.Operand.const (Go.Value.bool false)), type := 4, pos := "law.go:196", after := #[{ on := 30, ground := Go.Ground.data }, { on := 40, ground := Go.Ground.data }], guard := none } : Oper)) (v := .bool true) rfl (by kernel_rfl) (by kernel_rfl) (by kernel_rfl) (fun _ _ _ h => h) (Or.inl ⟨by rfl, fun w' _ => ?_⟩) hHeld1 ?_
          · go_simp <;> first | omega | exact hmi3 | (intro hq; exfalso; omega) | rfl
          simp only [Act.put, List.setIfInBounds_toArray, List.set_cons_zero, List.set_cons_succ]
          refine wpAnyH_take (i := 42) (oi := ({ dst := some 2, op := Go.Op.assign (Go.Operand.tmp 95), type := 4, pos := "law.go:196", after := #[{ on := 41, ground := Go.Ground.data }, { on := 38, ground := Go.Ground.chain }, { on := 0, ground := Go.Ground.phase }, { on := 1, ground := Go.Ground.phase }, { on := 2, ground := Go.Ground.phase }, { on := 3, ground := Go.Ground.phase }, { on := 4, ground := Go.Ground.phase }, { on := 5, ground := Go.Ground.phase }, { on := 6, ground := Go.Ground.phase }, { on := 7, ground := Go.Ground.phase }, { on := 8, ground := Go.Ground.phase }, { on := 9, ground := Go.Ground.phase }, { on := 10, ground := Go.Ground.phase }, { on := 11, ground := Go.Ground.phase }, { on := 12, ground := Go.Ground.phase }, { on := 13, ground := Go.Ground.phase }, { on := 14, ground := Go.Ground.phase }, { on := 15, ground := Go.Ground.phase }, { on := 16, ground := Go.Ground.phase }, { on := 17, ground := Go.Ground.phase }, { on := 18, ground := Go.Ground.phase }, { on := 19, ground := Go.Ground.phase }, { on := 20, ground := Go.Ground.phase }, { on := 21, ground := Go.Ground.phase }, { on := 22, ground := Go.Ground.phase }, { on := 23, ground := Go.Ground.phase }, { on := 24, ground := Go.Ground.phase }, { on := 25, ground := Go.Ground.phase }, { on := 26, ground := Go.Ground.phase }, { on := 27, ground := Go.Ground.phase }, { on := 28, ground := Go.Ground.phase }, { on := 29, ground := Go.Ground.phase }, { on := 30, ground := Go.Ground.phase }, { on := 31, ground := Go.Ground.phase }, { on := 32, ground := Go.Ground.phase }, { on := 33, ground := Go.Ground.phase }, { on := 34, ground := Go.Ground.phase }, { on := 35, ground := Go.Ground.phase }, { on := 36, ground := Go.Ground.phase }, { on := 37, ground := Go.Ground.phase }, { on := 38, ground := Go.Ground.phase }, { on := 39, ground := Go.Ground.phase }, { on := 40, ground := Go.Ground.phase }, { on := 41, ground := Go.Ground.phase }], guard := none } : Oper)) (v := .bool true) rfl (by kernel_rfl) (by kernel_rfl) (by kernel_rfl) (fun _ _ _ h => h) (Or.inl ⟨by rfl, fun w' _ => ?_⟩) hHeld1 ?_
          · go_simp <;> first | omega | exact hmi3 | (intro hq; exfalso; omega) | rfl
          simp only [Act.put, List.setIfInBounds_toArray, List.set_cons_zero, List.set_cons_succ]
          refine wpAnyH_done (by kernel_rfl) ?_ _
          have HBn := Lib.hid (HB5.out.trans (hHeld1.mono HB5.out.size))
          go_wp2_with fail
          go_ret
          exact ⟨rfl, HBn.out⟩
        · have g2 : ¬ (m : Int) < 2 := by omega
          have hNz : ¬ N32 = 0 := by omega
          have hmi3 : (if (64 : Int) < (if (32 : Int) < (m : Int) then 32 else (m : Int)) then 64 else if (32 : Int) < (m : Int) then 32 else (m : Int)) = (N32 : Int) := by
            have h9 := HN.out
            by_cases h : (32 : Int) < (m : Int)
            · rw [if_pos h, if_neg (by omega)]; omega
            · rw [if_neg h, if_neg (by omega)]; omega
          have hM2 := hM1 (by omega)
          have hs2 := many_second (n := m) (by omega)
          rw [← HL.out, List.getElem?_map] at hs2
          obtain ⟨x, hx, hxh⟩ := Option.map_eq_some_iff.1 hs2
          obtain ⟨b, rfl, hrow⟩ := HA5.out (List.ne_nil_of_mem (List.mem_of_getElem? hx))
          have RH : Hid (∀ W : World, Below w5.heap.size w5 W → W.rangeAt b 17 (bvs (four12 ++ [10, 0, 0, 1]))) := Lib.hid (fun W hb => by
            have := (hrow.parts hx).1 W hb
            rw [hxh] at this
            exact this)
          have HV1 : Hid (∀ W : World, Calls Tryz.prog 15 #[.int .u8 10, .int .u8 0, .int .u8 0, .int .u8 1] W fun e w' => e = .returned (.agg (bvs (four12 ++ [10, 0, 0, 1])).toArray) ∧ Below W.heap.size W w') := Lib.hid (fun W => v4_e 10 0 0 1 W)
          have HS1 : Hid ((Tryz.prog.info? 28).map (·.size) = some (bvs (four12 ++ [10, 0, 0, 1])).length) := Lib.hid (sizeBv (l := four12 ++ [10, 0, 0, 1]) rfl)
          have HQ1 : ∀ W : World, (Op.equalIn 10000 28 (.agg (bvs (four12 ++ [10, 0, 0, 1])).toArray) (.agg (bvs (four12 ++ [10, 0, 0, 1])).toArray)).run Tryz.prog W = .ok true W := fun W => by rw [run_eq_addr W rfl rfl, beq_self_eq_true]
          generalize bvs (four12 ++ [10, 0, 0, 1]) = f1 at RH HV1 HS1 HQ1
          clear hN0 hM1 hf1 hR hRA hcl hr0 hs2 hx hxh hrow hmm hbm
          go_wp2_with fail
          refine wp_region_held_drew (S := (fun W : World => Below w5.heap.size w5 W)) (by kernel_rfl) (Below.refl _ w5).drew (fun hHeld => ?_)
          refine wpAnyH_take (i := 0) (oi := ({ dst := some 54, op := Go.Op.move (Go.Operand.tmp 5), type := 24, pos := "law.go:196", after := #[], guard := none } : Oper)) (v := .slice (some ⟨b, 0, none⟩) M64 c) rfl (by kernel_rfl) (by kernel_rfl) (by kernel_rfl) (fun _ _ _ h => h) (Or.inl ⟨by rfl, fun w' _ => ?_⟩) hHeld ?_
          · go_simp <;> first | omega | exact hmi3 | (intro hq; exfalso; omega) | rfl
          simp only [Act.put, List.setIfInBounds_toArray, List.set_cons_zero, List.set_cons_succ]
          refine wpAnyH_take (i := 1) (oi := ({ dst := some 55, op := Go.Op.call { callee := Go.Callee.builtin Go.Builtin.len, args := #[Go.Operand.tmp 54], argTypes := #[24] }, type := 3, pos := "law.go:196", after := #[{ on := 0, ground := Go.Ground.data }], guard := none } : Oper)) (v := .int .i64 M64) rfl (by kernel_rfl) (by kernel_rfl) (by kernel_rfl) (fun _ _ _ h => h) (Or.inl ⟨by rfl, fun w' _ => ?_⟩) hHeld ?_
          · go_simp <;> first | omega | exact hmi3 | (intro hq; exfalso; omega) | rfl
          simp only [Act.put, List.setIfInBounds_toArray, List.set_cons_zero, List.set_cons_succ]
          refine wpAnyH_take (i := 2) (oi := ({ dst := some 56, op := Go.Op.move (Go.Operand.tmp 0), type := 3, pos := "law.go:196", after := #[], guard := none } : Oper)) (v := .int .i64 m) rfl (by kernel_rfl) (by kernel_rfl) (by kernel_rfl) (fun _ _ _ h => h) (Or.inl ⟨by rfl, fun w' _ => ?_⟩) hHeld ?_
          · go_simp <;> first | omega | exact hmi3 | (intro hq; exfalso; omega) | rfl
          simp only [Act.put, List.setIfInBounds_toArray, List.set_cons_zero, List.set_cons_succ]
          refine wpAnyH_take (i := 3) (oi := ({ dst := some 57, op := Go.Op.call { callee := Go.Callee.builtin Go.Builtin.min, args := #[Go.Operand.tmp 56, Go.Operand.const (Go.Value.int Go.IntKind.i64 64)], argTypes := #[3, 3] }, type := 3, pos := "law.go:196", after := #[{ on := 2, ground := Go.Ground.data }], guard := none } : Oper)) (v := .int .i64 M64) rfl (by kernel_rfl) (by kernel_rfl) (by kernel_rfl) (fun _ _ _ h => h) (Or.inl ⟨by rfl, fun w' _ => ?_⟩) hHeld ?_
          · go_simp <;> first | omega | exact hmi3 | (intro hq; exfalso; omega) | rfl
          simp only [Act.put, List.setIfInBounds_toArray, List.set_cons_zero, List.set_cons_succ]
          refine wpAnyH_take (i := 4) (oi := ({ dst := some 58, op := Go.Op.binOp Go.BinOp.eql 3 (Go.Operand.tmp 55) (Go.Operand.tmp 57) 3, type := 4, pos := "law.go:196", after := #[{ on := 1, ground := Go.Ground.data }, { on := 3, ground := Go.Ground.data }], guard := none } : Oper)) (v := .bool true) rfl (by kernel_rfl) (by kernel_rfl) (by kernel_rfl) (fun _ _ _ h => h) (Or.inl ⟨by rfl, fun w' _ => ?_⟩) hHeld ?_
          · go_simp <;> first | omega | exact hmi3 | (intro hq; exfalso; omega) | rfl
          simp only [Act.put, List.setIfInBounds_toArray, List.set_cons_zero, List.set_cons_succ]
          refine wpAnyH_take (i := 5) (oi := ({ dst := some 59, op := Go.Op.move (Go.Operand.tmp 58), type := 4, pos := "law.go:196", after := #[{ on := 4, ground := Go.Ground.data }], guard := none } : Oper)) (v := .bool true) rfl (by kernel_rfl) (by kernel_rfl) (by kernel_rfl) (fun _ _ _ h => h) (Or.inl ⟨by rfl, fun w' _ => ?_⟩) hHeld ?_
          · go_simp <;> first | omega | exact hmi3 | (intro hq; exfalso; omega) | rfl
          simp only [Act.put, List.setIfInBounds_toArray, List.set_cons_zero, List.set_cons_succ]
          refine wpAnyH_take (i := 6) (oi := ({ dst := some 60, op := Go.Op.move (Go.Operand.tmp 6), type := 36, pos := "law.go:196", after := #[{ on := 5, ground := Go.Ground.guard }], guard := some (5, true) } : Oper)) (v := .slice (some ⟨b4, 0, none⟩) N32 rc) rfl (by kernel_rfl) (by kernel_rfl) (by kernel_rfl) (fun _ _ _ h => h) (Or.inl ⟨by rfl, fun w' _ => ?_⟩) hHeld ?_
          · go_simp <;> first | omega | exact hmi3 | (intro hq; exfalso; omega) | rfl
          simp only [Act.put, List.setIfInBounds_toArray, List.set_cons_zero, List.set_cons_succ]
          refine wpAnyH_take (i := 7) (oi := ({ dst := some 61, op := Go.Op.call { callee := Go.Callee.builtin Go.Builtin.len, args := #[Go.Operand.tmp 60], argTypes := #[36] }, type := 3, pos := "law.go:196", after := #[{ on := 6, ground := Go.Ground.data }, { on := 5, ground := Go.Ground.guard }], guard := some (5, true) } : Oper)) (v := .int .i64 N32) rfl (by kernel_rfl) (by kernel_rfl) (by kernel_rfl) (fun _ _ _ h => h) (Or.inl ⟨by rfl, fun w' _ => ?_⟩) hHeld ?_
          · go_simp <;> first | omega | exact hmi3 | (intro hq; exfalso; omega) | rfl
          simp only [Act.put, List.setIfInBounds_toArray, List.set_cons_zero, List.set_cons_succ]
          refine wpAnyH_take (i := 8) (oi := ({ dst := some 62, op := Go.Op.move (Go.Operand.tmp 0), type := 3, pos := "law.go:196", after := #[{ on := 5, ground := Go.Ground.guard }], guard := some (5, true) } : Oper)) (v := .int .i64 m) rfl (by kernel_rfl) (by kernel_rfl) (by kernel_rfl) (fun _ _ _ h => h) (Or.inl ⟨by rfl, fun w' _ => ?_⟩) hHeld ?_
          · go_simp <;> first | omega | exact hmi3 | (intro hq; exfalso; omega) | rfl
          simp only [Act.put, List.setIfInBounds_toArray, List.set_cons_zero, List.set_cons_succ]
          refine wpAnyH_take (i := 9) (oi := ({ dst := some 63, op := Go.Op.call { callee := Go.Callee.builtin Go.Builtin.min, args := #[Go.Operand.tmp 62, Go.Operand.const (Go.Value.int Go.IntKind.i64 32), Go.Operand.const (Go.Value.int Go.IntKind.i64 64)], argTypes := #[3, 3, 3] }, type := 3, pos := "law.go:196", after := #[{ on := 8, ground := Go.Ground.data }, { on := 5, ground := Go.Ground.guard }], guard := some (5, true) } : Oper)) (v := .int .i64 N32) rfl (by kernel_rfl) (by kernel_rfl) (by kernel_rfl) (fun _ _ _ h => h) (Or.inl ⟨by rfl, fun w' _ => ?_⟩) hHeld ?_
          · go_simp <;> first | omega | exact hmi3 | (intro hq; exfalso; omega) | rfl
          simp only [Act.put, List.setIfInBounds_toArray, List.set_cons_zero, List.set_cons_succ]
          refine wpAnyH_take (i := 10) (oi := ({ dst := some 64, op := Go.Op.binOp Go.BinOp.eql 3 (Go.Operand.tmp 61) (Go.Operand.tmp 63) 3, type := 4, pos := "law.go:196", after := #[{ on := 7, ground := Go.Ground.data }, { on := 9, ground := Go.Ground.data }, { on := 5, ground := Go.Ground.guard }], guard := some (5, true) } : Oper)) (v := .bool true) rfl (by kernel_rfl) (by kernel_rfl) (by kernel_rfl) (fun _ _ _ h => h) (Or.inl ⟨by rfl, fun w' _ => ?_⟩) hHeld ?_
          · go_simp <;> first | omega | exact hmi3 | (intro hq; exfalso; omega) | rfl
          simp only [Act.put, List.setIfInBounds_toArray, List.set_cons_zero, List.set_cons_succ]
          refine wpAnyH_take (i := 11) (oi := ({ dst := some 65, op := Go.Op.pick (Go.Operand.tmp 59) (Go.Operand.tmp 64) (Go.Operand.const (Go.Value.bool false)), type := 4, pos := "law.go:196", after := #[{ on := 5, ground := Go.Ground.data }, { on := 10, ground := Go.Ground.data }], guard := none } : Oper)) (v := .bool true) rfl (by kernel_rfl) (by kernel_rfl) (by kernel_rfl) (fun _ _ _ h => h) (Or.inl ⟨by rfl, fun w' _ => ?_⟩) hHeld ?_
          · go_simp <;> first | omega | exact hmi3 | (intro hq; exfalso; omega) | rfl
          simp only [Act.put, List.setIfInBounds_toArray, List.set_cons_zero, List.set_cons_succ]
          refine wpAnyH_take (i := 12) (oi := ({ dst := some 66, op := Go.Op.move (Go.Operand.tmp 65), type := 4, pos := "law.go:196", after := #[{ on := 11, ground := Go.Ground.data }, { on := 5, ground := Go.Ground.chain }], guard := none } : Oper)) (v := .bool true) rfl (by kernel_rfl) (by kernel_rfl) (by kernel_rfl) (fun _ _ _ h => h) (Or.inl ⟨by rfl, fun w' _ => ?_⟩) hHeld ?_
          · go_simp <;> first | omega | exact hmi3 | (intro hq; exfalso; omega) | rfl
          simp only [Act.put, List.setIfInBounds_toArray, List.set_cons_zero, List.set_cons_succ]
          refine wpAnyH_take (i := 13) (oi := ({ dst := some 67, op := Go.Op.move (Go.Operand.tmp 7), type := 4, pos := "law.go:196", after := #[{ on := 12, ground := Go.Ground.guard }], guard := some (12, true) } : Oper)) (v := .bool true) rfl (by kernel_rfl) (by kernel_rfl) (by kernel_rfl) (fun _ _ _ h => h) (Or.inl ⟨by rfl, fun w' _ => ?_⟩) hHeld ?_
          · go_simp <;> first | omega | exact hmi3 | (intro hq; exfalso; omega) | rfl
          simp only [Act.put, List.setIfInBounds_toArray, List.set_cons_zero, List.set_cons_succ]
          refine wpAnyH_take (i := 14) (oi := ({ dst := some 68, op := Go.Op.move (Go.Operand.tmp 0), type := 3, pos := "law.go:196", after := #[{ on := 12, ground := Go.Ground.guard }], guard := some (12, true) } : Oper)) (v := .int .i64 m) rfl (by kernel_rfl) (by kernel_rfl) (by kernel_rfl) (fun _ _ _ h => h) (Or.inl ⟨by rfl, fun w' _ => ?_⟩) hHeld ?_
          · go_simp <;> first | omega | exact hmi3 | (intro hq; exfalso; omega) | rfl
          simp only [Act.put, List.setIfInBounds_toArray, List.set_cons_zero, List.set_cons_succ]
          refine wpAnyH_take (i := 15) (oi := ({ dst := some 69, op := Go.Op.binOp Go.BinOp.gtr 3 (Go.Operand.tmp 68) (Go.Operand.const (Go.Value.int Go.IntKind.i64 0)) 3, type := 4, pos := "law.go:196", after := #[{ on := 14, ground := Go.Ground.data }, { on := 12, ground := Go.Ground.guard }], guard := some (12, true) } : Oper)) (v := .bool true) rfl (by kernel_rfl) (by kernel_rfl) (by kernel_rfl) (fun _ _ _ h => h) (Or.inl ⟨by rfl, fun w' _ => ?_⟩) hHeld ?_
          · go_simp <;> first | omega | exact hmi3 | (intro hq; exfalso; omega) | rfl
          simp only [Act.put, List.setIfInBounds_toArray, List.set_cons_zero, List.set_cons_succ]
          refine wpAnyH_take (i := 16) (oi := ({ dst := some 70, op := Go.Op.binOp Go.BinOp.eql 4 (Go.Operand.tmp 67) (Go.Operand.tmp 69) 4, type := 4, pos := "law.go:196", after := #[{ on := 13, ground := Go.Ground.data }, { on := 15, ground := Go.Ground.data }, { on := 12, ground := Go.Ground.guard }], guard := some (12, true) } : Oper)) (v := .bool true) rfl (by kernel_rfl) (by kernel_rfl) (by kernel_rfl) (fun _ _ _ h => h) (Or.inl ⟨by rfl, fun w' _ => ?_⟩) hHeld ?_
          · go_simp <;> first | omega | exact hmi3 | (intro hq; exfalso; omega) | rfl
          simp only [Act.put, List.setIfInBounds_toArray, List.set_cons_zero, List.set_cons_succ]
          refine wpAnyH_take (i := 17) (oi := ({ dst := some 71, op := Go.Op.pick (Go.Operand.tmp 66) (Go.Operand.tmp 70) (Go.Operand.const (Go.Value.bool false)), type := 4, pos := "law.go:196", after := #[{ on := 12, ground := Go.Ground.data }, { on := 16, ground := Go.Ground.data }], guard := none } : Oper)) (v := .bool true) rfl (by kernel_rfl) (by kernel_rfl) (by kernel_rfl) (fun _ _ _ h => h) (Or.inl ⟨by rfl, fun w' _ => ?_⟩) hHeld ?_
          · go_simp <;> first | omega | exact hmi3 | (intro hq; exfalso; omega) | rfl
          simp only [Act.put, List.setIfInBounds_toArray, List.set_cons_zero, List.set_cons_succ]
          refine wpAnyH_take (i := 18) (oi := ({ dst := some 72, op := Go.Op.move (Go.Operand.tmp 71), type := 4, pos := "law.go:196", after := #[{ on := 17, ground := Go.Ground.data }, { on := 12, ground := Go.Ground.chain }], guard := none } : Oper)) (v := .bool true) rfl (by kernel_rfl) (by kernel_rfl) (by kernel_rfl) (fun _ _ _ h => h) (Or.inl ⟨by rfl, fun w' _ => ?_⟩) hHeld ?_
          · go_simp <;> first | omega | exact hmi3 | (intro hq; exfalso; omega) | rfl
          simp only [Act.put, List.setIfInBounds_toArray, List.set_cons_zero, List.set_cons_succ]
          refine wpAnyH_take (i := 19) (oi := ({ dst := some 73, op := Go.Op.move (Go.Operand.tmp 0), type := 3, pos := "law.go:196", after := #[{ on := 18, ground := Go.Ground.guard }], guard := some (18, true) } : Oper)) (v := .int .i64 m) rfl (by kernel_rfl) (by kernel_rfl) (by kernel_rfl) (fun _ _ _ h => h) (Or.inl ⟨by rfl, fun w' _ => ?_⟩) hHeld ?_
          · go_simp <;> first | omega | exact hmi3 | (intro hq; exfalso; omega) | rfl
          simp only [Act.put, List.setIfInBounds_toArray, List.set_cons_zero, List.set_cons_succ]
          refine wpAnyH_take (i := 20) (oi := ({ dst := some 74, op := Go.Op.binOp Go.BinOp.eql 3 (Go.Operand.tmp 73) (Go.Operand.const (Go.Value.int Go.IntKind.i64 0)) 3, type := 4, pos := "law.go:196", after := #[{ on := 19, ground := Go.Ground.data }, { on := 18, ground := Go.Ground.guard }], guard := some (18, true) } : Oper)) (v := .bool false) rfl (by kernel_rfl) (by kernel_rfl) (by kernel_rfl) (fun _ _ _ h => h) (Or.inl ⟨by rfl, fun w' _ => ?_⟩) hHeld ?_
          · go_simp <;> first | omega | exact hmi3 | (intro hq; exfalso; omega) | rfl
          simp only [Act.put, List.setIfInBounds_toArray, List.set_cons_zero, List.set_cons_succ]
          refine wpAnyH_take (i := 21) (oi := ({ dst := some 75, op := Go.Op.move (Go.Operand.tmp 74), type := 4, pos := "law.go:196", after := #[{ on := 20, ground := Go.Ground.data }, { on := 18, ground := Go.Ground.chain }, { on := 18, ground := Go.Ground.guard }], guard := some (18, true) } : Oper)) (v := .bool false) rfl (by kernel_rfl) (by kernel_rfl) (by kernel_rfl) (fun _ _ _ h => h) (Or.inl ⟨by rfl, fun w' _ => ?_⟩) hHeld ?_
          · go_simp <;> first | omega | exact hmi3 | (intro hq; exfalso; omega) | rfl
          simp only [Act.put, List.setIfInBounds_toArray, List.set_cons_zero, List.set_cons_succ]
          refine wpAnyH_take (i := 22) (oi := ({ dst := some 76, op := Go.Op.move (Go.Operand.tmp 6), type := 36, pos := "law.go:196", after := #[{ on := 21, ground := Go.Ground.guard }], guard := some (21, false) } : Oper)) (v := .slice (some ⟨b4, 0, none⟩) N32 rc) rfl (by kernel_rfl) (by kernel_rfl) (by kernel_rfl) (fun _ _ _ h => h) (Or.inl ⟨by rfl, fun w' _ => ?_⟩) hHeld ?_
          · go_simp <;> first | omega | exact hmi3 | (intro hq; exfalso; omega) | rfl
          simp only [Act.put, List.setIfInBounds_toArray, List.set_cons_zero, List.set_cons_succ]
          refine wpAnyH_take (i := 23) (oi := ({ dst := some 77, op := Go.Op.indexAddr 36 (Go.Operand.tmp 76) (Go.Operand.const (Go.Value.int Go.IntKind.i64 0)), type := 0, pos := "law.go:196", after := #[{ on := 22, ground := Go.Ground.data }, { on := 21, ground := Go.Ground.guard }], guard := some (21, false) } : Oper)) (v := .pointer (some ⟨b4, 0, none⟩)) rfl (by kernel_rfl) (by kernel_rfl) (by kernel_rfl) (fun _ _ _ h => h) (Or.inl ⟨by rfl, fun w' _ => ?_⟩) hHeld ?_
          · go_simp <;> first | omega | exact hmi3 | (intro hq; exfalso; omega) | rfl
          simp only [Act.put, List.setIfInBounds_toArray, List.set_cons_zero, List.set_cons_succ]
          refine wpAnyH_take (i := 24) (oi := ({ dst := some 78, op := Go.Op.fieldAddr 40 (Go.Operand.tmp 77) 3, type := 0, pos := "law.go:196", after := #[{ on := 23, ground := Go.Ground.data }, { on := 21, ground := Go.Ground.guard }], guard := some (21, false) } : Oper)) (v := .pointer (some ⟨b4, 3, none⟩)) rfl (by kernel_rfl) (by kernel_rfl) (by kernel_rfl) (fun _ _ _ h => h) (Or.inl ⟨by rfl, fun w' _ => ?_⟩) hHeld ?_
          · go_simp <;> first | omega | exact hmi3 | (intro hq; exfalso; omega) | rfl
          simp only [Act.put, List.setIfInBounds_toArray, List.set_cons_zero, List.set_cons_succ]
          refine wpAnyH_take (i := 25) (oi := ({ dst := some 79, op := Go.Op.load 28 (Go.Operand.tmp 78), type := 28, pos := "law.go:196", after := #[{ on := 24, ground := Go.Ground.data }, { on := 21, ground := Go.Ground.guard }], guard := some (21, false) } : Oper)) (v := .agg f0.toArray) rfl (by kernel_rfl) (by kernel_rfl) (by kernel_rfl) (fun _ _ _ h => h) (yieldsIf_load_mid (by rfl) _ _ rfl _ _ rfl _ _ (fun W h => RR.out W h) huA rfl HS0.out) hHeld ?_
          simp only [Act.put, List.setIfInBounds_toArray, List.set_cons_zero, List.set_cons_succ]
          refine wpAnyH_ready (rs := [26]) (by kernel_rfl) (by simp) ?_
          refine AllReadyH.cons (o := ({ dst := some 80, op := Go.Op.call { callee := Go.Callee.value (Go.Operand.func 15), args := #[Go.Operand.const (Go.Value.int Go.IntKind.u8 10), Go.Operand.const (Go.Value.int Go.IntKind.u8 0), Go.Operand.const (Go.Value.int Go.IntKind.u8 0), Go.Operand.const (Go.Value.int Go.IntKind.u8 0)], argTypes := #[5, 5, 5, 5] }, type := 28, pos := "law.go:196", after := #[{ on := 21, ground := Go.Ground.chain }, { on := 21, ground := Go.Ground.guard }], guard := some (21, false) } : Oper)) rfl (fun K hK => ?_) AllReadyH.nil
          go_simp
          go_at_call 15
          refine (HV0.out _).mono ?_
          rintro e' w11 ⟨rfl, hw11⟩
          refine hK.out _ _ (hHeld.trans (hw11.mono hHeld.size)) (fun hHeld1 => ?_)
          clear hK K
          refine wpAnyH_take (i := 27) (oi := ({ dst := some 81, op := Go.Op.binOp Go.BinOp.eql 28 (Go.Operand.tmp 79) (Go.Operand.tmp 80) 28, type := 4, pos := "law.go:196", after := #[{ on := 25, ground := Go.Ground.data }, { on := 26, ground := Go.Ground.data }, { on := 21, ground := Go.Ground.guard }], guard := some (21, false) } : Oper)) (v := .bool true) rfl (by kernel_rfl) (by kernel_rfl) (by kernel_rfl) (fun _ _ _ h => h) (Or.inl ⟨by rfl, fun w' _ => ?_⟩) hHeld1 ?_
          · go_simp <;> first | omega | exact hmi3 | (intro hq; exfalso; omega) | rfl
          simp only [Act.put, List.setIfInBounds_toArray, List.set_cons_zero, List.set_cons_succ]
          refine wpAnyH_take (i := 28) (oi := ({ dst := some 82, op := Go.Op.pick (Go.Operand.tmp 75) (Go.Operand.const (Go.Value.bool true)) (Go.Operand.tmp 81), type := 4, pos := "law.go:196", after := #[{ on := 21, ground := Go.Ground.data }, { on := 27, ground := Go.Ground.data }, { on := 18, ground := Go.Ground.guard }], guard := some (18, true) } : Oper)) (v := .bool true) rfl (by kernel_rfl) (by kernel_rfl) (by kernel_rfl) (fun _ _ _ h => h) (Or.inl ⟨by rfl, fun w' _ => ?_⟩) hHeld1 ?_
          · go_simp <;> first | omega | exact hmi3 | (intro hq; exfalso; omega) | rfl
          simp only [Act.put, List.setIfInBounds_toArray, List.set_cons_zero, List.set_cons_succ]
          refine wpAnyH_take (i := 29) (oi := ({ dst := some 83, op := Go.Op.pick (Go.Operand.tmp 72) (Go.Operand.tmp 82) (Go.Operand.const (Go.Value.bool false)), type := 4, pos := "law.go:196", after := #[{ on := 18, ground := Go.Ground.data }, { on := 28, ground := Go.Ground.data }], guard := none } : Oper)) (v := .bool true) rfl (by kernel_rfl) (by kernel_rfl) (by kernel_rfl) (fun _ _ _ h => h) (Or.inl ⟨by rfl, fun w' _ => ?_⟩) hHeld1 ?_
          · go_simp <;> first | omega | exact hmi3 | (intro hq; exfalso; omega) | rfl
          simp only [Act.put, List.setIfInBounds_toArray, List.set_cons_zero, List.set_cons_succ]
          refine wpAnyH_take (i := 30) (oi := ({ dst := some 84, op := Go.Op.move (Go.Operand.tmp 83), type := 4, pos := "law.go:196", after := #[{ on := 29, ground := Go.Ground.data }, { on := 26, ground := Go.Ground.chain }], guard := none } : Oper)) (v := .bool true) rfl (by kernel_rfl) (by kernel_rfl) (by kernel_rfl) (fun _ _ _ h => h) (Or.inl ⟨by rfl, fun w' _ => ?_⟩) hHeld1 ?_
          · go_simp <;> first | omega | exact hmi3 | (intro hq; exfalso; omega) | rfl
          simp only [Act.put, List.setIfInBounds_toArray, List.set_cons_zero, List.set_cons_succ]
          refine wpAnyH_take (i := 31) (oi := ({ dst := some 85, op := Go.Op.move (Go.Operand.tmp 0), type := 3, pos := "law.go:196", after := #[{ on := 30, ground := Go.Ground.guard }], guard := some (30, true) } : Oper)) (v := .int .i64 m) rfl (by kernel_rfl) (by kernel_rfl) (by kernel_rfl) (fun _ _ _ h => h) (Or.inl ⟨by rfl, fun w' _ => ?_⟩) hHeld1 ?_
          · go_simp <;> first | omega | exact hmi3 | (intro hq; exfalso; omega) | rfl
          simp only [Act.put, List.setIfInBounds_toArray, List.set_cons_zero, List.set_cons_succ]
          refine wpAnyH_take (i := 32) (oi := ({ dst := some 86, op := Go.Op.binOp Go.BinOp.lss 3 (Go.Operand.tmp 85) (Go.Operand.const (Go.Value.int Go.IntKind.i64 2)) 3, type := 4, pos := "law.go:196", after := #[{ on := 31, ground := Go.Ground.data }, { on := 30, ground := Go.Ground.guard }], guard := some (30, true) } : Oper)) (v := .bool false) rfl (by kernel_rfl) (by kernel_rfl) (by kernel_rfl) (fun _ _ _ h => h) (Or.inl ⟨by rfl, fun w' _ => ?_⟩) hHeld1 ?_
          · go_simp <;> first | omega | exact hmi3 | (intro hq; exfalso; omega) | rfl
          simp only [Act.put, List.setIfInBounds_toArray, List.set_cons_zero, List.set_cons_succ]
          refine wpAnyH_take (i := 33) (oi := ({ dst := some 87, op := Go.Op.move (Go.Operand.tmp 86), type := 4, pos := "law.go:196", after := #[{ on := 32, ground := Go.Ground.data }, { on := 30, ground := Go.Ground.chain }, { on := 30, ground := Go.Ground.guard }], guard := some (30, true) } : Oper)) (v := .bool false) rfl (by kernel_rfl) (by kernel_rfl) (by kernel_rfl) (fun _ _ _ h => h) (Or.inl ⟨by rfl, fun w' _ => ?_⟩) hHeld1 ?_
          · go_simp <;> first | omega | exact hmi3 | (intro hq; exfalso; omega) | rfl
          simp only [Act.put, List.setIfInBounds_toArray, List.set_cons_zero, List.set_cons_succ]
          refine wpAnyH_take (i := 34) (oi := ({ dst := some 88, op := Go.Op.move (Go.Operand.tmp 5), type := 24, pos := "law.go:196", after := #[{ on := 33, ground := Go.Ground.guard }], guard := some (33, false) } : Oper)) (v := .slice (some ⟨b, 0, none⟩) M64 c) rfl (by kernel_rfl) (by kernel_rfl) (by kernel_rfl) (fun _ _ _ h => h) (Or.inl ⟨by rfl, fun w' _ => ?_⟩) hHeld1 ?_
          · go_simp <;> first | omega | exact hmi3 | (intro hq; exfalso; omega) | rfl
          simp only [Act.put, List.setIfInBounds_toArray, List.set_cons_zero, List.set_cons_succ]
          refine wpAnyH_take (i := 35) (oi := ({ dst := some 89, op := Go.Op.indexAddr 24 (Go.Operand.tmp 88) (Go.Operand.const (Go.Value.int Go.IntKind.i64 1)), type := 0, pos := "law.go:196", after := #[{ on := 34, ground := Go.Ground.data }, { on := 33, ground := Go.Ground.guard }], guard := some (33, false) } : Oper)) (v := .pointer (some ⟨b, 17, none⟩)) rfl (by kernel_rfl) (by kernel_rfl) (by kernel_rfl) (fun _ _ _ h => h) (Or.inl ⟨by rfl, fun w' _ => ?_⟩) hHeld1 ?_
          · go_simp <;> first | omega | exact hmi3 | (intro hq; exfalso; omega) | rfl
          simp only [Act.put, List.setIfInBounds_toArray, List.set_cons_zero, List.set_cons_succ]
          refine wpAnyH_take (i := 36) (oi := ({ dst := some 90, op := Go.Op.fieldAddr 31 (Go.Operand.tmp 89) 0, type := 0, pos := "law.go:196", after := #[{ on := 35, ground := Go.Ground.data }, { on := 33, ground := Go.Ground.guard }], guard := some (33, false) } : Oper)) (v := .pointer (some ⟨b, 17, none⟩)) rfl (by kernel_rfl) (by kernel_rfl) (by kernel_rfl) (fun _ _ _ h => h) (Or.inl ⟨by rfl, fun w' _ => ?_⟩) hHeld1 ?_
          · go_simp <;> first | omega | exact hmi3 | (intro hq; exfalso; omega) | rfl
          simp only [Act.put, List.setIfInBounds_toArray, List.set_cons_zero, List.set_cons_succ]
          refine wpAnyH_take (i := 37) (oi := ({ dst := some 91, op := Go.Op.load 28 (Go.Operand.tmp 90), type := 28, pos := "law.go:196", after := #[{ on := 36, ground := Go.Ground.data }, { on := 33, ground := Go.Ground.guard }], guard := some (33, false) } : Oper)) (v := .agg f1.toArray) rfl (by kernel_rfl) (by kernel_rfl) (by kernel_rfl) (fun _ _ _ h => h) (yieldsIf_load_mid (by rfl) _ _ rfl _ _ rfl _ _ (fun W h => RH.out W h) huA rfl HS1.out) hHeld1 ?_
          simp only [Act.put, List.setIfInBounds_toArray, List.set_cons_zero, List.set_cons_succ]
          refine wpAnyH_ready (rs := [38]) (by kernel_rfl) (by simp) ?_
          refine AllReadyH.cons (o := ({ dst := some 92, op := Go.Op.call { callee := Go.Callee.value (Go.Operand.func 15), args := #[Go.Operand.const (Go.Value.int Go.IntKind.u8 10), Go.Operand.const (Go.Value.int Go.IntKind.u8 0), Go.Operand.const (Go.Value.int Go.IntKind.u8 0), Go.Operand.const (Go.Value.int Go.IntKind.u8 1)], argTypes := #[5, 5, 5, 5] }, type := 28, pos := "law.go:196", after := #[{ on := 33, ground := Go.Ground.chain }, { on := 33, ground := Go.Ground.guard }], guard := some (33, false) } : Oper)) rfl (fun K hK => ?_) AllReadyH.nil
          go_simp
          go_at_call 15
          refine (HV1.out _).mono ?_
          rintro e' w12 ⟨rfl, hw12⟩
          refine hK.out _ _ (hHeld1.trans (hw12.mono hHeld1.size)) (fun hHeld2 => ?_)
          clear hK K
          refine wpAnyH_take (i := 39) (oi := ({ dst := some 93, op := Go.Op.binOp Go.BinOp.eql 28 (Go.Operand.tmp 91) (Go.Operand.tmp 92) 28, type := 4, pos := "law.go:196", after := #[{ on := 37, ground := Go.Ground.data }, { on := 38, ground := Go.Ground.data }, { on := 33, ground := Go.Ground.guard }], guard := some (33, false) } : Oper)) (v := .bool true) rfl (by kernel_rfl) (by kernel_rfl) (by kernel_rfl) (fun _ _ _ h => h) (Or.inl ⟨by rfl, fun w' _ => ?_⟩) hHeld2 ?_
          · go_simp <;> first | omega | exact hmi3 | (intro hq; exfalso; omega) | rfl
          simp only [Act.put, List.setIfInBounds_toArray, List.set_cons_zero, List.set_cons_succ]
          refine wpAnyH_take (i := 40) (oi := ({ dst := some 94, op := Go.Op.pick (Go.Operand.tmp 87) (Go.Operand.const (Go.Value.bool true)) (Go.Operand.tmp 93), type := 4, pos := "law.go:196", after := #[{ on := 33, ground := Go.Ground.data }, { on := 39, ground := Go.Ground.data }, { on := 30, ground := Go.Ground.guard }], guard := some (30, true) } : Oper)) (v := .bool true) rfl (by kernel_rfl) (by kernel_rfl) (by kernel_rfl) (fun _ _ _ h => h) (Or.inl ⟨by rfl, fun w' _ => ?_⟩) hHeld2 ?_
          · go_simp <;> first | omega | exact hmi3 | (intro hq; exfalso; omega) | rfl
          simp only [Act.put, List.setIfInBounds_toArray, List.set_cons_zero, List.set_cons_succ]
          refine wpAnyH_take (i := 41) (oi := ({ dst := some 95, op := Go.Op.pick (Go.Operand.tmp 84) (Go.Operand.tmp 94) (Go.Operand.const (Go.Value.bool false)), type := 4, pos := "law.go:196", after := #[{ on := 30, ground := Go.Ground.data }, { on := 40, ground := Go.Ground.data }], guard := none } : Oper)) (v := .bool true) rfl (by kernel_rfl) (by kernel_rfl) (by kernel_rfl) (fun _ _ _ h => h) (Or.inl ⟨by rfl, fun w' _ => ?_⟩) hHeld2 ?_
          · go_simp <;> first | omega | exact hmi3 | (intro hq; exfalso; omega) | rfl
          simp only [Act.put, List.setIfInBounds_toArray, List.set_cons_zero, List.set_cons_succ]
          refine wpAnyH_take (i := 42) (oi := ({ dst := some 2, op := Go.Op.assign (Go.Operand.tmp 95), type := 4, pos := "law.go:196", after := #[{ on := 41, ground := Go.Ground.data }, { on := 38, ground := Go.Ground.chain }, { on := 0, ground := Go.Ground.phase }, { on := 1, ground := Go.Ground.phase }, { on := 2, ground := Go.Ground.phase }, { on := 3, ground := Go.Ground.phase }, { on := 4, ground := Go.Ground.phase }, { on := 5, ground := Go.Ground.phase }, { on := 6, ground := Go.Ground.phase }, { on := 7, ground := Go.Ground.phase }, { on := 8, ground := Go.Ground.phase }, { on := 9, ground := Go.Ground.phase }, { on := 10, ground := Go.Ground.phase }, { on := 11, ground := Go.Ground.phase }, { on := 12, ground := Go.Ground.phase }, { on := 13, ground := Go.Ground.phase }, { on := 14, ground := Go.Ground.phase }, { on := 15, ground := Go.Ground.phase }, { on := 16, ground := Go.Ground.phase }, { on := 17, ground := Go.Ground.phase }, { on := 18, ground := Go.Ground.phase }, { on := 19, ground := Go.Ground.phase }, { on := 20, ground := Go.Ground.phase }, { on := 21, ground := Go.Ground.phase }, { on := 22, ground := Go.Ground.phase }, { on := 23, ground := Go.Ground.phase }, { on := 24, ground := Go.Ground.phase }, { on := 25, ground := Go.Ground.phase }, { on := 26, ground := Go.Ground.phase }, { on := 27, ground := Go.Ground.phase }, { on := 28, ground := Go.Ground.phase }, { on := 29, ground := Go.Ground.phase }, { on := 30, ground := Go.Ground.phase }, { on := 31, ground := Go.Ground.phase }, { on := 32, ground := Go.Ground.phase }, { on := 33, ground := Go.Ground.phase }, { on := 34, ground := Go.Ground.phase }, { on := 35, ground := Go.Ground.phase }, { on := 36, ground := Go.Ground.phase }, { on := 37, ground := Go.Ground.phase }, { on := 38, ground := Go.Ground.phase }, { on := 39, ground := Go.Ground.phase }, { on := 40, ground := Go.Ground.phase }, { on := 41, ground := Go.Ground.phase }], guard := none } : Oper)) (v := .bool true) rfl (by kernel_rfl) (by kernel_rfl) (by kernel_rfl) (fun _ _ _ h => h) (Or.inl ⟨by rfl, fun w' _ => ?_⟩) hHeld2 ?_
          · go_simp <;> first | omega | exact hmi3 | (intro hq; exfalso; omega) | rfl
          simp only [Act.put, List.setIfInBounds_toArray, List.set_cons_zero, List.set_cons_succ]
          refine wpAnyH_done (by kernel_rfl) ?_ _
          have HBn := Lib.hid (HB5.out.trans (hHeld2.mono HB5.out.size))
          go_wp2_with fail
          go_ret
          exact ⟨rfl, HBn.out⟩
end Go.Proofs.YtclfmokdjmnjcaaGreatDoor
