/-
  The walk of the statement OrderActions: actions turn just the outcomes that they name, or all others; the last one counts. Condition: the library's variable MaxLen holds some number.
-/
import Derived.Test.YtpgkopnnfhlhbaaDoorOrdFit
namespace Go.Proofs.YtpgkopnnfhlhbaaDoor
open Go.RowKit

/-- an action's text -/
def acU (m : Nat) (b2 b3 : Bool) : List UInt8 := (if b2 = true then [33] else []) ++ nameO (m + 1) ++ (if b3 = true then eRet else eCon) ++ [32]
def acH : List UInt8 := nameK 2 ++ [32, 91]
theorem acu_all : ∀ (m m' : Fin 4) (b2 b3 c2 c3 : Bool), okB (acH ++ acU m.val b2 b3 ++ acU m'.val c2 c3 ++ [93]) (0, [(2, setR (setR r0 (m.val + 1) b2 b3) (m'.val + 1) c2 c3)]) = true := by decide +kernel
theorem acU_len : ∀ (m : Fin 4) (b2 b3 : Bool), (acU m.val b2 b3).length ≤ 30 := by decide +kernel
theorem and_pow (n i : Nat) : n &&& 2 ^ i = if n.testBit i = true then 2 ^ i else 0 := by
  apply Nat.eq_of_testBit_eq
  intro j
  rw [Nat.testBit_and, Nat.testBit_two_pow]
  by_cases h : i = j
  · subst h
    cases hb : n.testBit i <;> simp
  · rw [decide_eq_false h, Bool.and_false]
    split
    · rw [Nat.testBit_two_pow, decide_eq_false h]
    · simp
/-- what three bits of a number say -/
theorem and_parts (n : Int) : ∃ (m : Nat) (b2 b3 : Bool), m < 4 ∧ bits BinOp.and IntKind.i64 n 3 = (m : Int) ∧ bits BinOp.and IntKind.i64 n 4 = (if b2 = true then 4 else 0) ∧ bits BinOp.and IntKind.i64 n 8 = (if b3 = true then 8 else 0) := by
  obtain ⟨v, hv⟩ : ∃ v, v = BitVec.ofInt 64 n := ⟨_, rfl⟩
  have w : ∀ c : Nat, c ≤ 15 → (v &&& BitVec.ofNat 64 c).toNat ≤ 15 := fun c hc => by
    rw [BitVec.toNat_and]
    refine Nat.le_trans Nat.and_le_right ?_
    rw [BitVec.toNat_ofNat, Nat.mod_eq_of_lt (by omega)]; exact hc
  have g : ∀ c : Nat, c ≤ 15 → IntKind.i64.wrap ((v &&& BitVec.ofNat 64 c).toNat : Int) = ((v &&& BitVec.ofNat 64 c).toNat : Int) := fun c hc => by
    have := w c hc
    rw [IntKind.wrap_i64]; omega
  have h3 : bits BinOp.and IntKind.i64 n 3 = ((v &&& 3#64).toNat : Int) := by rw [hv]; rw [hv] at g; exact g 3 (by omega)
  have h4 : bits BinOp.and IntKind.i64 n 4 = ((v &&& 4#64).toNat : Int) := by rw [hv]; rw [hv] at g; exact g 4 (by omega)
  have h8 : bits BinOp.and IntKind.i64 n 8 = ((v &&& 8#64).toNat : Int) := by rw [hv]; rw [hv] at g; exact g 8 (by omega)
  have m3 : (v &&& 3#64).toNat < 4 := by
    rw [BitVec.toNat_and]
    exact Nat.lt_of_le_of_lt Nat.and_le_right (by decide)
  have m4 : (v &&& 4#64).toNat = if v.toNat.testBit 2 then 4 else 0 := by
    rw [BitVec.toNat_and, show (4#64).toNat = 2 ^ 2 from rfl, and_pow]
  have m8 : (v &&& 8#64).toNat = if v.toNat.testBit 3 then 8 else 0 := by
    rw [BitVec.toNat_and, show (8#64).toNat = 2 ^ 3 from rfl, and_pow]
  refine ⟨(v &&& 3#64).toNat, v.toNat.testBit 2, v.toNat.testBit 3, m3, h3, ?_, ?_⟩
  · rw [h4, m4]; split <;> rfl
  · rw [h8, m8]; split <;> rfl
/-- the words, and what is wanted so far -/
structure WAt (w wr : World) (r : Ret) : Prop where
  below : Below w.heap.size w wr
  words : ∀ j, j < 4 → wr.cell? ⟨w.heap.size, j, none⟩ = some (.string (tb (nameO (j + 1))))
  blk : wr.heap[w.heap.size + 1]? = some (.cells (retV r) 28 (0, 0))
theorem WAt.put {w wr : World} {r : Ret} {k : Nat} {ot v : Bool} {o : Nat} (h : WAt w wr (parR r k ot v o)) (h1 : 1 ≤ o) (h4 : o < 5) (hc : (decide (o = k) != ot) = true) : WAt w (wr.setCell ⟨w.heap.size + 1, o, none⟩ (.bool v)) (parR r k ot v (o + 1)) := by
  refine ⟨h.below.setCell (p := ⟨w.heap.size + 1, o, none⟩) (by show w.heap.size ≤ w.heap.size + 1; omega) _, fun j hj => ?_, ?_⟩
  · rw [World.cell?_setCell_other (h := by intro e'; injection e' with e' _ _; omega)]
    exact h.words j hj
  · rw [← parR_set h1 h4 hc]; exact heap_setCell_same wr (w.heap.size + 1) o _ _ _ h.blk
theorem WAt.cells {w wr : World} {r : Ret} (h : WAt w wr r) (o : Nat) (ho : o < 5) : (∃ u, wr.cell? ⟨w.heap.size + 1, o, none⟩ = some u) ∧ wr.frozen? ⟨w.heap.size + 1, o, none⟩ = false := by
  refine ⟨⟨(retV r)[o]'(by show o < 5; exact ho), ?_⟩, frozen_of_row wr (w.heap.size + 1) o _ _ h.blk⟩
  rw [cell_of_row wr (w.heap.size + 1) o _ _ (0, 0) h.blk, Array.getElem?_eq_getElem (by show o < 5; exact ho)]
theorem WAt.new (w : World) : WAt w ((w.alloc (.cells #[.string (tb (nameO 1)), .string (tb (nameO 2)), .string (tb (nameO 3)), .string (tb (nameO 4))] 9)).alloc (.cells (retV r0) 28)) r0 := by
  have h1 : (w.alloc (.cells #[.string (tb (nameO 1)), .string (tb (nameO 2)), .string (tb (nameO 3)), .string (tb (nameO 4))] 9)).heap.size = w.heap.size + 1 := World.size_alloc _ _
  refine ⟨((Below.refl _ w).alloc (Nat.le_refl _) _).alloc (by omega) _, fun j hj => ?_, ?_⟩
  · have hb := (Below.refl (w.alloc (.cells #[.string (tb (nameO 1)), .string (tb (nameO 2)), .string (tb (nameO 3)), .string (tb (nameO 4))] 9)).heap.size (w.alloc (.cells #[.string (tb (nameO 1)), .string (tb (nameO 2)), .string (tb (nameO 3)), .string (tb (nameO 4))] 9))).alloc (Nat.le_refl _) (.cells (retV r0) 28)
    rw [hb.cell (p := ⟨w.heap.size, j, none⟩) (by show w.heap.size < _; omega), World.cell?_alloc_mark]
    have : j = 0 ∨ j = 1 ∨ j = 2 ∨ j = 3 := by omega
    rcases this with rfl | rfl | rfl | rfl <;> rfl
  · rw [← h1]
    exact heap_alloc_last _ _
theorem eql_ret (W : World) (r : Ret) : (binOp .eql 28 (.agg (retV r)) (.agg (retV r))).run Tryd.prog W = .ok (.bool true) W := by
  rw [run_eql_struct, show 10000 = 9998 + 2 from rfl, eq_ret 9998 W r r, decide_eq_true rfl]; rfl
/-! The walk. -/
set_option maxRecDepth 100000 in
set_option maxHeartbeats 16000000 in
theorem orderActions_walk (a b : Int) (w : World) (he : Env w) : Calls Tryd.prog 4 #[.int .i64 a, .int .i64 b] w fun e w' => e = .returned (.bool true) ∧ Below w.heap.size w w' := by
  have hfit := fit8_e w he
  have HE := Lib.hid he
  have hi0 : ∀ W : World, (Instr.index 34 (.agg #[.int .i64 a, .int .i64 b]) (.int .i64 0)).run Tryd.prog W = .ok (.int .i64 a) W := fun W => by kernel_rfl
  have hi1 : ∀ W : World, (Instr.index 34 (.agg #[.int .i64 a, .int .i64 b]) (.int .i64 1)).run Tryd.prog W = .ok (.int .i64 b) W := fun W => by kernel_rfl
  obtain ⟨m0, b2, b3, hm0, g30, g40, g80⟩ := and_parts a
  obtain ⟨m1, c2, c3, hm1, g31, g41, g81⟩ := and_parts b
  have HZ := Lib.hid zeroRet
  have HBr := Lib.hid builtRet
  have HSZ : Hid ((Tryd.prog.info? 28).map (·.size) = some (retV r0).size) := Lib.hid sizeRet
  have HE1 : Hid (zR.size = (retV r0).size) := Lib.hid rfl
  have H1 := Lib.hid (retV_one r0)
  obtain ⟨R, hR⟩ : ∃ R, R = retV r0 := ⟨_, rfl⟩
  have HWN := Lib.hid (fun W => WAt.new W)
  rw [← hR] at HBr HSZ HE1 H1 HWN
  obtain ⟨Z, hZ⟩ : ∃ Z, Z = zR := ⟨_, rfl⟩
  rw [← hZ] at HZ HE1
  clear he hR hZ
  go_enter Tryd.func4, Tryd.ntmps4
  go_wp2_with (first
    | (go_at_call 9; refine hfit.mono ?_; rintro e w1 ⟨rfl, hb1⟩; have HB1 := Lib.hid hb1; have HW0 := Lib.hid (HWN.out w1); clear hb1)
    | (refine wpList_alloc_z rfl 28 rfl Z HZ.out ?_; go_simp)
    | (refine wpList_build_z rfl 28 #[(1, .const (.bool true))] rfl R HBr.out ?_; go_simp)
    | (refine wpList_store_new rfl 28 (.tmp 7) (.tmp 17) rfl (w1.heap.size + 1) (World.size_alloc _ _) Z R 28 rfl rfl HSZ.out HE1.out H1.out ?_; go_simp))
  go_loopg [21, 6] 2 (fun gk i v wr => ∃ k : Nat, i = .int .i64 k ∧ k + gk = 2 ∧ ((k = 0 ∧ v = .string (tb acH) ∧ Hid (WAt w1 wr r0)) ∨ (k = 1 ∧ v = .string (tb (acH ++ acU m0 b2 b3)) ∧ Hid (WAt w1 wr (setR r0 (m0 + 1) b2 b3))) ∨ (k = 2 ∧ v = .string (tb (acH ++ acU m0 b2 b3 ++ acU m1 c2 c3)) ∧ Hid (WAt w1 wr (setR (setR r0 (m0 + 1) b2 b3) (m1 + 1) c2 c3)))))
  case atStart => exact ⟨0, rfl, by omega, .inl ⟨rfl, rfl, HW0⟩⟩
  case round =>
    obtain ⟨k, rfl, hkg, ⟨rfl, rfl, HW⟩ | ⟨rfl, rfl, HW⟩ | ⟨rfl, rfl, HW⟩⟩ := hrel
    · have hkI : ((0 : Nat) : Int) < 2 := by decide
      obtain ⟨g2, rfl⟩ : ∃ g2, gk = g2 + 1 := ⟨gk - 1, by omega⟩
      obtain ⟨S, hS⟩ : ∃ S, S = tb (acH) := ⟨_, rfl⟩
      have hzS : S.size ≤ 40 := by
        rw [hS, size_eq, tb_data]
        decide
      have HSd : Hid (S.data.toList = acH) := Lib.hid (by rw [hS, tb_data])
      rw [← hS]
      have hcw := HW.out.words m0 hm0
      obtain ⟨N, hN⟩ : ∃ N, N = tb (nameO (m0 + 1)) := ⟨_, rfl⟩
      have hzN : N.size ≤ 8 := by rw [hN, size_eq, tb_data]; exact nameO_len _
      have HNd : Hid (N.data.toList = nameO (m0 + 1)) := Lib.hid (by rw [hN, tb_data])
      rw [← hN] at hcw
      have hmI : (m0 : Int) < 4 := by omega
      clear hS hN
      rcases (show b2 = true ∨ b2 = false by cases b2 <;> simp) with rfl | rfl
      · rcases (show b3 = true ∨ b3 = false by cases b3 <;> simp) with rfl | rfl
        · have q4 : bits BinOp.and IntKind.i64 a 4 = 4 := by simpa using g40
          have q8 : bits BinOp.and IntKind.i64 a 8 = 8 := by simpa using g80
          obtain ⟨T1, hT1⟩ : ∃ T1, S ++ (⟨#[33]⟩ : ByteArray) = T1 := ⟨_, rfl⟩
          have hz1 : T1.size ≤ 60 := by rw [← hT1, ByteArray.size_append]; have : (⟨#[33]⟩ : ByteArray).size = 1 := rfl; omega
          have hs33 : (⟨#[33]⟩ : ByteArray).size ≤ 1 := by decide
          obtain ⟨T2, hT2⟩ : ∃ T2, T1 ++ N = T2 := ⟨_, rfl⟩
          have hz2 : T2.size ≤ 70 := by rw [← hT2, ByteArray.size_append]; omega
          obtain ⟨T3, hT3⟩ : ∃ T3, T2 ++ (⟨#[61, 114, 101, 116, 117, 114, 110, 32]⟩ : ByteArray) = T3 := ⟨_, rfl⟩
          have hl3 : (⟨#[61, 114, 101, 116, 117, 114, 110, 32]⟩ : ByteArray).size ≤ 10 := by decide
          have HT3 : Hid (T3 = tb (acH ++ acU m0 true true)) := Lib.hid (bytes_inj (by
            rw [← hT3, Joins.data_append, ← hT2, Joins.data_append, ← hT1, Joins.data_append, HSd.out, HNd.out]
            unfold acU
            simp only [List.append_assoc]
            rfl))
          go_wp2_with fail
          go_loopg [11] 4 (fun gk i wr => ∃ o : Nat, i = .int .i64 o ∧ o + gk = 5 ∧ 1 ≤ o ∧ Hid (WAt w1 wr (parR r0 (m0 + 1) true true o)))
          case atStart => exact ⟨1, rfl, by omega, by omega, Lib.hid (by rw [parR_one]; exact HW.out)⟩
          case round =>
            obtain ⟨o, rfl, hog, ho1, HTo⟩ := hrel
            by_cases ho5 : o < 5
            · obtain ⟨g3, rfl⟩ : ∃ g3, gk = g3 + 1 := ⟨gk - 1, by omega⟩
              have hoI : (o : Int) < 5 := by omega
              obtain ⟨⟨u, hcu⟩, hfu⟩ := HTo.out.cells o ho5
              have o1I : (0 : Int) ≤ (o : Int) := by omega
              by_cases hok : o = m0 + 1
              · subst hok
                have HK2 := Lib.hid (parR_keep (r := r0) (k := (m0 + 1)) (v := true) ho1 ho5 (show (decide (m0 + 1 = m0 + 1) != true) = false by rw [decide_eq_true rfl]; rfl))
                go_wp2
                go_roundg g3
                case measure => omega
                case rel => exact ⟨m0 + 1 + 1, by go_num, by omega, by omega, Lib.hid (by rw [HK2.out]; exact HTo.out)⟩
              · have hokI : ¬ (o : Int) = (m0 : Int) + 1 := by omega
                have hokB : ((o : Int) == (m0 : Int) + 1) = false := by simp [hokI]
                have HP2 := Lib.hid (HTo.out.put ho1 ho5 (show (decide (o = m0 + 1) != true) = true by rw [decide_eq_false hok]; rfl))
                go_wp2
                go_roundg g3
                case measure => omega
                case rel => exact ⟨o + 1, by go_num, by omega, by omega, HP2⟩
            · obtain rfl : o = 5 := by omega
              have hT5 := HTo.out
              rw [parR_five] at hT5
              have HT5 := Lib.hid hT5
              clear hT5
              go_wp2
              go_roundg g2
              case measure => omega
              case rel => exact ⟨1, by go_num, by omega, .inr (.inl ⟨rfl, by rw [HT3.out], HT5⟩)⟩
        · have q4 : bits BinOp.and IntKind.i64 a 4 = 4 := by simpa using g40
          have q8 : bits BinOp.and IntKind.i64 a 8 = 0 := by simpa using g80
          obtain ⟨T1, hT1⟩ : ∃ T1, S ++ (⟨#[33]⟩ : ByteArray) = T1 := ⟨_, rfl⟩
          have hz1 : T1.size ≤ 60 := by rw [← hT1, ByteArray.size_append]; have : (⟨#[33]⟩ : ByteArray).size = 1 := rfl; omega
          have hs33 : (⟨#[33]⟩ : ByteArray).size ≤ 1 := by decide
          obtain ⟨T2, hT2⟩ : ∃ T2, T1 ++ N = T2 := ⟨_, rfl⟩
          have hz2 : T2.size ≤ 70 := by rw [← hT2, ByteArray.size_append]; omega
          obtain ⟨T3, hT3⟩ : ∃ T3, T2 ++ (⟨#[61, 99, 111, 110, 116, 105, 110, 117, 101, 32]⟩ : ByteArray) = T3 := ⟨_, rfl⟩
          have hl3 : (⟨#[61, 99, 111, 110, 116, 105, 110, 117, 101, 32]⟩ : ByteArray).size ≤ 10 := by decide
          have HT3 : Hid (T3 = tb (acH ++ acU m0 true false)) := Lib.hid (bytes_inj (by
            rw [← hT3, Joins.data_append, ← hT2, Joins.data_append, ← hT1, Joins.data_append, HSd.out, HNd.out]
            unfold acU
            simp only [List.append_assoc]
            rfl))
          go_wp2_with fail
          go_loopg [11] 4 (fun gk i wr => ∃ o : Nat, i = .int .i64 o ∧ o + gk = 5 ∧ 1 ≤ o ∧ Hid (WAt w1 wr (parR r0 (m0 + 1) true false o)))
          case atStart => exact ⟨1, rfl, by omega, by omega, Lib.hid (by rw [parR_one]; exact HW.out)⟩
          case round =>
            obtain ⟨o, rfl, hog, ho1, HTo⟩ := hrel
            by_cases ho5 : o < 5
            · obtain ⟨g3, rfl⟩ : ∃ g3, gk = g3 + 1 := ⟨gk - 1, by omega⟩
              have hoI : (o : Int) < 5 := by omega
              obtain ⟨⟨u, hcu⟩, hfu⟩ := HTo.out.cells o ho5
              have o1I : (0 : Int) ≤ (o : Int) := by omega
              by_cases hok : o = m0 + 1
              · subst hok
                have HK2 := Lib.hid (parR_keep (r := r0) (k := (m0 + 1)) (v := false) ho1 ho5 (show (decide (m0 + 1 = m0 + 1) != true) = false by rw [decide_eq_true rfl]; rfl))
                go_wp2
                go_roundg g3
                case measure => omega
                case rel => exact ⟨m0 + 1 + 1, by go_num, by omega, by omega, Lib.hid (by rw [HK2.out]; exact HTo.out)⟩
              · have hokI : ¬ (o : Int) = (m0 : Int) + 1 := by omega
                have hokB : ((o : Int) == (m0 : Int) + 1) = false := by simp [hokI]
                have HP2 := Lib.hid (HTo.out.put ho1 ho5 (show (decide (o = m0 + 1) != true) = true by rw [decide_eq_false hok]; rfl))
                go_wp2
                go_roundg g3
                case measure => omega
                case rel => exact ⟨o + 1, by go_num, by omega, by omega, HP2⟩
            · obtain rfl : o = 5 := by omega
              have hT5 := HTo.out
              rw [parR_five] at hT5
              have HT5 := Lib.hid hT5
              clear hT5
              go_wp2
              go_roundg g2
              case measure => omega
              case rel => exact ⟨1, by go_num, by omega, .inr (.inl ⟨rfl, by rw [HT3.out], HT5⟩)⟩
      · rcases (show b3 = true ∨ b3 = false by cases b3 <;> simp) with rfl | rfl
        · have q4 : bits BinOp.and IntKind.i64 a 4 = 0 := by simpa using g40
          have q8 : bits BinOp.and IntKind.i64 a 8 = 8 := by simpa using g80
          obtain ⟨T1, hT1⟩ : ∃ T1, T1 = S := ⟨_, rfl⟩
          have hz1 : T1.size ≤ 60 := by rw [hT1]; omega
          subst hT1
          obtain ⟨T2, hT2⟩ : ∃ T2, T1 ++ N = T2 := ⟨_, rfl⟩
          have hz2 : T2.size ≤ 70 := by rw [← hT2, ByteArray.size_append]; omega
          obtain ⟨T3, hT3⟩ : ∃ T3, T2 ++ (⟨#[61, 114, 101, 116, 117, 114, 110, 32]⟩ : ByteArray) = T3 := ⟨_, rfl⟩
          have hl3 : (⟨#[61, 114, 101, 116, 117, 114, 110, 32]⟩ : ByteArray).size ≤ 10 := by decide
          have HT3 : Hid (T3 = tb (acH ++ acU m0 false true)) := Lib.hid (bytes_inj (by
            rw [← hT3, Joins.data_append, ← hT2, Joins.data_append, HSd.out, HNd.out]
            unfold acU
            simp only [List.append_assoc]
            rfl))
          go_wp2_with fail
          go_loopg [11] 4 (fun gk i wr => ∃ o : Nat, i = .int .i64 o ∧ o + gk = 5 ∧ 1 ≤ o ∧ Hid (WAt w1 wr (parR r0 (m0 + 1) false true o)))
          case atStart => exact ⟨1, rfl, by omega, by omega, Lib.hid (by rw [parR_one]; exact HW.out)⟩
          case round =>
            obtain ⟨o, rfl, hog, ho1, HTo⟩ := hrel
            by_cases ho5 : o < 5
            · obtain ⟨g3, rfl⟩ : ∃ g3, gk = g3 + 1 := ⟨gk - 1, by omega⟩
              have hoI : (o : Int) < 5 := by omega
              obtain ⟨⟨u, hcu⟩, hfu⟩ := HTo.out.cells o ho5
              have o1I : (0 : Int) ≤ (o : Int) := by omega
              by_cases hok : o = m0 + 1
              · subst hok
                have HP2 := Lib.hid (HTo.out.put ho1 ho5 (show (decide (m0 + 1 = m0 + 1) != false) = true by rw [decide_eq_true rfl]; rfl))
                go_wp2
                go_roundg g3
                case measure => omega
                case rel => exact ⟨m0 + 1 + 1, by go_num, by omega, by omega, HP2⟩
              · have hokI : ¬ (o : Int) = (m0 : Int) + 1 := by omega
                have hokB : ((o : Int) == (m0 : Int) + 1) = false := by simp [hokI]
                have HK2 := Lib.hid (parR_keep (r := r0) (k := (m0 + 1)) (v := true) ho1 ho5 (show (decide (o = m0 + 1) != false) = false by rw [decide_eq_false hok]; rfl))
                go_wp2
                go_roundg g3
                case measure => omega
                case rel => exact ⟨o + 1, by go_num, by omega, by omega, Lib.hid (by rw [HK2.out]; exact HTo.out)⟩
            · obtain rfl : o = 5 := by omega
              have hT5 := HTo.out
              rw [parR_five] at hT5
              have HT5 := Lib.hid hT5
              clear hT5
              go_wp2
              go_roundg g2
              case measure => omega
              case rel => exact ⟨1, by go_num, by omega, .inr (.inl ⟨rfl, by rw [HT3.out], HT5⟩)⟩
        · have q4 : bits BinOp.and IntKind.i64 a 4 = 0 := by simpa using g40
          have q8 : bits BinOp.and IntKind.i64 a 8 = 0 := by simpa using g80
          obtain ⟨T1, hT1⟩ : ∃ T1, T1 = S := ⟨_, rfl⟩
          have hz1 : T1.size ≤ 60 := by rw [hT1]; omega
          subst hT1
          obtain ⟨T2, hT2⟩ : ∃ T2, T1 ++ N = T2 := ⟨_, rfl⟩
          have hz2 : T2.size ≤ 70 := by rw [← hT2, ByteArray.size_append]; omega
          obtain ⟨T3, hT3⟩ : ∃ T3, T2 ++ (⟨#[61, 99, 111, 110, 116, 105, 110, 117, 101, 32]⟩ : ByteArray) = T3 := ⟨_, rfl⟩
          have hl3 : (⟨#[61, 99, 111, 110, 116, 105, 110, 117, 101, 32]⟩ : ByteArray).size ≤ 10 := by decide
          have HT3 : Hid (T3 = tb (acH ++ acU m0 false false)) := Lib.hid (bytes_inj (by
            rw [← hT3, Joins.data_append, ← hT2, Joins.data_append, HSd.out, HNd.out]
            unfold acU
            simp only [List.append_assoc]
            rfl))
          go_wp2_with fail
          go_loopg [11] 4 (fun gk i wr => ∃ o : Nat, i = .int .i64 o ∧ o + gk = 5 ∧ 1 ≤ o ∧ Hid (WAt w1 wr (parR r0 (m0 + 1) false false o)))
          case atStart => exact ⟨1, rfl, by omega, by omega, Lib.hid (by rw [parR_one]; exact HW.out)⟩
          case round =>
            obtain ⟨o, rfl, hog, ho1, HTo⟩ := hrel
            by_cases ho5 : o < 5
            · obtain ⟨g3, rfl⟩ : ∃ g3, gk = g3 + 1 := ⟨gk - 1, by omega⟩
              have hoI : (o : Int) < 5 := by omega
              obtain ⟨⟨u, hcu⟩, hfu⟩ := HTo.out.cells o ho5
              have o1I : (0 : Int) ≤ (o : Int) := by omega
              by_cases hok : o = m0 + 1
              · subst hok
                have HP2 := Lib.hid (HTo.out.put ho1 ho5 (show (decide (m0 + 1 = m0 + 1) != false) = true by rw [decide_eq_true rfl]; rfl))
                go_wp2
                go_roundg g3
                case measure => omega
                case rel => exact ⟨m0 + 1 + 1, by go_num, by omega, by omega, HP2⟩
              · have hokI : ¬ (o : Int) = (m0 : Int) + 1 := by omega
                have hokB : ((o : Int) == (m0 : Int) + 1) = false := by simp [hokI]
                have HK2 := Lib.hid (parR_keep (r := r0) (k := (m0 + 1)) (v := false) ho1 ho5 (show (decide (o = m0 + 1) != false) = false by rw [decide_eq_false hok]; rfl))
                go_wp2
                go_roundg g3
                case measure => omega
                case rel => exact ⟨o + 1, by go_num, by omega, by omega, Lib.hid (by rw [HK2.out]; exact HTo.out)⟩
            · obtain rfl : o = 5 := by omega
              have hT5 := HTo.out
              rw [parR_five] at hT5
              have HT5 := Lib.hid hT5
              clear hT5
              go_wp2
              go_roundg g2
              case measure => omega
              case rel => exact ⟨1, by go_num, by omega, .inr (.inl ⟨rfl, by rw [HT3.out], HT5⟩)⟩
    · have hkI : ((1 : Nat) : Int) < 2 := by decide
      obtain ⟨g2, rfl⟩ : ∃ g2, gk = g2 + 1 := ⟨gk - 1, by omega⟩
      obtain ⟨S, hS⟩ : ∃ S, S = tb (acH ++ acU m0 b2 b3) := ⟨_, rfl⟩
      have hzS : S.size ≤ 40 := by
        rw [hS, size_eq, tb_data]
        have := acU_len ⟨m0, hm0⟩ b2 b3
        rw [List.length_append]
        have h5 : acH.length = 5 := rfl
        simp only at this
        omega
      have HSd : Hid (S.data.toList = acH ++ acU m0 b2 b3) := Lib.hid (by rw [hS, tb_data])
      rw [← hS]
      have hcw := HW.out.words m1 hm1
      obtain ⟨N, hN⟩ : ∃ N, N = tb (nameO (m1 + 1)) := ⟨_, rfl⟩
      have hzN : N.size ≤ 8 := by rw [hN, size_eq, tb_data]; exact nameO_len _
      have HNd : Hid (N.data.toList = nameO (m1 + 1)) := Lib.hid (by rw [hN, tb_data])
      rw [← hN] at hcw
      have hmI : (m1 : Int) < 4 := by omega
      clear hS hN
      rcases (show c2 = true ∨ c2 = false by cases c2 <;> simp) with rfl | rfl
      · rcases (show c3 = true ∨ c3 = false by cases c3 <;> simp) with rfl | rfl
        · have q4 : bits BinOp.and IntKind.i64 b 4 = 4 := by simpa using g41
          have q8 : bits BinOp.and IntKind.i64 b 8 = 8 := by simpa using g81
          obtain ⟨T1, hT1⟩ : ∃ T1, S ++ (⟨#[33]⟩ : ByteArray) = T1 := ⟨_, rfl⟩
          have hz1 : T1.size ≤ 60 := by rw [← hT1, ByteArray.size_append]; have : (⟨#[33]⟩ : ByteArray).size = 1 := rfl; omega
          have hs33 : (⟨#[33]⟩ : ByteArray).size ≤ 1 := by decide
          obtain ⟨T2, hT2⟩ : ∃ T2, T1 ++ N = T2 := ⟨_, rfl⟩
          have hz2 : T2.size ≤ 70 := by rw [← hT2, ByteArray.size_append]; omega
          obtain ⟨T3, hT3⟩ : ∃ T3, T2 ++ (⟨#[61, 114, 101, 116, 117, 114, 110, 32]⟩ : ByteArray) = T3 := ⟨_, rfl⟩
          have hl3 : (⟨#[61, 114, 101, 116, 117, 114, 110, 32]⟩ : ByteArray).size ≤ 10 := by decide
          have HT3 : Hid (T3 = tb (acH ++ acU m0 b2 b3 ++ acU m1 true true)) := Lib.hid (bytes_inj (by
            rw [← hT3, Joins.data_append, ← hT2, Joins.data_append, ← hT1, Joins.data_append, HSd.out, HNd.out]
            unfold acU
            simp only [List.append_assoc]
            rfl))
          go_wp2_with fail
          go_loopg [11] 4 (fun gk i wr => ∃ o : Nat, i = .int .i64 o ∧ o + gk = 5 ∧ 1 ≤ o ∧ Hid (WAt w1 wr (parR (setR r0 (m0 + 1) b2 b3) (m1 + 1) true true o)))
          case atStart => exact ⟨1, rfl, by omega, by omega, Lib.hid (by rw [parR_one]; exact HW.out)⟩
          case round =>
            obtain ⟨o, rfl, hog, ho1, HTo⟩ := hrel
            by_cases ho5 : o < 5
            · obtain ⟨g3, rfl⟩ : ∃ g3, gk = g3 + 1 := ⟨gk - 1, by omega⟩
              have hoI : (o : Int) < 5 := by omega
              obtain ⟨⟨u, hcu⟩, hfu⟩ := HTo.out.cells o ho5
              have o1I : (0 : Int) ≤ (o : Int) := by omega
              by_cases hok : o = m1 + 1
              · subst hok
                have HK2 := Lib.hid (parR_keep (r := (setR r0 (m0 + 1) b2 b3)) (k := (m1 + 1)) (v := true) ho1 ho5 (show (decide (m1 + 1 = m1 + 1) != true) = false by rw [decide_eq_true rfl]; rfl))
                go_wp2
                go_roundg g3
                case measure => omega
                case rel => exact ⟨m1 + 1 + 1, by go_num, by omega, by omega, Lib.hid (by rw [HK2.out]; exact HTo.out)⟩
              · have hokI : ¬ (o : Int) = (m1 : Int) + 1 := by omega
                have hokB : ((o : Int) == (m1 : Int) + 1) = false := by simp [hokI]
                have HP2 := Lib.hid (HTo.out.put ho1 ho5 (show (decide (o = m1 + 1) != true) = true by rw [decide_eq_false hok]; rfl))
                go_wp2
                go_roundg g3
                case measure => omega
                case rel => exact ⟨o + 1, by go_num, by omega, by omega, HP2⟩
            · obtain rfl : o = 5 := by omega
              have hT5 := HTo.out
              rw [parR_five] at hT5
              have HT5 := Lib.hid hT5
              clear hT5
              go_wp2
              go_roundg g2
              case measure => omega
              case rel => exact ⟨2, by go_num, by omega, .inr (.inr ⟨rfl, by rw [HT3.out], HT5⟩)⟩
        · have q4 : bits BinOp.and IntKind.i64 b 4 = 4 := by simpa using g41
          have q8 : bits BinOp.and IntKind.i64 b 8 = 0 := by simpa using g81
          obtain ⟨T1, hT1⟩ : ∃ T1, S ++ (⟨#[33]⟩ : ByteArray) = T1 := ⟨_, rfl⟩
          have hz1 : T1.size ≤ 60 := by rw [← hT1, ByteArray.size_append]; have : (⟨#[33]⟩ : ByteArray).size = 1 := rfl; omega
          have hs33 : (⟨#[33]⟩ : ByteArray).size ≤ 1 := by decide
          obtain ⟨T2, hT2⟩ : ∃ T2, T1 ++ N = T2 := ⟨_, rfl⟩
          have hz2 : T2.size ≤ 70 := by rw [← hT2, ByteArray.size_append]; omega
          obtain ⟨T3, hT3⟩ : ∃ T3, T2 ++ (⟨#[61, 99, 111, 110, 116, 105, 110, 117, 101, 32]⟩ : ByteArray) = T3 := ⟨_, rfl⟩
          have hl3 : (⟨#[61, 99, 111, 110, 116, 105, 110, 117, 101, 32]⟩ : ByteArray).size ≤ 10 := by decide
          have HT3 : Hid (T3 = tb (acH ++ acU m0 b2 b3 ++ acU m1 true false)) := Lib.hid (bytes_inj (by
            rw [← hT3, Joins.data_append, ← hT2, Joins.data_append, ← hT1, Joins.data_append, HSd.out, HNd.out]
            unfold acU
            simp only [List.append_assoc]
            rfl))
          go_wp2_with fail
          go_loopg [11] 4 (fun gk i wr => ∃ o : Nat, i = .int .i64 o ∧ o + gk = 5 ∧ 1 ≤ o ∧ Hid (WAt w1 wr (parR (setR r0 (m0 + 1) b2 b3) (m1 + 1) true false o)))
          case atStart => exact ⟨1, rfl, by omega, by omega, Lib.hid (by rw [parR_one]; exact HW.out)⟩
          case round =>
            obtain ⟨o, rfl, hog, ho1, HTo⟩ := hrel
            by_cases ho5 : o < 5
            · obtain ⟨g3, rfl⟩ : ∃ g3, gk = g3 + 1 := ⟨gk - 1, by omega⟩
              have hoI : (o : Int) < 5 := by omega
              obtain ⟨⟨u, hcu⟩, hfu⟩ := HTo.out.cells o ho5
              have o1I : (0 : Int) ≤ (o : Int) := by omega
              by_cases hok : o = m1 + 1
              · subst hok
                have HK2 := Lib.hid (parR_keep (r := (setR r0 (m0 + 1) b2 b3)) (k := (m1 + 1)) (v := false) ho1 ho5 (show (decide (m1 + 1 = m1 + 1) != true) = false by rw [decide_eq_true rfl]; rfl))
                go_wp2
                go_roundg g3
                case measure => omega
                case rel => exact ⟨m1 + 1 + 1, by go_num, by omega, by omega, Lib.hid (by rw [HK2.out]; exact HTo.out)⟩
              · have hokI : ¬ (o : Int) = (m1 : Int) + 1 := by omega
                have hokB : ((o : Int) == (m1 : Int) + 1) = false := by simp [hokI]
                have HP2 := Lib.hid (HTo.out.put ho1 ho5 (show (decide (o = m1 + 1) != true) = true by rw [decide_eq_false hok]; rfl))
                go_wp2
                go_roundg g3
                case measure => omega
                case rel => exact ⟨o + 1, by go_num, by omega, by omega, HP2⟩
            · obtain rfl : o = 5 := by omega
              have hT5 := HTo.out
              rw [parR_five] at hT5
              have HT5 := Lib.hid hT5
              clear hT5
              go_wp2
              go_roundg g2
              case measure => omega
              case rel => exact ⟨2, by go_num, by omega, .inr (.inr ⟨rfl, by rw [HT3.out], HT5⟩)⟩
      · rcases (show c3 = true ∨ c3 = false by cases c3 <;> simp) with rfl | rfl
        · have q4 : bits BinOp.and IntKind.i64 b 4 = 0 := by simpa using g41
          have q8 : bits BinOp.and IntKind.i64 b 8 = 8 := by simpa using g81
          obtain ⟨T1, hT1⟩ : ∃ T1, T1 = S := ⟨_, rfl⟩
          have hz1 : T1.size ≤ 60 := by rw [hT1]; omega
          subst hT1
          obtain ⟨T2, hT2⟩ : ∃ T2, T1 ++ N = T2 := ⟨_, rfl⟩
          have hz2 : T2.size ≤ 70 := by rw [← hT2, ByteArray.size_append]; omega
          obtain ⟨T3, hT3⟩ : ∃ T3, T2 ++ (⟨#[61, 114, 101, 116, 117, 114, 110, 32]⟩ : ByteArray) = T3 := ⟨_, rfl⟩
          have hl3 : (⟨#[61, 114, 101, 116, 117, 114, 110, 32]⟩ : ByteArray).size ≤ 10 := by decide
          have HT3 : Hid (T3 = tb (acH ++ acU m0 b2 b3 ++ acU m1 false true)) := Lib.hid (bytes_inj (by
            rw [← hT3, Joins.data_append, ← hT2, Joins.data_append, HSd.out, HNd.out]
            unfold acU
            simp only [List.append_assoc]
            rfl))
          go_wp2_with fail
          go_loopg [11] 4 (fun gk i wr => ∃ o : Nat, i = .int .i64 o ∧ o + gk = 5 ∧ 1 ≤ o ∧ Hid (WAt w1 wr (parR (setR r0 (m0 + 1) b2 b3) (m1 + 1) false true o)))
          case atStart => exact ⟨1, rfl, by omega, by omega, Lib.hid (by rw [parR_one]; exact HW.out)⟩
          case round =>
            obtain ⟨o, rfl, hog, ho1, HTo⟩ := hrel
            by_cases ho5 : o < 5
            · obtain ⟨g3, rfl⟩ : ∃ g3, gk = g3 + 1 := ⟨gk - 1, by omega⟩
              have hoI : (o : Int) < 5 := by omega
              obtain ⟨⟨u, hcu⟩, hfu⟩ := HTo.out.cells o ho5
              have o1I : (0 : Int) ≤ (o : Int) := by omega
              by_cases hok : o = m1 + 1
              · subst hok
                have HP2 := Lib.hid (HTo.out.put ho1 ho5 (show (decide (m1 + 1 = m1 + 1) != false) = true by rw [decide_eq_true rfl]; rfl))
                go_wp2
                go_roundg g3
                case measure => omega
                case rel => exact ⟨m1 + 1 + 1, by go_num, by omega, by omega, HP2⟩
              · have hokI : ¬ (o : Int) = (m1 : Int) + 1 := by omega
                have hokB : ((o : Int) == (m1 : Int) + 1) = false := by simp [hokI]
                have HK2 := Lib.hid (parR_keep (r := (setR r0 (m0 + 1) b2 b3)) (k := (m1 + 1)) (v := true) ho1 ho5 (show (decide (o = m1 + 1) != false) = false by rw [decide_eq_false hok]; rfl))
                go_wp2
                go_roundg g3
                case measure => omega
                case rel => exact ⟨o + 1, by go_num, by omega, by omega, Lib.hid (by rw [HK2.out]; exact HTo.out)⟩
            · obtain rfl : o = 5 := by omega
              have hT5 := HTo.out
              rw [parR_five] at hT5
              have HT5 := Lib.hid hT5
              clear hT5
              go_wp2
              go_roundg g2
              case measure => omega
              case rel => exact ⟨2, by go_num, by omega, .inr (.inr ⟨rfl, by rw [HT3.out], HT5⟩)⟩
        · have q4 : bits BinOp.and IntKind.i64 b 4 = 0 := by simpa using g41
          have q8 : bits BinOp.and IntKind.i64 b 8 = 0 := by simpa using g81
          obtain ⟨T1, hT1⟩ : ∃ T1, T1 = S := ⟨_, rfl⟩
          have hz1 : T1.size ≤ 60 := by rw [hT1]; omega
          subst hT1
          obtain ⟨T2, hT2⟩ : ∃ T2, T1 ++ N = T2 := ⟨_, rfl⟩
          have hz2 : T2.size ≤ 70 := by rw [← hT2, ByteArray.size_append]; omega
          obtain ⟨T3, hT3⟩ : ∃ T3, T2 ++ (⟨#[61, 99, 111, 110, 116, 105, 110, 117, 101, 32]⟩ : ByteArray) = T3 := ⟨_, rfl⟩
          have hl3 : (⟨#[61, 99, 111, 110, 116, 105, 110, 117, 101, 32]⟩ : ByteArray).size ≤ 10 := by decide
          have HT3 : Hid (T3 = tb (acH ++ acU m0 b2 b3 ++ acU m1 false false)) := Lib.hid (bytes_inj (by
            rw [← hT3, Joins.data_append, ← hT2, Joins.data_append, HSd.out, HNd.out]
            unfold acU
            simp only [List.append_assoc]
            rfl))
          go_wp2_with fail
          go_loopg [11] 4 (fun gk i wr => ∃ o : Nat, i = .int .i64 o ∧ o + gk = 5 ∧ 1 ≤ o ∧ Hid (WAt w1 wr (parR (setR r0 (m0 + 1) b2 b3) (m1 + 1) false false o)))
          case atStart => exact ⟨1, rfl, by omega, by omega, Lib.hid (by rw [parR_one]; exact HW.out)⟩
          case round =>
            obtain ⟨o, rfl, hog, ho1, HTo⟩ := hrel
            by_cases ho5 : o < 5
            · obtain ⟨g3, rfl⟩ : ∃ g3, gk = g3 + 1 := ⟨gk - 1, by omega⟩
              have hoI : (o : Int) < 5 := by omega
              obtain ⟨⟨u, hcu⟩, hfu⟩ := HTo.out.cells o ho5
              have o1I : (0 : Int) ≤ (o : Int) := by omega
              by_cases hok : o = m1 + 1
              · subst hok
                have HP2 := Lib.hid (HTo.out.put ho1 ho5 (show (decide (m1 + 1 = m1 + 1) != false) = true by rw [decide_eq_true rfl]; rfl))
                go_wp2
                go_roundg g3
                case measure => omega
                case rel => exact ⟨m1 + 1 + 1, by go_num, by omega, by omega, HP2⟩
              · have hokI : ¬ (o : Int) = (m1 : Int) + 1 := by omega
                have hokB : ((o : Int) == (m1 : Int) + 1) = false := by simp [hokI]
                have HK2 := Lib.hid (parR_keep (r := (setR r0 (m0 + 1) b2 b3)) (k := (m1 + 1)) (v := false) ho1 ho5 (show (decide (o = m1 + 1) != false) = false by rw [decide_eq_false hok]; rfl))
                go_wp2
                go_roundg g3
                case measure => omega
                case rel => exact ⟨o + 1, by go_num, by omega, by omega, Lib.hid (by rw [HK2.out]; exact HTo.out)⟩
            · obtain rfl : o = 5 := by omega
              have hT5 := HTo.out
              rw [parR_five] at hT5
              have HT5 := Lib.hid hT5
              clear hT5
              go_wp2
              go_roundg g2
              case measure => omega
              case rel => exact ⟨2, by go_num, by omega, .inr (.inr ⟨rfl, by rw [HT3.out], HT5⟩)⟩
    · have hkI : ¬ ((2 : Nat) : Int) < 2 := by decide
      obtain ⟨S, hS⟩ : ∃ S, S = tb (acH ++ acU m0 b2 b3 ++ acU m1 c2 c3) := ⟨_, rfl⟩
      have hzS : S.size ≤ 80 := by
        rw [hS, size_eq, tb_data]
        have h1 := acU_len ⟨m0, hm0⟩ b2 b3
        have h2 := acU_len ⟨m1, hm1⟩ c2 c3
        rw [List.length_append, List.length_append]
        have h5 : acH.length = 5 := rfl
        simp only at h1 h2
        omega
      obtain ⟨T, hT⟩ : ∃ T, S ++ (⟨#[93]⟩ : ByteArray) = T := ⟨_, rfl⟩
      have hs93 : (⟨#[93]⟩ : ByteArray).size ≤ 1 := by decide
      have hTz : T.size ≤ 100 := by rw [← hT, ByteArray.size_append]; omega
      have hpa := okB_of (acu_all ⟨m0, hm0⟩ ⟨m1, hm1⟩ b2 b3 c2 c3)
      simp only at hpa
      obtain ⟨⟨f1, f2, f3, f4⟩, hf⟩ : ∃ F : Ret, F = setR (setR r0 (m0 + 1) b2 b3) (m1 + 1) c2 c3 := ⟨_, rfl⟩
      rw [← hf] at hpa HW
      have hTd : T.data.toList = acH ++ acU m0 b2 b3 ++ acU m1 c2 c3 ++ [93] := by rw [← hT, Joins.data_append, hS, tb_data]
      rw [← hTd] at hpa
      have HP : Hid (∀ W, Env W → Calls Tryd.prog 10 #[.string T] W fun e w' => Below W.heap.size W w' ∧ ∃ q c, e = .returned (.tuple #[.slice (some ⟨q, 0, none⟩) 1 c, .int .i64 0]) ∧ w'.cell? ⟨q, 0, none⟩ = some (.int .i64 2) ∧ w'.cell? ⟨q, 1, none⟩ = some (.bool false) ∧ w'.cell? ⟨q, 2, none⟩ = some (.bool f1) ∧ w'.cell? ⟨q, 3, none⟩ = some (.bool f2) ∧ w'.cell? ⟨q, 4, none⟩ = some (.bool f3) ∧ w'.cell? ⟨q, 5, none⟩ = some (.bool f4)) := Lib.hid fun W hW => (parse_e T W hW (by omega)).mono (by
        rintro e w' ⟨hb, v, rfl, hsl⟩
        rw [hpa] at hsl ⊢
        obtain ⟨q, c, rfl, _, hc⟩ := hsl.form (by simp)
        exact ⟨hb, q, c, rfl, hc 0 _ rfl, hc 1 _ rfl, hc 2 _ rfl, hc 3 _ rfl, hc 4 _ rfl, hc 5 _ rfl⟩)
      have heq : ∀ W : World, (binOp .eql 28 (.agg #[.bool false, .bool f1, .bool f2, .bool f3, .bool f4]) (.agg #[.bool false, .bool f1, .bool f2, .bool f3, .bool f4])).run Tryd.prog W = .ok (.bool true) W := fun W => eql_ret W (f1, f2, f3, f4)
      rw [← hS]
      have HB2 := Lib.hid (HB1.out.trans (HW.out.below.mono HB1.out.size))
      clear hS hpa hf hTd g30 g40 g80 g31 g41 g81 hi0 hi1
      go_wp2_with fail
      refine (HP.out _ (HE.out.below HB2.out)).mono ?_
      rintro e w5 ⟨hb5, q, c, rfl, p0, p1, p2, p3, p4, p5⟩
      have hblk := (hb5.block _ (Array.getElem?_eq_some_iff.1 HW.out.blk).1).trans HW.out.blk
      have z0 : w5.cell? ⟨w1.heap.size + 1, 0, none⟩ = some (.bool false) := by rw [cell_of_row w5 (w1.heap.size + 1) 0 _ _ (0, 0) hblk]; rfl
      have z1 : w5.cell? ⟨w1.heap.size + 1, 1, none⟩ = some (.bool f1) := by rw [cell_of_row w5 (w1.heap.size + 1) 1 _ _ (0, 0) hblk]; rfl
      have z2 : w5.cell? ⟨w1.heap.size + 1, 2, none⟩ = some (.bool f2) := by rw [cell_of_row w5 (w1.heap.size + 1) 2 _ _ (0, 0) hblk]; rfl
      have z3 : w5.cell? ⟨w1.heap.size + 1, 3, none⟩ = some (.bool f3) := by rw [cell_of_row w5 (w1.heap.size + 1) 3 _ _ (0, 0) hblk]; rfl
      have z4 : w5.cell? ⟨w1.heap.size + 1, 4, none⟩ = some (.bool f4) := by rw [cell_of_row w5 (w1.heap.size + 1) 4 _ _ (0, 0) hblk]; rfl
      have HB5 := Lib.hid (HB2.out.trans (hb5.mono HB2.out.size))
      clear hblk hb5
      go_wp2_with fail
      go_quiet (fail)
      go_wp2_with fail
      have HB6 := Lib.hid (below_drewQ HB5.out nq)
      go_ret
      exact ⟨rfl, HB6.out⟩
end Go.Proofs.YtpgkopnnfhlhbaaDoor
