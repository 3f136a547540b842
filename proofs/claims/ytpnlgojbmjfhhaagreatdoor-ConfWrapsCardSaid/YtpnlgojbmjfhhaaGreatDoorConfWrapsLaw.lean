/-
  The walk of ConfWraps: a fault around a fault is found all the same. Condition: the library's variables hold what their initialisers lay.
-/
import Derived.Test.YtpnlgojbmjfhhaaGreatDoorConfTx
namespace Go.Proofs.YtpnlgojbmjfhhaaGreatDoor
open Go.RowKit

theorem and4095 (n : Int) : ∃ m : Nat, m ≤ 4095 ∧ bits BinOp.and IntKind.i64 n 4095 = (m : Int) := by
  have hle : (BitVec.ofInt 64 n &&& BitVec.ofInt 64 4095).toNat ≤ 4095 := by
    rw [BitVec.toNat_and]
    exact Nat.le_trans Nat.and_le_right (by decide +kernel)
  refine ⟨(BitVec.ofInt 64 n &&& BitVec.ofInt 64 4095).toNat, hle, ?_⟩
  show IntKind.i64.wrap ((BitVec.ofInt 64 n &&& BitVec.ofInt 64 4095).toNat : Int) = _
  exact IntWalk.i64_in _ (by omega)
/-- the blocks that the law makes -/
def wrW (w1 : World) (l k : Nat) : World := ((((w1.alloc (.cells #[.int .i64 6, .int .i64 1, .int .i64 5, .int .i64 2] 36)).alloc (.cells #[.int .i64 1, .iface 36 (.int .i64 k)] 43)).alloc (.cells #[.int .i64 l, .iface 35 (.pointer (some ⟨w1.heap.size + 1, 0, none⟩))] 43)).alloc (.cells #[.pointer none] 35)).alloc (.cells #[.int .i64 0] 36)
theorem wrW_facts (w1 : World) (l k : Nat) : Below w1.heap.size w1 (wrW w1 l k) ∧ (wrW w1 l k).heap.size = w1.heap.size + 5 ∧ (wrW w1 l k).heap[w1.heap.size + 1]? = some (.cells #[.int .i64 1, .iface 36 (.int .i64 k)] 43 (0, 0)) ∧
    (wrW w1 l k).heap[w1.heap.size + 2]? = some (.cells #[.int .i64 l, .iface 35 (.pointer (some ⟨w1.heap.size + 1, 0, none⟩))] 43 (0, 0)) ∧
    (wrW w1 l k).heap[w1.heap.size + 3]? = some (.cells #[.pointer none] 35 (0, 0)) ∧ (wrW w1 l k).heap[w1.heap.size + 4]? = some (.cells #[.int .i64 0] 36 (0, 0)) := by
  unfold wrW
  refine ⟨((((((Below.refl _ w1).alloc (Nat.le_refl _) _).alloc (by simp only [World.size_alloc]; omega) _).alloc (by simp only [World.size_alloc]; omega) _).alloc (by simp only [World.size_alloc]; omega) _).alloc (by simp only [World.size_alloc]; omega) _), by simp only [World.size_alloc], ?_, ?_, ?_, ?_⟩
  · rw [Below.heap_alloc _ _ _ (by simp only [World.size_alloc]; omega), Below.heap_alloc _ _ _ (by simp only [World.size_alloc]; omega), Below.heap_alloc _ _ _ (by simp only [World.size_alloc]; omega)]
    have := heap_alloc_last (w1.alloc (.cells #[.int .i64 6, .int .i64 1, .int .i64 5, .int .i64 2] 36)) (.cells #[.int .i64 1, .iface 36 (.int .i64 k)] 43)
    rwa [World.size_alloc] at this
  · rw [Below.heap_alloc _ _ _ (by simp only [World.size_alloc]; omega), Below.heap_alloc _ _ _ (by simp only [World.size_alloc]; omega)]
    have := heap_alloc_last ((w1.alloc (.cells #[.int .i64 6, .int .i64 1, .int .i64 5, .int .i64 2] 36)).alloc (.cells #[.int .i64 1, .iface 36 (.int .i64 k)] 43)) (.cells #[.int .i64 l, .iface 35 (.pointer (some ⟨w1.heap.size + 1, 0, none⟩))] 43)
    rwa [World.size_alloc, World.size_alloc] at this
  · rw [Below.heap_alloc _ _ _ (by simp only [World.size_alloc]; omega)]
    have := heap_alloc_last (((w1.alloc (.cells #[.int .i64 6, .int .i64 1, .int .i64 5, .int .i64 2] 36)).alloc (.cells #[.int .i64 1, .iface 36 (.int .i64 k)] 43)).alloc (.cells #[.int .i64 l, .iface 35 (.pointer (some ⟨w1.heap.size + 1, 0, none⟩))] 43)) (.cells #[.pointer none] 35)
    rwa [World.size_alloc, World.size_alloc, World.size_alloc] at this
  · have := heap_alloc_last ((((w1.alloc (.cells #[.int .i64 6, .int .i64 1, .int .i64 5, .int .i64 2] 36)).alloc (.cells #[.int .i64 1, .iface 36 (.int .i64 k)] 43)).alloc (.cells #[.int .i64 l, .iface 35 (.pointer (some ⟨w1.heap.size + 1, 0, none⟩))] 43)).alloc (.cells #[.pointer none] 35)) (.cells #[.int .i64 0] 36)
    rwa [World.size_alloc, World.size_alloc, World.size_alloc, World.size_alloc] at this
theorem blk_grown {w w' : World} {b k : Nat} {o : Obj} (hg : w.grownBy w' (some b)) (hk : w.heap[k]? = some o) (hne : k ≠ b) : w'.heap[k]? = some o :=
  (hg.block k (Array.getElem?_eq_some_iff.1 hk).1 (fun e => hne (by injection e))).trans hk
set_option maxRecDepth 100000 in
set_option maxHeartbeats 16000000 in
theorem confWraps_walk (ln n : Int) (w : World) (he : AEnv w) (ht : ETy w) : Calls Tryz.prog 8 #[.int .i64 ln, .int .i64 n] w fun e w' => e = .returned (.bool true) ∧ Below w.heap.size w w' := by
  have hfit := fit7_e w he ht
  obtain ⟨l, hl, hbits⟩ := and4095 ln
  obtain ⟨q, hq⟩ : ∃ q, n.tmod 4 = q := ⟨_, rfl⟩
  have htm : -4 < q ∧ q < 4 := by
    rw [← hq]
    constructor
    · have := Int.lt_tmod_of_pos n (b := 4) (by decide); omega
    · exact Int.tmod_lt_of_pos n (by decide)
  have hw : wrap64 (q + 4) = q + 4 := IntWalk.wrap64_in _ (by omega)
  have hem : (q + 4).tmod 4 = (q + 4) % 4 := Int.tmod_eq_emod_of_nonneg (by omega)
  have hc4 : (q + 4).tmod 4 = 0 ∨ (q + 4).tmod 4 = 1 ∨ (q + 4).tmod 4 = 2 ∨ (q + 4).tmod 4 = 3 := by omega
  have HE := Lib.hid he
  have HT := Lib.hid ht
  have HL := Lib.hid hl
  have HDg : Hid (∀ W, Calls Tryz.prog 18 #[.int .i64 l] W fun e w' => e = .returned (.string (tb (Go.Lib.decDigits l))) ∧ Below W.heap.size W w') := Lib.hid (fun W => digits_e l W (by omega))
  have hDs : (tb (Go.Lib.decDigits l)).size ≤ 4096 := by rw [Lib.size_eq, tb_data]; have := dec_len l; omega
  have HX : Hid (∀ k, faultT l (faultT 1 (errT k)) = [108, 105, 110, 101, 32] ++ Go.Lib.decDigits l ++ [58, 32, 108, 105, 110, 101, 32, 49, 58, 32] ++ errT k) := Lib.hid (fun k => by
    unfold faultT
    rw [show Go.Lib.decDigits 1 = [49] by rw [Go.Lib.decDigits, dif_pos (by decide)]; rfl]
    simp)
  clear he ht htm hem
  rcases hc4 with hi | hi | hi | hi
  · have HF : Hid (∀ p a W, AEnv W → W.cell? ⟨p, 0, none⟩ = some (.int .i64 l) → W.cell? ⟨p, 1, none⟩ = some (.iface 35 (.pointer (some ⟨a, 0, none⟩))) → FaultAt W a 1 6 → Calls Tryz.prog 17 #[.pointer (some ⟨p, 0, none⟩)] W fun e w' => e = .returned (.string (⟨#[108, 105, 110, 101, 32]⟩ ++ tb (Go.Lib.decDigits l) ++ ⟨#[58, 32, 108, 105, 110, 101, 32, 49, 58, 32]⟩ ++ tb (errT 6))) ∧ Below W.heap.size W w') := Lib.hid (fun p a W h1 h2 h3 h4 => by
      have := fault2_e p a l 1 6 W h1 (by omega) (by decide) (by decide) h2 h3 h4
      rw [HX.out] at this
      rw [show (ByteArray.mk #[108, 105, 110, 101, 32]) ++ tb (Go.Lib.decDigits l) ++ ⟨#[58, 32, 108, 105, 110, 101, 32, 49, 58, 32]⟩ ++ tb (errT 6) = tb ([108, 105, 110, 101, 32] ++ Go.Lib.decDigits l ++ [58, 32, 108, 105, 110, 101, 32, 49, 58, 32] ++ errT 6) from bytes_inj (by simp [tb_data])]
      exact this)
    have HEr : Hid (∀ W, AEnv W → Calls Tryz.prog 19 #[.int .i64 6] W fun e w' => e = .returned (.string (tb (errT 6))) ∧ Below W.heap.size W w') := Lib.hid (fun W hW => errno_e 6 (by decide) W hW)
    have hTs : (tb (errT 6)).size ≤ 100 := by rw [Lib.size_eq, tb_data]; have := dec_len 6; unfold errT; rw [List.length_append]; simp only [List.length_cons, List.length_nil]; omega
    generalize tb (errT 6) = T at HF HEr hTs
    generalize tb (Go.Lib.decDigits l) = D at HF HDg hDs
    have hz1 : (ByteArray.mk #[108, 105, 110, 101, 32]).size = 5 := rfl
    have hz2 : (ByteArray.mk #[58, 32, 108, 105, 110, 101, 32, 49, 58, 32]).size = 10 := rfl
    have hA1 := fun W => run_string_add_sum (P := Tryz.prog) (w := W) ⟨#[108, 105, 110, 101, 32]⟩ D (by rw [hz1]; omega)
    have hA2 := fun W => run_string_add_sum (P := Tryz.prog) (w := W) (⟨#[108, 105, 110, 101, 32]⟩ ++ D) ⟨#[58, 32, 108, 105, 110, 101, 32, 49, 58, 32]⟩ (by rw [ByteArray.size_append, hz1, hz2]; omega)
    have hA3 := fun W => run_string_add_sum (P := Tryz.prog) (w := W) (⟨#[108, 105, 110, 101, 32]⟩ ++ D ++ ⟨#[58, 32, 108, 105, 110, 101, 32, 49, 58, 32]⟩) T (by rw [ByteArray.size_append, ByteArray.size_append, hz1, hz2]; omega)
    have hEq : ∀ z : ByteArray, (z.toList == z.toList) = true := fun z => beq_self_eq_true _
    clear hz1 hz2 hDs hTs
    go_enter Tryz.func8, Tryz.ntmps8
    go_wp2_with (first
      | (go_at_call 9; refine hfit.mono ?_; rintro e w1 ⟨rfl, hb1⟩; have HB1 := Lib.hid hb1; clear hb1)
      | (go_at_call 15; fail "is"))
    have hfa := wrW_facts w1 l 6
    have hWe : (((((w1.alloc (.cells #[.int .i64 6, .int .i64 1, .int .i64 5, .int .i64 2] 36)).alloc (.cells #[.int .i64 1, .iface 36 (.int .i64 6)] 43)).alloc (.cells #[.int .i64 l, .iface 35 (.pointer (some ⟨w1.heap.size + 1, 0, none⟩))] 43)).alloc (.cells #[.pointer none] 35)).alloc (.cells #[.int .i64 0] 36)) = wrW w1 l 6 := rfl
    rw [hWe]
    clear hWe
    generalize wrW w1 l 6 = W5 at hfa ⊢
    obtain ⟨fb, fs, f1, f2, f3, f4⟩ := hfa
    have HB5 := Lib.hid (HB1.out.trans (fb.mono HB1.out.size))
    have HE5 := Lib.hid (HE.out.below HB5.out)
    have HT5 := Lib.hid (HT.out.below HB5.out)
    have hgw : w.heap.size ≤ w1.heap.size := HB1.out.size
    simp only [Nat.add_assoc, Nat.reduceAdd]
    generalize ha : w1.heap.size + 1 = a at f1 f2 ⊢
    generalize hp : w1.heap.size + 2 = p at f2 ⊢
    generalize hg : w1.heap.size + 3 = g at f3 ⊢
    generalize hh : w1.heap.size + 4 = h at f4 ⊢
    have n1 : a ≠ g ∧ p ≠ g ∧ a ≠ h ∧ p ≠ h ∧ h ≠ g ∧ w.heap.size ≤ g ∧ w.heap.size ≤ h := by omega
    have N1 := Lib.hid n1
    have HI1 := Lib.hid (is_yes2 p a 6 6 W5 (cell_of_row W5 p 1 _ _ _ f2) (cell_of_row W5 a 1 _ _ _ f1) (by decide))
    have HAF := Lib.hid (asF_e ⟨p, 0, none⟩ g _ W5 HT5.out (cell_of_row W5 g 0 _ _ _ f3) (frozen_of_row W5 g 0 _ _ f3))
    have F1 := Lib.hid f1
    have F2 := Lib.hid f2
    have F4 := Lib.hid f4
    clear ha hp hg hh n1 f1 f2 f3 f4 fb fs hgw
    go_wp2_with (go_at_call 15; refine HI1.out.mono ?_; rintro e w5' ⟨rfl, hw5⟩; obtain rfl := hw5)
    refine HAF.out.mono ?_
    rintro e W6 ⟨rfl, hg6, cg6⟩
    have g1 := blk_grown hg6 F1.out N1.out.1
    have g2 := blk_grown hg6 F2.out N1.out.2.1
    have g4 := blk_grown hg6 F4.out N1.out.2.2.2.2.1
    have HB6 := Lib.hid (HB5.out.trans (Below.of_grown hg6 N1.out.2.2.2.2.2.1 HB5.out.size))
    have p60 := cell_of_row W6 p 0 _ _ _ g2
    have HAE := Lib.hid (asE2_e p a 6 h _ W6 (HT.out.below HB6.out) (cell_of_row W6 h 0 _ _ _ g4) (frozen_of_row W6 h 0 _ _ g4) (cell_of_row W6 p 1 _ _ _ g2) (cell_of_row W6 a 1 _ _ _ g1))
    have G1 := Lib.hid g1
    have G2 := Lib.hid g2
    clear g1 g2 g4 hg6
    simp only [List.getElem?_toArray, List.getElem?_cons_zero] at p60
    go_wp2_with fail
    refine HAE.out.mono ?_
    rintro e W7 ⟨rfl, hg7, ch7⟩
    have k1 := blk_grown hg7 G1.out N1.out.2.2.1
    have k2 := blk_grown hg7 G2.out N1.out.2.2.2.1
    have HB7 := Lib.hid (HB6.out.trans (Below.of_grown hg7 N1.out.2.2.2.2.2.2 HB6.out.size))
    have HNo := Lib.hid (is_no2 p a 6 7 W7 (cell_of_row W7 p 1 _ _ _ k2) (cell_of_row W7 a 1 _ _ _ k1) (by decide))
    have HFe := Lib.hid (HF.out p a W7 (HE.out.below HB7.out) (cell_of_row W7 p 0 _ _ _ k2) (cell_of_row W7 p 1 _ _ _ k2) ⟨(Array.getElem?_eq_some_iff.1 k1).1, cell_of_row W7 a 0 _ _ _ k1, cell_of_row W7 a 1 _ _ _ k1⟩)
    have K1 := Lib.hid k1
    have K2 := Lib.hid k2
    clear k1 k2 hg7
    go_wp2_with (go_at_call 15; refine HNo.out.mono ?_; rintro e w7' ⟨rfl, hw7⟩; obtain rfl := hw7)
    refine HFe.out.mono ?_
    rintro e W8 ⟨rfl, hb8⟩
    have HB8 := Lib.hid (HB7.out.trans (hb8.mono HB7.out.size))
    have L2 := Lib.hid ((hb8.block _ (Array.getElem?_eq_some_iff.1 K2.out).1).trans K2.out)
    have L1 := Lib.hid ((hb8.block _ (Array.getElem?_eq_some_iff.1 K1.out).1).trans K1.out)
    clear hb8
    go_wp2_with fail
    refine (HDg.out _).mono ?_
    rintro e W9 ⟨rfl, hb9⟩
    have HB9 := Lib.hid (HB8.out.trans (hb9.mono HB8.out.size))
    have M2 := Lib.hid ((hb9.block _ (Array.getElem?_eq_some_iff.1 L2.out).1).trans L2.out)
    have M1 := Lib.hid ((hb9.block _ (Array.getElem?_eq_some_iff.1 L1.out).1).trans L1.out)
    clear hb9
    go_wp2_with fail
    refine (HEr.out _ (HE.out.below HB9.out)).mono ?_
    rintro e W10 ⟨rfl, hb10⟩
    have HB10 := Lib.hid (HB9.out.trans (hb10.mono HB9.out.size))
    have m2 := (hb10.block _ (Array.getElem?_eq_some_iff.1 M2.out).1).trans M2.out
    have m1 := (hb10.block _ (Array.getElem?_eq_some_iff.1 M1.out).1).trans M1.out
    have HUn := Lib.hid (funwrap_e p _ W10 (cell_of_row W10 p 1 _ _ _ m2))
    have HI9 := Lib.hid (is_yes1 a 6 6 W10 (cell_of_row W10 a 1 _ _ _ m1) (by decide))
    clear hb10 m1 m2
    go_wp2_with fail
    refine HUn.out.mono ?_
    rintro e W11 ⟨rfl, hw11⟩
    obtain rfl := hw11
    go_wp2_with (go_at_call 15; refine HI9.out.mono ?_; rintro e w11 ⟨rfl, hw11⟩; obtain rfl := hw11)
    go_ret
    exact ⟨rfl, HB10.out⟩
  · have HF : Hid (∀ p a W, AEnv W → W.cell? ⟨p, 0, none⟩ = some (.int .i64 l) → W.cell? ⟨p, 1, none⟩ = some (.iface 35 (.pointer (some ⟨a, 0, none⟩))) → FaultAt W a 1 1 → Calls Tryz.prog 17 #[.pointer (some ⟨p, 0, none⟩)] W fun e w' => e = .returned (.string (⟨#[108, 105, 110, 101, 32]⟩ ++ tb (Go.Lib.decDigits l) ++ ⟨#[58, 32, 108, 105, 110, 101, 32, 49, 58, 32]⟩ ++ tb (errT 1))) ∧ Below W.heap.size W w') := Lib.hid (fun p a W h1 h2 h3 h4 => by
      have := fault2_e p a l 1 1 W h1 (by omega) (by decide) (by decide) h2 h3 h4
      rw [HX.out] at this
      rw [show (ByteArray.mk #[108, 105, 110, 101, 32]) ++ tb (Go.Lib.decDigits l) ++ ⟨#[58, 32, 108, 105, 110, 101, 32, 49, 58, 32]⟩ ++ tb (errT 1) = tb ([108, 105, 110, 101, 32] ++ Go.Lib.decDigits l ++ [58, 32, 108, 105, 110, 101, 32, 49, 58, 32] ++ errT 1) from bytes_inj (by simp [tb_data])]
      exact this)
    have HEr : Hid (∀ W, AEnv W → Calls Tryz.prog 19 #[.int .i64 1] W fun e w' => e = .returned (.string (tb (errT 1))) ∧ Below W.heap.size W w') := Lib.hid (fun W hW => errno_e 1 (by decide) W hW)
    have hTs : (tb (errT 1)).size ≤ 100 := by rw [Lib.size_eq, tb_data]; have := dec_len 1; unfold errT; rw [List.length_append]; simp only [List.length_cons, List.length_nil]; omega
    generalize tb (errT 1) = T at HF HEr hTs
    generalize tb (Go.Lib.decDigits l) = D at HF HDg hDs
    have hz1 : (ByteArray.mk #[108, 105, 110, 101, 32]).size = 5 := rfl
    have hz2 : (ByteArray.mk #[58, 32, 108, 105, 110, 101, 32, 49, 58, 32]).size = 10 := rfl
    have hA1 := fun W => run_string_add_sum (P := Tryz.prog) (w := W) ⟨#[108, 105, 110, 101, 32]⟩ D (by rw [hz1]; omega)
    have hA2 := fun W => run_string_add_sum (P := Tryz.prog) (w := W) (⟨#[108, 105, 110, 101, 32]⟩ ++ D) ⟨#[58, 32, 108, 105, 110, 101, 32, 49, 58, 32]⟩ (by rw [ByteArray.size_append, hz1, hz2]; omega)
    have hA3 := fun W => run_string_add_sum (P := Tryz.prog) (w := W) (⟨#[108, 105, 110, 101, 32]⟩ ++ D ++ ⟨#[58, 32, 108, 105, 110, 101, 32, 49, 58, 32]⟩) T (by rw [ByteArray.size_append, ByteArray.size_append, hz1, hz2]; omega)
    have hEq : ∀ z : ByteArray, (z.toList == z.toList) = true := fun z => beq_self_eq_true _
    clear hz1 hz2 hDs hTs
    go_enter Tryz.func8, Tryz.ntmps8
    go_wp2_with (first
      | (go_at_call 9; refine hfit.mono ?_; rintro e w1 ⟨rfl, hb1⟩; have HB1 := Lib.hid hb1; clear hb1)
      | (go_at_call 15; fail "is"))
    have hfa := wrW_facts w1 l 1
    have hWe : (((((w1.alloc (.cells #[.int .i64 6, .int .i64 1, .int .i64 5, .int .i64 2] 36)).alloc (.cells #[.int .i64 1, .iface 36 (.int .i64 1)] 43)).alloc (.cells #[.int .i64 l, .iface 35 (.pointer (some ⟨w1.heap.size + 1, 0, none⟩))] 43)).alloc (.cells #[.pointer none] 35)).alloc (.cells #[.int .i64 0] 36)) = wrW w1 l 1 := rfl
    rw [hWe]
    clear hWe
    generalize wrW w1 l 1 = W5 at hfa ⊢
    obtain ⟨fb, fs, f1, f2, f3, f4⟩ := hfa
    have HB5 := Lib.hid (HB1.out.trans (fb.mono HB1.out.size))
    have HE5 := Lib.hid (HE.out.below HB5.out)
    have HT5 := Lib.hid (HT.out.below HB5.out)
    have hgw : w.heap.size ≤ w1.heap.size := HB1.out.size
    simp only [Nat.add_assoc, Nat.reduceAdd]
    generalize ha : w1.heap.size + 1 = a at f1 f2 ⊢
    generalize hp : w1.heap.size + 2 = p at f2 ⊢
    generalize hg : w1.heap.size + 3 = g at f3 ⊢
    generalize hh : w1.heap.size + 4 = h at f4 ⊢
    have n1 : a ≠ g ∧ p ≠ g ∧ a ≠ h ∧ p ≠ h ∧ h ≠ g ∧ w.heap.size ≤ g ∧ w.heap.size ≤ h := by omega
    have N1 := Lib.hid n1
    have HI1 := Lib.hid (is_yes2 p a 1 1 W5 (cell_of_row W5 p 1 _ _ _ f2) (cell_of_row W5 a 1 _ _ _ f1) (by decide))
    have HAF := Lib.hid (asF_e ⟨p, 0, none⟩ g _ W5 HT5.out (cell_of_row W5 g 0 _ _ _ f3) (frozen_of_row W5 g 0 _ _ f3))
    have F1 := Lib.hid f1
    have F2 := Lib.hid f2
    have F4 := Lib.hid f4
    clear ha hp hg hh n1 f1 f2 f3 f4 fb fs hgw
    go_wp2_with (go_at_call 15; refine HI1.out.mono ?_; rintro e w5' ⟨rfl, hw5⟩; obtain rfl := hw5)
    refine HAF.out.mono ?_
    rintro e W6 ⟨rfl, hg6, cg6⟩
    have g1 := blk_grown hg6 F1.out N1.out.1
    have g2 := blk_grown hg6 F2.out N1.out.2.1
    have g4 := blk_grown hg6 F4.out N1.out.2.2.2.2.1
    have HB6 := Lib.hid (HB5.out.trans (Below.of_grown hg6 N1.out.2.2.2.2.2.1 HB5.out.size))
    have p60 := cell_of_row W6 p 0 _ _ _ g2
    have HAE := Lib.hid (asE2_e p a 1 h _ W6 (HT.out.below HB6.out) (cell_of_row W6 h 0 _ _ _ g4) (frozen_of_row W6 h 0 _ _ g4) (cell_of_row W6 p 1 _ _ _ g2) (cell_of_row W6 a 1 _ _ _ g1))
    have G1 := Lib.hid g1
    have G2 := Lib.hid g2
    clear g1 g2 g4 hg6
    simp only [List.getElem?_toArray, List.getElem?_cons_zero] at p60
    go_wp2_with fail
    refine HAE.out.mono ?_
    rintro e W7 ⟨rfl, hg7, ch7⟩
    have k1 := blk_grown hg7 G1.out N1.out.2.2.1
    have k2 := blk_grown hg7 G2.out N1.out.2.2.2.1
    have HB7 := Lib.hid (HB6.out.trans (Below.of_grown hg7 N1.out.2.2.2.2.2.2 HB6.out.size))
    have HNo := Lib.hid (is_no2 p a 1 7 W7 (cell_of_row W7 p 1 _ _ _ k2) (cell_of_row W7 a 1 _ _ _ k1) (by decide))
    have HFe := Lib.hid (HF.out p a W7 (HE.out.below HB7.out) (cell_of_row W7 p 0 _ _ _ k2) (cell_of_row W7 p 1 _ _ _ k2) ⟨(Array.getElem?_eq_some_iff.1 k1).1, cell_of_row W7 a 0 _ _ _ k1, cell_of_row W7 a 1 _ _ _ k1⟩)
    have K1 := Lib.hid k1
    have K2 := Lib.hid k2
    clear k1 k2 hg7
    go_wp2_with (go_at_call 15; refine HNo.out.mono ?_; rintro e w7' ⟨rfl, hw7⟩; obtain rfl := hw7)
    refine HFe.out.mono ?_
    rintro e W8 ⟨rfl, hb8⟩
    have HB8 := Lib.hid (HB7.out.trans (hb8.mono HB7.out.size))
    have L2 := Lib.hid ((hb8.block _ (Array.getElem?_eq_some_iff.1 K2.out).1).trans K2.out)
    have L1 := Lib.hid ((hb8.block _ (Array.getElem?_eq_some_iff.1 K1.out).1).trans K1.out)
    clear hb8
    go_wp2_with fail
    refine (HDg.out _).mono ?_
    rintro e W9 ⟨rfl, hb9⟩
    have HB9 := Lib.hid (HB8.out.trans (hb9.mono HB8.out.size))
    have M2 := Lib.hid ((hb9.block _ (Array.getElem?_eq_some_iff.1 L2.out).1).trans L2.out)
    have M1 := Lib.hid ((hb9.block _ (Array.getElem?_eq_some_iff.1 L1.out).1).trans L1.out)
    clear hb9
    go_wp2_with fail
    refine (HEr.out _ (HE.out.below HB9.out)).mono ?_
    rintro e W10 ⟨rfl, hb10⟩
    have HB10 := Lib.hid (HB9.out.trans (hb10.mono HB9.out.size))
    have m2 := (hb10.block _ (Array.getElem?_eq_some_iff.1 M2.out).1).trans M2.out
    have m1 := (hb10.block _ (Array.getElem?_eq_some_iff.1 M1.out).1).trans M1.out
    have HUn := Lib.hid (funwrap_e p _ W10 (cell_of_row W10 p 1 _ _ _ m2))
    have HI9 := Lib.hid (is_yes1 a 1 1 W10 (cell_of_row W10 a 1 _ _ _ m1) (by decide))
    clear hb10 m1 m2
    go_wp2_with fail
    refine HUn.out.mono ?_
    rintro e W11 ⟨rfl, hw11⟩
    obtain rfl := hw11
    go_wp2_with (go_at_call 15; refine HI9.out.mono ?_; rintro e w11 ⟨rfl, hw11⟩; obtain rfl := hw11)
    go_ret
    exact ⟨rfl, HB10.out⟩
  · have HF : Hid (∀ p a W, AEnv W → W.cell? ⟨p, 0, none⟩ = some (.int .i64 l) → W.cell? ⟨p, 1, none⟩ = some (.iface 35 (.pointer (some ⟨a, 0, none⟩))) → FaultAt W a 1 5 → Calls Tryz.prog 17 #[.pointer (some ⟨p, 0, none⟩)] W fun e w' => e = .returned (.string (⟨#[108, 105, 110, 101, 32]⟩ ++ tb (Go.Lib.decDigits l) ++ ⟨#[58, 32, 108, 105, 110, 101, 32, 49, 58, 32]⟩ ++ tb (errT 5))) ∧ Below W.heap.size W w') := Lib.hid (fun p a W h1 h2 h3 h4 => by
      have := fault2_e p a l 1 5 W h1 (by omega) (by decide) (by decide) h2 h3 h4
      rw [HX.out] at this
      rw [show (ByteArray.mk #[108, 105, 110, 101, 32]) ++ tb (Go.Lib.decDigits l) ++ ⟨#[58, 32, 108, 105, 110, 101, 32, 49, 58, 32]⟩ ++ tb (errT 5) = tb ([108, 105, 110, 101, 32] ++ Go.Lib.decDigits l ++ [58, 32, 108, 105, 110, 101, 32, 49, 58, 32] ++ errT 5) from bytes_inj (by simp [tb_data])]
      exact this)
    have HEr : Hid (∀ W, AEnv W → Calls Tryz.prog 19 #[.int .i64 5] W fun e w' => e = .returned (.string (tb (errT 5))) ∧ Below W.heap.size W w') := Lib.hid (fun W hW => errno_e 5 (by decide) W hW)
    have hTs : (tb (errT 5)).size ≤ 100 := by rw [Lib.size_eq, tb_data]; have := dec_len 5; unfold errT; rw [List.length_append]; simp only [List.length_cons, List.length_nil]; omega
    generalize tb (errT 5) = T at HF HEr hTs
    generalize tb (Go.Lib.decDigits l) = D at HF HDg hDs
    have hz1 : (ByteArray.mk #[108, 105, 110, 101, 32]).size = 5 := rfl
    have hz2 : (ByteArray.mk #[58, 32, 108, 105, 110, 101, 32, 49, 58, 32]).size = 10 := rfl
    have hA1 := fun W => run_string_add_sum (P := Tryz.prog) (w := W) ⟨#[108, 105, 110, 101, 32]⟩ D (by rw [hz1]; omega)
    have hA2 := fun W => run_string_add_sum (P := Tryz.prog) (w := W) (⟨#[108, 105, 110, 101, 32]⟩ ++ D) ⟨#[58, 32, 108, 105, 110, 101, 32, 49, 58, 32]⟩ (by rw [ByteArray.size_append, hz1, hz2]; omega)
    have hA3 := fun W => run_string_add_sum (P := Tryz.prog) (w := W) (⟨#[108, 105, 110, 101, 32]⟩ ++ D ++ ⟨#[58, 32, 108, 105, 110, 101, 32, 49, 58, 32]⟩) T (by rw [ByteArray.size_append, ByteArray.size_append, hz1, hz2]; omega)
    have hEq : ∀ z : ByteArray, (z.toList == z.toList) = true := fun z => beq_self_eq_true _
    clear hz1 hz2 hDs hTs
    go_enter Tryz.func8, Tryz.ntmps8
    go_wp2_with (first
      | (go_at_call 9; refine hfit.mono ?_; rintro e w1 ⟨rfl, hb1⟩; have HB1 := Lib.hid hb1; clear hb1)
      | (go_at_call 15; fail "is"))
    have hfa := wrW_facts w1 l 5
    have hWe : (((((w1.alloc (.cells #[.int .i64 6, .int .i64 1, .int .i64 5, .int .i64 2] 36)).alloc (.cells #[.int .i64 1, .iface 36 (.int .i64 5)] 43)).alloc (.cells #[.int .i64 l, .iface 35 (.pointer (some ⟨w1.heap.size + 1, 0, none⟩))] 43)).alloc (.cells #[.pointer none] 35)).alloc (.cells #[.int .i64 0] 36)) = wrW w1 l 5 := rfl
    rw [hWe]
    clear hWe
    generalize wrW w1 l 5 = W5 at hfa ⊢
    obtain ⟨fb, fs, f1, f2, f3, f4⟩ := hfa
    have HB5 := Lib.hid (HB1.out.trans (fb.mono HB1.out.size))
    have HE5 := Lib.hid (HE.out.below HB5.out)
    have HT5 := Lib.hid (HT.out.below HB5.out)
    have hgw : w.heap.size ≤ w1.heap.size := HB1.out.size
    simp only [Nat.add_assoc, Nat.reduceAdd]
    generalize ha : w1.heap.size + 1 = a at f1 f2 ⊢
    generalize hp : w1.heap.size + 2 = p at f2 ⊢
    generalize hg : w1.heap.size + 3 = g at f3 ⊢
    generalize hh : w1.heap.size + 4 = h at f4 ⊢
    have n1 : a ≠ g ∧ p ≠ g ∧ a ≠ h ∧ p ≠ h ∧ h ≠ g ∧ w.heap.size ≤ g ∧ w.heap.size ≤ h := by omega
    have N1 := Lib.hid n1
    have HI1 := Lib.hid (is_yes2 p a 5 5 W5 (cell_of_row W5 p 1 _ _ _ f2) (cell_of_row W5 a 1 _ _ _ f1) (by decide))
    have HAF := Lib.hid (asF_e ⟨p, 0, none⟩ g _ W5 HT5.out (cell_of_row W5 g 0 _ _ _ f3) (frozen_of_row W5 g 0 _ _ f3))
    have F1 := Lib.hid f1
    have F2 := Lib.hid f2
    have F4 := Lib.hid f4
    clear ha hp hg hh n1 f1 f2 f3 f4 fb fs hgw
    go_wp2_with (go_at_call 15; refine HI1.out.mono ?_; rintro e w5' ⟨rfl, hw5⟩; obtain rfl := hw5)
    refine HAF.out.mono ?_
    rintro e W6 ⟨rfl, hg6, cg6⟩
    have g1 := blk_grown hg6 F1.out N1.out.1
    have g2 := blk_grown hg6 F2.out N1.out.2.1
    have g4 := blk_grown hg6 F4.out N1.out.2.2.2.2.1
    have HB6 := Lib.hid (HB5.out.trans (Below.of_grown hg6 N1.out.2.2.2.2.2.1 HB5.out.size))
    have p60 := cell_of_row W6 p 0 _ _ _ g2
    have HAE := Lib.hid (asE2_e p a 5 h _ W6 (HT.out.below HB6.out) (cell_of_row W6 h 0 _ _ _ g4) (frozen_of_row W6 h 0 _ _ g4) (cell_of_row W6 p 1 _ _ _ g2) (cell_of_row W6 a 1 _ _ _ g1))
    have G1 := Lib.hid g1
    have G2 := Lib.hid g2
    clear g1 g2 g4 hg6
    simp only [List.getElem?_toArray, List.getElem?_cons_zero] at p60
    go_wp2_with fail
    refine HAE.out.mono ?_
    rintro e W7 ⟨rfl, hg7, ch7⟩
    have k1 := blk_grown hg7 G1.out N1.out.2.2.1
    have k2 := blk_grown hg7 G2.out N1.out.2.2.2.1
    have HB7 := Lib.hid (HB6.out.trans (Below.of_grown hg7 N1.out.2.2.2.2.2.2 HB6.out.size))
    have HNo := Lib.hid (is_no2 p a 5 7 W7 (cell_of_row W7 p 1 _ _ _ k2) (cell_of_row W7 a 1 _ _ _ k1) (by decide))
    have HFe := Lib.hid (HF.out p a W7 (HE.out.below HB7.out) (cell_of_row W7 p 0 _ _ _ k2) (cell_of_row W7 p 1 _ _ _ k2) ⟨(Array.getElem?_eq_some_iff.1 k1).1, cell_of_row W7 a 0 _ _ _ k1, cell_of_row W7 a 1 _ _ _ k1⟩)
    have K1 := Lib.hid k1
    have K2 := Lib.hid k2
    clear k1 k2 hg7
    go_wp2_with (go_at_call 15; refine HNo.out.mono ?_; rintro e w7' ⟨rfl, hw7⟩; obtain rfl := hw7)
    refine HFe.out.mono ?_
    rintro e W8 ⟨rfl, hb8⟩
    have HB8 := Lib.hid (HB7.out.trans (hb8.mono HB7.out.size))
    have L2 := Lib.hid ((hb8.block _ (Array.getElem?_eq_some_iff.1 K2.out).1).trans K2.out)
    have L1 := Lib.hid ((hb8.block _ (Array.getElem?_eq_some_iff.1 K1.out).1).trans K1.out)
    clear hb8
    go_wp2_with fail
    refine (HDg.out _).mono ?_
    rintro e W9 ⟨rfl, hb9⟩
    have HB9 := Lib.hid (HB8.out.trans (hb9.mono HB8.out.size))
    have M2 := Lib.hid ((hb9.block _ (Array.getElem?_eq_some_iff.1 L2.out).1).trans L2.out)
    have M1 := Lib.hid ((hb9.block _ (Array.getElem?_eq_some_iff.1 L1.out).1).trans L1.out)
    clear hb9
    go_wp2_with fail
    refine (HEr.out _ (HE.out.below HB9.out)).mono ?_
    rintro e W10 ⟨rfl, hb10⟩
    have HB10 := Lib.hid (HB9.out.trans (hb10.mono HB9.out.size))
    have m2 := (hb10.block _ (Array.getElem?_eq_some_iff.1 M2.out).1).trans M2.out
    have m1 := (hb10.block _ (Array.getElem?_eq_some_iff.1 M1.out).1).trans M1.out
    have HUn := Lib.hid (funwrap_e p _ W10 (cell_of_row W10 p 1 _ _ _ m2))
    have HI9 := Lib.hid (is_yes1 a 5 5 W10 (cell_of_row W10 a 1 _ _ _ m1) (by decide))
    clear hb10 m1 m2
    go_wp2_with fail
    refine HUn.out.mono ?_
    rintro e W11 ⟨rfl, hw11⟩
    obtain rfl := hw11
    go_wp2_with (go_at_call 15; refine HI9.out.mono ?_; rintro e w11 ⟨rfl, hw11⟩; obtain rfl := hw11)
    go_ret
    exact ⟨rfl, HB10.out⟩
  · have HF : Hid (∀ p a W, AEnv W → W.cell? ⟨p, 0, none⟩ = some (.int .i64 l) → W.cell? ⟨p, 1, none⟩ = some (.iface 35 (.pointer (some ⟨a, 0, none⟩))) → FaultAt W a 1 2 → Calls Tryz.prog 17 #[.pointer (some ⟨p, 0, none⟩)] W fun e w' => e = .returned (.string (⟨#[108, 105, 110, 101, 32]⟩ ++ tb (Go.Lib.decDigits l) ++ ⟨#[58, 32, 108, 105, 110, 101, 32, 49, 58, 32]⟩ ++ tb (errT 2))) ∧ Below W.heap.size W w') := Lib.hid (fun p a W h1 h2 h3 h4 => by
      have := fault2_e p a l 1 2 W h1 (by omega) (by decide) (by decide) h2 h3 h4
      rw [HX.out] at this
      rw [show (ByteArray.mk #[108, 105, 110, 101, 32]) ++ tb (Go.Lib.decDigits l) ++ ⟨#[58, 32, 108, 105, 110, 101, 32, 49, 58, 32]⟩ ++ tb (errT 2) = tb ([108, 105, 110, 101, 32] ++ Go.Lib.decDigits l ++ [58, 32, 108, 105, 110, 101, 32, 49, 58, 32] ++ errT 2) from bytes_inj (by simp [tb_data])]
      exact this)
    have HEr : Hid (∀ W, AEnv W → Calls Tryz.prog 19 #[.int .i64 2] W fun e w' => e = .returned (.string (tb (errT 2))) ∧ Below W.heap.size W w') := Lib.hid (fun W hW => errno_e 2 (by decide) W hW)
    have hTs : (tb (errT 2)).size ≤ 100 := by rw [Lib.size_eq, tb_data]; have := dec_len 2; unfold errT; rw [List.length_append]; simp only [List.length_cons, List.length_nil]; omega
    generalize tb (errT 2) = T at HF HEr hTs
    generalize tb (Go.Lib.decDigits l) = D at HF HDg hDs
    have hz1 : (ByteArray.mk #[108, 105, 110, 101, 32]).size = 5 := rfl
    have hz2 : (ByteArray.mk #[58, 32, 108, 105, 110, 101, 32, 49, 58, 32]).size = 10 := rfl
    have hA1 := fun W => run_string_add_sum (P := Tryz.prog) (w := W) ⟨#[108, 105, 110, 101, 32]⟩ D (by rw [hz1]; omega)
    have hA2 := fun W => run_string_add_sum (P := Tryz.prog) (w := W) (⟨#[108, 105, 110, 101, 32]⟩ ++ D) ⟨#[58, 32, 108, 105, 110, 101, 32, 49, 58, 32]⟩ (by rw [ByteArray.size_append, hz1, hz2]; omega)
    have hA3 := fun W => run_string_add_sum (P := Tryz.prog) (w := W) (⟨#[108, 105, 110, 101, 32]⟩ ++ D ++ ⟨#[58, 32, 108, 105, 110, 101, 32, 49, 58, 32]⟩) T (by rw [ByteArray.size_append, ByteArray.size_append, hz1, hz2]; omega)
    have hEq : ∀ z : ByteArray, (z.toList == z.toList) = true := fun z => beq_self_eq_true _
    clear hz1 hz2 hDs hTs
    go_enter Tryz.func8, Tryz.ntmps8
    go_wp2_with (first
      | (go_at_call 9; refine hfit.mono ?_; rintro e w1 ⟨rfl, hb1⟩; have HB1 := Lib.hid hb1; clear hb1)
      | (go_at_call 15; fail "is"))
    have hfa := wrW_facts w1 l 2
    have hWe : (((((w1.alloc (.cells #[.int .i64 6, .int .i64 1, .int .i64 5, .int .i64 2] 36)).alloc (.cells #[.int .i64 1, .iface 36 (.int .i64 2)] 43)).alloc (.cells #[.int .i64 l, .iface 35 (.pointer (some ⟨w1.heap.size + 1, 0, none⟩))] 43)).alloc (.cells #[.pointer none] 35)).alloc (.cells #[.int .i64 0] 36)) = wrW w1 l 2 := rfl
    rw [hWe]
    clear hWe
    generalize wrW w1 l 2 = W5 at hfa ⊢
    obtain ⟨fb, fs, f1, f2, f3, f4⟩ := hfa
    have HB5 := Lib.hid (HB1.out.trans (fb.mono HB1.out.size))
    have HE5 := Lib.hid (HE.out.below HB5.out)
    have HT5 := Lib.hid (HT.out.below HB5.out)
    have hgw : w.heap.size ≤ w1.heap.size := HB1.out.size
    simp only [Nat.add_assoc, Nat.reduceAdd]
    generalize ha : w1.heap.size + 1 = a at f1 f2 ⊢
    generalize hp : w1.heap.size + 2 = p at f2 ⊢
    generalize hg : w1.heap.size + 3 = g at f3 ⊢
    generalize hh : w1.heap.size + 4 = h at f4 ⊢
    have n1 : a ≠ g ∧ p ≠ g ∧ a ≠ h ∧ p ≠ h ∧ h ≠ g ∧ w.heap.size ≤ g ∧ w.heap.size ≤ h := by omega
    have N1 := Lib.hid n1
    have HI1 := Lib.hid (is_yes2 p a 2 2 W5 (cell_of_row W5 p 1 _ _ _ f2) (cell_of_row W5 a 1 _ _ _ f1) (by decide))
    have HAF := Lib.hid (asF_e ⟨p, 0, none⟩ g _ W5 HT5.out (cell_of_row W5 g 0 _ _ _ f3) (frozen_of_row W5 g 0 _ _ f3))
    have F1 := Lib.hid f1
    have F2 := Lib.hid f2
    have F4 := Lib.hid f4
    clear ha hp hg hh n1 f1 f2 f3 f4 fb fs hgw
    go_wp2_with (go_at_call 15; refine HI1.out.mono ?_; rintro e w5' ⟨rfl, hw5⟩; obtain rfl := hw5)
    refine HAF.out.mono ?_
    rintro e W6 ⟨rfl, hg6, cg6⟩
    have g1 := blk_grown hg6 F1.out N1.out.1
    have g2 := blk_grown hg6 F2.out N1.out.2.1
    have g4 := blk_grown hg6 F4.out N1.out.2.2.2.2.1
    have HB6 := Lib.hid (HB5.out.trans (Below.of_grown hg6 N1.out.2.2.2.2.2.1 HB5.out.size))
    have p60 := cell_of_row W6 p 0 _ _ _ g2
    have HAE := Lib.hid (asE2_e p a 2 h _ W6 (HT.out.below HB6.out) (cell_of_row W6 h 0 _ _ _ g4) (frozen_of_row W6 h 0 _ _ g4) (cell_of_row W6 p 1 _ _ _ g2) (cell_of_row W6 a 1 _ _ _ g1))
    have G1 := Lib.hid g1
    have G2 := Lib.hid g2
    clear g1 g2 g4 hg6
    simp only [List.getElem?_toArray, List.getElem?_cons_zero] at p60
    go_wp2_with fail
    refine HAE.out.mono ?_
    rintro e W7 ⟨rfl, hg7, ch7⟩
    have k1 := blk_grown hg7 G1.out N1.out.2.2.1
    have k2 := blk_grown hg7 G2.out N1.out.2.2.2.1
    have HB7 := Lib.hid (HB6.out.trans (Below.of_grown hg7 N1.out.2.2.2.2.2.2 HB6.out.size))
    have HNo := Lib.hid (is_no2 p a 2 7 W7 (cell_of_row W7 p 1 _ _ _ k2) (cell_of_row W7 a 1 _ _ _ k1) (by decide))
    have HFe := Lib.hid (HF.out p a W7 (HE.out.below HB7.out) (cell_of_row W7 p 0 _ _ _ k2) (cell_of_row W7 p 1 _ _ _ k2) ⟨(Array.getElem?_eq_some_iff.1 k1).1, cell_of_row W7 a 0 _ _ _ k1, cell_of_row W7 a 1 _ _ _ k1⟩)
    have K1 := Lib.hid k1
    have K2 := Lib.hid k2
    clear k1 k2 hg7
    go_wp2_with (go_at_call 15; refine HNo.out.mono ?_; rintro e w7' ⟨rfl, hw7⟩; obtain rfl := hw7)
    refine HFe.out.mono ?_
    rintro e W8 ⟨rfl, hb8⟩
    have HB8 := Lib.hid (HB7.out.trans (hb8.mono HB7.out.size))
    have L2 := Lib.hid ((hb8.block _ (Array.getElem?_eq_some_iff.1 K2.out).1).trans K2.out)
    have L1 := Lib.hid ((hb8.block _ (Array.getElem?_eq_some_iff.1 K1.out).1).trans K1.out)
    clear hb8
    go_wp2_with fail
    refine (HDg.out _).mono ?_
    rintro e W9 ⟨rfl, hb9⟩
    have HB9 := Lib.hid (HB8.out.trans (hb9.mono HB8.out.size))
    have M2 := Lib.hid ((hb9.block _ (Array.getElem?_eq_some_iff.1 L2.out).1).trans L2.out)
    have M1 := Lib.hid ((hb9.block _ (Array.getElem?_eq_some_iff.1 L1.out).1).trans L1.out)
    clear hb9
    go_wp2_with fail
    refine (HEr.out _ (HE.out.below HB9.out)).mono ?_
    rintro e W10 ⟨rfl, hb10⟩
    have HB10 := Lib.hid (HB9.out.trans (hb10.mono HB9.out.size))
    have m2 := (hb10.block _ (Array.getElem?_eq_some_iff.1 M2.out).1).trans M2.out
    have m1 := (hb10.block _ (Array.getElem?_eq_some_iff.1 M1.out).1).trans M1.out
    have HUn := Lib.hid (funwrap_e p _ W10 (cell_of_row W10 p 1 _ _ _ m2))
    have HI9 := Lib.hid (is_yes1 a 2 2 W10 (cell_of_row W10 a 1 _ _ _ m1) (by decide))
    clear hb10 m1 m2
    go_wp2_with fail
    refine HUn.out.mono ?_
    rintro e W11 ⟨rfl, hw11⟩
    obtain rfl := hw11
    go_wp2_with (go_at_call 15; refine HI9.out.mono ?_; rintro e w11 ⟨rfl, hw11⟩; obtain rfl := hw11)
    go_ret
    exact ⟨rfl, HB10.out⟩
end Go.Proofs.YtpnlgojbmjfhhaaGreatDoor
