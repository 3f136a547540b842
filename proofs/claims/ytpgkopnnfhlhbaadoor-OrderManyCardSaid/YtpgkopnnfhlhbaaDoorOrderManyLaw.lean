/-
  The walk of the statement OrderMany: as many sources as may be are read, and no more. Condition: the library's variable MaxLen holds some number.
-/
import Derived.Test.YtpgkopnnfhlhbaaDoorOrdFit
namespace Go.Proofs.YtpgkopnnfhlhbaaDoor
open Go.RowKit

theorem and_7 (n : Int) : ∃ m : Nat, m ≤ 7 ∧ bits BinOp.and IntKind.i64 n 7 = (m : Int) := by
  have hle : (BitVec.ofInt 64 n &&& BitVec.ofInt 64 7).toNat ≤ 7 := by
    rw [BitVec.toNat_and]
    exact Nat.le_trans Nat.and_le_right (by decide +kernel)
  refine ⟨(BitVec.ofInt 64 n &&& BitVec.ofInt 64 7).toNat, hle, ?_⟩
  show IntKind.i64.wrap ((BitVec.ofInt 64 n &&& BitVec.ofInt 64 7).toNat : Int) = _
  rw [IntKind.wrap_i64]; omega
def mnB : ByteArray := ⟨#[100, 110, 115, 32, 91, 84, 82, 89, 65, 71, 65, 73, 78, 61, 114, 101, 116, 117, 114, 110, 93, 32]⟩
theorem mn_step (k : Nat) : tb (mnT k) ++ mnB = tb (mnT (k + 1)) := by
  apply bytes_inj
  rw [Joins.data_append, tb_data, tb_data]
  unfold mnT
  rw [List.replicate_succ', List.flatten_append]
  congr 1
theorem mn_size (k : Nat) : (tb (mnT k)).size = 22 * k := by
  induction k with
  | zero => rfl
  | succ k ih => rw [← mn_step, ByteArray.size_append, ih]; show 22 * k + 22 = _; omega
def mnL (k : Nat) : List Src := List.replicate k (2, (true, false, false, true))
theorem neq_mn (W : World) : (binOp .neq 28 (.agg #[.bool false, .bool true, .bool false, .bool false, .bool true]) (.agg #[.bool false, .bool true, .bool false, .bool false, .bool true])).run Tryd.prog W = .ok (.bool false) W := by
  rw [run_neq_struct]
  have := eq_ret 9998 W (true, false, false, true) (true, false, false, true)
  rw [show 10000 = 9998 + 2 from rfl]
  have h2 : (Op.equalIn (9998 + 2) 28 (.agg #[.bool false, .bool true, .bool false, .bool false, .bool true]) (.agg #[.bool false, .bool true, .bool false, .bool false, .bool true])).run Tryd.prog W = .ok true W := this
  rw [h2]
  rfl
set_option maxRecDepth 100000 in
set_option maxHeartbeats 4000000 in
theorem orderMany_walk (n act : Int) (w : World) (he : Env w) : Calls Tryd.prog 8 #[.int .i64 n, .int .i64 act] w fun e w' => e = .returned (.bool true) ∧ Below w.heap.size w w' := by
  have hfit := fit8_e w he
  have HE := Lib.hid he
  obtain ⟨m, hm7, hm⟩ := and_7 n
  have hmp := mn_parse ⟨m, by omega⟩
  simp only at hmp
  have HP := Lib.hid (fun W (hW : Env W) => parse_e (tb (mnT m)) W hW (by rw [mn_size]; omega))
  have HPP : Hid (parseO (tb (mnT m)).data.toList = if m = 0 then (0, dflt) else if 4 < m then (2, []) else (0, mnL m)) := Lib.hid (by rw [tb_data]; exact hmp)
  clear he hmp
  go_enter Tryd.func8, Tryd.ntmps8
  go_wp2_with (go_at_call 9; refine hfit.mono ?_; rintro e w1 ⟨rfl, hb1⟩; have HB1 := Lib.hid hb1; clear hb1)
  go_loopg [15, 5] m (fun gk i v wr => ∃ k : Nat, i = .int .i64 k ∧ k + gk = m ∧ v = .string (tb (mnT k)) ∧ wr = w1)
  case atStart => exact ⟨0, rfl, by omega, rfl, rfl⟩
  case round =>
    obtain ⟨k, rfl, hkg, rfl, rfl⟩ := hrel
    by_cases hkn : k < m
    · obtain ⟨g2, rfl⟩ : ∃ g2, gk = g2 + 1 := ⟨gk - 1, by omega⟩
      have hkI : (k : Int) < (m : Int) := by omega
      have hst := mn_step k
      have hz := mn_size k
      have HST := Lib.hid hst
      unfold mnB at hst
      obtain ⟨X, hX⟩ : ∃ X, X = tb (mnT k) := ⟨_, rfl⟩
      obtain ⟨Y, hY⟩ : ∃ Y, Y = tb (mnT (k + 1)) := ⟨_, rfl⟩
      rw [← hX] at hst hz ⊢
      rw [← hY] at hst
      have hz2 : (⟨#[100, 110, 115, 32, 91, 84, 82, 89, 65, 71, 65, 73, 78, 61, 114, 101, 116, 117, 114, 110, 93, 32]⟩ : ByteArray).size ≤ 22 := by decide
      have HY := Lib.hid hY
      clear hX hY
      go_wp2
      go_roundg g2
      case measure => omega
      case rel => exact ⟨k + 1, by go_num, by omega, by rw [HY.out], rfl⟩
    · obtain rfl : k = m := by omega
      have hkI : ¬ (k : Int) < (k : Int) := by omega
      go_wp2_with fail
      refine (HP.out _ (HE.out.below HB1.out)).mono ?_
      rintro e w2 ⟨hb2, v, rfl, hsl⟩
      have HB2 := Lib.hid (HB1.out.trans (hb2.mono HB1.out.size))
      rw [HPP.out] at hsl ⊢
      clear hb2
      by_cases h0 : k = 0
      · rw [if_pos h0] at hsl ⊢
        subst h0
        obtain ⟨b, c, rfl, hbl, hcl⟩ := hsl.form (by decide)
        have e3 : (((0 : Nat), dflt).snd).length = 3 := rfl
        have e0 : (((0 : Nat), dflt).fst) = 0 := rfl
        rw [e3] at hsl ⊢
        rw [e0]
        have HD : Hid (Calls Tryd.prog 13 #[] w2 fun e w' => ∃ b2 c2, e = .returned (.slice (some ⟨b2, 0, none⟩) 3 c2) ∧ SlS w' (.slice (some ⟨b2, 0, none⟩) 3 c2) dflt ∧ Below w2.heap.size w2 w') := Lib.hid ((default_e w2).mono (by
          rintro e w' ⟨v, rfl, hv, hb⟩
          obtain ⟨b2, c2, rfl, _, _⟩ := hv.form (by decide)
          exact ⟨b2, c2, rfl, hv, hb⟩))
        have HSL := Lib.hid hsl
        have HSA : Hid (∀ W b2 c2, SlS W (.slice (some ⟨b, 0, none⟩) 3 c) dflt → SlS W (.slice (some ⟨b2, 0, none⟩) 3 c2) dflt → Calls Tryd.prog 12 #[.slice (some ⟨b, 0, none⟩) 3 c, .slice (some ⟨b2, 0, none⟩) 3 c2] W fun e w' => e = .returned (.bool true) ∧ Below W.heap.size W w') := Lib.hid fun W b2 c2 h1 h2 => by
          have := same8_e 3 c 3 c2 (some ⟨b, 0, none⟩) (some ⟨b2, 0, none⟩) dflt dflt W h1 h2 rfl rfl (by omega) (by omega)
          rwa [show decide (dflt = dflt) = true from decide_eq_true rfl] at this
        clear hsl hbl hcl e3 e0
        go_wp2_with (first
          | (go_at_call 13; refine HD.out.mono ?_; rintro e w7 ⟨b2, c2, rfl, hv7, hb7⟩; have HV7 := Lib.hid hv7; have HS7 := Lib.hid (HSL.out.below hb7); have HB7 := Lib.hid (HB2.out.trans (hb7.mono HB2.out.size)); clear hv7 hb7)
          | (go_at_call 12; refine (HSA.out _ _ _ HS7.out HV7.out).mono ?_; rintro e w8 ⟨rfl, hb8⟩; have HB8 := Lib.hid (HB7.out.trans (hb8.mono HB7.out.size)); clear hb8))
        go_ret
        exact ⟨rfl, HB8.out⟩
      · rw [if_neg h0] at hsl ⊢
        have h0I : ¬ (k : Int) = 0 := by omega
        by_cases h4 : 4 < k
        · rw [if_pos h4] at hsl ⊢
          obtain ⟨A, c, rfl, _⟩ := hsl
          have h4I : (4 : Int) < (k : Int) := by omega
          go_wp2
          go_ret
          exact ⟨rfl, HB2.out⟩
        · rw [if_neg h4] at hsl ⊢
          have h4I : ¬ (4 : Int) < (k : Int) := by omega
          obtain ⟨b, c, rfl, hbl, hcl⟩ := hsl.form (by unfold mnL; intro e; have := congrArg List.length e; simp at this; exact h0 this)
          rw [show (mnL k).length = k by unfold mnL; simp] at hsl ⊢
          have HSL := Lib.hid hsl
          have hml : (mnL k).length = k := by unfold mnL; simp
          have hat : ∀ j, j < k → (mnL k)[j]? = some (2, (true, false, false, true)) := fun j hj => by unfold mnL; rw [List.getElem?_replicate, if_pos hj]
          have HAT := Lib.hid hat
          have HBL := Lib.hid hbl
          have HCL := Lib.hid hcl
          have hpn := mn_print ⟨k, by omega⟩ (by show 1 ≤ k; omega)
          simp only at hpn
          have HPr : Hid (∀ W, SlS W (.slice (some ⟨b, 0, none⟩) k c) (mnL k) → Calls Tryd.prog 11 #[.slice (some ⟨b, 0, none⟩) k c] W fun e w' => (∃ T : ByteArray, e = .returned (.string T) ∧ T.size = 22 * k - 1) ∧ Below W.heap.size W w') := Lib.hid fun W hW => (print_e k c (some ⟨b, 0, none⟩) (mnL k) W hW hml (by omega) (by omega) (fun x hx => by
              have := List.eq_of_mem_replicate hx
              rw [this]; exact ⟨by decide, by decide⟩)).mono (by
            rintro e w' ⟨rfl, hb⟩
            refine ⟨⟨_, rfl, ?_⟩, hb⟩
            rw [size_eq, tb_data]
            show (printO (List.replicate k (2, (true, false, false, true)))).length = _
            rw [hpn]; omega)
          have HZS := Lib.hid zeroSrc
          have HZD : Hid (zS.size = 6) := Lib.hid rfl
          obtain ⟨Z, hZ⟩ : ∃ Z, Z = zS := ⟨_, rfl⟩
          rw [← hZ] at HZS HZD
          have HSk : Hid ((Tryd.prog.info? 30).map (·.size) = some (srcV (2, (true, false, false, true))).size) := Lib.hid sizeSrc
          have HZk : Hid (Z.size = (srcV (2, (true, false, false, true))).size) := Lib.hid HZD.out
          have H1k := Lib.hid (srcV_one (2, (true, false, false, true)))
          have HBr : Hid (Tryd.prog.built 28 [(1, .bool true), (4, .bool true)] = some #[.bool false, .bool true, .bool false, .bool false, .bool true]) := Lib.hid (by kernel_rfl)
          have hneq := neq_mn
          have h0B : ((k : Int) == 0) = false := by simp; omega
          have hk1 : 1 ≤ k := by omega
          clear hsl hbl hcl hat hZ hpn hml hm h0 h4
          have e0 : (((0 : Nat), mnL k).fst) = 0 := rfl
          rw [e0]
          clear e0
          go_wp2_with fail
          go_loopg [45] k (fun gk i wr => ∃ j : Nat, i = .int .i64 j ∧ j + gk = k ∧ Hid (Below w2.heap.size w2 wr))
          case atStart => exact ⟨0, rfl, by omega, Lib.hid (Below.refl _ _)⟩
          case round =>
            obtain ⟨j, rfl, hjg, HBj⟩ := hrel
            by_cases hjk : j < k
            · obtain ⟨g2, rfl⟩ : ∃ g2, gk = g2 + 1 := ⟨gk - 1, by omega⟩
              have hjI : (j : Int) < (k : Int) := by omega
              have hld : ∀ i v, (srcV (2, (true, false, false, true))).toList[i]? = some v → wr.cell? ((⟨b, j * 6, none⟩ : Addr).add i) = some v := fun i v hi => by
                have h6 : i < 6 := by
                  rcases Nat.lt_or_ge i 6 with h | h
                  · exact h
                  · rw [List.getElem?_eq_none (by exact h)] at hi; cases hi
                rw [Addr.add_lit]
                exact (HBj.out.cell (p := ⟨b, j * 6 + i, none⟩) HBL.out).trans (HCL.out _ _ (by rw [svs_at (HAT.out j hjk) h6]; exact hi))
              have HLD := Lib.hid hld
              have hg1 := heap_alloc_last wr (.cells (srcV (2, (true, false, false, true))) 30)
              have c0 : (wr.alloc (.cells (srcV (2, (true, false, false, true))) 30)).cell? ⟨wr.heap.size, 0, none⟩ = some (.int .i64 2) := by rw [cell_of_row _ wr.heap.size 0 _ _ (0, 0) hg1]; rfl
              have c1 : (wr.alloc (.cells (srcV (2, (true, false, false, true))) 30)).cell? ⟨wr.heap.size, 1, none⟩ = some (.bool false) := by rw [cell_of_row _ wr.heap.size 1 _ _ (0, 0) hg1]; rfl
              have c2 : (wr.alloc (.cells (srcV (2, (true, false, false, true))) 30)).cell? ⟨wr.heap.size, 2, none⟩ = some (.bool true) := by rw [cell_of_row _ wr.heap.size 2 _ _ (0, 0) hg1]; rfl
              have c3 : (wr.alloc (.cells (srcV (2, (true, false, false, true))) 30)).cell? ⟨wr.heap.size, 3, none⟩ = some (.bool false) := by rw [cell_of_row _ wr.heap.size 3 _ _ (0, 0) hg1]; rfl
              have c4 : (wr.alloc (.cells (srcV (2, (true, false, false, true))) 30)).cell? ⟨wr.heap.size, 4, none⟩ = some (.bool false) := by rw [cell_of_row _ wr.heap.size 4 _ _ (0, 0) hg1]; rfl
              have c5 : (wr.alloc (.cells (srcV (2, (true, false, false, true))) 30)).cell? ⟨wr.heap.size, 5, none⟩ = some (.bool true) := by rw [cell_of_row _ wr.heap.size 5 _ _ (0, 0) hg1]; rfl
              have HB5 : Hid (Below w2.heap.size w2 (wr.alloc (.cells (srcV (2, (true, false, false, true))) 30))) := Lib.hid (HBj.out.alloc HBj.out.size _)
              obtain ⟨D, hD⟩ : ∃ D, D = srcV (2, (true, false, false, true)) := ⟨_, rfl⟩
              rw [← hD] at HLD HSk HZk H1k c0 c1 c2 c3 c4 c5 HB5
              clear hld hg1 hD
              go_wp2_with (first
                | (refine wpList_load_agg rfl 30 (.tmp 47) rfl ⟨b, j * 6, none⟩ rfl D _ HLD.out Tryd.underlying30 rfl HSk.out ?_; go_simp)
                | (refine wpList_alloc_z rfl 30 rfl Z HZS.out ?_; go_simp)
                | (refine wpList_store_new rfl 30 (.tmp 9) (.tmp 48) rfl wr.heap.size rfl Z D 30 rfl rfl HSk.out HZk.out H1k.out ?_; go_simp))
              go_roundg g2
              case measure => omega
              case rel => exact ⟨j + 1, by go_num, by omega, HB5⟩
            · obtain rfl : j = k := by omega
              have hjI : ¬ (j : Int) < (j : Int) := by omega
              have HPC := Lib.hid (HPr.out wr (HSL.out.below HBj.out))
              have HB6 := Lib.hid (HB2.out.trans (HBj.out.mono HB2.out.size))
              go_wp2_with (first
                | (go_at_call 11; refine HPC.out.mono ?_; rintro e w7 ⟨⟨T, rfl, hT⟩, hb7⟩; have hTI : (T.size : Int) = (j : Int) * 21 + (j : Int) - 1 := (by omega); have HB7 := Lib.hid (HB6.out.trans (hb7.mono HB6.out.size)); clear hb7 hT))
              go_ret
              exact ⟨rfl, HB7.out⟩
end Go.Proofs.YtpgkopnnfhlhbaaDoor
