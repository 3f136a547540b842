/-
  The walk of the statement OrderSpaces: blanks around brackets play no part. Condition: the library's variable MaxLen holds some number; the numbers stand in the list's cells.
-/
import Derived.Test.YtpgkopnnfhlhbaaDoorOrdInts
namespace Go.Proofs.YtpgkopnnfhlhbaaDoor
open Go.RowKit

theorem and_255 (n : Int) : ∃ m : Nat, bits BinOp.and IntKind.i64 n 255 = (m : Int) ∧ m ≤ 255 := by
  have hle : (BitVec.ofInt 64 n &&& BitVec.ofInt 64 255).toNat ≤ 255 := by
    rw [BitVec.toNat_and]
    exact Nat.le_trans Nat.and_le_right (by decide +kernel)
  refine ⟨(BitVec.ofInt 64 n &&& BitVec.ofInt 64 255).toNat, ?_, hle⟩
  show IntKind.i64.wrap ((BitVec.ofInt 64 n &&& BitVec.ofInt 64 255).toNat : Int) = _
  rw [IntKind.wrap_i64]; omega
theorem and_3 (n : Int) : ∃ m : Nat, bits BinOp.and IntKind.i64 n 3 = (m : Int) ∧ m ≤ 3 := by
  have hle : (BitVec.ofInt 64 n &&& BitVec.ofInt 64 3).toNat ≤ 3 := by
    rw [BitVec.toNat_and]
    exact Nat.le_trans Nat.and_le_right (by decide +kernel)
  refine ⟨(BitVec.ofInt 64 n &&& BitVec.ofInt 64 3).toNat, ?_, hle⟩
  show IntKind.i64.wrap ((BitVec.ofInt 64 n &&& BitVec.ofInt 64 3).toNat : Int) = _
  rw [IntKind.wrap_i64]; omega
/-- the source and the action that a number means -/
def spI (x : Int) : Nat × Nat := (((bits BinOp.and IntKind.i64 x 255).tmod 3).toNat + 1, (bits BinOp.and IntKind.i64 (x / 256) 3).toNat)
theorem spI_in (x : Int) : ∃ i j : Nat, (bits BinOp.and IntKind.i64 x 255).tmod 3 = (i : Int) ∧ bits BinOp.and IntKind.i64 (x / 256) 3 = (j : Int) ∧ i < 3 ∧ j < 4 := by
  obtain ⟨m, hm, _⟩ := and_255 x
  obtain ⟨j, hj, hj3⟩ := and_3 (x / 256)
  refine ⟨m % 3, j, ?_, hj, Nat.mod_lt _ (by omega), by omega⟩
  rw [hm, Int.tmod_eq_emod_of_nonneg (by omega)]; omega
theorem spI_ok (x : Int) : SpIn (spI x) := by
  obtain ⟨i, j, hi, hj, hi3, hj4⟩ := spI_in x
  unfold spI
  rw [hi, hj, Int.toNat_natCast, Int.toNat_natCast]
  exact ⟨by show i + 1 = 1 ∨ i + 1 = 2 ∨ i + 1 = 3; omega, hj4⟩
theorem spT_snoc (ps : List (Nat × Nat)) (p : Nat × Nat) : spT (ps ++ [p]) = spT ps ++ 32 :: spB p := by unfold spT; rw [List.flatMap_append]; simp
theorem spU_snoc (ps : List (Nat × Nat)) (p : Nat × Nat) : spU (ps ++ [p]) = spU ps ++ 9 :: spC p := by unfold spU; rw [List.flatMap_append]; simp
theorem sp_len {p : Nat × Nat} (hp : SpIn p) : (spB p).length ≤ 40 ∧ (spC p).length ≤ 40 := of_sp (q := fun p => (spB p).length ≤ 40 ∧ (spC p).length ≤ 40) (by show ∀ (k : Fin 3) (j : Fin 4), _; decide +kernel) hp
theorem spT_len : ∀ {ps : List (Nat × Nat)}, (∀ p ∈ ps, SpIn p) → (spT ps).length ≤ 50 * ps.length ∧ (spU ps).length ≤ 50 * ps.length
  | [], _ => ⟨Nat.le_refl _, Nat.le_refl _⟩
  | p :: ps, h => by
    have ih := spT_len (ps := ps) (fun x hx => h x (List.mem_cons_of_mem _ hx))
    have hp := sp_len (h p List.mem_cons_self)
    unfold spT spU at ih ⊢
    rw [List.flatMap_cons, List.flatMap_cons, List.length_append, List.length_append, List.length_cons, List.length_cons, List.length_cons]
    omega
set_option maxRecDepth 100000 in
set_option maxHeartbeats 16000000 in
theorem orderSpaces_walk (A : Option Addr) (n c : Nat) (ls : List Int) (w : World) (he : Env w) (hn : ls.length = n) (hls : IntsIn w A ls) : Calls Tryd.prog 7 #[.slice A n c] w fun e w' => e = .returned (.bool true) ∧ Below w.heap.size w w' := by
  have hfit := fit8_e w he
  have HE := Lib.hid he
  have HLS := Lib.hid hls
  have HN := Lib.hid hn
  clear he hls
  by_cases h10 : n ≤ 4
  rotate_left
  · have hI : (4 : Int) < (n : Int) := by omega
    clear hn
    go_enter Tryd.func7, Tryd.ntmps7
    go_wp2_with (go_at_call 9; refine hfit.mono ?_; rintro e w1 ⟨rfl, hb1⟩; have HB1 := Lib.hid hb1; clear hb1)
    go_ret
    exact ⟨rfl, HB1.out⟩
  have hI : ¬ (4 : Int) < (n : Int) := by omega
  obtain ⟨ps, hps⟩ : ∃ ps, ps = ls.map spI := ⟨_, rfl⟩
  have hpl : ps.length = n := by rw [hps, List.length_map, hn]
  have hpi : ∀ p ∈ ps, SpIn p := fun p hp => by
    rw [hps] at hp
    obtain ⟨x, _, rfl⟩ := List.mem_map.1 hp
    exact spI_ok x
  have HPS := Lib.hid hps
  have HPLn := Lib.hid hpl
  have HPI := Lib.hid hpi
  have hsl := spT_len hpi
  obtain ⟨R, hR⟩ : ∃ R, R = (if ps = [] then dflt else ps.map fun p => (p.1, spR p.2)) := ⟨_, rfl⟩
  have hpp := sp_parse hpi (by omega)
  rw [← hR] at hpp
  have hRl : 1 ≤ R.length ∧ R.length ≤ 4 := by
    rw [hR]
    split
    · exact ⟨by decide, by decide⟩
    · rename_i h
      rw [List.length_map, hpl]
      have := List.length_pos_iff.2 h
      omega
  have HP1 := Lib.hid (fun W (hW : Env W) => parse_e (tb (spT ps)) W hW (by rw [size_eq, tb_data]; omega))
  have HQ1 : Hid (parseO (tb (spT ps)).data.toList = (0, R)) := Lib.hid (by rw [tb_data]; exact hpp.1)
  have HP2 := Lib.hid (fun W (hW : Env W) => parse_e (tb (spU ps ++ 32 :: 35 :: 32 :: (nameK 2 ++ [32, 91]))) W hW (by rw [size_eq, tb_data, List.length_append]; have : (32 :: 35 :: 32 :: (nameK 2 ++ [32, 91])).length = 8 := rfl; omega))
  have HQ2 : Hid (parseO (tb (spU ps ++ 32 :: 35 :: 32 :: (nameK 2 ++ [32, 91]))).data.toList = (0, R)) := Lib.hid (by rw [tb_data]; exact hpp.2)
  have HRl := Lib.hid hRl
  clear hn hps hpl hpi hsl hR hpp hRl
  go_enter Tryd.func7, Tryd.ntmps7
  go_wp2_with (go_at_call 9; refine hfit.mono ?_; rintro e w1 ⟨rfl, hb1⟩; have HB1 := Lib.hid hb1; clear hb1)
  go_loopg [20, 3, 4] n (fun gk vi vs vt wr => ∃ k : Nat, vi = .int .i64 k ∧ k + gk = n ∧ vs = .string (tb (spT (ps.take k))) ∧ vt = .string (tb (spU (ps.take k))) ∧ Hid (Below w1.heap.size w1 wr))
  case atStart => exact ⟨0, rfl, by omega, rfl, rfl, Lib.hid (Below.refl _ _)⟩
  case round =>
    obtain ⟨k, rfl, hkg, rfl, rfl, HB⟩ := hrel
    by_cases hkn : k < n
    · obtain ⟨g2, rfl⟩ : ∃ g2, gk = g2 + 1 := ⟨gk - 1, by omega⟩
      have hkI : (k : Int) < (n : Int) := by omega
      obtain ⟨b, o, rfl, hbl, hcl⟩ := (HLS.out.below (HB1.out.trans (HB.out.mono HB1.out.size))) (List.length_pos_iff.1 (by rw [HN.out]; omega))
      have hcx := hcl k (by rw [HN.out]; exact hkn)
      have hkk : ps[k]? = some (spI (ls.getD k 0)) := by
        rw [HPS.out, List.getElem?_map, List.getD_eq_getElem?_getD, List.getElem?_eq_getElem (by rw [HN.out]; exact hkn)]; rfl
      generalize ls.getD k 0 = x at hcx hkk
      obtain ⟨i, j, hi, hj, hi3, hj4⟩ := spI_in x
      have hpx : spI x = (i + 1, j) := by unfold spI; rw [hi, hj, Int.toNat_natCast, Int.toNat_natCast]
      rw [hpx] at hkk
      have HTK : Hid (ps.take (k + 1) = ps.take k ++ [(i + 1, j)]) := Lib.hid (by rw [List.take_add_one, hkk]; rfl)
      obtain ⟨S, hS⟩ : ∃ S, S = tb (spT (ps.take k)) := ⟨_, rfl⟩
      obtain ⟨T, hT⟩ : ∃ T, T = tb (spU (ps.take k)) := ⟨_, rfl⟩
      have hln := spT_len (ps := ps.take k) (fun p hp => HPI.out p (List.mem_of_mem_take hp))
      have htl : (ps.take k).length ≤ 4 := by rw [List.length_take, HPLn.out]; omega
      have hzS : S.size ≤ 400 := by rw [hS, size_eq, tb_data]; omega
      have hzT : T.size ≤ 400 := by rw [hT, size_eq, tb_data]; omega
      rw [← hS, ← hT]
      have HSe := Lib.hid hS
      have HTe := Lib.hid hT
      clear hS hT hln htl hkk hpx hcl hbl
      have hc : (i = 0 ∧ j = 0) ∨ (i = 0 ∧ j = 1) ∨ (i = 0 ∧ j = 2) ∨ (i = 0 ∧ j = 3) ∨ (i = 1 ∧ j = 0) ∨ (i = 1 ∧ j = 1) ∨ (i = 1 ∧ j = 2) ∨ (i = 1 ∧ j = 3) ∨ (i = 2 ∧ j = 0) ∨ (i = 2 ∧ j = 1) ∨ (i = 2 ∧ j = 2) ∨ (i = 2 ∧ j = 3) := by omega
      rcases hc with ⟨rfl, rfl⟩ | ⟨rfl, rfl⟩ | ⟨rfl, rfl⟩ | ⟨rfl, rfl⟩ | ⟨rfl, rfl⟩ | ⟨rfl, rfl⟩ | ⟨rfl, rfl⟩ | ⟨rfl, rfl⟩ | ⟨rfl, rfl⟩ | ⟨rfl, rfl⟩ | ⟨rfl, rfl⟩ | ⟨rfl, rfl⟩
      · have hi0 : (bits BinOp.and IntKind.i64 x 255).tmod 3 = 0 := hi
        have hj0 : bits BinOp.and IntKind.i64 (x / 256) 3 = 0 := hj
        clear hi hj
        obtain ⟨P1, e1⟩ : ∃ P1, (⟨#[32]⟩ : ByteArray) ++ (⟨#[102, 105, 108, 101, 115]⟩ : ByteArray) = P1 := ⟨_, rfl⟩
        obtain ⟨S1, e2⟩ : ∃ S1, S ++ P1 = S1 := ⟨_, rfl⟩
        obtain ⟨P2, e3⟩ : ∃ P2, (⟨#[9]⟩ : ByteArray) ++ (⟨#[102, 105, 108, 101, 115]⟩ : ByteArray) = P2 := ⟨_, rfl⟩
        obtain ⟨T1, e4⟩ : ∃ T1, T ++ P2 = T1 := ⟨_, rfl⟩
        have s1 : P1.size ≤ 10 := by rw [← e1]; decide
        have s2 : S1.size ≤ 410 := by rw [← e2, ByteArray.size_append]; omega
        have s3 : P2.size ≤ 10 := by rw [← e3]; decide
        have s4 : T1.size ≤ 410 := by rw [← e4, ByteArray.size_append]; omega
        have sk : (⟨#[102, 105, 108, 101, 115]⟩ : ByteArray).size ≤ 10 := by decide
        have sa : (⟨#[32]⟩ : ByteArray).size ≤ 10 := by decide
        have sb : (⟨#[9]⟩ : ByteArray).size ≤ 10 := by decide
        have HS2 : Hid (S1 = tb (spT (ps.take (k + 1)))) := Lib.hid (bytes_inj (by
          rw [HTK.out, spT_snoc, ← e2, Joins.data_append, ← e1, Joins.data_append, HSe.out, tb_data, tb_data]
          rfl))
        have HT2 : Hid (T1 = tb (spU (ps.take (k + 1)))) := Lib.hid (bytes_inj (by
          rw [HTK.out, spU_snoc, ← e4, Joins.data_append, ← e3, Joins.data_append, HTe.out, tb_data, tb_data]
          rfl))
        have HB3 : Hid (Below w1.heap.size w1 ((wr.alloc (.cells #[.string ⟨#[102, 105, 108, 101, 115]⟩, .string ⟨#[100, 110, 115]⟩, .string ⟨#[108, 108, 109, 110, 114]⟩] 9)).alloc (.cells #[.string ⟨#[]⟩, .string ⟨#[78, 79, 84, 70, 79, 85, 78, 68, 61, 114, 101, 116, 117, 114, 110]⟩, .string ⟨#[33, 83, 85, 67, 67, 69, 83, 83, 61, 114, 101, 116, 117, 114, 110]⟩, .string ⟨#[83, 85, 67, 67, 69, 83, 83, 61, 99, 111, 110, 116, 105, 110, 117, 101]⟩] 9))) := Lib.hid ((HB.out.alloc HB.out.size _).alloc (by rw [World.size_alloc]; have := HB.out.size; omega) _)
        go_wp2
        go_roundg g2
        case measure => omega
        case rel => exact ⟨k + 1, by go_num, by omega, by rw [HS2.out], by rw [HT2.out], HB3⟩
      · have hi0 : (bits BinOp.and IntKind.i64 x 255).tmod 3 = 0 := hi
        have hj0 : bits BinOp.and IntKind.i64 (x / 256) 3 = 1 := hj
        clear hi hj
        obtain ⟨P1, e1⟩ : ∃ P1, (⟨#[32]⟩ : ByteArray) ++ (⟨#[102, 105, 108, 101, 115]⟩ : ByteArray) = P1 := ⟨_, rfl⟩
        obtain ⟨S1, e2⟩ : ∃ S1, S ++ P1 = S1 := ⟨_, rfl⟩
        obtain ⟨P2, e3⟩ : ∃ P2, (⟨#[9]⟩ : ByteArray) ++ (⟨#[102, 105, 108, 101, 115]⟩ : ByteArray) = P2 := ⟨_, rfl⟩
        obtain ⟨T1, e4⟩ : ∃ T1, T ++ P2 = T1 := ⟨_, rfl⟩
        have s1 : P1.size ≤ 10 := by rw [← e1]; decide
        have s2 : S1.size ≤ 410 := by rw [← e2, ByteArray.size_append]; omega
        have s3 : P2.size ≤ 10 := by rw [← e3]; decide
        have s4 : T1.size ≤ 410 := by rw [← e4, ByteArray.size_append]; omega
        have sk : (⟨#[102, 105, 108, 101, 115]⟩ : ByteArray).size ≤ 10 := by decide
        have sa : (⟨#[32]⟩ : ByteArray).size ≤ 10 := by decide
        have sb : (⟨#[9]⟩ : ByteArray).size ≤ 10 := by decide
        obtain ⟨P3, e5⟩ : ∃ P3, (⟨#[91]⟩ : ByteArray) ++ (⟨#[78, 79, 84, 70, 79, 85, 78, 68, 61, 114, 101, 116, 117, 114, 110]⟩ : ByteArray) = P3 := ⟨_, rfl⟩
        obtain ⟨P4, e6⟩ : ∃ P4, P3 ++ (⟨#[93]⟩ : ByteArray) = P4 := ⟨_, rfl⟩
        obtain ⟨S2, e7⟩ : ∃ S2, S1 ++ P4 = S2 := ⟨_, rfl⟩
        obtain ⟨P5, e8⟩ : ∃ P5, (⟨#[32, 32, 91, 32, 32]⟩ : ByteArray) ++ (⟨#[78, 79, 84, 70, 79, 85, 78, 68, 61, 114, 101, 116, 117, 114, 110]⟩ : ByteArray) = P5 := ⟨_, rfl⟩
        obtain ⟨P6, e9⟩ : ∃ P6, P5 ++ (⟨#[32, 93]⟩ : ByteArray) = P6 := ⟨_, rfl⟩
        obtain ⟨T2, e10⟩ : ∃ T2, T1 ++ P6 = T2 := ⟨_, rfl⟩
        have s5 : P3.size ≤ 40 := by rw [← e5]; decide
        have s6 : P4.size ≤ 41 := by rw [← e6, ByteArray.size_append]; have : (⟨#[93]⟩ : ByteArray).size = 1 := rfl; omega
        have s8 : P5.size ≤ 40 := by rw [← e8]; decide
        have s9 : P6.size ≤ 42 := by rw [← e9, ByteArray.size_append]; have : (⟨#[32, 93]⟩ : ByteArray).size = 2 := rfl; omega
        have sc : (⟨#[91]⟩ : ByteArray).size ≤ 10 := by decide
        have sd : (⟨#[93]⟩ : ByteArray).size ≤ 10 := by decide
        have se : (⟨#[32, 32, 91, 32, 32]⟩ : ByteArray).size ≤ 10 := by decide
        have sf : (⟨#[32, 93]⟩ : ByteArray).size ≤ 10 := by decide
        have sg : (⟨#[78, 79, 84, 70, 79, 85, 78, 68, 61, 114, 101, 116, 117, 114, 110]⟩ : ByteArray).size ≤ 20 := by decide
        have HS2 : Hid (S2 = tb (spT (ps.take (k + 1)))) := Lib.hid (bytes_inj (by
          rw [HTK.out, spT_snoc, ← e7, Joins.data_append, ← e2, Joins.data_append, ← e1, Joins.data_append, ← e6, Joins.data_append, ← e5, Joins.data_append, HSe.out, tb_data, tb_data]
          simp only [List.append_assoc]
          rfl))
        have HT2 : Hid (T2 = tb (spU (ps.take (k + 1)))) := Lib.hid (bytes_inj (by
          rw [HTK.out, spU_snoc, ← e10, Joins.data_append, ← e4, Joins.data_append, ← e3, Joins.data_append, ← e9, Joins.data_append, ← e8, Joins.data_append, HTe.out, tb_data, tb_data]
          simp only [List.append_assoc]
          rfl))
        have HB3 : Hid (Below w1.heap.size w1 ((wr.alloc (.cells #[.string ⟨#[102, 105, 108, 101, 115]⟩, .string ⟨#[100, 110, 115]⟩, .string ⟨#[108, 108, 109, 110, 114]⟩] 9)).alloc (.cells #[.string ⟨#[]⟩, .string ⟨#[78, 79, 84, 70, 79, 85, 78, 68, 61, 114, 101, 116, 117, 114, 110]⟩, .string ⟨#[33, 83, 85, 67, 67, 69, 83, 83, 61, 114, 101, 116, 117, 114, 110]⟩, .string ⟨#[83, 85, 67, 67, 69, 83, 83, 61, 99, 111, 110, 116, 105, 110, 117, 101]⟩] 9))) := Lib.hid ((HB.out.alloc HB.out.size _).alloc (by rw [World.size_alloc]; have := HB.out.size; omega) _)
        go_wp2
        go_roundg g2
        case measure => omega
        case rel => exact ⟨k + 1, by go_num, by omega, by rw [HS2.out], by rw [HT2.out], HB3⟩
      · have hi0 : (bits BinOp.and IntKind.i64 x 255).tmod 3 = 0 := hi
        have hj0 : bits BinOp.and IntKind.i64 (x / 256) 3 = 2 := hj
        clear hi hj
        obtain ⟨P1, e1⟩ : ∃ P1, (⟨#[32]⟩ : ByteArray) ++ (⟨#[102, 105, 108, 101, 115]⟩ : ByteArray) = P1 := ⟨_, rfl⟩
        obtain ⟨S1, e2⟩ : ∃ S1, S ++ P1 = S1 := ⟨_, rfl⟩
        obtain ⟨P2, e3⟩ : ∃ P2, (⟨#[9]⟩ : ByteArray) ++ (⟨#[102, 105, 108, 101, 115]⟩ : ByteArray) = P2 := ⟨_, rfl⟩
        obtain ⟨T1, e4⟩ : ∃ T1, T ++ P2 = T1 := ⟨_, rfl⟩
        have s1 : P1.size ≤ 10 := by rw [← e1]; decide
        have s2 : S1.size ≤ 410 := by rw [← e2, ByteArray.size_append]; omega
        have s3 : P2.size ≤ 10 := by rw [← e3]; decide
        have s4 : T1.size ≤ 410 := by rw [← e4, ByteArray.size_append]; omega
        have sk : (⟨#[102, 105, 108, 101, 115]⟩ : ByteArray).size ≤ 10 := by decide
        have sa : (⟨#[32]⟩ : ByteArray).size ≤ 10 := by decide
        have sb : (⟨#[9]⟩ : ByteArray).size ≤ 10 := by decide
        obtain ⟨P3, e5⟩ : ∃ P3, (⟨#[91]⟩ : ByteArray) ++ (⟨#[33, 83, 85, 67, 67, 69, 83, 83, 61, 114, 101, 116, 117, 114, 110]⟩ : ByteArray) = P3 := ⟨_, rfl⟩
        obtain ⟨P4, e6⟩ : ∃ P4, P3 ++ (⟨#[93]⟩ : ByteArray) = P4 := ⟨_, rfl⟩
        obtain ⟨S2, e7⟩ : ∃ S2, S1 ++ P4 = S2 := ⟨_, rfl⟩
        obtain ⟨P5, e8⟩ : ∃ P5, (⟨#[32, 32, 91, 32, 32]⟩ : ByteArray) ++ (⟨#[33, 83, 85, 67, 67, 69, 83, 83, 61, 114, 101, 116, 117, 114, 110]⟩ : ByteArray) = P5 := ⟨_, rfl⟩
        obtain ⟨P6, e9⟩ : ∃ P6, P5 ++ (⟨#[32, 93]⟩ : ByteArray) = P6 := ⟨_, rfl⟩
        obtain ⟨T2, e10⟩ : ∃ T2, T1 ++ P6 = T2 := ⟨_, rfl⟩
        have s5 : P3.size ≤ 40 := by rw [← e5]; decide
        have s6 : P4.size ≤ 41 := by rw [← e6, ByteArray.size_append]; have : (⟨#[93]⟩ : ByteArray).size = 1 := rfl; omega
        have s8 : P5.size ≤ 40 := by rw [← e8]; decide
        have s9 : P6.size ≤ 42 := by rw [← e9, ByteArray.size_append]; have : (⟨#[32, 93]⟩ : ByteArray).size = 2 := rfl; omega
        have sc : (⟨#[91]⟩ : ByteArray).size ≤ 10 := by decide
        have sd : (⟨#[93]⟩ : ByteArray).size ≤ 10 := by decide
        have se : (⟨#[32, 32, 91, 32, 32]⟩ : ByteArray).size ≤ 10 := by decide
        have sf : (⟨#[32, 93]⟩ : ByteArray).size ≤ 10 := by decide
        have sg : (⟨#[33, 83, 85, 67, 67, 69, 83, 83, 61, 114, 101, 116, 117, 114, 110]⟩ : ByteArray).size ≤ 20 := by decide
        have HS2 : Hid (S2 = tb (spT (ps.take (k + 1)))) := Lib.hid (bytes_inj (by
          rw [HTK.out, spT_snoc, ← e7, Joins.data_append, ← e2, Joins.data_append, ← e1, Joins.data_append, ← e6, Joins.data_append, ← e5, Joins.data_append, HSe.out, tb_data, tb_data]
          simp only [List.append_assoc]
          rfl))
        have HT2 : Hid (T2 = tb (spU (ps.take (k + 1)))) := Lib.hid (bytes_inj (by
          rw [HTK.out, spU_snoc, ← e10, Joins.data_append, ← e4, Joins.data_append, ← e3, Joins.data_append, ← e9, Joins.data_append, ← e8, Joins.data_append, HTe.out, tb_data, tb_data]
          simp only [List.append_assoc]
          rfl))
        have HB3 : Hid (Below w1.heap.size w1 ((wr.alloc (.cells #[.string ⟨#[102, 105, 108, 101, 115]⟩, .string ⟨#[100, 110, 115]⟩, .string ⟨#[108, 108, 109, 110, 114]⟩] 9)).alloc (.cells #[.string ⟨#[]⟩, .string ⟨#[78, 79, 84, 70, 79, 85, 78, 68, 61, 114, 101, 116, 117, 114, 110]⟩, .string ⟨#[33, 83, 85, 67, 67, 69, 83, 83, 61, 114, 101, 116, 117, 114, 110]⟩, .string ⟨#[83, 85, 67, 67, 69, 83, 83, 61, 99, 111, 110, 116, 105, 110, 117, 101]⟩] 9))) := Lib.hid ((HB.out.alloc HB.out.size _).alloc (by rw [World.size_alloc]; have := HB.out.size; omega) _)
        go_wp2
        go_roundg g2
        case measure => omega
        case rel => exact ⟨k + 1, by go_num, by omega, by rw [HS2.out], by rw [HT2.out], HB3⟩
      · have hi0 : (bits BinOp.and IntKind.i64 x 255).tmod 3 = 0 := hi
        have hj0 : bits BinOp.and IntKind.i64 (x / 256) 3 = 3 := hj
        clear hi hj
        obtain ⟨P1, e1⟩ : ∃ P1, (⟨#[32]⟩ : ByteArray) ++ (⟨#[102, 105, 108, 101, 115]⟩ : ByteArray) = P1 := ⟨_, rfl⟩
        obtain ⟨S1, e2⟩ : ∃ S1, S ++ P1 = S1 := ⟨_, rfl⟩
        obtain ⟨P2, e3⟩ : ∃ P2, (⟨#[9]⟩ : ByteArray) ++ (⟨#[102, 105, 108, 101, 115]⟩ : ByteArray) = P2 := ⟨_, rfl⟩
        obtain ⟨T1, e4⟩ : ∃ T1, T ++ P2 = T1 := ⟨_, rfl⟩
        have s1 : P1.size ≤ 10 := by rw [← e1]; decide
        have s2 : S1.size ≤ 410 := by rw [← e2, ByteArray.size_append]; omega
        have s3 : P2.size ≤ 10 := by rw [← e3]; decide
        have s4 : T1.size ≤ 410 := by rw [← e4, ByteArray.size_append]; omega
        have sk : (⟨#[102, 105, 108, 101, 115]⟩ : ByteArray).size ≤ 10 := by decide
        have sa : (⟨#[32]⟩ : ByteArray).size ≤ 10 := by decide
        have sb : (⟨#[9]⟩ : ByteArray).size ≤ 10 := by decide
        obtain ⟨P3, e5⟩ : ∃ P3, (⟨#[91]⟩ : ByteArray) ++ (⟨#[83, 85, 67, 67, 69, 83, 83, 61, 99, 111, 110, 116, 105, 110, 117, 101]⟩ : ByteArray) = P3 := ⟨_, rfl⟩
        obtain ⟨P4, e6⟩ : ∃ P4, P3 ++ (⟨#[93]⟩ : ByteArray) = P4 := ⟨_, rfl⟩
        obtain ⟨S2, e7⟩ : ∃ S2, S1 ++ P4 = S2 := ⟨_, rfl⟩
        obtain ⟨P5, e8⟩ : ∃ P5, (⟨#[32, 32, 91, 32, 32]⟩ : ByteArray) ++ (⟨#[83, 85, 67, 67, 69, 83, 83, 61, 99, 111, 110, 116, 105, 110, 117, 101]⟩ : ByteArray) = P5 := ⟨_, rfl⟩
        obtain ⟨P6, e9⟩ : ∃ P6, P5 ++ (⟨#[32, 93]⟩ : ByteArray) = P6 := ⟨_, rfl⟩
        obtain ⟨T2, e10⟩ : ∃ T2, T1 ++ P6 = T2 := ⟨_, rfl⟩
        have s5 : P3.size ≤ 40 := by rw [← e5]; decide
        have s6 : P4.size ≤ 41 := by rw [← e6, ByteArray.size_append]; have : (⟨#[93]⟩ : ByteArray).size = 1 := rfl; omega
        have s8 : P5.size ≤ 40 := by rw [← e8]; decide
        have s9 : P6.size ≤ 42 := by rw [← e9, ByteArray.size_append]; have : (⟨#[32, 93]⟩ : ByteArray).size = 2 := rfl; omega
        have sc : (⟨#[91]⟩ : ByteArray).size ≤ 10 := by decide
        have sd : (⟨#[93]⟩ : ByteArray).size ≤ 10 := by decide
        have se : (⟨#[32, 32, 91, 32, 32]⟩ : ByteArray).size ≤ 10 := by decide
        have sf : (⟨#[32, 93]⟩ : ByteArray).size ≤ 10 := by decide
        have sg : (⟨#[83, 85, 67, 67, 69, 83, 83, 61, 99, 111, 110, 116, 105, 110, 117, 101]⟩ : ByteArray).size ≤ 20 := by decide
        have HS2 : Hid (S2 = tb (spT (ps.take (k + 1)))) := Lib.hid (bytes_inj (by
          rw [HTK.out, spT_snoc, ← e7, Joins.data_append, ← e2, Joins.data_append, ← e1, Joins.data_append, ← e6, Joins.data_append, ← e5, Joins.data_append, HSe.out, tb_data, tb_data]
          simp only [List.append_assoc]
          rfl))
        have HT2 : Hid (T2 = tb (spU (ps.take (k + 1)))) := Lib.hid (bytes_inj (by
          rw [HTK.out, spU_snoc, ← e10, Joins.data_append, ← e4, Joins.data_append, ← e3, Joins.data_append, ← e9, Joins.data_append, ← e8, Joins.data_append, HTe.out, tb_data, tb_data]
          simp only [List.append_assoc]
          rfl))
        have HB3 : Hid (Below w1.heap.size w1 ((wr.alloc (.cells #[.string ⟨#[102, 105, 108, 101, 115]⟩, .string ⟨#[100, 110, 115]⟩, .string ⟨#[108, 108, 109, 110, 114]⟩] 9)).alloc (.cells #[.string ⟨#[]⟩, .string ⟨#[78, 79, 84, 70, 79, 85, 78, 68, 61, 114, 101, 116, 117, 114, 110]⟩, .string ⟨#[33, 83, 85, 67, 67, 69, 83, 83, 61, 114, 101, 116, 117, 114, 110]⟩, .string ⟨#[83, 85, 67, 67, 69, 83, 83, 61, 99, 111, 110, 116, 105, 110, 117, 101]⟩] 9))) := Lib.hid ((HB.out.alloc HB.out.size _).alloc (by rw [World.size_alloc]; have := HB.out.size; omega) _)
        go_wp2
        go_roundg g2
        case measure => omega
        case rel => exact ⟨k + 1, by go_num, by omega, by rw [HS2.out], by rw [HT2.out], HB3⟩
      · have hi0 : (bits BinOp.and IntKind.i64 x 255).tmod 3 = 1 := hi
        have hj0 : bits BinOp.and IntKind.i64 (x / 256) 3 = 0 := hj
        clear hi hj
        obtain ⟨P1, e1⟩ : ∃ P1, (⟨#[32]⟩ : ByteArray) ++ (⟨#[100, 110, 115]⟩ : ByteArray) = P1 := ⟨_, rfl⟩
        obtain ⟨S1, e2⟩ : ∃ S1, S ++ P1 = S1 := ⟨_, rfl⟩
        obtain ⟨P2, e3⟩ : ∃ P2, (⟨#[9]⟩ : ByteArray) ++ (⟨#[100, 110, 115]⟩ : ByteArray) = P2 := ⟨_, rfl⟩
        obtain ⟨T1, e4⟩ : ∃ T1, T ++ P2 = T1 := ⟨_, rfl⟩
        have s1 : P1.size ≤ 10 := by rw [← e1]; decide
        have s2 : S1.size ≤ 410 := by rw [← e2, ByteArray.size_append]; omega
        have s3 : P2.size ≤ 10 := by rw [← e3]; decide
        have s4 : T1.size ≤ 410 := by rw [← e4, ByteArray.size_append]; omega
        have sk : (⟨#[100, 110, 115]⟩ : ByteArray).size ≤ 10 := by decide
        have sa : (⟨#[32]⟩ : ByteArray).size ≤ 10 := by decide
        have sb : (⟨#[9]⟩ : ByteArray).size ≤ 10 := by decide
        have HS2 : Hid (S1 = tb (spT (ps.take (k + 1)))) := Lib.hid (bytes_inj (by
          rw [HTK.out, spT_snoc, ← e2, Joins.data_append, ← e1, Joins.data_append, HSe.out, tb_data, tb_data]
          rfl))
        have HT2 : Hid (T1 = tb (spU (ps.take (k + 1)))) := Lib.hid (bytes_inj (by
          rw [HTK.out, spU_snoc, ← e4, Joins.data_append, ← e3, Joins.data_append, HTe.out, tb_data, tb_data]
          rfl))
        have HB3 : Hid (Below w1.heap.size w1 ((wr.alloc (.cells #[.string ⟨#[102, 105, 108, 101, 115]⟩, .string ⟨#[100, 110, 115]⟩, .string ⟨#[108, 108, 109, 110, 114]⟩] 9)).alloc (.cells #[.string ⟨#[]⟩, .string ⟨#[78, 79, 84, 70, 79, 85, 78, 68, 61, 114, 101, 116, 117, 114, 110]⟩, .string ⟨#[33, 83, 85, 67, 67, 69, 83, 83, 61, 114, 101, 116, 117, 114, 110]⟩, .string ⟨#[83, 85, 67, 67, 69, 83, 83, 61, 99, 111, 110, 116, 105, 110, 117, 101]⟩] 9))) := Lib.hid ((HB.out.alloc HB.out.size _).alloc (by rw [World.size_alloc]; have := HB.out.size; omega) _)
        go_wp2
        go_roundg g2
        case measure => omega
        case rel => exact ⟨k + 1, by go_num, by omega, by rw [HS2.out], by rw [HT2.out], HB3⟩
      · have hi0 : (bits BinOp.and IntKind.i64 x 255).tmod 3 = 1 := hi
        have hj0 : bits BinOp.and IntKind.i64 (x / 256) 3 = 1 := hj
        clear hi hj
        obtain ⟨P1, e1⟩ : ∃ P1, (⟨#[32]⟩ : ByteArray) ++ (⟨#[100, 110, 115]⟩ : ByteArray) = P1 := ⟨_, rfl⟩
        obtain ⟨S1, e2⟩ : ∃ S1, S ++ P1 = S1 := ⟨_, rfl⟩
        obtain ⟨P2, e3⟩ : ∃ P2, (⟨#[9]⟩ : ByteArray) ++ (⟨#[100, 110, 115]⟩ : ByteArray) = P2 := ⟨_, rfl⟩
        obtain ⟨T1, e4⟩ : ∃ T1, T ++ P2 = T1 := ⟨_, rfl⟩
        have s1 : P1.size ≤ 10 := by rw [← e1]; decide
        have s2 : S1.size ≤ 410 := by rw [← e2, ByteArray.size_append]; omega
        have s3 : P2.size ≤ 10 := by rw [← e3]; decide
        have s4 : T1.size ≤ 410 := by rw [← e4, ByteArray.size_append]; omega
        have sk : (⟨#[100, 110, 115]⟩ : ByteArray).size ≤ 10 := by decide
        have sa : (⟨#[32]⟩ : ByteArray).size ≤ 10 := by decide
        have sb : (⟨#[9]⟩ : ByteArray).size ≤ 10 := by decide
        obtain ⟨P3, e5⟩ : ∃ P3, (⟨#[91]⟩ : ByteArray) ++ (⟨#[78, 79, 84, 70, 79, 85, 78, 68, 61, 114, 101, 116, 117, 114, 110]⟩ : ByteArray) = P3 := ⟨_, rfl⟩
        obtain ⟨P4, e6⟩ : ∃ P4, P3 ++ (⟨#[93]⟩ : ByteArray) = P4 := ⟨_, rfl⟩
        obtain ⟨S2, e7⟩ : ∃ S2, S1 ++ P4 = S2 := ⟨_, rfl⟩
        obtain ⟨P5, e8⟩ : ∃ P5, (⟨#[32, 32, 91, 32, 32]⟩ : ByteArray) ++ (⟨#[78, 79, 84, 70, 79, 85, 78, 68, 61, 114, 101, 116, 117, 114, 110]⟩ : ByteArray) = P5 := ⟨_, rfl⟩
        obtain ⟨P6, e9⟩ : ∃ P6, P5 ++ (⟨#[32, 93]⟩ : ByteArray) = P6 := ⟨_, rfl⟩
        obtain ⟨T2, e10⟩ : ∃ T2, T1 ++ P6 = T2 := ⟨_, rfl⟩
        have s5 : P3.size ≤ 40 := by rw [← e5]; decide
        have s6 : P4.size ≤ 41 := by rw [← e6, ByteArray.size_append]; have : (⟨#[93]⟩ : ByteArray).size = 1 := rfl; omega
        have s8 : P5.size ≤ 40 := by rw [← e8]; decide
        have s9 : P6.size ≤ 42 := by rw [← e9, ByteArray.size_append]; have : (⟨#[32, 93]⟩ : ByteArray).size = 2 := rfl; omega
        have sc : (⟨#[91]⟩ : ByteArray).size ≤ 10 := by decide
        have sd : (⟨#[93]⟩ : ByteArray).size ≤ 10 := by decide
        have se : (⟨#[32, 32, 91, 32, 32]⟩ : ByteArray).size ≤ 10 := by decide
        have sf : (⟨#[32, 93]⟩ : ByteArray).size ≤ 10 := by decide
        have sg : (⟨#[78, 79, 84, 70, 79, 85, 78, 68, 61, 114, 101, 116, 117, 114, 110]⟩ : ByteArray).size ≤ 20 := by decide
        have HS2 : Hid (S2 = tb (spT (ps.take (k + 1)))) := Lib.hid (bytes_inj (by
          rw [HTK.out, spT_snoc, ← e7, Joins.data_append, ← e2, Joins.data_append, ← e1, Joins.data_append, ← e6, Joins.data_append, ← e5, Joins.data_append, HSe.out, tb_data, tb_data]
          simp only [List.append_assoc]
          rfl))
        have HT2 : Hid (T2 = tb (spU (ps.take (k + 1)))) := Lib.hid (bytes_inj (by
          rw [HTK.out, spU_snoc, ← e10, Joins.data_append, ← e4, Joins.data_append, ← e3, Joins.data_append, ← e9, Joins.data_append, ← e8, Joins.data_append, HTe.out, tb_data, tb_data]
          simp only [List.append_assoc]
          rfl))
        have HB3 : Hid (Below w1.heap.size w1 ((wr.alloc (.cells #[.string ⟨#[102, 105, 108, 101, 115]⟩, .string ⟨#[100, 110, 115]⟩, .string ⟨#[108, 108, 109, 110, 114]⟩] 9)).alloc (.cells #[.string ⟨#[]⟩, .string ⟨#[78, 79, 84, 70, 79, 85, 78, 68, 61, 114, 101, 116, 117, 114, 110]⟩, .string ⟨#[33, 83, 85, 67, 67, 69, 83, 83, 61, 114, 101, 116, 117, 114, 110]⟩, .string ⟨#[83, 85, 67, 67, 69, 83, 83, 61, 99, 111, 110, 116, 105, 110, 117, 101]⟩] 9))) := Lib.hid ((HB.out.alloc HB.out.size _).alloc (by rw [World.size_alloc]; have := HB.out.size; omega) _)
        go_wp2
        go_roundg g2
        case measure => omega
        case rel => exact ⟨k + 1, by go_num, by omega, by rw [HS2.out], by rw [HT2.out], HB3⟩
      · have hi0 : (bits BinOp.and IntKind.i64 x 255).tmod 3 = 1 := hi
        have hj0 : bits BinOp.and IntKind.i64 (x / 256) 3 = 2 := hj
        clear hi hj
        obtain ⟨P1, e1⟩ : ∃ P1, (⟨#[32]⟩ : ByteArray) ++ (⟨#[100, 110, 115]⟩ : ByteArray) = P1 := ⟨_, rfl⟩
        obtain ⟨S1, e2⟩ : ∃ S1, S ++ P1 = S1 := ⟨_, rfl⟩
        obtain ⟨P2, e3⟩ : ∃ P2, (⟨#[9]⟩ : ByteArray) ++ (⟨#[100, 110, 115]⟩ : ByteArray) = P2 := ⟨_, rfl⟩
        obtain ⟨T1, e4⟩ : ∃ T1, T ++ P2 = T1 := ⟨_, rfl⟩
        have s1 : P1.size ≤ 10 := by rw [← e1]; decide
        have s2 : S1.size ≤ 410 := by rw [← e2, ByteArray.size_append]; omega
        have s3 : P2.size ≤ 10 := by rw [← e3]; decide
        have s4 : T1.size ≤ 410 := by rw [← e4, ByteArray.size_append]; omega
        have sk : (⟨#[100, 110, 115]⟩ : ByteArray).size ≤ 10 := by decide
        have sa : (⟨#[32]⟩ : ByteArray).size ≤ 10 := by decide
        have sb : (⟨#[9]⟩ : ByteArray).size ≤ 10 := by decide
        obtain ⟨P3, e5⟩ : ∃ P3, (⟨#[91]⟩ : ByteArray) ++ (⟨#[33, 83, 85, 67, 67, 69, 83, 83, 61, 114, 101, 116, 117, 114, 110]⟩ : ByteArray) = P3 := ⟨_, rfl⟩
        obtain ⟨P4, e6⟩ : ∃ P4, P3 ++ (⟨#[93]⟩ : ByteArray) = P4 := ⟨_, rfl⟩
        obtain ⟨S2, e7⟩ : ∃ S2, S1 ++ P4 = S2 := ⟨_, rfl⟩
        obtain ⟨P5, e8⟩ : ∃ P5, (⟨#[32, 32, 91, 32, 32]⟩ : ByteArray) ++ (⟨#[33, 83, 85, 67, 67, 69, 83, 83, 61, 114, 101, 116, 117, 114, 110]⟩ : ByteArray) = P5 := ⟨_, rfl⟩
        obtain ⟨P6, e9⟩ : ∃ P6, P5 ++ (⟨#[32, 93]⟩ : ByteArray) = P6 := ⟨_, rfl⟩
        obtain ⟨T2, e10⟩ : ∃ T2, T1 ++ P6 = T2 := ⟨_, rfl⟩
        have s5 : P3.size ≤ 40 := by rw [← e5]; decide
        have s6 : P4.size ≤ 41 := by rw [← e6, ByteArray.size_append]; have : (⟨#[93]⟩ : ByteArray).size = 1 := rfl; omega
        have s8 : P5.size ≤ 40 := by rw [← e8]; decide
        have s9 : P6.size ≤ 42 := by rw [← e9, ByteArray.size_append]; have : (⟨#[32, 93]⟩ : ByteArray).size = 2 := rfl; omega
        have sc : (⟨#[91]⟩ : ByteArray).size ≤ 10 := by decide
        have sd : (⟨#[93]⟩ : ByteArray).size ≤ 10 := by decide
        have se : (⟨#[32, 32, 91, 32, 32]⟩ : ByteArray).size ≤ 10 := by decide
        have sf : (⟨#[32, 93]⟩ : ByteArray).size ≤ 10 := by decide
        have sg : (⟨#[33, 83, 85, 67, 67, 69, 83, 83, 61, 114, 101, 116, 117, 114, 110]⟩ : ByteArray).size ≤ 20 := by decide
        have HS2 : Hid (S2 = tb (spT (ps.take (k + 1)))) := Lib.hid (bytes_inj (by
          rw [HTK.out, spT_snoc, ← e7, Joins.data_append, ← e2, Joins.data_append, ← e1, Joins.data_append, ← e6, Joins.data_append, ← e5, Joins.data_append, HSe.out, tb_data, tb_data]
          simp only [List.append_assoc]
          rfl))
        have HT2 : Hid (T2 = tb (spU (ps.take (k + 1)))) := Lib.hid (bytes_inj (by
          rw [HTK.out, spU_snoc, ← e10, Joins.data_append, ← e4, Joins.data_append, ← e3, Joins.data_append, ← e9, Joins.data_append, ← e8, Joins.data_append, HTe.out, tb_data, tb_data]
          simp only [List.append_assoc]
          rfl))
        have HB3 : Hid (Below w1.heap.size w1 ((wr.alloc (.cells #[.string ⟨#[102, 105, 108, 101, 115]⟩, .string ⟨#[100, 110, 115]⟩, .string ⟨#[108, 108, 109, 110, 114]⟩] 9)).alloc (.cells #[.string ⟨#[]⟩, .string ⟨#[78, 79, 84, 70, 79, 85, 78, 68, 61, 114, 101, 116, 117, 114, 110]⟩, .string ⟨#[33, 83, 85, 67, 67, 69, 83, 83, 61, 114, 101, 116, 117, 114, 110]⟩, .string ⟨#[83, 85, 67, 67, 69, 83, 83, 61, 99, 111, 110, 116, 105, 110, 117, 101]⟩] 9))) := Lib.hid ((HB.out.alloc HB.out.size _).alloc (by rw [World.size_alloc]; have := HB.out.size; omega) _)
        go_wp2
        go_roundg g2
        case measure => omega
        case rel => exact ⟨k + 1, by go_num, by omega, by rw [HS2.out], by rw [HT2.out], HB3⟩
      · have hi0 : (bits BinOp.and IntKind.i64 x 255).tmod 3 = 1 := hi
        have hj0 : bits BinOp.and IntKind.i64 (x / 256) 3 = 3 := hj
        clear hi hj
        obtain ⟨P1, e1⟩ : ∃ P1, (⟨#[32]⟩ : ByteArray) ++ (⟨#[100, 110, 115]⟩ : ByteArray) = P1 := ⟨_, rfl⟩
        obtain ⟨S1, e2⟩ : ∃ S1, S ++ P1 = S1 := ⟨_, rfl⟩
        obtain ⟨P2, e3⟩ : ∃ P2, (⟨#[9]⟩ : ByteArray) ++ (⟨#[100, 110, 115]⟩ : ByteArray) = P2 := ⟨_, rfl⟩
        obtain ⟨T1, e4⟩ : ∃ T1, T ++ P2 = T1 := ⟨_, rfl⟩
        have s1 : P1.size ≤ 10 := by rw [← e1]; decide
        have s2 : S1.size ≤ 410 := by rw [← e2, ByteArray.size_append]; omega
        have s3 : P2.size ≤ 10 := by rw [← e3]; decide
        have s4 : T1.size ≤ 410 := by rw [← e4, ByteArray.size_append]; omega
        have sk : (⟨#[100, 110, 115]⟩ : ByteArray).size ≤ 10 := by decide
        have sa : (⟨#[32]⟩ : ByteArray).size ≤ 10 := by decide
        have sb : (⟨#[9]⟩ : ByteArray).size ≤ 10 := by decide
        obtain ⟨P3, e5⟩ : ∃ P3, (⟨#[91]⟩ : ByteArray) ++ (⟨#[83, 85, 67, 67, 69, 83, 83, 61, 99, 111, 110, 116, 105, 110, 117, 101]⟩ : ByteArray) = P3 := ⟨_, rfl⟩
        obtain ⟨P4, e6⟩ : ∃ P4, P3 ++ (⟨#[93]⟩ : ByteArray) = P4 := ⟨_, rfl⟩
        obtain ⟨S2, e7⟩ : ∃ S2, S1 ++ P4 = S2 := ⟨_, rfl⟩
        obtain ⟨P5, e8⟩ : ∃ P5, (⟨#[32, 32, 91, 32, 32]⟩ : ByteArray) ++ (⟨#[83, 85, 67, 67, 69, 83, 83, 61, 99, 111, 110, 116, 105, 110, 117, 101]⟩ : ByteArray) = P5 := ⟨_, rfl⟩
        obtain ⟨P6, e9⟩ : ∃ P6, P5 ++ (⟨#[32, 93]⟩ : ByteArray) = P6 := ⟨_, rfl⟩
        obtain ⟨T2, e10⟩ : ∃ T2, T1 ++ P6 = T2 := ⟨_, rfl⟩
        have s5 : P3.size ≤ 40 := by rw [← e5]; decide
        have s6 : P4.size ≤ 41 := by rw [← e6, ByteArray.size_append]; have : (⟨#[93]⟩ : ByteArray).size = 1 := rfl; omega
        have s8 : P5.size ≤ 40 := by rw [← e8]; decide
        have s9 : P6.size ≤ 42 := by rw [← e9, ByteArray.size_append]; have : (⟨#[32, 93]⟩ : ByteArray).size = 2 := rfl; omega
        have sc : (⟨#[91]⟩ : ByteArray).size ≤ 10 := by decide
        have sd : (⟨#[93]⟩ : ByteArray).size ≤ 10 := by decide
        have se : (⟨#[32, 32, 91, 32, 32]⟩ : ByteArray).size ≤ 10 := by decide
        have sf : (⟨#[32, 93]⟩ : ByteArray).size ≤ 10 := by decide
        have sg : (⟨#[83, 85, 67, 67, 69, 83, 83, 61, 99, 111, 110, 116, 105, 110, 117, 101]⟩ : ByteArray).size ≤ 20 := by decide
        have HS2 : Hid (S2 = tb (spT (ps.take (k + 1)))) := Lib.hid (bytes_inj (by
          rw [HTK.out, spT_snoc, ← e7, Joins.data_append, ← e2, Joins.data_append, ← e1, Joins.data_append, ← e6, Joins.data_append, ← e5, Joins.data_append, HSe.out, tb_data, tb_data]
          simp only [List.append_assoc]
          rfl))
        have HT2 : Hid (T2 = tb (spU (ps.take (k + 1)))) := Lib.hid (bytes_inj (by
          rw [HTK.out, spU_snoc, ← e10, Joins.data_append, ← e4, Joins.data_append, ← e3, Joins.data_append, ← e9, Joins.data_append, ← e8, Joins.data_append, HTe.out, tb_data, tb_data]
          simp only [List.append_assoc]
          rfl))
        have HB3 : Hid (Below w1.heap.size w1 ((wr.alloc (.cells #[.string ⟨#[102, 105, 108, 101, 115]⟩, .string ⟨#[100, 110, 115]⟩, .string ⟨#[108, 108, 109, 110, 114]⟩] 9)).alloc (.cells #[.string ⟨#[]⟩, .string ⟨#[78, 79, 84, 70, 79, 85, 78, 68, 61, 114, 101, 116, 117, 114, 110]⟩, .string ⟨#[33, 83, 85, 67, 67, 69, 83, 83, 61, 114, 101, 116, 117, 114, 110]⟩, .string ⟨#[83, 85, 67, 67, 69, 83, 83, 61, 99, 111, 110, 116, 105, 110, 117, 101]⟩] 9))) := Lib.hid ((HB.out.alloc HB.out.size _).alloc (by rw [World.size_alloc]; have := HB.out.size; omega) _)
        go_wp2
        go_roundg g2
        case measure => omega
        case rel => exact ⟨k + 1, by go_num, by omega, by rw [HS2.out], by rw [HT2.out], HB3⟩
      · have hi0 : (bits BinOp.and IntKind.i64 x 255).tmod 3 = 2 := hi
        have hj0 : bits BinOp.and IntKind.i64 (x / 256) 3 = 0 := hj
        clear hi hj
        obtain ⟨P1, e1⟩ : ∃ P1, (⟨#[32]⟩ : ByteArray) ++ (⟨#[108, 108, 109, 110, 114]⟩ : ByteArray) = P1 := ⟨_, rfl⟩
        obtain ⟨S1, e2⟩ : ∃ S1, S ++ P1 = S1 := ⟨_, rfl⟩
        obtain ⟨P2, e3⟩ : ∃ P2, (⟨#[9]⟩ : ByteArray) ++ (⟨#[108, 108, 109, 110, 114]⟩ : ByteArray) = P2 := ⟨_, rfl⟩
        obtain ⟨T1, e4⟩ : ∃ T1, T ++ P2 = T1 := ⟨_, rfl⟩
        have s1 : P1.size ≤ 10 := by rw [← e1]; decide
        have s2 : S1.size ≤ 410 := by rw [← e2, ByteArray.size_append]; omega
        have s3 : P2.size ≤ 10 := by rw [← e3]; decide
        have s4 : T1.size ≤ 410 := by rw [← e4, ByteArray.size_append]; omega
        have sk : (⟨#[108, 108, 109, 110, 114]⟩ : ByteArray).size ≤ 10 := by decide
        have sa : (⟨#[32]⟩ : ByteArray).size ≤ 10 := by decide
        have sb : (⟨#[9]⟩ : ByteArray).size ≤ 10 := by decide
        have HS2 : Hid (S1 = tb (spT (ps.take (k + 1)))) := Lib.hid (bytes_inj (by
          rw [HTK.out, spT_snoc, ← e2, Joins.data_append, ← e1, Joins.data_append, HSe.out, tb_data, tb_data]
          rfl))
        have HT2 : Hid (T1 = tb (spU (ps.take (k + 1)))) := Lib.hid (bytes_inj (by
          rw [HTK.out, spU_snoc, ← e4, Joins.data_append, ← e3, Joins.data_append, HTe.out, tb_data, tb_data]
          rfl))
        have HB3 : Hid (Below w1.heap.size w1 ((wr.alloc (.cells #[.string ⟨#[102, 105, 108, 101, 115]⟩, .string ⟨#[100, 110, 115]⟩, .string ⟨#[108, 108, 109, 110, 114]⟩] 9)).alloc (.cells #[.string ⟨#[]⟩, .string ⟨#[78, 79, 84, 70, 79, 85, 78, 68, 61, 114, 101, 116, 117, 114, 110]⟩, .string ⟨#[33, 83, 85, 67, 67, 69, 83, 83, 61, 114, 101, 116, 117, 114, 110]⟩, .string ⟨#[83, 85, 67, 67, 69, 83, 83, 61, 99, 111, 110, 116, 105, 110, 117, 101]⟩] 9))) := Lib.hid ((HB.out.alloc HB.out.size _).alloc (by rw [World.size_alloc]; have := HB.out.size; omega) _)
        go_wp2
        go_roundg g2
        case measure => omega
        case rel => exact ⟨k + 1, by go_num, by omega, by rw [HS2.out], by rw [HT2.out], HB3⟩
      · have hi0 : (bits BinOp.and IntKind.i64 x 255).tmod 3 = 2 := hi
        have hj0 : bits BinOp.and IntKind.i64 (x / 256) 3 = 1 := hj
        clear hi hj
        obtain ⟨P1, e1⟩ : ∃ P1, (⟨#[32]⟩ : ByteArray) ++ (⟨#[108, 108, 109, 110, 114]⟩ : ByteArray) = P1 := ⟨_, rfl⟩
        obtain ⟨S1, e2⟩ : ∃ S1, S ++ P1 = S1 := ⟨_, rfl⟩
        obtain ⟨P2, e3⟩ : ∃ P2, (⟨#[9]⟩ : ByteArray) ++ (⟨#[108, 108, 109, 110, 114]⟩ : ByteArray) = P2 := ⟨_, rfl⟩
        obtain ⟨T1, e4⟩ : ∃ T1, T ++ P2 = T1 := ⟨_, rfl⟩
        have s1 : P1.size ≤ 10 := by rw [← e1]; decide
        have s2 : S1.size ≤ 410 := by rw [← e2, ByteArray.size_append]; omega
        have s3 : P2.size ≤ 10 := by rw [← e3]; decide
        have s4 : T1.size ≤ 410 := by rw [← e4, ByteArray.size_append]; omega
        have sk : (⟨#[108, 108, 109, 110, 114]⟩ : ByteArray).size ≤ 10 := by decide
        have sa : (⟨#[32]⟩ : ByteArray).size ≤ 10 := by decide
        have sb : (⟨#[9]⟩ : ByteArray).size ≤ 10 := by decide
        obtain ⟨P3, e5⟩ : ∃ P3, (⟨#[91]⟩ : ByteArray) ++ (⟨#[78, 79, 84, 70, 79, 85, 78, 68, 61, 114, 101, 116, 117, 114, 110]⟩ : ByteArray) = P3 := ⟨_, rfl⟩
        obtain ⟨P4, e6⟩ : ∃ P4, P3 ++ (⟨#[93]⟩ : ByteArray) = P4 := ⟨_, rfl⟩
        obtain ⟨S2, e7⟩ : ∃ S2, S1 ++ P4 = S2 := ⟨_, rfl⟩
        obtain ⟨P5, e8⟩ : ∃ P5, (⟨#[32, 32, 91, 32, 32]⟩ : ByteArray) ++ (⟨#[78, 79, 84, 70, 79, 85, 78, 68, 61, 114, 101, 116, 117, 114, 110]⟩ : ByteArray) = P5 := ⟨_, rfl⟩
        obtain ⟨P6, e9⟩ : ∃ P6, P5 ++ (⟨#[32, 93]⟩ : ByteArray) = P6 := ⟨_, rfl⟩
        obtain ⟨T2, e10⟩ : ∃ T2, T1 ++ P6 = T2 := ⟨_, rfl⟩
        have s5 : P3.size ≤ 40 := by rw [← e5]; decide
        have s6 : P4.size ≤ 41 := by rw [← e6, ByteArray.size_append]; have : (⟨#[93]⟩ : ByteArray).size = 1 := rfl; omega
        have s8 : P5.size ≤ 40 := by rw [← e8]; decide
        have s9 : P6.size ≤ 42 := by rw [← e9, ByteArray.size_append]; have : (⟨#[32, 93]⟩ : ByteArray).size = 2 := rfl; omega
        have sc : (⟨#[91]⟩ : ByteArray).size ≤ 10 := by decide
        have sd : (⟨#[93]⟩ : ByteArray).size ≤ 10 := by decide
        have se : (⟨#[32, 32, 91, 32, 32]⟩ : ByteArray).size ≤ 10 := by decide
        have sf : (⟨#[32, 93]⟩ : ByteArray).size ≤ 10 := by decide
        have sg : (⟨#[78, 79, 84, 70, 79, 85, 78, 68, 61, 114, 101, 116, 117, 114, 110]⟩ : ByteArray).size ≤ 20 := by decide
        have HS2 : Hid (S2 = tb (spT (ps.take (k + 1)))) := Lib.hid (bytes_inj (by
          rw [HTK.out, spT_snoc, ← e7, Joins.data_append, ← e2, Joins.data_append, ← e1, Joins.data_append, ← e6, Joins.data_append, ← e5, Joins.data_append, HSe.out, tb_data, tb_data]
          simp only [List.append_assoc]
          rfl))
        have HT2 : Hid (T2 = tb (spU (ps.take (k + 1)))) := Lib.hid (bytes_inj (by
          rw [HTK.out, spU_snoc, ← e10, Joins.data_append, ← e4, Joins.data_append, ← e3, Joins.data_append, ← e9, Joins.data_append, ← e8, Joins.data_append, HTe.out, tb_data, tb_data]
          simp only [List.append_assoc]
          rfl))
        have HB3 : Hid (Below w1.heap.size w1 ((wr.alloc (.cells #[.string ⟨#[102, 105, 108, 101, 115]⟩, .string ⟨#[100, 110, 115]⟩, .string ⟨#[108, 108, 109, 110, 114]⟩] 9)).alloc (.cells #[.string ⟨#[]⟩, .string ⟨#[78, 79, 84, 70, 79, 85, 78, 68, 61, 114, 101, 116, 117, 114, 110]⟩, .string ⟨#[33, 83, 85, 67, 67, 69, 83, 83, 61, 114, 101, 116, 117, 114, 110]⟩, .string ⟨#[83, 85, 67, 67, 69, 83, 83, 61, 99, 111, 110, 116, 105, 110, 117, 101]⟩] 9))) := Lib.hid ((HB.out.alloc HB.out.size _).alloc (by rw [World.size_alloc]; have := HB.out.size; omega) _)
        go_wp2
        go_roundg g2
        case measure => omega
        case rel => exact ⟨k + 1, by go_num, by omega, by rw [HS2.out], by rw [HT2.out], HB3⟩
      · have hi0 : (bits BinOp.and IntKind.i64 x 255).tmod 3 = 2 := hi
        have hj0 : bits BinOp.and IntKind.i64 (x / 256) 3 = 2 := hj
        clear hi hj
        obtain ⟨P1, e1⟩ : ∃ P1, (⟨#[32]⟩ : ByteArray) ++ (⟨#[108, 108, 109, 110, 114]⟩ : ByteArray) = P1 := ⟨_, rfl⟩
        obtain ⟨S1, e2⟩ : ∃ S1, S ++ P1 = S1 := ⟨_, rfl⟩
        obtain ⟨P2, e3⟩ : ∃ P2, (⟨#[9]⟩ : ByteArray) ++ (⟨#[108, 108, 109, 110, 114]⟩ : ByteArray) = P2 := ⟨_, rfl⟩
        obtain ⟨T1, e4⟩ : ∃ T1, T ++ P2 = T1 := ⟨_, rfl⟩
        have s1 : P1.size ≤ 10 := by rw [← e1]; decide
        have s2 : S1.size ≤ 410 := by rw [← e2, ByteArray.size_append]; omega
        have s3 : P2.size ≤ 10 := by rw [← e3]; decide
        have s4 : T1.size ≤ 410 := by rw [← e4, ByteArray.size_append]; omega
        have sk : (⟨#[108, 108, 109, 110, 114]⟩ : ByteArray).size ≤ 10 := by decide
        have sa : (⟨#[32]⟩ : ByteArray).size ≤ 10 := by decide
        have sb : (⟨#[9]⟩ : ByteArray).size ≤ 10 := by decide
        obtain ⟨P3, e5⟩ : ∃ P3, (⟨#[91]⟩ : ByteArray) ++ (⟨#[33, 83, 85, 67, 67, 69, 83, 83, 61, 114, 101, 116, 117, 114, 110]⟩ : ByteArray) = P3 := ⟨_, rfl⟩
        obtain ⟨P4, e6⟩ : ∃ P4, P3 ++ (⟨#[93]⟩ : ByteArray) = P4 := ⟨_, rfl⟩
        obtain ⟨S2, e7⟩ : ∃ S2, S1 ++ P4 = S2 := ⟨_, rfl⟩
        obtain ⟨P5, e8⟩ : ∃ P5, (⟨#[32, 32, 91, 32, 32]⟩ : ByteArray) ++ (⟨#[33, 83, 85, 67, 67, 69, 83, 83, 61, 114, 101, 116, 117, 114, 110]⟩ : ByteArray) = P5 := ⟨_, rfl⟩
        obtain ⟨P6, e9⟩ : ∃ P6, P5 ++ (⟨#[32, 93]⟩ : ByteArray) = P6 := ⟨_, rfl⟩
        obtain ⟨T2, e10⟩ : ∃ T2, T1 ++ P6 = T2 := ⟨_, rfl⟩
        have s5 : P3.size ≤ 40 := by rw [← e5]; decide
        have s6 : P4.size ≤ 41 := by rw [← e6, ByteArray.size_append]; have : (⟨#[93]⟩ : ByteArray).size = 1 := rfl; omega
        have s8 : P5.size ≤ 40 := by rw [← e8]; decide
        have s9 : P6.size ≤ 42 := by rw [← e9, ByteArray.size_append]; have : (⟨#[32, 93]⟩ : ByteArray).size = 2 := rfl; omega
        have sc : (⟨#[91]⟩ : ByteArray).size ≤ 10 := by decide
        have sd : (⟨#[93]⟩ : ByteArray).size ≤ 10 := by decide
        have se : (⟨#[32, 32, 91, 32, 32]⟩ : ByteArray).size ≤ 10 := by decide
        have sf : (⟨#[32, 93]⟩ : ByteArray).size ≤ 10 := by decide
        have sg : (⟨#[33, 83, 85, 67, 67, 69, 83, 83, 61, 114, 101, 116, 117, 114, 110]⟩ : ByteArray).size ≤ 20 := by decide
        have HS2 : Hid (S2 = tb (spT (ps.take (k + 1)))) := Lib.hid (bytes_inj (by
          rw [HTK.out, spT_snoc, ← e7, Joins.data_append, ← e2, Joins.data_append, ← e1, Joins.data_append, ← e6, Joins.data_append, ← e5, Joins.data_append, HSe.out, tb_data, tb_data]
          simp only [List.append_assoc]
          rfl))
        have HT2 : Hid (T2 = tb (spU (ps.take (k + 1)))) := Lib.hid (bytes_inj (by
          rw [HTK.out, spU_snoc, ← e10, Joins.data_append, ← e4, Joins.data_append, ← e3, Joins.data_append, ← e9, Joins.data_append, ← e8, Joins.data_append, HTe.out, tb_data, tb_data]
          simp only [List.append_assoc]
          rfl))
        have HB3 : Hid (Below w1.heap.size w1 ((wr.alloc (.cells #[.string ⟨#[102, 105, 108, 101, 115]⟩, .string ⟨#[100, 110, 115]⟩, .string ⟨#[108, 108, 109, 110, 114]⟩] 9)).alloc (.cells #[.string ⟨#[]⟩, .string ⟨#[78, 79, 84, 70, 79, 85, 78, 68, 61, 114, 101, 116, 117, 114, 110]⟩, .string ⟨#[33, 83, 85, 67, 67, 69, 83, 83, 61, 114, 101, 116, 117, 114, 110]⟩, .string ⟨#[83, 85, 67, 67, 69, 83, 83, 61, 99, 111, 110, 116, 105, 110, 117, 101]⟩] 9))) := Lib.hid ((HB.out.alloc HB.out.size _).alloc (by rw [World.size_alloc]; have := HB.out.size; omega) _)
        go_wp2
        go_roundg g2
        case measure => omega
        case rel => exact ⟨k + 1, by go_num, by omega, by rw [HS2.out], by rw [HT2.out], HB3⟩
      · have hi0 : (bits BinOp.and IntKind.i64 x 255).tmod 3 = 2 := hi
        have hj0 : bits BinOp.and IntKind.i64 (x / 256) 3 = 3 := hj
        clear hi hj
        obtain ⟨P1, e1⟩ : ∃ P1, (⟨#[32]⟩ : ByteArray) ++ (⟨#[108, 108, 109, 110, 114]⟩ : ByteArray) = P1 := ⟨_, rfl⟩
        obtain ⟨S1, e2⟩ : ∃ S1, S ++ P1 = S1 := ⟨_, rfl⟩
        obtain ⟨P2, e3⟩ : ∃ P2, (⟨#[9]⟩ : ByteArray) ++ (⟨#[108, 108, 109, 110, 114]⟩ : ByteArray) = P2 := ⟨_, rfl⟩
        obtain ⟨T1, e4⟩ : ∃ T1, T ++ P2 = T1 := ⟨_, rfl⟩
        have s1 : P1.size ≤ 10 := by rw [← e1]; decide
        have s2 : S1.size ≤ 410 := by rw [← e2, ByteArray.size_append]; omega
        have s3 : P2.size ≤ 10 := by rw [← e3]; decide
        have s4 : T1.size ≤ 410 := by rw [← e4, ByteArray.size_append]; omega
        have sk : (⟨#[108, 108, 109, 110, 114]⟩ : ByteArray).size ≤ 10 := by decide
        have sa : (⟨#[32]⟩ : ByteArray).size ≤ 10 := by decide
        have sb : (⟨#[9]⟩ : ByteArray).size ≤ 10 := by decide
        obtain ⟨P3, e5⟩ : ∃ P3, (⟨#[91]⟩ : ByteArray) ++ (⟨#[83, 85, 67, 67, 69, 83, 83, 61, 99, 111, 110, 116, 105, 110, 117, 101]⟩ : ByteArray) = P3 := ⟨_, rfl⟩
        obtain ⟨P4, e6⟩ : ∃ P4, P3 ++ (⟨#[93]⟩ : ByteArray) = P4 := ⟨_, rfl⟩
        obtain ⟨S2, e7⟩ : ∃ S2, S1 ++ P4 = S2 := ⟨_, rfl⟩
        obtain ⟨P5, e8⟩ : ∃ P5, (⟨#[32, 32, 91, 32, 32]⟩ : ByteArray) ++ (⟨#[83, 85, 67, 67, 69, 83, 83, 61, 99, 111, 110, 116, 105, 110, 117, 101]⟩ : ByteArray) = P5 := ⟨_, rfl⟩
        obtain ⟨P6, e9⟩ : ∃ P6, P5 ++ (⟨#[32, 93]⟩ : ByteArray) = P6 := ⟨_, rfl⟩
        obtain ⟨T2, e10⟩ : ∃ T2, T1 ++ P6 = T2 := ⟨_, rfl⟩
        have s5 : P3.size ≤ 40 := by rw [← e5]; decide
        have s6 : P4.size ≤ 41 := by rw [← e6, ByteArray.size_append]; have : (⟨#[93]⟩ : ByteArray).size = 1 := rfl; omega
        have s8 : P5.size ≤ 40 := by rw [← e8]; decide
        have s9 : P6.size ≤ 42 := by rw [← e9, ByteArray.size_append]; have : (⟨#[32, 93]⟩ : ByteArray).size = 2 := rfl; omega
        have sc : (⟨#[91]⟩ : ByteArray).size ≤ 10 := by decide
        have sd : (⟨#[93]⟩ : ByteArray).size ≤ 10 := by decide
        have se : (⟨#[32, 32, 91, 32, 32]⟩ : ByteArray).size ≤ 10 := by decide
        have sf : (⟨#[32, 93]⟩ : ByteArray).size ≤ 10 := by decide
        have sg : (⟨#[83, 85, 67, 67, 69, 83, 83, 61, 99, 111, 110, 116, 105, 110, 117, 101]⟩ : ByteArray).size ≤ 20 := by decide
        have HS2 : Hid (S2 = tb (spT (ps.take (k + 1)))) := Lib.hid (bytes_inj (by
          rw [HTK.out, spT_snoc, ← e7, Joins.data_append, ← e2, Joins.data_append, ← e1, Joins.data_append, ← e6, Joins.data_append, ← e5, Joins.data_append, HSe.out, tb_data, tb_data]
          simp only [List.append_assoc]
          rfl))
        have HT2 : Hid (T2 = tb (spU (ps.take (k + 1)))) := Lib.hid (bytes_inj (by
          rw [HTK.out, spU_snoc, ← e10, Joins.data_append, ← e4, Joins.data_append, ← e3, Joins.data_append, ← e9, Joins.data_append, ← e8, Joins.data_append, HTe.out, tb_data, tb_data]
          simp only [List.append_assoc]
          rfl))
        have HB3 : Hid (Below w1.heap.size w1 ((wr.alloc (.cells #[.string ⟨#[102, 105, 108, 101, 115]⟩, .string ⟨#[100, 110, 115]⟩, .string ⟨#[108, 108, 109, 110, 114]⟩] 9)).alloc (.cells #[.string ⟨#[]⟩, .string ⟨#[78, 79, 84, 70, 79, 85, 78, 68, 61, 114, 101, 116, 117, 114, 110]⟩, .string ⟨#[33, 83, 85, 67, 67, 69, 83, 83, 61, 114, 101, 116, 117, 114, 110]⟩, .string ⟨#[83, 85, 67, 67, 69, 83, 83, 61, 99, 111, 110, 116, 105, 110, 117, 101]⟩] 9))) := Lib.hid ((HB.out.alloc HB.out.size _).alloc (by rw [World.size_alloc]; have := HB.out.size; omega) _)
        go_wp2
        go_roundg g2
        case measure => omega
        case rel => exact ⟨k + 1, by go_num, by omega, by rw [HS2.out], by rw [HT2.out], HB3⟩
    · obtain rfl : k = n := by omega
      have hkI : ¬ (k : Int) < (k : Int) := by omega
      have htk : ps.take k = ps := List.take_of_length_le (by rw [HPLn.out]; exact Nat.le_refl _)
      rw [htk]
      have hln := spT_len HPI.out
      obtain ⟨S, hS⟩ : ∃ S, S = tb (spT ps) := ⟨_, rfl⟩
      obtain ⟨T, hT⟩ : ∃ T, T = tb (spU ps) := ⟨_, rfl⟩
      have hzT : T.size ≤ 400 := by rw [hT, size_eq, tb_data]; have := HPLn.out; omega
      obtain ⟨U, hU⟩ : ∃ U, T ++ (⟨#[32, 35, 32, 100, 110, 115, 32, 91]⟩ : ByteArray) = U := ⟨_, rfl⟩
      have hs8 : (⟨#[32, 35, 32, 100, 110, 115, 32, 91]⟩ : ByteArray).size ≤ 8 := by decide
      have hUe : U = tb (spU ps ++ 32 :: 35 :: 32 :: (nameK 2 ++ [32, 91])) := bytes_inj (by rw [← hU, Joins.data_append, hT, tb_data, tb_data]; rfl)
      rw [← hUe] at HP2 HQ2
      rw [← hS] at HP1 HQ1 ⊢
      rw [← hT]
      have HB2 := Lib.hid (HB1.out.trans (HB.out.mono HB1.out.size))
      clear hS hT hUe hln htk hkg
      go_wp2_with fail
      refine (HP1.out _ (HE.out.below HB2.out)).mono ?_
      rintro e w3 ⟨hb3, v3, rfl, hsl3⟩
      rw [HQ1.out] at hsl3 ⊢
      obtain ⟨A3, c3, rfl, _⟩ := id hsl3
      have HB3 := Lib.hid (HB2.out.trans (hb3.mono HB2.out.size))
      obtain ⟨r, hr⟩ : ∃ r, r = R.length := ⟨_, rfl⟩
      have e3 : (((0 : Nat), R).snd).length = r := hr.symm
      have e0 : (((0 : Nat), R).fst) = 0 := rfl
      rw [e3] at hsl3 ⊢
      rw [e0]
      have HS3 := Lib.hid hsl3
      have HRr := Lib.hid hr
      clear hb3 hsl3 hr e3 e0
      go_wp2_with fail
      refine (HP2.out _ (HE.out.below HB3.out)).mono ?_
      rintro e w4 ⟨hb4, v4, rfl, hsl4⟩
      rw [HQ2.out] at hsl4 ⊢
      obtain ⟨A4, c4, rfl, _⟩ := id hsl4
      have HB4 := Lib.hid (HB3.out.trans (hb4.mono HB3.out.size))
      rw [show (((0 : Nat), R).snd).length = r from HRr.out.symm] at hsl4 ⊢
      rw [show (((0 : Nat), R).fst) = 0 from rfl]
      have hcs : Calls Tryd.prog 12 #[.slice A3 r c3, .slice A4 r c4] w4 fun e w' => e = .returned (.bool true) ∧ Below w4.heap.size w4 w' := by
        have := same8_e r c3 r c4 A3 A4 R R w4 (HS3.out.below hb4) hsl4 HRr.out.symm HRr.out.symm (by have := HRl.out; have := HRr.out; omega) (by have := HRl.out; have := HRr.out; omega)
        rwa [show decide (R = R) = true from decide_eq_true rfl] at this
      clear hb4 hsl4
      go_wp2_with (first
        | (go_at_call 12; refine hcs.mono ?_; rintro e w8 ⟨rfl, hb8⟩; have HB8 := Lib.hid (HB4.out.trans (hb8.mono HB4.out.size)); clear hb8))
      go_ret
      exact ⟨rfl, HB8.out⟩
end Go.Proofs.YtpgkopnnfhlhbaaDoor
