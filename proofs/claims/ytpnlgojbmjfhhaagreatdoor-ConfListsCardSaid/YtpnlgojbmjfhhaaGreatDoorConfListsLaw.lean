/-
  The walk of ConfLists: servers are added up, search domains are those of the last line; above their limits there is a fault. Condition: the library's variables hold what their initialisers lay.
-/
import Derived.Test.YtpnlgojbmjfhhaaGreatDoorConfOptionsLaw
import Derived.Deep.RegionHeld3
namespace Go.Proofs.YtpnlgojbmjfhhaaGreatDoor
open Go.RowKit

theorem and_7 (n : Int) : ∃ m : Nat, m ≤ 7 ∧ bits BinOp.and IntKind.i64 n 7 = (m : Int) := by
  have hle : (BitVec.ofInt 64 n &&& BitVec.ofInt 64 7).toNat ≤ 7 := by
    rw [BitVec.toNat_and]
    exact Nat.le_trans Nat.and_le_right (by decide +kernel)
  refine ⟨(BitVec.ofInt 64 n &&& BitVec.ofInt 64 7).toNat, hle, ?_⟩
  show IntKind.i64.wrap ((BitVec.ofInt 64 n &&& BitVec.ofInt 64 7).toNat : Int) = _
  exact IntWalk.i64_in _ (by omega)
def lsA (i : Nat) : List UInt8 := four12 ++ [10, 0, 0, UInt8.ofNat i]
def lsD (i : Nat) : List UInt8 := [100, UInt8.ofNat (48 + i)]
theorem lsA_txt : ∀ i : Fin 8, txt (lsA i.val) = [49, 48, 46, 48, 46, 48, 46, UInt8.ofNat (48 + i.val)] := by decide +kernel
theorem lsD_ta (i : Nat) (h : i < 8) : TA (lsD i) 0 (lsD i) := by
  have h1 : ∀ i : Fin 8, (lsD i.val).all (fun c => decide ((97 ≤ c.toNat ∧ c.toNat ≤ 122) ∨ (48 ≤ c.toNat ∧ c.toNat ≤ 57))) = true ∧ ¬ XN <+: lsD i.val := by decide +kernel
  exact ta_small (h1 ⟨i, h⟩).1 (by decide +revert) (by decide +revert) (h1 ⟨i, h⟩).2
theorem ls_dec (i : Nat) (h : i < 8) : Go.Lib.decDigits i = [UInt8.ofNat (48 + i)] := by rw [Go.Lib.decDigits, dif_pos (by omega)]
def lsS (m : Nat) : List UInt8 := [115, 101, 97, 114, 99, 104, 32, 120, 32, 121, 10, 115, 101, 97, 114, 99, 104] ++ (List.range m).flatMap fun i => 32 :: lsD i
def lsT (n : Nat) : List UInt8 := (List.range n).flatMap fun i => [110, 97, 109, 101, 115, 101, 114, 118, 101, 114, 32, 49, 48, 46, 48, 46, 48, 46] ++ [UInt8.ofNat (48 + i)] ++ [10]
theorem lsS_snoc (m : Nat) : lsS (m + 1) = lsS m ++ ([32, 100] ++ [UInt8.ofNat (48 + m)]) := by
  unfold lsS
  rw [List.range_succ, List.flatMap_append]
  simp [lsD]
theorem lsT_snoc (n : Nat) : lsT (n + 1) = lsT n ++ ([110, 97, 109, 101, 115, 101, 114, 118, 101, 114, 32, 49, 48, 46, 48, 46, 48, 46] ++ [UInt8.ofNat (48 + n)] ++ [10]) := by
  unfold lsT
  rw [List.range_succ, List.flatMap_append]
  simp
theorem lsS_len (m : Nat) : (lsS m).length = 17 + 3 * m := by
  induction m with
  | zero => rfl
  | succ m ih => rw [lsS_snoc, List.length_append, ih]; simp; omega
theorem lsT_len (n : Nat) : (lsT n).length = 20 * n := by
  induction n with
  | zero => rfl
  | succ n ih => rw [lsT_snoc, List.length_append, ih]; simp; omega
theorem nl_lines2 : ∀ {l : List (List UInt8 × List (List UInt8))} (r : List UInt8), (∀ p ∈ l, WordOk p.1 ∧ ∀ t ∈ p.2, WordOk t) → (nl ((l.flatMap fun p => lineW p.1 p.2 ++ [10]) ++ r)).map wordsL = l.map (fun p => p.1 :: p.2) ++ (nl r).map wordsL
  | [], r, _ => rfl
  | p :: l, r, h => by
    obtain ⟨h1, h2⟩ := h p List.mem_cons_self
    obtain ⟨h3, h4⟩ := words_of h1 h2
    rw [List.flatMap_cons, List.append_assoc, List.append_assoc, List.singleton_append, nl_append, nl_plain h4, List.map_append, nl_lines2 r fun q hq => h q (List.mem_cons_of_mem _ hq), List.map_cons, h3]
    rfl
def lsX : List UInt8 := [120]
def lsY : List UInt8 := [121]
theorem lsX_ta : TA lsX 0 lsX := ta_small (by decide +kernel) (by decide) (by decide) (by decide +kernel)
theorem lsY_ta : TA lsY 0 lsY := ta_small (by decide +kernel) (by decide) (by decide) (by decide +kernel)
def lsDs (m : Nat) : List (List UInt8) := (List.range m).map lsD
theorem lsDs_ta {m : Nat} (h : m ≤ 7) : ∀ t ∈ lsDs m, TA t 0 t := fun t ht => by
  obtain ⟨i, hi, rfl⟩ := List.mem_map.1 ht
  exact lsD_ta i (by have := List.mem_range.1 hi; omega)
theorem ls_words {n m : Nat} (hn : n ≤ 7) (hm : m ≤ 7) : (nl (lsT n ++ lsS m)).map wordsL = (List.range n).map (fun i => [wNs, txt (lsA i)]) ++ [[wSe, lsX, lsY], wSe :: lsDs m] := by
  have e : lsT n ++ lsS m = (((List.range n).map (fun i => ((wNs, [txt (lsA i)]) : List UInt8 × List (List UInt8))) ++ [(wSe, [lsX, lsY])]).flatMap fun p => lineW p.1 p.2 ++ [10]) ++ lineW wSe (lsDs m) := by
    rw [List.flatMap_append, List.flatMap_map, List.append_assoc]
    congr 1
    · unfold lsT
      refine congrArg List.flatten (List.map_congr_left fun i hi => ?_)
      have hi := List.mem_range.1 hi
      rw [show txt (lsA i) = _ from lsA_txt ⟨i, by omega⟩]
      simp [lineW, nmT, wNs]
    · unfold lsS lsDs
      simp [lineW, nmT, wSe, lsX, lsY, List.flatMap_map]
  have hd : ∀ t ∈ lsDs m, WordOk t := fun t ht => out_signs (lsDs_ta hm t ht)
  have hw := words_of wSe_ok hd
  rw [e, nl_lines2 _ (fun p hp => ?_), nl_plain hw.2, List.map_singleton, hw.1, List.map_append, List.map_map]
  · simp
  · rcases List.mem_append.1 hp with hp | hp
    · obtain ⟨i, hi, rfl⟩ := List.mem_map.1 hp
      refine ⟨wNs_ok, fun t ht => ?_⟩
      rw [List.mem_singleton.1 ht]
      exact ⟨txt_ne rfl, fun x hx => hexB_inW x (txt_signs rfl x hx)⟩
    · rw [List.mem_singleton.1 hp]
      refine ⟨wSe_ok, fun t ht => ?_⟩
      simp only [List.mem_cons, List.not_mem_nil, or_false] at ht
      rcases ht with rfl | rfl
      · exact out_signs lsX_ta
      · exact out_signs lsY_ta
def lsAs (n : Nat) : List (List UInt8) := (List.range n).map lsA
theorem ls_servers (n : Nat) : (List.range n).map (fun i => [wNs, txt (lsA i)]) = (lsAs n).map fun a => [wNs, txt a] := by unfold lsAs; rw [List.map_map]; rfl
theorem lsAs_len (n : Nat) : ∀ a ∈ lsAs n, a.length = 16 := fun a ha => by
  obtain ⟨i, _, rfl⟩ := List.mem_map.1 ha
  rfl
def lsConf (n m : Nat) : ConfM := ⟨lsAs n, lsDs m, 1, 5, 2⟩
theorem ls_tail_ok {k : Nat} {c : ConfM} {m : Nat} (hm : m ≤ 6) : PcR k c [[wSe, lsX, lsY], wSe :: lsDs m] 0 0 { c with search := lsDs m } :=
  .line (pc_search (NmE.same (ts := [lsX, lsY]) (fun t ht => by
    simp only [List.mem_cons, List.not_mem_nil, or_false] at ht
    rcases ht with rfl | rfl
    · exact lsX_ta
    · exact lsY_ta)) (by decide)) (.line (pc_search (NmE.same (lsDs_ta (by omega))) (by unfold lsDs; rw [List.length_map, List.length_range]; exact hm)) .done)
theorem ls_ok {n m : Nat} (hn : n ≤ 3) (hm : m ≤ 6) : PcR 1 ConfM.dflt ((nl (lsT n ++ lsS m)).map wordsL) 0 0 (lsConf n m) := by
  rw [ls_words (by omega) (by omega), ls_servers]
  have h := PcR.append (pc_servers (lsAs n) (n := 1) (c := ConfM.dflt) (lsAs_len n) (by unfold lsAs; rw [List.length_map, List.length_range]; show 0 + n ≤ 3; omega)) (ls_tail_ok (m := m) hm) (by decide)
  exact h
theorem ls_long {n m : Nat} (hn : n ≤ 7) (hm : m ≤ 7) (h : 3 < n ∨ 6 < m) : ∃ f, PcR 1 ConfM.dflt ((nl (lsT n ++ lsS m)).map wordsL) f 2 ConfM.zero := by
  rw [ls_words hn hm, ls_servers]
  by_cases h3 : 3 < n
  · have e : lsAs n = lsAs 3 ++ (lsAs n).drop 3 := by
      have : lsAs 3 = (lsAs n).take 3 := by unfold lsAs; rw [← List.map_take, List.take_range, Nat.min_eq_left (by omega)]
      rw [this, List.take_append_drop]
    obtain ⟨a, t, hat⟩ : ∃ a t, (lsAs n).drop 3 = a :: t := List.exists_cons_of_ne_nil (fun e2 => by
      have := congrArg List.length e2
      unfold lsAs at this
      rw [List.length_drop, List.length_map, List.length_range] at this
      simp at this
      omega)
    have ha : a.length = 16 := lsAs_len n a (List.mem_of_mem_drop (by rw [hat]; exact List.mem_cons_self))
    rw [e, hat, List.map_append, List.map_cons, List.append_assoc, List.cons_append]
    exact ⟨_, PcR.append (pc_servers (lsAs 3) (n := 1) (c := ConfM.dflt) (lsAs_len 3) (by decide)) (.fault (ln_srv_long (parseA_txt ha) rfl) (by decide)) (by decide)⟩
  · have h6 : 6 < m := by omega
    refine ⟨_, PcR.append (pc_servers (lsAs n) (n := 1) (c := ConfM.dflt) (lsAs_len n) (by unfold lsAs; rw [List.length_map, List.length_range]; show 0 + n ≤ 3; omega)) (.line (pc_search (NmE.same (ts := [lsX, lsY]) (fun t ht => by
      simp only [List.mem_cons, List.not_mem_nil, or_false] at ht
      rcases ht with rfl | rfl
      · exact lsX_ta
      · exact lsY_ta)) (by decide)) (.fault (ln_sea_long (NmE.same (lsDs_ta (by omega))) (by unfold lsDs; rw [List.length_map, List.length_range]; exact h6)) (by decide))) (by decide)⟩
/-- a text that ends in a digit -/
theorem digB_e (i : Nat) (h : i < 8) (w : World) : Calls Tryz.prog 18 #[.int .i64 i] w fun e w' => e = .returned (.string ⟨#[UInt8.ofNat (48 + i)]⟩) ∧ Below w.heap.size w w' := by
  have := digits_e i w (by omega)
  rw [ls_dec i h] at this
  exact this
set_option maxRecDepth 100000 in
set_option maxHeartbeats 64000000 in
theorem confLists_walk (n0 m0 : Int) (w : World) (he : AEnv w) (ht : ETy w) : Calls Tryz.prog 6 #[.int .i64 n0, .int .i64 m0] w fun e w' => e = .returned (.bool true) ∧ Below w.heap.size w w' := by
  have hfit := fit7_e w he ht
  obtain ⟨n, hn, hnB⟩ := and_7 n0
  obtain ⟨m, hm, hmB⟩ := and_7 m0
  have HE := Lib.hid he
  have HT := Lib.hid ht
  have HZ := Lib.hid zeroConf
  have HZS : Hid (∀ W val c, CV W val c → ∃ r : Array Value, val = .agg r ∧ zConf.size = r.size ∧ (Tryz.prog.info? 26).map (·.size) = some r.size ∧ r.all (·.oneCell') = true) := Lib.hid (fun W val c h => by
    obtain ⟨r, h1, h2, h3, h4, _⟩ := CV.arr h
    exact ⟨r, h1, h2, h3, h4⟩)
  generalize zConf = Z at HZ HZS
  clear he ht
  go_enter Tryz.func6, Tryz.ntmps6
  go_wp2_with (go_at_call 9; refine hfit.mono ?_; rintro e w1 ⟨rfl, hb1⟩; have HB1 := Lib.hid hb1; clear hb1)
  go_loopg [18, 5, 7] m (fun gk vi vs _ wr => ∃ (k : Nat) (ss : ByteArray), vi = .int .i64 k ∧ vs = .string ss ∧ k + gk = m ∧ Hid (ss.data.toList = lsS k) ∧ Hid (Below w1.heap.size w1 wr))
  case atStart => exact ⟨0, _, rfl, rfl, by omega, Lib.hid rfl, Lib.hid (Below.refl _ _)⟩
  case round =>
    obtain ⟨k, ss, rfl, rfl, hk, HS, HBW⟩ := hrel
    have hss : ss.size ≤ 100 := by rw [Lib.size_eq, HS.out, lsS_len]; omega
    by_cases hkm : k < m
    · obtain ⟨g, rfl⟩ : ∃ g', gk = g' + 1 := ⟨gk - 1, by omega⟩
      have hkI : (k : Int) < (m : Int) := by omega
      have HDg := Lib.hid (digB_e k (by omega))
      have HSn := Lib.hid (lsS_snoc k)
      have hz0 : (ByteArray.mk #[UInt8.ofNat (48 + k)]).size = 1 := rfl
      have HDD : Hid ((ByteArray.mk #[UInt8.ofNat (48 + k)]).data.toList = [UInt8.ofNat (48 + k)]) := Lib.hid rfl
      generalize ByteArray.mk #[UInt8.ofNat (48 + k)] = D at HDg hz0 HDD
      have hz1 : (ByteArray.mk #[32, 100]).size = 2 := rfl
      have hA1 := fun W => run_string_add_sum (P := Tryz.prog) (w := W) ⟨#[32, 100]⟩ D (by omega)
      obtain ⟨X1, hX1⟩ : ∃ X, X = ⟨#[32, 100]⟩ ++ D := ⟨_, rfl⟩
      rw [← hX1] at hA1
      have hx1 : X1.size = 3 := by rw [hX1, ByteArray.size_append]; omega
      have hA2 := fun W => run_string_add_sum (P := Tryz.prog) (w := W) ss X1 (by omega)
      have HN : Hid ((ss ++ X1).data.toList = lsS (k + 1)) := Lib.hid (by rw [HSn.out, Joins.data_append, HS.out, hX1, Joins.data_append, HDD.out])
      generalize ss ++ X1 = X2 at hA2 HN
      clear hX1 hz0 hz1
      go_wp2_with fail
      refine (HDg.out _).mono ?_
      rintro e w3 ⟨rfl, hb3⟩
      have HBn := Lib.hid (HBW.out.trans (hb3.mono HBW.out.size))
      clear hb3
      go_wp2_with fail
      go_roundg g
      case measure => omega
      case rel => exact ⟨k + 1, _, by go_num, rfl, by omega, HN, HBn⟩
    · have hkm' : k = m := by omega
      subst hkm'
      have hkI : ¬ (k : Int) < (k : Int) := by omega
      have HS0 := HS
      have HBW0 := HBW
      clear hkm hss
      go_wp2_with fail
      rename_i wr1 _ _ _ _ _ _
      go_loopg [28, 6, 8] n (fun gk vi vt _ wr => ∃ (j : Nat) (tt : ByteArray), vi = .int .i64 j ∧ vt = .string tt ∧ j + gk = n ∧ Hid (tt.data.toList = lsT j) ∧ Hid (Below w1.heap.size w1 wr))
      case atStart => exact ⟨0, _, rfl, rfl, by omega, Lib.hid rfl, HBW0⟩
      case round =>
        obtain ⟨j, tt, rfl, rfl, hj, HTt, HBJ⟩ := hrel
        have htt : tt.size ≤ 200 := by rw [Lib.size_eq, HTt.out, lsT_len]; omega
        have hss : ss.size ≤ 100 := by rw [Lib.size_eq, HS0.out, lsS_len]; omega
        by_cases hjn : j < n
        · obtain ⟨g, rfl⟩ : ∃ g', gk = g' + 1 := ⟨gk - 1, by omega⟩
          have hjI : (j : Int) < (n : Int) := by omega
          have HDg := Lib.hid (digB_e j (by omega))
          have HSn := Lib.hid (lsT_snoc j)
          have hz0 : (ByteArray.mk #[UInt8.ofNat (48 + j)]).size = 1 := rfl
          have HDD : Hid ((ByteArray.mk #[UInt8.ofNat (48 + j)]).data.toList = [UInt8.ofNat (48 + j)]) := Lib.hid rfl
          generalize ByteArray.mk #[UInt8.ofNat (48 + j)] = D at HDg hz0 HDD
          have hz1 : (ByteArray.mk #[110, 97, 109, 101, 115, 101, 114, 118, 101, 114, 32, 49, 48, 46, 48, 46, 48, 46]).size = 18 := rfl
          have hz2 : (ByteArray.mk #[10]).size = 1 := rfl
          have hA1 := fun W => run_string_add_sum (P := Tryz.prog) (w := W) ⟨#[110, 97, 109, 101, 115, 101, 114, 118, 101, 114, 32, 49, 48, 46, 48, 46, 48, 46]⟩ D (by omega)
          obtain ⟨X1, hX1⟩ : ∃ X, X = ⟨#[110, 97, 109, 101, 115, 101, 114, 118, 101, 114, 32, 49, 48, 46, 48, 46, 48, 46]⟩ ++ D := ⟨_, rfl⟩
          rw [← hX1] at hA1
          have hx1 : X1.size = 19 := by rw [hX1, ByteArray.size_append]; omega
          have hA2 := fun W => run_string_add_sum (P := Tryz.prog) (w := W) X1 ⟨#[10]⟩ (by omega)
          obtain ⟨X2, hX2⟩ : ∃ X, X = X1 ++ ⟨#[10]⟩ := ⟨_, rfl⟩
          rw [← hX2] at hA2
          have hx2 : X2.size = 20 := by rw [hX2, ByteArray.size_append]; omega
          have hA3 := fun W => run_string_add_sum (P := Tryz.prog) (w := W) tt X2 (by omega)
          have HN : Hid ((tt ++ X2).data.toList = lsT (j + 1)) := Lib.hid (by rw [HSn.out, Joins.data_append, HTt.out, hX2, hX1, Joins.data_append, Joins.data_append, HDD.out])
          generalize tt ++ X2 = X3 at hA3 HN
          clear hX1 hX2 hz0 hz1 hz2
          go_wp2_with fail
          refine (HDg.out _).mono ?_
          rintro e w3 ⟨rfl, hb3⟩
          have HBn := Lib.hid (HBJ.out.trans (hb3.mono HBJ.out.size))
          clear hb3
          go_wp2_with fail
          go_roundg g
          case measure => omega
          case rel => exact ⟨j + 1, _, by go_num, rfl, by omega, HN, HBn⟩
        · have hjn' : j = n := by omega
          subst hjn'
          have hjI : ¬ (j : Int) < (j : Int) := by omega
          have hA := fun W => run_string_add_sum (P := Tryz.prog) (w := W) tt ss (by omega)
          have HX : Hid ((tt ++ ss).data.toList = lsT j ++ lsS k) := Lib.hid (by rw [Joins.data_append, HTt.out, HS0.out])
          have hXs : (tt ++ ss).size ≤ 300 := by rw [ByteArray.size_append]; omega
          generalize tt ++ ss = XT at hA HX hXs
          have HB2 := Lib.hid (HB1.out.trans (HBJ.out.mono HB1.out.size))
          clear hjn hss htt
          by_cases hlong : 3 < j ∨ 6 < k
          · obtain ⟨f, hpc⟩ := ls_long hn hm hlong
            rw [← HX.out] at hpc
            have HPar := Lib.hid (fun W (hW : AEnv W) => cparse_at XT f 2 _ hpc W hW (by omega))
            clear hpc
            go_wp2_with fail
            refine (HPar.out _ (HE.out.below HB2.out)).mono ?_
            rintro e w6 ⟨hb6, val6, hcv6, ⟨h0, _⟩ | ⟨_, p, rfl, hf⟩⟩
            · exact absurd h0 (by decide)
            obtain ⟨r6, rfl, hzr6, hsr6, h1r6⟩ := HZS.out _ _ _ hcv6
            have HSR6 := Lib.hid hsr6
            have HZR6 := Lib.hid hzr6
            have H1R6 := Lib.hid h1r6
            have hba : Below w6.heap.size w6 (w6.alloc (.cells r6 26)) := (Below.refl _ w6).alloc (Nat.le_refl _) _
            have HI := Lib.hid (is_yes1 p 2 2 _ (hf.below hba).2.2 rfl)
            have HB7 := Lib.hid (HB2.out.trans ((hb6.trans (hba.mono hb6.size)).mono HB2.out.size))
            clear hb6 hcv6 hzr6 hsr6 h1r6 hf hba
            have hl2 : (3 : Int) < (j : Int) ∨ (¬ (3 : Int) < (j : Int) ∧ (6 : Int) < (k : Int)) := by omega
            rcases hl2 with h3 | ⟨h3, h6⟩
            all_goals
              go_wp2_with (first
                | (refine wpList_alloc_z rfl 26 rfl Z HZ.out ?_; go_simp)
                | (refine wpList_store_new rfl 26 (.tmp 9) (.tmp 43) rfl w6.heap.size rfl Z r6 26 rfl rfl HSR6.out HZR6.out H1R6.out ?_; go_simp)
                | (go_at_call 15; refine HI.out.mono ?_; rintro e w8 ⟨rfl, hw8⟩; obtain rfl := hw8))
              go_ret
              exact ⟨rfl, HB7.out⟩
          · have hj3 : j ≤ 3 := by omega
            have hk6 : k ≤ 6 := by omega
            have hpc := ls_ok hj3 hk6
            rw [← HX.out] at hpc
            have HPar := Lib.hid (fun W (hW : AEnv W) => cparse_at XT 0 0 _ hpc W hW (by omega))
            have g3 : ¬ (3 : Int) < (j : Int) := by omega
            have g6 : ¬ (6 : Int) < (k : Int) := by omega
            clear hpc hlong
            go_wp2_with fail
            refine (HPar.out _ (HE.out.below HB2.out)).mono ?_
            rintro e w6 ⟨hb6, val6, hcv6, ⟨_, rfl⟩ | ⟨h0, _⟩⟩
            case inr => exact absurd rfl h0
            obtain ⟨A, A', ca, rfl, hsa, hea, h16⟩ := hcv6.form
            have hzr6 : Z.size = (cfV (.slice A (lsConf j k).servers.length ca) (.slice A' (lsConf j k).search.length (lsConf j k).search.length) (lsConf j k)).size := by
              obtain ⟨r, e, h, _⟩ := HZS.out _ _ _ hcv6
              injection e with e
              rw [e]; exact h
            have e1 : (lsConf j k).servers.length = j := by show (lsAs j).length = j; unfold lsAs; rw [List.length_map, List.length_range]
            have e2 : (lsConf j k).search.length = k := by show (lsDs k).length = k; unfold lsDs; rw [List.length_map, List.length_range]
            rw [e1, e2] at hzr6 ⊢; rw [e1] at hsa; rw [e2] at hea
            obtain ⟨r6, hr6⟩ : ∃ r, r = cfV (.slice A j ca) (.slice A' k k) (lsConf j k) := ⟨_, rfl⟩
            rw [← hr6] at hzr6 ⊢
            have HSR6 : Hid ((Tryz.prog.info? 26).map (·.size) = some r6.size) := Lib.hid (by rw [hr6]; exact sizeConf)
            have HZR6 := Lib.hid hzr6
            have H1R6 : Hid (r6.all (·.oneCell') = true) := Lib.hid (by rw [hr6]; exact cfV_one _ _ _ _ _ _ _)
            have hba : Below w6.heap.size w6 (w6.alloc (.cells r6 26)) := (Below.refl _ w6).alloc (Nat.le_refl _) _
            have hk7 : (w6.alloc (.cells r6 26)).heap[w6.heap.size]? = some (.cells r6 26 (0, 0)) := heap_alloc_last w6 _
            have hs7 := hsa.below hba
            have he7 := hea.below hba
            have HB7 := Lib.hid (HB2.out.trans ((hb6.trans (hba.mono hb6.size)).mono HB2.out.size))
            have hgl : w6.heap.size < (w6.alloc (.cells r6 26)).heap.size := by rw [World.size_alloc]; omega
            have HR6 := Lib.hid hr6
            clear hb6 hcv6 hzr6 hba hsa hea hr6
            go_wp2_with (first
              | (refine wpList_alloc_z rfl 26 rfl Z HZ.out ?_; go_simp)
              | (refine wpList_store_new rfl 26 (.tmp 9) (.tmp 43) rfl w6.heap.size rfl Z r6 26 rfl rfl HSR6.out HZR6.out H1R6.out ?_; go_simp))
            generalize w6.alloc (.cells r6 26) = W7 at hk7 hs7 he7 HB7 hgl ⊢
            generalize w6.heap.size = gw at hk7 hgl ⊢
            rw [HR6.out] at hk7
            have K0 : Hid (∀ W, Below W7.heap.size W7 W → W.cell? ⟨gw, 0, none⟩ = some (.slice A j ca)) := Lib.hid (fun W hW => (hW.cell (p := ⟨gw, 0, none⟩) hgl).trans (cell_of_row W7 gw 0 _ _ _ hk7))
            have K1 : Hid (∀ W, Below W7.heap.size W7 W → W.cell? ⟨gw, 1, none⟩ = some (.slice A' k k)) := Lib.hid (fun W hW => (hW.cell (p := ⟨gw, 1, none⟩) hgl).trans (cell_of_row W7 gw 1 _ _ _ hk7))
            have HS7 := Lib.hid hs7
            have HE7 := Lib.hid he7
            have H16 := Lib.hid h16
            clear hk7 hs7 he7 h16 HR6 e1 e2
            by_cases hk0 : k = 0
            · subst hk0
              by_cases hj0 : j = 0
              · subst hj0
                refine wp_region_held_drew (S := (fun W : World => Below W7.heap.size W7 W)) (by kernel_rfl) (Below.refl _ W7).drew (fun hHeld => ?_)
                refine wpAnyH_take (i := 0) (oi := ({ dst := some 54, op := Go.Op.move (Go.Operand.tmp 10), type := 28, pos := "law.go:135", after := #[], guard := none } : Oper)) (v := .nilIface) rfl (by kernel_rfl) (by kernel_rfl) (by kernel_rfl) (fun _ _ _ h => h) (Or.inl ⟨by rfl, fun w' _ => ?_⟩) hHeld ?_
                · go_simp
                try simp only [Act.put, List.setIfInBounds_toArray, List.set_cons_zero, List.set_cons_succ]
                refine wpAnyH_take (i := 1) (oi := ({ dst := some 55, op := Go.Op.binOp Go.BinOp.eql 28 (Go.Operand.tmp 54) (Go.Operand.const Go.Value.nilIface) 28, type := 4, pos := "law.go:135", after := #[{ on := 0, ground := Go.Ground.data }], guard := none } : Oper)) (v := .bool true) rfl (by kernel_rfl) (by kernel_rfl) (by kernel_rfl) (fun _ _ _ h => h) (Or.inl ⟨by rfl, fun w' _ => ?_⟩) hHeld ?_
                · go_simp
                try simp only [Act.put, List.setIfInBounds_toArray, List.set_cons_zero, List.set_cons_succ]
                refine wpAnyH_take (i := 2) (oi := ({ dst := some 56, op := Go.Op.move (Go.Operand.tmp 55), type := 4, pos := "law.go:135", after := #[{ on := 1, ground := Go.Ground.data }], guard := none } : Oper)) (v := .bool true) rfl (by kernel_rfl) (by kernel_rfl) (by kernel_rfl) (fun _ _ _ h => h) (Or.inl ⟨by rfl, fun w' _ => ?_⟩) hHeld ?_
                · go_simp
                try simp only [Act.put, List.setIfInBounds_toArray, List.set_cons_zero, List.set_cons_succ]
                refine wpAnyH_take (i := 3) (oi := ({ dst := some 57, op := Go.Op.fieldAddr 26 (Go.Operand.tmp 9) 0, type := 0, pos := "law.go:135", after := #[{ on := 2, ground := Go.Ground.guard }], guard := some (2, true) } : Oper)) (v := .pointer (some ⟨gw, 0, none⟩)) rfl (by kernel_rfl) (by kernel_rfl) (by kernel_rfl) (fun _ _ _ h => h) (Or.inl ⟨by rfl, fun w' _ => ?_⟩) hHeld ?_
                · go_simp
                try simp only [Act.put, List.setIfInBounds_toArray, List.set_cons_zero, List.set_cons_succ]
                refine wpAnyH_take (i := 4) (oi := ({ dst := some 58, op := Go.Op.load 23 (Go.Operand.tmp 57), type := 23, pos := "law.go:135", after := #[{ on := 3, ground := Go.Ground.data }, { on := 2, ground := Go.Ground.guard }], guard := some (2, true) } : Oper)) (v := .slice A 0 ca) rfl (by kernel_rfl) (by kernel_rfl) (by kernel_rfl) (fun _ _ _ h => h) (Or.inl ⟨by rfl, fun w' hS' => ?_⟩) hHeld ?_
                · have hcell := K0.out _ hS'
                  go_simp
                try simp only [Act.put, List.setIfInBounds_toArray, List.set_cons_zero, List.set_cons_succ]
                refine wpAnyH_take (i := 5) (oi := ({ dst := some 59, op := Go.Op.call { callee := Go.Callee.builtin Go.Builtin.len, args := #[Go.Operand.tmp 58], argTypes := #[23] }, type := 3, pos := "law.go:135", after := #[{ on := 4, ground := Go.Ground.data }, { on := 2, ground := Go.Ground.guard }], guard := some (2, true) } : Oper)) (v := .int .i64 0) rfl (by kernel_rfl) (by kernel_rfl) (by kernel_rfl) (fun _ _ _ h => h) (Or.inl ⟨by rfl, fun w' _ => ?_⟩) hHeld ?_
                · go_simp
                try simp only [Act.put, List.setIfInBounds_toArray, List.set_cons_zero, List.set_cons_succ]
                refine wpAnyH_take (i := 6) (oi := ({ dst := some 60, op := Go.Op.move (Go.Operand.tmp 0), type := 3, pos := "law.go:135", after := #[{ on := 2, ground := Go.Ground.guard }], guard := some (2, true) } : Oper)) (v := .int .i64 0) rfl (by kernel_rfl) (by kernel_rfl) (by kernel_rfl) (fun _ _ _ h => h) (Or.inl ⟨by rfl, fun w' _ => ?_⟩) hHeld ?_
                · go_simp
                try simp only [Act.put, List.setIfInBounds_toArray, List.set_cons_zero, List.set_cons_succ]
                refine wpAnyH_take (i := 7) (oi := ({ dst := some 61, op := Go.Op.binOp Go.BinOp.eql 3 (Go.Operand.tmp 59) (Go.Operand.tmp 60) 3, type := 4, pos := "law.go:135", after := #[{ on := 5, ground := Go.Ground.data }, { on := 6, ground := Go.Ground.data }, { on := 2, ground := Go.Ground.guard }], guard := some (2, true) } : Oper)) (v := .bool true) rfl (by kernel_rfl) (by kernel_rfl) (by kernel_rfl) (fun _ _ _ h => h) (Or.inl ⟨by rfl, fun w' _ => ?_⟩) hHeld ?_
                · go_simp
                try simp only [Act.put, List.setIfInBounds_toArray, List.set_cons_zero, List.set_cons_succ]
                refine wpAnyH_take (i := 8) (oi := ({ dst := some 62, op := Go.Op.pick (Go.Operand.tmp 56) (Go.Operand.tmp 61) (Go.Operand.const (Go.Value.bool false)), type := 4, pos := "law.go:135", after := #[{ on := 2, ground := Go.Ground.data }, { on := 7, ground := Go.Ground.data }], guard := none } : Oper)) (v := .bool true) rfl (by kernel_rfl) (by kernel_rfl) (by kernel_rfl) (fun _ _ _ h => h) (Or.inl ⟨by rfl, fun w' _ => ?_⟩) hHeld ?_
                · go_simp
                try simp only [Act.put, List.setIfInBounds_toArray, List.set_cons_zero, List.set_cons_succ]
                refine wpAnyH_take (i := 9) (oi := ({ dst := some 63, op := Go.Op.move (Go.Operand.tmp 62), type := 4, pos := "law.go:135", after := #[{ on := 8, ground := Go.Ground.data }, { on := 2, ground := Go.Ground.chain }], guard := none } : Oper)) (v := .bool true) rfl (by kernel_rfl) (by kernel_rfl) (by kernel_rfl) (fun _ _ _ h => h) (Or.inl ⟨by rfl, fun w' _ => ?_⟩) hHeld ?_
                · go_simp
                try simp only [Act.put, List.setIfInBounds_toArray, List.set_cons_zero, List.set_cons_succ]
                refine wpAnyH_take (i := 10) (oi := ({ dst := some 64, op := Go.Op.fieldAddr 26 (Go.Operand.tmp 9) 1, type := 0, pos := "law.go:135", after := #[{ on := 9, ground := Go.Ground.guard }], guard := some (9, true) } : Oper)) (v := .pointer (some ⟨gw, 1, none⟩)) rfl (by kernel_rfl) (by kernel_rfl) (by kernel_rfl) (fun _ _ _ h => h) (Or.inl ⟨by rfl, fun w' _ => ?_⟩) hHeld ?_
                · go_simp
                try simp only [Act.put, List.setIfInBounds_toArray, List.set_cons_zero, List.set_cons_succ]
                refine wpAnyH_take (i := 11) (oi := ({ dst := some 65, op := Go.Op.load 24 (Go.Operand.tmp 64), type := 24, pos := "law.go:135", after := #[{ on := 10, ground := Go.Ground.data }, { on := 9, ground := Go.Ground.guard }], guard := some (9, true) } : Oper)) (v := .slice A' 0 0) rfl (by kernel_rfl) (by kernel_rfl) (by kernel_rfl) (fun _ _ _ h => h) (Or.inl ⟨by rfl, fun w' hS' => ?_⟩) hHeld ?_
                · have hcell := K1.out _ hS'
                  go_simp
                try simp only [Act.put, List.setIfInBounds_toArray, List.set_cons_zero, List.set_cons_succ]
                refine wpAnyH_take (i := 12) (oi := ({ dst := some 66, op := Go.Op.call { callee := Go.Callee.builtin Go.Builtin.len, args := #[Go.Operand.tmp 65], argTypes := #[24] }, type := 3, pos := "law.go:135", after := #[{ on := 11, ground := Go.Ground.data }, { on := 9, ground := Go.Ground.guard }], guard := some (9, true) } : Oper)) (v := .int .i64 0) rfl (by kernel_rfl) (by kernel_rfl) (by kernel_rfl) (fun _ _ _ h => h) (Or.inl ⟨by rfl, fun w' _ => ?_⟩) hHeld ?_
                · go_simp
                try simp only [Act.put, List.setIfInBounds_toArray, List.set_cons_zero, List.set_cons_succ]
                refine wpAnyH_take (i := 13) (oi := ({ dst := some 67, op := Go.Op.move (Go.Operand.tmp 1), type := 3, pos := "law.go:135", after := #[{ on := 9, ground := Go.Ground.guard }], guard := some (9, true) } : Oper)) (v := .int .i64 0) rfl (by kernel_rfl) (by kernel_rfl) (by kernel_rfl) (fun _ _ _ h => h) (Or.inl ⟨by rfl, fun w' _ => ?_⟩) hHeld ?_
                · go_simp
                try simp only [Act.put, List.setIfInBounds_toArray, List.set_cons_zero, List.set_cons_succ]
                refine wpAnyH_take (i := 14) (oi := ({ dst := some 68, op := Go.Op.binOp Go.BinOp.eql 3 (Go.Operand.tmp 66) (Go.Operand.tmp 67) 3, type := 4, pos := "law.go:135", after := #[{ on := 12, ground := Go.Ground.data }, { on := 13, ground := Go.Ground.data }, { on := 9, ground := Go.Ground.guard }], guard := some (9, true) } : Oper)) (v := .bool true) rfl (by kernel_rfl) (by kernel_rfl) (by kernel_rfl) (fun _ _ _ h => h) (Or.inl ⟨by rfl, fun w' _ => ?_⟩) hHeld ?_
                · go_simp
                try simp only [Act.put, List.setIfInBounds_toArray, List.set_cons_zero, List.set_cons_succ]
                refine wpAnyH_take (i := 15) (oi := ({ dst := some 69, op := Go.Op.pick (Go.Operand.tmp 63) (Go.Operand.tmp 68) (Go.Operand.const (Go.Value.bool false)), type := 4, pos := "law.go:135", after := #[{ on := 9, ground := Go.Ground.data }, { on := 14, ground := Go.Ground.data }], guard := none } : Oper)) (v := .bool true) rfl (by kernel_rfl) (by kernel_rfl) (by kernel_rfl) (fun _ _ _ h => h) (Or.inl ⟨by rfl, fun w' _ => ?_⟩) hHeld ?_
                · go_simp
                try simp only [Act.put, List.setIfInBounds_toArray, List.set_cons_zero, List.set_cons_succ]
                refine wpAnyH_take (i := 16) (oi := ({ dst := some 70, op := Go.Op.move (Go.Operand.tmp 69), type := 4, pos := "law.go:135", after := #[{ on := 15, ground := Go.Ground.data }, { on := 9, ground := Go.Ground.chain }], guard := none } : Oper)) (v := .bool true) rfl (by kernel_rfl) (by kernel_rfl) (by kernel_rfl) (fun _ _ _ h => h) (Or.inl ⟨by rfl, fun w' _ => ?_⟩) hHeld ?_
                · go_simp
                try simp only [Act.put, List.setIfInBounds_toArray, List.set_cons_zero, List.set_cons_succ]
                refine wpAnyH_take (i := 17) (oi := ({ dst := some 71, op := Go.Op.move (Go.Operand.tmp 1), type := 3, pos := "law.go:135", after := #[{ on := 16, ground := Go.Ground.guard }], guard := some (16, true) } : Oper)) (v := .int .i64 0) rfl (by kernel_rfl) (by kernel_rfl) (by kernel_rfl) (fun _ _ _ h => h) (Or.inl ⟨by rfl, fun w' _ => ?_⟩) hHeld ?_
                · go_simp
                try simp only [Act.put, List.setIfInBounds_toArray, List.set_cons_zero, List.set_cons_succ]
                refine wpAnyH_take (i := 18) (oi := ({ dst := some 72, op := Go.Op.binOp Go.BinOp.eql 3 (Go.Operand.tmp 71) (Go.Operand.const (Go.Value.int Go.IntKind.i64 0)) 3, type := 4, pos := "law.go:135", after := #[{ on := 17, ground := Go.Ground.data }, { on := 16, ground := Go.Ground.guard }], guard := some (16, true) } : Oper)) (v := .bool true) rfl (by kernel_rfl) (by kernel_rfl) (by kernel_rfl) (fun _ _ _ h => h) (Or.inl ⟨by rfl, fun w' _ => ?_⟩) hHeld ?_
                · (go_simp; first | done | omega | exact IntWalk.i64_in _ (by omega))
                try simp only [Act.put, List.setIfInBounds_toArray, List.set_cons_zero, List.set_cons_succ]
                refine wpAnyH_take (i := 19) (oi := ({ dst := some 73, op := Go.Op.move (Go.Operand.tmp 72), type := 4, pos := "law.go:135", after := #[{ on := 18, ground := Go.Ground.data }, { on := 16, ground := Go.Ground.chain }, { on := 16, ground := Go.Ground.guard }], guard := some (16, true) } : Oper)) (v := .bool true) rfl (by kernel_rfl) (by kernel_rfl) (by kernel_rfl) (fun _ _ _ h => h) (Or.inl ⟨by rfl, fun w' _ => ?_⟩) hHeld ?_
                · go_simp
                try simp only [Act.put, List.setIfInBounds_toArray, List.set_cons_zero, List.set_cons_succ]
                refine wpAnyH_take (i := 20) (oi := ({ dst := some 74, op := Go.Op.fieldAddr 26 (Go.Operand.tmp 9) 1, type := 0, pos := "law.go:135", after := #[{ on := 19, ground := Go.Ground.guard }], guard := some (19, false) } : Oper)) (v := undef) rfl (by kernel_rfl) (by kernel_rfl) (by kernel_rfl) (fun _ _ _ h => h) (Or.inr ⟨by rfl, rfl⟩) hHeld ?_
                try simp only [Act.put, List.setIfInBounds_toArray, List.set_cons_zero, List.set_cons_succ]
                refine wpAnyH_take (i := 21) (oi := ({ dst := some 75, op := Go.Op.load 24 (Go.Operand.tmp 74), type := 24, pos := "law.go:135", after := #[{ on := 20, ground := Go.Ground.data }, { on := 19, ground := Go.Ground.guard }], guard := some (19, false) } : Oper)) (v := undef) rfl (by kernel_rfl) (by kernel_rfl) (by kernel_rfl) (fun _ _ _ h => h) (Or.inr ⟨by rfl, rfl⟩) hHeld ?_
                try simp only [Act.put, List.setIfInBounds_toArray, List.set_cons_zero, List.set_cons_succ]
                refine wpAnyH_take (i := 22) (oi := ({ dst := some 76, op := Go.Op.move (Go.Operand.tmp 1), type := 3, pos := "law.go:135", after := #[{ on := 19, ground := Go.Ground.guard }], guard := some (19, false) } : Oper)) (v := undef) rfl (by kernel_rfl) (by kernel_rfl) (by kernel_rfl) (fun _ _ _ h => h) (Or.inr ⟨by rfl, rfl⟩) hHeld ?_
                try simp only [Act.put, List.setIfInBounds_toArray, List.set_cons_zero, List.set_cons_succ]
                refine wpAnyH_take (i := 23) (oi := ({ dst := some 77, op := Go.Op.binOp Go.BinOp.sub 3 (Go.Operand.tmp 76) (Go.Operand.const (Go.Value.int Go.IntKind.i64 1)) 3, type := 3, pos := "law.go:135", after := #[{ on := 22, ground := Go.Ground.data }, { on := 19, ground := Go.Ground.guard }], guard := some (19, false) } : Oper)) (v := undef) rfl (by kernel_rfl) (by kernel_rfl) (by kernel_rfl) (fun _ _ _ h => h) (Or.inr ⟨by rfl, rfl⟩) hHeld ?_
                try simp only [Act.put, List.setIfInBounds_toArray, List.set_cons_zero, List.set_cons_succ]
                refine wpAnyH_take (i := 24) (oi := ({ dst := some 78, op := Go.Op.indexAddr 24 (Go.Operand.tmp 75) (Go.Operand.tmp 77), type := 0, pos := "law.go:135", after := #[{ on := 21, ground := Go.Ground.data }, { on := 23, ground := Go.Ground.data }, { on := 19, ground := Go.Ground.guard }], guard := some (19, false) } : Oper)) (v := undef) rfl (by kernel_rfl) (by kernel_rfl) (by kernel_rfl) (fun _ _ _ h => h) (Or.inr ⟨by rfl, rfl⟩) hHeld ?_
                try simp only [Act.put, List.setIfInBounds_toArray, List.set_cons_zero, List.set_cons_succ]
                refine wpAnyH_take (i := 25) (oi := ({ dst := some 79, op := Go.Op.load 9 (Go.Operand.tmp 78), type := 9, pos := "law.go:135", after := #[{ on := 24, ground := Go.Ground.data }, { on := 19, ground := Go.Ground.guard }], guard := some (19, false) } : Oper)) (v := undef) rfl (by kernel_rfl) (by kernel_rfl) (by kernel_rfl) (fun _ _ _ h => h) (Or.inr ⟨by rfl, rfl⟩) hHeld ?_
                try simp only [Act.put, List.setIfInBounds_toArray, List.set_cons_zero, List.set_cons_succ]
                refine wpAnyH_take (i := 26) (oi := ({ dst := some 80, op := Go.Op.move (Go.Operand.tmp 1), type := 3, pos := "law.go:135", after := #[{ on := 19, ground := Go.Ground.guard }], guard := some (19, false) } : Oper)) (v := undef) rfl (by kernel_rfl) (by kernel_rfl) (by kernel_rfl) (fun _ _ _ h => h) (Or.inr ⟨by rfl, rfl⟩) hHeld ?_
                try simp only [Act.put, List.setIfInBounds_toArray, List.set_cons_zero, List.set_cons_succ]
                refine wpAnyH_take (i := 27) (oi := ({ dst := some 81, op := Go.Op.binOp Go.BinOp.sub 3 (Go.Operand.tmp 80) (Go.Operand.const (Go.Value.int Go.IntKind.i64 1)) 3, type := 3, pos := "law.go:135", after := #[{ on := 26, ground := Go.Ground.data }, { on := 19, ground := Go.Ground.guard }], guard := some (19, false) } : Oper)) (v := undef) rfl (by kernel_rfl) (by kernel_rfl) (by kernel_rfl) (fun _ _ _ h => h) (Or.inr ⟨by rfl, rfl⟩) hHeld ?_
                try simp only [Act.put, List.setIfInBounds_toArray, List.set_cons_zero, List.set_cons_succ]
                refine wpAnyH_take (i := 28) (oi := ({ dst := some 82, op := Go.Op.call { callee := Go.Callee.value (Go.Operand.func 18), args := #[Go.Operand.tmp 81], argTypes := #[3] }, type := 9, pos := "law.go:135", after := #[{ on := 27, ground := Go.Ground.data }, { on := 19, ground := Go.Ground.chain }, { on := 19, ground := Go.Ground.guard }], guard := some (19, false) } : Oper)) (v := undef) rfl (by kernel_rfl) (by kernel_rfl) (by kernel_rfl) (fun _ _ _ h => h) (Or.inr ⟨by rfl, rfl⟩) hHeld ?_
                try simp only [Act.put, List.setIfInBounds_toArray, List.set_cons_zero, List.set_cons_succ]
                refine wpAnyH_take (i := 29) (oi := ({ dst := some 83, op := Go.Op.binOp Go.BinOp.add 9 (Go.Operand.const (Go.Value.string { data := #[100] })) (Go.Operand.tmp 82) 9, type := 9, pos := "law.go:135", after := #[{ on := 28, ground := Go.Ground.data }, { on := 19, ground := Go.Ground.guard }], guard := some (19, false) } : Oper)) (v := undef) rfl (by kernel_rfl) (by kernel_rfl) (by kernel_rfl) (fun _ _ _ h => h) (Or.inr ⟨by rfl, rfl⟩) hHeld ?_
                try simp only [Act.put, List.setIfInBounds_toArray, List.set_cons_zero, List.set_cons_succ]
                refine wpAnyH_take (i := 30) (oi := ({ dst := some 84, op := Go.Op.binOp Go.BinOp.eql 9 (Go.Operand.tmp 79) (Go.Operand.tmp 83) 9, type := 4, pos := "law.go:135", after := #[{ on := 25, ground := Go.Ground.data }, { on := 29, ground := Go.Ground.data }, { on := 19, ground := Go.Ground.guard }], guard := some (19, false) } : Oper)) (v := undef) rfl (by kernel_rfl) (by kernel_rfl) (by kernel_rfl) (fun _ _ _ h => h) (Or.inr ⟨by rfl, rfl⟩) hHeld ?_
                try simp only [Act.put, List.setIfInBounds_toArray, List.set_cons_zero, List.set_cons_succ]
                refine wpAnyH_take (i := 31) (oi := ({ dst := some 85, op := Go.Op.pick (Go.Operand.tmp 73) (Go.Operand.const (Go.Value.bool true)) (Go.Operand.tmp 84), type := 4, pos := "law.go:135", after := #[{ on := 19, ground := Go.Ground.data }, { on := 30, ground := Go.Ground.data }, { on := 16, ground := Go.Ground.guard }], guard := some (16, true) } : Oper)) (v := .bool true) rfl (by kernel_rfl) (by kernel_rfl) (by kernel_rfl) (fun _ _ _ h => h) (Or.inl ⟨by rfl, fun w' _ => ?_⟩) hHeld ?_
                · go_simp
                try simp only [Act.put, List.setIfInBounds_toArray, List.set_cons_zero, List.set_cons_succ]
                refine wpAnyH_take (i := 32) (oi := ({ dst := some 86, op := Go.Op.pick (Go.Operand.tmp 70) (Go.Operand.tmp 85) (Go.Operand.const (Go.Value.bool false)), type := 4, pos := "law.go:135", after := #[{ on := 16, ground := Go.Ground.data }, { on := 31, ground := Go.Ground.data }], guard := none } : Oper)) (v := .bool true) rfl (by kernel_rfl) (by kernel_rfl) (by kernel_rfl) (fun _ _ _ h => h) (Or.inl ⟨by rfl, fun w' _ => ?_⟩) hHeld ?_
                · go_simp
                try simp only [Act.put, List.setIfInBounds_toArray, List.set_cons_zero, List.set_cons_succ]
                refine wpAnyH_take (i := 33) (oi := ({ dst := some 87, op := Go.Op.move (Go.Operand.tmp 86), type := 4, pos := "law.go:135", after := #[{ on := 32, ground := Go.Ground.data }, { on := 28, ground := Go.Ground.chain }], guard := none } : Oper)) (v := .bool true) rfl (by kernel_rfl) (by kernel_rfl) (by kernel_rfl) (fun _ _ _ h => h) (Or.inl ⟨by rfl, fun w' _ => ?_⟩) hHeld ?_
                · go_simp
                try simp only [Act.put, List.setIfInBounds_toArray, List.set_cons_zero, List.set_cons_succ]
                refine wpAnyH_take (i := 34) (oi := ({ dst := some 88, op := Go.Op.move (Go.Operand.tmp 0), type := 3, pos := "law.go:135", after := #[{ on := 33, ground := Go.Ground.guard }], guard := some (33, true) } : Oper)) (v := .int .i64 0) rfl (by kernel_rfl) (by kernel_rfl) (by kernel_rfl) (fun _ _ _ h => h) (Or.inl ⟨by rfl, fun w' _ => ?_⟩) hHeld ?_
                · go_simp
                try simp only [Act.put, List.setIfInBounds_toArray, List.set_cons_zero, List.set_cons_succ]
                refine wpAnyH_take (i := 35) (oi := ({ dst := some 89, op := Go.Op.binOp Go.BinOp.eql 3 (Go.Operand.tmp 88) (Go.Operand.const (Go.Value.int Go.IntKind.i64 0)) 3, type := 4, pos := "law.go:135", after := #[{ on := 34, ground := Go.Ground.data }, { on := 33, ground := Go.Ground.guard }], guard := some (33, true) } : Oper)) (v := .bool true) rfl (by kernel_rfl) (by kernel_rfl) (by kernel_rfl) (fun _ _ _ h => h) (Or.inl ⟨by rfl, fun w' _ => ?_⟩) hHeld ?_
                · go_simp
                try simp only [Act.put, List.setIfInBounds_toArray, List.set_cons_zero, List.set_cons_succ]
                refine wpAnyH_take (i := 36) (oi := ({ dst := some 90, op := Go.Op.move (Go.Operand.tmp 89), type := 4, pos := "law.go:135", after := #[{ on := 35, ground := Go.Ground.data }, { on := 33, ground := Go.Ground.chain }, { on := 33, ground := Go.Ground.guard }], guard := some (33, true) } : Oper)) (v := .bool true) rfl (by kernel_rfl) (by kernel_rfl) (by kernel_rfl) (fun _ _ _ h => h) (Or.inl ⟨by rfl, fun w' _ => ?_⟩) hHeld ?_
                · go_simp
                try simp only [Act.put, List.setIfInBounds_toArray, List.set_cons_zero, List.set_cons_succ]
                refine wpAnyH_take (i := 37) (oi := ({ dst := some 91, op := Go.Op.fieldAddr 26 (Go.Operand.tmp 9) 0, type := 0, pos := "law.go:135", after := #[{ on := 36, ground := Go.Ground.guard }], guard := some (36, false) } : Oper)) (v := undef) rfl (by kernel_rfl) (by kernel_rfl) (by kernel_rfl) (fun _ _ _ h => h) (Or.inr ⟨by rfl, rfl⟩) hHeld ?_
                try simp only [Act.put, List.setIfInBounds_toArray, List.set_cons_zero, List.set_cons_succ]
                refine wpAnyH_take (i := 38) (oi := ({ dst := some 92, op := Go.Op.load 23 (Go.Operand.tmp 91), type := 23, pos := "law.go:135", after := #[{ on := 37, ground := Go.Ground.data }, { on := 36, ground := Go.Ground.guard }], guard := some (36, false) } : Oper)) (v := undef) rfl (by kernel_rfl) (by kernel_rfl) (by kernel_rfl) (fun _ _ _ h => h) (Or.inr ⟨by rfl, rfl⟩) hHeld ?_
                try simp only [Act.put, List.setIfInBounds_toArray, List.set_cons_zero, List.set_cons_succ]
                refine wpAnyH_take (i := 39) (oi := ({ dst := some 93, op := Go.Op.indexAddr 23 (Go.Operand.tmp 92) (Go.Operand.const (Go.Value.int Go.IntKind.i64 0)), type := 0, pos := "law.go:135", after := #[{ on := 38, ground := Go.Ground.data }, { on := 36, ground := Go.Ground.guard }], guard := some (36, false) } : Oper)) (v := undef) rfl (by kernel_rfl) (by kernel_rfl) (by kernel_rfl) (fun _ _ _ h => h) (Or.inr ⟨by rfl, rfl⟩) hHeld ?_
                try simp only [Act.put, List.setIfInBounds_toArray, List.set_cons_zero, List.set_cons_succ]
                refine wpAnyH_take (i := 40) (oi := ({ dst := some 94, op := Go.Op.load 48 (Go.Operand.tmp 93), type := 48, pos := "law.go:135", after := #[{ on := 39, ground := Go.Ground.data }, { on := 36, ground := Go.Ground.guard }], guard := some (36, false) } : Oper)) (v := undef) rfl (by kernel_rfl) (by kernel_rfl) (by kernel_rfl) (fun _ _ _ h => h) (Or.inr ⟨by rfl, rfl⟩) hHeld ?_
                try simp only [Act.put, List.setIfInBounds_toArray, List.set_cons_zero, List.set_cons_succ]
                refine wpAnyH_take (i := 41) (oi := ({ dst := some 95, op := Go.Op.call { callee := Go.Callee.value (Go.Operand.func 20), args := #[Go.Operand.const (Go.Value.int Go.IntKind.u8 10), Go.Operand.const (Go.Value.int Go.IntKind.u8 0), Go.Operand.const (Go.Value.int Go.IntKind.u8 0), Go.Operand.const (Go.Value.int Go.IntKind.u8 0)], argTypes := #[5, 5, 5, 5] }, type := 48, pos := "law.go:135", after := #[{ on := 36, ground := Go.Ground.chain }, { on := 36, ground := Go.Ground.guard }], guard := some (36, false) } : Oper)) (v := undef) rfl (by kernel_rfl) (by kernel_rfl) (by kernel_rfl) (fun _ _ _ h => h) (Or.inr ⟨by rfl, rfl⟩) hHeld ?_
                try simp only [Act.put, List.setIfInBounds_toArray, List.set_cons_zero, List.set_cons_succ]
                refine wpAnyH_take (i := 42) (oi := ({ dst := some 96, op := Go.Op.binOp Go.BinOp.eql 48 (Go.Operand.tmp 94) (Go.Operand.tmp 95) 48, type := 4, pos := "law.go:135", after := #[{ on := 40, ground := Go.Ground.data }, { on := 41, ground := Go.Ground.data }, { on := 36, ground := Go.Ground.guard }], guard := some (36, false) } : Oper)) (v := undef) rfl (by kernel_rfl) (by kernel_rfl) (by kernel_rfl) (fun _ _ _ h => h) (Or.inr ⟨by rfl, rfl⟩) hHeld ?_
                try simp only [Act.put, List.setIfInBounds_toArray, List.set_cons_zero, List.set_cons_succ]
                refine wpAnyH_take (i := 43) (oi := ({ dst := some 97, op := Go.Op.pick (Go.Operand.tmp 90) (Go.Operand.const (Go.Value.bool true)) (Go.Operand.tmp 96), type := 4, pos := "law.go:135", after := #[{ on := 36, ground := Go.Ground.data }, { on := 42, ground := Go.Ground.data }, { on := 33, ground := Go.Ground.guard }], guard := some (33, true) } : Oper)) (v := .bool true) rfl (by kernel_rfl) (by kernel_rfl) (by kernel_rfl) (fun _ _ _ h => h) (Or.inl ⟨by rfl, fun w' _ => ?_⟩) hHeld ?_
                · go_simp
                try simp only [Act.put, List.setIfInBounds_toArray, List.set_cons_zero, List.set_cons_succ]
                refine wpAnyH_take (i := 44) (oi := ({ dst := some 98, op := Go.Op.pick (Go.Operand.tmp 87) (Go.Operand.tmp 97) (Go.Operand.const (Go.Value.bool false)), type := 4, pos := "law.go:135", after := #[{ on := 33, ground := Go.Ground.data }, { on := 43, ground := Go.Ground.data }], guard := none } : Oper)) (v := .bool true) rfl (by kernel_rfl) (by kernel_rfl) (by kernel_rfl) (fun _ _ _ h => h) (Or.inl ⟨by rfl, fun w' _ => ?_⟩) hHeld ?_
                · go_simp
                try simp only [Act.put, List.setIfInBounds_toArray, List.set_cons_zero, List.set_cons_succ]
                refine wpAnyH_take (i := 45) (oi := ({ dst := some 4, op := Go.Op.assign (Go.Operand.tmp 98), type := 4, pos := "law.go:135", after := #[{ on := 44, ground := Go.Ground.data }, { on := 41, ground := Go.Ground.chain }, { on := 0, ground := Go.Ground.phase }, { on := 1, ground := Go.Ground.phase }, { on := 2, ground := Go.Ground.phase }, { on := 3, ground := Go.Ground.phase }, { on := 4, ground := Go.Ground.phase }, { on := 5, ground := Go.Ground.phase }, { on := 6, ground := Go.Ground.phase }, { on := 7, ground := Go.Ground.phase }, { on := 8, ground := Go.Ground.phase }, { on := 9, ground := Go.Ground.phase }, { on := 10, ground := Go.Ground.phase }, { on := 11, ground := Go.Ground.phase }, { on := 12, ground := Go.Ground.phase }, { on := 13, ground := Go.Ground.phase }, { on := 14, ground := Go.Ground.phase }, { on := 15, ground := Go.Ground.phase }, { on := 16, ground := Go.Ground.phase }, { on := 17, ground := Go.Ground.phase }, { on := 18, ground := Go.Ground.phase }, { on := 19, ground := Go.Ground.phase }, { on := 20, ground := Go.Ground.phase }, { on := 21, ground := Go.Ground.phase }, { on := 22, ground := Go.Ground.phase }, { on := 23, ground := Go.Ground.phase }, { on := 24, ground := Go.Ground.phase }, { on := 25, ground := Go.Ground.phase }, { on := 26, ground := Go.Ground.phase }, { on := 27, ground := Go.Ground.phase }, { on := 28, ground := Go.Ground.phase }, { on := 29, ground := Go.Ground.phase }, { on := 30, ground := Go.Ground.phase }, { on := 31, ground := Go.Ground.phase }, { on := 32, ground := Go.Ground.phase }, { on := 33, ground := Go.Ground.phase }, { on := 34, ground := Go.Ground.phase }, { on := 35, ground := Go.Ground.phase }, { on := 36, ground := Go.Ground.phase }, { on := 37, ground := Go.Ground.phase }, { on := 38, ground := Go.Ground.phase }, { on := 39, ground := Go.Ground.phase }, { on := 40, ground := Go.Ground.phase }, { on := 41, ground := Go.Ground.phase }, { on := 42, ground := Go.Ground.phase }, { on := 43, ground := Go.Ground.phase }, { on := 44, ground := Go.Ground.phase }], guard := none } : Oper)) (v := .bool true) rfl (by kernel_rfl) (by kernel_rfl) (by kernel_rfl) (fun _ _ _ h => h) (Or.inl ⟨by rfl, fun w' _ => ?_⟩) hHeld ?_
                · go_simp
                try simp only [Act.put, List.setIfInBounds_toArray, List.set_cons_zero, List.set_cons_succ]
                refine wpAnyH_done (by kernel_rfl) ?_ _
                have HBn := Lib.hid (HB7.out.trans (hHeld.mono HB7.out.size))
                go_wp2_with fail
                go_ret
                exact ⟨rfl, HBn.out⟩
              · have hjI0 : ¬ (j : Int) = 0 := by omega
                have hj1 : (0 : Int) < (j : Int) := by omega
                obtain ⟨bs, rfl, hbl, hra⟩ := HS7.out.row H16.out (k := 0) (a := lsA 0) (by show (lsAs j)[0]? = some (lsA 0); unfold lsAs; rw [List.getElem?_map, List.getElem?_range (by omega)]; rfl)
                have hSv := sizeBv (l := lsA 0) rfl
                have HQ := fun W => run_eq_adr W (x := lsA 0) rfl
                have HV4 := Lib.hid (fun W => v4_e 10 0 0 0 W)
                rw [show four12 ++ [10, 0, 0, 0] = lsA 0 from rfl] at HV4
                obtain ⟨cs, hcs⟩ : ∃ cs, cs = bvs (lsA 0) := ⟨_, rfl⟩
                rw [← hcs] at hra hSv
                simp only [← hcs] at HQ HV4
                rw [Nat.zero_mul] at hra
                have HSv := Lib.hid hSv
                have HRA : Hid (∀ W, Below W7.heap.size W7 W → W.rangeAt bs 0 cs) := Lib.hid (fun W hW => range_below hra hbl hW)
                clear hSv hcs hra hbl
                refine wp_region_held_drew (S := (fun W : World => Below W7.heap.size W7 W)) (by kernel_rfl) (Below.refl _ W7).drew (fun hHeld => ?_)
                refine wpAnyH_take (i := 0) (oi := ({ dst := some 54, op := Go.Op.move (Go.Operand.tmp 10), type := 28, pos := "law.go:135", after := #[], guard := none } : Oper)) (v := .nilIface) rfl (by kernel_rfl) (by kernel_rfl) (by kernel_rfl) (fun _ _ _ h => h) (Or.inl ⟨by rfl, fun w' _ => ?_⟩) hHeld ?_
                · go_simp
                try simp only [Act.put, List.setIfInBounds_toArray, List.set_cons_zero, List.set_cons_succ]
                refine wpAnyH_take (i := 1) (oi := ({ dst := some 55, op := Go.Op.binOp Go.BinOp.eql 28 (Go.Operand.tmp 54) (Go.Operand.const Go.Value.nilIface) 28, type := 4, pos := "law.go:135", after := #[{ on := 0, ground := Go.Ground.data }], guard := none } : Oper)) (v := .bool true) rfl (by kernel_rfl) (by kernel_rfl) (by kernel_rfl) (fun _ _ _ h => h) (Or.inl ⟨by rfl, fun w' _ => ?_⟩) hHeld ?_
                · go_simp
                try simp only [Act.put, List.setIfInBounds_toArray, List.set_cons_zero, List.set_cons_succ]
                refine wpAnyH_take (i := 2) (oi := ({ dst := some 56, op := Go.Op.move (Go.Operand.tmp 55), type := 4, pos := "law.go:135", after := #[{ on := 1, ground := Go.Ground.data }], guard := none } : Oper)) (v := .bool true) rfl (by kernel_rfl) (by kernel_rfl) (by kernel_rfl) (fun _ _ _ h => h) (Or.inl ⟨by rfl, fun w' _ => ?_⟩) hHeld ?_
                · go_simp
                try simp only [Act.put, List.setIfInBounds_toArray, List.set_cons_zero, List.set_cons_succ]
                refine wpAnyH_take (i := 3) (oi := ({ dst := some 57, op := Go.Op.fieldAddr 26 (Go.Operand.tmp 9) 0, type := 0, pos := "law.go:135", after := #[{ on := 2, ground := Go.Ground.guard }], guard := some (2, true) } : Oper)) (v := .pointer (some ⟨gw, 0, none⟩)) rfl (by kernel_rfl) (by kernel_rfl) (by kernel_rfl) (fun _ _ _ h => h) (Or.inl ⟨by rfl, fun w' _ => ?_⟩) hHeld ?_
                · go_simp
                try simp only [Act.put, List.setIfInBounds_toArray, List.set_cons_zero, List.set_cons_succ]
                refine wpAnyH_take (i := 4) (oi := ({ dst := some 58, op := Go.Op.load 23 (Go.Operand.tmp 57), type := 23, pos := "law.go:135", after := #[{ on := 3, ground := Go.Ground.data }, { on := 2, ground := Go.Ground.guard }], guard := some (2, true) } : Oper)) (v := .slice (some ⟨bs, 0, none⟩) j ca) rfl (by kernel_rfl) (by kernel_rfl) (by kernel_rfl) (fun _ _ _ h => h) (Or.inl ⟨by rfl, fun w' hS' => ?_⟩) hHeld ?_
                · have hcell := K0.out _ hS'
                  go_simp
                try simp only [Act.put, List.setIfInBounds_toArray, List.set_cons_zero, List.set_cons_succ]
                refine wpAnyH_take (i := 5) (oi := ({ dst := some 59, op := Go.Op.call { callee := Go.Callee.builtin Go.Builtin.len, args := #[Go.Operand.tmp 58], argTypes := #[23] }, type := 3, pos := "law.go:135", after := #[{ on := 4, ground := Go.Ground.data }, { on := 2, ground := Go.Ground.guard }], guard := some (2, true) } : Oper)) (v := .int .i64 (j : Int)) rfl (by kernel_rfl) (by kernel_rfl) (by kernel_rfl) (fun _ _ _ h => h) (Or.inl ⟨by rfl, fun w' _ => ?_⟩) hHeld ?_
                · go_simp
                try simp only [Act.put, List.setIfInBounds_toArray, List.set_cons_zero, List.set_cons_succ]
                refine wpAnyH_take (i := 6) (oi := ({ dst := some 60, op := Go.Op.move (Go.Operand.tmp 0), type := 3, pos := "law.go:135", after := #[{ on := 2, ground := Go.Ground.guard }], guard := some (2, true) } : Oper)) (v := .int .i64 (j : Int)) rfl (by kernel_rfl) (by kernel_rfl) (by kernel_rfl) (fun _ _ _ h => h) (Or.inl ⟨by rfl, fun w' _ => ?_⟩) hHeld ?_
                · go_simp
                try simp only [Act.put, List.setIfInBounds_toArray, List.set_cons_zero, List.set_cons_succ]
                refine wpAnyH_take (i := 7) (oi := ({ dst := some 61, op := Go.Op.binOp Go.BinOp.eql 3 (Go.Operand.tmp 59) (Go.Operand.tmp 60) 3, type := 4, pos := "law.go:135", after := #[{ on := 5, ground := Go.Ground.data }, { on := 6, ground := Go.Ground.data }, { on := 2, ground := Go.Ground.guard }], guard := some (2, true) } : Oper)) (v := .bool true) rfl (by kernel_rfl) (by kernel_rfl) (by kernel_rfl) (fun _ _ _ h => h) (Or.inl ⟨by rfl, fun w' _ => ?_⟩) hHeld ?_
                · go_simp
                try simp only [Act.put, List.setIfInBounds_toArray, List.set_cons_zero, List.set_cons_succ]
                refine wpAnyH_take (i := 8) (oi := ({ dst := some 62, op := Go.Op.pick (Go.Operand.tmp 56) (Go.Operand.tmp 61) (Go.Operand.const (Go.Value.bool false)), type := 4, pos := "law.go:135", after := #[{ on := 2, ground := Go.Ground.data }, { on := 7, ground := Go.Ground.data }], guard := none } : Oper)) (v := .bool true) rfl (by kernel_rfl) (by kernel_rfl) (by kernel_rfl) (fun _ _ _ h => h) (Or.inl ⟨by rfl, fun w' _ => ?_⟩) hHeld ?_
                · go_simp
                try simp only [Act.put, List.setIfInBounds_toArray, List.set_cons_zero, List.set_cons_succ]
                refine wpAnyH_take (i := 9) (oi := ({ dst := some 63, op := Go.Op.move (Go.Operand.tmp 62), type := 4, pos := "law.go:135", after := #[{ on := 8, ground := Go.Ground.data }, { on := 2, ground := Go.Ground.chain }], guard := none } : Oper)) (v := .bool true) rfl (by kernel_rfl) (by kernel_rfl) (by kernel_rfl) (fun _ _ _ h => h) (Or.inl ⟨by rfl, fun w' _ => ?_⟩) hHeld ?_
                · go_simp
                try simp only [Act.put, List.setIfInBounds_toArray, List.set_cons_zero, List.set_cons_succ]
                refine wpAnyH_take (i := 10) (oi := ({ dst := some 64, op := Go.Op.fieldAddr 26 (Go.Operand.tmp 9) 1, type := 0, pos := "law.go:135", after := #[{ on := 9, ground := Go.Ground.guard }], guard := some (9, true) } : Oper)) (v := .pointer (some ⟨gw, 1, none⟩)) rfl (by kernel_rfl) (by kernel_rfl) (by kernel_rfl) (fun _ _ _ h => h) (Or.inl ⟨by rfl, fun w' _ => ?_⟩) hHeld ?_
                · go_simp
                try simp only [Act.put, List.setIfInBounds_toArray, List.set_cons_zero, List.set_cons_succ]
                refine wpAnyH_take (i := 11) (oi := ({ dst := some 65, op := Go.Op.load 24 (Go.Operand.tmp 64), type := 24, pos := "law.go:135", after := #[{ on := 10, ground := Go.Ground.data }, { on := 9, ground := Go.Ground.guard }], guard := some (9, true) } : Oper)) (v := .slice A' 0 0) rfl (by kernel_rfl) (by kernel_rfl) (by kernel_rfl) (fun _ _ _ h => h) (Or.inl ⟨by rfl, fun w' hS' => ?_⟩) hHeld ?_
                · have hcell := K1.out _ hS'
                  go_simp
                try simp only [Act.put, List.setIfInBounds_toArray, List.set_cons_zero, List.set_cons_succ]
                refine wpAnyH_take (i := 12) (oi := ({ dst := some 66, op := Go.Op.call { callee := Go.Callee.builtin Go.Builtin.len, args := #[Go.Operand.tmp 65], argTypes := #[24] }, type := 3, pos := "law.go:135", after := #[{ on := 11, ground := Go.Ground.data }, { on := 9, ground := Go.Ground.guard }], guard := some (9, true) } : Oper)) (v := .int .i64 0) rfl (by kernel_rfl) (by kernel_rfl) (by kernel_rfl) (fun _ _ _ h => h) (Or.inl ⟨by rfl, fun w' _ => ?_⟩) hHeld ?_
                · go_simp
                try simp only [Act.put, List.setIfInBounds_toArray, List.set_cons_zero, List.set_cons_succ]
                refine wpAnyH_take (i := 13) (oi := ({ dst := some 67, op := Go.Op.move (Go.Operand.tmp 1), type := 3, pos := "law.go:135", after := #[{ on := 9, ground := Go.Ground.guard }], guard := some (9, true) } : Oper)) (v := .int .i64 0) rfl (by kernel_rfl) (by kernel_rfl) (by kernel_rfl) (fun _ _ _ h => h) (Or.inl ⟨by rfl, fun w' _ => ?_⟩) hHeld ?_
                · go_simp
                try simp only [Act.put, List.setIfInBounds_toArray, List.set_cons_zero, List.set_cons_succ]
                refine wpAnyH_take (i := 14) (oi := ({ dst := some 68, op := Go.Op.binOp Go.BinOp.eql 3 (Go.Operand.tmp 66) (Go.Operand.tmp 67) 3, type := 4, pos := "law.go:135", after := #[{ on := 12, ground := Go.Ground.data }, { on := 13, ground := Go.Ground.data }, { on := 9, ground := Go.Ground.guard }], guard := some (9, true) } : Oper)) (v := .bool true) rfl (by kernel_rfl) (by kernel_rfl) (by kernel_rfl) (fun _ _ _ h => h) (Or.inl ⟨by rfl, fun w' _ => ?_⟩) hHeld ?_
                · go_simp
                try simp only [Act.put, List.setIfInBounds_toArray, List.set_cons_zero, List.set_cons_succ]
                refine wpAnyH_take (i := 15) (oi := ({ dst := some 69, op := Go.Op.pick (Go.Operand.tmp 63) (Go.Operand.tmp 68) (Go.Operand.const (Go.Value.bool false)), type := 4, pos := "law.go:135", after := #[{ on := 9, ground := Go.Ground.data }, { on := 14, ground := Go.Ground.data }], guard := none } : Oper)) (v := .bool true) rfl (by kernel_rfl) (by kernel_rfl) (by kernel_rfl) (fun _ _ _ h => h) (Or.inl ⟨by rfl, fun w' _ => ?_⟩) hHeld ?_
                · go_simp
                try simp only [Act.put, List.setIfInBounds_toArray, List.set_cons_zero, List.set_cons_succ]
                refine wpAnyH_take (i := 16) (oi := ({ dst := some 70, op := Go.Op.move (Go.Operand.tmp 69), type := 4, pos := "law.go:135", after := #[{ on := 15, ground := Go.Ground.data }, { on := 9, ground := Go.Ground.chain }], guard := none } : Oper)) (v := .bool true) rfl (by kernel_rfl) (by kernel_rfl) (by kernel_rfl) (fun _ _ _ h => h) (Or.inl ⟨by rfl, fun w' _ => ?_⟩) hHeld ?_
                · go_simp
                try simp only [Act.put, List.setIfInBounds_toArray, List.set_cons_zero, List.set_cons_succ]
                refine wpAnyH_take (i := 17) (oi := ({ dst := some 71, op := Go.Op.move (Go.Operand.tmp 1), type := 3, pos := "law.go:135", after := #[{ on := 16, ground := Go.Ground.guard }], guard := some (16, true) } : Oper)) (v := .int .i64 0) rfl (by kernel_rfl) (by kernel_rfl) (by kernel_rfl) (fun _ _ _ h => h) (Or.inl ⟨by rfl, fun w' _ => ?_⟩) hHeld ?_
                · go_simp
                try simp only [Act.put, List.setIfInBounds_toArray, List.set_cons_zero, List.set_cons_succ]
                refine wpAnyH_take (i := 18) (oi := ({ dst := some 72, op := Go.Op.binOp Go.BinOp.eql 3 (Go.Operand.tmp 71) (Go.Operand.const (Go.Value.int Go.IntKind.i64 0)) 3, type := 4, pos := "law.go:135", after := #[{ on := 17, ground := Go.Ground.data }, { on := 16, ground := Go.Ground.guard }], guard := some (16, true) } : Oper)) (v := .bool true) rfl (by kernel_rfl) (by kernel_rfl) (by kernel_rfl) (fun _ _ _ h => h) (Or.inl ⟨by rfl, fun w' _ => ?_⟩) hHeld ?_
                · (go_simp; first | done | omega | exact IntWalk.i64_in _ (by omega))
                try simp only [Act.put, List.setIfInBounds_toArray, List.set_cons_zero, List.set_cons_succ]
                refine wpAnyH_take (i := 19) (oi := ({ dst := some 73, op := Go.Op.move (Go.Operand.tmp 72), type := 4, pos := "law.go:135", after := #[{ on := 18, ground := Go.Ground.data }, { on := 16, ground := Go.Ground.chain }, { on := 16, ground := Go.Ground.guard }], guard := some (16, true) } : Oper)) (v := .bool true) rfl (by kernel_rfl) (by kernel_rfl) (by kernel_rfl) (fun _ _ _ h => h) (Or.inl ⟨by rfl, fun w' _ => ?_⟩) hHeld ?_
                · go_simp
                try simp only [Act.put, List.setIfInBounds_toArray, List.set_cons_zero, List.set_cons_succ]
                refine wpAnyH_take (i := 20) (oi := ({ dst := some 74, op := Go.Op.fieldAddr 26 (Go.Operand.tmp 9) 1, type := 0, pos := "law.go:135", after := #[{ on := 19, ground := Go.Ground.guard }], guard := some (19, false) } : Oper)) (v := undef) rfl (by kernel_rfl) (by kernel_rfl) (by kernel_rfl) (fun _ _ _ h => h) (Or.inr ⟨by rfl, rfl⟩) hHeld ?_
                try simp only [Act.put, List.setIfInBounds_toArray, List.set_cons_zero, List.set_cons_succ]
                refine wpAnyH_take (i := 21) (oi := ({ dst := some 75, op := Go.Op.load 24 (Go.Operand.tmp 74), type := 24, pos := "law.go:135", after := #[{ on := 20, ground := Go.Ground.data }, { on := 19, ground := Go.Ground.guard }], guard := some (19, false) } : Oper)) (v := undef) rfl (by kernel_rfl) (by kernel_rfl) (by kernel_rfl) (fun _ _ _ h => h) (Or.inr ⟨by rfl, rfl⟩) hHeld ?_
                try simp only [Act.put, List.setIfInBounds_toArray, List.set_cons_zero, List.set_cons_succ]
                refine wpAnyH_take (i := 22) (oi := ({ dst := some 76, op := Go.Op.move (Go.Operand.tmp 1), type := 3, pos := "law.go:135", after := #[{ on := 19, ground := Go.Ground.guard }], guard := some (19, false) } : Oper)) (v := undef) rfl (by kernel_rfl) (by kernel_rfl) (by kernel_rfl) (fun _ _ _ h => h) (Or.inr ⟨by rfl, rfl⟩) hHeld ?_
                try simp only [Act.put, List.setIfInBounds_toArray, List.set_cons_zero, List.set_cons_succ]
                refine wpAnyH_take (i := 23) (oi := ({ dst := some 77, op := Go.Op.binOp Go.BinOp.sub 3 (Go.Operand.tmp 76) (Go.Operand.const (Go.Value.int Go.IntKind.i64 1)) 3, type := 3, pos := "law.go:135", after := #[{ on := 22, ground := Go.Ground.data }, { on := 19, ground := Go.Ground.guard }], guard := some (19, false) } : Oper)) (v := undef) rfl (by kernel_rfl) (by kernel_rfl) (by kernel_rfl) (fun _ _ _ h => h) (Or.inr ⟨by rfl, rfl⟩) hHeld ?_
                try simp only [Act.put, List.setIfInBounds_toArray, List.set_cons_zero, List.set_cons_succ]
                refine wpAnyH_take (i := 24) (oi := ({ dst := some 78, op := Go.Op.indexAddr 24 (Go.Operand.tmp 75) (Go.Operand.tmp 77), type := 0, pos := "law.go:135", after := #[{ on := 21, ground := Go.Ground.data }, { on := 23, ground := Go.Ground.data }, { on := 19, ground := Go.Ground.guard }], guard := some (19, false) } : Oper)) (v := undef) rfl (by kernel_rfl) (by kernel_rfl) (by kernel_rfl) (fun _ _ _ h => h) (Or.inr ⟨by rfl, rfl⟩) hHeld ?_
                try simp only [Act.put, List.setIfInBounds_toArray, List.set_cons_zero, List.set_cons_succ]
                refine wpAnyH_take (i := 25) (oi := ({ dst := some 79, op := Go.Op.load 9 (Go.Operand.tmp 78), type := 9, pos := "law.go:135", after := #[{ on := 24, ground := Go.Ground.data }, { on := 19, ground := Go.Ground.guard }], guard := some (19, false) } : Oper)) (v := undef) rfl (by kernel_rfl) (by kernel_rfl) (by kernel_rfl) (fun _ _ _ h => h) (Or.inr ⟨by rfl, rfl⟩) hHeld ?_
                try simp only [Act.put, List.setIfInBounds_toArray, List.set_cons_zero, List.set_cons_succ]
                refine wpAnyH_take (i := 26) (oi := ({ dst := some 80, op := Go.Op.move (Go.Operand.tmp 1), type := 3, pos := "law.go:135", after := #[{ on := 19, ground := Go.Ground.guard }], guard := some (19, false) } : Oper)) (v := undef) rfl (by kernel_rfl) (by kernel_rfl) (by kernel_rfl) (fun _ _ _ h => h) (Or.inr ⟨by rfl, rfl⟩) hHeld ?_
                try simp only [Act.put, List.setIfInBounds_toArray, List.set_cons_zero, List.set_cons_succ]
                refine wpAnyH_take (i := 27) (oi := ({ dst := some 81, op := Go.Op.binOp Go.BinOp.sub 3 (Go.Operand.tmp 80) (Go.Operand.const (Go.Value.int Go.IntKind.i64 1)) 3, type := 3, pos := "law.go:135", after := #[{ on := 26, ground := Go.Ground.data }, { on := 19, ground := Go.Ground.guard }], guard := some (19, false) } : Oper)) (v := undef) rfl (by kernel_rfl) (by kernel_rfl) (by kernel_rfl) (fun _ _ _ h => h) (Or.inr ⟨by rfl, rfl⟩) hHeld ?_
                try simp only [Act.put, List.setIfInBounds_toArray, List.set_cons_zero, List.set_cons_succ]
                refine wpAnyH_take (i := 28) (oi := ({ dst := some 82, op := Go.Op.call { callee := Go.Callee.value (Go.Operand.func 18), args := #[Go.Operand.tmp 81], argTypes := #[3] }, type := 9, pos := "law.go:135", after := #[{ on := 27, ground := Go.Ground.data }, { on := 19, ground := Go.Ground.chain }, { on := 19, ground := Go.Ground.guard }], guard := some (19, false) } : Oper)) (v := undef) rfl (by kernel_rfl) (by kernel_rfl) (by kernel_rfl) (fun _ _ _ h => h) (Or.inr ⟨by rfl, rfl⟩) hHeld ?_
                try simp only [Act.put, List.setIfInBounds_toArray, List.set_cons_zero, List.set_cons_succ]
                refine wpAnyH_take (i := 29) (oi := ({ dst := some 83, op := Go.Op.binOp Go.BinOp.add 9 (Go.Operand.const (Go.Value.string { data := #[100] })) (Go.Operand.tmp 82) 9, type := 9, pos := "law.go:135", after := #[{ on := 28, ground := Go.Ground.data }, { on := 19, ground := Go.Ground.guard }], guard := some (19, false) } : Oper)) (v := undef) rfl (by kernel_rfl) (by kernel_rfl) (by kernel_rfl) (fun _ _ _ h => h) (Or.inr ⟨by rfl, rfl⟩) hHeld ?_
                try simp only [Act.put, List.setIfInBounds_toArray, List.set_cons_zero, List.set_cons_succ]
                refine wpAnyH_take (i := 30) (oi := ({ dst := some 84, op := Go.Op.binOp Go.BinOp.eql 9 (Go.Operand.tmp 79) (Go.Operand.tmp 83) 9, type := 4, pos := "law.go:135", after := #[{ on := 25, ground := Go.Ground.data }, { on := 29, ground := Go.Ground.data }, { on := 19, ground := Go.Ground.guard }], guard := some (19, false) } : Oper)) (v := undef) rfl (by kernel_rfl) (by kernel_rfl) (by kernel_rfl) (fun _ _ _ h => h) (Or.inr ⟨by rfl, rfl⟩) hHeld ?_
                try simp only [Act.put, List.setIfInBounds_toArray, List.set_cons_zero, List.set_cons_succ]
                refine wpAnyH_take (i := 31) (oi := ({ dst := some 85, op := Go.Op.pick (Go.Operand.tmp 73) (Go.Operand.const (Go.Value.bool true)) (Go.Operand.tmp 84), type := 4, pos := "law.go:135", after := #[{ on := 19, ground := Go.Ground.data }, { on := 30, ground := Go.Ground.data }, { on := 16, ground := Go.Ground.guard }], guard := some (16, true) } : Oper)) (v := .bool true) rfl (by kernel_rfl) (by kernel_rfl) (by kernel_rfl) (fun _ _ _ h => h) (Or.inl ⟨by rfl, fun w' _ => ?_⟩) hHeld ?_
                · go_simp
                try simp only [Act.put, List.setIfInBounds_toArray, List.set_cons_zero, List.set_cons_succ]
                refine wpAnyH_take (i := 32) (oi := ({ dst := some 86, op := Go.Op.pick (Go.Operand.tmp 70) (Go.Operand.tmp 85) (Go.Operand.const (Go.Value.bool false)), type := 4, pos := "law.go:135", after := #[{ on := 16, ground := Go.Ground.data }, { on := 31, ground := Go.Ground.data }], guard := none } : Oper)) (v := .bool true) rfl (by kernel_rfl) (by kernel_rfl) (by kernel_rfl) (fun _ _ _ h => h) (Or.inl ⟨by rfl, fun w' _ => ?_⟩) hHeld ?_
                · go_simp
                try simp only [Act.put, List.setIfInBounds_toArray, List.set_cons_zero, List.set_cons_succ]
                refine wpAnyH_take (i := 33) (oi := ({ dst := some 87, op := Go.Op.move (Go.Operand.tmp 86), type := 4, pos := "law.go:135", after := #[{ on := 32, ground := Go.Ground.data }, { on := 28, ground := Go.Ground.chain }], guard := none } : Oper)) (v := .bool true) rfl (by kernel_rfl) (by kernel_rfl) (by kernel_rfl) (fun _ _ _ h => h) (Or.inl ⟨by rfl, fun w' _ => ?_⟩) hHeld ?_
                · go_simp
                try simp only [Act.put, List.setIfInBounds_toArray, List.set_cons_zero, List.set_cons_succ]
                refine wpAnyH_take (i := 34) (oi := ({ dst := some 88, op := Go.Op.move (Go.Operand.tmp 0), type := 3, pos := "law.go:135", after := #[{ on := 33, ground := Go.Ground.guard }], guard := some (33, true) } : Oper)) (v := .int .i64 (j : Int)) rfl (by kernel_rfl) (by kernel_rfl) (by kernel_rfl) (fun _ _ _ h => h) (Or.inl ⟨by rfl, fun w' _ => ?_⟩) hHeld ?_
                · go_simp
                try simp only [Act.put, List.setIfInBounds_toArray, List.set_cons_zero, List.set_cons_succ]
                refine wpAnyH_take (i := 35) (oi := ({ dst := some 89, op := Go.Op.binOp Go.BinOp.eql 3 (Go.Operand.tmp 88) (Go.Operand.const (Go.Value.int Go.IntKind.i64 0)) 3, type := 4, pos := "law.go:135", after := #[{ on := 34, ground := Go.Ground.data }, { on := 33, ground := Go.Ground.guard }], guard := some (33, true) } : Oper)) (v := .bool false) rfl (by kernel_rfl) (by kernel_rfl) (by kernel_rfl) (fun _ _ _ h => h) (Or.inl ⟨by rfl, fun w' _ => ?_⟩) hHeld ?_
                · go_simp
                try simp only [Act.put, List.setIfInBounds_toArray, List.set_cons_zero, List.set_cons_succ]
                refine wpAnyH_take (i := 36) (oi := ({ dst := some 90, op := Go.Op.move (Go.Operand.tmp 89), type := 4, pos := "law.go:135", after := #[{ on := 35, ground := Go.Ground.data }, { on := 33, ground := Go.Ground.chain }, { on := 33, ground := Go.Ground.guard }], guard := some (33, true) } : Oper)) (v := .bool false) rfl (by kernel_rfl) (by kernel_rfl) (by kernel_rfl) (fun _ _ _ h => h) (Or.inl ⟨by rfl, fun w' _ => ?_⟩) hHeld ?_
                · go_simp
                try simp only [Act.put, List.setIfInBounds_toArray, List.set_cons_zero, List.set_cons_succ]
                refine wpAnyH_take (i := 37) (oi := ({ dst := some 91, op := Go.Op.fieldAddr 26 (Go.Operand.tmp 9) 0, type := 0, pos := "law.go:135", after := #[{ on := 36, ground := Go.Ground.guard }], guard := some (36, false) } : Oper)) (v := .pointer (some ⟨gw, 0, none⟩)) rfl (by kernel_rfl) (by kernel_rfl) (by kernel_rfl) (fun _ _ _ h => h) (Or.inl ⟨by rfl, fun w' _ => ?_⟩) hHeld ?_
                · go_simp
                try simp only [Act.put, List.setIfInBounds_toArray, List.set_cons_zero, List.set_cons_succ]
                refine wpAnyH_take (i := 38) (oi := ({ dst := some 92, op := Go.Op.load 23 (Go.Operand.tmp 91), type := 23, pos := "law.go:135", after := #[{ on := 37, ground := Go.Ground.data }, { on := 36, ground := Go.Ground.guard }], guard := some (36, false) } : Oper)) (v := .slice (some ⟨bs, 0, none⟩) j ca) rfl (by kernel_rfl) (by kernel_rfl) (by kernel_rfl) (fun _ _ _ h => h) (Or.inl ⟨by rfl, fun w' hS' => ?_⟩) hHeld ?_
                · have hcell := K0.out _ hS'
                  go_simp
                try simp only [Act.put, List.setIfInBounds_toArray, List.set_cons_zero, List.set_cons_succ]
                refine wpAnyH_take (i := 39) (oi := ({ dst := some 93, op := Go.Op.indexAddr 23 (Go.Operand.tmp 92) (Go.Operand.const (Go.Value.int Go.IntKind.i64 0)), type := 0, pos := "law.go:135", after := #[{ on := 38, ground := Go.Ground.data }, { on := 36, ground := Go.Ground.guard }], guard := some (36, false) } : Oper)) (v := .pointer (some ⟨bs, 0, none⟩)) rfl (by kernel_rfl) (by kernel_rfl) (by kernel_rfl) (fun _ _ _ h => h) (Or.inl ⟨by rfl, fun w' _ => ?_⟩) hHeld ?_
                · go_simp
                try simp only [Act.put, List.setIfInBounds_toArray, List.set_cons_zero, List.set_cons_succ]
                refine wpAnyH_take (i := 40) (oi := ({ dst := some 94, op := Go.Op.load 48 (Go.Operand.tmp 93), type := 48, pos := "law.go:135", after := #[{ on := 39, ground := Go.Ground.data }, { on := 36, ground := Go.Ground.guard }], guard := some (36, false) } : Oper)) (v := .agg cs.toArray) rfl (by kernel_rfl) (by kernel_rfl) (by kernel_rfl) (fun _ _ _ h => h) (yieldsIf_load_mid (by rfl) _ _ rfl _ _ rfl _ _ (fun W hW => HRA.out W hW) Tryz.underlying48 rfl HSv.out) hHeld ?_
                try simp only [Act.put, List.setIfInBounds_toArray, List.set_cons_zero, List.set_cons_succ]
                refine wpAnyH_ready (rs := [41]) (by kernel_rfl) (by simp) ?_
                refine AllReadyH.cons (o := ({ dst := some 95, op := Go.Op.call { callee := Go.Callee.value (Go.Operand.func 20), args := #[Go.Operand.const (Go.Value.int Go.IntKind.u8 10), Go.Operand.const (Go.Value.int Go.IntKind.u8 0), Go.Operand.const (Go.Value.int Go.IntKind.u8 0), Go.Operand.const (Go.Value.int Go.IntKind.u8 0)], argTypes := #[5, 5, 5, 5] }, type := 48, pos := "law.go:135", after := #[{ on := 36, ground := Go.Ground.chain }, { on := 36, ground := Go.Ground.guard }], guard := some (36, false) } : Oper)) rfl (fun K hK => ?_) AllReadyH.nil
                go_simp
                go_at_call 20
                refine (HV4.out _).mono ?_
                rintro e' u2 ⟨rfl, hbb⟩
                refine hK.out _ _ (hHeld.trans (hbb.mono hHeld.size)) (fun hHeld2 => ?_)
                clear hK K hbb
                try simp only [Act.put, List.setIfInBounds_toArray, List.set_cons_zero, List.set_cons_succ]
                refine wpAnyH_take (i := 42) (oi := ({ dst := some 96, op := Go.Op.binOp Go.BinOp.eql 48 (Go.Operand.tmp 94) (Go.Operand.tmp 95) 48, type := 4, pos := "law.go:135", after := #[{ on := 40, ground := Go.Ground.data }, { on := 41, ground := Go.Ground.data }, { on := 36, ground := Go.Ground.guard }], guard := some (36, false) } : Oper)) (v := .bool true) rfl (by kernel_rfl) (by kernel_rfl) (by kernel_rfl) (fun _ _ _ h => h) (Or.inl ⟨by rfl, fun w' _ => ?_⟩) hHeld2 ?_
                · go_simp
                try simp only [Act.put, List.setIfInBounds_toArray, List.set_cons_zero, List.set_cons_succ]
                refine wpAnyH_take (i := 43) (oi := ({ dst := some 97, op := Go.Op.pick (Go.Operand.tmp 90) (Go.Operand.const (Go.Value.bool true)) (Go.Operand.tmp 96), type := 4, pos := "law.go:135", after := #[{ on := 36, ground := Go.Ground.data }, { on := 42, ground := Go.Ground.data }, { on := 33, ground := Go.Ground.guard }], guard := some (33, true) } : Oper)) (v := .bool true) rfl (by kernel_rfl) (by kernel_rfl) (by kernel_rfl) (fun _ _ _ h => h) (Or.inl ⟨by rfl, fun w' _ => ?_⟩) hHeld2 ?_
                · go_simp
                try simp only [Act.put, List.setIfInBounds_toArray, List.set_cons_zero, List.set_cons_succ]
                refine wpAnyH_take (i := 44) (oi := ({ dst := some 98, op := Go.Op.pick (Go.Operand.tmp 87) (Go.Operand.tmp 97) (Go.Operand.const (Go.Value.bool false)), type := 4, pos := "law.go:135", after := #[{ on := 33, ground := Go.Ground.data }, { on := 43, ground := Go.Ground.data }], guard := none } : Oper)) (v := .bool true) rfl (by kernel_rfl) (by kernel_rfl) (by kernel_rfl) (fun _ _ _ h => h) (Or.inl ⟨by rfl, fun w' _ => ?_⟩) hHeld2 ?_
                · go_simp
                try simp only [Act.put, List.setIfInBounds_toArray, List.set_cons_zero, List.set_cons_succ]
                refine wpAnyH_take (i := 45) (oi := ({ dst := some 4, op := Go.Op.assign (Go.Operand.tmp 98), type := 4, pos := "law.go:135", after := #[{ on := 44, ground := Go.Ground.data }, { on := 41, ground := Go.Ground.chain }, { on := 0, ground := Go.Ground.phase }, { on := 1, ground := Go.Ground.phase }, { on := 2, ground := Go.Ground.phase }, { on := 3, ground := Go.Ground.phase }, { on := 4, ground := Go.Ground.phase }, { on := 5, ground := Go.Ground.phase }, { on := 6, ground := Go.Ground.phase }, { on := 7, ground := Go.Ground.phase }, { on := 8, ground := Go.Ground.phase }, { on := 9, ground := Go.Ground.phase }, { on := 10, ground := Go.Ground.phase }, { on := 11, ground := Go.Ground.phase }, { on := 12, ground := Go.Ground.phase }, { on := 13, ground := Go.Ground.phase }, { on := 14, ground := Go.Ground.phase }, { on := 15, ground := Go.Ground.phase }, { on := 16, ground := Go.Ground.phase }, { on := 17, ground := Go.Ground.phase }, { on := 18, ground := Go.Ground.phase }, { on := 19, ground := Go.Ground.phase }, { on := 20, ground := Go.Ground.phase }, { on := 21, ground := Go.Ground.phase }, { on := 22, ground := Go.Ground.phase }, { on := 23, ground := Go.Ground.phase }, { on := 24, ground := Go.Ground.phase }, { on := 25, ground := Go.Ground.phase }, { on := 26, ground := Go.Ground.phase }, { on := 27, ground := Go.Ground.phase }, { on := 28, ground := Go.Ground.phase }, { on := 29, ground := Go.Ground.phase }, { on := 30, ground := Go.Ground.phase }, { on := 31, ground := Go.Ground.phase }, { on := 32, ground := Go.Ground.phase }, { on := 33, ground := Go.Ground.phase }, { on := 34, ground := Go.Ground.phase }, { on := 35, ground := Go.Ground.phase }, { on := 36, ground := Go.Ground.phase }, { on := 37, ground := Go.Ground.phase }, { on := 38, ground := Go.Ground.phase }, { on := 39, ground := Go.Ground.phase }, { on := 40, ground := Go.Ground.phase }, { on := 41, ground := Go.Ground.phase }, { on := 42, ground := Go.Ground.phase }, { on := 43, ground := Go.Ground.phase }, { on := 44, ground := Go.Ground.phase }], guard := none } : Oper)) (v := .bool true) rfl (by kernel_rfl) (by kernel_rfl) (by kernel_rfl) (fun _ _ _ h => h) (Or.inl ⟨by rfl, fun w' _ => ?_⟩) hHeld2 ?_
                · go_simp
                try simp only [Act.put, List.setIfInBounds_toArray, List.set_cons_zero, List.set_cons_succ]
                refine wpAnyH_done (by kernel_rfl) ?_ _
                have HBn := Lib.hid (HB7.out.trans (hHeld2.mono HB7.out.size))
                go_wp2_with fail
                go_ret
                exact ⟨rfl, HBn.out⟩
            · have hkI0 : ¬ (k : Int) = 0 := by omega
              have hk1 : (1 : Int) ≤ (k : Int) := by omega
              obtain ⟨be, rfl, hel, hce⟩ := HE7.out.row (k := k - 1) (a := lsD (k - 1)) (by show (lsDs k)[k - 1]? = some (lsD (k - 1)); unfold lsDs; rw [List.getElem?_map, List.getElem?_range (by omega)]; rfl)
              have hce' : Hid (∀ W, Below W7.heap.size W7 W → W.cell? ⟨be, k - 1, none⟩ = some (.string (tb (lsD (k - 1))))) := Lib.hid (fun W hW => (hW.cell (p := ⟨be, k - 1, none⟩) hel).trans hce)
              have HDg := Lib.hid (digB_e (k - 1) (by omega))
              have htd : tb (lsD (k - 1)) = ⟨#[100]⟩ ++ ⟨#[UInt8.ofNat (48 + (k - 1))]⟩ := bytes_inj (by simp [lsD, tb_data])
              rw [htd] at hce'
              have hz0 : (ByteArray.mk #[UInt8.ofNat (48 + (k - 1))]).size = 1 := rfl
              generalize ByteArray.mk #[UInt8.ofNat (48 + (k - 1))] = D at hce' HDg hz0
              have hz1 : (ByteArray.mk #[100]).size = 1 := rfl
              have hAd := fun W => run_string_add_sum (P := Tryz.prog) (w := W) ⟨#[100]⟩ D (by omega)
              generalize (⟨#[100]⟩ ++ D : ByteArray) = XD at hAd hce'
              obtain ⟨q, hq⟩ : ∃ q, q = k - 1 := ⟨_, rfl⟩
              have hqk : k = q + 1 := by omega
              rw [← hq] at hce' HDg
              subst hqk
              have hqI : ((q + 1 : Nat) : Int) - 1 = (q : Int) := by omega
              have hqI2 : (q : Int) + 1 - 1 = (q : Int) := by omega
              have hqn : (q : Int) < (q : Int) + 1 := by omega
              clear hce hel htd hz0 hz1 hq
              by_cases hj0 : j = 0
              · subst hj0
                refine wp_region_held_drew (S := (fun W : World => Below W7.heap.size W7 W)) (by kernel_rfl) (Below.refl _ W7).drew (fun hHeld => ?_)
                refine wpAnyH_take (i := 0) (oi := ({ dst := some 54, op := Go.Op.move (Go.Operand.tmp 10), type := 28, pos := "law.go:135", after := #[], guard := none } : Oper)) (v := .nilIface) rfl (by kernel_rfl) (by kernel_rfl) (by kernel_rfl) (fun _ _ _ h => h) (Or.inl ⟨by rfl, fun w' _ => ?_⟩) hHeld ?_
                · go_simp
                try simp only [Act.put, List.setIfInBounds_toArray, List.set_cons_zero, List.set_cons_succ]
                refine wpAnyH_take (i := 1) (oi := ({ dst := some 55, op := Go.Op.binOp Go.BinOp.eql 28 (Go.Operand.tmp 54) (Go.Operand.const Go.Value.nilIface) 28, type := 4, pos := "law.go:135", after := #[{ on := 0, ground := Go.Ground.data }], guard := none } : Oper)) (v := .bool true) rfl (by kernel_rfl) (by kernel_rfl) (by kernel_rfl) (fun _ _ _ h => h) (Or.inl ⟨by rfl, fun w' _ => ?_⟩) hHeld ?_
                · go_simp
                try simp only [Act.put, List.setIfInBounds_toArray, List.set_cons_zero, List.set_cons_succ]
                refine wpAnyH_take (i := 2) (oi := ({ dst := some 56, op := Go.Op.move (Go.Operand.tmp 55), type := 4, pos := "law.go:135", after := #[{ on := 1, ground := Go.Ground.data }], guard := none } : Oper)) (v := .bool true) rfl (by kernel_rfl) (by kernel_rfl) (by kernel_rfl) (fun _ _ _ h => h) (Or.inl ⟨by rfl, fun w' _ => ?_⟩) hHeld ?_
                · go_simp
                try simp only [Act.put, List.setIfInBounds_toArray, List.set_cons_zero, List.set_cons_succ]
                refine wpAnyH_take (i := 3) (oi := ({ dst := some 57, op := Go.Op.fieldAddr 26 (Go.Operand.tmp 9) 0, type := 0, pos := "law.go:135", after := #[{ on := 2, ground := Go.Ground.guard }], guard := some (2, true) } : Oper)) (v := .pointer (some ⟨gw, 0, none⟩)) rfl (by kernel_rfl) (by kernel_rfl) (by kernel_rfl) (fun _ _ _ h => h) (Or.inl ⟨by rfl, fun w' _ => ?_⟩) hHeld ?_
                · go_simp
                try simp only [Act.put, List.setIfInBounds_toArray, List.set_cons_zero, List.set_cons_succ]
                refine wpAnyH_take (i := 4) (oi := ({ dst := some 58, op := Go.Op.load 23 (Go.Operand.tmp 57), type := 23, pos := "law.go:135", after := #[{ on := 3, ground := Go.Ground.data }, { on := 2, ground := Go.Ground.guard }], guard := some (2, true) } : Oper)) (v := .slice A 0 ca) rfl (by kernel_rfl) (by kernel_rfl) (by kernel_rfl) (fun _ _ _ h => h) (Or.inl ⟨by rfl, fun w' hS' => ?_⟩) hHeld ?_
                · have hcell := K0.out _ hS'
                  go_simp
                try simp only [Act.put, List.setIfInBounds_toArray, List.set_cons_zero, List.set_cons_succ]
                refine wpAnyH_take (i := 5) (oi := ({ dst := some 59, op := Go.Op.call { callee := Go.Callee.builtin Go.Builtin.len, args := #[Go.Operand.tmp 58], argTypes := #[23] }, type := 3, pos := "law.go:135", after := #[{ on := 4, ground := Go.Ground.data }, { on := 2, ground := Go.Ground.guard }], guard := some (2, true) } : Oper)) (v := .int .i64 0) rfl (by kernel_rfl) (by kernel_rfl) (by kernel_rfl) (fun _ _ _ h => h) (Or.inl ⟨by rfl, fun w' _ => ?_⟩) hHeld ?_
                · go_simp
                try simp only [Act.put, List.setIfInBounds_toArray, List.set_cons_zero, List.set_cons_succ]
                refine wpAnyH_take (i := 6) (oi := ({ dst := some 60, op := Go.Op.move (Go.Operand.tmp 0), type := 3, pos := "law.go:135", after := #[{ on := 2, ground := Go.Ground.guard }], guard := some (2, true) } : Oper)) (v := .int .i64 0) rfl (by kernel_rfl) (by kernel_rfl) (by kernel_rfl) (fun _ _ _ h => h) (Or.inl ⟨by rfl, fun w' _ => ?_⟩) hHeld ?_
                · go_simp
                try simp only [Act.put, List.setIfInBounds_toArray, List.set_cons_zero, List.set_cons_succ]
                refine wpAnyH_take (i := 7) (oi := ({ dst := some 61, op := Go.Op.binOp Go.BinOp.eql 3 (Go.Operand.tmp 59) (Go.Operand.tmp 60) 3, type := 4, pos := "law.go:135", after := #[{ on := 5, ground := Go.Ground.data }, { on := 6, ground := Go.Ground.data }, { on := 2, ground := Go.Ground.guard }], guard := some (2, true) } : Oper)) (v := .bool true) rfl (by kernel_rfl) (by kernel_rfl) (by kernel_rfl) (fun _ _ _ h => h) (Or.inl ⟨by rfl, fun w' _ => ?_⟩) hHeld ?_
                · go_simp
                try simp only [Act.put, List.setIfInBounds_toArray, List.set_cons_zero, List.set_cons_succ]
                refine wpAnyH_take (i := 8) (oi := ({ dst := some 62, op := Go.Op.pick (Go.Operand.tmp 56) (Go.Operand.tmp 61) (Go.Operand.const (Go.Value.bool false)), type := 4, pos := "law.go:135", after := #[{ on := 2, ground := Go.Ground.data }, { on := 7, ground := Go.Ground.data }], guard := none } : Oper)) (v := .bool true) rfl (by kernel_rfl) (by kernel_rfl) (by kernel_rfl) (fun _ _ _ h => h) (Or.inl ⟨by rfl, fun w' _ => ?_⟩) hHeld ?_
                · go_simp
                try simp only [Act.put, List.setIfInBounds_toArray, List.set_cons_zero, List.set_cons_succ]
                refine wpAnyH_take (i := 9) (oi := ({ dst := some 63, op := Go.Op.move (Go.Operand.tmp 62), type := 4, pos := "law.go:135", after := #[{ on := 8, ground := Go.Ground.data }, { on := 2, ground := Go.Ground.chain }], guard := none } : Oper)) (v := .bool true) rfl (by kernel_rfl) (by kernel_rfl) (by kernel_rfl) (fun _ _ _ h => h) (Or.inl ⟨by rfl, fun w' _ => ?_⟩) hHeld ?_
                · go_simp
                try simp only [Act.put, List.setIfInBounds_toArray, List.set_cons_zero, List.set_cons_succ]
                refine wpAnyH_take (i := 10) (oi := ({ dst := some 64, op := Go.Op.fieldAddr 26 (Go.Operand.tmp 9) 1, type := 0, pos := "law.go:135", after := #[{ on := 9, ground := Go.Ground.guard }], guard := some (9, true) } : Oper)) (v := .pointer (some ⟨gw, 1, none⟩)) rfl (by kernel_rfl) (by kernel_rfl) (by kernel_rfl) (fun _ _ _ h => h) (Or.inl ⟨by rfl, fun w' _ => ?_⟩) hHeld ?_
                · go_simp
                try simp only [Act.put, List.setIfInBounds_toArray, List.set_cons_zero, List.set_cons_succ]
                refine wpAnyH_take (i := 11) (oi := ({ dst := some 65, op := Go.Op.load 24 (Go.Operand.tmp 64), type := 24, pos := "law.go:135", after := #[{ on := 10, ground := Go.Ground.data }, { on := 9, ground := Go.Ground.guard }], guard := some (9, true) } : Oper)) (v := .slice (some ⟨be, 0, none⟩) (q + 1) (q + 1)) rfl (by kernel_rfl) (by kernel_rfl) (by kernel_rfl) (fun _ _ _ h => h) (Or.inl ⟨by rfl, fun w' hS' => ?_⟩) hHeld ?_
                · have hcell := K1.out _ hS'
                  go_simp
                try simp only [Act.put, List.setIfInBounds_toArray, List.set_cons_zero, List.set_cons_succ]
                refine wpAnyH_take (i := 12) (oi := ({ dst := some 66, op := Go.Op.call { callee := Go.Callee.builtin Go.Builtin.len, args := #[Go.Operand.tmp 65], argTypes := #[24] }, type := 3, pos := "law.go:135", after := #[{ on := 11, ground := Go.Ground.data }, { on := 9, ground := Go.Ground.guard }], guard := some (9, true) } : Oper)) (v := .int .i64 ((q + 1 : Nat) : Int)) rfl (by kernel_rfl) (by kernel_rfl) (by kernel_rfl) (fun _ _ _ h => h) (Or.inl ⟨by rfl, fun w' _ => ?_⟩) hHeld ?_
                · go_simp
                try simp only [Act.put, List.setIfInBounds_toArray, List.set_cons_zero, List.set_cons_succ]
                refine wpAnyH_take (i := 13) (oi := ({ dst := some 67, op := Go.Op.move (Go.Operand.tmp 1), type := 3, pos := "law.go:135", after := #[{ on := 9, ground := Go.Ground.guard }], guard := some (9, true) } : Oper)) (v := .int .i64 ((q + 1 : Nat) : Int)) rfl (by kernel_rfl) (by kernel_rfl) (by kernel_rfl) (fun _ _ _ h => h) (Or.inl ⟨by rfl, fun w' _ => ?_⟩) hHeld ?_
                · go_simp
                try simp only [Act.put, List.setIfInBounds_toArray, List.set_cons_zero, List.set_cons_succ]
                refine wpAnyH_take (i := 14) (oi := ({ dst := some 68, op := Go.Op.binOp Go.BinOp.eql 3 (Go.Operand.tmp 66) (Go.Operand.tmp 67) 3, type := 4, pos := "law.go:135", after := #[{ on := 12, ground := Go.Ground.data }, { on := 13, ground := Go.Ground.data }, { on := 9, ground := Go.Ground.guard }], guard := some (9, true) } : Oper)) (v := .bool true) rfl (by kernel_rfl) (by kernel_rfl) (by kernel_rfl) (fun _ _ _ h => h) (Or.inl ⟨by rfl, fun w' _ => ?_⟩) hHeld ?_
                · go_simp
                try simp only [Act.put, List.setIfInBounds_toArray, List.set_cons_zero, List.set_cons_succ]
                refine wpAnyH_take (i := 15) (oi := ({ dst := some 69, op := Go.Op.pick (Go.Operand.tmp 63) (Go.Operand.tmp 68) (Go.Operand.const (Go.Value.bool false)), type := 4, pos := "law.go:135", after := #[{ on := 9, ground := Go.Ground.data }, { on := 14, ground := Go.Ground.data }], guard := none } : Oper)) (v := .bool true) rfl (by kernel_rfl) (by kernel_rfl) (by kernel_rfl) (fun _ _ _ h => h) (Or.inl ⟨by rfl, fun w' _ => ?_⟩) hHeld ?_
                · go_simp
                try simp only [Act.put, List.setIfInBounds_toArray, List.set_cons_zero, List.set_cons_succ]
                refine wpAnyH_take (i := 16) (oi := ({ dst := some 70, op := Go.Op.move (Go.Operand.tmp 69), type := 4, pos := "law.go:135", after := #[{ on := 15, ground := Go.Ground.data }, { on := 9, ground := Go.Ground.chain }], guard := none } : Oper)) (v := .bool true) rfl (by kernel_rfl) (by kernel_rfl) (by kernel_rfl) (fun _ _ _ h => h) (Or.inl ⟨by rfl, fun w' _ => ?_⟩) hHeld ?_
                · go_simp
                try simp only [Act.put, List.setIfInBounds_toArray, List.set_cons_zero, List.set_cons_succ]
                refine wpAnyH_take (i := 17) (oi := ({ dst := some 71, op := Go.Op.move (Go.Operand.tmp 1), type := 3, pos := "law.go:135", after := #[{ on := 16, ground := Go.Ground.guard }], guard := some (16, true) } : Oper)) (v := .int .i64 ((q + 1 : Nat) : Int)) rfl (by kernel_rfl) (by kernel_rfl) (by kernel_rfl) (fun _ _ _ h => h) (Or.inl ⟨by rfl, fun w' _ => ?_⟩) hHeld ?_
                · go_simp
                try simp only [Act.put, List.setIfInBounds_toArray, List.set_cons_zero, List.set_cons_succ]
                refine wpAnyH_take (i := 18) (oi := ({ dst := some 72, op := Go.Op.binOp Go.BinOp.eql 3 (Go.Operand.tmp 71) (Go.Operand.const (Go.Value.int Go.IntKind.i64 0)) 3, type := 4, pos := "law.go:135", after := #[{ on := 17, ground := Go.Ground.data }, { on := 16, ground := Go.Ground.guard }], guard := some (16, true) } : Oper)) (v := .bool false) rfl (by kernel_rfl) (by kernel_rfl) (by kernel_rfl) (fun _ _ _ h => h) (Or.inl ⟨by rfl, fun w' _ => ?_⟩) hHeld ?_
                · (go_simp; first | done | omega | exact IntWalk.i64_in _ (by omega))
                try simp only [Act.put, List.setIfInBounds_toArray, List.set_cons_zero, List.set_cons_succ]
                refine wpAnyH_take (i := 19) (oi := ({ dst := some 73, op := Go.Op.move (Go.Operand.tmp 72), type := 4, pos := "law.go:135", after := #[{ on := 18, ground := Go.Ground.data }, { on := 16, ground := Go.Ground.chain }, { on := 16, ground := Go.Ground.guard }], guard := some (16, true) } : Oper)) (v := .bool false) rfl (by kernel_rfl) (by kernel_rfl) (by kernel_rfl) (fun _ _ _ h => h) (Or.inl ⟨by rfl, fun w' _ => ?_⟩) hHeld ?_
                · go_simp
                try simp only [Act.put, List.setIfInBounds_toArray, List.set_cons_zero, List.set_cons_succ]
                refine wpAnyH_take (i := 20) (oi := ({ dst := some 74, op := Go.Op.fieldAddr 26 (Go.Operand.tmp 9) 1, type := 0, pos := "law.go:135", after := #[{ on := 19, ground := Go.Ground.guard }], guard := some (19, false) } : Oper)) (v := .pointer (some ⟨gw, 1, none⟩)) rfl (by kernel_rfl) (by kernel_rfl) (by kernel_rfl) (fun _ _ _ h => h) (Or.inl ⟨by rfl, fun w' _ => ?_⟩) hHeld ?_
                · go_simp
                try simp only [Act.put, List.setIfInBounds_toArray, List.set_cons_zero, List.set_cons_succ]
                refine wpAnyH_take (i := 21) (oi := ({ dst := some 75, op := Go.Op.load 24 (Go.Operand.tmp 74), type := 24, pos := "law.go:135", after := #[{ on := 20, ground := Go.Ground.data }, { on := 19, ground := Go.Ground.guard }], guard := some (19, false) } : Oper)) (v := .slice (some ⟨be, 0, none⟩) (q + 1) (q + 1)) rfl (by kernel_rfl) (by kernel_rfl) (by kernel_rfl) (fun _ _ _ h => h) (Or.inl ⟨by rfl, fun w' hS' => ?_⟩) hHeld ?_
                · have hcell := K1.out _ hS'
                  go_simp
                try simp only [Act.put, List.setIfInBounds_toArray, List.set_cons_zero, List.set_cons_succ]
                refine wpAnyH_take (i := 22) (oi := ({ dst := some 76, op := Go.Op.move (Go.Operand.tmp 1), type := 3, pos := "law.go:135", after := #[{ on := 19, ground := Go.Ground.guard }], guard := some (19, false) } : Oper)) (v := .int .i64 ((q + 1 : Nat) : Int)) rfl (by kernel_rfl) (by kernel_rfl) (by kernel_rfl) (fun _ _ _ h => h) (Or.inl ⟨by rfl, fun w' _ => ?_⟩) hHeld ?_
                · go_simp
                try simp only [Act.put, List.setIfInBounds_toArray, List.set_cons_zero, List.set_cons_succ]
                refine wpAnyH_take (i := 23) (oi := ({ dst := some 77, op := Go.Op.binOp Go.BinOp.sub 3 (Go.Operand.tmp 76) (Go.Operand.const (Go.Value.int Go.IntKind.i64 1)) 3, type := 3, pos := "law.go:135", after := #[{ on := 22, ground := Go.Ground.data }, { on := 19, ground := Go.Ground.guard }], guard := some (19, false) } : Oper)) (v := .int .i64 q) rfl (by kernel_rfl) (by kernel_rfl) (by kernel_rfl) (fun _ _ _ h => h) (Or.inl ⟨by rfl, fun w' _ => ?_⟩) hHeld ?_
                · (go_simp; first | done | omega | exact IntWalk.i64_in _ (by omega))
                try simp only [Act.put, List.setIfInBounds_toArray, List.set_cons_zero, List.set_cons_succ]
                refine wpAnyH_take (i := 24) (oi := ({ dst := some 78, op := Go.Op.indexAddr 24 (Go.Operand.tmp 75) (Go.Operand.tmp 77), type := 0, pos := "law.go:135", after := #[{ on := 21, ground := Go.Ground.data }, { on := 23, ground := Go.Ground.data }, { on := 19, ground := Go.Ground.guard }], guard := some (19, false) } : Oper)) (v := .pointer (some ⟨be, q, none⟩)) rfl (by kernel_rfl) (by kernel_rfl) (by kernel_rfl) (fun _ _ _ h => h) (Or.inl ⟨by rfl, fun w' _ => ?_⟩) hHeld ?_
                · go_simp
                try simp only [Act.put, List.setIfInBounds_toArray, List.set_cons_zero, List.set_cons_succ]
                refine wpAnyH_take (i := 25) (oi := ({ dst := some 79, op := Go.Op.load 9 (Go.Operand.tmp 78), type := 9, pos := "law.go:135", after := #[{ on := 24, ground := Go.Ground.data }, { on := 19, ground := Go.Ground.guard }], guard := some (19, false) } : Oper)) (v := .string XD) rfl (by kernel_rfl) (by kernel_rfl) (by kernel_rfl) (fun _ _ _ h => h) (Or.inl ⟨by rfl, fun w' hS' => ?_⟩) hHeld ?_
                · have hcell := hce'.out _ hS'
                  go_simp
                try simp only [Act.put, List.setIfInBounds_toArray, List.set_cons_zero, List.set_cons_succ]
                refine wpAnyH_take (i := 26) (oi := ({ dst := some 80, op := Go.Op.move (Go.Operand.tmp 1), type := 3, pos := "law.go:135", after := #[{ on := 19, ground := Go.Ground.guard }], guard := some (19, false) } : Oper)) (v := .int .i64 ((q + 1 : Nat) : Int)) rfl (by kernel_rfl) (by kernel_rfl) (by kernel_rfl) (fun _ _ _ h => h) (Or.inl ⟨by rfl, fun w' _ => ?_⟩) hHeld ?_
                · go_simp
                try simp only [Act.put, List.setIfInBounds_toArray, List.set_cons_zero, List.set_cons_succ]
                refine wpAnyH_take (i := 27) (oi := ({ dst := some 81, op := Go.Op.binOp Go.BinOp.sub 3 (Go.Operand.tmp 80) (Go.Operand.const (Go.Value.int Go.IntKind.i64 1)) 3, type := 3, pos := "law.go:135", after := #[{ on := 26, ground := Go.Ground.data }, { on := 19, ground := Go.Ground.guard }], guard := some (19, false) } : Oper)) (v := .int .i64 q) rfl (by kernel_rfl) (by kernel_rfl) (by kernel_rfl) (fun _ _ _ h => h) (Or.inl ⟨by rfl, fun w' _ => ?_⟩) hHeld ?_
                · (go_simp; first | done | omega | exact IntWalk.i64_in _ (by omega))
                try simp only [Act.put, List.setIfInBounds_toArray, List.set_cons_zero, List.set_cons_succ]
                refine wpAnyH_ready (rs := [28]) (by kernel_rfl) (by simp) ?_
                refine AllReadyH.cons (o := ({ dst := some 82, op := Go.Op.call { callee := Go.Callee.value (Go.Operand.func 18), args := #[Go.Operand.tmp 81], argTypes := #[3] }, type := 9, pos := "law.go:135", after := #[{ on := 27, ground := Go.Ground.data }, { on := 19, ground := Go.Ground.chain }, { on := 19, ground := Go.Ground.guard }], guard := some (19, false) } : Oper)) rfl (fun K hK => ?_) AllReadyH.nil
                go_simp
                go_at_call 18
                refine (HDg.out _).mono ?_
                rintro e' u1 ⟨rfl, hbb⟩
                refine hK.out _ _ (hHeld.trans (hbb.mono hHeld.size)) (fun hHeld1 => ?_)
                clear hK K hbb
                try simp only [Act.put, List.setIfInBounds_toArray, List.set_cons_zero, List.set_cons_succ]
                refine wpAnyH_take (i := 29) (oi := ({ dst := some 83, op := Go.Op.binOp Go.BinOp.add 9 (Go.Operand.const (Go.Value.string { data := #[100] })) (Go.Operand.tmp 82) 9, type := 9, pos := "law.go:135", after := #[{ on := 28, ground := Go.Ground.data }, { on := 19, ground := Go.Ground.guard }], guard := some (19, false) } : Oper)) (v := .string XD) rfl (by kernel_rfl) (by kernel_rfl) (by kernel_rfl) (fun _ _ _ h => h) (Or.inl ⟨by rfl, fun w' _ => ?_⟩) hHeld1 ?_
                · go_simp
                try simp only [Act.put, List.setIfInBounds_toArray, List.set_cons_zero, List.set_cons_succ]
                refine wpAnyH_take (i := 30) (oi := ({ dst := some 84, op := Go.Op.binOp Go.BinOp.eql 9 (Go.Operand.tmp 79) (Go.Operand.tmp 83) 9, type := 4, pos := "law.go:135", after := #[{ on := 25, ground := Go.Ground.data }, { on := 29, ground := Go.Ground.data }, { on := 19, ground := Go.Ground.guard }], guard := some (19, false) } : Oper)) (v := .bool true) rfl (by kernel_rfl) (by kernel_rfl) (by kernel_rfl) (fun _ _ _ h => h) (Or.inl ⟨by rfl, fun w' _ => ?_⟩) hHeld1 ?_
                · go_simp
                try simp only [Act.put, List.setIfInBounds_toArray, List.set_cons_zero, List.set_cons_succ]
                refine wpAnyH_take (i := 31) (oi := ({ dst := some 85, op := Go.Op.pick (Go.Operand.tmp 73) (Go.Operand.const (Go.Value.bool true)) (Go.Operand.tmp 84), type := 4, pos := "law.go:135", after := #[{ on := 19, ground := Go.Ground.data }, { on := 30, ground := Go.Ground.data }, { on := 16, ground := Go.Ground.guard }], guard := some (16, true) } : Oper)) (v := .bool true) rfl (by kernel_rfl) (by kernel_rfl) (by kernel_rfl) (fun _ _ _ h => h) (Or.inl ⟨by rfl, fun w' _ => ?_⟩) hHeld1 ?_
                · go_simp
                try simp only [Act.put, List.setIfInBounds_toArray, List.set_cons_zero, List.set_cons_succ]
                refine wpAnyH_take (i := 32) (oi := ({ dst := some 86, op := Go.Op.pick (Go.Operand.tmp 70) (Go.Operand.tmp 85) (Go.Operand.const (Go.Value.bool false)), type := 4, pos := "law.go:135", after := #[{ on := 16, ground := Go.Ground.data }, { on := 31, ground := Go.Ground.data }], guard := none } : Oper)) (v := .bool true) rfl (by kernel_rfl) (by kernel_rfl) (by kernel_rfl) (fun _ _ _ h => h) (Or.inl ⟨by rfl, fun w' _ => ?_⟩) hHeld1 ?_
                · go_simp
                try simp only [Act.put, List.setIfInBounds_toArray, List.set_cons_zero, List.set_cons_succ]
                refine wpAnyH_take (i := 33) (oi := ({ dst := some 87, op := Go.Op.move (Go.Operand.tmp 86), type := 4, pos := "law.go:135", after := #[{ on := 32, ground := Go.Ground.data }, { on := 28, ground := Go.Ground.chain }], guard := none } : Oper)) (v := .bool true) rfl (by kernel_rfl) (by kernel_rfl) (by kernel_rfl) (fun _ _ _ h => h) (Or.inl ⟨by rfl, fun w' _ => ?_⟩) hHeld1 ?_
                · go_simp
                try simp only [Act.put, List.setIfInBounds_toArray, List.set_cons_zero, List.set_cons_succ]
                refine wpAnyH_take (i := 34) (oi := ({ dst := some 88, op := Go.Op.move (Go.Operand.tmp 0), type := 3, pos := "law.go:135", after := #[{ on := 33, ground := Go.Ground.guard }], guard := some (33, true) } : Oper)) (v := .int .i64 0) rfl (by kernel_rfl) (by kernel_rfl) (by kernel_rfl) (fun _ _ _ h => h) (Or.inl ⟨by rfl, fun w' _ => ?_⟩) hHeld1 ?_
                · go_simp
                try simp only [Act.put, List.setIfInBounds_toArray, List.set_cons_zero, List.set_cons_succ]
                refine wpAnyH_take (i := 35) (oi := ({ dst := some 89, op := Go.Op.binOp Go.BinOp.eql 3 (Go.Operand.tmp 88) (Go.Operand.const (Go.Value.int Go.IntKind.i64 0)) 3, type := 4, pos := "law.go:135", after := #[{ on := 34, ground := Go.Ground.data }, { on := 33, ground := Go.Ground.guard }], guard := some (33, true) } : Oper)) (v := .bool true) rfl (by kernel_rfl) (by kernel_rfl) (by kernel_rfl) (fun _ _ _ h => h) (Or.inl ⟨by rfl, fun w' _ => ?_⟩) hHeld1 ?_
                · go_simp
                try simp only [Act.put, List.setIfInBounds_toArray, List.set_cons_zero, List.set_cons_succ]
                refine wpAnyH_take (i := 36) (oi := ({ dst := some 90, op := Go.Op.move (Go.Operand.tmp 89), type := 4, pos := "law.go:135", after := #[{ on := 35, ground := Go.Ground.data }, { on := 33, ground := Go.Ground.chain }, { on := 33, ground := Go.Ground.guard }], guard := some (33, true) } : Oper)) (v := .bool true) rfl (by kernel_rfl) (by kernel_rfl) (by kernel_rfl) (fun _ _ _ h => h) (Or.inl ⟨by rfl, fun w' _ => ?_⟩) hHeld1 ?_
                · go_simp
                try simp only [Act.put, List.setIfInBounds_toArray, List.set_cons_zero, List.set_cons_succ]
                refine wpAnyH_take (i := 37) (oi := ({ dst := some 91, op := Go.Op.fieldAddr 26 (Go.Operand.tmp 9) 0, type := 0, pos := "law.go:135", after := #[{ on := 36, ground := Go.Ground.guard }], guard := some (36, false) } : Oper)) (v := undef) rfl (by kernel_rfl) (by kernel_rfl) (by kernel_rfl) (fun _ _ _ h => h) (Or.inr ⟨by rfl, rfl⟩) hHeld1 ?_
                try simp only [Act.put, List.setIfInBounds_toArray, List.set_cons_zero, List.set_cons_succ]
                refine wpAnyH_take (i := 38) (oi := ({ dst := some 92, op := Go.Op.load 23 (Go.Operand.tmp 91), type := 23, pos := "law.go:135", after := #[{ on := 37, ground := Go.Ground.data }, { on := 36, ground := Go.Ground.guard }], guard := some (36, false) } : Oper)) (v := undef) rfl (by kernel_rfl) (by kernel_rfl) (by kernel_rfl) (fun _ _ _ h => h) (Or.inr ⟨by rfl, rfl⟩) hHeld1 ?_
                try simp only [Act.put, List.setIfInBounds_toArray, List.set_cons_zero, List.set_cons_succ]
                refine wpAnyH_take (i := 39) (oi := ({ dst := some 93, op := Go.Op.indexAddr 23 (Go.Operand.tmp 92) (Go.Operand.const (Go.Value.int Go.IntKind.i64 0)), type := 0, pos := "law.go:135", after := #[{ on := 38, ground := Go.Ground.data }, { on := 36, ground := Go.Ground.guard }], guard := some (36, false) } : Oper)) (v := undef) rfl (by kernel_rfl) (by kernel_rfl) (by kernel_rfl) (fun _ _ _ h => h) (Or.inr ⟨by rfl, rfl⟩) hHeld1 ?_
                try simp only [Act.put, List.setIfInBounds_toArray, List.set_cons_zero, List.set_cons_succ]
                refine wpAnyH_take (i := 40) (oi := ({ dst := some 94, op := Go.Op.load 48 (Go.Operand.tmp 93), type := 48, pos := "law.go:135", after := #[{ on := 39, ground := Go.Ground.data }, { on := 36, ground := Go.Ground.guard }], guard := some (36, false) } : Oper)) (v := undef) rfl (by kernel_rfl) (by kernel_rfl) (by kernel_rfl) (fun _ _ _ h => h) (Or.inr ⟨by rfl, rfl⟩) hHeld1 ?_
                try simp only [Act.put, List.setIfInBounds_toArray, List.set_cons_zero, List.set_cons_succ]
                refine wpAnyH_take (i := 41) (oi := ({ dst := some 95, op := Go.Op.call { callee := Go.Callee.value (Go.Operand.func 20), args := #[Go.Operand.const (Go.Value.int Go.IntKind.u8 10), Go.Operand.const (Go.Value.int Go.IntKind.u8 0), Go.Operand.const (Go.Value.int Go.IntKind.u8 0), Go.Operand.const (Go.Value.int Go.IntKind.u8 0)], argTypes := #[5, 5, 5, 5] }, type := 48, pos := "law.go:135", after := #[{ on := 36, ground := Go.Ground.chain }, { on := 36, ground := Go.Ground.guard }], guard := some (36, false) } : Oper)) (v := undef) rfl (by kernel_rfl) (by kernel_rfl) (by kernel_rfl) (fun _ _ _ h => h) (Or.inr ⟨by rfl, rfl⟩) hHeld1 ?_
                try simp only [Act.put, List.setIfInBounds_toArray, List.set_cons_zero, List.set_cons_succ]
                refine wpAnyH_take (i := 42) (oi := ({ dst := some 96, op := Go.Op.binOp Go.BinOp.eql 48 (Go.Operand.tmp 94) (Go.Operand.tmp 95) 48, type := 4, pos := "law.go:135", after := #[{ on := 40, ground := Go.Ground.data }, { on := 41, ground := Go.Ground.data }, { on := 36, ground := Go.Ground.guard }], guard := some (36, false) } : Oper)) (v := undef) rfl (by kernel_rfl) (by kernel_rfl) (by kernel_rfl) (fun _ _ _ h => h) (Or.inr ⟨by rfl, rfl⟩) hHeld1 ?_
                try simp only [Act.put, List.setIfInBounds_toArray, List.set_cons_zero, List.set_cons_succ]
                refine wpAnyH_take (i := 43) (oi := ({ dst := some 97, op := Go.Op.pick (Go.Operand.tmp 90) (Go.Operand.const (Go.Value.bool true)) (Go.Operand.tmp 96), type := 4, pos := "law.go:135", after := #[{ on := 36, ground := Go.Ground.data }, { on := 42, ground := Go.Ground.data }, { on := 33, ground := Go.Ground.guard }], guard := some (33, true) } : Oper)) (v := .bool true) rfl (by kernel_rfl) (by kernel_rfl) (by kernel_rfl) (fun _ _ _ h => h) (Or.inl ⟨by rfl, fun w' _ => ?_⟩) hHeld1 ?_
                · go_simp
                try simp only [Act.put, List.setIfInBounds_toArray, List.set_cons_zero, List.set_cons_succ]
                refine wpAnyH_take (i := 44) (oi := ({ dst := some 98, op := Go.Op.pick (Go.Operand.tmp 87) (Go.Operand.tmp 97) (Go.Operand.const (Go.Value.bool false)), type := 4, pos := "law.go:135", after := #[{ on := 33, ground := Go.Ground.data }, { on := 43, ground := Go.Ground.data }], guard := none } : Oper)) (v := .bool true) rfl (by kernel_rfl) (by kernel_rfl) (by kernel_rfl) (fun _ _ _ h => h) (Or.inl ⟨by rfl, fun w' _ => ?_⟩) hHeld1 ?_
                · go_simp
                try simp only [Act.put, List.setIfInBounds_toArray, List.set_cons_zero, List.set_cons_succ]
                refine wpAnyH_take (i := 45) (oi := ({ dst := some 4, op := Go.Op.assign (Go.Operand.tmp 98), type := 4, pos := "law.go:135", after := #[{ on := 44, ground := Go.Ground.data }, { on := 41, ground := Go.Ground.chain }, { on := 0, ground := Go.Ground.phase }, { on := 1, ground := Go.Ground.phase }, { on := 2, ground := Go.Ground.phase }, { on := 3, ground := Go.Ground.phase }, { on := 4, ground := Go.Ground.phase }, { on := 5, ground := Go.Ground.phase }, { on := 6, ground := Go.Ground.phase }, { on := 7, ground := Go.Ground.phase }, { on := 8, ground := Go.Ground.phase }, { on := 9, ground := Go.Ground.phase }, { on := 10, ground := Go.Ground.phase }, { on := 11, ground := Go.Ground.phase }, { on := 12, ground := Go.Ground.phase }, { on := 13, ground := Go.Ground.phase }, { on := 14, ground := Go.Ground.phase }, { on := 15, ground := Go.Ground.phase }, { on := 16, ground := Go.Ground.phase }, { on := 17, ground := Go.Ground.phase }, { on := 18, ground := Go.Ground.phase }, { on := 19, ground := Go.Ground.phase }, { on := 20, ground := Go.Ground.phase }, { on := 21, ground := Go.Ground.phase }, { on := 22, ground := Go.Ground.phase }, { on := 23, ground := Go.Ground.phase }, { on := 24, ground := Go.Ground.phase }, { on := 25, ground := Go.Ground.phase }, { on := 26, ground := Go.Ground.phase }, { on := 27, ground := Go.Ground.phase }, { on := 28, ground := Go.Ground.phase }, { on := 29, ground := Go.Ground.phase }, { on := 30, ground := Go.Ground.phase }, { on := 31, ground := Go.Ground.phase }, { on := 32, ground := Go.Ground.phase }, { on := 33, ground := Go.Ground.phase }, { on := 34, ground := Go.Ground.phase }, { on := 35, ground := Go.Ground.phase }, { on := 36, ground := Go.Ground.phase }, { on := 37, ground := Go.Ground.phase }, { on := 38, ground := Go.Ground.phase }, { on := 39, ground := Go.Ground.phase }, { on := 40, ground := Go.Ground.phase }, { on := 41, ground := Go.Ground.phase }, { on := 42, ground := Go.Ground.phase }, { on := 43, ground := Go.Ground.phase }, { on := 44, ground := Go.Ground.phase }], guard := none } : Oper)) (v := .bool true) rfl (by kernel_rfl) (by kernel_rfl) (by kernel_rfl) (fun _ _ _ h => h) (Or.inl ⟨by rfl, fun w' _ => ?_⟩) hHeld1 ?_
                · go_simp
                try simp only [Act.put, List.setIfInBounds_toArray, List.set_cons_zero, List.set_cons_succ]
                refine wpAnyH_done (by kernel_rfl) ?_ _
                have HBn := Lib.hid (HB7.out.trans (hHeld1.mono HB7.out.size))
                go_wp2_with fail
                go_ret
                exact ⟨rfl, HBn.out⟩
              · have hjI0 : ¬ (j : Int) = 0 := by omega
                have hj1 : (0 : Int) < (j : Int) := by omega
                obtain ⟨bs, rfl, hbl, hra⟩ := HS7.out.row H16.out (k := 0) (a := lsA 0) (by show (lsAs j)[0]? = some (lsA 0); unfold lsAs; rw [List.getElem?_map, List.getElem?_range (by omega)]; rfl)
                have hSv := sizeBv (l := lsA 0) rfl
                have HQ := fun W => run_eq_adr W (x := lsA 0) rfl
                have HV4 := Lib.hid (fun W => v4_e 10 0 0 0 W)
                rw [show four12 ++ [10, 0, 0, 0] = lsA 0 from rfl] at HV4
                obtain ⟨cs, hcs⟩ : ∃ cs, cs = bvs (lsA 0) := ⟨_, rfl⟩
                rw [← hcs] at hra hSv
                simp only [← hcs] at HQ HV4
                rw [Nat.zero_mul] at hra
                have HSv := Lib.hid hSv
                have HRA : Hid (∀ W, Below W7.heap.size W7 W → W.rangeAt bs 0 cs) := Lib.hid (fun W hW => range_below hra hbl hW)
                clear hSv hcs hra hbl
                refine wp_region_held_drew (S := (fun W : World => Below W7.heap.size W7 W)) (by kernel_rfl) (Below.refl _ W7).drew (fun hHeld => ?_)
                refine wpAnyH_take (i := 0) (oi := ({ dst := some 54, op := Go.Op.move (Go.Operand.tmp 10), type := 28, pos := "law.go:135", after := #[], guard := none } : Oper)) (v := .nilIface) rfl (by kernel_rfl) (by kernel_rfl) (by kernel_rfl) (fun _ _ _ h => h) (Or.inl ⟨by rfl, fun w' _ => ?_⟩) hHeld ?_
                · go_simp
                try simp only [Act.put, List.setIfInBounds_toArray, List.set_cons_zero, List.set_cons_succ]
                refine wpAnyH_take (i := 1) (oi := ({ dst := some 55, op := Go.Op.binOp Go.BinOp.eql 28 (Go.Operand.tmp 54) (Go.Operand.const Go.Value.nilIface) 28, type := 4, pos := "law.go:135", after := #[{ on := 0, ground := Go.Ground.data }], guard := none } : Oper)) (v := .bool true) rfl (by kernel_rfl) (by kernel_rfl) (by kernel_rfl) (fun _ _ _ h => h) (Or.inl ⟨by rfl, fun w' _ => ?_⟩) hHeld ?_
                · go_simp
                try simp only [Act.put, List.setIfInBounds_toArray, List.set_cons_zero, List.set_cons_succ]
                refine wpAnyH_take (i := 2) (oi := ({ dst := some 56, op := Go.Op.move (Go.Operand.tmp 55), type := 4, pos := "law.go:135", after := #[{ on := 1, ground := Go.Ground.data }], guard := none } : Oper)) (v := .bool true) rfl (by kernel_rfl) (by kernel_rfl) (by kernel_rfl) (fun _ _ _ h => h) (Or.inl ⟨by rfl, fun w' _ => ?_⟩) hHeld ?_
                · go_simp
                try simp only [Act.put, List.setIfInBounds_toArray, List.set_cons_zero, List.set_cons_succ]
                refine wpAnyH_take (i := 3) (oi := ({ dst := some 57, op := Go.Op.fieldAddr 26 (Go.Operand.tmp 9) 0, type := 0, pos := "law.go:135", after := #[{ on := 2, ground := Go.Ground.guard }], guard := some (2, true) } : Oper)) (v := .pointer (some ⟨gw, 0, none⟩)) rfl (by kernel_rfl) (by kernel_rfl) (by kernel_rfl) (fun _ _ _ h => h) (Or.inl ⟨by rfl, fun w' _ => ?_⟩) hHeld ?_
                · go_simp
                try simp only [Act.put, List.setIfInBounds_toArray, List.set_cons_zero, List.set_cons_succ]
                refine wpAnyH_take (i := 4) (oi := ({ dst := some 58, op := Go.Op.load 23 (Go.Operand.tmp 57), type := 23, pos := "law.go:135", after := #[{ on := 3, ground := Go.Ground.data }, { on := 2, ground := Go.Ground.guard }], guard := some (2, true) } : Oper)) (v := .slice (some ⟨bs, 0, none⟩) j ca) rfl (by kernel_rfl) (by kernel_rfl) (by kernel_rfl) (fun _ _ _ h => h) (Or.inl ⟨by rfl, fun w' hS' => ?_⟩) hHeld ?_
                · have hcell := K0.out _ hS'
                  go_simp
                try simp only [Act.put, List.setIfInBounds_toArray, List.set_cons_zero, List.set_cons_succ]
                refine wpAnyH_take (i := 5) (oi := ({ dst := some 59, op := Go.Op.call { callee := Go.Callee.builtin Go.Builtin.len, args := #[Go.Operand.tmp 58], argTypes := #[23] }, type := 3, pos := "law.go:135", after := #[{ on := 4, ground := Go.Ground.data }, { on := 2, ground := Go.Ground.guard }], guard := some (2, true) } : Oper)) (v := .int .i64 (j : Int)) rfl (by kernel_rfl) (by kernel_rfl) (by kernel_rfl) (fun _ _ _ h => h) (Or.inl ⟨by rfl, fun w' _ => ?_⟩) hHeld ?_
                · go_simp
                try simp only [Act.put, List.setIfInBounds_toArray, List.set_cons_zero, List.set_cons_succ]
                refine wpAnyH_take (i := 6) (oi := ({ dst := some 60, op := Go.Op.move (Go.Operand.tmp 0), type := 3, pos := "law.go:135", after := #[{ on := 2, ground := Go.Ground.guard }], guard := some (2, true) } : Oper)) (v := .int .i64 (j : Int)) rfl (by kernel_rfl) (by kernel_rfl) (by kernel_rfl) (fun _ _ _ h => h) (Or.inl ⟨by rfl, fun w' _ => ?_⟩) hHeld ?_
                · go_simp
                try simp only [Act.put, List.setIfInBounds_toArray, List.set_cons_zero, List.set_cons_succ]
                refine wpAnyH_take (i := 7) (oi := ({ dst := some 61, op := Go.Op.binOp Go.BinOp.eql 3 (Go.Operand.tmp 59) (Go.Operand.tmp 60) 3, type := 4, pos := "law.go:135", after := #[{ on := 5, ground := Go.Ground.data }, { on := 6, ground := Go.Ground.data }, { on := 2, ground := Go.Ground.guard }], guard := some (2, true) } : Oper)) (v := .bool true) rfl (by kernel_rfl) (by kernel_rfl) (by kernel_rfl) (fun _ _ _ h => h) (Or.inl ⟨by rfl, fun w' _ => ?_⟩) hHeld ?_
                · go_simp
                try simp only [Act.put, List.setIfInBounds_toArray, List.set_cons_zero, List.set_cons_succ]
                refine wpAnyH_take (i := 8) (oi := ({ dst := some 62, op := Go.Op.pick (Go.Operand.tmp 56) (Go.Operand.tmp 61) (Go.Operand.const (Go.Value.bool false)), type := 4, pos := "law.go:135", after := #[{ on := 2, ground := Go.Ground.data }, { on := 7, ground := Go.Ground.data }], guard := none } : Oper)) (v := .bool true) rfl (by kernel_rfl) (by kernel_rfl) (by kernel_rfl) (fun _ _ _ h => h) (Or.inl ⟨by rfl, fun w' _ => ?_⟩) hHeld ?_
                · go_simp
                try simp only [Act.put, List.setIfInBounds_toArray, List.set_cons_zero, List.set_cons_succ]
                refine wpAnyH_take (i := 9) (oi := ({ dst := some 63, op := Go.Op.move (Go.Operand.tmp 62), type := 4, pos := "law.go:135", after := #[{ on := 8, ground := Go.Ground.data }, { on := 2, ground := Go.Ground.chain }], guard := none } : Oper)) (v := .bool true) rfl (by kernel_rfl) (by kernel_rfl) (by kernel_rfl) (fun _ _ _ h => h) (Or.inl ⟨by rfl, fun w' _ => ?_⟩) hHeld ?_
                · go_simp
                try simp only [Act.put, List.setIfInBounds_toArray, List.set_cons_zero, List.set_cons_succ]
                refine wpAnyH_take (i := 10) (oi := ({ dst := some 64, op := Go.Op.fieldAddr 26 (Go.Operand.tmp 9) 1, type := 0, pos := "law.go:135", after := #[{ on := 9, ground := Go.Ground.guard }], guard := some (9, true) } : Oper)) (v := .pointer (some ⟨gw, 1, none⟩)) rfl (by kernel_rfl) (by kernel_rfl) (by kernel_rfl) (fun _ _ _ h => h) (Or.inl ⟨by rfl, fun w' _ => ?_⟩) hHeld ?_
                · go_simp
                try simp only [Act.put, List.setIfInBounds_toArray, List.set_cons_zero, List.set_cons_succ]
                refine wpAnyH_take (i := 11) (oi := ({ dst := some 65, op := Go.Op.load 24 (Go.Operand.tmp 64), type := 24, pos := "law.go:135", after := #[{ on := 10, ground := Go.Ground.data }, { on := 9, ground := Go.Ground.guard }], guard := some (9, true) } : Oper)) (v := .slice (some ⟨be, 0, none⟩) (q + 1) (q + 1)) rfl (by kernel_rfl) (by kernel_rfl) (by kernel_rfl) (fun _ _ _ h => h) (Or.inl ⟨by rfl, fun w' hS' => ?_⟩) hHeld ?_
                · have hcell := K1.out _ hS'
                  go_simp
                try simp only [Act.put, List.setIfInBounds_toArray, List.set_cons_zero, List.set_cons_succ]
                refine wpAnyH_take (i := 12) (oi := ({ dst := some 66, op := Go.Op.call { callee := Go.Callee.builtin Go.Builtin.len, args := #[Go.Operand.tmp 65], argTypes := #[24] }, type := 3, pos := "law.go:135", after := #[{ on := 11, ground := Go.Ground.data }, { on := 9, ground := Go.Ground.guard }], guard := some (9, true) } : Oper)) (v := .int .i64 ((q + 1 : Nat) : Int)) rfl (by kernel_rfl) (by kernel_rfl) (by kernel_rfl) (fun _ _ _ h => h) (Or.inl ⟨by rfl, fun w' _ => ?_⟩) hHeld ?_
                · go_simp
                try simp only [Act.put, List.setIfInBounds_toArray, List.set_cons_zero, List.set_cons_succ]
                refine wpAnyH_take (i := 13) (oi := ({ dst := some 67, op := Go.Op.move (Go.Operand.tmp 1), type := 3, pos := "law.go:135", after := #[{ on := 9, ground := Go.Ground.guard }], guard := some (9, true) } : Oper)) (v := .int .i64 ((q + 1 : Nat) : Int)) rfl (by kernel_rfl) (by kernel_rfl) (by kernel_rfl) (fun _ _ _ h => h) (Or.inl ⟨by rfl, fun w' _ => ?_⟩) hHeld ?_
                · go_simp
                try simp only [Act.put, List.setIfInBounds_toArray, List.set_cons_zero, List.set_cons_succ]
                refine wpAnyH_take (i := 14) (oi := ({ dst := some 68, op := Go.Op.binOp Go.BinOp.eql 3 (Go.Operand.tmp 66) (Go.Operand.tmp 67) 3, type := 4, pos := "law.go:135", after := #[{ on := 12, ground := Go.Ground.data }, { on := 13, ground := Go.Ground.data }, { on := 9, ground := Go.Ground.guard }], guard := some (9, true) } : Oper)) (v := .bool true) rfl (by kernel_rfl) (by kernel_rfl) (by kernel_rfl) (fun _ _ _ h => h) (Or.inl ⟨by rfl, fun w' _ => ?_⟩) hHeld ?_
                · go_simp
                try simp only [Act.put, List.setIfInBounds_toArray, List.set_cons_zero, List.set_cons_succ]
                refine wpAnyH_take (i := 15) (oi := ({ dst := some 69, op := Go.Op.pick (Go.Operand.tmp 63) (Go.Operand.tmp 68) (Go.Operand.const (Go.Value.bool false)), type := 4, pos := "law.go:135", after := #[{ on := 9, ground := Go.Ground.data }, { on := 14, ground := Go.Ground.data }], guard := none } : Oper)) (v := .bool true) rfl (by kernel_rfl) (by kernel_rfl) (by kernel_rfl) (fun _ _ _ h => h) (Or.inl ⟨by rfl, fun w' _ => ?_⟩) hHeld ?_
                · go_simp
                try simp only [Act.put, List.setIfInBounds_toArray, List.set_cons_zero, List.set_cons_succ]
                refine wpAnyH_take (i := 16) (oi := ({ dst := some 70, op := Go.Op.move (Go.Operand.tmp 69), type := 4, pos := "law.go:135", after := #[{ on := 15, ground := Go.Ground.data }, { on := 9, ground := Go.Ground.chain }], guard := none } : Oper)) (v := .bool true) rfl (by kernel_rfl) (by kernel_rfl) (by kernel_rfl) (fun _ _ _ h => h) (Or.inl ⟨by rfl, fun w' _ => ?_⟩) hHeld ?_
                · go_simp
                try simp only [Act.put, List.setIfInBounds_toArray, List.set_cons_zero, List.set_cons_succ]
                refine wpAnyH_take (i := 17) (oi := ({ dst := some 71, op := Go.Op.move (Go.Operand.tmp 1), type := 3, pos := "law.go:135", after := #[{ on := 16, ground := Go.Ground.guard }], guard := some (16, true) } : Oper)) (v := .int .i64 ((q + 1 : Nat) : Int)) rfl (by kernel_rfl) (by kernel_rfl) (by kernel_rfl) (fun _ _ _ h => h) (Or.inl ⟨by rfl, fun w' _ => ?_⟩) hHeld ?_
                · go_simp
                try simp only [Act.put, List.setIfInBounds_toArray, List.set_cons_zero, List.set_cons_succ]
                refine wpAnyH_take (i := 18) (oi := ({ dst := some 72, op := Go.Op.binOp Go.BinOp.eql 3 (Go.Operand.tmp 71) (Go.Operand.const (Go.Value.int Go.IntKind.i64 0)) 3, type := 4, pos := "law.go:135", after := #[{ on := 17, ground := Go.Ground.data }, { on := 16, ground := Go.Ground.guard }], guard := some (16, true) } : Oper)) (v := .bool false) rfl (by kernel_rfl) (by kernel_rfl) (by kernel_rfl) (fun _ _ _ h => h) (Or.inl ⟨by rfl, fun w' _ => ?_⟩) hHeld ?_
                · (go_simp; first | done | omega | exact IntWalk.i64_in _ (by omega))
                try simp only [Act.put, List.setIfInBounds_toArray, List.set_cons_zero, List.set_cons_succ]
                refine wpAnyH_take (i := 19) (oi := ({ dst := some 73, op := Go.Op.move (Go.Operand.tmp 72), type := 4, pos := "law.go:135", after := #[{ on := 18, ground := Go.Ground.data }, { on := 16, ground := Go.Ground.chain }, { on := 16, ground := Go.Ground.guard }], guard := some (16, true) } : Oper)) (v := .bool false) rfl (by kernel_rfl) (by kernel_rfl) (by kernel_rfl) (fun _ _ _ h => h) (Or.inl ⟨by rfl, fun w' _ => ?_⟩) hHeld ?_
                · go_simp
                try simp only [Act.put, List.setIfInBounds_toArray, List.set_cons_zero, List.set_cons_succ]
                refine wpAnyH_take (i := 20) (oi := ({ dst := some 74, op := Go.Op.fieldAddr 26 (Go.Operand.tmp 9) 1, type := 0, pos := "law.go:135", after := #[{ on := 19, ground := Go.Ground.guard }], guard := some (19, false) } : Oper)) (v := .pointer (some ⟨gw, 1, none⟩)) rfl (by kernel_rfl) (by kernel_rfl) (by kernel_rfl) (fun _ _ _ h => h) (Or.inl ⟨by rfl, fun w' _ => ?_⟩) hHeld ?_
                · go_simp
                try simp only [Act.put, List.setIfInBounds_toArray, List.set_cons_zero, List.set_cons_succ]
                refine wpAnyH_take (i := 21) (oi := ({ dst := some 75, op := Go.Op.load 24 (Go.Operand.tmp 74), type := 24, pos := "law.go:135", after := #[{ on := 20, ground := Go.Ground.data }, { on := 19, ground := Go.Ground.guard }], guard := some (19, false) } : Oper)) (v := .slice (some ⟨be, 0, none⟩) (q + 1) (q + 1)) rfl (by kernel_rfl) (by kernel_rfl) (by kernel_rfl) (fun _ _ _ h => h) (Or.inl ⟨by rfl, fun w' hS' => ?_⟩) hHeld ?_
                · have hcell := K1.out _ hS'
                  go_simp
                try simp only [Act.put, List.setIfInBounds_toArray, List.set_cons_zero, List.set_cons_succ]
                refine wpAnyH_take (i := 22) (oi := ({ dst := some 76, op := Go.Op.move (Go.Operand.tmp 1), type := 3, pos := "law.go:135", after := #[{ on := 19, ground := Go.Ground.guard }], guard := some (19, false) } : Oper)) (v := .int .i64 ((q + 1 : Nat) : Int)) rfl (by kernel_rfl) (by kernel_rfl) (by kernel_rfl) (fun _ _ _ h => h) (Or.inl ⟨by rfl, fun w' _ => ?_⟩) hHeld ?_
                · go_simp
                try simp only [Act.put, List.setIfInBounds_toArray, List.set_cons_zero, List.set_cons_succ]
                refine wpAnyH_take (i := 23) (oi := ({ dst := some 77, op := Go.Op.binOp Go.BinOp.sub 3 (Go.Operand.tmp 76) (Go.Operand.const (Go.Value.int Go.IntKind.i64 1)) 3, type := 3, pos := "law.go:135", after := #[{ on := 22, ground := Go.Ground.data }, { on := 19, ground := Go.Ground.guard }], guard := some (19, false) } : Oper)) (v := .int .i64 q) rfl (by kernel_rfl) (by kernel_rfl) (by kernel_rfl) (fun _ _ _ h => h) (Or.inl ⟨by rfl, fun w' _ => ?_⟩) hHeld ?_
                · (go_simp; first | done | omega | exact IntWalk.i64_in _ (by omega))
                try simp only [Act.put, List.setIfInBounds_toArray, List.set_cons_zero, List.set_cons_succ]
                refine wpAnyH_take (i := 24) (oi := ({ dst := some 78, op := Go.Op.indexAddr 24 (Go.Operand.tmp 75) (Go.Operand.tmp 77), type := 0, pos := "law.go:135", after := #[{ on := 21, ground := Go.Ground.data }, { on := 23, ground := Go.Ground.data }, { on := 19, ground := Go.Ground.guard }], guard := some (19, false) } : Oper)) (v := .pointer (some ⟨be, q, none⟩)) rfl (by kernel_rfl) (by kernel_rfl) (by kernel_rfl) (fun _ _ _ h => h) (Or.inl ⟨by rfl, fun w' _ => ?_⟩) hHeld ?_
                · go_simp
                try simp only [Act.put, List.setIfInBounds_toArray, List.set_cons_zero, List.set_cons_succ]
                refine wpAnyH_take (i := 25) (oi := ({ dst := some 79, op := Go.Op.load 9 (Go.Operand.tmp 78), type := 9, pos := "law.go:135", after := #[{ on := 24, ground := Go.Ground.data }, { on := 19, ground := Go.Ground.guard }], guard := some (19, false) } : Oper)) (v := .string XD) rfl (by kernel_rfl) (by kernel_rfl) (by kernel_rfl) (fun _ _ _ h => h) (Or.inl ⟨by rfl, fun w' hS' => ?_⟩) hHeld ?_
                · have hcell := hce'.out _ hS'
                  go_simp
                try simp only [Act.put, List.setIfInBounds_toArray, List.set_cons_zero, List.set_cons_succ]
                refine wpAnyH_take (i := 26) (oi := ({ dst := some 80, op := Go.Op.move (Go.Operand.tmp 1), type := 3, pos := "law.go:135", after := #[{ on := 19, ground := Go.Ground.guard }], guard := some (19, false) } : Oper)) (v := .int .i64 ((q + 1 : Nat) : Int)) rfl (by kernel_rfl) (by kernel_rfl) (by kernel_rfl) (fun _ _ _ h => h) (Or.inl ⟨by rfl, fun w' _ => ?_⟩) hHeld ?_
                · go_simp
                try simp only [Act.put, List.setIfInBounds_toArray, List.set_cons_zero, List.set_cons_succ]
                refine wpAnyH_take (i := 27) (oi := ({ dst := some 81, op := Go.Op.binOp Go.BinOp.sub 3 (Go.Operand.tmp 80) (Go.Operand.const (Go.Value.int Go.IntKind.i64 1)) 3, type := 3, pos := "law.go:135", after := #[{ on := 26, ground := Go.Ground.data }, { on := 19, ground := Go.Ground.guard }], guard := some (19, false) } : Oper)) (v := .int .i64 q) rfl (by kernel_rfl) (by kernel_rfl) (by kernel_rfl) (fun _ _ _ h => h) (Or.inl ⟨by rfl, fun w' _ => ?_⟩) hHeld ?_
                · (go_simp; first | done | omega | exact IntWalk.i64_in _ (by omega))
                try simp only [Act.put, List.setIfInBounds_toArray, List.set_cons_zero, List.set_cons_succ]
                refine wpAnyH_ready (rs := [28]) (by kernel_rfl) (by simp) ?_
                refine AllReadyH.cons (o := ({ dst := some 82, op := Go.Op.call { callee := Go.Callee.value (Go.Operand.func 18), args := #[Go.Operand.tmp 81], argTypes := #[3] }, type := 9, pos := "law.go:135", after := #[{ on := 27, ground := Go.Ground.data }, { on := 19, ground := Go.Ground.chain }, { on := 19, ground := Go.Ground.guard }], guard := some (19, false) } : Oper)) rfl (fun K hK => ?_) AllReadyH.nil
                go_simp
                go_at_call 18
                refine (HDg.out _).mono ?_
                rintro e' u1 ⟨rfl, hbb⟩
                refine hK.out _ _ (hHeld.trans (hbb.mono hHeld.size)) (fun hHeld1 => ?_)
                clear hK K hbb
                try simp only [Act.put, List.setIfInBounds_toArray, List.set_cons_zero, List.set_cons_succ]
                refine wpAnyH_take (i := 29) (oi := ({ dst := some 83, op := Go.Op.binOp Go.BinOp.add 9 (Go.Operand.const (Go.Value.string { data := #[100] })) (Go.Operand.tmp 82) 9, type := 9, pos := "law.go:135", after := #[{ on := 28, ground := Go.Ground.data }, { on := 19, ground := Go.Ground.guard }], guard := some (19, false) } : Oper)) (v := .string XD) rfl (by kernel_rfl) (by kernel_rfl) (by kernel_rfl) (fun _ _ _ h => h) (Or.inl ⟨by rfl, fun w' _ => ?_⟩) hHeld1 ?_
                · go_simp
                try simp only [Act.put, List.setIfInBounds_toArray, List.set_cons_zero, List.set_cons_succ]
                refine wpAnyH_take (i := 30) (oi := ({ dst := some 84, op := Go.Op.binOp Go.BinOp.eql 9 (Go.Operand.tmp 79) (Go.Operand.tmp 83) 9, type := 4, pos := "law.go:135", after := #[{ on := 25, ground := Go.Ground.data }, { on := 29, ground := Go.Ground.data }, { on := 19, ground := Go.Ground.guard }], guard := some (19, false) } : Oper)) (v := .bool true) rfl (by kernel_rfl) (by kernel_rfl) (by kernel_rfl) (fun _ _ _ h => h) (Or.inl ⟨by rfl, fun w' _ => ?_⟩) hHeld1 ?_
                · go_simp
                try simp only [Act.put, List.setIfInBounds_toArray, List.set_cons_zero, List.set_cons_succ]
                refine wpAnyH_take (i := 31) (oi := ({ dst := some 85, op := Go.Op.pick (Go.Operand.tmp 73) (Go.Operand.const (Go.Value.bool true)) (Go.Operand.tmp 84), type := 4, pos := "law.go:135", after := #[{ on := 19, ground := Go.Ground.data }, { on := 30, ground := Go.Ground.data }, { on := 16, ground := Go.Ground.guard }], guard := some (16, true) } : Oper)) (v := .bool true) rfl (by kernel_rfl) (by kernel_rfl) (by kernel_rfl) (fun _ _ _ h => h) (Or.inl ⟨by rfl, fun w' _ => ?_⟩) hHeld1 ?_
                · go_simp
                try simp only [Act.put, List.setIfInBounds_toArray, List.set_cons_zero, List.set_cons_succ]
                refine wpAnyH_take (i := 32) (oi := ({ dst := some 86, op := Go.Op.pick (Go.Operand.tmp 70) (Go.Operand.tmp 85) (Go.Operand.const (Go.Value.bool false)), type := 4, pos := "law.go:135", after := #[{ on := 16, ground := Go.Ground.data }, { on := 31, ground := Go.Ground.data }], guard := none } : Oper)) (v := .bool true) rfl (by kernel_rfl) (by kernel_rfl) (by kernel_rfl) (fun _ _ _ h => h) (Or.inl ⟨by rfl, fun w' _ => ?_⟩) hHeld1 ?_
                · go_simp
                try simp only [Act.put, List.setIfInBounds_toArray, List.set_cons_zero, List.set_cons_succ]
                refine wpAnyH_take (i := 33) (oi := ({ dst := some 87, op := Go.Op.move (Go.Operand.tmp 86), type := 4, pos := "law.go:135", after := #[{ on := 32, ground := Go.Ground.data }, { on := 28, ground := Go.Ground.chain }], guard := none } : Oper)) (v := .bool true) rfl (by kernel_rfl) (by kernel_rfl) (by kernel_rfl) (fun _ _ _ h => h) (Or.inl ⟨by rfl, fun w' _ => ?_⟩) hHeld1 ?_
                · go_simp
                try simp only [Act.put, List.setIfInBounds_toArray, List.set_cons_zero, List.set_cons_succ]
                refine wpAnyH_take (i := 34) (oi := ({ dst := some 88, op := Go.Op.move (Go.Operand.tmp 0), type := 3, pos := "law.go:135", after := #[{ on := 33, ground := Go.Ground.guard }], guard := some (33, true) } : Oper)) (v := .int .i64 (j : Int)) rfl (by kernel_rfl) (by kernel_rfl) (by kernel_rfl) (fun _ _ _ h => h) (Or.inl ⟨by rfl, fun w' _ => ?_⟩) hHeld1 ?_
                · go_simp
                try simp only [Act.put, List.setIfInBounds_toArray, List.set_cons_zero, List.set_cons_succ]
                refine wpAnyH_take (i := 35) (oi := ({ dst := some 89, op := Go.Op.binOp Go.BinOp.eql 3 (Go.Operand.tmp 88) (Go.Operand.const (Go.Value.int Go.IntKind.i64 0)) 3, type := 4, pos := "law.go:135", after := #[{ on := 34, ground := Go.Ground.data }, { on := 33, ground := Go.Ground.guard }], guard := some (33, true) } : Oper)) (v := .bool false) rfl (by kernel_rfl) (by kernel_rfl) (by kernel_rfl) (fun _ _ _ h => h) (Or.inl ⟨by rfl, fun w' _ => ?_⟩) hHeld1 ?_
                · go_simp
                try simp only [Act.put, List.setIfInBounds_toArray, List.set_cons_zero, List.set_cons_succ]
                refine wpAnyH_take (i := 36) (oi := ({ dst := some 90, op := Go.Op.move (Go.Operand.tmp 89), type := 4, pos := "law.go:135", after := #[{ on := 35, ground := Go.Ground.data }, { on := 33, ground := Go.Ground.chain }, { on := 33, ground := Go.Ground.guard }], guard := some (33, true) } : Oper)) (v := .bool false) rfl (by kernel_rfl) (by kernel_rfl) (by kernel_rfl) (fun _ _ _ h => h) (Or.inl ⟨by rfl, fun w' _ => ?_⟩) hHeld1 ?_
                · go_simp
                try simp only [Act.put, List.setIfInBounds_toArray, List.set_cons_zero, List.set_cons_succ]
                refine wpAnyH_take (i := 37) (oi := ({ dst := some 91, op := Go.Op.fieldAddr 26 (Go.Operand.tmp 9) 0, type := 0, pos := "law.go:135", after := #[{ on := 36, ground := Go.Ground.guard }], guard := some (36, false) } : Oper)) (v := .pointer (some ⟨gw, 0, none⟩)) rfl (by kernel_rfl) (by kernel_rfl) (by kernel_rfl) (fun _ _ _ h => h) (Or.inl ⟨by rfl, fun w' _ => ?_⟩) hHeld1 ?_
                · go_simp
                try simp only [Act.put, List.setIfInBounds_toArray, List.set_cons_zero, List.set_cons_succ]
                refine wpAnyH_take (i := 38) (oi := ({ dst := some 92, op := Go.Op.load 23 (Go.Operand.tmp 91), type := 23, pos := "law.go:135", after := #[{ on := 37, ground := Go.Ground.data }, { on := 36, ground := Go.Ground.guard }], guard := some (36, false) } : Oper)) (v := .slice (some ⟨bs, 0, none⟩) j ca) rfl (by kernel_rfl) (by kernel_rfl) (by kernel_rfl) (fun _ _ _ h => h) (Or.inl ⟨by rfl, fun w' hS' => ?_⟩) hHeld1 ?_
                · have hcell := K0.out _ hS'
                  go_simp
                try simp only [Act.put, List.setIfInBounds_toArray, List.set_cons_zero, List.set_cons_succ]
                refine wpAnyH_take (i := 39) (oi := ({ dst := some 93, op := Go.Op.indexAddr 23 (Go.Operand.tmp 92) (Go.Operand.const (Go.Value.int Go.IntKind.i64 0)), type := 0, pos := "law.go:135", after := #[{ on := 38, ground := Go.Ground.data }, { on := 36, ground := Go.Ground.guard }], guard := some (36, false) } : Oper)) (v := .pointer (some ⟨bs, 0, none⟩)) rfl (by kernel_rfl) (by kernel_rfl) (by kernel_rfl) (fun _ _ _ h => h) (Or.inl ⟨by rfl, fun w' _ => ?_⟩) hHeld1 ?_
                · go_simp
                try simp only [Act.put, List.setIfInBounds_toArray, List.set_cons_zero, List.set_cons_succ]
                refine wpAnyH_take (i := 40) (oi := ({ dst := some 94, op := Go.Op.load 48 (Go.Operand.tmp 93), type := 48, pos := "law.go:135", after := #[{ on := 39, ground := Go.Ground.data }, { on := 36, ground := Go.Ground.guard }], guard := some (36, false) } : Oper)) (v := .agg cs.toArray) rfl (by kernel_rfl) (by kernel_rfl) (by kernel_rfl) (fun _ _ _ h => h) (yieldsIf_load_mid (by rfl) _ _ rfl _ _ rfl _ _ (fun W hW => HRA.out W hW) Tryz.underlying48 rfl HSv.out) hHeld1 ?_
                try simp only [Act.put, List.setIfInBounds_toArray, List.set_cons_zero, List.set_cons_succ]
                refine wpAnyH_ready (rs := [41]) (by kernel_rfl) (by simp) ?_
                refine AllReadyH.cons (o := ({ dst := some 95, op := Go.Op.call { callee := Go.Callee.value (Go.Operand.func 20), args := #[Go.Operand.const (Go.Value.int Go.IntKind.u8 10), Go.Operand.const (Go.Value.int Go.IntKind.u8 0), Go.Operand.const (Go.Value.int Go.IntKind.u8 0), Go.Operand.const (Go.Value.int Go.IntKind.u8 0)], argTypes := #[5, 5, 5, 5] }, type := 48, pos := "law.go:135", after := #[{ on := 36, ground := Go.Ground.chain }, { on := 36, ground := Go.Ground.guard }], guard := some (36, false) } : Oper)) rfl (fun K hK => ?_) AllReadyH.nil
                go_simp
                go_at_call 20
                refine (HV4.out _).mono ?_
                rintro e' u2 ⟨rfl, hbb⟩
                refine hK.out _ _ (hHeld1.trans (hbb.mono hHeld1.size)) (fun hHeld2 => ?_)
                clear hK K hbb
                try simp only [Act.put, List.setIfInBounds_toArray, List.set_cons_zero, List.set_cons_succ]
                refine wpAnyH_take (i := 42) (oi := ({ dst := some 96, op := Go.Op.binOp Go.BinOp.eql 48 (Go.Operand.tmp 94) (Go.Operand.tmp 95) 48, type := 4, pos := "law.go:135", after := #[{ on := 40, ground := Go.Ground.data }, { on := 41, ground := Go.Ground.data }, { on := 36, ground := Go.Ground.guard }], guard := some (36, false) } : Oper)) (v := .bool true) rfl (by kernel_rfl) (by kernel_rfl) (by kernel_rfl) (fun _ _ _ h => h) (Or.inl ⟨by rfl, fun w' _ => ?_⟩) hHeld2 ?_
                · go_simp
                try simp only [Act.put, List.setIfInBounds_toArray, List.set_cons_zero, List.set_cons_succ]
                refine wpAnyH_take (i := 43) (oi := ({ dst := some 97, op := Go.Op.pick (Go.Operand.tmp 90) (Go.Operand.const (Go.Value.bool true)) (Go.Operand.tmp 96), type := 4, pos := "law.go:135", after := #[{ on := 36, ground := Go.Ground.data }, { on := 42, ground := Go.Ground.data }, { on := 33, ground := Go.Ground.guard }], guard := some (33, true) } : Oper)) (v := .bool true) rfl (by kernel_rfl) (by kernel_rfl) (by kernel_rfl) (fun _ _ _ h => h) (Or.inl ⟨by rfl, fun w' _ => ?_⟩) hHeld2 ?_
                · go_simp
                try simp only [Act.put, List.setIfInBounds_toArray, List.set_cons_zero, List.set_cons_succ]
                refine wpAnyH_take (i := 44) (oi := ({ dst := some 98, op := Go.Op.pick (Go.Operand.tmp 87) (Go.Operand.tmp 97) (Go.Operand.const (Go.Value.bool false)), type := 4, pos := "law.go:135", after := #[{ on := 33, ground := Go.Ground.data }, { on := 43, ground := Go.Ground.data }], guard := none } : Oper)) (v := .bool true) rfl (by kernel_rfl) (by kernel_rfl) (by kernel_rfl) (fun _ _ _ h => h) (Or.inl ⟨by rfl, fun w' _ => ?_⟩) hHeld2 ?_
                · go_simp
                try simp only [Act.put, List.setIfInBounds_toArray, List.set_cons_zero, List.set_cons_succ]
                refine wpAnyH_take (i := 45) (oi := ({ dst := some 4, op := Go.Op.assign (Go.Operand.tmp 98), type := 4, pos := "law.go:135", after := #[{ on := 44, ground := Go.Ground.data }, { on := 41, ground := Go.Ground.chain }, { on := 0, ground := Go.Ground.phase }, { on := 1, ground := Go.Ground.phase }, { on := 2, ground := Go.Ground.phase }, { on := 3, ground := Go.Ground.phase }, { on := 4, ground := Go.Ground.phase }, { on := 5, ground := Go.Ground.phase }, { on := 6, ground := Go.Ground.phase }, { on := 7, ground := Go.Ground.phase }, { on := 8, ground := Go.Ground.phase }, { on := 9, ground := Go.Ground.phase }, { on := 10, ground := Go.Ground.phase }, { on := 11, ground := Go.Ground.phase }, { on := 12, ground := Go.Ground.phase }, { on := 13, ground := Go.Ground.phase }, { on := 14, ground := Go.Ground.phase }, { on := 15, ground := Go.Ground.phase }, { on := 16, ground := Go.Ground.phase }, { on := 17, ground := Go.Ground.phase }, { on := 18, ground := Go.Ground.phase }, { on := 19, ground := Go.Ground.phase }, { on := 20, ground := Go.Ground.phase }, { on := 21, ground := Go.Ground.phase }, { on := 22, ground := Go.Ground.phase }, { on := 23, ground := Go.Ground.phase }, { on := 24, ground := Go.Ground.phase }, { on := 25, ground := Go.Ground.phase }, { on := 26, ground := Go.Ground.phase }, { on := 27, ground := Go.Ground.phase }, { on := 28, ground := Go.Ground.phase }, { on := 29, ground := Go.Ground.phase }, { on := 30, ground := Go.Ground.phase }, { on := 31, ground := Go.Ground.phase }, { on := 32, ground := Go.Ground.phase }, { on := 33, ground := Go.Ground.phase }, { on := 34, ground := Go.Ground.phase }, { on := 35, ground := Go.Ground.phase }, { on := 36, ground := Go.Ground.phase }, { on := 37, ground := Go.Ground.phase }, { on := 38, ground := Go.Ground.phase }, { on := 39, ground := Go.Ground.phase }, { on := 40, ground := Go.Ground.phase }, { on := 41, ground := Go.Ground.phase }, { on := 42, ground := Go.Ground.phase }, { on := 43, ground := Go.Ground.phase }, { on := 44, ground := Go.Ground.phase }], guard := none } : Oper)) (v := .bool true) rfl (by kernel_rfl) (by kernel_rfl) (by kernel_rfl) (fun _ _ _ h => h) (Or.inl ⟨by rfl, fun w' _ => ?_⟩) hHeld2 ?_
                · go_simp
                try simp only [Act.put, List.setIfInBounds_toArray, List.set_cons_zero, List.set_cons_succ]
                refine wpAnyH_done (by kernel_rfl) ?_ _
                have HBn := Lib.hid (HB7.out.trans (hHeld2.mono HB7.out.size))
                go_wp2_with fail
                go_ret
                exact ⟨rfl, HBn.out⟩
end Go.Proofs.YtpnlgojbmjfhhaaGreatDoor
