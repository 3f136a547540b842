/-
  The walk of slices.stable over more than 20 places, up to 40: two stretches, each sorted by insertion, and their merge. Condition: the keys lie in memory, apart from the places.
-/
import Derived.Test.YtoaedlllnkcfnaaDoorRankSymOne
namespace Go.Proofs.YtoaedlllnkcfnaaDoor
open Go.RowKit
open Go.Sort hiding Below

/-- two stretches, each sorted -/
structure TwoS {m : Nat} (ks : List (List Int)) (d : Array (Fin (m + 1))) : Prop where
  size : d.size = m + 1
  perm : PermIn 0 (m + 1) (idA m) d
  s1 : SortedIn (lbK ks) 0 20 d
  s2 : SortedIn (lbK ks) 20 (m + 1) d
  c : ∀ i j, 0 ≤ i → i < 20 → 20 ≤ j → j < m + 1 → (d[i]!).val < (d[j]!).val
theorem twoS_of {m : Nat} {ks : List (List Int)} (hk : ks.length = m + 1) (h8 : ∀ k ∈ ks, k.length = 8) (h20 : 20 ≤ m) {d1 d2 : Array (Fin (m + 1))} (e1 : Sort.insertionSort (ltOf (cfK ks)) (idA m) 0 20 = d1) (e2 : Sort.insertionSort (ltOf (cfK ks)) d1 20 (m + 1) = d2) :
    d1.size = m + 1 ∧ TwoS ks d2 := by
  have hz := idA_size m
  have a1 := ins_stable hk h8 (idA m) 0 20 (by omega) (by omega) (fun k j _ h2 h3 => by rw [idA_at m k (by omega), idA_at m j (by omega)]; exact h2)
  rw [e1] at a1
  have z1 : d1.size = m + 1 := a1.1.1.trans hz
  have o1 : ∀ k, 20 ≤ k → d1[k]! = (idA m)[k]! := fun k h => a1.1.2.1 k (Or.inr h)
  have a2 := ins_stable hk h8 d1 20 (m + 1) (by omega) (by omega) (fun k j h1 h2 h3 => by rw [o1 k h1, o1 j (by omega), idA_at m k (by omega), idA_at m j (by omega)]; exact h2)
  rw [e2] at a2
  have o2 : ∀ k, k < 20 → d2[k]! = d1[k]! := fun k h => a2.1.2.1 k (Or.inl h)
  have l1 : ∀ i, 0 ≤ i → i < 20 → (d1[i]!).val < 20 := permIn_all (idA m) d1 0 20 (fun x => x.val < 20) (by omega) a1.1 (fun i _ h => by rw [idA_at m i (by omega)]; exact h)
  have l2 : ∀ j, 20 ≤ j → j < m + 1 → 20 ≤ (d2[j]!).val := permIn_all d1 d2 20 (m + 1) (fun x => 20 ≤ x.val) (by omega) a2.1 (fun j h1 h2 => by rw [o1 j h1, idA_at m j h2]; exact h1)
  refine ⟨z1, a2.1.1.trans z1, permIn_trans _ _ _ 0 (m + 1) (permIn_mono _ _ _ _ _ _ (Nat.le_refl _) (by omega) (by omega) a1.1) (permIn_mono _ _ _ _ _ _ (by omega) (Nat.le_refl _) (by omega) a2.1), fun i j h1 h2 h3 => ?_, a2.2, fun i j h1 h2 h3 h4 => ?_⟩
  · rw [o2 i (by omega), o2 j h3]; exact a1.2 i j h1 h2 h3
  · rw [o2 i h2]
    exact Nat.lt_of_lt_of_le (l1 i h1 h2) (l2 j h3 h4)
theorem sw_of {m : Nat} (w : World) (blk n : Nat) (d : Array (Fin (m + 1))) : Go.Proofs.SW encI w blk 0 d ((putRow encI w blk 0 d).drewN n) := ⟨n, #[], by unfold sortWorld; rw [grow_empty]; rfl⟩
/-- the merge of two stretches of places -/
theorem merge_e {m : Nat} {w : World} {B KB : Nat} {ks : List (List Int)} (hk : ks.length = m + 1) (h : KeysAt w B KB ks) {blk : Nat} (hB : B ≠ blk) (hKB : KB ≠ blk) (cap : Nat) (h20 : 20 ≤ m) (hm : m < 40)
    (hH : Holds encI w blk 0 (idA m)) (hblk : blk < w.heap.size) (d : Array (Fin (m + 1))) (hd : TwoS ks d) (n : Nat) :
    Calls Tryd.prog 40 #[.slice (some ⟨blk, 0, none⟩) (m + 1) cap, .int .i64 0, .int .i64 20, .int .i64 ((m + 1 : Nat) : Int), .func (.func 21) #[] #[.pointer (some ⟨B, 0, none⟩)]] ((putRow encI w blk 0 d).drewN n) fun e w' =>
      e = .returned (.tuple #[]) ∧ ∃ d' : Array (Fin (m + 1)), Sorted8 ks d' ∧ Go.Proofs.SW encI w blk 0 d' w' := by
  have hc := sym_e (encI (m := m)) 21 #[.pointer (some ⟨B, 0, none⟩)] (cfK ks) (lbK ks) (swoK hk h.len) (fun x y => x.val < y.val) (fun x y hxy => lt_lb hxy) blk 0 cap (m + 1) (idA m) w ⟨encOne, hH, hblk⟩ (idA_size m)
    (Go.Proofs.CmpReads.lays (cmpReads_e hk h hB hKB (idA m).size)) eg21 (by omega) (m + 1) 0 20 (m + 1) (by omega) (by omega) (by omega) (Nat.le_refl _)
  refine (hc d _ hd.size (sw_of w blk n d) hd.s1 hd.s2 hd.c).mono ?_
  rintro e w' ⟨rfl, d', hp, hs, hw⟩
  exact ⟨rfl, d', ⟨permIn_trans _ _ _ 0 (m + 1) hd.perm hp, hs⟩, hw⟩
set_option maxRecDepth 100000 in
set_option maxHeartbeats 2000000 in
theorem stable40_e {m : Nat} {w : World} {B KB : Nat} {ks : List (List Int)} (hk : ks.length = m + 1) (h : KeysAt w B KB ks) {blk : Nat} (hB : B ≠ blk) (hKB : KB ≠ blk) (cap : Nat) (h20 : 20 ≤ m) (hm : m < 40)
    (hH : Holds encI w blk 0 (idA m)) (hblk : blk < w.heap.size) :
    Calls Tryd.prog 31 #[.slice (some ⟨blk, 0, none⟩) (m + 1) cap, .int .i64 ((m + 1 : Nat) : Int), .func (.func 21) #[] #[.pointer (some ⟨B, 0, none⟩)]] w fun e w' =>
      e = .returned (.tuple #[]) ∧ ∃ d : Array (Fin (m + 1)), Sorted8 ks d ∧ Go.Proofs.SW encI w blk 0 d w' := by
  have hz := idA_size m
  have c1 := fun n => ins_e hk h hB hKB cap 0 20 (idA m) hz (by omega) hH (Nat.zero_le _) (by omega) n
  obtain ⟨d1, e1⟩ : ∃ d1, Sort.insertionSort (ltOf (cfK ks)) (idA m) 0 20 = d1 := ⟨_, rfl⟩
  obtain ⟨d2, e2⟩ : ∃ d2, Sort.insertionSort (ltOf (cfK ks)) d1 20 (m + 1) = d2 := ⟨_, rfl⟩
  obtain ⟨z1, hT⟩ := twoS_of hk h.len h20 e1 e2
  rw [e1] at c1
  have hH1 : ∀ n, Holds encI ((putRow encI w blk 0 d1).drewN n) blk 0 d1 := fun n => holds_putRow encI w blk 0 (idA m) d1 hH (z1.trans hz.symm)
  have hk1 : ∀ n, KeysAt ((putRow encI w blk 0 d1).drewN n) B KB ks := fun n => keys_sortWorld h hB hKB n #[] d1
  have c2 : ∀ n, Calls Tryd.prog 39 #[.slice (some ⟨blk, 0, none⟩) (m + 1) cap, .int .i64 20, .int .i64 ((m + 1 : Nat) : Int), .func (.func 21) #[] #[.pointer (some ⟨B, 0, none⟩)]] ((putRow encI w blk 0 d1).drewN n) fun e w' =>
      e = .returned (.tuple #[]) ∧ ∃ n', w' = (putRow encI w blk 0 d2).drewN n' := fun n => by
    have c := ins_e hk (hk1 n) hB hKB cap 20 (m + 1) d1 z1 (by omega) (hH1 n) (by omega) (by omega) 0
    rw [e2] at c
    refine c.mono ?_
    rintro e w' ⟨he, n', hw⟩
    refine ⟨he, n + n', ?_⟩
    rw [hw, ← World.drewN_drewN]
    exact congrArg (fun W : World => (W.drewN n).drewN n') (putRow_putRow encI w blk 0 d1 d2 (hT.size.trans z1.symm))
  have hH2 : ∀ n, Holds encI ((putRow encI w blk 0 d2).drewN n) blk 0 d2 := fun n => holds_putRow encI w blk 0 (idA m) d2 hH (hT.size.trans hz.symm)
  have hk2 : ∀ n, KeysAt ((putRow encI w blk 0 d2).drewN n) B KB ks := fun n => keys_sortWorld h hB hKB n #[] d2
  have c3 : m = 39 → ∀ n, Calls Tryd.prog 39 #[.slice (some ⟨blk, 0, none⟩) (m + 1) cap, .int .i64 40, .int .i64 40, .func (.func 21) #[] #[.pointer (some ⟨B, 0, none⟩)]] ((putRow encI w blk 0 d2).drewN n) fun e w' =>
      e = .returned (.tuple #[]) ∧ ∃ n', w' = (putRow encI w blk 0 d2).drewN n' := fun h39 n => by
    have c := ins_e hk (hk2 n) hB hKB cap 40 40 d2 hT.size (by omega) (hH2 n) (Nat.le_refl _) (by rw [hT.size]; omega) 0
    have e3 : Sort.insertionSort (ltOf (cfK ks)) d2 40 40 = d2 := by unfold Sort.insertionSort; exact insOuter_stop _ _ _ _ _ (by omega)
    rw [e3] at c
    refine c.mono ?_
    rintro e w' ⟨he, n', hw⟩
    refine ⟨he, n + n', ?_⟩
    rw [hw, ← World.drewN_drewN]
    exact congrArg (fun W : World => (W.drewN n).drewN n') (putRow_putRow encI w blk 0 d2 d2 rfl)
  have c4 := fun n => merge_e hk h hB hKB cap h20 hm hH hblk d2 hT n
  have HC1 := Lib.hid c1
  have HC2 := Lib.hid c2
  have HC3 := Lib.hid c3
  have HC4 := Lib.hid c4
  clear c1 c2 c3 c4 hH1 hk1 hH2 hk2 hT z1 e1 e2 hz hH h hk
  by_cases h39 : m = 39
  · subst h39
    go_enter Tryd.func31, Tryd.ntmps31
    go_wp2
    refine wp_loop_rounds 3 ?_
    rw [rounds_succ]
    go_wp2_with fail
    refine (HC1.out 0).mono ?_
    rintro e w1 ⟨rfl, n1, rfl⟩
    have k2 := HC2.out n1
    clear HC1 HC2
    generalize (putRow encI w blk 0 d1).drewN n1 = w1 at k2 ⊢
    go_wp2_with fail
    rw [rounds_succ]
    go_wp2_with fail
    refine k2.mono ?_
    rintro e w2 ⟨rfl, n2, hw2⟩
    have k3 := HC3.out trivial n2
    rw [← hw2] at k3
    clear k2 HC3 hw2
    go_wp2_with fail
    rw [rounds_succ]
    go_wp2_with fail
    refine k3.mono ?_
    rintro e w3 ⟨rfl, n3, hw3⟩
    have k4 := HC4.out n3
    rw [← hw3] at k4
    clear k3 HC4 hw3
    go_wp2_with fail
    refine wp_loop_rounds 2 ?_
    rw [rounds_succ]
    go_wp2_with fail
    refine wp_loop_rounds 2 ?_
    rw [rounds_succ]
    go_wp2_with fail
    refine k4.mono ?_
    rintro e w4 ⟨rfl, hR⟩
    have HR := Lib.hid hR
    clear k4 hR
    go_wp2_with fail
    rw [rounds_succ]
    go_wp2_with fail
    rw [rounds_succ]
    go_wp2_with fail
    go_end0
    exact ⟨rfl, HR.out⟩
  · have i1 : (20 : Int) ≤ (m : Int) + 1 := by omega
    have i2 : ¬ (40 : Int) ≤ (m : Int) + 1 := by omega
    have i3 : (20 : Int) < (m : Int) + 1 := by omega
    have i4 : ¬ (40 : Int) < (m : Int) + 1 := by omega
    go_enter Tryd.func31, Tryd.ntmps31
    go_wp2
    refine wp_loop_rounds 2 ?_
    rw [rounds_succ]
    go_wp2_with fail
    refine (HC1.out 0).mono ?_
    rintro e w1 ⟨rfl, n1, rfl⟩
    have k2 := HC2.out n1
    clear HC1 HC2
    generalize (putRow encI w blk 0 d1).drewN n1 = w1 at k2 ⊢
    go_wp2_with fail
    rw [rounds_succ]
    go_wp2_with fail
    refine k2.mono ?_
    rintro e w2 ⟨rfl, n2, hw2⟩
    have k4 := HC4.out n2
    rw [← hw2] at k4
    clear k2 HC4 hw2
    go_wp2_with fail
    refine wp_loop_rounds 2 ?_
    rw [rounds_succ]
    go_wp2_with fail
    refine wp_loop_rounds 1 ?_
    rw [rounds_succ]
    go_wp2_with fail
    refine k4.mono ?_
    rintro e w4 ⟨rfl, hR⟩
    have HR := Lib.hid hR
    clear k4 hR
    go_wp2_with fail
    rw [rounds_succ]
    go_wp2_with fail
    go_end0
    exact ⟨rfl, HR.out⟩
set_option maxHeartbeats 1000000 in
theorem sortStable40_e {m : Nat} {w : World} {B KB : Nat} {ks : List (List Int)} (hk : ks.length = m + 1) (h : KeysAt w B KB ks) {blk : Nat} (hB : B ≠ blk) (hKB : KB ≠ blk) (cap : Nat) (h20 : 20 ≤ m) (hm : m < 40)
    (hH : Holds encI w blk 0 (idA m)) (hblk : blk < w.heap.size) :
    Calls Tryd.prog 20 #[.slice (some ⟨blk, 0, none⟩) (m + 1) cap, .func (.func 21) #[] #[.pointer (some ⟨B, 0, none⟩)]] w fun e w' =>
      e = .returned (.tuple #[]) ∧ ∃ d : Array (Fin (m + 1)), Sorted8 ks d ∧ Go.Proofs.SW encI w blk 0 d w' := by
  have c1 := stable40_e hk h hB hKB cap h20 hm hH hblk
  clear hH h hk
  have HC := Lib.hid c1
  clear c1
  go_enter Tryd.func20, Tryd.ntmps20
  go_wp2_with fail
  refine HC.out.mono ?_
  rintro e w1 ⟨rfl, hw1⟩
  have HW := Lib.hid hw1
  clear hw1
  go_wp2_with fail
  go_end0
  exact ⟨rfl, HW.out⟩
end Go.Proofs.YtoaedlllnkcfnaaDoor
