/-
  The walk of slices.SortStableFunc over places of at most 20 keys. Condition: the keys lie in memory, apart from the places.
-/
import Derived.Test.YtoaedlllnkcfnaaDoorRankSortMath
namespace Go.Proofs.YtoaedlllnkcfnaaDoor
open Go.RowKit
open Go.Sort hiding Below

def encI {m : Nat} (x : Fin (m + 1)) : Value := .int .i64 (x.val : Nat)
theorem keys_sortWorld {m : Nat} {w : World} {B KB : Nat} {ks : List (List Int)} (h : KeysAt w B KB ks) {blk : Nat} (hB : B ≠ blk) (hKB : KB ≠ blk) (n : Nat) (os : Array Obj) (dk : Array (Fin (m + 1))) : KeysAt (sortWorld encI w blk 0 n dk os) B KB ks := by
  have hc : ∀ (p : Addr) v, w.cell? p = some v → p.block ≠ blk → (sortWorld encI w blk 0 n dk os).cell? p = some v := fun p v hv hne => by
    unfold sortWorld
    rw [cell?_grow _ _ _ (by rw [size_putRow]; exact cell_lt hv), cell?_putRow_other _ _ _ _ _ _ (Or.inl hne)]
    exact hv
  exact ⟨hc _ _ h.var hB, h.len, fun i k hk j hj => hc _ _ (h.cells i k hk j hj) hKB⟩
theorem cmpReads_e {m : Nat} {w : World} {B KB : Nat} {ks : List (List Int)} (hk : ks.length = m + 1) (h : KeysAt w B KB ks) {blk : Nat} (hB : B ≠ blk) (hKB : KB ≠ blk) (s : Nat) :
    CmpReads Tryd.prog 21 #[.pointer (some ⟨B, 0, none⟩)] (encI (m := m)) (cfK ks) blk 0 s w := fun n os dk _ x y => by
  have hx := x.isLt
  have hy := y.isLt
  have := closure_e B KB ks _ (keys_sortWorld h hB hKB n os dk) x.val y.val (ks.getD x.val []) (ks.getD y.val []) (by rw [List.getD_eq_getElem?_getD, List.getElem?_eq_getElem (by omega)]; rfl) (by rw [List.getD_eq_getElem?_getD, List.getElem?_eq_getElem (by omega)]; rfl)
  exact this
theorem encOne {m : Nat} : OneCell (encI (m := m)) := fun _ => rfl
theorem eg21 : ∀ args w, (callFunc 21 args).run Tryd.prog w = .ok (.enter 21 args) w := enters_of Tryd.func21 (by kernel_rfl) rfl
/-- insertion, as it is called -/
theorem ins_e {m : Nat} {w : World} {B KB : Nat} {ks : List (List Int)} (hk : ks.length = m + 1) (h : KeysAt w B KB ks) {blk : Nat} (hB : B ≠ blk) (hKB : KB ≠ blk) (cap a b : Nat) (d : Array (Fin (m + 1))) (hd : d.size = m + 1) (hm : m < 1000000)
    (hH : Holds encI w blk 0 d) (hab : a ≤ b) (hb : b ≤ d.size) (n : Nat) :
    Calls Tryd.prog 39 #[.slice (some ⟨blk, 0, none⟩) (m + 1) cap, .int .i64 a, .int .i64 b, .func (.func 21) #[] #[.pointer (some ⟨B, 0, none⟩)]] (w.drewN n) fun e w' =>
      e = .returned (.tuple #[]) ∧ ∃ n', w' = (putRow encI w blk 0 (Sort.insertionSort (ltOf (cfK ks)) d a b)).drewN n' := by
  have h1 := Any.insertionSortCmpFunc_one Tryd.insLays (encI (m := m)) encOne (cfK ks) 21 #[.pointer (some ⟨B, 0, none⟩)] blk 0 cap a b d (w.drewN n) eg21
    (cmpReads_e hk (⟨h.var, h.len, h.cells⟩ : KeysAt (w.drewN n) B KB ks) hB hKB d.size) hH hab hb (by omega)
  rw [hd] at h1
  exact h1.mono fun e w' ⟨he, n', hw⟩ => ⟨he, n + n', by rw [hw, ← World.drewN_drewN]; rfl⟩

/-- the places as they are at first -/
def idA (m : Nat) : Array (Fin (m + 1)) := Array.ofFn fun i => i
theorem idA_size (m : Nat) : (idA m).size = m + 1 := by unfold idA; simp
theorem idA_at (m k : Nat) (h : k < m + 1) : ((idA m)[k]!).val = k := by
  rw [getElem!_pos _ k (by rw [idA_size]; exact h)]
  unfold idA
  simp
/-- what a sort of the places leaves -/
def Sorted8 {m : Nat} (ks : List (List Int)) (d : Array (Fin (m + 1))) : Prop := PermIn 0 (m + 1) (idA m) d ∧ SortedIn (lbK ks) 0 (m + 1) d
set_option maxRecDepth 100000 in
set_option maxHeartbeats 1000000 in
theorem stable20_e {m : Nat} {w : World} {B KB : Nat} {ks : List (List Int)} (hk : ks.length = m + 1) (h : KeysAt w B KB ks) {blk : Nat} (hB : B ≠ blk) (hKB : KB ≠ blk) (cap : Nat) (hm : m < 20)
    (hH : Holds encI w blk 0 (idA m)) :
    Calls Tryd.prog 31 #[.slice (some ⟨blk, 0, none⟩) (m + 1) cap, .int .i64 ((m + 1 : Nat) : Int), .func (.func 21) #[] #[.pointer (some ⟨B, 0, none⟩)]] w fun e w' =>
      e = .returned (.tuple #[]) ∧ ∃ (d : Array (Fin (m + 1))) (n' : Nat), Sorted8 ks d ∧ w' = (putRow encI w blk 0 d).drewN n' := by
  have hz := idA_size m
  have hst := ins_stable hk h.len (idA m) 0 (m + 1) (Nat.zero_le _) (by omega) (fun k j _ h2 h3 => by rw [idA_at m k (by omega), idA_at m j (by omega)]; exact h2)
  have c1 := fun n => ins_e hk h hB hKB cap 0 (m + 1) (idA m) hz (by omega) hH (Nat.zero_le _) (by omega) n
  generalize hd : Sort.insertionSort (ltOf (cfK ks)) (idA m) 0 (m + 1) = d at hst c1
  have hH2 : ∀ n, Holds encI ((putRow encI w blk 0 d).drewN n) blk 0 d := fun n => holds_putRow encI w blk 0 (idA m) d hH (hst.1.1)
  have hk2 : ∀ n, KeysAt ((putRow encI w blk 0 d).drewN n) B KB ks := fun n => keys_sortWorld h hB hKB n #[] d
  have hzd : d.size = m + 1 := hst.1.1.trans hz
  have c2 := fun n => ins_e hk (hk2 n) hB hKB cap 20 20 d hzd (by omega) (hH2 n) (Nat.le_refl _)
  have e2 : m = 19 → Sort.insertionSort (ltOf (cfK ks)) d 20 20 = d := fun e => by unfold Sort.insertionSort; exact insOuter_stop _ _ _ _ _ (by omega)
  have hS : Sorted8 ks d := hst
  have HS := Lib.hid hS
  have HC1 := Lib.hid c1
  have HC2 := Lib.hid c2
  have HE2 := Lib.hid e2
  have HH2 := Lib.hid hH2
  have HZ := Lib.hid hzd
  clear hst c1 c2 e2 hH2 hk2 hd hS h hH hk hz hzd
  by_cases h19 : m = 19
  · subst h19
    go_enter Tryd.func31, Tryd.ntmps31
    go_wp2
    refine wp_loop_rounds 2 ?_
    rw [rounds_succ]
    go_wp2_with fail
    refine (HC1.out 0).mono ?_
    rintro e w1 ⟨rfl, n1, rfl⟩
    have hc2 := HC2.out n1 (by rw [HZ.out]; exact Nat.le_refl _) 0
    rw [HE2.out (by trivial)] at hc2
    have e0 := putRow_putRow encI w blk 0 d d rfl
    have e1 : ∀ n', (putRow encI ((putRow encI w blk 0 d).drewN n1) blk 0 d).drewN n' = (putRow encI w blk 0 d).drewN (n1 + n') := fun n' => by
      rw [← World.drewN_drewN]
      exact congrArg (fun W : World => (W.drewN n1).drewN n') e0
    have hc3 : Calls Tryd.prog 39 #[.slice (some ⟨blk, 0, none⟩) 20 cap, .int .i64 20, .int .i64 20, .func (.func 21) #[] #[.pointer (some ⟨B, 0, none⟩)]] ((putRow encI w blk 0 d).drewN n1) fun e w' => e = .returned (.tuple #[]) ∧ ∃ n', w' = (putRow encI w blk 0 d).drewN n' :=
      hc2.mono fun e w' ⟨he, n', hw⟩ => ⟨he, n1 + n', by rw [hw, e1]⟩
    clear hc2 e0 e1
    generalize (putRow encI w blk 0 d).drewN n1 = w1 at hc3 ⊢
    go_wp2_with fail
    rw [rounds_succ]
    go_wp2_with fail
    refine hc3.mono ?_
    rintro e w2 ⟨rfl, hw2⟩
    clear hc3
    go_wp2_with fail
    refine wp_loop_rounds 1 ?_
    rw [rounds_succ]
    go_wp2_with fail
    go_end0
    obtain ⟨n2, hw2⟩ := hw2
    exact ⟨rfl, d, n2, HS.out, hw2⟩
  · have hlt : (m : Int) + 1 < 20 := by omega
    go_enter Tryd.func31, Tryd.ntmps31
    go_wp2
    refine wp_loop_rounds 1 ?_
    rw [rounds_succ]
    go_wp2_with fail
    refine (HC1.out 0).mono ?_
    rintro e w1 ⟨rfl, n1, rfl⟩
    generalize hw1 : (putRow encI w blk 0 d).drewN n1 = w1
    go_wp2_with fail
    refine wp_loop_rounds 1 ?_
    rw [rounds_succ]
    go_wp2_with fail
    go_end0
    exact ⟨rfl, d, n1, HS.out, hw1.symm⟩
set_option maxHeartbeats 1000000 in
theorem sortStable20_e {m : Nat} {w : World} {B KB : Nat} {ks : List (List Int)} (hk : ks.length = m + 1) (h : KeysAt w B KB ks) {blk : Nat} (hB : B ≠ blk) (hKB : KB ≠ blk) (cap : Nat) (hm : m < 20)
    (hH : Holds encI w blk 0 (idA m)) :
    Calls Tryd.prog 20 #[.slice (some ⟨blk, 0, none⟩) (m + 1) cap, .func (.func 21) #[] #[.pointer (some ⟨B, 0, none⟩)]] w fun e w' =>
      e = .returned (.tuple #[]) ∧ ∃ (d : Array (Fin (m + 1))) (n' : Nat), Sorted8 ks d ∧ w' = (putRow encI w blk 0 d).drewN n' := by
  have c1 := stable20_e hk h hB hKB cap hm hH
  clear hH h hk
  have HC := Lib.hid c1
  clear c1
  go_enter Tryd.func20, Tryd.ntmps20
  go_wp2_with fail
  refine HC.out.mono ?_
  rintro e w1 ⟨rfl, hw1⟩
  have HW := Lib.hid hw1
  clear hw1
  go_wp2_with fail
  go_end0
  exact ⟨rfl, HW.out⟩
/-- nothing to sort -/
theorem ins0_e (A : Option Addr) (cap : Nat) (f : Value) (w : World) : Calls Tryd.prog 39 #[.slice A 0 cap, .int .i64 0, .int .i64 0, f] w fun e w' => e = .returned (.tuple #[]) ∧ w' = w := by
  go_enter Tryd.func39, Tryd.ntmps39
  go_wp2
  refine wp_loop_rounds 1 ?_
  rw [rounds_succ]
  go_wp2
  go_end0
  exact ⟨rfl, rfl⟩
theorem stable0_e (A : Option Addr) (cap : Nat) (f : Value) (w : World) : Calls Tryd.prog 31 #[.slice A 0 cap, .int .i64 0, f] w fun e w' => e = .returned (.tuple #[]) ∧ w' = w := by
  go_enter Tryd.func31, Tryd.ntmps31
  go_wp2
  refine wp_loop_rounds 1 ?_
  rw [rounds_succ]
  go_wp2_with fail
  refine (ins0_e _ _ _ _).mono ?_
  rintro e w1 ⟨rfl, hw1⟩
  subst hw1
  go_wp2_with fail
  refine wp_loop_rounds 1 ?_
  rw [rounds_succ]
  go_wp2_with fail
  go_end0
  exact ⟨rfl, rfl⟩
theorem sortStable0_e (A : Option Addr) (cap : Nat) (f : Value) (w : World) : Calls Tryd.prog 20 #[.slice A 0 cap, f] w fun e w' => e = .returned (.tuple #[]) ∧ w' = w := by
  go_enter Tryd.func20, Tryd.ntmps20
  go_wp2_with fail
  refine (stable0_e _ _ _ _).mono ?_
  rintro e w1 ⟨rfl, hw1⟩
  subst hw1
  go_wp2_with fail
  go_end0
  exact ⟨rfl, rfl⟩
end Go.Proofs.YtoaedlllnkcfnaaDoor
