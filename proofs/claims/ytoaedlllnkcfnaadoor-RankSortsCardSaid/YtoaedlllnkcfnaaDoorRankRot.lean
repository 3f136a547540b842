/-
  slices.rotateCmpFunc, walked: two stretches change places by exchanges. Condition: the row lies in memory as told; both stretches hold something.
-/
import Derived.Test.YtoaedlllnkcfnaaDoorRankSwapR
namespace Go.Proofs.YtoaedlllnkcfnaaDoor
open Go.Shelf Go.RowKit Go.Lib Go.Sort Go.Proofs

/-- the exchanges of a turn about m: i in front of it, j from it on -/
def rotF {α : Type} [Inhabited α] (m : Nat) : Nat → Nat → Nat → Array α → Array α
  | 0, _, _, d => d
  | g + 1, i, j, d => if i = j then swpFrom (m - i) m i 0 d else if j < i then rotF m g (i - j) j (swpFrom (m - i) m j 0 d) else rotF m g i (j - i) (swpFrom (m - i) (m + j - i) i 0 d)
theorem swpFrom_size {α : Type} [Inhabited α] (a b : Nat) : ∀ (g i : Nat) (d : Array α), (swpFrom a b g i d).size = d.size
  | 0, _, _ => rfl
  | g + 1, i, d => by rw [swpFrom, swpFrom_size a b g, size_swp]
theorem rotF_size {α : Type} [Inhabited α] (m : Nat) : ∀ (g i j : Nat) (d : Array α), (rotF m g i j d).size = d.size
  | 0, _, _, _ => rfl
  | g + 1, i, j, d => by
    rw [rotF]
    split
    · exact swpFrom_size _ _ _ _ _
    · split <;> rw [rotF_size m g, swpFrom_size]
set_option maxRecDepth 100000 in
set_option maxHeartbeats 1600000 in
theorem rotate_e {α : Type} [Inhabited α] (enc : α → Value) (f : Value) (blk off cap a m b N : Nat) (d0 d : Array α) (w0 w : World)
    (R : Row1 enc w0 blk off d0) (hs : d0.size = N) (hd : d.size = N) (S : SW enc w0 blk off d w) (ha : a < m) (hm : m < b) (hb : b ≤ N) (hsz : N < 4611686018427387904) :
    Calls Tryd.prog 43 #[.slice (some ⟨blk, off, none⟩) N cap, .int .i64 a, .int .i64 m, .int .i64 b, f] w fun e w' => e = .returned (.tuple #[]) ∧ SW enc w0 blk off (rotF m (b - a) (m - a) (b - m) d) w' := by
  have C : Aside (∀ (dk : Array α) (wr : World) (a b n : Nat), dk.size = N → SW enc w0 blk off dk wr → a + n ≤ N → b + n ≤ N → Calls Tryd.prog 44 #[.slice (some ⟨blk, off, none⟩) N cap, .int .i64 a, .int .i64 b, .int .i64 n, f] wr fun e w' => e = .returned (.tuple #[]) ∧ SW enc w0 blk off (swpFrom a b n 0 dk) w') := fun dk wr a b n h S h1 h2 => by
    subst h
    exact swapRange_e enc f blk off cap a b n d0 dk w0 wr R hs S h1 h2 hsz
  have S0 : Aside (SW enc w0 blk off d w) := S
  obtain ⟨i0, hi0⟩ : ∃ i0, i0 = m - a := ⟨_, rfl⟩
  obtain ⟨j0, hj0⟩ : ∃ j0, j0 = b - m := ⟨_, rfl⟩
  obtain ⟨K0, hK0⟩ : ∃ K0, K0 = b - a := ⟨_, rfl⟩
  rw [← hi0, ← hj0, ← hK0]
  have s1 : (m : Int) - (a : Int) = (i0 : Int) := by omega
  have s2 : (b : Int) - (m : Int) = (j0 : Int) := by omega
  have v1 : IntKind.i64.wrap (i0 : Int) = (i0 : Int) := by rw [IntKind.wrap_i64]; omega
  have v2 : IntKind.i64.wrap (j0 : Int) = (j0 : Int) := by rw [IntKind.wrap_i64]; omega
  have HB : Aside (0 < i0 ∧ 0 < j0 ∧ i0 + j0 ≤ K0 ∧ i0 ≤ m ∧ m + j0 ≤ N) := by refine ⟨?_, ?_, ?_, ?_, ?_⟩ <;> omega
  clear S R hs hi0 hj0 hK0 ha hm hb
  go_enter Tryd.func43, Tryd.ntmps43
  go_wp2_with fail
  clear s1 s2 v1 v2
  go_loopg [10, 11] K0 (fun kx s10 s11 wr => ∃ (i j : Nat) (dk : Array α), s10 = .int .i64 i ∧ s11 = .int .i64 j ∧ Aside (0 < i ∧ 0 < j ∧ i + j ≤ kx ∧ i ≤ m ∧ m + j ≤ N) ∧ Aside (dk.size = N) ∧ Aside (SW enc w0 blk off dk wr) ∧ Aside (rotF m kx i j dk = rotF m K0 i0 j0 d))
  case atStart => exact ⟨i0, j0, d, rfl, rfl, HB, hd, S0, rfl⟩
  case round =>
    clear S0 HB
    obtain ⟨i, j, dk, rfl, rfl, hB, hds, S1, heq⟩ := hrel
    obtain ⟨g, rfl⟩ : ∃ g, gk = g + 1 := ⟨gk - 1, by have := hB.out; omega⟩
    by_cases hij : i = j
    · subst hij
      have hx := heq.out
      rw [rotF, if_pos rfl] at hx
      obtain ⟨x, hx0⟩ : ∃ x, x = m - i := ⟨_, rfl⟩
      rw [← hx0] at hx
      have sx : (m : Int) - (i : Int) = (x : Int) := by have := hB.out; omega
      have vx : IntKind.i64.wrap (x : Int) = (x : Int) := by rw [IntKind.wrap_i64]; have := hB.out; omega
      have HX : Aside (swpFrom x m i 0 dk = rotF m K0 i0 j0 d) := hx
      have c1 := C.out dk wr x m i hds.out S1.out (by have := hB.out; omega) (by have := hB.out; omega)
      clear hx hx0 heq S1 hds
      go_wp2_with fail
      refine c1.mono ?_
      rintro e w2 ⟨rfl, hw2⟩
      rw [HX.out] at hw2
      have HW : Aside (SW enc w0 blk off (rotF m K0 i0 j0 d) w2) := hw2
      clear hw2 c1
      go_wp2_with fail
      go_end0
      exact ⟨rfl, HW.out⟩
    · have hijI : ¬ (i : Int) = (j : Int) := by omega
      by_cases hlt : j < i
      · have hltI : (j : Int) < (i : Int) := by omega
        have hx := heq.out
        rw [rotF, if_neg hij, if_pos hlt] at hx
        obtain ⟨x, hx0⟩ : ∃ x, x = m - i := ⟨_, rfl⟩
        obtain ⟨r, hr0⟩ : ∃ r, r = i - j := ⟨_, rfl⟩
        rw [← hx0, ← hr0] at hx
        have sx : (m : Int) - (i : Int) = (x : Int) := by have := hB.out; omega
        have vx : IntKind.i64.wrap (x : Int) = (x : Int) := by rw [IntKind.wrap_i64]; have := hB.out; omega
        have sr : (i : Int) - (j : Int) = (r : Int) := by omega
        have vr : IntKind.i64.wrap (r : Int) = (r : Int) := by rw [IntKind.wrap_i64]; have := hB.out; omega
        have HX : Aside (rotF m g r j (swpFrom x m j 0 dk) = rotF m K0 i0 j0 d) := hx
        have HB2 : Aside (0 < r ∧ 0 < j ∧ r + j ≤ g ∧ r ≤ m ∧ m + j ≤ N) := by have := hB.out; refine ⟨?_, ?_, ?_, ?_, ?_⟩ <;> omega
        have HS2 : Aside ((swpFrom x m j 0 dk).size = N) := by show _ = _; rw [swpFrom_size]; exact hds.out
        have c1 := C.out dk wr x m j hds.out S1.out (by have := hB.out; omega) (by have := hB.out; omega)
        clear hx hx0 hr0 heq S1 hds
        go_wp2_with fail
        refine c1.mono ?_
        rintro e w2 ⟨rfl, hw2⟩
        have HW : Aside (SW enc w0 blk off (swpFrom x m j 0 dk) w2) := hw2
        clear hw2 c1
        go_wp2_with fail
        go_roundg g
        case measure => omega
        case rel => exact ⟨r, j, _, rfl, rfl, HB2, HS2, HW, HX⟩
      · have hltI : ¬ (j : Int) < (i : Int) := by omega
        have hx := heq.out
        rw [rotF, if_neg hij, if_neg hlt] at hx
        obtain ⟨x, hx0⟩ : ∃ x, x = m - i := ⟨_, rfl⟩
        obtain ⟨r, hr0⟩ : ∃ r, r = j - i := ⟨_, rfl⟩
        obtain ⟨s, hs0⟩ : ∃ s, s = m + j := ⟨_, rfl⟩
        rw [← hs0] at hx
        obtain ⟨t, ht0⟩ : ∃ t, t = s - i := ⟨_, rfl⟩
        rw [← hx0, ← hr0, ← ht0] at hx
        have sx : (m : Int) - (i : Int) = (x : Int) := by have := hB.out; omega
        have vx : IntKind.i64.wrap (x : Int) = (x : Int) := by rw [IntKind.wrap_i64]; have := hB.out; omega
        have sr : (j : Int) - (i : Int) = (r : Int) := by omega
        have vr : IntKind.i64.wrap (r : Int) = (r : Int) := by rw [IntKind.wrap_i64]; have := hB.out; omega
        have ss : (m : Int) + (j : Int) = (s : Int) := by omega
        have vs : IntKind.i64.wrap (s : Int) = (s : Int) := by rw [IntKind.wrap_i64]; have := hB.out; omega
        have st : (s : Int) - (i : Int) = (t : Int) := by have := hB.out; omega
        have vt : IntKind.i64.wrap (t : Int) = (t : Int) := by rw [IntKind.wrap_i64]; have := hB.out; omega
        have HX : Aside (rotF m g i r (swpFrom x t i 0 dk) = rotF m K0 i0 j0 d) := hx
        have HB2 : Aside (0 < i ∧ 0 < r ∧ i + r ≤ g ∧ i ≤ m ∧ m + r ≤ N) := by have := hB.out; refine ⟨?_, ?_, ?_, ?_, ?_⟩ <;> omega
        have HS2 : Aside ((swpFrom x t i 0 dk).size = N) := by show _ = _; rw [swpFrom_size]; exact hds.out
        have c1 := C.out dk wr x t i hds.out S1.out (by have := hB.out; omega) (by have := hB.out; omega)
        clear hx hx0 hr0 hs0 ht0 heq S1 hds
        go_wp2_with fail
        refine c1.mono ?_
        rintro e w2 ⟨rfl, hw2⟩
        have HW : Aside (SW enc w0 blk off (swpFrom x t i 0 dk) w2) := hw2
        clear hw2 c1
        go_wp2_with fail
        go_roundg g
        case measure => omega
        case rel => exact ⟨i, r, _, rfl, rfl, HB2, HS2, HW, HX⟩
end Go.Proofs.YtoaedlllnkcfnaaDoor
