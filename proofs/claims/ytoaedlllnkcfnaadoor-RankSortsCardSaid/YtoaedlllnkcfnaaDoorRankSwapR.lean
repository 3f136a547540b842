/-
  slices.swapRangeCmpFunc, walked: so many exchanges of places, one behind the other. Condition: the row lies in memory as told.
-/
import Derived.Test.YtoaedlllnkcfnaaDoorRankStab
import Derived.Shelf.SlSortCmp.Kit1
import Derived.Sort.WalkB2
import Derived.Sort.WalkB12
import Derived.Deep.LoopGhost
namespace Go.Proofs.YtoaedlllnkcfnaaDoor
open Go.Shelf Go.RowKit Go.Lib Go.Sort Go.Proofs

/-- exchanges of a + i and b + i, g of them from i on -/
def swpFrom {α : Type} [Inhabited α] (a b : Nat) : Nat → Nat → Array α → Array α
  | 0, _, d => d
  | g + 1, i, d => swpFrom a b g (i + 1) (swp d (a + i) (b + i))
set_option maxRecDepth 100000 in
set_option maxHeartbeats 1600000 in
theorem swapRange_e {α : Type} [Inhabited α] (enc : α → Value) (f : Value) (blk off cap a b n : Nat) (d0 d : Array α) (w0 w : World)
    (R : Row1 enc w0 blk off d0) (hs : d0.size = d.size) (S : SW enc w0 blk off d w) (ha : a + n ≤ d.size) (hb : b + n ≤ d.size) (hsz : d.size < 4611686018427387904) :
    Calls Tryd.prog 44 #[.slice (some ⟨blk, off, none⟩) d.size cap, .int .i64 a, .int .i64 b, .int .i64 n, f] w fun e w' => e = .returned (.tuple #[]) ∧ SW enc w0 blk off (swpFrom a b n 0 d) w' := by
  have hcl0 := R.hO.cells
  simp only [Value.cells] at hcl0
  have hst := R.hO.store Tryd.prog
  have mixed : Tryd.prog.follows .mixedOrders = true := by kernel_rfl
  have S0 : Aside (SW enc w0 blk off d w) := S
  clear S
  go_enter Tryd.func44, Tryd.ntmps44
  go_wp2
  go_loopg [10] n (fun kx s10 wr => ∃ (i : Nat) (dk : Array α), s10 = .int .i64 i ∧ i + kx = n ∧ dk.size = d.size ∧ Aside (SW enc w0 blk off dk wr) ∧ swpFrom a b kx i dk = swpFrom a b n 0 d)
  case atStart => exact ⟨0, d, rfl, by simp, rfl, S0, rfl⟩
  case round =>
    clear S0
    obtain ⟨i, dk, rfl, hk, hds, S1, heq⟩ := hrel
    by_cases hlt : (i : Int) < (n : Int)
    · obtain ⟨g, rfl⟩ : ∃ g, gk = g + 1 := ⟨gk - 1, by omega⟩
      go_wp2_with fail
      obtain ⟨p, hp⟩ : ∃ p : Nat, p = a + i := ⟨_, rfl⟩
      obtain ⟨q, hq⟩ : ∃ q : Nat, q = b + i := ⟨_, rfl⟩
      have sp : (a : Int) + (i : Int) = (p : Int) := by omega
      have sq : (b : Int) + (i : Int) = (q : Int) := by omega
      have hpd : p < dk.size := by omega
      have hqd : q < dk.size := by omega
      have wp1 : IntKind.i64.wrap ((p : Int)) = (p : Int) := by rw [IntKind.wrap_i64]; omega
      have wq1 : IntKind.i64.wrap ((q : Int)) = (q : Int) := by rw [IntKind.wrap_i64]; omega
      have bp1 : (p : Int) < (d.size : Int) := by omega
      have bq1 : (q : Int) < (d.size : Int) := by omega
      have pp1 : (0 : Int) ≤ (p : Int) := by omega
      have pq1 : (0 : Int) ≤ (q : Int) := by omega
      obtain ⟨x, hx⟩ : ∃ x, x = dk[p]! := ⟨_, rfl⟩
      obtain ⟨y, hy⟩ : ∃ x, x = dk[q]! := ⟨_, rfl⟩
      have S2 : Aside (SW enc w0 blk off (swp dk p q) ((wr.setCell ⟨blk, off + p, none⟩ (enc y)).setCell ⟨blk, off + q, none⟩ (enc x)).drew) := by rw [hx, hy]; exact S1.out.swapped R p q (by omega) (by omega)
      have ca := S1.out.c1 R (by omega) p (by omega)
      have cb := S1.out.c1 R (by omega) q (by omega)
      have fa := S1.out.f1 R (by omega) p (by omega)
      have fb := S1.out.f1 R (by omega) q (by omega)
      obtain ⟨u, cc⟩ := S1.out.c2 R (by omega) p q (by omega) (by omega) (enc y)
      rw [← hx] at ca
      rw [← hy] at cb
      have heq2 : Aside (swpFrom a b g (i + 1) (swp dk p q) = swpFrom a b n 0 d) := by rw [hp, hq]; exact heq
      clear S1 hx hy heq hp hq
      go_wp2_with fail
      go_big_region_o
      clear ca cb cc fa fb
      generalize ((wr.setCell ⟨blk, off + p, none⟩ (enc y)).setCell ⟨blk, off + q, none⟩ (enc x)).drew = w2 at S2 ⊢
      go_wp2
      go_roundg g
      case measure => omega
      case rel => exact ⟨i + 1, swp dk p q, by simp, by omega, by rw [size_swp]; exact hds, S2, heq2.out⟩
    · obtain rfl : gk = 0 := by omega
      go_wp2
      go_end0
      refine ⟨rfl, ?_⟩
      rw [← heq]
      exact S1.out
end Go.Proofs.YtoaedlllnkcfnaaDoor
