/-
  The walk of msg.bits: the header's bits of a message. Condition: its code is 0 to 15.
-/
import Derived.Test.YtakfokdjdljjjaaDoorMsgAllM
import Derived.Test.YtakfokdjdljjjaaDoorMsgBits
namespace Go.Proofs.YtakfokdjdljjjaaDoor
open Go.RowKit

def bitsV (rp tr rc : Bool) (c : Nat) : Nat := (if rp then 32768 else 0) + (if tr then 512 else 0) + (if rc then 256 else 0) + c
theorem or3 : ∀ c : Fin 16, (c.val ||| 32768 = 32768 + c.val) ∧ (c.val ||| 512 = 512 + c.val) ∧ (c.val ||| 256 = 256 + c.val) ∧ (c.val ||| 32768 ||| 512 = 33280 + c.val) ∧ (c.val ||| 32768 ||| 256 = 33024 + c.val) ∧ (c.val ||| 512 ||| 256 = 768 + c.val) ∧ (c.val ||| 32768 ||| 512 ||| 256 = 33536 + c.val) := by decide +kernel
theorem ret_int {k : IntKind} {a b : Int} (h : a = b) : Ending.returned (.int k a) = .returned (.int k b) := by rw [h]
set_option maxRecDepth 100000 in
set_option maxHeartbeats 2000000 in
theorem bits_any (m : MV) (c : Nat) (hm : m.code = c) (hc : c ≤ 15) (w : World) :
    Calls Tryd.prog 16 #[.agg m.cells] w fun e w' => e = .returned (.int .i64 (bitsV m.rp m.tr m.rc c : Nat)) ∧ Below w.heap.size w w' := by
  have h3 := or3 ⟨c, by omega⟩
  simp only at h3
  obtain ⟨o1, o2, o3, o4, o5, o6, o7⟩ := h3
  have l1 : c ||| 32768 < 65536 := by omega
  have l2 : c ||| 512 < 65536 := by omega
  have l3 : c ||| 256 < 65536 := by omega
  have l4 : c ||| 32768 ||| 512 < 65536 := by omega
  have l5 : c ||| 32768 ||| 256 < 65536 := by omega
  have l6 : c ||| 512 ||| 256 < 65536 := by omega
  have b1 : bits .or .i64 (c : Int) 32768 = ((c ||| 32768 : Nat) : Int) := i64_or (b := 32768) (by omega) (by omega)
  have b2 : bits .or .i64 (c : Int) 512 = ((c ||| 512 : Nat) : Int) := i64_or (b := 512) (by omega) (by omega)
  have b3 : bits .or .i64 (c : Int) 256 = ((c ||| 256 : Nat) : Int) := i64_or (b := 256) (by omega) (by omega)
  have b4 : bits .or .i64 ((c ||| 32768 : Nat) : Int) 512 = ((c ||| 32768 ||| 512 : Nat) : Int) := i64_or (b := 512) (by omega) (by omega)
  have b5 : bits .or .i64 ((c ||| 32768 : Nat) : Int) 256 = ((c ||| 32768 ||| 256 : Nat) : Int) := i64_or (b := 256) (by omega) (by omega)
  have b6 : bits .or .i64 ((c ||| 512 : Nat) : Int) 256 = ((c ||| 512 ||| 256 : Nat) : Int) := i64_or (b := 256) (by omega) (by omega)
  have b7 : bits .or .i64 ((c ||| 32768 ||| 512 : Nat) : Int) 256 = ((c ||| 32768 ||| 512 ||| 256 : Nat) : Int) := i64_or (b := 256) (by omega) (by omega)
  have HB := Lib.hid (And.intro b1 (And.intro b2 (And.intro b3 (And.intro b4 (And.intro b5 (And.intro b6 b7))))))
  have HO := Lib.hid (And.intro o1 (And.intro o2 (And.intro o3 (And.intro o4 (And.intro o5 (And.intro o6 o7))))))
  clear b1 b2 b3 b4 b5 b6 b7 o1 o2 o3 o4 o5 o6 o7 l1 l2 l3 l4 l5 l6
  obtain ⟨id, rp, tr, rc, code, qn, qt, A, ca, an, U, cu, au⟩ := m
  simp only at hm
  subst hm
  unfold MV.cells
  simp only
  cases rp <;> cases tr <;> cases rc
  all_goals
    go_enter Tryd.func16, Tryd.ntmps16
    go_wp2
    go_ret
    refine ⟨ret_int ?_, (Below.refl _ w).alloc (Nat.le_refl _) _⟩
    obtain ⟨b1, b2, b3, b4, b5, b6, b7⟩ := HB.out
    obtain ⟨o1, o2, o3, o4, o5, o6, o7⟩ := HO.out
    unfold bitsV
    first
      | (rw [b1, b4, b7, o7]; simp)
      | (rw [b1, b4, o4]; simp)
      | (rw [b1, b5, o5]; simp)
      | (rw [b2, b6, o6]; simp)
      | (rw [b1, o1]; simp)
      | (rw [b2, o2]; simp)
      | (rw [b3, o3]; simp)
      | simp
end Go.Proofs.YtakfokdjdljjjaaDoor
