/-
  What the laws' walks share: bits of a number, and entries that count and are of other questions. Conditions: none.
-/
import Derived.Test.YtiifanenomebeaaCacheFit
namespace Go.Proofs.Ytiifanenomebeaa
open Go.RowKit Go.Lib

theorem and_n (n : Int) (q : Nat) (hq : q < 1073741824) : ∃ m : Nat, m ≤ q ∧ bits BinOp.and IntKind.i64 n (q : Nat) = (m : Int) := by
  have hle : (BitVec.ofInt 64 n &&& BitVec.ofInt 64 (q : Nat)).toNat ≤ q := by
    rw [BitVec.toNat_and]
    refine Nat.le_trans Nat.and_le_right ?_
    rw [BitVec.ofInt_natCast, BitVec.toNat_ofNat]
    exact Nat.mod_le _ _
  refine ⟨(BitVec.ofInt 64 n &&& BitVec.ofInt 64 (q : Nat)).toNat, hle, ?_⟩
  show IntKind.i64.wrap ((BitVec.ofInt 64 n &&& BitVec.ofInt 64 (q : Nat)).toNat : Int) = _
  exact IntWalk.i64_in _ (by omega)
/-- a text of one byte, out of a slice's literal -/
theorem conv1 (w : World) (k : Nat) (h : k < 256) : (convert 29 9 (.slice (some ⟨w.heap.size, 0, none⟩) 1 1)).run Try.prog (w.alloc (.cells #[.int .u8 (k : Int)] 5)) = .ok (.string ⟨#[UInt8.ofNat k]⟩) (w.alloc (.cells #[.int .u8 (k : Int)] 5)) :=
  run_convert_bytes_back (P := Try.prog) (w.alloc (.cells #[.int .u8 (k : Int)] 5)) 29 9 5 ⟨w.heap.size, 0, none⟩ 1 [UInt8.ofNat k] Try.underlying29 Try.underlying5 Try.underlying9 (fun j hj => by
    obtain rfl : j = 0 := by simp only [List.length_singleton] at hj; omega
    rw [Addr.add_lit, Nat.zero_add, World.cell?_alloc_mark, List.getElem_cons_zero, UInt8.toNat_ofNat', Nat.mod_eq_of_lt h]; rfl)
/-- a text of one byte -/
def nmB (i : Nat) : ByteArray := ⟨#[UInt8.ofNat i]⟩
theorem nmB_ne {i j : Nat} (hi : i < 256) (hj : j < 256) (h : nmB i = nmB j) : i = j := by
  unfold nmB at h
  simp only [ByteArray.mk.injEq, Array.mk.injEq, List.cons.injEq, and_true] at h
  have := congrArg UInt8.toNat h
  rw [UInt8.toNat_ofNat', UInt8.toNat_ofNat'] at this
  omega
/-- behind a Put of a question that isn't there, where all count -/
theorem put_more {size now : Nat} {ps : List PE} {p : PE} {ps' : List PE} (h : PutR size now ps p ps') (hc : ∀ x ∈ ps, cntP now x = true) (hq : ∀ x ∈ ps, isP p.nm p.ty x = false) :
    (ps.length ≠ size ∧ ps' = ps ++ [p]) ∨ (ps.length = size ∧ ∃ f, ShM ps f ∧ ps' = ps.eraseIdx f ++ [p]) := by
  obtain ⟨l, rfl, h⟩ := h
  have e : (ps.filter (cntP now)).eraseP (isP p.nm p.ty) = ps := by
    rw [List.filter_eq_self.2 hc, List.eraseP_of_forall_not (fun a ha => by rw [hq a ha]; simp)]
  rw [e] at h
  exact h
end Go.Proofs.Ytiifanenomebeaa
