/-
  Plain facts for MsgCapitals' loop: a small letter made a capital. No condition.
-/
import Derived.Test.YtogojnlfglbefaaDoorMsgCapDec
namespace Go.Proofs.YtogojnlfglbefaaDoor
open Go.RowKit

theorem lowc_cap : ∀ k : Fin 256, 97 ≤ k.val → k.val ≤ 122 → lowc (UInt8.ofNat k.val - 32) = lowc (UInt8.ofNat k.val) := by decide +kernel
theorem CapEq.refl (b : List UInt8) (e : Nat) : CapEq b b e := ⟨rfl, fun _ _ h _ => h, rfl⟩
theorem CapEq.mono {b b' : List UInt8} {e f : Nat} (h : CapEq b b' e) (he : e ≤ f) : CapEq b b' f := ⟨h.lo, h.same, by
  obtain ⟨d, rfl⟩ := Nat.exists_eq_add_of_le he
  rw [← List.drop_drop, ← List.drop_drop, h.tail]⟩
theorem CapEq.at {b b' : List UInt8} {e i : Nat} (h : CapEq b b' e) (hi : e ≤ i) : b'[i]? = b[i]? := by
  obtain ⟨d, rfl⟩ := Nat.exists_eq_add_of_le hi
  have := congrArg (·[d]?) h.tail
  simpa [List.getElem?_drop] using this
theorem CapEq.set {b b' : List UInt8} {i : Nat} {c : UInt8} (h : CapEq b b' i) (hc : b'[i]? = some c) (h1 : 97 ≤ c.toNat) (h2 : c.toNat ≤ 122) : CapEq b (b'.set i (c - 32)) (i + 1) := by
  have hil : i < b'.length := (List.getElem?_eq_some_iff.1 hc).1
  have hb : b[i]? = some c := by rw [← h.at (Nat.le_refl i)]; exact hc
  refine ⟨?_, fun j d hd hd2 => ?_, ?_⟩
  · rw [← h.lo]
    unfold low
    have e : lowc (c - 32) = lowc c := by
      have := lowc_cap ⟨c.toNat, c.toNat_lt⟩ h1 h2
      simpa using this
    rw [List.map_set, e]
    refine List.ext_getElem? (fun j => ?_)
    by_cases hj : i = j
    · subst hj
      rw [List.getElem?_set_self (by rw [List.length_map]; exact hil), List.getElem?_map, hc]; rfl
    · rw [List.getElem?_set_ne hj]
  · by_cases hj : i = j
    · subst hj
      rw [hb] at hd
      injection hd with hd
      subst hd
      omega
    · rw [List.getElem?_set_ne hj]; exact h.same j d hd hd2
  · rw [List.drop_set_of_lt (by omega)]
    exact (h.mono (Nat.le_succ i)).tail
theorem take_set12 {b : List UInt8} {i : Nat} {c : UInt8} (hi : 13 ≤ i) : (b.set i c).take 12 = b.take 12 := by
  rw [List.take_set_of_le (by omega)]
end Go.Proofs.YtogojnlfglbefaaDoor
