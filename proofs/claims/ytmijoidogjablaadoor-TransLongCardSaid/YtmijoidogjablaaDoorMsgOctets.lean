/-
  Bytes that came in as a list: each in its cell. Conditions: each states its own.
-/
import Derived.Test.YtmijoidogjablaaDoorMsgTake
import Derived.ChangeSlices
import Derived.OpenShut
namespace Go.Proofs.YtmijoidogjablaaDoor
open Go.ChangeShapes Go.WideShapes Go.ChangeAt Go.ChangeMaps Go.RowKit

theorem laidOut : laidOutB Tryd.prog = true := by kernel_rfl
theorem cellsU8 : Tryd.prog.cellsOf 5 = 1 := by kernel_rfl
theorem octet_of_wf {x : Int} (h : (Lit.int .u8 x).wf = true) : 0 ≤ x ∧ x < 256 := by
  simp [Lit.wf, IntKind.min, IntKind.max, IntKind.bits, IntKind.signed] at h
  omega
/-- what a list of bytes that came in is -/
theorem open_octets {H : Type} {enc : TypeId × Value → H} {W : World} {fuel : Nat} {A : Option Addr} {len cap : Nat} {x : DataW H × List MemPlace}
    (h : DataW.trod enc Tryd.prog W 0 (fun _ => true) true fuel 38 (Value.slice A len cap).cells.toList = some x) :
    ∃ ls : List UInt8, ls.length = len ∧ ls.length ≤ cap ∧ InB W W.heap.size A ls ∧ (A = none → cap = 0 ∧ ls = []) := by
  rcases open_ints Tryd.underlying38 Tryd.underlying5 cellsU8 h with ⟨hcs, _⟩ | ⟨a, len', cap', zs, hcs, _, hl, _, hz, hx, hcell, hwf⟩
  · simp [Value.cells] at hcs
    obtain ⟨rfl, rfl, rfl⟩ := hcs
    exact ⟨[], rfl, Nat.le_refl _, fun h0 => absurd h0 (by simp), fun _ => ⟨rfl, rfl⟩⟩
  · simp [Value.cells] at hcs
    obtain ⟨rfl, rfl, rfl⟩ := hcs
    simp only [if_true] at hz
    have htl : ((zs.take len).map fun z => UInt8.ofNat z.toNat).length = len := by simp; omega
    refine ⟨(zs.take len).map fun z => UInt8.ofNat z.toNat, htl, by omega, fun h0 => ?_, fun h => by cases h⟩
    have hss : 0 < zs.length := by omega
    obtain ⟨b, off, rfl, hc⟩ := ints_at hcell hss
    refine ⟨b, off, rfl, ?_, fun j hj => ?_⟩
    · have h1 := hc 0 hss
      rcases Nat.lt_or_ge b W.heap.size with h' | h'
      · exact h'
      · exfalso
        unfold World.cell? at h1
        rw [Array.getElem?_eq_none h'] at h1
        simp at h1
    · rw [htl] at hj
      have hjz : j < zs.length := by omega
      rw [hc j hjz]
      have hw := octet_of_wf (hwf _ (List.getElem_mem hjz))
      have e : zs.getD j 0 = zs[j] := by simp [List.getD, hjz]
      have e2 : ((zs.take len).map fun z => UInt8.ofNat z.toNat).getD j 0 = UInt8.ofNat (zs[j]).toNat := by simp [List.getD, hj, hjz]
      rw [e, e2, UInt8.toNat_ofNat', Nat.mod_eq_of_lt (by omega)]
      congr 2
      omega
end Go.Proofs.YtmijoidogjablaaDoor
