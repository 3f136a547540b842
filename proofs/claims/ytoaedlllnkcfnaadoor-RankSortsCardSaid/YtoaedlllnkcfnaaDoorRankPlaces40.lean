/-
  What a stable sort of the places leaves, for up to 40 keys. Condition: the keys lie in memory, apart from the places.
-/
import Derived.Test.YtoaedlllnkcfnaaDoorRankPlaces
import Derived.Test.YtoaedlllnkcfnaaDoorRankStab2
namespace Go.Proofs.YtoaedlllnkcfnaaDoor
open Go.RowKit
open Go.Sort hiding Below

theorem sw_grown {m : Nat} {w W : World} {g : Nat} {d : Array (Fin (m + 1))} (h : Go.Proofs.SW encI w g 0 d W) : w.grownBy W (some g) := by
  obtain ⟨n, os, rfl⟩ := h
  have hg := putRow_grown w g n d
  unfold sortWorld
  have hs : (putRow encI (Sort.ahead w n) g 0 d).heap.size = w.heap.size := size_putRow _ _ _ _ _
  refine ⟨hg.os, hg.tape, hg.output, ?_, fun k hk hne => ?_⟩
  · show w.heap.size ≤ ((putRow encI (Sort.ahead w n) g 0 d).heap ++ os).size
    rw [Array.size_append, hs]
    omega
  · show ((putRow encI (Sort.ahead w n) g 0 d).heap ++ os)[k]? = _
    rw [Array.getElem?_append_left (by rw [hs]; exact hk)]
    exact hg.block k hk hne
theorem places40_e (ks : List (List Int)) (hn : ks.length ≤ 40) (w : World) (B KB PB : Nat) (hk : KeysAt w B KB ks) (hB : B ≠ PB) (hKB : KB ≠ PB)
    (hP : w.heap[PB]? = some (.cells ((List.range ks.length).map (fun i : Nat => Value.int .i64 i)).toArray 3 (0, 0))) :
    Calls Tryd.prog 20 #[.slice (some ⟨PB, 0, none⟩) ks.length ks.length, .func (.func 21) #[] #[.pointer (some ⟨B, 0, none⟩)]] w fun e w' =>
      e = .returned (.tuple #[]) ∧ ∃ ps, SortP ks ps ∧ w.grownBy w' (some PB) ∧ w.heap.size ≤ w'.heap.size ∧ ∀ (k i : Nat), ps[k]? = some i → w'.cell? ⟨PB, k, none⟩ = some (.int .i64 i) := by
  by_cases h20 : ks.length ≤ 20
  · exact (places_e ks h20 w B KB PB hk hB hKB hP).mono fun e w' ⟨h1, ps, h2, h3, h4, h5⟩ => ⟨h1, ps, h2, h3, by omega, h5⟩
  · obtain ⟨m, hm⟩ : ∃ m, ks.length = m + 1 := ⟨ks.length - 1, by omega⟩
    have hH : Holds (encI (m := m)) w PB 0 (idA m) := fun j hj => by
      rw [idA_size] at hj
      rw [Nat.zero_add]
      refine ⟨?_, by simp [World.frozen?, hP]⟩
      rw [cell_of_row _ _ _ _ _ _ hP, List.getElem?_toArray, List.getElem?_map, List.getElem?_range (by omega)]
      show some (Value.int .i64 (j : Nat)) = some (Value.int .i64 _)
      rw [idA_at m j hj]
    have hlt := heap_lt hP
    rw [hm]
    refine (sortStable40_e hm hk hB hKB (m + 1) (by omega) (by omega) hH hlt).mono ?_
    rintro e w' ⟨rfl, d, hS, hW⟩
    have hd : d.size = m + 1 := by rw [hS.1.1]; exact idA_size m
    refine ⟨rfl, d.toList.map Fin.val, sortP_of hm hk.len hS, sw_grown hW, hW.le, fun k i hki => ?_⟩
    have hkl := (List.getElem?_eq_some_iff.1 hki).1
    rw [List.length_map, Array.length_toList] at hkl
    have h1 := hW.c1 ⟨encOne, hH, hlt⟩ (hd.trans (idA_size m).symm) k hkl
    rw [Nat.zero_add] at h1
    rw [List.getElem?_map, Array.getElem?_toList, Array.getElem?_eq_getElem hkl] at hki
    obtain rfl := Option.some.inj hki
    rw [getElem!_pos d k hkl] at h1
    exact h1
end Go.Proofs.YtoaedlllnkcfnaaDoor
