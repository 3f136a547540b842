/-
  What a stable sort of the places leaves, for any number of keys up to a bound. Condition: the keys lie in memory, apart from the places.
-/
import Derived.Test.YtoaedlllnkcfnaaDoorRankFlat
namespace Go.Proofs.YtoaedlllnkcfnaaDoor
open Go.RowKit
open Go.Sort hiding Below

/-- places in the order of their keys, like ones as they came -/
structure SortP (ks : List (List Int)) (ps : List Nat) : Prop where
  perm : ps.Perm (List.range ks.length)
  ord : ∀ (i j x y : Nat), i < j → ps[i]? = some x → ps[j]? = some y → cmpK (ks.getD y []) (ks.getD x []) < 0 ∨ (cmpK (ks.getD y []) (ks.getD x []) = 0 ∧ x < y)
theorem SortP.len {ks : List (List Int)} {ps : List Nat} (h : SortP ks ps) : ps.length = ks.length := by
  have := h.perm.length_eq
  rwa [List.length_range] at this
theorem SortP.lt {ks : List (List Int)} {ps : List Nat} (h : SortP ks ps) {i x : Nat} (hx : ps[i]? = some x) : x < ks.length := by
  have := h.perm.mem_iff.1 (List.mem_of_getElem? hx)
  exact List.mem_range.1 this
theorem sortP_of {m : Nat} {ks : List (List Int)} (hk : ks.length = m + 1) (h8 : ∀ k ∈ ks, k.length = 8) {d : Array (Fin (m + 1))} (h : Sorted8 ks d) : SortP ks (d.toList.map Fin.val) := by
  obtain ⟨⟨hs, _, hp⟩, hso⟩ := h
  have hd : d.size = m + 1 := by rw [hs]; exact idA_size m
  have ex : ∀ (a : Array (Fin (m + 1))) (k : Nat), a.size = k → a.extract 0 k = a := fun a k h => by subst h; simp
  rw [ex d _ hd, ex _ _ (idA_size m)] at hp
  have hr : (idA m).toList.map Fin.val = List.range (m + 1) := by
    apply List.ext_getElem?
    intro i
    rw [List.getElem?_map]
    unfold idA
    rcases Nat.lt_or_ge i (m + 1) with hi | hi
    · rw [List.getElem?_range hi, Array.getElem?_toList, Array.getElem?_ofFn]; simp [hi]
    · rw [List.getElem?_eq_none (l := List.range (m + 1)) (by rw [List.length_range]; exact hi), List.getElem?_eq_none (by simp; omega)]; rfl
  have hnd : (d.toList).Nodup := by
    refine hp.symm.nodup ?_
    have : ((idA m).toList.map Fin.val).Nodup := by rw [hr]; exact List.nodup_range
    exact (List.pairwise_map.1 this).imp fun h e => h (congrArg _ e)
  refine ⟨by rw [hk, ← hr]; exact hp.map _, fun i j x y hij hx hy => ?_⟩
  have hjl := (List.getElem?_eq_some_iff.1 hy).1
  rw [List.length_map, Array.length_toList] at hjl
  rw [List.getElem?_map, Array.getElem?_toList, Array.getElem?_eq_getElem (by omega)] at hx hy
  obtain rfl := Option.some.inj hx
  obtain rfl := Option.some.inj hy
  have h1 := hso i j (Nat.zero_le _) hij (by omega)
  rw [getElem!_pos d j (by omega), getElem!_pos d i (by omega)] at h1
  have hne : d[j] ≠ d[i] := fun e => by
    have := (List.pairwise_iff_getElem.1 hnd) i j (by rw [Array.length_toList]; omega) (by rw [Array.length_toList]; omega) hij
    exact this (by rw [Array.getElem_toList, Array.getElem_toList]; exact e.symm)
  exact lbK_iff.1 (lbK_total hk h8 h1 hne)
theorem putRow_grown {m : Nat} (w : World) (g n : Nat) (d : Array (Fin (m + 1))) : w.grownBy ((putRow encI w g 0 d).drewN n) (some g) := by
  refine ⟨rfl, rfl, rfl, ?_, fun k _ hne => ?_⟩
  · show w.heap.size ≤ (putRow encI w g 0 d).heap.size
    rw [size_putRow]; exact Nat.le_refl _
  · show (putRow encI w g 0 d).heap[k]? = _
    unfold putRow mapBlock
    have : ¬ g = k := fun e => hne (by rw [e])
    simp only [Array.getElem?_modify, if_neg this]
theorem places_e (ks : List (List Int)) (hn : ks.length ≤ 20) (w : World) (B KB PB : Nat) (hk : KeysAt w B KB ks) (hB : B ≠ PB) (hKB : KB ≠ PB)
    (hP : w.heap[PB]? = some (.cells ((List.range ks.length).map (fun i : Nat => Value.int .i64 i)).toArray 3 (0, 0))) :
    Calls Tryd.prog 20 #[.slice (some ⟨PB, 0, none⟩) ks.length ks.length, .func (.func 21) #[] #[.pointer (some ⟨B, 0, none⟩)]] w fun e w' =>
      e = .returned (.tuple #[]) ∧ ∃ ps, SortP ks ps ∧ w.grownBy w' (some PB) ∧ w'.heap.size = w.heap.size ∧ ∀ (k i : Nat), ps[k]? = some i → w'.cell? ⟨PB, k, none⟩ = some (.int .i64 i) := by
  rcases Nat.eq_zero_or_pos ks.length with h0 | h0
  · rw [h0]
    refine (sortStable0_e _ _ _ _).mono ?_
    rintro e w' ⟨rfl, rfl⟩
    refine ⟨rfl, [], ⟨by rw [h0]; exact List.Perm.refl _, fun i j x y _ hx => by simp at hx⟩, ⟨rfl, rfl, rfl, Nat.le_refl _, fun _ _ _ => rfl⟩, rfl, fun k i h => by simp at h⟩
  · obtain ⟨m, hm⟩ : ∃ m, ks.length = m + 1 := ⟨ks.length - 1, by omega⟩
    have hH : Holds (encI (m := m)) w PB 0 (idA m) := fun j hj => by
      rw [idA_size] at hj
      rw [Nat.zero_add]
      refine ⟨?_, by simp [World.frozen?, hP]⟩
      rw [cell_of_row _ _ _ _ _ _ hP, List.getElem?_toArray, List.getElem?_map, List.getElem?_range (by omega)]
      show some (Value.int .i64 (j : Nat)) = some (Value.int .i64 _)
      rw [idA_at m j hj]
    rw [hm]
    refine (sortStable20_e hm hk hB hKB (m + 1) (by omega) hH).mono ?_
    rintro e w' ⟨rfl, d, n', hS, rfl⟩
    have hd : d.size = m + 1 := by rw [hS.1.1]; exact idA_size m
    refine ⟨rfl, d.toList.map Fin.val, sortP_of hm hk.len hS, putRow_grown w PB n' d, size_putRow _ _ _ _ _, fun k i hki => ?_⟩
    have hkl := (List.getElem?_eq_some_iff.1 hki).1
    rw [List.length_map, Array.length_toList] at hkl
    have h1 := (holds_putRow encI w PB 0 (idA m) d hH hS.1.1 k hkl).1
    rw [Nat.zero_add] at h1
    rw [List.getElem?_map, Array.getElem?_toList, Array.getElem?_eq_getElem hkl] at hki
    obtain rfl := Option.some.inj hki
    rw [getElem!_pos d k hkl] at h1
    exact h1
end Go.Proofs.YtoaedlllnkcfnaaDoor
