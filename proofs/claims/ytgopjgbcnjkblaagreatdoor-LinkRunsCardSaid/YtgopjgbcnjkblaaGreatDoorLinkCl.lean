/-
  Lists that are handed to a link, and the walks of slices.Clone over them and of copied. Conditions: at most 1000 elements.
-/
import Derived.Test.YtgopjgbcnjkblaaGreatDoorLinkMem
import Derived.Lib.SliceRun
namespace Go.Proofs.YtgopjgbcnjkblaaGreatDoor
open Go.RowKit

/-- these elements' cells lie where a slice says: elements of type t, k cells each -/
structure RowIn (k : Nat) (w : World) (v : Value) (n : Nat) (xs : List Value) : Prop where
  len : xs.length = n * k
  one : ∀ u ∈ xs, u.oneCell' = true
  at' : (v = .slice none 0 0 ∧ n = 0) ∨ ∃ (a : Addr) (c : Nat), v = .slice (some a) n c ∧ n ≤ c ∧ ∀ j u, xs[j]? = some u → w.cell? (a.add j) = some u
theorem RowIn.nil (k : Nat) (w : World) : RowIn k w (.slice none 0 0) 0 [] := ⟨by simp, (fun u hu => by cases hu), .inl ⟨rfl, rfl⟩⟩
theorem RowIn.of_own {t : TypeId} {k : Nat} {w : World} {b n : Nat} {v : Value} {xs : List Value} (h : w.ownsRow b t k v n xs) (h1 : ∀ u ∈ xs, u.oneCell' = true) : RowIn k w v n xs := by
  refine ⟨h.1, h1, ?_⟩
  rcases h.2 with h0 | ⟨g, cap, cur, rfl, hb, hg, hcap, hcm, hcs, hx⟩
  · exact .inl h0
  · exact .inr ⟨⟨g, 0, none⟩, cap, rfl, hcap, World.ownsRow.cells (w := w) (base := b) (e := t) (size := k) (v := .slice (some ⟨g, 0, none⟩) n cap) (n := n) (xs := xs) ⟨h.1, .inr ⟨g, cap, cur, rfl, hb, hg, hcap, hcm, hcs, hx⟩⟩ (g := g) rfl⟩
theorem RowIn.below {k : Nat} {w w' : World} {v : Value} {n : Nat} {xs : List Value} (h : RowIn k w v n xs) (hb : Below w.heap.size w w') : RowIn k w' v n xs := by
  refine ⟨h.len, h.one, ?_⟩
  rcases h.at' with h0 | ⟨a, c, rfl, hc0, hc⟩
  · exact .inl h0
  · exact .inr ⟨a, c, rfl, hc0, fun j u hj => by
      have := hc j u hj
      exact (hb.cell (World.block_lt_of_cell? w _ this)).trans this⟩
/-- block T alone is written, and that is not where they lie -/
theorem RowIn.kept {k T : Nat} {w w' : World} {v : Value} {n : Nat} {xs : List Value} (h : RowIn k w v n xs) (hne : xs ≠ [] → v.ownBlock ≠ some T) (hw : w.grownBy w' (some T)) : RowIn k w' v n xs := by
  refine ⟨h.len, h.one, ?_⟩
  rcases h.at' with h0 | ⟨a, c, rfl, hc0, hc⟩
  · exact .inl h0
  · exact .inr ⟨a, c, rfl, hc0, fun j u hj => by
      have := hc j u hj
      have hn := hne (fun e => by rw [e] at hj; cases hj)
      exact hw.cell this (fun e => hn (by
        obtain ⟨b, o, s⟩ := a
        unfold Addr.add at e
        show some b = some T
        split at e <;> exact e))⟩
theorem RowIn.form {k : Nat} {w : World} {v : Value} {n : Nat} {xs : List Value} (h : RowIn k w v n xs) : ∃ A c, v = .slice A n c := by
  rcases h.at' with ⟨rfl, rfl⟩ | ⟨a, c, rfl, _⟩
  · exact ⟨_, _, rfl⟩
  · exact ⟨_, _, rfl⟩
theorem own_fm {t : TypeId} {k b : Nat} {w : World} {v : Value} {n : Nat} {xs : List Value} (h : w.ownsRow b t k v n xs) : ∃ A c, v = .slice A n c := by
  rcases h.2 with ⟨rfl, rfl⟩ | ⟨g, c, cs, rfl, _⟩
  · exact ⟨_, _, rfl⟩
  · exact ⟨_, _, rfl⟩
def ClPost (t : TypeId) (k n : Nat) (xs : List Value) (w : World) (e : Ending) (w' : World) : Prop := ∃ v, e = .returned v ∧ w'.ownsRow w.heap.size t k v n xs ∧ Below w.heap.size w w'
theorem info_str : ∃ (i : TypeInfo) (z : Value), Tryz.prog.info? 9 = some i ∧ i.zero = some z ∧ z.cells.size = 1 ∧ i.size = 1 ∧ i.bytes = 16 := by
  have h : (Tryz.prog.info? 9).map (fun i => (i.zero.map (·.cells.size), i.size, i.bytes)) = some (some 1, 1, 16) := by kernel_rfl
  cases hq : Tryz.prog.info? 9 with
  | none => rw [hq] at h; cases h
  | some i0 =>
    rw [hq] at h
    simp only [Option.map_some, Option.some.injEq, Prod.mk.injEq] at h
    cases hz : i0.zero with
    | none => rw [hz] at h; cases h.1
    | some z =>
      rw [hz] at h
      have h1 := h.1
      injection h1 with h1
      exact ⟨i0, z, rfl, hz, h1, h.2.1, h.2.2⟩
set_option maxRecDepth 100000 in
theorem clone_str {w : World} {v : Value} {n : Nat} {xs : List Value} (h : RowIn 1 w v n xs) (hn : n ≤ 1000) : Calls Tryz.prog 44 #[v] w fun e w' => ClPost 9 1 n xs w e w' := by
  obtain ⟨hl, h1, h0 | ⟨a, c, rfl, hc0, hc⟩⟩ := h
  · obtain ⟨rfl, rfl⟩ := h0
    obtain rfl : xs = [] := List.length_eq_zero_iff.1 (by omega)
    clear h1
    have q41 : ∀ (w : World) (a : Option Addr) (n c n' c' : Nat), (binOp .eql 27 (.slice a n c) (.slice none n' c')).run Tryz.prog w = .ok (.bool a.isNone) w := fun w a n c n' c' => Lib.run_eql_slice_nil w _ _ a n c n' c' Tryz.underlying27
    go_enter Tryz.func44, Tryz.ntmps44
    go_wp2
    go_ret
    exact ⟨_, rfl, World.ownsRow_nil _ _ _ _, Below.refl _ _⟩
  · obtain ⟨i0, z, hi, hz, hzc, hs, hb⟩ := info_str
    have HL := Lib.hid hl
    have H1 := Lib.hid h1
    have HC := Lib.hid hc
    have HI := Lib.hid hi
    have HZ := Lib.hid hz
    have HZC := Lib.hid hzc
    have HS := Lib.hid hs
    have HBY := Lib.hid hb
    clear hl h1 hc hi hz hzc hs hb hc0
    have q41 : ∀ (w : World) (a : Option Addr) (n c n' c' : Nat), (binOp .eql 27 (.slice a n c) (.slice none n' c')).run Tryz.prog w = .ok (.bool a.isNone) w := fun w a n c n' c' => Lib.run_eql_slice_nil w _ _ a n c n' c' Tryz.underlying27
    go_enter Tryz.func44, Tryz.ntmps44
    go_wp2_with (first
      | (at_builtin; refine wpList_append_own _ rfl _ _ 27 rfl w.heap.size 9 i0 z 1 16 Tryz.underlying27 HI.out HZ.out HS.out HBY.out HZC.out (by decide) _ _ _ rfl (World.ownsRow_made w #[] 0 (Nat.le_refl _) (Nat.zero_le _) (by simp)) a n c xs rfl HL.out (fun j u hj => Lib.cell?_alloc_some _ (HC.out j u hj)) H1.out (by unfold maxLen; omega) (by omega) (by simp) ?_; intro v1 w1 ho hg hnil; clear hnil; have HO := Lib.hid ho; have HB := Lib.hid (((Below.refl _ w).alloc (Nat.le_refl _) (.cells #[] 9)).grown hg (by simp) (fun k hk => Nat.le_of_eq (Option.some.inj hk))); clear ho hg; go_simp))
    go_ret
    exact ⟨_, rfl, by have := HO.out; simpa using this, HB.out⟩
theorem info_adr : ∃ (i : TypeInfo) (z : Value), Tryz.prog.info? 83 = some i ∧ i.zero = some z ∧ z.cells.size = 16 ∧ i.size = 16 ∧ i.bytes = 16 := by
  have h : (Tryz.prog.info? 83).map (fun i => (i.zero.map (·.cells.size), i.size, i.bytes)) = some (some 16, 16, 16) := by kernel_rfl
  cases hq : Tryz.prog.info? 83 with
  | none => rw [hq] at h; cases h
  | some i0 =>
    rw [hq] at h
    simp only [Option.map_some, Option.some.injEq, Prod.mk.injEq] at h
    cases hz : i0.zero with
    | none => rw [hz] at h; cases h.1
    | some z =>
      rw [hz] at h
      have h1 := h.1
      injection h1 with h1
      exact ⟨i0, z, rfl, hz, h1, h.2.1, h.2.2⟩
set_option maxRecDepth 100000 in
theorem clone_adr {w : World} {v : Value} {n : Nat} {xs : List Value} (h : RowIn 16 w v n xs) (hn : n ≤ 1000) : Calls Tryz.prog 45 #[v] w fun e w' => ClPost 83 16 n xs w e w' := by
  obtain ⟨hl, h1, h0 | ⟨a, c, rfl, hc0, hc⟩⟩ := h
  · obtain ⟨rfl, rfl⟩ := h0
    obtain rfl : xs = [] := List.length_eq_zero_iff.1 (by omega)
    clear h1
    have q41 : ∀ (w : World) (a : Option Addr) (n c n' c' : Nat), (binOp .eql 28 (.slice a n c) (.slice none n' c')).run Tryz.prog w = .ok (.bool a.isNone) w := fun w a n c n' c' => Lib.run_eql_slice_nil w _ _ a n c n' c' Tryz.underlying28
    go_enter Tryz.func45, Tryz.ntmps45
    go_wp2
    go_ret
    exact ⟨_, rfl, World.ownsRow_nil _ _ _ _, Below.refl _ _⟩
  · obtain ⟨i0, z, hi, hz, hzc, hs, hb⟩ := info_adr
    have HL := Lib.hid hl
    have H1 := Lib.hid h1
    have HC := Lib.hid hc
    have HI := Lib.hid hi
    have HZ := Lib.hid hz
    have HZC := Lib.hid hzc
    have HS := Lib.hid hs
    have HBY := Lib.hid hb
    clear hl h1 hc hi hz hzc hs hb hc0
    have q41 : ∀ (w : World) (a : Option Addr) (n c n' c' : Nat), (binOp .eql 28 (.slice a n c) (.slice none n' c')).run Tryz.prog w = .ok (.bool a.isNone) w := fun w a n c n' c' => Lib.run_eql_slice_nil w _ _ a n c n' c' Tryz.underlying28
    go_enter Tryz.func45, Tryz.ntmps45
    go_wp2_with (first
      | (at_builtin; refine wpList_append_own _ rfl _ _ 28 rfl w.heap.size 83 i0 z 16 16 Tryz.underlying28 HI.out HZ.out HS.out HBY.out HZC.out (by decide) _ _ _ rfl (World.ownsRow_made w #[] 0 (Nat.le_refl _) (Nat.zero_le _) (by simp)) a n c xs rfl HL.out (fun j u hj => Lib.cell?_alloc_some _ (HC.out j u hj)) H1.out (by unfold maxLen; omega) (by omega) (by simp) ?_; intro v1 w1 ho hg hnil; clear hnil; have HO := Lib.hid ho; have HB := Lib.hid (((Below.refl _ w).alloc (Nat.le_refl _) (.cells #[] 83)).grown hg (by simp) (fun k hk => Nat.le_of_eq (Option.some.inj hk))); clear ho hg; go_simp))
    go_ret
    exact ⟨_, rfl, by have := HO.out; simpa using this, HB.out⟩
theorem info_loc : ∃ (i : TypeInfo) (z : Value), Tryz.prog.info? 94 = some i ∧ i.zero = some z ∧ z.cells.size = 18 ∧ i.size = 18 ∧ i.bytes = 18 := by
  have h : (Tryz.prog.info? 94).map (fun i => (i.zero.map (·.cells.size), i.size, i.bytes)) = some (some 18, 18, 18) := by kernel_rfl
  cases hq : Tryz.prog.info? 94 with
  | none => rw [hq] at h; cases h
  | some i0 =>
    rw [hq] at h
    simp only [Option.map_some, Option.some.injEq, Prod.mk.injEq] at h
    cases hz : i0.zero with
    | none => rw [hz] at h; cases h.1
    | some z =>
      rw [hz] at h
      have h1 := h.1
      injection h1 with h1
      exact ⟨i0, z, rfl, hz, h1, h.2.1, h.2.2⟩
set_option maxRecDepth 100000 in
theorem clone_loc {w : World} {v : Value} {n : Nat} {xs : List Value} (h : RowIn 18 w v n xs) (hn : n ≤ 1000) : Calls Tryz.prog 46 #[v] w fun e w' => ClPost 94 18 n xs w e w' := by
  obtain ⟨hl, h1, h0 | ⟨a, c, rfl, hc0, hc⟩⟩ := h
  · obtain ⟨rfl, rfl⟩ := h0
    obtain rfl : xs = [] := List.length_eq_zero_iff.1 (by omega)
    clear h1
    have q41 : ∀ (w : World) (a : Option Addr) (n c n' c' : Nat), (binOp .eql 29 (.slice a n c) (.slice none n' c')).run Tryz.prog w = .ok (.bool a.isNone) w := fun w a n c n' c' => Lib.run_eql_slice_nil w _ _ a n c n' c' Tryz.underlying29
    go_enter Tryz.func46, Tryz.ntmps46
    go_wp2
    go_ret
    exact ⟨_, rfl, World.ownsRow_nil _ _ _ _, Below.refl _ _⟩
  · obtain ⟨i0, z, hi, hz, hzc, hs, hb⟩ := info_loc
    have HL := Lib.hid hl
    have H1 := Lib.hid h1
    have HC := Lib.hid hc
    have HI := Lib.hid hi
    have HZ := Lib.hid hz
    have HZC := Lib.hid hzc
    have HS := Lib.hid hs
    have HBY := Lib.hid hb
    clear hl h1 hc hi hz hzc hs hb hc0
    have q41 : ∀ (w : World) (a : Option Addr) (n c n' c' : Nat), (binOp .eql 29 (.slice a n c) (.slice none n' c')).run Tryz.prog w = .ok (.bool a.isNone) w := fun w a n c n' c' => Lib.run_eql_slice_nil w _ _ a n c n' c' Tryz.underlying29
    go_enter Tryz.func46, Tryz.ntmps46
    go_wp2_with (first
      | (at_builtin; refine wpList_append_own _ rfl _ _ 29 rfl w.heap.size 94 i0 z 18 18 Tryz.underlying29 HI.out HZ.out HS.out HBY.out HZC.out (by decide) _ _ _ rfl (World.ownsRow_made w #[] 0 (Nat.le_refl _) (Nat.zero_le _) (by simp)) a n c xs rfl HL.out (fun j u hj => Lib.cell?_alloc_some _ (HC.out j u hj)) H1.out (by unfold maxLen; omega) (by omega) (by simp) ?_; intro v1 w1 ho hg hnil; clear hnil; have HO := Lib.hid ho; have HB := Lib.hid (((Below.refl _ w).alloc (Nat.le_refl _) (.cells #[] 94)).grown hg (by simp) (fun k hk => Nat.le_of_eq (Option.some.inj hk))); clear ho hg; go_simp))
    go_ret
    exact ⟨_, rfl, by have := HO.out; simpa using this, HB.out⟩
end Go.Proofs.YtgopjgbcnjkblaaGreatDoor
