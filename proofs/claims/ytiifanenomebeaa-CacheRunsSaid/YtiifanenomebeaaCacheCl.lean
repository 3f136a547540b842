/-
  Records that are handed to a cache, and the walk of slices.Clone over them. Conditions: at most 1000 records.
-/
import Derived.Test.YtiifanenomebeaaCacheFns
import Derived.Laws.OwnMore
namespace Go.Proofs.Ytiifanenomebeaa
open Go.RowKit Go.Lib

/-- these records' cells lie where a slice says -/
structure RecsIn (w : World) (v : Value) (n : Nat) (xs : List Value) : Prop where
  len : xs.length = n * 21
  one : ∀ u ∈ xs, u.oneCell' = true
  at' : (v = .slice none 0 0 ∧ n = 0) ∨ ∃ (g o c : Nat) (cs : Array Value) (fr : Nat × Nat), v = .slice (some ⟨g, o, none⟩) n c ∧ w.heap[g]? = some (.cells cs 40 fr) ∧ ∀ j u, xs[j]? = some u → w.cell? ((⟨g, o, none⟩ : Addr).add j) = some u
theorem RecsIn.nil (w : World) : RecsIn w (.slice none 0 0) 0 [] := ⟨rfl, (fun u hu => by cases hu), .inl ⟨rfl, rfl⟩⟩
theorem RecsIn.of_own {w : World} {b n : Nat} {v : Value} {xs : List Value} (h : w.ownsRow b 40 21 v n xs) (h1 : ∀ u ∈ xs, u.oneCell' = true) : RecsIn w v n xs := by
  refine ⟨h.1, h1, ?_⟩
  rcases h.2 with h0 | ⟨g, cap, cur, rfl, _, hg, _⟩
  · exact .inl h0
  · exact .inr ⟨g, 0, cap, cur, (0, 0), rfl, hg, h.cells (g := g) rfl⟩
theorem RecsIn.below {w w' : World} {v : Value} {n : Nat} {xs : List Value} (h : RecsIn w v n xs) (hb : Below w.heap.size w w') : RecsIn w' v n xs := by
  refine ⟨h.len, h.one, ?_⟩
  rcases h.at' with h0 | ⟨g, o, c, cs, fr, rfl, hg, hc⟩
  · exact .inl h0
  · exact .inr ⟨g, o, c, cs, fr, rfl, (hb.block g (heap_lt hg)).trans hg, fun j u hj => by
      have := hc j u hj
      exact (hb.cell (World.block_lt_of_cell? w _ this)).trans this⟩
theorem RecsIn.step {base : Nat} {w w' : World} {v : Value} {n : Nat} {xs : List Value} (h : RecsIn w v n xs) (hs : Step base w w') : RecsIn w' v n xs := by
  refine ⟨h.len, h.one, ?_⟩
  rcases h.at' with h0 | ⟨g, o, c, cs, fr, rfl, hg, hc⟩
  · exact .inl h0
  · have hk := hs.keep g _ hg (other_cells (by decide) (by decide))
    exact .inr ⟨g, o, c, cs, fr, rfl, hk, fun j u hj => by
      have := hc j u hj
      rw [Addr.add_lit] at this ⊢
      exact (World.cell?_of_block (a := ⟨g, o + j, none⟩) (hk.trans hg.symm)).trans this⟩
theorem info_Rec : ∃ (i : TypeInfo) (z : Value), Try.prog.info? 40 = some i ∧ i.zero = some z ∧ z.cells.size = 21 ∧ i.size = 21 ∧ i.bytes = 80 := by
  have h : (Try.prog.info? 40).map (fun i => (i.zero.map (·.cells.size), i.size, i.bytes)) = some (some 21, 21, 80) := by kernel_rfl
  cases hq : Try.prog.info? 40 with
  | none => rw [hq] at h; cases h
  | some i0 =>
    rw [hq] at h
    simp only [Option.map_some, Option.some.injEq, Prod.mk.injEq] at h
    cases hz : i0.zero with
    | none => rw [hz] at h; cases h.1
    | some z =>
      rw [hz] at h
      have h1 := h.1
      injection h1 with h1
      exact ⟨i0, z, rfl, hz, h1, h.2.1, h.2.2⟩
theorem own_base {w : World} {b b' e size n : Nat} {v : Value} {xs : List Value} (h : w.ownsRow b e size v n xs) (hb : b' ≤ b) : w.ownsRow b' e size v n xs := by
  refine ⟨h.1, ?_⟩
  rcases h.2 with h0 | ⟨g, cap, cur, hv, hg, r⟩
  · exact .inl h0
  · exact .inr ⟨g, cap, cur, hv, Nat.le_trans hb hg, r⟩
def ClPost (n : Nat) (xs : List Value) (w : World) (e : Ending) (w' : World) : Prop := ∃ v, e = .returned v ∧ w'.ownsRow w.heap.size 40 21 v n xs ∧ Below w.heap.size w w'
set_option maxRecDepth 100000 in
theorem clone_e {w : World} {v : Value} {n : Nat} {xs : List Value} (h : RecsIn w v n xs) (hn : n ≤ 1000) : Calls Try.prog 25 #[v] w fun e w' => ClPost n xs w e w' := by
  obtain ⟨hl, h1, h0 | ⟨g, o, c, cs, fr, rfl, hg, hc⟩⟩ := h
  · obtain ⟨rfl, rfl⟩ := h0
    obtain rfl : xs = [] := List.length_eq_zero_iff.1 (by omega)
    clear h1
    have q41 : ∀ (w : World) (a : Option Addr) (n c n' c' : Nat), (binOp .eql 41 (.slice a n c) (.slice none n' c')).run Try.prog w = .ok (.bool a.isNone) w := fun w a n c n' c' => Lib.run_eql_slice_nil w _ _ a n c n' c' Try.underlying41
    go_enter Try.func25, Try.ntmps25
    go_wp2
    go_ret
    exact ⟨_, rfl, World.ownsRow_nil _ _ _ _, Below.refl _ _⟩
  · obtain ⟨i0, z, hi, hz, hzc, hs, hb⟩ := info_Rec
    have HL := Lib.hid hl
    have H1 := Lib.hid h1
    have HC := Lib.hid hc
    have HI := Lib.hid hi
    have HZ := Lib.hid hz
    have HZC := Lib.hid hzc
    have HS := Lib.hid hs
    have HBY := Lib.hid hb
    clear hl h1 hc hi hz hzc hs hb hg
    have q41 : ∀ (w : World) (a : Option Addr) (n c n' c' : Nat), (binOp .eql 41 (.slice a n c) (.slice none n' c')).run Try.prog w = .ok (.bool a.isNone) w := fun w a n c n' c' => Lib.run_eql_slice_nil w _ _ a n c n' c' Try.underlying41
    go_enter Try.func25, Try.ntmps25
    go_wp2_with (first
      | (at_builtin; refine wpList_append_own _ rfl _ _ 41 rfl w.heap.size 40 i0 z 21 80 Try.underlying41 HI.out HZ.out HS.out HBY.out HZC.out (by decide) _ _ _ rfl (World.ownsRow_made w #[] 0 (Nat.le_refl _) (Nat.zero_le _) (by simp)) ⟨g, o, none⟩ n c xs rfl HL.out (fun j u hj => Lib.cell?_alloc_some _ (HC.out j u hj)) H1.out (by unfold maxLen; omega) (by omega) (by simp) ?_; intro v1 w1 ho hg hnil; clear hnil; have HO := Lib.hid ho; have HB := Lib.hid (((Below.refl _ w).alloc (Nat.le_refl _) (.cells #[] 40)).grown hg (by simp) (fun k hk => Nat.le_of_eq (Option.some.inj hk))); clear ho hg; go_simp))
    go_ret
    exact ⟨_, rfl, by have := HO.out; simpa using this, HB.out⟩
end Go.Proofs.Ytiifanenomebeaa
