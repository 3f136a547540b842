/-
  The walk of slices.Insert at runes, one of them put into a row of the call's own. Conditions: the row is of the call's own, the list short.
-/
import Derived.Test.YtclfmokdjmnjcaaGreatDoorPunyEncode
import Derived.Lib.LazyBuf
import Derived.Lib.AppendZerosOnto
import Derived.Shelf.Spec.SlicesInsert
import Derived.Deep.RegionLaw
import Derived.Laws.NewBlocks
namespace Go.Proofs.YtclfmokdjmnjcaaGreatDoor
open Go.RowKit

def rvs (xs : List Nat) : List Value := xs.map fun (r : Nat) => .int .i32 r
theorem infoI32 : (Tryz.prog.info? 21).map (fun i => (i.zero, i.size, i.bytes)) = some (some (.int .i32 0), 1, 4) := by kernel_rfl
theorem rvs_length (xs : List Nat) : (rvs xs).length = xs.length := by unfold rvs; simp
theorem rvs_at {xs : List Nat} {j : Nat} (h : j < xs.length) : (rvs xs)[j]? = some (.int .i32 (xs[j] : Nat)) := by
  unfold rvs; rw [List.getElem?_map, List.getElem?_eq_getElem h]; rfl
theorem rvs_one (xs : List Nat) : ∀ v ∈ rvs xs, v.oneCell' = true := fun v hv => by
  unfold rvs at hv
  obtain ⟨r, _, rfl⟩ := List.mem_map.1 hv
  rfl
theorem own_of_row {w : World} {base g cap n : Nat} {e : TypeId} {xs : List Value} {f : Nat → Value} (hr : w.rowIs g e cap f) (hb : base ≤ g) (hn : xs.length = n) (hc : n ≤ cap) (hm : cap ≤ maxLen) (hf : ∀ j, j < n → some (f j) = xs[j]?) :
    w.ownsRow base e 1 (.slice (some ⟨g, 0, none⟩) n cap) n xs := by
  obtain ⟨c, h1, h2, h3⟩ := hr
  refine ⟨by omega, .inr ⟨g, cap, c, rfl, hb, h1, hc, hm, by omega, ?_⟩⟩
  rw [Nat.mul_one]
  apply List.ext_getElem?
  intro j
  rw [List.getElem?_take]
  split
  · rename_i hj
    rw [← hf j hj, ← h3 j (by omega)]; simp
  · rw [List.getElem?_eq_none (by omega)]
theorem row_of_own {w : World} {base g cap n : Nat} {e : TypeId} {xs : List Value} (h : w.ownsRow base e 1 (.slice (some ⟨g, 0, none⟩) n cap) n xs) :
    base ≤ g ∧ n ≤ cap ∧ cap ≤ maxLen ∧ xs.length = n ∧ ∃ f, w.rowIs g e cap f ∧ ∀ j, j < n → some (f j) = xs[j]? := by
  obtain ⟨h1, h2⟩ := h
  rcases h2 with ⟨e1, _⟩ | ⟨g', cap', cur, e1, hb, hg, hc, hm, hs, ht⟩
  · cases e1
  · injection e1 with e1 _ e2
    injection e1 with e1
    injection e1 with e1
    subst e1 e2
    rw [Nat.mul_one] at hs ht
    refine ⟨hb, hc, hm, by omega, fun j => (cur[j]?).getD undef, ⟨cur, hg, hs, fun i hi => ?_⟩, fun j hj => ?_⟩
    · show cur[i]? = some ((cur[i]?).getD undef)
      rw [Array.getElem?_eq_getElem (by omega)]; rfl
    · show some ((cur[j]?).getD undef) = xs[j]?
      rw [← ht, List.getElem?_take, if_pos hj, Array.getElem?_toList, Array.getElem?_eq_getElem (by omega)]; rfl
/-- append of one rune to a row of the call's own -/
theorem wpList_append_r {w : World} {ops : Array Oper} {rest : List Oper} {o : Oper} {a : Act} {Q : Exit → Act → World → Prop} (hgd : o.guard = none) (s x : Operand)
    (ho : o.op = .call { callee := .builtin .append, args := #[s, x], argTypes := #[108, 108] })
    (base : Nat) (v : Value) (xs : List Nat) (n : Nat) (hs : a.eval s = v) (hown : w.ownsRow base 21 1 v n (rvs xs))
    (ad : Addr) (r : Nat) (hx : a.eval x = .slice (some ad) 1 1) (hc : w.cell? ad = some (.int .i32 r)) (hn : n ≤ 100000000000) (hbase : base ≤ w.heap.size)
    (h : ∀ v' w', w'.ownsRow base 21 1 v' (n + 1) (rvs (xs ++ [r])) → Below base w w' → wpList Tryz.prog ops Q rest (a.put o.dst v') w') : wpList Tryz.prog ops Q (o :: rest) a w := by
  obtain ⟨i0, hi, hz0, hz1, hz2⟩ := info_parts infoI32
  refine wpList_append_own (w := w) hgd s x 108 ho base 21 i0 (.int .i32 0) 1 4 Tryz.underlying108 hi hz0 hz1 hz2 rfl (by decide) v n (rvs xs) hs hown ad 1 1 [.int .i32 r] hx (by simp)
    (fun j u hj => by
      cases j with
      | zero =>
        simp only [List.getElem?_cons_zero, Option.some.injEq] at hj
        subst hj
        obtain ⟨b, o, sp⟩ := ad
        have e : (⟨b, o, sp⟩ : Addr).add 0 = ⟨b, o, sp⟩ := by unfold Addr.add; split <;> simp_all
        rw [e]; exact hc
      | succ j => simp at hj)
    (fun u hu => by rw [List.mem_singleton.1 hu]; rfl) (by unfold maxLen; omega) (by omega) hbase (fun v' w' h2 h3 _ => h v' w' (by unfold rvs at h2 ⊢; rw [List.map_append]; exact h2) ((Below.refl _ _).grown h3 hbase fun k hk => (hown.lt k hk).1))
/-- what Insert answers -/
def InsPost (base : Nat) (w : World) (xs : List Nat) (p a : Nat) (e : Ending) (w' : World) : Prop := ∃ v', e = .returned v' ∧ w'.ownsRow base 21 1 v' (xs.length + 1) (rvs (ins p a xs)) ∧ Below base w w'

theorem ins_end (a : Nat) (xs : List Nat) : ins xs.length a xs = xs ++ [a] := by unfold ins; simp
set_option maxHeartbeats 1000000 in
set_option maxRecDepth 100000 in
theorem insert_end (base : Nat) (v : Value) (n vb a : Nat) (xs : List Nat) (w : World) (hown : w.ownsRow base 21 1 v n (rvs xs)) (hbase : base ≤ w.heap.size) (hn : n ≤ 1000) (hvb : w.cell? ⟨vb, 0, none⟩ = some (.int .i32 a)) :
    Calls Tryz.prog 118 #[v, .int .i64 n, .slice (some ⟨vb, 0, none⟩) 1 1] w fun e w' => InsPost base w xs n a e w' := by
  have hlen : xs.length = n := by have := hown.1; rw [rvs_length] at this; omega
  have HL := Lib.hid hlen; clear hlen
  have HV := Lib.hid hvb; clear hvb
  rcases (show (v = .slice none 0 0 ∧ n = 0) ∨ ∃ g cap, v = .slice (some ⟨g, 0, none⟩) n cap by
    rcases hown.2 with h | ⟨g, cap, _, h, _⟩
    · exact .inl h
    · exact .inr ⟨g, cap, h⟩) with ⟨rfl, rfl⟩ | ⟨g, cap, rfl⟩
  · go_enter Tryz.func118, Tryz.ntmps118
    go_wp2_with (at_builtin; refine wpList_append_r rfl (.tmp 23) (.tmp 24) rfl base _ xs 0 rfl hown ⟨vb, 0, none⟩ a rfl HV.out (by omega) hbase ?_; intro v' w1 hown2 hb2)
    go_ret
    have e := ins_end a xs
    rw [HL.out] at e
    exact ⟨v', rfl, by rw [HL.out, e]; exact hown2, hb2⟩
  · go_enter Tryz.func118, Tryz.ntmps118
    go_wp2_with (at_builtin; refine wpList_append_r rfl (.tmp 23) (.tmp 24) rfl base _ xs n rfl hown ⟨vb, 0, none⟩ a rfl HV.out (by omega) hbase ?_; intro v' w1 hown2 hb2)
    all_goals
      go_ret
      have e := ins_end a xs
      rw [HL.out] at e
      exact ⟨v', rfl, by rw [HL.out, e]; exact hown2, hb2⟩

theorem ins_cells {p a j : Nat} {xs : List Nat} (hp : p ≤ xs.length) : (rvs (ins p a xs))[j]? = if j < p then (rvs xs)[j]? else if j = p then some (.int .i32 a) else (rvs xs)[j - 1]? := by
  have e : rvs (ins p a xs) = (rvs xs).take p ++ .int .i32 a :: (rvs xs).drop p := by unfold rvs ins; simp
  have hl : ((rvs xs).take p).length = p := by rw [List.length_take, rvs_length]; omega
  rw [e]
  by_cases h1 : j < p
  · rw [if_pos h1, List.getElem?_append_left (by omega), List.getElem?_take, if_pos h1]
  · rw [if_neg h1, List.getElem?_append_right (by omega), hl]
    by_cases h2 : j = p
    · rw [if_pos h2, h2, Nat.sub_self]; rfl
    · rw [if_neg h2, show j - p = (j - p - 1) + 1 by omega, List.getElem?_cons_succ, List.getElem?_drop, show p + (j - p - 1) = j - 1 by omega]
set_option maxHeartbeats 4000000 in
set_option maxRecDepth 100000 in
theorem insert_room (base : Nat) (g cap n p vb a : Nat) (xs : List Nat) (w : World) (hown : w.ownsRow base 21 1 (.slice (some ⟨g, 0, none⟩) n cap) n (rvs xs)) (hn : n ≤ 1000) (hp : p < n) (hroom : n + 1 ≤ cap)
    (hvb : w.heap[vb]? = some (.cells #[.int .i32 a] 21 (0, 0))) (hne : vb ≠ g) :
    Calls Tryz.prog 118 #[.slice (some ⟨g, 0, none⟩) n cap, .int .i64 p, .slice (some ⟨vb, 0, none⟩) 1 1] w fun e w' => InsPost base w xs p a e w' := by
  obtain ⟨o1, o2, o3, o4, f, hrow, hf⟩ := row_of_own hown
  rw [rvs_length] at o4
  have HL := Lib.hid o4; clear o4
  have hov : ∀ lb cb, (callFunc 131 #[.slice (some ⟨vb, 0, none⟩) 1 1, .slice (some ⟨g, p + 1, none⟩) lb cb]).run Tryz.prog w = .ok (.value (.bool false)) w := fun lb cb => by
    obtain ⟨c, h1, h2, _⟩ := hrow
    rw [run_callFunc_extern Tryz.func131 (by kernel_rfl) (by kernel_rfl) (by kernel_rfl) (e := Extern.SlicesOverlaps.overlaps #[108, 108] #[4]) (by kernel_rfl),
      Lib.run_overlaps_apart w 108 4 21 Tryz.underlying108 1 Tryz.sizeOf21 ⟨vb, 0, none⟩ ⟨g, p + 1, none⟩ 1 1 lb cb hne 21 21 1 cap (by unfold World.shape?; rw [hvb]; rfl) (by unfold World.shape?; rw [h1]; simp [h2]) (by omega) (by unfold World.frozen?; rw [hvb]; rfl) (by unfold World.frozen?; rw [hvb]; rfl)]
    rfl
  have w1 : IntKind.i64.wrap ((p : Int) + 1) = (p : Int) + 1 := by rw [IntKind.wrap_i64]; omega
  have c1 : ¬ cap = p := by omega
  have c2 : ¬ cap = p + 1 := by omega
  have c3 : (p : Int) ≤ (n : Int) + 1 := by omega
  have c4 : cap ≤ 9223372036854775807 := by unfold maxLen at o3; omega
  have c5 : ((p : Int) + 1).toNat = p + 1 := by omega
  have c6 : (0 : Int) ≤ (p : Int) + 1 := by omega
  have c7 : p ≤ n := by omega
  have hdl : ((rvs xs).drop p).length = n - p := by rw [List.length_drop, rvs_length, HL.out]
  have hsz : (Tryz.prog.info? 21).map (·.size) = some 1 := by
    obtain ⟨i0, hi, _, hz1, _⟩ := info_parts infoI32
    rw [hi]; simp [hz1]
  have hcell : ∀ (W : World), (∀ x, W.cell? x = w.cell? x) → ∀ j, j < cap → W.cell? ⟨g, j, none⟩ = some (f j) := fun W hW j hj => by rw [hW]; exact hrow.cell hj
  have hcs : ∀ j v, (rvs xs)[j]? = some v → w.cell? ⟨g, j, none⟩ = some v := fun j v hj => by
    have hjl : j < n := by have := (List.getElem?_eq_some_iff.1 hj).1; rw [rvs_length, HL.out] at this; exact this
    rw [hrow.cell (by omega), hf j hjl, hj]
  have hfz : ∀ j, w.frozen? ⟨g, j, none⟩ = false := fun j => by
    obtain ⟨c, h1, _⟩ := hrow
    unfold World.frozen?; rw [h1]; simp
  have hcp1 : ∀ ty dl dc sl sc, dl = n - p → sl = n + 1 - p → (Builtin.copy_ #[108, 108] ty #[.slice (some ⟨g, p + 1, none⟩) dl dc, .slice (some ⟨g, p, none⟩) sl sc]).run Tryz.prog w.drew = .ok (goInt ((rvs xs).drop p).length) (w.drew.setCells g (p + 1) ((rvs xs).drop p)) := fun ty dl dc sl sc e1 e2 =>
    run_copy_cells w.drew _ _ ty 21 g (p + 1) dl dc ⟨g, p, none⟩ sl sc ((rvs xs).drop p) Tryz.underlying108 hsz (by rw [hdl, e1, e2]; simp only [Nat.min_def]; split <;> omega)
      (fun j v hj => by rw [Addr.add_lit]; exact hcs (p + j) v (by rwa [List.getElem?_drop] at hj))
      (fun j hj => by show (w.cell? _).isSome = true; rw [hrow.cell (by omega)]; rfl) (fun j hj => hfz _) (fun v hv => rvs_one xs v (List.mem_of_mem_drop hv))
  obtain ⟨W1, hW1⟩ : ∃ W1, W1 = w.drew.setCells g (p + 1) ((rvs xs).drop p) := ⟨_, rfl⟩
  have hrow1 : W1.rowIs g 21 cap (fun j => if p + 1 ≤ j ∧ j < p + 1 + ((rvs xs).drop p).length then ((rvs xs).drop p)[j - (p + 1)]?.getD default else f j) := by
    rw [hW1]
    exact rowIs_setCells _ _ _ _ (by obtain ⟨c, h1, h2⟩ := hrow; exact ⟨c, h1, h2⟩)
  have hcp2 : ∀ (W : World), (∀ x, W.cell? x = W1.cell? x) → (∀ x, W.frozen? x = W1.frozen? x) → ∀ ty dl dc, dl = n + 1 - p → (Builtin.copy_ #[108, 108] ty #[.slice (some ⟨g, p, none⟩) dl dc, .slice (some ⟨vb, 0, none⟩) 1 1]).run Tryz.prog W = .ok (goInt ([Value.int .i32 (a : Int)]).length) (W.setCells g p [.int .i32 a]) := fun W hWc hWf ty dl dc e1 =>
    run_copy_cells W _ _ ty 21 g p dl dc ⟨vb, 0, none⟩ 1 1 [.int .i32 a] Tryz.underlying108 hsz (by rw [e1]; simp only [Nat.min_def, List.length_singleton]; split <;> omega)
      (fun j v hj => by
        obtain rfl : j = 0 := by have := (List.getElem?_eq_some_iff.1 hj).1; simpa using this
        rw [Addr.add_lit, hWc, hW1, World.cell?_setCells_out g _ _ _ _ (fun h _ => absurd h hne)]
        simp only [List.getElem?_cons_zero, Option.some.injEq] at hj
        subst hj
        show w.cell? _ = _
        unfold World.cell?; rw [hvb]; rfl)
      (fun j hj => by
        have hj0 : j = 0 := by simpa using hj
        subst hj0
        rw [hWc, hrow1.cell (by omega)]; rfl)
      (fun j hj => by
        rw [hWf, hW1, World.frozen?_setCells]; exact hfz _) (fun v hv => by rw [List.mem_singleton.1 hv]; rfl)
  have hfin : ∀ W : World, W.rowIs g 21 cap (fun j => if p + 1 ≤ j ∧ j < p + 1 + ((rvs xs).drop p).length then ((rvs xs).drop p)[j - (p + 1)]?.getD default else f j) → (W.setCells g p [.int .i32 a]).ownsRow base 21 1 (.slice (some ⟨g, 0, none⟩) (n + 1) cap) (n + 1) (rvs (ins p a xs)) := fun W hW =>
    own_of_row (rowIs_setCells _ _ _ _ hW) o1 (by rw [rvs_length, ins_length (by rw [HL.out]; omega), HL.out]) hroom o3 (fun j hj => by
      rw [ins_cells (by rw [HL.out]; omega)]
      by_cases h1 : j < p
      · rw [if_neg (by omega), if_neg (by omega), if_pos h1, hf j (by omega)]
      · by_cases h2 : j = p
        · subst h2
          rw [if_pos (by simp), if_neg (by omega), if_pos rfl]; simp
        · rw [if_neg (by simp; omega), if_pos ⟨by omega, by rw [hdl]; omega⟩, if_neg h1, if_neg h2, List.getElem?_drop, show p + (j - (p + 1)) = j - 1 by omega]
          rw [List.getElem?_eq_getElem (by rw [rvs_length, HL.out]; omega)]; rfl)
  have HF := Lib.hid hfin
  have HR1 := Lib.hid hrow1
  have HB : Hid (Below base w W1) := by
    show Below base w W1
    rw [hW1]; exact below_setCells o1 _ _ _ (Below.refl _ w).drew
  rw [← hW1] at hcp1
  clear hfin hrow1 hcs hcell hf hrow hsz hdl hvb hown hW1
  go_enter Tryz.func118, Tryz.ntmps118
  go_wp2_with (simp only [hov])
  go_region_law (refine step_copy_runI rfl _ _ 108 108 rfl (.slice (some ⟨g, p + 1, none⟩) (n - p) (cap - (p + 1))) (.slice (some ⟨g, p, none⟩) (n + 1 - p) (cap - p)) (by simp [Act.eval, Act.put]) (by simp [Act.eval, Act.put]) (hcp1 _ _ _ _ _ rfl rfl) ?_)
  go_wp2_with (at_builtin; refine wpList_copy_runI _ rfl _ _ 108 108 rfl _ _ rfl rfl (hcp2 _ (fun _ => rfl) (fun _ => rfl) _ _ _ rfl) ?_)
  go_ret
  exact ⟨_, rfl, by rw [HL.out]; exact HF.out _ HR1.out, below_setCells o1 _ _ _ HB.out⟩

set_option maxHeartbeats 4000000 in
set_option maxRecDepth 100000 in
theorem insert_grow (base : Nat) (g cap n p vb a : Nat) (xs : List Nat) (w : World) (hown : w.ownsRow base 21 1 (.slice (some ⟨g, 0, none⟩) n cap) n (rvs xs)) (hbase : base ≤ w.heap.size) (hn : n ≤ 1000) (hp : p < n) (hroom : cap < n + 1)
    (hvb : w.cell? ⟨vb, 0, none⟩ = some (.int .i32 a)) (hvl : vb < w.heap.size) :
    Calls Tryz.prog 118 #[.slice (some ⟨g, 0, none⟩) n cap, .int .i64 p, .slice (some ⟨vb, 0, none⟩) 1 1] w fun e w' => InsPost base w xs p a e w' := by
  obtain ⟨o1, o2, o3, o4, f, hrow, hf⟩ := row_of_own hown
  rw [rvs_length] at o4
  have HL := Lib.hid o4; clear o4
  have hgw : g < w.heap.size := by obtain ⟨c, h1, _⟩ := hrow; exact (Array.getElem?_eq_some_iff.1 h1).1
  obtain ⟨i0, hi, hz0, hz1, hz2⟩ := info_parts infoI32
  have hsz : (Tryz.prog.info? 21).map (·.size) = some 1 := by rw [hi]; simp [hz1]
  have hcs : ∀ j v, (rvs xs)[j]? = some v → w.cell? ⟨g, j, none⟩ = some v := fun j v hj => by
    have hjl : j < n := by have := (List.getElem?_eq_some_iff.1 hj).1; rw [rvs_length, HL.out] at this; exact this
    rw [hrow.cell (by omega), hf j hjl, hj]
  have htl : ((rvs xs).take p).length = p := by rw [List.length_take, rvs_length, HL.out]; omega
  have hdl : ((rvs xs).drop p).length = n - p := by rw [List.length_drop, rvs_length, HL.out]
  have hold : (Builtin.firstCells i0.size p (.slice (some ⟨g, 0, none⟩) p cap)).run Tryz.prog w.drew = .ok ((rvs xs).take p).toArray w.drew := by
    rw [hz1]
    exact run_firstCells_some w.drew 1 p ⟨g, 0, none⟩ p cap ((rvs xs).take p) (by omega) (fun j v hj => by
      rw [Addr.add_lit, Nat.zero_add]
      rw [List.getElem?_take] at hj
      split at hj
      · exact hcs j v hj
      · cases hj)
  obtain ⟨G, hG⟩ : ∃ G, G = grownCap w (n + 1) cap 21 := ⟨_, rfl⟩
  have hGn : n + 1 ≤ G := by rw [hG]; exact grownCap_ge w _ _ _
  have hGm : G ≤ maxLen := by rw [hG]; exact grownCap_le_maxLen w _ _ _ (by unfold maxLen; omega)
  obtain ⟨ROW, hROW⟩ : ∃ ROW : Array Value, ROW = ((rvs xs).take p).toArray ++ Builtin.zeroCells (Value.int .i32 0).cells (n + 1 - p) ++ Builtin.zeroCells (Value.int .i32 0).cells (G - (n + 1)) := ⟨_, rfl⟩
  have hkk : (n : Int) + 1 - (p : Int) = ((n + 1 - p : Nat) : Int) := by omega
  have hik : p + (n + 1 - p) = n + 1 := by omega
  have hrz : ∀ ty, (Builtin.append_ #[108, 3] ty #[.slice (some ⟨g, 0, none⟩) p cap, .int .i64 ((n : Int) + 1 - (p : Int))]).run Tryz.prog w = .ok (.slice (some ⟨w.heap.size, 0, none⟩) (n + 1) G) (w.drew.alloc (.cells ROW 21)) := fun ty => by
    have h := Lib.run_append_grow_zeros w 108 3 ty 21 i0 _ .i64 .i64 Tryz.underlying108 Tryz.underlying3 hi hz0 (some ⟨g, 0, none⟩) p cap ((rvs xs).take p) hold (n + 1 - p) (by omega) (by omega) (by omega) (by omega) (by rw [hz2]; omega) (by rw [hz2, hik]; exact growslice_fits hroom (by omega))
    rw [hik] at h
    rw [hkk, hROW, hG]
    exact h
  have hRs : ROW.size = G := by
    rw [hROW]
    simp [Builtin.zeroCells, Value.cells, rvs_length, HL.out]
    omega
  obtain ⟨W1, hW1⟩ : ∃ W1, W1 = w.drew.alloc (.cells ROW 21) := ⟨_, rfl⟩
  have hrow1 : W1.rowIs w.heap.size 21 G (fun j => (ROW[j]?).getD undef) := by
    rw [hW1]
    have := World.rowIs_alloc w.drew ROW 21 (fun j => (ROW[j]?).getD undef) (fun i hi => by rw [Array.getElem?_eq_getElem hi]; rfl)
    rw [hRs] at this
    exact this
  have hRp : ∀ j, j < p → some ((ROW[j]?).getD undef) = (rvs xs)[j]? := fun j hj => by
    rw [hROW, Array.append_assoc, Array.getElem?_append_left (by simp [rvs_length, HL.out]; omega), List.getElem?_toArray, List.getElem?_take, if_pos hj, List.getElem?_eq_getElem (by rw [rvs_length, HL.out]; omega)]; rfl
  have hO : ∀ b j v, b < w.heap.size → w.cell? ⟨b, j, none⟩ = some v → W1.cell? ⟨b, j, none⟩ = some v := fun b j v hb h => by rw [hW1, World.cell?_alloc_past (w := w.drew) _ b j hb]; exact h
  have hcp1 : ∀ (W : World), (∀ x, W.cell? x = W1.cell? x) → (∀ x, W.frozen? x = W1.frozen? x) → ∀ ty dl dc, dl = n + 1 - p → (Builtin.copy_ #[108, 108] ty #[.slice (some ⟨w.heap.size, p, none⟩) dl dc, .slice (some ⟨vb, 0, none⟩) 1 1]).run Tryz.prog W = .ok (goInt ([Value.int .i32 (a : Int)]).length) (W.setCells w.heap.size p [.int .i32 a]) := fun W hWc hWf ty dl dc e1 =>
    run_copy_cells W _ _ ty 21 w.heap.size p dl dc ⟨vb, 0, none⟩ 1 1 [.int .i32 a] Tryz.underlying108 hsz (by rw [e1]; simp only [Nat.min_def, List.length_singleton]; split <;> omega)
      (fun j v hj => by
        obtain rfl : j = 0 := by have := (List.getElem?_eq_some_iff.1 hj).1; simpa using this
        simp only [List.getElem?_cons_zero, Option.some.injEq] at hj
        subst hj
        rw [Addr.add_lit, hWc]
        exact hO vb 0 _ hvl hvb)
      (fun j hj => by
        have hj0 : j = 0 := by simpa using hj
        subst hj0
        rw [hWc, hrow1.cell (by omega)]; rfl)
      (fun j hj => by
        rw [hWf]
        obtain ⟨c, h1, _⟩ := hrow1
        unfold World.frozen?; rw [h1]; simp) (fun v hv => by rw [List.mem_singleton.1 hv]; rfl)
  have hrow2 := rowIs_setCells [Value.int .i32 (a : Int)] p W1 _ hrow1
  have hcp2 : ∀ (W : World), (∀ x, W.cell? x = (W1.setCells w.heap.size p [.int .i32 a]).cell? x) → (∀ x, W.frozen? x = (W1.setCells w.heap.size p [.int .i32 a]).frozen? x) → ∀ ty dl dc sl sc, dl = n - p → sl = n - p → (Builtin.copy_ #[108, 108] ty #[.slice (some ⟨w.heap.size, p + 1, none⟩) dl dc, .slice (some ⟨g, p, none⟩) sl sc]).run Tryz.prog W = .ok (goInt ((rvs xs).drop p).length) (W.setCells w.heap.size (p + 1) ((rvs xs).drop p)) := fun W hWc hWf ty dl dc sl sc e1 e2 =>
    run_copy_cells W _ _ ty 21 w.heap.size (p + 1) dl dc ⟨g, p, none⟩ sl sc ((rvs xs).drop p) Tryz.underlying108 hsz (by rw [hdl, e1, e2]; simp only [Nat.min_def]; split <;> omega)
      (fun j v hj => by
        rw [Addr.add_lit, hWc, World.cell?_setCells_out _ _ _ _ _ (fun h _ => absurd h (by show g ≠ w.heap.size; omega))]
        exact hO g _ _ hgw (hcs (p + j) v (by rwa [List.getElem?_drop] at hj)))
      (fun j hj => by rw [hWc, hrow2.cell (by omega)]; rfl)
      (fun j hj => by
        rw [hWf]
        obtain ⟨c, h1, _⟩ := hrow2
        unfold World.frozen?; rw [h1]; simp) (fun v hv => rvs_one xs v (List.mem_of_mem_drop hv))
  have hrow3 := rowIs_setCells ((rvs xs).drop p) (p + 1) _ _ hrow2
  have hfin : ∀ W : World, W.heap[w.heap.size]? = ((W1.setCells w.heap.size p [.int .i32 a]).setCells w.heap.size (p + 1) ((rvs xs).drop p)).heap[w.heap.size]? → W.ownsRow base 21 1 (.slice (some ⟨w.heap.size, 0, none⟩) (n + 1) G) (n + 1) (rvs (ins p a xs)) := fun W hW => by
    obtain ⟨c, h1, h2⟩ := hrow3
    refine own_of_row ⟨c, hW.trans h1, h2⟩ hbase (by rw [rvs_length, ins_length (by rw [HL.out]; omega), HL.out]) hGn hGm (fun j hj => ?_)
    rw [ins_cells (by rw [HL.out]; omega)]
    by_cases h1 : j < p
    · rw [if_neg (by omega), if_neg (by simp; omega), if_pos h1, hRp j h1]
    · by_cases h2 : j = p
      · subst h2
        rw [if_neg (by omega), if_pos (by simp), if_neg (by omega), if_pos rfl]; simp
      · rw [if_pos ⟨by omega, by rw [hdl]; omega⟩, if_neg h1, if_neg h2, List.getElem?_drop, show p + (j - (p + 1)) = j - 1 by omega]
        rw [List.getElem?_eq_getElem (by rw [rvs_length, HL.out]; omega)]; rfl
  have HF := Lib.hid hfin
  have hbel : Below base w ((W1.setCells w.heap.size p [.int .i32 a]).setCells w.heap.size (p + 1) ((rvs xs).drop p)) := by
    rw [hW1]
    exact below_setCells hbase _ _ _ (below_setCells hbase _ _ _ ((Below.refl _ w).drew.alloc hbase _))
  have HB := Lib.hid hbel
  have w1 : IntKind.i64.wrap ((p : Int) + 1) = (p : Int) + 1 := by rw [IntKind.wrap_i64]; omega
  have d1 : ¬ cap = p := by omega
  have d2 : ¬ G = p := by omega
  have d3 : ¬ G = p + 1 := by omega
  have d4 : cap ≤ 9223372036854775807 := by unfold maxLen at o3; omega
  have d5 : G ≤ 9223372036854775807 := by unfold maxLen at hGm; omega
  have d6 : ((p : Int) + 1).toNat = p + 1 := by omega
  have d7 : (0 : Int) ≤ (p : Int) + 1 := by omega
  have d8 : p ≤ n := by omega
  have hE1 : ∀ x, ((w.alloc (.cells ROW 21)).drew).cell? x = W1.cell? x := fun x => by rw [hW1]; rfl
  have hE2 : ∀ x, ((w.alloc (.cells ROW 21)).drew).frozen? x = W1.frozen? x := fun x => by rw [hW1]; rfl
  have HW := Lib.hid hW1
  clear hfin hbel hrow3 hrow2 hrow1 hRp hO hcs hold hik hkk hdl htl hsz hi hz0 hz1 hz2 hf hrow hown hvb hROW hG hRs o3 hGm hW1
  go_enter Tryz.func118, Tryz.ntmps118
  go_wp2_with (at_builtin; refine Lib.wpList_append_run _ rfl _ _ _ _ rfl _ _ rfl rfl _ _ (hrz _) ?_)
  have hF1 : ∀ x, (((w.alloc (.cells ROW 21)).drew.setCells w.heap.size p [.int .i32 a]).drew).cell? x = (W1.setCells w.heap.size p [.int .i32 a]).cell? x := fun x => by rw [HW.out]; rfl
  have hF2 : ∀ x, (((w.alloc (.cells ROW 21)).drew.setCells w.heap.size p [.int .i32 a]).drew).frozen? x = (W1.setCells w.heap.size p [.int .i32 a]).frozen? x := fun x => by rw [HW.out]; rfl
  go_region_law (refine step_copy_runI rfl _ _ 108 108 rfl (.slice (some ⟨w.heap.size, p + 1, none⟩) (n - p) (G - (p + 1))) (.slice (some ⟨g, p, none⟩) (n - p) (cap - p)) (by simp [Act.eval, Act.put]) (by simp [Act.eval, Act.put]) (hcp2 _ hF1 hF2 _ _ _ _ _ rfl rfl) ?_)
  go_wp2
  go_ret
  refine ⟨_, rfl, by rw [HL.out]; exact HF.out _ (by rw [HW.out, ← drew_setCells w.heap.size ((rvs xs).drop p)]; rfl), ?_⟩
  have hb := HB.out
  rw [HW.out] at hb
  rw [← drew_setCells w.heap.size ((rvs xs).drop p)]
  exact hb.drew

/-- one rune put into a row of the call's own; it lies in a block of one cell, another one than the row's -/
theorem insert_any (base : Nat) (v : Value) (n p vb a : Nat) (xs : List Nat) (w : World) (hown : w.ownsRow base 21 1 v n (rvs xs)) (hbase : base ≤ w.heap.size) (hn : n ≤ 1000) (hp : p ≤ n)
    (hvb : w.heap[vb]? = some (.cells #[.int .i32 a] 21 (0, 0))) (hne : v.ownBlock ≠ some vb) :
    Calls Tryz.prog 118 #[v, .int .i64 p, .slice (some ⟨vb, 0, none⟩) 1 1] w fun e w' => InsPost base w xs p a e w' := by
  have hc : w.cell? ⟨vb, 0, none⟩ = some (.int .i32 a) := by unfold World.cell?; rw [hvb]; rfl
  rcases Nat.lt_or_ge p n with h | h
  · obtain ⟨g, cap, rfl, _⟩ := hown.form (by omega)
    rcases Nat.lt_or_ge cap (n + 1) with h2 | h2
    · exact insert_grow base g cap n p vb a xs w hown hbase hn h h2 hc (Array.getElem?_eq_some_iff.1 hvb).1
    · exact insert_room base g cap n p vb a xs w hown hn h h2 hvb (fun e => hne (by rw [e]; rfl))
  · obtain rfl : p = n := by omega
    exact insert_end base v p vb a xs w hown hbase hn hc
end Go.Proofs.YtclfmokdjmnjcaaGreatDoor
