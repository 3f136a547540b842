/-
  The walk of slices.Concat at three lists of numbers, eight in all. Conditions: the lists lie in memory as they are handed on.
-/
import Derived.Test.YtclfmokdjmnjcaaDoorAddrSet
namespace Go.Proofs.YtclfmokdjmnjcaaDoor
open Go.RowKit

/-- how many numbers the first k lists have -/
def upto (ps : List (Option Addr × List Nat)) (k : Nat) : List Nat := ((ps.take k).map (·.2)).flatten
theorem upto_succ {ps : List (Option Addr × List Nat)} {k : Nat} (h : k < ps.length) : upto ps (k + 1) = upto ps k ++ (ps.getD k (none, [])).2 := by
  unfold upto
  rw [List.take_succ_eq_append_getElem h, List.map_append, List.flatten_append]
  simp [List.getD, List.getElem?_eq_getElem h]
theorem upto_le (ps : List (Option Addr × List Nat)) : ∀ {k m : Nat}, k ≤ m → m ≤ ps.length → (upto ps k).length ≤ (upto ps m).length := by
  intro k m h hm
  induction m with
  | zero => rw [show k = 0 by omega]; exact Nat.le_refl _
  | succ m ih =>
    by_cases e : k = m + 1
    · rw [e]; exact Nat.le_refl _
    · rw [upto_succ (show m < ps.length by omega), List.length_append]
      have := ih (by omega) (by omega)
      omega
/-- append of a list of numbers that is none -/
theorem app_nil (g n cap : Nat) (h : n ≤ cap) (ty : TypeId) (W : World) : (Builtin.append_ #[40, 40] ty #[.slice (some ⟨g, 0, none⟩) n cap, .slice none 0 0]).run Tryd.prog W = .ok (.slice (some ⟨g, 0, none⟩) n cap) W := by
  simp [Builtin.append_, go_sem, run_underlying Tryd.underlying40, Builtin.lenOf, Builtin.firstCells, h, storeCells]
theorem row_bound {w : World} {base g cap n : Nat} {xs : List Value} (h : w.ownsRow base 52 1 (.slice (some ⟨g, 0, none⟩) n cap) n xs) : n ≤ cap := by
  rcases h.2 with ⟨e, _⟩ | ⟨g', cap', cur, e, _, _, hc, _⟩
  · cases e
  · injection e with _ _ e
    omega
/-- what Concat answers -/
def CatPost (w : World) (xs : List Nat) (e : Ending) (w' : World) : Prop := ∃ g cap, e = .returned (.slice (some ⟨g, 0, none⟩) xs.length cap) ∧ Below w.heap.size w w' ∧ U64s w' g xs
theorem own_form5 {w : World} {base n : Nat} {v : Value} {xs : List Nat} (h : w.ownsRow base 52 1 v n (uvs xs)) (hn : v ≠ .slice none 0 0) : ∃ g cap, v = .slice (some ⟨g, 0, none⟩) n cap ∧ n ≤ cap ∧ xs.length = n ∧ U64s w g xs := by
  obtain ⟨h1, h2⟩ := h
  rw [uvs_length, Nat.mul_one] at h1
  rcases h2 with ⟨e, _⟩ | ⟨g, cap, cur, e, hb, hg, hc, hm, hs, ht⟩
  · exact absurd e hn
  · refine ⟨g, cap, e, hc, h1, (Array.getElem?_eq_some_iff.1 hg).1, fun j hj => ?_⟩
    rw [cell_of_row w g j cur _ _ hg, ← uvs_at hj, ← ht, Nat.mul_one, List.getElem?_take, if_pos (by omega), Array.getElem?_toList]
theorem own_u64 {w : World} {base g cap n : Nat} {xs : List Nat} (h : w.ownsRow base 52 1 (.slice (some ⟨g, 0, none⟩) n cap) n (uvs xs)) : U64s w g xs := by
  obtain ⟨g', cap', e, _, _, hu⟩ := own_form5 h (by intro e; cases e)
  injection e with e _ _
  injection e with e
  injection e with e _ _
  rw [e]; exact hu
theorem app_own {w : World} {ops : Array Oper} {rest : List Oper} {o : Oper} {a : Act} {Q : Exit → Act → World → Prop} (hgd : o.guard = none) (s x : Operand)
    (ho : o.op = .call { callee := .builtin .append, args := #[s, x], argTypes := #[40, 40] })
    (base g cap n : Nat) (xs : List Nat) (hs : a.eval s = .slice (some ⟨g, 0, none⟩) n cap) (hown : w.ownsRow base 52 1 (.slice (some ⟨g, 0, none⟩) n cap) n (uvs xs))
    (g2 : Nat) (vs : List Nat) (hx : a.eval x = .slice (some ⟨g2, 0, none⟩) vs.length vs.length) (hc : U64s w g2 vs) (hn : n + vs.length ≤ 1000) (hbase : base ≤ w.heap.size)
    (h : ∀ g' cap' w', w'.ownsRow base 52 1 (.slice (some ⟨g', 0, none⟩) (n + vs.length) cap') (n + vs.length) (uvs (xs ++ vs)) → Below base w w' → wpList Tryd.prog ops Q rest (a.put o.dst (.slice (some ⟨g', 0, none⟩) (n + vs.length) cap')) w') : wpList Tryd.prog ops Q (o :: rest) a w := by
  obtain ⟨i0, hi, hz0, hz1, hz2⟩ := info_parts infoU64
  refine wpList_append_own (w := w) hgd s x 40 ho base 52 i0 (.int .u64 0) 1 8 Tryd.underlying40 hi hz0 hz1 hz2 rfl (by decide) _ n (uvs xs) hs hown ⟨g2, 0, none⟩ vs.length vs.length (uvs vs) hx (by rw [uvs_length, Nat.mul_one])
    (fun j u hj => by
      have hj' : j < vs.length := by have := (List.getElem?_eq_some_iff.1 hj).1; rwa [uvs_length] at this
      rw [Addr.add_lit, Nat.zero_add, hc.cells j hj', ← uvs_at hj']; exact hj)
    (uvs_one vs) (by unfold maxLen; omega) (by omega) hbase (fun v' w' h2 h3 h4 => ?_)
  have hne : v' ≠ .slice none 0 0 := fun e => by
    have := (h4.1 e).1
    cases this
  rw [← uvs_append] at h2
  obtain ⟨g', cap', e, _⟩ := own_form5 h2 hne
  subst e
  exact h g' cap' w' h2 ((Below.refl _ _).grown h3 hbase fun k hk => (hown.lt k hk).1)
set_option maxRecDepth 100000 in
set_option maxHeartbeats 2000000 in
theorem concat_e (B c : Nat) (ps : List (Option Addr × List Nat)) (hl : ps.length = 3) (h8 : (upto ps 3).length = 8) (w : World) (hB : B < w.heap.size) (hc : ∀ j, j < 3 → w.cell? ⟨B, j, none⟩ = some (.slice (ps.getD j (none, [])).1 (ps.getD j (none, [])).2.length (ps.getD j (none, [])).2.length))
    (hp : ∀ j, j < 3 → Part w (ps.getD j (none, [])).1 (ps.getD j (none, [])).2) :
    Calls Tryd.prog 39 #[.slice (some ⟨B, 0, none⟩) 3 c] w (CatPost w (upto ps 3)) := by
  have hnext : ∀ k, k < 3 → (upto ps (k + 1)).length = (upto ps k).length + (ps.getD k (none, [])).2.length ∧ upto ps (k + 1) = upto ps k ++ (ps.getD k (none, [])).2 ∧ (upto ps (k + 1)).length ≤ 8 := fun k hk => by
    have := upto_succ (show k < ps.length by omega)
    refine ⟨by rw [this, List.length_append], this, ?_⟩
    rw [← h8]; exact upto_le ps (by omega) (by omega)
  have hg := grow_e w.heap.size
  have HNx := Lib.hid hnext
  have HC := Lib.hid hc
  have HP := Lib.hid hp
  have H8 := Lib.hid h8
  clear hnext hc hp h8
  go_enter Tryd.func39, Tryd.ntmps39
  go_wp2
  go_loopw [11, 3, 5] (fun i s _ wr => ∃ k : Nat, k ≤ 3 ∧ i = .int .i64 k ∧ s = .int .i64 (upto ps k).length ∧ wr = w) (fun i _ _ _ => 3 - (intOf i).toNat)
  case atStart => exact ⟨0, by decide, rfl, rfl, rfl⟩
  case round =>
    obtain ⟨k, hk, rfl, rfl, rfl⟩ := hrel
    by_cases hlt : k < 3
    · have c0 := HC.out k hlt
      have hx := HNx.out k hlt
      obtain ⟨h1, _, h3⟩ := hx
      have hm : (ps.getD k (none, [])).2.length ≤ 8 := by omega
      have hs : (upto ps k).length + (ps.getD k (none, [])).2.length ≤ 8 := by omega
      have H1 := Lib.hid h1
      clear h1 h3
      generalize (ps.getD k (none, [])).2.length = m at c0 hm hs H1
      generalize (upto ps k).length = z at hs H1
      generalize (ps.getD k (none, [])).1 = A at c0
      go_wp2
      exact ⟨⟨k + 1, by omega, by go_num, by rw [H1.out]; go_num, trivial⟩, by simp [intOf]; omega⟩
    · obtain rfl : k = 3 := by omega
      rw [H8.out]
      go_wp2_with fail
      refine (hg wr (Nat.le_refl _)).mono ?_
      rintro e w2 ⟨g0, cap0, rfl, hown, hb2⟩
      have HO := Lib.hid hown
      have HB := Lib.hid hb2
      clear hg hown hb2
      go_wp2
      go_loopw [27, 6, 8] (fun i v _ wq => ∃ k g cap : Nat, k ≤ 3 ∧ i = .int .i64 k ∧ v = .slice (some ⟨g, 0, none⟩) (upto ps k).length cap ∧ wq.ownsRow wr.heap.size 52 1 (.slice (some ⟨g, 0, none⟩) (upto ps k).length cap) (upto ps k).length (uvs (upto ps k)) ∧ Below wr.heap.size wr wq) (fun i _ _ _ => 3 - (intOf i).toNat)
      case atStart => exact ⟨0, g0, cap0, by decide, rfl, rfl, HO.out, HB.out⟩
      case round =>
        rename World => wq
        obtain ⟨k, g, cap, hk, rfl, rfl, hown, hbw⟩ := hrel
        by_cases hlt : k < 3
        · have c0 := (hbw.cell (p := ⟨B, k, none⟩) hB).trans (HC.out k hlt)
          obtain ⟨h1, h2, h3⟩ := HNx.out k hlt
          have hpart := HP.out k hlt
          have hcap := (row_bound hown)
          rw [h1] at h3
          have HX := Lib.hid (show (upto ps (k + 1)) = upto ps k ++ (ps.getD k (none, [])).2 from h2)
          have H1 := Lib.hid h1
          have HBW := Lib.hid hbw
          have hbw' := hbw
          clear h1 h2 hbw
          generalize (ps.getD k (none, [])).1 = pA at c0 hpart
          generalize (ps.getD k (none, [])).2 = pv at c0 hpart HX H1 h3
          rcases hpart with ⟨hA, hv⟩ | ⟨g2, hA, hu⟩
          · rw [hA, hv] at c0
            have hn1 := app_nil g (upto ps k).length cap hcap
            go_wp2_with (at_builtin; refine Lib.wpList_append_run _ rfl _ _ _ _ rfl _ _ rfl rfl _ _ (hn1 _ _) ?_)
            go_roundw
            case rel =>
              have e : upto ps (k + 1) = upto ps k := by rw [HX.out, hv, List.append_nil]
              exact ⟨k + 1, g, cap, by omega, by go_num, by rw [e], by rw [e]; exact hown, HBW.out⟩
            case measure => simp [intOf]; omega
          · have hu2 := hu.below hbw'
            rw [hA] at c0
            have HOw := Lib.hid hown
            have HU2 := Lib.hid hu2
            clear hown hu hu2
            have hbase := HBW.out.size
            go_wp2_with (at_builtin; refine app_own rfl _ _ rfl wr.heap.size g cap _ _ rfl HOw.out g2 _ rfl HU2.out (by omega) hbase ?_; intro g3 cap3 w3 hown3 hb3)
            go_roundw
            case rel => exact ⟨k + 1, g3, cap3, by omega, by go_num, by rw [H1.out], by rw [H1.out, HX.out]; exact hown3, HBW.out.trans hb3⟩
            case measure => simp [intOf]; omega
        · obtain rfl : k = 3 := by omega
          have HU := Lib.hid (own_u64 hown)
          have HBW := Lib.hid hbw
          clear hown hbw
          go_wp2
          go_ret
          exact ⟨g, cap, rfl, HBW.out, HU.out⟩
end Go.Proofs.YtclfmokdjmnjcaaDoor
