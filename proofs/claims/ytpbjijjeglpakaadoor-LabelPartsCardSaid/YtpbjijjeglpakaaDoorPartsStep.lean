/-
  Each operation of that statement keeps what the invariant says. Conditions: each states its own.
-/
import Derived.Test.YtpbjijjeglpakaaDoorPartsRegion
namespace Go.Proofs.YtpbjijjeglpakaaDoor
open Go.RowKit

set_option maxHeartbeats 1000000 in
theorem parts_step {w0 : World} {s : ByteArray} {V : Value} {n c q : Int} {D : List Deferred} {listed : Array Bool} {a : Act} {w : World} {Q : Exit → Act → World → Prop} {i b : Nat}
    (hE : Env w0) (hs : s.size ≤ 600) (hS : Strs w0 b (pieces s)) (hV : V = .slice (some ⟨b, 0, none⟩) (pieces s).length (pieces s).length) (hn : ((pieces s).length : Int) = n) (hnc : n = c + 1) (hc0 : 0 ≤ c) (hc1 : c ≤ 700) (hq : (cntB s : Int) = q) (hlook : (if (s.toList == [46]) = true then 0 else n) = q)
    (hI : PInv w0 s V n c q D listed a w) (hi : i ∈ Region.ready .any partsOps listed) : wpOp Tryd.prog partsOps Q i (PInv w0 s V n c q D (listed.setIfInBounds i true)) a w := by
  obtain ⟨hfree, o, ho, _⟩ := mem_ready.1 hi
  have hneed := needs_of hi ho
  have hrow := partsRow ho
  have hi26 : i < 26 := by
    rcases Nat.lt_or_ge i 26 with h | h
    · exact h
    · rw [List.getElem?_eq_none (by exact h)] at hrow; cases hrow
  refine wpOp_step ho (fun K hK => ?_)
  have e0 : a.eval (.tmp 0) = .string s := hI.s0
  have e3 : a.eval (.tmp 3) = V := hI.s3
  have e4 : a.eval (.tmp 4) = .int .i64 c := hI.s4
  have hcase : i = 0 ∨ i = 1 ∨ i = 2 ∨ i = 3 ∨ i = 4 ∨ i = 5 ∨ i = 6 ∨ i = 7 ∨ i = 8 ∨ i = 9 ∨ i = 10 ∨ i = 11 ∨ i = 12 ∨ i = 13 ∨ i = 14 ∨ i = 15 ∨ i = 16 ∨ i = 17 ∨ i = 18 ∨ i = 19 ∨ i = 20 ∨ i = 21 ∨ i = 22 ∨ i = 23 ∨ i = 24 ∨ i = 25 := by omega
  rcases hcase with rfl | rfl | rfl | rfl | rfl | rfl | rfl | rfl | rfl | rfl | rfl | rfl | rfl | rfl | rfl | rfl | rfl | rfl | rfl | rfl | rfl | rfl | rfl | rfl | rfl | rfl
  all_goals
    simp only [partsRows, List.getElem?_cons_zero, List.getElem?_cons_succ, Option.some.injEq, Prod.mk.injEq] at hrow
    obtain ⟨hd, hop, hg, hne⟩ := hrow
    rw [← hne] at hneed
    rw [if_pos (hI.wanted (by rw [← hne]; exact hneed) (by rw [← hg, ← hne]; decide))]
  case inl =>
    have hr : ∀ ev : Operand → Value, ev (.tmp 3) = V → (execOp ev o).run Tryd.prog w = .ok (.value (V)) w := fun ev x3 => by
      unfold execOp; rw [← hop]; simp [x3, go_sem]
    refine wp_value (hr a.eval e3) ?_
    rw [← hd]; exact hK _ _ (hI.put (by decide) rfl)
  case inr.inl =>
    have e46 : a.eval (.tmp 46) = .slice (some ⟨b, 0, none⟩) (pieces s).length (pieces s).length := hI.at (hneed 0 (by decide)) (by decide) hV
    have hr : ∀ ev : Operand → Value, ev (.tmp 46) = .slice (some ⟨b, 0, none⟩) (pieces s).length (pieces s).length → (execOp ev o).run Tryd.prog w = .ok (.value (.int .i64 n)) w := fun ev x46 => by
      unfold execOp; rw [← hop, ← hn]; simp [x46, go_sem]
    refine wp_value (hr a.eval e46) ?_
    rw [← hd]; exact hK _ _ (hI.put (by decide) rfl)
  case inr.inr.inl =>
    have hr : ∀ ev : Operand → Value, ev (.tmp 4) = .int .i64 c → (execOp ev o).run Tryd.prog w = .ok (.value (.int .i64 c)) w := fun ev x4 => by
      unfold execOp; rw [← hop]; simp [x4, go_sem]
    refine wp_value (hr a.eval e4) ?_
    rw [← hd]; exact hK _ _ (hI.put (by decide) rfl)
  case inr.inr.inr.inl =>
    have e48 : a.eval (.tmp 48) = .int .i64 c := hI.at (hneed 2 (by decide)) (by decide) rfl
    have hwr : IntKind.i64.wrap (c + 1) = c + 1 := IntWalk.i64_in _ (by omega)
    have hr : ∀ ev : Operand → Value, ev (.tmp 48) = .int .i64 c → (∀ v, ev (.const v) = v) → (execOp ev o).run Tryd.prog w = .ok (.value (.int .i64 n)) w := fun ev x48 hcv => by
      unfold execOp; rw [← hop]; simp [x48, hcv, go_sem, hwr, hnc]
    refine wp_value (hr a.eval e48 fun _ => rfl) ?_
    rw [← hd]; exact hK _ _ (hI.put (by decide) rfl)
  case inr.inr.inr.inr.inl =>
    have e47 : a.eval (.tmp 47) = .int .i64 n := hI.at (hneed 1 (by decide)) (by decide) rfl
    have e49 : a.eval (.tmp 49) = .int .i64 n := hI.at (hneed 3 (by decide)) (by decide) rfl
    have hr : ∀ ev : Operand → Value, ev (.tmp 47) = .int .i64 n → ev (.tmp 49) = .int .i64 n → (execOp ev o).run Tryd.prog w = .ok (.value (.bool true)) w := fun ev x47 x49 => by
      unfold execOp; rw [← hop]; simp [x47, x49, go_sem]
    refine wp_value (hr a.eval e47 e49) ?_
    rw [← hd]; exact hK _ _ (hI.put (by decide) rfl)
  case inr.inr.inr.inr.inr.inl =>
    have e50 : a.eval (.tmp 50) = .bool true := hI.at (hneed 4 (by decide)) (by decide) rfl
    have hr : ∀ ev : Operand → Value, ev (.tmp 50) = .bool true → (execOp ev o).run Tryd.prog w = .ok (.value (.bool true)) w := fun ev x50 => by
      unfold execOp; rw [← hop]; simp [x50, go_sem]
    refine wp_value (hr a.eval e50) ?_
    rw [← hd]; exact hK _ _ (hI.put (by decide) rfl)
  case inr.inr.inr.inr.inr.inr.inl =>
    have hr : ∀ ev : Operand → Value, ev (.tmp 3) = V → (execOp ev o).run Tryd.prog w = .ok (.value (V)) w := fun ev x3 => by
      unfold execOp; rw [← hop]; simp [x3, go_sem]
    refine wp_value (hr a.eval e3) ?_
    rw [← hd]; exact hK _ _ (hI.put (by decide) rfl)
  case inr.inr.inr.inr.inr.inr.inr.inl =>
    have e52 : a.eval (.tmp 52) = .slice (some ⟨b, 0, none⟩) (pieces s).length (pieces s).length := hI.at (hneed 6 (by decide)) (by decide) hV
    have hr : ∀ ev : Operand → Value, ev (.tmp 52) = .slice (some ⟨b, 0, none⟩) (pieces s).length (pieces s).length → (ev (.func 14) = .func (.func 14) #[] #[]) → (execOp ev o).run Tryd.prog w = .ok (.enter 14 #[.slice (some ⟨b, 0, none⟩) (pieces s).length (pieces s).length]) w := fun ev x52 xf => by
      unfold execOp; rw [← hop]; simp [x52, xf, go_sem]
    have hd' : (pieces s).map (·.data.toList) = sp s.data.toList := pieces_data s
    have hj := join_e b (pieces s).length (pieces s) w hI.good.1 (hS.below hI.good.2) (Nat.le_refl _) (by have := pieces_le s; omega) (by rw [hd', jn_sp, ← Lib.size_eq]; omega)
    rw [hd', jn_sp] at hj
    refine wp_enter (hr a.eval e52 rfl) hj (fun e w' hp => ?_)
    obtain ⟨he, hb, hE'⟩ := hp
    refine ⟨.string s, he, ?_⟩
    rw [← hd]; exact hK _ _ ((hI.world ⟨hE', hI.good.2.trans (hb.mono hI.good.le)⟩ hb.block).put (by decide) rfl)
  case inr.inr.inr.inr.inr.inr.inr.inr.inl =>
    have hr : ∀ ev : Operand → Value, ev (.tmp 0) = .string s → (execOp ev o).run Tryd.prog w = .ok (.value (.string s)) w := fun ev x0 => by
      unfold execOp; rw [← hop]; simp [x0, go_sem]
    refine wp_value (hr a.eval e0) ?_
    rw [← hd]; exact hK _ _ (hI.put (by decide) rfl)
  case inr.inr.inr.inr.inr.inr.inr.inr.inr.inl =>
    have e53 : a.eval (.tmp 53) = .string s := hI.at (hneed 7 (by decide)) (by decide) rfl
    have e54 : a.eval (.tmp 54) = .string s := hI.at (hneed 8 (by decide)) (by decide) rfl
    have hr : ∀ ev : Operand → Value, ev (.tmp 53) = .string s → ev (.tmp 54) = .string s → (execOp ev o).run Tryd.prog w = .ok (.value (.bool true)) w := fun ev x53 x54 => by
      unfold execOp; rw [← hop]; simp [x53, x54, go_sem]
    refine wp_value (hr a.eval e53 e54) ?_
    rw [← hd]; exact hK _ _ (hI.put (by decide) rfl)
  case inr.inr.inr.inr.inr.inr.inr.inr.inr.inr.inl =>
    have e51 : a.eval (.tmp 51) = .bool true := hI.at (hneed 5 (by decide)) (by decide) rfl
    have e55 : a.eval (.tmp 55) = .bool true := hI.at (hneed 9 (by decide)) (by decide) rfl
    have hr : ∀ ev : Operand → Value, ev (.tmp 51) = .bool true → ev (.tmp 55) = .bool true → (execOp ev o).run Tryd.prog w = .ok (.value (.bool true)) w := fun ev x51 x55 => by
      unfold execOp; rw [← hop]; simp [x51, x55, go_sem]
    refine wp_value (hr a.eval e51 e55) ?_
    rw [← hd]; exact hK _ _ (hI.put (by decide) rfl)
  case inr.inr.inr.inr.inr.inr.inr.inr.inr.inr.inr.inl =>
    have e56 : a.eval (.tmp 56) = .bool true := hI.at (hneed 10 (by decide)) (by decide) rfl
    have hr : ∀ ev : Operand → Value, ev (.tmp 56) = .bool true → (execOp ev o).run Tryd.prog w = .ok (.value (.bool true)) w := fun ev x56 => by
      unfold execOp; rw [← hop]; simp [x56, go_sem]
    refine wp_value (hr a.eval e56) ?_
    rw [← hd]; exact hK _ _ (hI.put (by decide) rfl)
  case inr.inr.inr.inr.inr.inr.inr.inr.inr.inr.inr.inr.inl =>
    have hr : ∀ ev : Operand → Value, ev (.tmp 0) = .string s → (execOp ev o).run Tryd.prog w = .ok (.value (.string s)) w := fun ev x0 => by
      unfold execOp; rw [← hop]; simp [x0, go_sem]
    refine wp_value (hr a.eval e0) ?_
    rw [← hd]; exact hK _ _ (hI.put (by decide) rfl)
  case inr.inr.inr.inr.inr.inr.inr.inr.inr.inr.inr.inr.inr.inl =>
    have e58 : a.eval (.tmp 58) = .string s := hI.at (hneed 12 (by decide)) (by decide) rfl
    have hr : ∀ ev : Operand → Value, ev (.tmp 58) = .string s → (ev (.func 15) = .func (.func 15) #[] #[]) → (execOp ev o).run Tryd.prog w = .ok (.enter 15 #[.string s]) w := fun ev x58 xf => by
      unfold execOp; rw [← hop]; simp [x58, xf, go_sem]
    refine wp_enter (hr a.eval e58 rfl) (count_e s w hI.good.1 (by omega)) (fun e w' hp => ?_)
    obtain ⟨he, hb, hE'⟩ := hp
    refine ⟨.int .i64 q, by rw [he, hq], ?_⟩
    rw [← hd]; exact hK _ _ ((hI.world ⟨hE', hI.good.2.trans (hb.mono hI.good.le)⟩ hb.block).put (by decide) rfl)
  case inr.inr.inr.inr.inr.inr.inr.inr.inr.inr.inr.inr.inr.inr.inl =>
    have f14 := getD_free hfree
    have f15 : listed.getD 15 false = false := by cases h : listed.getD 15 false with | false => rfl | true => rw [hI.c15 h] at f14; cases f14
    have f18 : listed.getD 18 false = false := by cases h : listed.getD 18 false with | false => rfl | true => rw [hI.c18 h] at f14; cases f14
    have f19 : listed.getD 19 false = false := by cases h : listed.getD 19 false with | false => rfl | true => rw [(hI.c19 h).1] at f15; cases f15
    have hr : ∀ ev : Operand → Value, (execOp ev o).run Tryd.prog w = .ok (.value (.map (some w.heap.size))) (w.alloc (.map #[] 0)) := fun ev => by
      unfold execOp; rw [← hop]; simp [run_makeMap_plain, go_sem]
    refine wp_value (hr a.eval) ?_
    rw [← hd]
    refine hK _ _ (hI.remap (.inl rfl) (by rw [size_put]; exact hI.sz) (by rw [defers_put]; exact hI.df) (fun k h60 _ => by rw [slot_put, if_neg (fun e => h60 e.1)]) (hI.good.alloc _) (fun h => ?_) (fun h => ?_) (fun h => ?_) ⟨w.heap.size, hI.good.le, by rw [slot_put, if_pos ⟨rfl, by rw [hI.sz]; omega⟩], fun h => ?_, ?_⟩)
    · rw [getD_set_ne _ (by decide), f15] at h; cases h
    · rw [getD_set_ne _ (by decide), f18] at h; cases h
    · rw [getD_set_ne _ (by decide), f19] at h; cases h
    · rw [getD_set_ne _ (by decide), f19] at h; cases h
    · rw [getD_set_ne _ (by decide), getD_set_ne _ (by decide), f15, f18]
      show (w.heap.push _)[w.heap.size]? = _
      simp
  case inr.inr.inr.inr.inr.inr.inr.inr.inr.inr.inr.inr.inr.inr.inr.inl =>
    have f15 := getD_free hfree
    have f19 : listed.getD 19 false = false := by cases h : listed.getD 19 false with | false => rfl | true => rw [(hI.c19 h).1] at f15; cases f15
    obtain ⟨m, h1, h2, h3, h4⟩ := hI.map (hneed 14 (by decide))
    have e60 : a.eval (.tmp 60) = .map (some m) := h2
    have hlt := h4.lt
    have hr : ∀ ev : Operand → Value, ∀ w', (Instr.mapUpdate 31 (.map (some m)) (.bool true) (.int .i64 0)).run Tryd.prog w = .ok () w' → ev (.tmp 60) = .map (some m) → (∀ v, ev (.const v) = v) → (execOp ev o).run Tryd.prog w = .ok .skip w' := fun ev w' hu x60 hcv => by
      unfold execOp; rw [← hop]; simp [x60, hcv, hu, go_sem]
    have hput : a.put o.dst undef = a := by rw [← hd]; rfl
    cases ho' : listed.getD 18 false
    · rw [f15, ho'] at h4
      refine wp_skip (hr a.eval _ (map_first w m h4) e60 fun _ => rfl) ?_
      rw [hput]
      refine hK _ _ (hI.remap (by decide) hI.sz hI.df (fun _ _ _ => rfl) (hI.good.setB hE h1 _) (fun h => ?_) (fun h => ?_) (fun h => ?_) ⟨m, h1, h2, fun h => ?_, ?_⟩)
      · rw [getD_set_ne _ (by decide)]; exact hneed 14 (by decide)
      · rw [getD_set_ne _ (by decide)]; exact hneed 14 (by decide)
      · rw [getD_set_ne _ (by decide), f19] at h; cases h
      · rw [getD_set_ne _ (by decide), f19] at h; cases h
      · rw [set_self (by rw [hI.ls]; decide), getD_set_ne _ (by decide), ho', setB_at _ hlt]; exact rfl
    · rw [f15, ho'] at h4
      refine wp_skip (hr a.eval _ (map_second' w m n h4) e60 fun _ => rfl) ?_
      rw [hput]
      refine hK _ _ (hI.remap (by decide) hI.sz hI.df (fun _ _ _ => rfl) (hI.good.setB hE h1 _) (fun h => ?_) (fun h => ?_) (fun h => ?_) ⟨m, h1, h2, fun h => ?_, ?_⟩)
      · rw [getD_set_ne _ (by decide)]; exact hneed 14 (by decide)
      · rw [getD_set_ne _ (by decide)]; exact hneed 14 (by decide)
      · rw [getD_set_ne _ (by decide), f19] at h; cases h
      · rw [getD_set_ne _ (by decide), f19] at h; cases h
      · rw [set_self (by rw [hI.ls]; decide), getD_set_ne _ (by decide), ho', setB_at _ hlt]; exact .inr rfl
  case inr.inr.inr.inr.inr.inr.inr.inr.inr.inr.inr.inr.inr.inr.inr.inr.inl =>
    have hr : ∀ ev : Operand → Value, ev (.tmp 4) = .int .i64 c → (execOp ev o).run Tryd.prog w = .ok (.value (.int .i64 c)) w := fun ev x4 => by
      unfold execOp; rw [← hop]; simp [x4, go_sem]
    refine wp_value (hr a.eval e4) ?_
    rw [← hd]; exact hK _ _ (hI.put (by decide) rfl)
  case inr.inr.inr.inr.inr.inr.inr.inr.inr.inr.inr.inr.inr.inr.inr.inr.inr.inl =>
    have e61 : a.eval (.tmp 61) = .int .i64 c := hI.at (hneed 16 (by decide)) (by decide) rfl
    have hwr : IntKind.i64.wrap (c + 1) = c + 1 := IntWalk.i64_in _ (by omega)
    have hr : ∀ ev : Operand → Value, ev (.tmp 61) = .int .i64 c → (∀ v, ev (.const v) = v) → (execOp ev o).run Tryd.prog w = .ok (.value (.int .i64 n)) w := fun ev x61 hcv => by
      unfold execOp; rw [← hop]; simp [x61, hcv, go_sem, hwr, hnc]
    refine wp_value (hr a.eval e61 fun _ => rfl) ?_
    rw [← hd]; exact hK _ _ (hI.put (by decide) rfl)
  case inr.inr.inr.inr.inr.inr.inr.inr.inr.inr.inr.inr.inr.inr.inr.inr.inr.inr.inl =>
    have f18 := getD_free hfree
    have f19 : listed.getD 19 false = false := by cases h : listed.getD 19 false with | false => rfl | true => rw [(hI.c19 h).2] at f18; cases f18
    obtain ⟨m, h1, h2, h3, h4⟩ := hI.map (hneed 14 (by decide))
    have e60 : a.eval (.tmp 60) = .map (some m) := h2
    have e62 : a.eval (.tmp 62) = .int .i64 n := hI.at (hneed 17 (by decide)) (by decide) rfl
    have hlt := h4.lt
    have hr : ∀ ev : Operand → Value, ∀ w', (Instr.mapUpdate 31 (.map (some m)) (.bool false) (.int .i64 n)).run Tryd.prog w = .ok () w' → ev (.tmp 60) = .map (some m) → ev (.tmp 62) = .int .i64 n → (∀ v, ev (.const v) = v) → (execOp ev o).run Tryd.prog w = .ok .skip w' := fun ev w' hu x60 x62 hcv => by
      unfold execOp; rw [← hop]; simp [x60, x62, hcv, hu, go_sem]
    have hput : a.put o.dst undef = a := by rw [← hd]; rfl
    cases ho' : listed.getD 15 false
    · rw [f18, ho'] at h4
      refine wp_skip (hr a.eval _ (map_first' w m n h4) e60 e62 fun _ => rfl) ?_
      rw [hput]
      refine hK _ _ (hI.remap (by decide) hI.sz hI.df (fun _ _ _ => rfl) (hI.good.setB hE h1 _) (fun h => ?_) (fun h => ?_) (fun h => ?_) ⟨m, h1, h2, fun h => ?_, ?_⟩)
      · rw [getD_set_ne _ (by decide)]; exact hneed 14 (by decide)
      · rw [getD_set_ne _ (by decide)]; exact hneed 14 (by decide)
      · rw [getD_set_ne _ (by decide), f19] at h; cases h
      · rw [getD_set_ne _ (by decide), f19] at h; cases h
      · rw [set_self (by rw [hI.ls]; decide), getD_set_ne _ (by decide), ho', setB_at _ hlt]; exact rfl
    · rw [f18, ho'] at h4
      refine wp_skip (hr a.eval _ (map_second w m n h4) e60 e62 fun _ => rfl) ?_
      rw [hput]
      refine hK _ _ (hI.remap (by decide) hI.sz hI.df (fun _ _ _ => rfl) (hI.good.setB hE h1 _) (fun h => ?_) (fun h => ?_) (fun h => ?_) ⟨m, h1, h2, fun h => ?_, ?_⟩)
      · rw [getD_set_ne _ (by decide)]; exact hneed 14 (by decide)
      · rw [getD_set_ne _ (by decide)]; exact hneed 14 (by decide)
      · rw [getD_set_ne _ (by decide), f19] at h; cases h
      · rw [getD_set_ne _ (by decide), f19] at h; cases h
      · rw [set_self (by rw [hI.ls]; decide), getD_set_ne _ (by decide), ho', setB_at _ hlt]; exact .inl rfl
  case inr.inr.inr.inr.inr.inr.inr.inr.inr.inr.inr.inr.inr.inr.inr.inr.inr.inr.inr.inl =>
    obtain ⟨m, h1, h2, h3, h4⟩ := hI.map (hneed 14 (by decide))
    have e60 : a.eval (.tmp 60) = .map (some m) := h2
    have hr : ∀ ev : Operand → Value, ev (.tmp 60) = .map (some m) → (execOp ev o).run Tryd.prog w = .ok (.value (.map (some m))) w := fun ev x60 => by
      unfold execOp; rw [← hop]; simp [x60, go_sem]
    refine wp_value (hr a.eval e60) ?_
    rw [← hd]
    refine hK _ _ (hI.remap (by decide) (by rw [size_put]; exact hI.sz) (by rw [defers_put]; exact hI.df) (fun k _ h63 => by rw [slot_put, if_neg (fun e => h63 e.1)]) hI.good (fun h => ?_) (fun h => ?_) (fun h => ?_) ⟨m, h1, by rw [slot_put, if_neg (fun e => by cases e.1)]; exact h2, fun h => by rw [slot_put, if_pos ⟨rfl, by rw [hI.sz]; omega⟩], ?_⟩)
    · rw [getD_set_ne _ (by decide)]; exact hneed 14 (by decide)
    · rw [getD_set_ne _ (by decide)]; exact hneed 14 (by decide)
    · rw [getD_set_ne _ (by decide), getD_set_ne _ (by decide)]; exact ⟨hneed 15 (by decide), hneed 18 (by decide)⟩
    · rw [getD_set_ne _ (by decide), getD_set_ne _ (by decide)]; exact h4
  case inr.inr.inr.inr.inr.inr.inr.inr.inr.inr.inr.inr.inr.inr.inr.inr.inr.inr.inr.inr.inl =>
    have hr : ∀ ev : Operand → Value, ev (.tmp 0) = .string s → (execOp ev o).run Tryd.prog w = .ok (.value (.string s)) w := fun ev x0 => by
      unfold execOp; rw [← hop]; simp [x0, go_sem]
    refine wp_value (hr a.eval e0) ?_
    rw [← hd]; exact hK _ _ (hI.put (by decide) rfl)
  case inr.inr.inr.inr.inr.inr.inr.inr.inr.inr.inr.inr.inr.inr.inr.inr.inr.inr.inr.inr.inr.inl =>
    have e64 : a.eval (.tmp 64) = .string s := hI.at (hneed 20 (by decide)) (by decide) rfl
    have hr : ∀ ev : Operand → Value, ev (.tmp 64) = .string s → (∀ v, ev (.const v) = v) → (execOp ev o).run Tryd.prog w = .ok (.value (.bool (s.toList == [46]))) w := fun ev x64 hcv => by
      unfold execOp; rw [← hop]; simp [x64, hcv, go_sem]
    refine wp_value (hr a.eval e64 fun _ => rfl) ?_
    rw [← hd]; exact hK _ _ (hI.put (by decide) rfl)
  case inr.inr.inr.inr.inr.inr.inr.inr.inr.inr.inr.inr.inr.inr.inr.inr.inr.inr.inr.inr.inr.inr.inl =>
    have l19 := hneed 19 (by decide)
    obtain ⟨l15, l18⟩ := hI.c19 l19
    obtain ⟨m, h1, h2, h3, h4⟩ := hI.map (hI.c15 l15)
    have e63 : a.eval (.tmp 63) = .map (some m) := h3 l19
    have e65 : a.eval (.tmp 65) = .bool (s.toList == [46]) := hI.at (hneed 21 (by decide)) (by decide) rfl
    rw [l15, l18] at h4
    have hlk : (Instr.lookup 31 (.map (some m)) (.bool (s.toList == [46])) false).run Tryd.prog w = .ok (.int .i64 q) w := by
      rw [← hlook]
      rcases h4 with h4 | h4
      · exact map_look w m n _ h4
      · exact map_look' w m n _ h4
    have hr : ∀ ev : Operand → Value, ev (.tmp 63) = .map (some m) → ev (.tmp 65) = .bool (s.toList == [46]) → (execOp ev o).run Tryd.prog w = .ok (.value (.int .i64 q)) w := fun ev x63 x65 => by
      unfold execOp; rw [← hop]; simp [x63, x65, hlk, go_sem]
    refine wp_value (hr a.eval e63 e65) ?_
    rw [← hd]; exact hK _ _ (hI.put (by decide) rfl)
  case inr.inr.inr.inr.inr.inr.inr.inr.inr.inr.inr.inr.inr.inr.inr.inr.inr.inr.inr.inr.inr.inr.inr.inl =>
    have e59 : a.eval (.tmp 59) = .int .i64 q := hI.at (hneed 13 (by decide)) (by decide) rfl
    have e66 : a.eval (.tmp 66) = .int .i64 q := hI.at (hneed 22 (by decide)) (by decide) rfl
    have hr : ∀ ev : Operand → Value, ev (.tmp 59) = .int .i64 q → ev (.tmp 66) = .int .i64 q → (execOp ev o).run Tryd.prog w = .ok (.value (.bool true)) w := fun ev x59 x66 => by
      unfold execOp; rw [← hop]; simp [x59, x66, go_sem]
    refine wp_value (hr a.eval e59 e66) ?_
    rw [← hd]; exact hK _ _ (hI.put (by decide) rfl)
  case inr.inr.inr.inr.inr.inr.inr.inr.inr.inr.inr.inr.inr.inr.inr.inr.inr.inr.inr.inr.inr.inr.inr.inr.inl =>
    have e57 : a.eval (.tmp 57) = .bool true := hI.at (hneed 11 (by decide)) (by decide) rfl
    have e67 : a.eval (.tmp 67) = .bool true := hI.at (hneed 23 (by decide)) (by decide) rfl
    have hr : ∀ ev : Operand → Value, ev (.tmp 57) = .bool true → ev (.tmp 67) = .bool true → (execOp ev o).run Tryd.prog w = .ok (.value (.bool true)) w := fun ev x57 x67 => by
      unfold execOp; rw [← hop]; simp [x57, x67, go_sem]
    refine wp_value (hr a.eval e57 e67) ?_
    rw [← hd]; exact hK _ _ (hI.put (by decide) rfl)
  case inr.inr.inr.inr.inr.inr.inr.inr.inr.inr.inr.inr.inr.inr.inr.inr.inr.inr.inr.inr.inr.inr.inr.inr.inr =>
    have e68 : a.eval (.tmp 68) = .bool true := hI.at (hneed 24 (by decide)) (by decide) rfl
    have hr : ∀ ev : Operand → Value, ev (.tmp 68) = .bool true → (execOp ev o).run Tryd.prog w = .ok (.value (.bool true)) w := fun ev x68 => by
      unfold execOp; rw [← hop]; simp [x68, go_sem]
    refine wp_value (hr a.eval e68) ?_
    rw [← hd]; exact hK _ _ (hI.put (by decide) rfl)

theorem partsSize : partsOps.size = 26 := by kernel_rfl
theorem partsBack : (partsRows.zipIdx.all fun p => p.1.2.2.2.all (· < p.2)) = true := by decide
/-- behind the statement all has been reckoned -/
theorem parts_end {w0 : World} {s : ByteArray} {V : Value} {n c q : Int} {D : List Deferred} {listed : Array Bool} {a : Act} {w : World}
    (hI : PInv w0 s V n c q D listed a w) (hr : Region.ready .any partsOps listed = []) : a.tmps.getD 2 undef = .bool true ∧ a.defers = D ∧ Good w0 w := by
  have hall : ∀ k i, i ≤ k → i < 26 → listed.getD i false = true := by
    intro k
    induction k with
    | zero =>
      intro i hi h26
      obtain rfl : i = 0 := by omega
      exact Classical.byContradiction fun hf => by
        have hf' : listed.getD 0 true = false := by
          have := hI.ls
          rw [Array.getD_eq_getD_getElem?, Array.getElem?_eq_getElem (by omega)] at hf ⊢
          simpa using hf
        have ho : partsOps[0]? = some partsOps[0] := Array.getElem?_eq_getElem (by rw [partsSize]; decide)
        have hrow := partsRow ho
        have hm : 0 ∈ Region.ready .any partsOps listed := mem_ready.2 ⟨hf', _, ho, fun e he hb => by
          simp only [partsRows, List.getElem?_cons_zero, Option.some.injEq, Prod.mk.injEq] at hrow
          have : e.on ∈ needsOf partsOps[0] := List.mem_map.2 ⟨e, List.mem_filter.2 ⟨by simpa using he, hb⟩, rfl⟩
          rw [← hrow.2.2.2] at this
          cases this⟩
        rw [hr] at hm
        cases hm
    | succ k ih =>
      intro i hi h26
      rcases Nat.lt_or_ge i (k + 1) with hlt | hge
      · exact ih i (by omega) h26
      · exact Classical.byContradiction fun hf => by
          have hf' : listed.getD i true = false := by
            have := hI.ls
            rw [Array.getD_eq_getD_getElem?, Array.getElem?_eq_getElem (by omega)] at hf ⊢
            simpa using hf
          have hlt : i < partsOps.size := by rw [partsSize]; exact h26
          have ho : partsOps[i]? = some partsOps[i] := Array.getElem?_eq_getElem hlt
          have hrow := partsRow ho
          have hm : i ∈ Region.ready .any partsOps listed := mem_ready.2 ⟨hf', _, ho, fun e he hb => by
            have hmem : e.on ∈ needsOf partsOps[i] := List.mem_map.2 ⟨e, List.mem_filter.2 ⟨by simpa using he, hb⟩, rfl⟩
            have hz : ((partsOps[i].dst, partsOps[i].op, partsOps[i].guard, needsOf partsOps[i]), i) ∈ partsRows.zipIdx := by
              rw [List.mem_zipIdx_iff_getElem?]; exact hrow
            have := List.all_eq_true.1 (List.all_eq_true.1 partsBack _ hz) _ hmem
            have hlt2 : e.on < i := by simpa using this
            exact ih e.on (by omega) (by omega)⟩
          rw [hr] at hm
          cases hm
  exact ⟨hI.slots 25 2 (by decide) (hall 25 25 (by omega) (by omega)), hI.df, hI.good⟩
end Go.Proofs.YtpbjijjeglpakaaDoor
