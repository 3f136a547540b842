/-
  The walk of RankKeys. Condition: the two tables hold what their initialisers lay.
-/
import Derived.Test.YteahcgjabdjmkaaDoorRankAheadEq
import Derived.Test.YteahcgjabdjmkaaDoorRankFit
import Derived.Deep.CutRange
import Derived.Deep.RegionHeld3
namespace Go.Proofs.YteahcgjabdjmkaaDoor
open Go.RowKit

theorem kSize {l : List Int} (h : l.length = 8) : (Tryd.prog.info? 38).map (·.size) = some (key8 l).size := by
  rw [show (key8 l).size = 8 by simp [key8, h]]; kernel_rfl
theorem alloc_pack {W0 w : World} (hb : Below W0.heap.size W0 w) (x : Obj) : Below W0.heap.size W0 (w.alloc x) ∧ (w.alloc x).heap[w.heap.size]? = some x ∧ W0.heap.size ≤ w.heap.size ∧ w.heap.size < (w.alloc x).heap.size ∧ (∀ g y, w.heap[g]? = some y → (w.alloc x).heap[g]? = some y ∧ g ≠ w.heap.size) :=
  ⟨hb.alloc hb.size _, heap_alloc_last _ _, hb.size, by rw [World.size_alloc]; omega, fun g y h => ⟨(heap_alloc_old' _ _ (heap_lt h)).trans h, fun e => by have := heap_lt h; omega⟩⟩
theorem below_setRow {W0 w : World} (hb : Below W0.heap.size W0 w) {g : Nat} (hg : W0.heap.size ≤ g) (r : Array Value) : Below W0.heap.size W0 (w.setRow g r) :=
  hb.grown (⟨rfl, rfl, rfl, by simp, fun k _ hk => setRow_other w g k r (fun e => hk (by rw [e]))⟩ : w.grownBy (w.setRow g r) (some g)) hb.size (fun k e => by cases e; exact hg)
theorem cmpK_take (xs ys : List Int) : ∀ k, k < xs.length → k < ys.length → cmpK (xs.take (k + 1)) (ys.take (k + 1)) = if cmpK (xs.take k) (ys.take k) = 0 then Lib.compareInt (xs.getD k 0) (ys.getD k 0) else cmpK (xs.take k) (ys.take k) := by
  induction xs generalizing ys with
  | nil => intro k h; cases h
  | cons x xs ih =>
    cases ys with
    | nil => intro k _ h; cases h
    | cons y ys =>
      intro k h1 h2
      cases k with
      | zero =>
        simp only [List.take_zero, List.take_succ_cons, cmpK, if_pos, List.getD_cons_zero]
        split <;> simp_all
      | succ k =>
        simp only [List.take_succ_cons, cmpK, List.getD_cons_succ]
        split
        · exact ih ys k (by simpa using h1) (by simpa using h2)
        · rfl
theorem cmpK_swap : ∀ xs ys : List Int, cmpK ys xs = -cmpK xs ys
  | [], [] => rfl
  | [], _ :: _ => rfl
  | _ :: _, [] => rfl
  | x :: xs, y :: ys => by
    rcases Int.lt_trichotomy x y with h | h | h
    · rw [cK_lt h, cK_gt h]; rfl
    · subst h; rw [cK_eq, cK_eq]; exact cmpK_swap xs ys
    · rw [cK_lt h, cK_gt h]
theorem key8_cell {l : List Int} (h : l.length = 8) {k : Nat} (hk : k < 8) : (key8 l)[k]? = some (.int .i64 (l.getD k 0)) := by
  unfold key8
  rw [List.getElem?_toArray, List.getElem?_map, List.getD_eq_getElem?_getD, List.getElem?_eq_getElem (by omega)]; rfl
set_option maxRecDepth 100000 in
set_option maxHeartbeats 16000000 in
theorem rankKeys_walk (ls : List LV) (hls : ∀ x ∈ ls, x.addr.length = 16) (A : Option Addr) (cap : Nat) (a0 : List UInt8) (ha : a0.length = 16) (b0 : List UInt8) (hb : b0.length = 16) (w : World) (he : REnv w) (hA : LocsAt w A ls) :
    Calls Tryd.prog 5 #[.slice A ls.length cap, .agg (bvs a0).toArray, .agg (bvs b0).toArray] w fun e w' => e = .returned (.bool true) ∧ Below w.heap.size w w' := by
  have hSa := sizeBv ha
  have hSb := sizeBv hb
  rw [List.size_toArray] at hSa hSb
  have hu := Tryd.underlying27
  have hfit := fun W (hW : REnv W) => fit10_e W hW
  have cA := fun (hn : ls.length < 1000000) W (hW : REnv W) (h : LocsAt W A ls) => key_e ls hls A cap a0 ha hn W hW h
  have cB := fun (hn : ls.length < 1000000) W (hW : REnv W) (h : LocsAt W A ls) => key_e ls hls A cap b0 hb hn W hW h
  have hab := ahead_key ls hls a0 b0 ha hb
  have hba := (ahead_key ls hls b0 a0 hb ha).trans (by rw [cmpK_swap (keyA ls a0) (keyA ls b0)] : _ = decide (0 < -cmpK (keyA ls a0) (keyA ls b0)))
  have rA := fun (hn : ls.length < 1000000) W (h : LocsAt W A ls) => refAhead_e ls hls A cap a0 b0 ha hb hn W h
  have rB := fun (hn : ls.length < 1000000) W (h : LocsAt W A ls) => refAhead_e ls hls A cap b0 a0 hb ha hn W h
  simp only [hab] at rA
  simp only [hba] at rB
  have hla := keyA_len ls a0
  have hlb := keyA_len ls b0
  clear hab hba
  generalize keyA ls a0 = ka at *
  generalize keyA ls b0 = kb at *
  generalize bvs a0 = ta at *
  generalize bvs b0 = tb at *
  clear hls ha hb
  obtain ⟨w2, hw2⟩ : ∃ w2, w2 = ((w.alloc (.cells ta.toArray 27)).alloc (.cells tb.toArray 27)) := ⟨_, rfl⟩
  have hz2 : w2.heap.size = w.heap.size + 2 := by rw [hw2, World.size_alloc, World.size_alloc]
  have b1 : w2.heap[w.heap.size]? = some (.cells ta.toArray 27 (0, 0)) := by rw [hw2]; exact heap_alloc2_old _ _ _
  have b2 : w2.heap[w.heap.size + 1]? = some (.cells tb.toArray 27 (0, 0)) := by rw [hw2]; exact heap_alloc2_new _ _ _
  have hb2 : Below w.heap.size w w2 := by
    rw [hw2]
    exact ((Below.refl _ w).alloc (Nat.le_refl _) _).alloc (by rw [World.size_alloc]; omega) _
  have HE2 := Lib.hid (he.below hb2)
  have HA2 := Lib.hid (show LocsAt w2 A ls from RowsAt.below hA hb2)
  have HB2 := Lib.hid hb2
  have B1 := Lib.hid b1
  have B2 := Lib.hid b2
  have Z2 := Lib.hid hz2
  have HF := Lib.hid hfit
  have CA := Lib.hid cA
  have CB := Lib.hid cB
  have RRA := Lib.hid rA
  have RRB := Lib.hid rB
  have HSa := Lib.hid hSa
  have HSb := Lib.hid hSb
  have HW2 := Lib.hid hw2
  have HKa := Lib.hid (kSize hla)
  have HKb := Lib.hid (kSize hlb)
  have HKao := Lib.hid (kOne ka)
  have HKbo := Lib.hid (kOne kb)
  have HKn := Lib.hid (show (key8 ka).size = 8 by simp [key8, hla])
  have HKm := Lib.hid (show (key8 kb).size = 8 by simp [key8, hlb])
  have HLa := Lib.hid hla
  have HLb := Lib.hid hlb
  clear he hA hb2 b1 b2 hz2 hfit cA cB rA rB hSa hSb hw2 hla hlb
  go_enter Tryd.func5, Tryd.ntmps5
  go_wp2_with fail
  rw [← HW2.out]
  clear HW2
  refine (HF.out _ HE2.out).mono ?_
  rintro e W0 ⟨rfl, hb1⟩
  have HB3 := Lib.hid (HB2.out.trans (hb1.mono HB2.out.size))
  by_cases hl20 : 20 < ls.length
  · have h1 : (20 : Int) < (ls.length : Int) := by omega
    go_wp2_with fail
    go_ret
    exact ⟨rfl, HB3.out⟩
  have h1 : ¬ (20 : Int) < (ls.length : Int) := by omega
  have hn : ls.length < 1000000 := by omega
  have he0 := HE2.out.below hb1
  have hA0 : LocsAt W0 A ls := RowsAt.below HA2.out hb1
  have c1 := (hb1.block w.heap.size (by have := Z2.out; omega)).trans B1.out
  have c2 := (hb1.block (w.heap.size + 1) (by have := Z2.out; omega)).trans B2.out
  have hz0 : w.heap.size + 2 ≤ W0.heap.size := by have := hb1.size; have := Z2.out; omega
  have cellA : ∀ W, Below W0.heap.size W0 W → ∀ j v, ta[j]? = some v → W.cell? ⟨w.heap.size, j, none⟩ = some v := fun W hb j v hj => by
    rw [hb.cell (p := ⟨w.heap.size, j, none⟩) (by show w.heap.size < _; omega), cell_of_row _ _ _ _ _ _ c1, List.getElem?_toArray]; exact hj
  have cellB : ∀ W, Below W0.heap.size W0 W → ∀ j v, tb[j]? = some v → W.cell? ⟨w.heap.size + 1, j, none⟩ = some v := fun W hb j v hj => by
    rw [hb.cell (p := ⟨w.heap.size + 1, j, none⟩) (by show w.heap.size + 1 < _; omega), cell_of_row _ _ _ _ _ _ c2, List.getElem?_toArray]; exact hj
  have LA := Lib.hid (fun (W : World) (hb : Below W0.heap.size W0 W) (j : Nat) (v : Value) (hj : ta.toArray.toList[j]? = some v) => (by rw [Addr.add_lit, Nat.zero_add]; exact cellA W hb j v hj : W.cell? ((⟨w.heap.size, 0, none⟩ : Addr).add j) = some v))
  have LB := Lib.hid (fun (W : World) (hb : Below W0.heap.size W0 W) (j : Nat) (v : Value) (hj : tb.toArray.toList[j]? = some v) => (by rw [Addr.add_lit, Nat.zero_add]; exact cellB W hb j v hj : W.cell? ((⟨w.heap.size + 1, 0, none⟩ : Addr).add j) = some v))
  have RA := Lib.hid (fun (W : World) (hb : Below W0.heap.size W0 W) => (fun j v hj => by rw [Nat.zero_add]; exact cellA W hb j v hj : W.rangeAt w.heap.size 0 ta))
  have RB := Lib.hid (fun (W : World) (hb : Below W0.heap.size W0 W) => (fun j v hj => by rw [Nat.zero_add]; exact cellB W hb j v hj : W.rangeAt (w.heap.size + 1) 0 tb))
  have KA := Lib.hid (fun (W : World) (hb : Below W0.heap.size W0 W) => CA.out hn W (he0.below hb) (RowsAt.below hA0 hb))
  have KB := Lib.hid (fun (W : World) (hb : Below W0.heap.size W0 W) => CB.out hn W (he0.below hb) (RowsAt.below hA0 hb))
  have FA := Lib.hid (fun (W : World) (hb : Below W0.heap.size W0 W) => RRA.out hn W (RowsAt.below hA0 hb))
  have FB := Lib.hid (fun (W : World) (hb : Below W0.heap.size W0 W) => RRB.out hn W (RowsAt.below hA0 hb))
  clear hb1 he0 hA0 c1 c2 hz0 cellA cellB hn CA CB RRA RRB HE2 HA2 B1 B2 Z2 HB2 HF
  go_upto_region 5 with fail
  go_cut [7, 8] from 16 to 21 (fun t7 t8 wx => ∃ P Q : Nat, t7 = .pointer (some ⟨P, 0, none⟩) ∧ t8 = .pointer (some ⟨Q, 0, none⟩) ∧ Hid (Below W0.heap.size W0 wx ∧ wx.heap[P]? = some (.cells (key8 ka) 38 (0, 0)) ∧ wx.heap[Q]? = some (.cells (key8 kb) 38 (0, 0))))
  case first =>
    refine wp_region_held_drew (S := (fun W : World => Below W0.heap.size W0 W)) (by kernel_rfl) (Below.refl _ W0).drew (fun hHeld => ?_)
    generalize W0.drew = wn0 at *
    have hb := Lib.hid hHeld
    clear hHeld
    refine wpAnyH_take (i := 0) (oi := ({ dst := some 16, op := Go.Op.move (Go.Operand.tmp 0), type := 22, pos := "law.go:81", after := #[], guard := none } : Oper)) (v := .slice A ls.length cap) rfl (by kernel_rfl) (by kernel_rfl) (by kernel_rfl) (fun _ _ _ h => h) (Or.inl ⟨by rfl, fun w' _ => ?_⟩) hb.out ?_
    · go_simp
    simp only [Act.put, List.setIfInBounds_toArray, List.set_cons_zero, List.set_cons_succ]
    refine wpAnyH_take (i := 1) (oi := ({ dst := some 17, op := Go.Op.load 27 (Go.Operand.tmp 4), type := 27, pos := "law.go:81", after := #[], guard := none } : Oper)) (v := .agg (ta).toArray) rfl (by kernel_rfl) (by kernel_rfl) (by kernel_rfl) (fun _ _ _ h => h) (yieldsIf_load_mid (by rfl) _ _ rfl _ _ rfl _ _ (fun W h => RA.out W h) hu rfl HSa.out) hb.out ?_
    simp only [Act.put, List.setIfInBounds_toArray, List.set_cons_zero, List.set_cons_succ]
    refine wpAnyH_take (i := 3) (oi := ({ dst := some 19, op := Go.Op.move (Go.Operand.tmp 0), type := 22, pos := "law.go:81", after := #[], guard := none } : Oper)) (v := .slice A ls.length cap) rfl (by kernel_rfl) (by kernel_rfl) (by kernel_rfl) (fun _ _ _ h => h) (Or.inl ⟨by rfl, fun w' _ => ?_⟩) hb.out ?_
    · go_simp
    simp only [Act.put, List.setIfInBounds_toArray, List.set_cons_zero, List.set_cons_succ]
    refine wpAnyH_take (i := 4) (oi := ({ dst := some 20, op := Go.Op.load 27 (Go.Operand.tmp 5), type := 27, pos := "law.go:81", after := #[], guard := none } : Oper)) (v := .agg (tb).toArray) rfl (by kernel_rfl) (by kernel_rfl) (by kernel_rfl) (fun _ _ _ h => h) (yieldsIf_load_mid (by rfl) _ _ rfl _ _ rfl _ _ (fun W h => RB.out W h) hu rfl HSb.out) hb.out ?_
    simp only [Act.put, List.setIfInBounds_toArray, List.set_cons_zero, List.set_cons_succ]
    refine wpAnyH_ready (rs := [2, 6, 7]) (by kernel_rfl) (by simp) ?_
    refine (AllReadyH.cons (o := ({ dst := some 18, op := Go.Op.call { callee := Go.Callee.value (Go.Operand.func 16), args := #[Go.Operand.tmp 16, Go.Operand.tmp 17], argTypes := #[22, 27] }, type := 38, pos := "law.go:81", after := #[{ on := 0, ground := Go.Ground.data }, { on := 1, ground := Go.Ground.data }], guard := none } : Oper)) rfl (fun K hK => ?_) (AllReadyH.cons (o := ({ dst := some 7, op := Go.Op.alloc 38, type := 0, pos := "law.go:81", after := #[], guard := none } : Oper)) rfl (fun K hK => ?_) (AllReadyH.cons (o := ({ dst := some 8, op := Go.Op.alloc 38, type := 0, pos := "law.go:81", after := #[], guard := none } : Oper)) rfl (fun K hK => ?_) AllReadyH.nil)))
    · go_simp
      go_at_call 16
      refine (KA.out _ hb.out).mono ?_
      rintro e' wn1 ⟨rfl, hbc⟩
      have hb := Lib.hid (hb.out.trans (hbc.mono hb.out.size))
      clear hbc
      refine hK.out _ _ hb.out (fun _ => ?_)
      clear hK K
      try simp only [Act.put, List.setIfInBounds_toArray, List.set_cons_zero, List.set_cons_succ]
      refine wpAnyH_ready (rs := [5, 6, 7]) (by kernel_rfl) (by simp) ?_
      refine (AllReadyH.cons (o := ({ dst := some 21, op := Go.Op.call { callee := Go.Callee.value (Go.Operand.func 16), args := #[Go.Operand.tmp 19, Go.Operand.tmp 20], argTypes := #[22, 27] }, type := 38, pos := "law.go:81", after := #[{ on := 3, ground := Go.Ground.data }, { on := 4, ground := Go.Ground.data }, { on := 2, ground := Go.Ground.chain }], guard := none } : Oper)) rfl (fun K hK => ?_) (AllReadyH.cons (o := ({ dst := some 7, op := Go.Op.alloc 38, type := 0, pos := "law.go:81", after := #[], guard := none } : Oper)) rfl (fun K hK => ?_) (AllReadyH.cons (o := ({ dst := some 8, op := Go.Op.alloc 38, type := 0, pos := "law.go:81", after := #[], guard := none } : Oper)) rfl (fun K hK => ?_) AllReadyH.nil)))
      · go_simp
        go_at_call 16
        refine (KB.out _ hb.out).mono ?_
        rintro e' wn2 ⟨rfl, hbc⟩
        have hb := Lib.hid (hb.out.trans (hbc.mono hb.out.size))
        clear hbc
        refine hK.out _ _ hb.out (fun _ => ?_)
        clear hK K
        try simp only [Act.put, List.setIfInBounds_toArray, List.set_cons_zero, List.set_cons_succ]
        refine wpAnyH_ready (rs := [6, 7]) (by kernel_rfl) (by simp) ?_
        refine (AllReadyH.cons (o := ({ dst := some 7, op := Go.Op.alloc 38, type := 0, pos := "law.go:81", after := #[], guard := none } : Oper)) rfl (fun K hK => ?_) (AllReadyH.cons (o := ({ dst := some 8, op := Go.Op.alloc 38, type := 0, pos := "law.go:81", after := #[], guard := none } : Oper)) rfl (fun K hK => ?_) AllReadyH.nil))
        · go_simp
          refine hK.out _ _ (hb.out.alloc hb.out.size _) (fun _ => ?_)
          clear hK K
          try simp only [Act.put, List.setIfInBounds_toArray, List.set_cons_zero, List.set_cons_succ]
          obtain ⟨hb, hG4, hpG4, hlG4, hold⟩ := alloc_pack hb.out (.cells #[.int .i64 0, .int .i64 0, .int .i64 0, .int .i64 0, .int .i64 0, .int .i64 0, .int .i64 0, .int .i64 0] 38)
          clear hold
          generalize World.alloc wn2 (.cells #[.int .i64 0, .int .i64 0, .int .i64 0, .int .i64 0, .int .i64 0, .int .i64 0, .int .i64 0, .int .i64 0] 38) = wn3 at *
          generalize (wn2).heap.size = G4 at *
          have hb := Lib.hid hb
          have hG4 := Lib.hid hG4
          refine wpAnyH_ready (rs := [7]) (by kernel_rfl) (by simp) ?_
          refine (AllReadyH.cons (o := ({ dst := some 8, op := Go.Op.alloc 38, type := 0, pos := "law.go:81", after := #[], guard := none } : Oper)) rfl (fun K hK => ?_) AllReadyH.nil)
          · go_simp
            refine hK.out _ _ (hb.out.alloc hb.out.size _) (fun _ => ?_)
            clear hK K
            try simp only [Act.put, List.setIfInBounds_toArray, List.set_cons_zero, List.set_cons_succ]
            obtain ⟨hb, hG6, hpG6, hlG6, hold⟩ := alloc_pack hb.out (.cells #[.int .i64 0, .int .i64 0, .int .i64 0, .int .i64 0, .int .i64 0, .int .i64 0, .int .i64 0, .int .i64 0] 38)
            obtain ⟨hG4, hneG4G6⟩ := hold _ _ hG4.out
            have hG4 := Lib.hid hG4
            clear hold
            generalize World.alloc wn3 (.cells #[.int .i64 0, .int .i64 0, .int .i64 0, .int .i64 0, .int .i64 0, .int .i64 0, .int .i64 0, .int .i64 0] 38) = wn5 at *
            generalize (wn3).heap.size = G6 at *
            have hb := Lib.hid hb
            have hG6 := Lib.hid hG6
            refine wpAnyH_ready (rs := [8]) (by kernel_rfl) (by simp) ?_
            refine AllReadyH.cons (o := ({ dst := none, op := Go.Op.store 38 (Go.Operand.tmp 7) (Go.Operand.tmp 18), type := 0, pos := "law.go:81", after := #[{ on := 6, ground := Go.Ground.data }, { on := 2, ground := Go.Ground.data }, { on := 5, ground := Go.Ground.chain }, { on := 0, ground := Go.Ground.phase }, { on := 1, ground := Go.Ground.phase }, { on := 2, ground := Go.Ground.phase }, { on := 3, ground := Go.Ground.textOnly Go.Departure.lateStores }, { on := 4, ground := Go.Ground.textOnly Go.Departure.lateStores }, { on := 5, ground := Go.Ground.textOnly Go.Departure.lateStoresUnsure }, { on := 6, ground := Go.Ground.phase }, { on := 7, ground := Go.Ground.phase }], guard := none } : Oper)) rfl (fun K hK => ?_) AllReadyH.nil
            have hab : G4 ≠ G6 := (fun e => hneG4G6 e)
            refine wp_store_row 38 (.tmp 7) (.tmp 18) rfl G4 (key8 ka) rfl rfl 38 _ hG4.out HKa.out (HKn.out.symm) HKao.out ?_
            have gG4 := setRow_heap _ _ _ (key8 ka) _ _ hG4.out
            have gG6 := (setRow_other wn5 G4 G6 (key8 ka) (fun e => hab e.symm)).trans hG6.out
            have hb := below_setRow hb.out hpG4 (key8 ka)
            refine hK.out _ _ hb (fun _ => ?_)
            clear hK K
            try simp only [Act.put]
            generalize World.setRow wn5 G4 (key8 ka) = wn7 at *
            refine wpAnyH_ready (rs := [9]) (by kernel_rfl) (by simp) ?_
            refine AllReadyH.cons (o := ({ dst := none, op := Go.Op.store 38 (Go.Operand.tmp 8) (Go.Operand.tmp 21), type := 0, pos := "law.go:81", after := #[{ on := 7, ground := Go.Ground.data }, { on := 5, ground := Go.Ground.data }, { on := 8, ground := Go.Ground.chain }, { on := 0, ground := Go.Ground.phase }, { on := 1, ground := Go.Ground.phase }, { on := 2, ground := Go.Ground.phase }, { on := 3, ground := Go.Ground.phase }, { on := 4, ground := Go.Ground.phase }, { on := 5, ground := Go.Ground.phase }, { on := 6, ground := Go.Ground.phase }, { on := 7, ground := Go.Ground.phase }, { on := 8, ground := Go.Ground.phase }], guard := none } : Oper)) rfl (fun K hK => ?_) AllReadyH.nil
            refine wp_store_row 38 (.tmp 8) (.tmp 21) rfl G6 (key8 kb) rfl rfl 38 _ gG6 HKb.out (HKm.out.symm) HKbo.out ?_
            have kG6 := setRow_heap _ _ _ (key8 kb) _ _ gG6
            have kG4 := (setRow_other wn7 G6 G4 (key8 kb) hab).trans gG4
            have hb := below_setRow hb hpG6 (key8 kb)
            refine hK.out _ _ hb (fun _ => ?_)
            clear hK K
            try simp only [Act.put]
            refine wpAnyH_done (by kernel_rfl) ?_ _
            try (go_wp2_with fail)
            go_meet
            case rel => exact ⟨G4, G6, rfl, rfl, Lib.hid ⟨hb, kG4, kG6⟩⟩
        · go_simp
          refine hK.out _ _ (hb.out.alloc hb.out.size _) (fun _ => ?_)
          clear hK K
          try simp only [Act.put, List.setIfInBounds_toArray, List.set_cons_zero, List.set_cons_succ]
          obtain ⟨hb, hG9, hpG9, hlG9, hold⟩ := alloc_pack hb.out (.cells #[.int .i64 0, .int .i64 0, .int .i64 0, .int .i64 0, .int .i64 0, .int .i64 0, .int .i64 0, .int .i64 0] 38)
          clear hold
          generalize World.alloc wn2 (.cells #[.int .i64 0, .int .i64 0, .int .i64 0, .int .i64 0, .int .i64 0, .int .i64 0, .int .i64 0, .int .i64 0] 38) = wn8 at *
          generalize (wn2).heap.size = G9 at *
          have hb := Lib.hid hb
          have hG9 := Lib.hid hG9
          refine wpAnyH_ready (rs := [6]) (by kernel_rfl) (by simp) ?_
          refine (AllReadyH.cons (o := ({ dst := some 7, op := Go.Op.alloc 38, type := 0, pos := "law.go:81", after := #[], guard := none } : Oper)) rfl (fun K hK => ?_) AllReadyH.nil)
          · go_simp
            refine hK.out _ _ (hb.out.alloc hb.out.size _) (fun _ => ?_)
            clear hK K
            try simp only [Act.put, List.setIfInBounds_toArray, List.set_cons_zero, List.set_cons_succ]
            obtain ⟨hb, hG11, hpG11, hlG11, hold⟩ := alloc_pack hb.out (.cells #[.int .i64 0, .int .i64 0, .int .i64 0, .int .i64 0, .int .i64 0, .int .i64 0, .int .i64 0, .int .i64 0] 38)
            obtain ⟨hG9, hneG9G11⟩ := hold _ _ hG9.out
            have hG9 := Lib.hid hG9
            clear hold
            generalize World.alloc wn8 (.cells #[.int .i64 0, .int .i64 0, .int .i64 0, .int .i64 0, .int .i64 0, .int .i64 0, .int .i64 0, .int .i64 0] 38) = wn10 at *
            generalize (wn8).heap.size = G11 at *
            have hb := Lib.hid hb
            have hG11 := Lib.hid hG11
            refine wpAnyH_ready (rs := [8]) (by kernel_rfl) (by simp) ?_
            refine AllReadyH.cons (o := ({ dst := none, op := Go.Op.store 38 (Go.Operand.tmp 7) (Go.Operand.tmp 18), type := 0, pos := "law.go:81", after := #[{ on := 6, ground := Go.Ground.data }, { on := 2, ground := Go.Ground.data }, { on := 5, ground := Go.Ground.chain }, { on := 0, ground := Go.Ground.phase }, { on := 1, ground := Go.Ground.phase }, { on := 2, ground := Go.Ground.phase }, { on := 3, ground := Go.Ground.textOnly Go.Departure.lateStores }, { on := 4, ground := Go.Ground.textOnly Go.Departure.lateStores }, { on := 5, ground := Go.Ground.textOnly Go.Departure.lateStoresUnsure }, { on := 6, ground := Go.Ground.phase }, { on := 7, ground := Go.Ground.phase }], guard := none } : Oper)) rfl (fun K hK => ?_) AllReadyH.nil
            have hab : G11 ≠ G9 := (fun e => hneG9G11 e.symm)
            refine wp_store_row 38 (.tmp 7) (.tmp 18) rfl G11 (key8 ka) rfl rfl 38 _ hG11.out HKa.out (HKn.out.symm) HKao.out ?_
            have gG11 := setRow_heap _ _ _ (key8 ka) _ _ hG11.out
            have gG9 := (setRow_other wn10 G11 G9 (key8 ka) (fun e => hab e.symm)).trans hG9.out
            have hb := below_setRow hb.out hpG11 (key8 ka)
            refine hK.out _ _ hb (fun _ => ?_)
            clear hK K
            try simp only [Act.put]
            generalize World.setRow wn10 G11 (key8 ka) = wn12 at *
            refine wpAnyH_ready (rs := [9]) (by kernel_rfl) (by simp) ?_
            refine AllReadyH.cons (o := ({ dst := none, op := Go.Op.store 38 (Go.Operand.tmp 8) (Go.Operand.tmp 21), type := 0, pos := "law.go:81", after := #[{ on := 7, ground := Go.Ground.data }, { on := 5, ground := Go.Ground.data }, { on := 8, ground := Go.Ground.chain }, { on := 0, ground := Go.Ground.phase }, { on := 1, ground := Go.Ground.phase }, { on := 2, ground := Go.Ground.phase }, { on := 3, ground := Go.Ground.phase }, { on := 4, ground := Go.Ground.phase }, { on := 5, ground := Go.Ground.phase }, { on := 6, ground := Go.Ground.phase }, { on := 7, ground := Go.Ground.phase }, { on := 8, ground := Go.Ground.phase }], guard := none } : Oper)) rfl (fun K hK => ?_) AllReadyH.nil
            refine wp_store_row 38 (.tmp 8) (.tmp 21) rfl G9 (key8 kb) rfl rfl 38 _ gG9 HKb.out (HKm.out.symm) HKbo.out ?_
            have kG9 := setRow_heap _ _ _ (key8 kb) _ _ gG9
            have kG11 := (setRow_other wn12 G9 G11 (key8 kb) hab).trans gG11
            have hb := below_setRow hb hpG9 (key8 kb)
            refine hK.out _ _ hb (fun _ => ?_)
            clear hK K
            try simp only [Act.put]
            refine wpAnyH_done (by kernel_rfl) ?_ _
            try (go_wp2_with fail)
            go_meet
            case rel => exact ⟨G11, G9, rfl, rfl, Lib.hid ⟨hb, kG11, kG9⟩⟩
      · go_simp
        refine hK.out _ _ (hb.out.alloc hb.out.size _) (fun _ => ?_)
        clear hK K
        try simp only [Act.put, List.setIfInBounds_toArray, List.set_cons_zero, List.set_cons_succ]
        obtain ⟨hb, hG14, hpG14, hlG14, hold⟩ := alloc_pack hb.out (.cells #[.int .i64 0, .int .i64 0, .int .i64 0, .int .i64 0, .int .i64 0, .int .i64 0, .int .i64 0, .int .i64 0] 38)
        clear hold
        generalize World.alloc wn1 (.cells #[.int .i64 0, .int .i64 0, .int .i64 0, .int .i64 0, .int .i64 0, .int .i64 0, .int .i64 0, .int .i64 0] 38) = wn13 at *
        generalize (wn1).heap.size = G14 at *
        have hb := Lib.hid hb
        have hG14 := Lib.hid hG14
        refine wpAnyH_ready (rs := [5, 7]) (by kernel_rfl) (by simp) ?_
        refine (AllReadyH.cons (o := ({ dst := some 21, op := Go.Op.call { callee := Go.Callee.value (Go.Operand.func 16), args := #[Go.Operand.tmp 19, Go.Operand.tmp 20], argTypes := #[22, 27] }, type := 38, pos := "law.go:81", after := #[{ on := 3, ground := Go.Ground.data }, { on := 4, ground := Go.Ground.data }, { on := 2, ground := Go.Ground.chain }], guard := none } : Oper)) rfl (fun K hK => ?_) (AllReadyH.cons (o := ({ dst := some 8, op := Go.Op.alloc 38, type := 0, pos := "law.go:81", after := #[], guard := none } : Oper)) rfl (fun K hK => ?_) AllReadyH.nil))
        · go_simp
          go_at_call 16
          refine (KB.out _ hb.out).mono ?_
          rintro e' wn15 ⟨rfl, hbc⟩
          have hG14 := Lib.hid ((hbc.block _ (heap_lt hG14.out)).trans hG14.out)
          have hb := Lib.hid (hb.out.trans (hbc.mono hb.out.size))
          clear hbc
          refine hK.out _ _ hb.out (fun _ => ?_)
          clear hK K
          try simp only [Act.put, List.setIfInBounds_toArray, List.set_cons_zero, List.set_cons_succ]
          refine wpAnyH_ready (rs := [7]) (by kernel_rfl) (by simp) ?_
          refine (AllReadyH.cons (o := ({ dst := some 8, op := Go.Op.alloc 38, type := 0, pos := "law.go:81", after := #[], guard := none } : Oper)) rfl (fun K hK => ?_) AllReadyH.nil)
          · go_simp
            refine hK.out _ _ (hb.out.alloc hb.out.size _) (fun _ => ?_)
            clear hK K
            try simp only [Act.put, List.setIfInBounds_toArray, List.set_cons_zero, List.set_cons_succ]
            obtain ⟨hb, hG17, hpG17, hlG17, hold⟩ := alloc_pack hb.out (.cells #[.int .i64 0, .int .i64 0, .int .i64 0, .int .i64 0, .int .i64 0, .int .i64 0, .int .i64 0, .int .i64 0] 38)
            obtain ⟨hG14, hneG14G17⟩ := hold _ _ hG14.out
            have hG14 := Lib.hid hG14
            clear hold
            generalize World.alloc wn15 (.cells #[.int .i64 0, .int .i64 0, .int .i64 0, .int .i64 0, .int .i64 0, .int .i64 0, .int .i64 0, .int .i64 0] 38) = wn16 at *
            generalize (wn15).heap.size = G17 at *
            have hb := Lib.hid hb
            have hG17 := Lib.hid hG17
            refine wpAnyH_ready (rs := [8]) (by kernel_rfl) (by simp) ?_
            refine AllReadyH.cons (o := ({ dst := none, op := Go.Op.store 38 (Go.Operand.tmp 7) (Go.Operand.tmp 18), type := 0, pos := "law.go:81", after := #[{ on := 6, ground := Go.Ground.data }, { on := 2, ground := Go.Ground.data }, { on := 5, ground := Go.Ground.chain }, { on := 0, ground := Go.Ground.phase }, { on := 1, ground := Go.Ground.phase }, { on := 2, ground := Go.Ground.phase }, { on := 3, ground := Go.Ground.textOnly Go.Departure.lateStores }, { on := 4, ground := Go.Ground.textOnly Go.Departure.lateStores }, { on := 5, ground := Go.Ground.textOnly Go.Departure.lateStoresUnsure }, { on := 6, ground := Go.Ground.phase }, { on := 7, ground := Go.Ground.phase }], guard := none } : Oper)) rfl (fun K hK => ?_) AllReadyH.nil
            have hab : G14 ≠ G17 := (fun e => hneG14G17 e)
            refine wp_store_row 38 (.tmp 7) (.tmp 18) rfl G14 (key8 ka) rfl rfl 38 _ hG14.out HKa.out (HKn.out.symm) HKao.out ?_
            have gG14 := setRow_heap _ _ _ (key8 ka) _ _ hG14.out
            have gG17 := (setRow_other wn16 G14 G17 (key8 ka) (fun e => hab e.symm)).trans hG17.out
            have hb := below_setRow hb.out hpG14 (key8 ka)
            refine hK.out _ _ hb (fun _ => ?_)
            clear hK K
            try simp only [Act.put]
            generalize World.setRow wn16 G14 (key8 ka) = wn18 at *
            refine wpAnyH_ready (rs := [9]) (by kernel_rfl) (by simp) ?_
            refine AllReadyH.cons (o := ({ dst := none, op := Go.Op.store 38 (Go.Operand.tmp 8) (Go.Operand.tmp 21), type := 0, pos := "law.go:81", after := #[{ on := 7, ground := Go.Ground.data }, { on := 5, ground := Go.Ground.data }, { on := 8, ground := Go.Ground.chain }, { on := 0, ground := Go.Ground.phase }, { on := 1, ground := Go.Ground.phase }, { on := 2, ground := Go.Ground.phase }, { on := 3, ground := Go.Ground.phase }, { on := 4, ground := Go.Ground.phase }, { on := 5, ground := Go.Ground.phase }, { on := 6, ground := Go.Ground.phase }, { on := 7, ground := Go.Ground.phase }, { on := 8, ground := Go.Ground.phase }], guard := none } : Oper)) rfl (fun K hK => ?_) AllReadyH.nil
            refine wp_store_row 38 (.tmp 8) (.tmp 21) rfl G17 (key8 kb) rfl rfl 38 _ gG17 HKb.out (HKm.out.symm) HKbo.out ?_
            have kG17 := setRow_heap _ _ _ (key8 kb) _ _ gG17
            have kG14 := (setRow_other wn18 G17 G14 (key8 kb) hab).trans gG14
            have hb := below_setRow hb hpG17 (key8 kb)
            refine hK.out _ _ hb (fun _ => ?_)
            clear hK K
            try simp only [Act.put]
            refine wpAnyH_done (by kernel_rfl) ?_ _
            try (go_wp2_with fail)
            go_meet
            case rel => exact ⟨G14, G17, rfl, rfl, Lib.hid ⟨hb, kG14, kG17⟩⟩
        · go_simp
          refine hK.out _ _ (hb.out.alloc hb.out.size _) (fun _ => ?_)
          clear hK K
          try simp only [Act.put, List.setIfInBounds_toArray, List.set_cons_zero, List.set_cons_succ]
          obtain ⟨hb, hG20, hpG20, hlG20, hold⟩ := alloc_pack hb.out (.cells #[.int .i64 0, .int .i64 0, .int .i64 0, .int .i64 0, .int .i64 0, .int .i64 0, .int .i64 0, .int .i64 0] 38)
          obtain ⟨hG14, hneG14G20⟩ := hold _ _ hG14.out
          have hG14 := Lib.hid hG14
          clear hold
          generalize World.alloc wn13 (.cells #[.int .i64 0, .int .i64 0, .int .i64 0, .int .i64 0, .int .i64 0, .int .i64 0, .int .i64 0, .int .i64 0] 38) = wn19 at *
          generalize (wn13).heap.size = G20 at *
          have hb := Lib.hid hb
          have hG20 := Lib.hid hG20
          refine wpAnyH_ready (rs := [5]) (by kernel_rfl) (by simp) ?_
          refine (AllReadyH.cons (o := ({ dst := some 21, op := Go.Op.call { callee := Go.Callee.value (Go.Operand.func 16), args := #[Go.Operand.tmp 19, Go.Operand.tmp 20], argTypes := #[22, 27] }, type := 38, pos := "law.go:81", after := #[{ on := 3, ground := Go.Ground.data }, { on := 4, ground := Go.Ground.data }, { on := 2, ground := Go.Ground.chain }], guard := none } : Oper)) rfl (fun K hK => ?_) AllReadyH.nil)
          · go_simp
            go_at_call 16
            refine (KB.out _ hb.out).mono ?_
            rintro e' wn21 ⟨rfl, hbc⟩
            have hG14 := Lib.hid ((hbc.block _ (heap_lt hG14.out)).trans hG14.out)
            have hG20 := Lib.hid ((hbc.block _ (heap_lt hG20.out)).trans hG20.out)
            have hb := Lib.hid (hb.out.trans (hbc.mono hb.out.size))
            clear hbc
            refine hK.out _ _ hb.out (fun _ => ?_)
            clear hK K
            try simp only [Act.put, List.setIfInBounds_toArray, List.set_cons_zero, List.set_cons_succ]
            refine wpAnyH_ready (rs := [8]) (by kernel_rfl) (by simp) ?_
            refine AllReadyH.cons (o := ({ dst := none, op := Go.Op.store 38 (Go.Operand.tmp 7) (Go.Operand.tmp 18), type := 0, pos := "law.go:81", after := #[{ on := 6, ground := Go.Ground.data }, { on := 2, ground := Go.Ground.data }, { on := 5, ground := Go.Ground.chain }, { on := 0, ground := Go.Ground.phase }, { on := 1, ground := Go.Ground.phase }, { on := 2, ground := Go.Ground.phase }, { on := 3, ground := Go.Ground.textOnly Go.Departure.lateStores }, { on := 4, ground := Go.Ground.textOnly Go.Departure.lateStores }, { on := 5, ground := Go.Ground.textOnly Go.Departure.lateStoresUnsure }, { on := 6, ground := Go.Ground.phase }, { on := 7, ground := Go.Ground.phase }], guard := none } : Oper)) rfl (fun K hK => ?_) AllReadyH.nil
            have hab : G14 ≠ G20 := (fun e => hneG14G20 e)
            refine wp_store_row 38 (.tmp 7) (.tmp 18) rfl G14 (key8 ka) rfl rfl 38 _ hG14.out HKa.out (HKn.out.symm) HKao.out ?_
            have gG14 := setRow_heap _ _ _ (key8 ka) _ _ hG14.out
            have gG20 := (setRow_other wn21 G14 G20 (key8 ka) (fun e => hab e.symm)).trans hG20.out
            have hb := below_setRow hb.out hpG14 (key8 ka)
            refine hK.out _ _ hb (fun _ => ?_)
            clear hK K
            try simp only [Act.put]
            generalize World.setRow wn21 G14 (key8 ka) = wn22 at *
            refine wpAnyH_ready (rs := [9]) (by kernel_rfl) (by simp) ?_
            refine AllReadyH.cons (o := ({ dst := none, op := Go.Op.store 38 (Go.Operand.tmp 8) (Go.Operand.tmp 21), type := 0, pos := "law.go:81", after := #[{ on := 7, ground := Go.Ground.data }, { on := 5, ground := Go.Ground.data }, { on := 8, ground := Go.Ground.chain }, { on := 0, ground := Go.Ground.phase }, { on := 1, ground := Go.Ground.phase }, { on := 2, ground := Go.Ground.phase }, { on := 3, ground := Go.Ground.phase }, { on := 4, ground := Go.Ground.phase }, { on := 5, ground := Go.Ground.phase }, { on := 6, ground := Go.Ground.phase }, { on := 7, ground := Go.Ground.phase }, { on := 8, ground := Go.Ground.phase }], guard := none } : Oper)) rfl (fun K hK => ?_) AllReadyH.nil
            refine wp_store_row 38 (.tmp 8) (.tmp 21) rfl G20 (key8 kb) rfl rfl 38 _ gG20 HKb.out (HKm.out.symm) HKbo.out ?_
            have kG20 := setRow_heap _ _ _ (key8 kb) _ _ gG20
            have kG14 := (setRow_other wn22 G20 G14 (key8 kb) hab).trans gG14
            have hb := below_setRow hb hpG20 (key8 kb)
            refine hK.out _ _ hb (fun _ => ?_)
            clear hK K
            try simp only [Act.put]
            refine wpAnyH_done (by kernel_rfl) ?_ _
            try (go_wp2_with fail)
            go_meet
            case rel => exact ⟨G14, G20, rfl, rfl, Lib.hid ⟨hb, kG14, kG20⟩⟩
      · go_simp
        refine hK.out _ _ (hb.out.alloc hb.out.size _) (fun _ => ?_)
        clear hK K
        try simp only [Act.put, List.setIfInBounds_toArray, List.set_cons_zero, List.set_cons_succ]
        obtain ⟨hb, hG24, hpG24, hlG24, hold⟩ := alloc_pack hb.out (.cells #[.int .i64 0, .int .i64 0, .int .i64 0, .int .i64 0, .int .i64 0, .int .i64 0, .int .i64 0, .int .i64 0] 38)
        clear hold
        generalize World.alloc wn1 (.cells #[.int .i64 0, .int .i64 0, .int .i64 0, .int .i64 0, .int .i64 0, .int .i64 0, .int .i64 0, .int .i64 0] 38) = wn23 at *
        generalize (wn1).heap.size = G24 at *
        have hb := Lib.hid hb
        have hG24 := Lib.hid hG24
        refine wpAnyH_ready (rs := [5, 6]) (by kernel_rfl) (by simp) ?_
        refine (AllReadyH.cons (o := ({ dst := some 21, op := Go.Op.call { callee := Go.Callee.value (Go.Operand.func 16), args := #[Go.Operand.tmp 19, Go.Operand.tmp 20], argTypes := #[22, 27] }, type := 38, pos := "law.go:81", after := #[{ on := 3, ground := Go.Ground.data }, { on := 4, ground := Go.Ground.data }, { on := 2, ground := Go.Ground.chain }], guard := none } : Oper)) rfl (fun K hK => ?_) (AllReadyH.cons (o := ({ dst := some 7, op := Go.Op.alloc 38, type := 0, pos := "law.go:81", after := #[], guard := none } : Oper)) rfl (fun K hK => ?_) AllReadyH.nil))
        · go_simp
          go_at_call 16
          refine (KB.out _ hb.out).mono ?_
          rintro e' wn25 ⟨rfl, hbc⟩
          have hG24 := Lib.hid ((hbc.block _ (heap_lt hG24.out)).trans hG24.out)
          have hb := Lib.hid (hb.out.trans (hbc.mono hb.out.size))
          clear hbc
          refine hK.out _ _ hb.out (fun _ => ?_)
          clear hK K
          try simp only [Act.put, List.setIfInBounds_toArray, List.set_cons_zero, List.set_cons_succ]
          refine wpAnyH_ready (rs := [6]) (by kernel_rfl) (by simp) ?_
          refine (AllReadyH.cons (o := ({ dst := some 7, op := Go.Op.alloc 38, type := 0, pos := "law.go:81", after := #[], guard := none } : Oper)) rfl (fun K hK => ?_) AllReadyH.nil)
          · go_simp
            refine hK.out _ _ (hb.out.alloc hb.out.size _) (fun _ => ?_)
            clear hK K
            try simp only [Act.put, List.setIfInBounds_toArray, List.set_cons_zero, List.set_cons_succ]
            obtain ⟨hb, hG27, hpG27, hlG27, hold⟩ := alloc_pack hb.out (.cells #[.int .i64 0, .int .i64 0, .int .i64 0, .int .i64 0, .int .i64 0, .int .i64 0, .int .i64 0, .int .i64 0] 38)
            obtain ⟨hG24, hneG24G27⟩ := hold _ _ hG24.out
            have hG24 := Lib.hid hG24
            clear hold
            generalize World.alloc wn25 (.cells #[.int .i64 0, .int .i64 0, .int .i64 0, .int .i64 0, .int .i64 0, .int .i64 0, .int .i64 0, .int .i64 0] 38) = wn26 at *
            generalize (wn25).heap.size = G27 at *
            have hb := Lib.hid hb
            have hG27 := Lib.hid hG27
            refine wpAnyH_ready (rs := [8]) (by kernel_rfl) (by simp) ?_
            refine AllReadyH.cons (o := ({ dst := none, op := Go.Op.store 38 (Go.Operand.tmp 7) (Go.Operand.tmp 18), type := 0, pos := "law.go:81", after := #[{ on := 6, ground := Go.Ground.data }, { on := 2, ground := Go.Ground.data }, { on := 5, ground := Go.Ground.chain }, { on := 0, ground := Go.Ground.phase }, { on := 1, ground := Go.Ground.phase }, { on := 2, ground := Go.Ground.phase }, { on := 3, ground := Go.Ground.textOnly Go.Departure.lateStores }, { on := 4, ground := Go.Ground.textOnly Go.Departure.lateStores }, { on := 5, ground := Go.Ground.textOnly Go.Departure.lateStoresUnsure }, { on := 6, ground := Go.Ground.phase }, { on := 7, ground := Go.Ground.phase }], guard := none } : Oper)) rfl (fun K hK => ?_) AllReadyH.nil
            have hab : G27 ≠ G24 := (fun e => hneG24G27 e.symm)
            refine wp_store_row 38 (.tmp 7) (.tmp 18) rfl G27 (key8 ka) rfl rfl 38 _ hG27.out HKa.out (HKn.out.symm) HKao.out ?_
            have gG27 := setRow_heap _ _ _ (key8 ka) _ _ hG27.out
            have gG24 := (setRow_other wn26 G27 G24 (key8 ka) (fun e => hab e.symm)).trans hG24.out
            have hb := below_setRow hb.out hpG27 (key8 ka)
            refine hK.out _ _ hb (fun _ => ?_)
            clear hK K
            try simp only [Act.put]
            generalize World.setRow wn26 G27 (key8 ka) = wn28 at *
            refine wpAnyH_ready (rs := [9]) (by kernel_rfl) (by simp) ?_
            refine AllReadyH.cons (o := ({ dst := none, op := Go.Op.store 38 (Go.Operand.tmp 8) (Go.Operand.tmp 21), type := 0, pos := "law.go:81", after := #[{ on := 7, ground := Go.Ground.data }, { on := 5, ground := Go.Ground.data }, { on := 8, ground := Go.Ground.chain }, { on := 0, ground := Go.Ground.phase }, { on := 1, ground := Go.Ground.phase }, { on := 2, ground := Go.Ground.phase }, { on := 3, ground := Go.Ground.phase }, { on := 4, ground := Go.Ground.phase }, { on := 5, ground := Go.Ground.phase }, { on := 6, ground := Go.Ground.phase }, { on := 7, ground := Go.Ground.phase }, { on := 8, ground := Go.Ground.phase }], guard := none } : Oper)) rfl (fun K hK => ?_) AllReadyH.nil
            refine wp_store_row 38 (.tmp 8) (.tmp 21) rfl G24 (key8 kb) rfl rfl 38 _ gG24 HKb.out (HKm.out.symm) HKbo.out ?_
            have kG24 := setRow_heap _ _ _ (key8 kb) _ _ gG24
            have kG27 := (setRow_other wn28 G24 G27 (key8 kb) hab).trans gG27
            have hb := below_setRow hb hpG24 (key8 kb)
            refine hK.out _ _ hb (fun _ => ?_)
            clear hK K
            try simp only [Act.put]
            refine wpAnyH_done (by kernel_rfl) ?_ _
            try (go_wp2_with fail)
            go_meet
            case rel => exact ⟨G27, G24, rfl, rfl, Lib.hid ⟨hb, kG27, kG24⟩⟩
        · go_simp
          refine hK.out _ _ (hb.out.alloc hb.out.size _) (fun _ => ?_)
          clear hK K
          try simp only [Act.put, List.setIfInBounds_toArray, List.set_cons_zero, List.set_cons_succ]
          obtain ⟨hb, hG30, hpG30, hlG30, hold⟩ := alloc_pack hb.out (.cells #[.int .i64 0, .int .i64 0, .int .i64 0, .int .i64 0, .int .i64 0, .int .i64 0, .int .i64 0, .int .i64 0] 38)
          obtain ⟨hG24, hneG24G30⟩ := hold _ _ hG24.out
          have hG24 := Lib.hid hG24
          clear hold
          generalize World.alloc wn23 (.cells #[.int .i64 0, .int .i64 0, .int .i64 0, .int .i64 0, .int .i64 0, .int .i64 0, .int .i64 0, .int .i64 0] 38) = wn29 at *
          generalize (wn23).heap.size = G30 at *
          have hb := Lib.hid hb
          have hG30 := Lib.hid hG30
          refine wpAnyH_ready (rs := [5]) (by kernel_rfl) (by simp) ?_
          refine (AllReadyH.cons (o := ({ dst := some 21, op := Go.Op.call { callee := Go.Callee.value (Go.Operand.func 16), args := #[Go.Operand.tmp 19, Go.Operand.tmp 20], argTypes := #[22, 27] }, type := 38, pos := "law.go:81", after := #[{ on := 3, ground := Go.Ground.data }, { on := 4, ground := Go.Ground.data }, { on := 2, ground := Go.Ground.chain }], guard := none } : Oper)) rfl (fun K hK => ?_) AllReadyH.nil)
          · go_simp
            go_at_call 16
            refine (KB.out _ hb.out).mono ?_
            rintro e' wn31 ⟨rfl, hbc⟩
            have hG30 := Lib.hid ((hbc.block _ (heap_lt hG30.out)).trans hG30.out)
            have hG24 := Lib.hid ((hbc.block _ (heap_lt hG24.out)).trans hG24.out)
            have hb := Lib.hid (hb.out.trans (hbc.mono hb.out.size))
            clear hbc
            refine hK.out _ _ hb.out (fun _ => ?_)
            clear hK K
            try simp only [Act.put, List.setIfInBounds_toArray, List.set_cons_zero, List.set_cons_succ]
            refine wpAnyH_ready (rs := [8]) (by kernel_rfl) (by simp) ?_
            refine AllReadyH.cons (o := ({ dst := none, op := Go.Op.store 38 (Go.Operand.tmp 7) (Go.Operand.tmp 18), type := 0, pos := "law.go:81", after := #[{ on := 6, ground := Go.Ground.data }, { on := 2, ground := Go.Ground.data }, { on := 5, ground := Go.Ground.chain }, { on := 0, ground := Go.Ground.phase }, { on := 1, ground := Go.Ground.phase }, { on := 2, ground := Go.Ground.phase }, { on := 3, ground := Go.Ground.textOnly Go.Departure.lateStores }, { on := 4, ground := Go.Ground.textOnly Go.Departure.lateStores }, { on := 5, ground := Go.Ground.textOnly Go.Departure.lateStoresUnsure }, { on := 6, ground := Go.Ground.phase }, { on := 7, ground := Go.Ground.phase }], guard := none } : Oper)) rfl (fun K hK => ?_) AllReadyH.nil
            have hab : G30 ≠ G24 := (fun e => hneG24G30 e.symm)
            refine wp_store_row 38 (.tmp 7) (.tmp 18) rfl G30 (key8 ka) rfl rfl 38 _ hG30.out HKa.out (HKn.out.symm) HKao.out ?_
            have gG30 := setRow_heap _ _ _ (key8 ka) _ _ hG30.out
            have gG24 := (setRow_other wn31 G30 G24 (key8 ka) (fun e => hab e.symm)).trans hG24.out
            have hb := below_setRow hb.out hpG30 (key8 ka)
            refine hK.out _ _ hb (fun _ => ?_)
            clear hK K
            try simp only [Act.put]
            generalize World.setRow wn31 G30 (key8 ka) = wn32 at *
            refine wpAnyH_ready (rs := [9]) (by kernel_rfl) (by simp) ?_
            refine AllReadyH.cons (o := ({ dst := none, op := Go.Op.store 38 (Go.Operand.tmp 8) (Go.Operand.tmp 21), type := 0, pos := "law.go:81", after := #[{ on := 7, ground := Go.Ground.data }, { on := 5, ground := Go.Ground.data }, { on := 8, ground := Go.Ground.chain }, { on := 0, ground := Go.Ground.phase }, { on := 1, ground := Go.Ground.phase }, { on := 2, ground := Go.Ground.phase }, { on := 3, ground := Go.Ground.phase }, { on := 4, ground := Go.Ground.phase }, { on := 5, ground := Go.Ground.phase }, { on := 6, ground := Go.Ground.phase }, { on := 7, ground := Go.Ground.phase }, { on := 8, ground := Go.Ground.phase }], guard := none } : Oper)) rfl (fun K hK => ?_) AllReadyH.nil
            refine wp_store_row 38 (.tmp 8) (.tmp 21) rfl G24 (key8 kb) rfl rfl 38 _ gG24 HKb.out (HKm.out.symm) HKbo.out ?_
            have kG24 := setRow_heap _ _ _ (key8 kb) _ _ gG24
            have kG30 := (setRow_other wn32 G24 G30 (key8 kb) hab).trans gG30
            have hb := below_setRow hb hpG24 (key8 kb)
            refine hK.out _ _ hb (fun _ => ?_)
            clear hK K
            try simp only [Act.put]
            refine wpAnyH_done (by kernel_rfl) ?_ _
            try (go_wp2_with fail)
            go_meet
            case rel => exact ⟨G30, G24, rfl, rfl, Lib.hid ⟨hb, kG30, kG24⟩⟩
    · go_simp
      refine hK.out _ _ (hb.out.alloc hb.out.size _) (fun _ => ?_)
      clear hK K
      try simp only [Act.put, List.setIfInBounds_toArray, List.set_cons_zero, List.set_cons_succ]
      obtain ⟨hb, hG34, hpG34, hlG34, hold⟩ := alloc_pack hb.out (.cells #[.int .i64 0, .int .i64 0, .int .i64 0, .int .i64 0, .int .i64 0, .int .i64 0, .int .i64 0, .int .i64 0] 38)
      clear hold
      generalize World.alloc wn0 (.cells #[.int .i64 0, .int .i64 0, .int .i64 0, .int .i64 0, .int .i64 0, .int .i64 0, .int .i64 0, .int .i64 0] 38) = wn33 at *
      generalize (wn0).heap.size = G34 at *
      have hb := Lib.hid hb
      have hG34 := Lib.hid hG34
      refine wpAnyH_ready (rs := [2, 7]) (by kernel_rfl) (by simp) ?_
      refine (AllReadyH.cons (o := ({ dst := some 18, op := Go.Op.call { callee := Go.Callee.value (Go.Operand.func 16), args := #[Go.Operand.tmp 16, Go.Operand.tmp 17], argTypes := #[22, 27] }, type := 38, pos := "law.go:81", after := #[{ on := 0, ground := Go.Ground.data }, { on := 1, ground := Go.Ground.data }], guard := none } : Oper)) rfl (fun K hK => ?_) (AllReadyH.cons (o := ({ dst := some 8, op := Go.Op.alloc 38, type := 0, pos := "law.go:81", after := #[], guard := none } : Oper)) rfl (fun K hK => ?_) AllReadyH.nil))
      · go_simp
        go_at_call 16
        refine (KA.out _ hb.out).mono ?_
        rintro e' wn35 ⟨rfl, hbc⟩
        have hG34 := Lib.hid ((hbc.block _ (heap_lt hG34.out)).trans hG34.out)
        have hb := Lib.hid (hb.out.trans (hbc.mono hb.out.size))
        clear hbc
        refine hK.out _ _ hb.out (fun _ => ?_)
        clear hK K
        try simp only [Act.put, List.setIfInBounds_toArray, List.set_cons_zero, List.set_cons_succ]
        refine wpAnyH_ready (rs := [5, 7]) (by kernel_rfl) (by simp) ?_
        refine (AllReadyH.cons (o := ({ dst := some 21, op := Go.Op.call { callee := Go.Callee.value (Go.Operand.func 16), args := #[Go.Operand.tmp 19, Go.Operand.tmp 20], argTypes := #[22, 27] }, type := 38, pos := "law.go:81", after := #[{ on := 3, ground := Go.Ground.data }, { on := 4, ground := Go.Ground.data }, { on := 2, ground := Go.Ground.chain }], guard := none } : Oper)) rfl (fun K hK => ?_) (AllReadyH.cons (o := ({ dst := some 8, op := Go.Op.alloc 38, type := 0, pos := "law.go:81", after := #[], guard := none } : Oper)) rfl (fun K hK => ?_) AllReadyH.nil))
        · go_simp
          go_at_call 16
          refine (KB.out _ hb.out).mono ?_
          rintro e' wn36 ⟨rfl, hbc⟩
          have hG34 := Lib.hid ((hbc.block _ (heap_lt hG34.out)).trans hG34.out)
          have hb := Lib.hid (hb.out.trans (hbc.mono hb.out.size))
          clear hbc
          refine hK.out _ _ hb.out (fun _ => ?_)
          clear hK K
          try simp only [Act.put, List.setIfInBounds_toArray, List.set_cons_zero, List.set_cons_succ]
          refine wpAnyH_ready (rs := [7]) (by kernel_rfl) (by simp) ?_
          refine (AllReadyH.cons (o := ({ dst := some 8, op := Go.Op.alloc 38, type := 0, pos := "law.go:81", after := #[], guard := none } : Oper)) rfl (fun K hK => ?_) AllReadyH.nil)
          · go_simp
            refine hK.out _ _ (hb.out.alloc hb.out.size _) (fun _ => ?_)
            clear hK K
            try simp only [Act.put, List.setIfInBounds_toArray, List.set_cons_zero, List.set_cons_succ]
            obtain ⟨hb, hG38, hpG38, hlG38, hold⟩ := alloc_pack hb.out (.cells #[.int .i64 0, .int .i64 0, .int .i64 0, .int .i64 0, .int .i64 0, .int .i64 0, .int .i64 0, .int .i64 0] 38)
            obtain ⟨hG34, hneG34G38⟩ := hold _ _ hG34.out
            have hG34 := Lib.hid hG34
            clear hold
            generalize World.alloc wn36 (.cells #[.int .i64 0, .int .i64 0, .int .i64 0, .int .i64 0, .int .i64 0, .int .i64 0, .int .i64 0, .int .i64 0] 38) = wn37 at *
            generalize (wn36).heap.size = G38 at *
            have hb := Lib.hid hb
            have hG38 := Lib.hid hG38
            refine wpAnyH_ready (rs := [8]) (by kernel_rfl) (by simp) ?_
            refine AllReadyH.cons (o := ({ dst := none, op := Go.Op.store 38 (Go.Operand.tmp 7) (Go.Operand.tmp 18), type := 0, pos := "law.go:81", after := #[{ on := 6, ground := Go.Ground.data }, { on := 2, ground := Go.Ground.data }, { on := 5, ground := Go.Ground.chain }, { on := 0, ground := Go.Ground.phase }, { on := 1, ground := Go.Ground.phase }, { on := 2, ground := Go.Ground.phase }, { on := 3, ground := Go.Ground.textOnly Go.Departure.lateStores }, { on := 4, ground := Go.Ground.textOnly Go.Departure.lateStores }, { on := 5, ground := Go.Ground.textOnly Go.Departure.lateStoresUnsure }, { on := 6, ground := Go.Ground.phase }, { on := 7, ground := Go.Ground.phase }], guard := none } : Oper)) rfl (fun K hK => ?_) AllReadyH.nil
            have hab : G34 ≠ G38 := (fun e => hneG34G38 e)
            refine wp_store_row 38 (.tmp 7) (.tmp 18) rfl G34 (key8 ka) rfl rfl 38 _ hG34.out HKa.out (HKn.out.symm) HKao.out ?_
            have gG34 := setRow_heap _ _ _ (key8 ka) _ _ hG34.out
            have gG38 := (setRow_other wn37 G34 G38 (key8 ka) (fun e => hab e.symm)).trans hG38.out
            have hb := below_setRow hb.out hpG34 (key8 ka)
            refine hK.out _ _ hb (fun _ => ?_)
            clear hK K
            try simp only [Act.put]
            generalize World.setRow wn37 G34 (key8 ka) = wn39 at *
            refine wpAnyH_ready (rs := [9]) (by kernel_rfl) (by simp) ?_
            refine AllReadyH.cons (o := ({ dst := none, op := Go.Op.store 38 (Go.Operand.tmp 8) (Go.Operand.tmp 21), type := 0, pos := "law.go:81", after := #[{ on := 7, ground := Go.Ground.data }, { on := 5, ground := Go.Ground.data }, { on := 8, ground := Go.Ground.chain }, { on := 0, ground := Go.Ground.phase }, { on := 1, ground := Go.Ground.phase }, { on := 2, ground := Go.Ground.phase }, { on := 3, ground := Go.Ground.phase }, { on := 4, ground := Go.Ground.phase }, { on := 5, ground := Go.Ground.phase }, { on := 6, ground := Go.Ground.phase }, { on := 7, ground := Go.Ground.phase }, { on := 8, ground := Go.Ground.phase }], guard := none } : Oper)) rfl (fun K hK => ?_) AllReadyH.nil
            refine wp_store_row 38 (.tmp 8) (.tmp 21) rfl G38 (key8 kb) rfl rfl 38 _ gG38 HKb.out (HKm.out.symm) HKbo.out ?_
            have kG38 := setRow_heap _ _ _ (key8 kb) _ _ gG38
            have kG34 := (setRow_other wn39 G38 G34 (key8 kb) hab).trans gG34
            have hb := below_setRow hb hpG38 (key8 kb)
            refine hK.out _ _ hb (fun _ => ?_)
            clear hK K
            try simp only [Act.put]
            refine wpAnyH_done (by kernel_rfl) ?_ _
            try (go_wp2_with fail)
            go_meet
            case rel => exact ⟨G34, G38, rfl, rfl, Lib.hid ⟨hb, kG34, kG38⟩⟩
        · go_simp
          refine hK.out _ _ (hb.out.alloc hb.out.size _) (fun _ => ?_)
          clear hK K
          try simp only [Act.put, List.setIfInBounds_toArray, List.set_cons_zero, List.set_cons_succ]
          obtain ⟨hb, hG41, hpG41, hlG41, hold⟩ := alloc_pack hb.out (.cells #[.int .i64 0, .int .i64 0, .int .i64 0, .int .i64 0, .int .i64 0, .int .i64 0, .int .i64 0, .int .i64 0] 38)
          obtain ⟨hG34, hneG34G41⟩ := hold _ _ hG34.out
          have hG34 := Lib.hid hG34
          clear hold
          generalize World.alloc wn35 (.cells #[.int .i64 0, .int .i64 0, .int .i64 0, .int .i64 0, .int .i64 0, .int .i64 0, .int .i64 0, .int .i64 0] 38) = wn40 at *
          generalize (wn35).heap.size = G41 at *
          have hb := Lib.hid hb
          have hG41 := Lib.hid hG41
          refine wpAnyH_ready (rs := [5]) (by kernel_rfl) (by simp) ?_
          refine (AllReadyH.cons (o := ({ dst := some 21, op := Go.Op.call { callee := Go.Callee.value (Go.Operand.func 16), args := #[Go.Operand.tmp 19, Go.Operand.tmp 20], argTypes := #[22, 27] }, type := 38, pos := "law.go:81", after := #[{ on := 3, ground := Go.Ground.data }, { on := 4, ground := Go.Ground.data }, { on := 2, ground := Go.Ground.chain }], guard := none } : Oper)) rfl (fun K hK => ?_) AllReadyH.nil)
          · go_simp
            go_at_call 16
            refine (KB.out _ hb.out).mono ?_
            rintro e' wn42 ⟨rfl, hbc⟩
            have hG34 := Lib.hid ((hbc.block _ (heap_lt hG34.out)).trans hG34.out)
            have hG41 := Lib.hid ((hbc.block _ (heap_lt hG41.out)).trans hG41.out)
            have hb := Lib.hid (hb.out.trans (hbc.mono hb.out.size))
            clear hbc
            refine hK.out _ _ hb.out (fun _ => ?_)
            clear hK K
            try simp only [Act.put, List.setIfInBounds_toArray, List.set_cons_zero, List.set_cons_succ]
            refine wpAnyH_ready (rs := [8]) (by kernel_rfl) (by simp) ?_
            refine AllReadyH.cons (o := ({ dst := none, op := Go.Op.store 38 (Go.Operand.tmp 7) (Go.Operand.tmp 18), type := 0, pos := "law.go:81", after := #[{ on := 6, ground := Go.Ground.data }, { on := 2, ground := Go.Ground.data }, { on := 5, ground := Go.Ground.chain }, { on := 0, ground := Go.Ground.phase }, { on := 1, ground := Go.Ground.phase }, { on := 2, ground := Go.Ground.phase }, { on := 3, ground := Go.Ground.textOnly Go.Departure.lateStores }, { on := 4, ground := Go.Ground.textOnly Go.Departure.lateStores }, { on := 5, ground := Go.Ground.textOnly Go.Departure.lateStoresUnsure }, { on := 6, ground := Go.Ground.phase }, { on := 7, ground := Go.Ground.phase }], guard := none } : Oper)) rfl (fun K hK => ?_) AllReadyH.nil
            have hab : G34 ≠ G41 := (fun e => hneG34G41 e)
            refine wp_store_row 38 (.tmp 7) (.tmp 18) rfl G34 (key8 ka) rfl rfl 38 _ hG34.out HKa.out (HKn.out.symm) HKao.out ?_
            have gG34 := setRow_heap _ _ _ (key8 ka) _ _ hG34.out
            have gG41 := (setRow_other wn42 G34 G41 (key8 ka) (fun e => hab e.symm)).trans hG41.out
            have hb := below_setRow hb.out hpG34 (key8 ka)
            refine hK.out _ _ hb (fun _ => ?_)
            clear hK K
            try simp only [Act.put]
            generalize World.setRow wn42 G34 (key8 ka) = wn43 at *
            refine wpAnyH_ready (rs := [9]) (by kernel_rfl) (by simp) ?_
            refine AllReadyH.cons (o := ({ dst := none, op := Go.Op.store 38 (Go.Operand.tmp 8) (Go.Operand.tmp 21), type := 0, pos := "law.go:81", after := #[{ on := 7, ground := Go.Ground.data }, { on := 5, ground := Go.Ground.data }, { on := 8, ground := Go.Ground.chain }, { on := 0, ground := Go.Ground.phase }, { on := 1, ground := Go.Ground.phase }, { on := 2, ground := Go.Ground.phase }, { on := 3, ground := Go.Ground.phase }, { on := 4, ground := Go.Ground.phase }, { on := 5, ground := Go.Ground.phase }, { on := 6, ground := Go.Ground.phase }, { on := 7, ground := Go.Ground.phase }, { on := 8, ground := Go.Ground.phase }], guard := none } : Oper)) rfl (fun K hK => ?_) AllReadyH.nil
            refine wp_store_row 38 (.tmp 8) (.tmp 21) rfl G41 (key8 kb) rfl rfl 38 _ gG41 HKb.out (HKm.out.symm) HKbo.out ?_
            have kG41 := setRow_heap _ _ _ (key8 kb) _ _ gG41
            have kG34 := (setRow_other wn43 G41 G34 (key8 kb) hab).trans gG34
            have hb := below_setRow hb hpG41 (key8 kb)
            refine hK.out _ _ hb (fun _ => ?_)
            clear hK K
            try simp only [Act.put]
            refine wpAnyH_done (by kernel_rfl) ?_ _
            try (go_wp2_with fail)
            go_meet
            case rel => exact ⟨G34, G41, rfl, rfl, Lib.hid ⟨hb, kG34, kG41⟩⟩
      · go_simp
        refine hK.out _ _ (hb.out.alloc hb.out.size _) (fun _ => ?_)
        clear hK K
        try simp only [Act.put, List.setIfInBounds_toArray, List.set_cons_zero, List.set_cons_succ]
        obtain ⟨hb, hG45, hpG45, hlG45, hold⟩ := alloc_pack hb.out (.cells #[.int .i64 0, .int .i64 0, .int .i64 0, .int .i64 0, .int .i64 0, .int .i64 0, .int .i64 0, .int .i64 0] 38)
        obtain ⟨hG34, hneG34G45⟩ := hold _ _ hG34.out
        have hG34 := Lib.hid hG34
        clear hold
        generalize World.alloc wn33 (.cells #[.int .i64 0, .int .i64 0, .int .i64 0, .int .i64 0, .int .i64 0, .int .i64 0, .int .i64 0, .int .i64 0] 38) = wn44 at *
        generalize (wn33).heap.size = G45 at *
        have hb := Lib.hid hb
        have hG45 := Lib.hid hG45
        refine wpAnyH_ready (rs := [2]) (by kernel_rfl) (by simp) ?_
        refine (AllReadyH.cons (o := ({ dst := some 18, op := Go.Op.call { callee := Go.Callee.value (Go.Operand.func 16), args := #[Go.Operand.tmp 16, Go.Operand.tmp 17], argTypes := #[22, 27] }, type := 38, pos := "law.go:81", after := #[{ on := 0, ground := Go.Ground.data }, { on := 1, ground := Go.Ground.data }], guard := none } : Oper)) rfl (fun K hK => ?_) AllReadyH.nil)
        · go_simp
          go_at_call 16
          refine (KA.out _ hb.out).mono ?_
          rintro e' wn46 ⟨rfl, hbc⟩
          have hG34 := Lib.hid ((hbc.block _ (heap_lt hG34.out)).trans hG34.out)
          have hG45 := Lib.hid ((hbc.block _ (heap_lt hG45.out)).trans hG45.out)
          have hb := Lib.hid (hb.out.trans (hbc.mono hb.out.size))
          clear hbc
          refine hK.out _ _ hb.out (fun _ => ?_)
          clear hK K
          try simp only [Act.put, List.setIfInBounds_toArray, List.set_cons_zero, List.set_cons_succ]
          refine wpAnyH_ready (rs := [5]) (by kernel_rfl) (by simp) ?_
          refine (AllReadyH.cons (o := ({ dst := some 21, op := Go.Op.call { callee := Go.Callee.value (Go.Operand.func 16), args := #[Go.Operand.tmp 19, Go.Operand.tmp 20], argTypes := #[22, 27] }, type := 38, pos := "law.go:81", after := #[{ on := 3, ground := Go.Ground.data }, { on := 4, ground := Go.Ground.data }, { on := 2, ground := Go.Ground.chain }], guard := none } : Oper)) rfl (fun K hK => ?_) AllReadyH.nil)
          · go_simp
            go_at_call 16
            refine (KB.out _ hb.out).mono ?_
            rintro e' wn47 ⟨rfl, hbc⟩
            have hG34 := Lib.hid ((hbc.block _ (heap_lt hG34.out)).trans hG34.out)
            have hG45 := Lib.hid ((hbc.block _ (heap_lt hG45.out)).trans hG45.out)
            have hb := Lib.hid (hb.out.trans (hbc.mono hb.out.size))
            clear hbc
            refine hK.out _ _ hb.out (fun _ => ?_)
            clear hK K
            try simp only [Act.put, List.setIfInBounds_toArray, List.set_cons_zero, List.set_cons_succ]
            refine wpAnyH_ready (rs := [8]) (by kernel_rfl) (by simp) ?_
            refine AllReadyH.cons (o := ({ dst := none, op := Go.Op.store 38 (Go.Operand.tmp 7) (Go.Operand.tmp 18), type := 0, pos := "law.go:81", after := #[{ on := 6, ground := Go.Ground.data }, { on := 2, ground := Go.Ground.data }, { on := 5, ground := Go.Ground.chain }, { on := 0, ground := Go.Ground.phase }, { on := 1, ground := Go.Ground.phase }, { on := 2, ground := Go.Ground.phase }, { on := 3, ground := Go.Ground.textOnly Go.Departure.lateStores }, { on := 4, ground := Go.Ground.textOnly Go.Departure.lateStores }, { on := 5, ground := Go.Ground.textOnly Go.Departure.lateStoresUnsure }, { on := 6, ground := Go.Ground.phase }, { on := 7, ground := Go.Ground.phase }], guard := none } : Oper)) rfl (fun K hK => ?_) AllReadyH.nil
            have hab : G34 ≠ G45 := (fun e => hneG34G45 e)
            refine wp_store_row 38 (.tmp 7) (.tmp 18) rfl G34 (key8 ka) rfl rfl 38 _ hG34.out HKa.out (HKn.out.symm) HKao.out ?_
            have gG34 := setRow_heap _ _ _ (key8 ka) _ _ hG34.out
            have gG45 := (setRow_other wn47 G34 G45 (key8 ka) (fun e => hab e.symm)).trans hG45.out
            have hb := below_setRow hb.out hpG34 (key8 ka)
            refine hK.out _ _ hb (fun _ => ?_)
            clear hK K
            try simp only [Act.put]
            generalize World.setRow wn47 G34 (key8 ka) = wn48 at *
            refine wpAnyH_ready (rs := [9]) (by kernel_rfl) (by simp) ?_
            refine AllReadyH.cons (o := ({ dst := none, op := Go.Op.store 38 (Go.Operand.tmp 8) (Go.Operand.tmp 21), type := 0, pos := "law.go:81", after := #[{ on := 7, ground := Go.Ground.data }, { on := 5, ground := Go.Ground.data }, { on := 8, ground := Go.Ground.chain }, { on := 0, ground := Go.Ground.phase }, { on := 1, ground := Go.Ground.phase }, { on := 2, ground := Go.Ground.phase }, { on := 3, ground := Go.Ground.phase }, { on := 4, ground := Go.Ground.phase }, { on := 5, ground := Go.Ground.phase }, { on := 6, ground := Go.Ground.phase }, { on := 7, ground := Go.Ground.phase }, { on := 8, ground := Go.Ground.phase }], guard := none } : Oper)) rfl (fun K hK => ?_) AllReadyH.nil
            refine wp_store_row 38 (.tmp 8) (.tmp 21) rfl G45 (key8 kb) rfl rfl 38 _ gG45 HKb.out (HKm.out.symm) HKbo.out ?_
            have kG45 := setRow_heap _ _ _ (key8 kb) _ _ gG45
            have kG34 := (setRow_other wn48 G45 G34 (key8 kb) hab).trans gG34
            have hb := below_setRow hb hpG45 (key8 kb)
            refine hK.out _ _ hb (fun _ => ?_)
            clear hK K
            try simp only [Act.put]
            refine wpAnyH_done (by kernel_rfl) ?_ _
            try (go_wp2_with fail)
            go_meet
            case rel => exact ⟨G34, G45, rfl, rfl, Lib.hid ⟨hb, kG34, kG45⟩⟩
    · go_simp
      refine hK.out _ _ (hb.out.alloc hb.out.size _) (fun _ => ?_)
      clear hK K
      try simp only [Act.put, List.setIfInBounds_toArray, List.set_cons_zero, List.set_cons_succ]
      obtain ⟨hb, hG50, hpG50, hlG50, hold⟩ := alloc_pack hb.out (.cells #[.int .i64 0, .int .i64 0, .int .i64 0, .int .i64 0, .int .i64 0, .int .i64 0, .int .i64 0, .int .i64 0] 38)
      clear hold
      generalize World.alloc wn0 (.cells #[.int .i64 0, .int .i64 0, .int .i64 0, .int .i64 0, .int .i64 0, .int .i64 0, .int .i64 0, .int .i64 0] 38) = wn49 at *
      generalize (wn0).heap.size = G50 at *
      have hb := Lib.hid hb
      have hG50 := Lib.hid hG50
      refine wpAnyH_ready (rs := [2, 6]) (by kernel_rfl) (by simp) ?_
      refine (AllReadyH.cons (o := ({ dst := some 18, op := Go.Op.call { callee := Go.Callee.value (Go.Operand.func 16), args := #[Go.Operand.tmp 16, Go.Operand.tmp 17], argTypes := #[22, 27] }, type := 38, pos := "law.go:81", after := #[{ on := 0, ground := Go.Ground.data }, { on := 1, ground := Go.Ground.data }], guard := none } : Oper)) rfl (fun K hK => ?_) (AllReadyH.cons (o := ({ dst := some 7, op := Go.Op.alloc 38, type := 0, pos := "law.go:81", after := #[], guard := none } : Oper)) rfl (fun K hK => ?_) AllReadyH.nil))
      · go_simp
        go_at_call 16
        refine (KA.out _ hb.out).mono ?_
        rintro e' wn51 ⟨rfl, hbc⟩
        have hG50 := Lib.hid ((hbc.block _ (heap_lt hG50.out)).trans hG50.out)
        have hb := Lib.hid (hb.out.trans (hbc.mono hb.out.size))
        clear hbc
        refine hK.out _ _ hb.out (fun _ => ?_)
        clear hK K
        try simp only [Act.put, List.setIfInBounds_toArray, List.set_cons_zero, List.set_cons_succ]
        refine wpAnyH_ready (rs := [5, 6]) (by kernel_rfl) (by simp) ?_
        refine (AllReadyH.cons (o := ({ dst := some 21, op := Go.Op.call { callee := Go.Callee.value (Go.Operand.func 16), args := #[Go.Operand.tmp 19, Go.Operand.tmp 20], argTypes := #[22, 27] }, type := 38, pos := "law.go:81", after := #[{ on := 3, ground := Go.Ground.data }, { on := 4, ground := Go.Ground.data }, { on := 2, ground := Go.Ground.chain }], guard := none } : Oper)) rfl (fun K hK => ?_) (AllReadyH.cons (o := ({ dst := some 7, op := Go.Op.alloc 38, type := 0, pos := "law.go:81", after := #[], guard := none } : Oper)) rfl (fun K hK => ?_) AllReadyH.nil))
        · go_simp
          go_at_call 16
          refine (KB.out _ hb.out).mono ?_
          rintro e' wn52 ⟨rfl, hbc⟩
          have hG50 := Lib.hid ((hbc.block _ (heap_lt hG50.out)).trans hG50.out)
          have hb := Lib.hid (hb.out.trans (hbc.mono hb.out.size))
          clear hbc
          refine hK.out _ _ hb.out (fun _ => ?_)
          clear hK K
          try simp only [Act.put, List.setIfInBounds_toArray, List.set_cons_zero, List.set_cons_succ]
          refine wpAnyH_ready (rs := [6]) (by kernel_rfl) (by simp) ?_
          refine (AllReadyH.cons (o := ({ dst := some 7, op := Go.Op.alloc 38, type := 0, pos := "law.go:81", after := #[], guard := none } : Oper)) rfl (fun K hK => ?_) AllReadyH.nil)
          · go_simp
            refine hK.out _ _ (hb.out.alloc hb.out.size _) (fun _ => ?_)
            clear hK K
            try simp only [Act.put, List.setIfInBounds_toArray, List.set_cons_zero, List.set_cons_succ]
            obtain ⟨hb, hG54, hpG54, hlG54, hold⟩ := alloc_pack hb.out (.cells #[.int .i64 0, .int .i64 0, .int .i64 0, .int .i64 0, .int .i64 0, .int .i64 0, .int .i64 0, .int .i64 0] 38)
            obtain ⟨hG50, hneG50G54⟩ := hold _ _ hG50.out
            have hG50 := Lib.hid hG50
            clear hold
            generalize World.alloc wn52 (.cells #[.int .i64 0, .int .i64 0, .int .i64 0, .int .i64 0, .int .i64 0, .int .i64 0, .int .i64 0, .int .i64 0] 38) = wn53 at *
            generalize (wn52).heap.size = G54 at *
            have hb := Lib.hid hb
            have hG54 := Lib.hid hG54
            refine wpAnyH_ready (rs := [8]) (by kernel_rfl) (by simp) ?_
            refine AllReadyH.cons (o := ({ dst := none, op := Go.Op.store 38 (Go.Operand.tmp 7) (Go.Operand.tmp 18), type := 0, pos := "law.go:81", after := #[{ on := 6, ground := Go.Ground.data }, { on := 2, ground := Go.Ground.data }, { on := 5, ground := Go.Ground.chain }, { on := 0, ground := Go.Ground.phase }, { on := 1, ground := Go.Ground.phase }, { on := 2, ground := Go.Ground.phase }, { on := 3, ground := Go.Ground.textOnly Go.Departure.lateStores }, { on := 4, ground := Go.Ground.textOnly Go.Departure.lateStores }, { on := 5, ground := Go.Ground.textOnly Go.Departure.lateStoresUnsure }, { on := 6, ground := Go.Ground.phase }, { on := 7, ground := Go.Ground.phase }], guard := none } : Oper)) rfl (fun K hK => ?_) AllReadyH.nil
            have hab : G54 ≠ G50 := (fun e => hneG50G54 e.symm)
            refine wp_store_row 38 (.tmp 7) (.tmp 18) rfl G54 (key8 ka) rfl rfl 38 _ hG54.out HKa.out (HKn.out.symm) HKao.out ?_
            have gG54 := setRow_heap _ _ _ (key8 ka) _ _ hG54.out
            have gG50 := (setRow_other wn53 G54 G50 (key8 ka) (fun e => hab e.symm)).trans hG50.out
            have hb := below_setRow hb.out hpG54 (key8 ka)
            refine hK.out _ _ hb (fun _ => ?_)
            clear hK K
            try simp only [Act.put]
            generalize World.setRow wn53 G54 (key8 ka) = wn55 at *
            refine wpAnyH_ready (rs := [9]) (by kernel_rfl) (by simp) ?_
            refine AllReadyH.cons (o := ({ dst := none, op := Go.Op.store 38 (Go.Operand.tmp 8) (Go.Operand.tmp 21), type := 0, pos := "law.go:81", after := #[{ on := 7, ground := Go.Ground.data }, { on := 5, ground := Go.Ground.data }, { on := 8, ground := Go.Ground.chain }, { on := 0, ground := Go.Ground.phase }, { on := 1, ground := Go.Ground.phase }, { on := 2, ground := Go.Ground.phase }, { on := 3, ground := Go.Ground.phase }, { on := 4, ground := Go.Ground.phase }, { on := 5, ground := Go.Ground.phase }, { on := 6, ground := Go.Ground.phase }, { on := 7, ground := Go.Ground.phase }, { on := 8, ground := Go.Ground.phase }], guard := none } : Oper)) rfl (fun K hK => ?_) AllReadyH.nil
            refine wp_store_row 38 (.tmp 8) (.tmp 21) rfl G50 (key8 kb) rfl rfl 38 _ gG50 HKb.out (HKm.out.symm) HKbo.out ?_
            have kG50 := setRow_heap _ _ _ (key8 kb) _ _ gG50
            have kG54 := (setRow_other wn55 G50 G54 (key8 kb) hab).trans gG54
            have hb := below_setRow hb hpG50 (key8 kb)
            refine hK.out _ _ hb (fun _ => ?_)
            clear hK K
            try simp only [Act.put]
            refine wpAnyH_done (by kernel_rfl) ?_ _
            try (go_wp2_with fail)
            go_meet
            case rel => exact ⟨G54, G50, rfl, rfl, Lib.hid ⟨hb, kG54, kG50⟩⟩
        · go_simp
          refine hK.out _ _ (hb.out.alloc hb.out.size _) (fun _ => ?_)
          clear hK K
          try simp only [Act.put, List.setIfInBounds_toArray, List.set_cons_zero, List.set_cons_succ]
          obtain ⟨hb, hG57, hpG57, hlG57, hold⟩ := alloc_pack hb.out (.cells #[.int .i64 0, .int .i64 0, .int .i64 0, .int .i64 0, .int .i64 0, .int .i64 0, .int .i64 0, .int .i64 0] 38)
          obtain ⟨hG50, hneG50G57⟩ := hold _ _ hG50.out
          have hG50 := Lib.hid hG50
          clear hold
          generalize World.alloc wn51 (.cells #[.int .i64 0, .int .i64 0, .int .i64 0, .int .i64 0, .int .i64 0, .int .i64 0, .int .i64 0, .int .i64 0] 38) = wn56 at *
          generalize (wn51).heap.size = G57 at *
          have hb := Lib.hid hb
          have hG57 := Lib.hid hG57
          refine wpAnyH_ready (rs := [5]) (by kernel_rfl) (by simp) ?_
          refine (AllReadyH.cons (o := ({ dst := some 21, op := Go.Op.call { callee := Go.Callee.value (Go.Operand.func 16), args := #[Go.Operand.tmp 19, Go.Operand.tmp 20], argTypes := #[22, 27] }, type := 38, pos := "law.go:81", after := #[{ on := 3, ground := Go.Ground.data }, { on := 4, ground := Go.Ground.data }, { on := 2, ground := Go.Ground.chain }], guard := none } : Oper)) rfl (fun K hK => ?_) AllReadyH.nil)
          · go_simp
            go_at_call 16
            refine (KB.out _ hb.out).mono ?_
            rintro e' wn58 ⟨rfl, hbc⟩
            have hG57 := Lib.hid ((hbc.block _ (heap_lt hG57.out)).trans hG57.out)
            have hG50 := Lib.hid ((hbc.block _ (heap_lt hG50.out)).trans hG50.out)
            have hb := Lib.hid (hb.out.trans (hbc.mono hb.out.size))
            clear hbc
            refine hK.out _ _ hb.out (fun _ => ?_)
            clear hK K
            try simp only [Act.put, List.setIfInBounds_toArray, List.set_cons_zero, List.set_cons_succ]
            refine wpAnyH_ready (rs := [8]) (by kernel_rfl) (by simp) ?_
            refine AllReadyH.cons (o := ({ dst := none, op := Go.Op.store 38 (Go.Operand.tmp 7) (Go.Operand.tmp 18), type := 0, pos := "law.go:81", after := #[{ on := 6, ground := Go.Ground.data }, { on := 2, ground := Go.Ground.data }, { on := 5, ground := Go.Ground.chain }, { on := 0, ground := Go.Ground.phase }, { on := 1, ground := Go.Ground.phase }, { on := 2, ground := Go.Ground.phase }, { on := 3, ground := Go.Ground.textOnly Go.Departure.lateStores }, { on := 4, ground := Go.Ground.textOnly Go.Departure.lateStores }, { on := 5, ground := Go.Ground.textOnly Go.Departure.lateStoresUnsure }, { on := 6, ground := Go.Ground.phase }, { on := 7, ground := Go.Ground.phase }], guard := none } : Oper)) rfl (fun K hK => ?_) AllReadyH.nil
            have hab : G57 ≠ G50 := (fun e => hneG50G57 e.symm)
            refine wp_store_row 38 (.tmp 7) (.tmp 18) rfl G57 (key8 ka) rfl rfl 38 _ hG57.out HKa.out (HKn.out.symm) HKao.out ?_
            have gG57 := setRow_heap _ _ _ (key8 ka) _ _ hG57.out
            have gG50 := (setRow_other wn58 G57 G50 (key8 ka) (fun e => hab e.symm)).trans hG50.out
            have hb := below_setRow hb.out hpG57 (key8 ka)
            refine hK.out _ _ hb (fun _ => ?_)
            clear hK K
            try simp only [Act.put]
            generalize World.setRow wn58 G57 (key8 ka) = wn59 at *
            refine wpAnyH_ready (rs := [9]) (by kernel_rfl) (by simp) ?_
            refine AllReadyH.cons (o := ({ dst := none, op := Go.Op.store 38 (Go.Operand.tmp 8) (Go.Operand.tmp 21), type := 0, pos := "law.go:81", after := #[{ on := 7, ground := Go.Ground.data }, { on := 5, ground := Go.Ground.data }, { on := 8, ground := Go.Ground.chain }, { on := 0, ground := Go.Ground.phase }, { on := 1, ground := Go.Ground.phase }, { on := 2, ground := Go.Ground.phase }, { on := 3, ground := Go.Ground.phase }, { on := 4, ground := Go.Ground.phase }, { on := 5, ground := Go.Ground.phase }, { on := 6, ground := Go.Ground.phase }, { on := 7, ground := Go.Ground.phase }, { on := 8, ground := Go.Ground.phase }], guard := none } : Oper)) rfl (fun K hK => ?_) AllReadyH.nil
            refine wp_store_row 38 (.tmp 8) (.tmp 21) rfl G50 (key8 kb) rfl rfl 38 _ gG50 HKb.out (HKm.out.symm) HKbo.out ?_
            have kG50 := setRow_heap _ _ _ (key8 kb) _ _ gG50
            have kG57 := (setRow_other wn59 G50 G57 (key8 kb) hab).trans gG57
            have hb := below_setRow hb hpG50 (key8 kb)
            refine hK.out _ _ hb (fun _ => ?_)
            clear hK K
            try simp only [Act.put]
            refine wpAnyH_done (by kernel_rfl) ?_ _
            try (go_wp2_with fail)
            go_meet
            case rel => exact ⟨G57, G50, rfl, rfl, Lib.hid ⟨hb, kG57, kG50⟩⟩
      · go_simp
        refine hK.out _ _ (hb.out.alloc hb.out.size _) (fun _ => ?_)
        clear hK K
        try simp only [Act.put, List.setIfInBounds_toArray, List.set_cons_zero, List.set_cons_succ]
        obtain ⟨hb, hG61, hpG61, hlG61, hold⟩ := alloc_pack hb.out (.cells #[.int .i64 0, .int .i64 0, .int .i64 0, .int .i64 0, .int .i64 0, .int .i64 0, .int .i64 0, .int .i64 0] 38)
        obtain ⟨hG50, hneG50G61⟩ := hold _ _ hG50.out
        have hG50 := Lib.hid hG50
        clear hold
        generalize World.alloc wn49 (.cells #[.int .i64 0, .int .i64 0, .int .i64 0, .int .i64 0, .int .i64 0, .int .i64 0, .int .i64 0, .int .i64 0] 38) = wn60 at *
        generalize (wn49).heap.size = G61 at *
        have hb := Lib.hid hb
        have hG61 := Lib.hid hG61
        refine wpAnyH_ready (rs := [2]) (by kernel_rfl) (by simp) ?_
        refine (AllReadyH.cons (o := ({ dst := some 18, op := Go.Op.call { callee := Go.Callee.value (Go.Operand.func 16), args := #[Go.Operand.tmp 16, Go.Operand.tmp 17], argTypes := #[22, 27] }, type := 38, pos := "law.go:81", after := #[{ on := 0, ground := Go.Ground.data }, { on := 1, ground := Go.Ground.data }], guard := none } : Oper)) rfl (fun K hK => ?_) AllReadyH.nil)
        · go_simp
          go_at_call 16
          refine (KA.out _ hb.out).mono ?_
          rintro e' wn62 ⟨rfl, hbc⟩
          have hG61 := Lib.hid ((hbc.block _ (heap_lt hG61.out)).trans hG61.out)
          have hG50 := Lib.hid ((hbc.block _ (heap_lt hG50.out)).trans hG50.out)
          have hb := Lib.hid (hb.out.trans (hbc.mono hb.out.size))
          clear hbc
          refine hK.out _ _ hb.out (fun _ => ?_)
          clear hK K
          try simp only [Act.put, List.setIfInBounds_toArray, List.set_cons_zero, List.set_cons_succ]
          refine wpAnyH_ready (rs := [5]) (by kernel_rfl) (by simp) ?_
          refine (AllReadyH.cons (o := ({ dst := some 21, op := Go.Op.call { callee := Go.Callee.value (Go.Operand.func 16), args := #[Go.Operand.tmp 19, Go.Operand.tmp 20], argTypes := #[22, 27] }, type := 38, pos := "law.go:81", after := #[{ on := 3, ground := Go.Ground.data }, { on := 4, ground := Go.Ground.data }, { on := 2, ground := Go.Ground.chain }], guard := none } : Oper)) rfl (fun K hK => ?_) AllReadyH.nil)
          · go_simp
            go_at_call 16
            refine (KB.out _ hb.out).mono ?_
            rintro e' wn63 ⟨rfl, hbc⟩
            have hG61 := Lib.hid ((hbc.block _ (heap_lt hG61.out)).trans hG61.out)
            have hG50 := Lib.hid ((hbc.block _ (heap_lt hG50.out)).trans hG50.out)
            have hb := Lib.hid (hb.out.trans (hbc.mono hb.out.size))
            clear hbc
            refine hK.out _ _ hb.out (fun _ => ?_)
            clear hK K
            try simp only [Act.put, List.setIfInBounds_toArray, List.set_cons_zero, List.set_cons_succ]
            refine wpAnyH_ready (rs := [8]) (by kernel_rfl) (by simp) ?_
            refine AllReadyH.cons (o := ({ dst := none, op := Go.Op.store 38 (Go.Operand.tmp 7) (Go.Operand.tmp 18), type := 0, pos := "law.go:81", after := #[{ on := 6, ground := Go.Ground.data }, { on := 2, ground := Go.Ground.data }, { on := 5, ground := Go.Ground.chain }, { on := 0, ground := Go.Ground.phase }, { on := 1, ground := Go.Ground.phase }, { on := 2, ground := Go.Ground.phase }, { on := 3, ground := Go.Ground.textOnly Go.Departure.lateStores }, { on := 4, ground := Go.Ground.textOnly Go.Departure.lateStores }, { on := 5, ground := Go.Ground.textOnly Go.Departure.lateStoresUnsure }, { on := 6, ground := Go.Ground.phase }, { on := 7, ground := Go.Ground.phase }], guard := none } : Oper)) rfl (fun K hK => ?_) AllReadyH.nil
            have hab : G61 ≠ G50 := (fun e => hneG50G61 e.symm)
            refine wp_store_row 38 (.tmp 7) (.tmp 18) rfl G61 (key8 ka) rfl rfl 38 _ hG61.out HKa.out (HKn.out.symm) HKao.out ?_
            have gG61 := setRow_heap _ _ _ (key8 ka) _ _ hG61.out
            have gG50 := (setRow_other wn63 G61 G50 (key8 ka) (fun e => hab e.symm)).trans hG50.out
            have hb := below_setRow hb.out hpG61 (key8 ka)
            refine hK.out _ _ hb (fun _ => ?_)
            clear hK K
            try simp only [Act.put]
            generalize World.setRow wn63 G61 (key8 ka) = wn64 at *
            refine wpAnyH_ready (rs := [9]) (by kernel_rfl) (by simp) ?_
            refine AllReadyH.cons (o := ({ dst := none, op := Go.Op.store 38 (Go.Operand.tmp 8) (Go.Operand.tmp 21), type := 0, pos := "law.go:81", after := #[{ on := 7, ground := Go.Ground.data }, { on := 5, ground := Go.Ground.data }, { on := 8, ground := Go.Ground.chain }, { on := 0, ground := Go.Ground.phase }, { on := 1, ground := Go.Ground.phase }, { on := 2, ground := Go.Ground.phase }, { on := 3, ground := Go.Ground.phase }, { on := 4, ground := Go.Ground.phase }, { on := 5, ground := Go.Ground.phase }, { on := 6, ground := Go.Ground.phase }, { on := 7, ground := Go.Ground.phase }, { on := 8, ground := Go.Ground.phase }], guard := none } : Oper)) rfl (fun K hK => ?_) AllReadyH.nil
            refine wp_store_row 38 (.tmp 8) (.tmp 21) rfl G50 (key8 kb) rfl rfl 38 _ gG50 HKb.out (HKm.out.symm) HKbo.out ?_
            have kG50 := setRow_heap _ _ _ (key8 kb) _ _ gG50
            have kG61 := (setRow_other wn64 G50 G61 (key8 kb) hab).trans gG61
            have hb := below_setRow hb hpG50 (key8 kb)
            refine hK.out _ _ hb (fun _ => ?_)
            clear hK K
            try simp only [Act.put]
            refine wpAnyH_done (by kernel_rfl) ?_ _
            try (go_wp2_with fail)
            go_meet
            case rel => exact ⟨G61, G50, rfl, rfl, Lib.hid ⟨hb, kG61, kG50⟩⟩
  case rest =>
    obtain ⟨P, Q, rfl, rfl, hcut⟩ := hcut
    have hbx := hcut.out.1
    have hcx := hcut.out.2.1
    have hcy := hcut.out.2.2
    have DX := Lib.hid (fun (W : World) (hb : Below wc.heap.size wc W) (k : Nat) (hk : k < 8) => (by
      rw [hb.cell (p := ⟨P, k, none⟩) (heap_lt hcx), cell_of_row _ _ _ _ _ _ hcx]; exact key8_cell HLa.out hk : W.cell? ⟨P, k, none⟩ = some (.int .i64 (ka.getD k 0))))
    have DY := Lib.hid (fun (W : World) (hb : Below wc.heap.size wc W) (k : Nat) (hk : k < 8) => (by
      rw [hb.cell (p := ⟨Q, k, none⟩) (heap_lt hcy), cell_of_row _ _ _ _ _ _ hcy]; exact key8_cell HLb.out hk : W.cell? ⟨Q, k, none⟩ = some (.int .i64 (kb.getD k 0))))
    obtain ⟨cf, hcf⟩ : ∃ cf : Nat → Int, ∀ k, cf k = cmpK (ka.take k) (kb.take k) := ⟨_, fun _ => rfl⟩
    have HS := Lib.hid (fun (k : Nat) (hk : k < 8) => (by rw [hcf, hcf]; exact cmpK_take ka kb k (by rw [HLa.out]; exact hk) (by rw [HLb.out]; exact hk) : cf (k + 1) = if cf k = 0 then Lib.compareInt (ka.getD k 0) (kb.getD k 0) else cf k))
    have HC0 := Lib.hid (show cf 0 = 0 by rw [hcf]; rfl)
    have HC8 := Lib.hid (show cf 8 = cmpK ka kb by rw [hcf, List.take_of_length_le (by rw [HLa.out]; omega), List.take_of_length_le (by rw [HLb.out]; omega)])
    have HBX := Lib.hid hbx
    clear hcut hbx hcx hcy hcf HKa HKb HKao HKbo HKn HKm HLa HLb KA KB
    go_wp2_with fail
    go_loopg [22, 9] 8 (fun gk i c wr => ∃ k : Nat, i = .int .i64 k ∧ k + gk = 8 ∧ c = .int .i64 (cf k) ∧ Hid (Below wc.heap.size wc wr))
    case atStart => exact ⟨0, rfl, by simp, by rw [HC0.out], Lib.hid (Below.refl _ _)⟩
    case round =>
      obtain ⟨k, rfl, hk, rfl, HB⟩ := hrel
      by_cases hlt : k < 8
      · obtain ⟨g, rfl⟩ : ∃ g, gk = g + 1 := ⟨gk - 1, by omega⟩
        have hkI : (k : Int) < 8 := by omega
        have hst := HS.out k hlt
        have CX := Lib.hid (fun W hb => DX.out W hb k hlt)
        have CY := Lib.hid (fun W hb => DY.out W hb k hlt)
        generalize ka.getD k 0 = xk at hst CX
        generalize kb.getD k 0 = yk at hst CY
        obtain ⟨c, hc⟩ : ∃ c, c = cf k := ⟨_, rfl⟩
        rw [← hc] at hst ⊢
        have HC := Lib.hid hc
        clear hc
        by_cases hc0 : c = 0
        case neg =>
          have hcb : (c == 0) = false := beq_eq_false_iff_ne.2 hc0
          have HF := Lib.hid (show cf (k + 1) = c by rw [hst, if_neg hc0])
          clear hst
          go_upto_region 10 with fail
          go_quiet (fail)
          go_wp2_with fail
          go_roundg g
          case measure => omega
          case rel => exact ⟨k + 1, by go_num, by omega, by rw [HF.out], Lib.hid ⟨HB.out.os, HB.out.tape, HB.out.output, HB.out.size, HB.out.block⟩⟩
        subst hc0
        have HF0 := Lib.hid (show cf (k + 1) = Lib.compareInt xk yk by rw [hst, if_pos rfl])
        clear hst
        go_upto_region 10 with fail
        refine wp_region_held_drew (S := (fun W : World => Below wc.heap.size wc W)) (by kernel_rfl) HB.out.drew (fun hHeld => ?_)
        refine wpAnyH_take (i := 0) (oi := ({ dst := some 25, op := Go.Op.move (Go.Operand.tmp 9), type := 3, pos := "law.go:84", after := #[], guard := none } : Oper)) (v := .int .i64 0) rfl (by kernel_rfl) (by kernel_rfl) (by kernel_rfl) (fun _ _ _ h => h) (Or.inl ⟨by rfl, fun w' _ => ?_⟩) hHeld ?_
        · go_simp
        simp only [Act.put, List.setIfInBounds_toArray, List.set_cons_zero, List.set_cons_succ]
        refine wpAnyH_take (i := 1) (oi := ({ dst := some 26, op := Go.Op.binOp Go.BinOp.eql 3 (Go.Operand.tmp 25) (Go.Operand.const (Go.Value.int Go.IntKind.i64 0)) 3, type := 4, pos := "law.go:84", after := #[{ on := 0, ground := Go.Ground.data }], guard := none } : Oper)) (v := .bool true) rfl (by kernel_rfl) (by kernel_rfl) (by kernel_rfl) (fun _ _ _ h => h) (Or.inl ⟨by rfl, fun w' _ => ?_⟩) hHeld ?_
        · go_simp
        simp only [Act.put, List.setIfInBounds_toArray, List.set_cons_zero, List.set_cons_succ]
        refine wpAnyH_take (i := 2) (oi := ({ dst := some 27, op := Go.Op.move (Go.Operand.tmp 26), type := 4, pos := "law.go:84", after := #[{ on := 1, ground := Go.Ground.data }], guard := none } : Oper)) (v := .bool true) rfl (by kernel_rfl) (by kernel_rfl) (by kernel_rfl) (fun _ _ _ h => h) (Or.inl ⟨by rfl, fun w' _ => ?_⟩) hHeld ?_
        · go_simp
        simp only [Act.put, List.setIfInBounds_toArray, List.set_cons_zero, List.set_cons_succ]
        refine wpAnyH_take (i := 3) (oi := ({ dst := some 28, op := Go.Op.move (Go.Operand.tmp 10), type := 3, pos := "law.go:84", after := #[{ on := 2, ground := Go.Ground.guard }], guard := some (2, true) } : Oper)) (v := .int .i64 k) rfl (by kernel_rfl) (by kernel_rfl) (by kernel_rfl) (fun _ _ _ h => h) (Or.inl ⟨by kernel_rfl, fun w' _ => ?_⟩) hHeld ?_
        · go_simp
        simp only [Act.put, List.setIfInBounds_toArray, List.set_cons_zero, List.set_cons_succ]
        refine wpAnyH_take (i := 4) (oi := ({ dst := some 29, op := Go.Op.indexAddr 38 (Go.Operand.tmp 7) (Go.Operand.tmp 28), type := 0, pos := "law.go:84", after := #[{ on := 3, ground := Go.Ground.data }, { on := 2, ground := Go.Ground.guard }], guard := some (2, true) } : Oper)) (v := .pointer (some ⟨P, k, none⟩)) rfl (by kernel_rfl) (by kernel_rfl) (by kernel_rfl) (fun _ _ _ h => h) (Or.inl ⟨by kernel_rfl, fun w' _ => ?_⟩) hHeld ?_
        · go_simp
        simp only [Act.put, List.setIfInBounds_toArray, List.set_cons_zero, List.set_cons_succ]
        refine wpAnyH_take (i := 5) (oi := ({ dst := some 30, op := Go.Op.load 3 (Go.Operand.tmp 29), type := 3, pos := "law.go:84", after := #[{ on := 4, ground := Go.Ground.data }, { on := 2, ground := Go.Ground.guard }], guard := some (2, true) } : Oper)) (v := .int .i64 xk) rfl (by kernel_rfl) (by kernel_rfl) (by kernel_rfl) (fun _ _ _ h => h) (Or.inl ⟨by kernel_rfl, fun w' hS' => ?_⟩) hHeld ?_
        · have hcell := CX.out _ hS'
          go_simp
        simp only [Act.put, List.setIfInBounds_toArray, List.set_cons_zero, List.set_cons_succ]
        refine wpAnyH_take (i := 6) (oi := ({ dst := some 31, op := Go.Op.move (Go.Operand.tmp 10), type := 3, pos := "law.go:84", after := #[{ on := 2, ground := Go.Ground.guard }], guard := some (2, true) } : Oper)) (v := .int .i64 k) rfl (by kernel_rfl) (by kernel_rfl) (by kernel_rfl) (fun _ _ _ h => h) (Or.inl ⟨by kernel_rfl, fun w' _ => ?_⟩) hHeld ?_
        · go_simp
        simp only [Act.put, List.setIfInBounds_toArray, List.set_cons_zero, List.set_cons_succ]
        refine wpAnyH_take (i := 7) (oi := ({ dst := some 32, op := Go.Op.indexAddr 38 (Go.Operand.tmp 8) (Go.Operand.tmp 31), type := 0, pos := "law.go:84", after := #[{ on := 6, ground := Go.Ground.data }, { on := 2, ground := Go.Ground.guard }], guard := some (2, true) } : Oper)) (v := .pointer (some ⟨Q, k, none⟩)) rfl (by kernel_rfl) (by kernel_rfl) (by kernel_rfl) (fun _ _ _ h => h) (Or.inl ⟨by kernel_rfl, fun w' _ => ?_⟩) hHeld ?_
        · go_simp
        simp only [Act.put, List.setIfInBounds_toArray, List.set_cons_zero, List.set_cons_succ]
        refine wpAnyH_take (i := 8) (oi := ({ dst := some 33, op := Go.Op.load 3 (Go.Operand.tmp 32), type := 3, pos := "law.go:84", after := #[{ on := 7, ground := Go.Ground.data }, { on := 2, ground := Go.Ground.guard }], guard := some (2, true) } : Oper)) (v := .int .i64 yk) rfl (by kernel_rfl) (by kernel_rfl) (by kernel_rfl) (fun _ _ _ h => h) (Or.inl ⟨by kernel_rfl, fun w' hS' => ?_⟩) hHeld ?_
        · have hcell := CY.out _ hS'
          go_simp
        simp only [Act.put, List.setIfInBounds_toArray, List.set_cons_zero, List.set_cons_succ]
        refine wpAnyH_take (i := 9) (oi := ({ dst := some 34, op := Go.Op.binOp Go.BinOp.neq 3 (Go.Operand.tmp 30) (Go.Operand.tmp 33) 3, type := 4, pos := "law.go:84", after := #[{ on := 5, ground := Go.Ground.data }, { on := 8, ground := Go.Ground.data }, { on := 2, ground := Go.Ground.guard }], guard := some (2, true) } : Oper)) (v := .bool (xk != yk)) rfl (by kernel_rfl) (by kernel_rfl) (by kernel_rfl) (fun _ _ _ h => h) (Or.inl ⟨by kernel_rfl, fun w' _ => ?_⟩) hHeld ?_
        · go_simp
        simp only [Act.put, List.setIfInBounds_toArray, List.set_cons_zero, List.set_cons_succ]
        refine wpAnyH_take (i := 10) (oi := ({ dst := some 35, op := Go.Op.pick (Go.Operand.tmp 27) (Go.Operand.tmp 34) (Go.Operand.const (Go.Value.bool false)), type := 4, pos := "law.go:84", after := #[{ on := 2, ground := Go.Ground.data }, { on := 9, ground := Go.Ground.data }], guard := none } : Oper)) (v := .bool (xk != yk)) rfl (by kernel_rfl) (by kernel_rfl) (by kernel_rfl) (fun _ _ _ h => h) (Or.inl ⟨by rfl, fun w' _ => ?_⟩) hHeld ?_
        · go_simp
        simp only [Act.put, List.setIfInBounds_toArray, List.set_cons_zero, List.set_cons_succ]
        refine wpAnyH_done (by kernel_rfl) ?_ _
        have HB1 := Lib.hid hHeld
        clear hHeld
        by_cases hxy : xk = yk
        case pos =>
          have hb0 : (xk != yk) = false := by rw [hxy]; simp
          rw [hb0]
          have HF := Lib.hid (show cf (k + 1) = 0 by rw [HF0.out, hxy, cI_self])
          clear HF0 hb0
          go_wp2_with fail
          go_roundg g
          case measure => omega
          case rel => exact ⟨k + 1, by go_num, by omega, by rw [HF.out], HB1⟩
        case neg =>
          have hb0 : (xk != yk) = true := by simp [bne, beq_eq_false_iff_ne.2 hxy]
          rw [hb0]
          clear hb0
          go_upto_region 12 with fail
          refine wp_region_held_drew (S := (fun W : World => Below wc.heap.size wc W)) (by kernel_rfl) HB1.out.drew (fun hHeld => ?_)
          refine wpAnyH_take (i := 0) (oi := ({ dst := some 36, op := Go.Op.move (Go.Operand.tmp 10), type := 3, pos := "law.go:86", after := #[], guard := none } : Oper)) (v := .int .i64 k) rfl (by kernel_rfl) (by kernel_rfl) (by kernel_rfl) (fun _ _ _ h => h) (Or.inl ⟨by rfl, fun w' _ => ?_⟩) hHeld ?_
          · go_simp
          simp only [Act.put, List.setIfInBounds_toArray, List.set_cons_zero, List.set_cons_succ]
          refine wpAnyH_take (i := 1) (oi := ({ dst := some 37, op := Go.Op.indexAddr 38 (Go.Operand.tmp 7) (Go.Operand.tmp 36), type := 0, pos := "law.go:86", after := #[{ on := 0, ground := Go.Ground.data }], guard := none } : Oper)) (v := .pointer (some ⟨P, k, none⟩)) rfl (by kernel_rfl) (by kernel_rfl) (by kernel_rfl) (fun _ _ _ h => h) (Or.inl ⟨by rfl, fun w' _ => ?_⟩) hHeld ?_
          · go_simp
          simp only [Act.put, List.setIfInBounds_toArray, List.set_cons_zero, List.set_cons_succ]
          refine wpAnyH_take (i := 2) (oi := ({ dst := some 38, op := Go.Op.load 3 (Go.Operand.tmp 37), type := 3, pos := "law.go:86", after := #[{ on := 1, ground := Go.Ground.data }], guard := none } : Oper)) (v := .int .i64 xk) rfl (by kernel_rfl) (by kernel_rfl) (by kernel_rfl) (fun _ _ _ h => h) (Or.inl ⟨by rfl, fun w' hS' => ?_⟩) hHeld ?_
          · have hcell := CX.out _ hS'
            go_simp
          simp only [Act.put, List.setIfInBounds_toArray, List.set_cons_zero, List.set_cons_succ]
          refine wpAnyH_take (i := 3) (oi := ({ dst := some 39, op := Go.Op.move (Go.Operand.tmp 10), type := 3, pos := "law.go:86", after := #[], guard := none } : Oper)) (v := .int .i64 k) rfl (by kernel_rfl) (by kernel_rfl) (by kernel_rfl) (fun _ _ _ h => h) (Or.inl ⟨by rfl, fun w' _ => ?_⟩) hHeld ?_
          · go_simp
          simp only [Act.put, List.setIfInBounds_toArray, List.set_cons_zero, List.set_cons_succ]
          refine wpAnyH_take (i := 4) (oi := ({ dst := some 40, op := Go.Op.indexAddr 38 (Go.Operand.tmp 8) (Go.Operand.tmp 39), type := 0, pos := "law.go:86", after := #[{ on := 3, ground := Go.Ground.data }], guard := none } : Oper)) (v := .pointer (some ⟨Q, k, none⟩)) rfl (by kernel_rfl) (by kernel_rfl) (by kernel_rfl) (fun _ _ _ h => h) (Or.inl ⟨by rfl, fun w' _ => ?_⟩) hHeld ?_
          · go_simp
          simp only [Act.put, List.setIfInBounds_toArray, List.set_cons_zero, List.set_cons_succ]
          refine wpAnyH_take (i := 5) (oi := ({ dst := some 41, op := Go.Op.load 3 (Go.Operand.tmp 40), type := 3, pos := "law.go:86", after := #[{ on := 4, ground := Go.Ground.data }], guard := none } : Oper)) (v := .int .i64 yk) rfl (by kernel_rfl) (by kernel_rfl) (by kernel_rfl) (fun _ _ _ h => h) (Or.inl ⟨by rfl, fun w' hS' => ?_⟩) hHeld ?_
          · have hcell := CY.out _ hS'
            go_simp
          simp only [Act.put, List.setIfInBounds_toArray, List.set_cons_zero, List.set_cons_succ]
          refine wpAnyH_take (i := 6) (oi := ({ dst := some 42, op := Go.Op.binOp Go.BinOp.lss 3 (Go.Operand.tmp 38) (Go.Operand.tmp 41) 3, type := 4, pos := "law.go:86", after := #[{ on := 2, ground := Go.Ground.data }, { on := 5, ground := Go.Ground.data }], guard := none } : Oper)) (v := .bool (decide (xk < yk))) rfl (by kernel_rfl) (by kernel_rfl) (by kernel_rfl) (fun _ _ _ h => h) (Or.inl ⟨by rfl, fun w' _ => ?_⟩) hHeld ?_
          · go_simp
          simp only [Act.put, List.setIfInBounds_toArray, List.set_cons_zero, List.set_cons_succ]
          refine wpAnyH_done (by kernel_rfl) ?_ _
          have HB2 := Lib.hid hHeld
          clear hHeld
          by_cases hlt2 : xk < yk
          case pos =>
            have HF := Lib.hid (show cf (k + 1) = -1 by rw [HF0.out, cI_lt hlt2])
            clear HF0
            rw [decide_eq_true hlt2]
            go_wp2_with fail
            go_roundg g
            case measure => omega
            case rel => exact ⟨k + 1, by go_num, by omega, by rw [HF.out], HB2⟩
          case neg =>
            have HF := Lib.hid (show cf (k + 1) = 1 by rw [HF0.out, cI_gt (by omega)])
            clear HF0
            rw [decide_eq_false hlt2]
            go_wp2_with fail
            go_roundg g
            case measure => omega
            case rel => exact ⟨k + 1, by go_num, by omega, by rw [HF.out], HB2⟩
      · obtain rfl : k = 8 := by omega
        rw [HC8.out]
        have HB9 := Lib.hid (HBX.out.trans (HB.out.mono HBX.out.size))
        have HFA := Lib.hid (fun (W : World) (hb : Below W0.heap.size W0 W) => FA.out W hb)
        have HFB := Lib.hid (fun (W : World) (hb : Below W0.heap.size W0 W) => FB.out W hb)
        generalize cmpK ka kb = c at HFA HFB ⊢
        clear HS HC0 HC8 FA FB DX DY HB HBX
        go_wp2_with (first
          | (refine wpList_load_agg_gh (by kernel_rfl) 27 (.tmp 4) rfl ⟨w.heap.size, 0, none⟩ rfl ta.toArray _ (LA.out _ HB9.out) Tryd.underlying27 rfl HSa.out ?_; go_simp)
          | (refine wpList_load_agg_gh (by kernel_rfl) 27 (.tmp 5) rfl ⟨w.heap.size + 1, 0, none⟩ rfl tb.toArray _ (LB.out _ HB9.out) Tryd.underlying27 rfl HSb.out ?_; go_simp))
        refine (HFA.out _ HB9.out).mono ?_
        rintro e wy ⟨rfl, hby⟩
        have HB10 := Lib.hid (HB9.out.trans (hby.mono HB9.out.size))
        clear hby
        go_wp2_with (first
          | (refine wpList_load_agg_gh (by kernel_rfl) 27 (.tmp 4) rfl ⟨w.heap.size, 0, none⟩ rfl ta.toArray _ (LA.out _ HB10.out) Tryd.underlying27 rfl HSa.out ?_; go_simp)
          | (refine wpList_load_agg_gh (by kernel_rfl) 27 (.tmp 5) rfl ⟨w.heap.size + 1, 0, none⟩ rfl tb.toArray _ (LB.out _ HB10.out) Tryd.underlying27 rfl HSb.out ?_; go_simp))
        refine (HFB.out _ HB10.out).mono ?_
        rintro e wz ⟨rfl, hby⟩
        have HB11 := Lib.hid (HB10.out.trans (hby.mono HB10.out.size))
        clear hby
        have hneg : decide (0 < -c) = decide (c < 0) := by rw [Bool.eq_iff_iff, decide_eq_true_iff, decide_eq_true_iff]; omega
        rw [hneg]
        go_wp2_with fail
        go_ret
        refine ⟨?_, HB3.out.trans (HB11.out.mono (by have := HB3.out.size; omega))⟩
        first | rfl | (simp; done)
end Go.Proofs.YteahcgjabdjmkaaDoor
