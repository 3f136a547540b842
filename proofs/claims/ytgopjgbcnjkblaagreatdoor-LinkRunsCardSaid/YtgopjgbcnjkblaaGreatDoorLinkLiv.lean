/-
  The walk of living and of the function that it hands out, as one that is ranged over: the links of a table that live, by their numbers. Conditions: the table's cells are known.
-/
import Derived.RangeFuncNested
import Derived.RangeFuncBound
import Derived.RangeFuncBox
import Derived.RangeFuncCalls
import Derived.RangeFuncLeaves
import Derived.Shelf.Abstract
import Derived.Shelf.RegionOpen
import Derived.WalkKit
import Derived.OwnWalkIn
import Derived.TacticsInMore
import Derived.LoopNIn
import Derived.LoopIn
import Derived.Maps.AppendAt
import Derived.Test.YtgopjgbcnjkblaaGreatDoorLinkCl
namespace Go.Proofs.YtgopjgbcnjkblaaGreatDoor
open Go.RowKit Go.Shelf
attribute [local go_sem] Oper.semAt_some

section
variable {F : Fence} {n : Nat} {P : Program} {ops : Array Oper} {rest : List Oper} {o : Oper} {a : Act} {Q : Exit → Act → World → Prop}
theorem wpListIn_load_agg {w : World} (hgd : o.guard = none) (ty : TypeId) (x : Operand) (ho : o.op = .load ty x) (p : Addr) (hx : a.eval x = .pointer (some p)) (cs : Array Value) (d : TypeDesc)
    (hc : ∀ j v, cs.toList[j]? = some v → w.cell? (p.add j) = some v)
    (hu : P.underlying ty = some d) (hd : (match d with | .struct _ | .array _ _ => true | _ => false) = true) (hi : (P.info? ty).map (·.size) = some cs.size)
    (h : wpListIn F n P ops Q rest (a.put o.dst (.agg cs)) w) : wpListIn F n P ops Q (o :: rest) a w :=
  wpListIn_plain hgd fun _ hK => by
    have hl := run_load_agg (P := P) ty p cs d hc hu hd hi
    unfold Oper.wpIn
    refine ⟨?_, ?_⟩
    · simp [Oper.about, ho]
    · rw [Oper.semAt_plain F _ _ (by rw [ho]; intro c hc'; cases hc')]
      unfold execOp
      simp only [ho, hx, Instr.loadAt, Instr.sureAddr, Sem.run_bind, Sem.run_pure, Result.andThen_ok, hl]
      exact hK _ _ h
theorem wpListIn_index {w : World} (hgd : o.guard = none) (ty : TypeId) (x y : Operand) (ho : o.op = .index ty x y) (v : Value)
    (hr : (Instr.index ty (a.eval x) (a.eval y)).run P w = .ok v w) (h : wpListIn F n P ops Q rest (a.put o.dst v) w) : wpListIn F n P ops Q (o :: rest) a w :=
  wpListIn_plain hgd fun _ hK => by
    unfold Oper.wpIn
    refine ⟨?_, ?_⟩
    · simp [Oper.about, ho]
    · rw [Oper.semAt_plain F _ _ (by rw [ho]; intro c hc'; cases hc')]
      unfold execOp
      simp only [ho, Sem.run_bind, hr, Result.andThen_ok, Sem.run_pure]
      exact hK _ _ h
end

/-- links that live, with their numbers -/
abbrev El (ss : List Sl) := { p : Nat × Sl // ss[p.1]? = some p.2 ∧ p.2.live = true }
def encE {ss : List Sl} (x : El ss) : Array Value := #[.int .i64 x.1.1, .agg x.1.2.lk.toArray]
/-- those below a number -/
def comeTo (ss : List Sl) : Nat → List (El ss)
  | 0 => []
  | k + 1 => comeTo ss k ++ (match h : ss[k]? with
    | some s => if hl : s.live = true then [⟨(k, s), h, hl⟩] else []
    | none => [])
theorem comeTo_len (ss : List Sl) : ∀ k, (comeTo ss k).length ≤ k
  | 0 => Nat.le_refl _
  | k + 1 => by
    have := comeTo_len ss k
    unfold comeTo
    rw [List.length_append]
    split
    · split
      · simp; omega
      · simp; omega
    · simp; omega
theorem comeTo_hit {ss : List Sl} {k : Nat} {s : Sl} (h : ss[k]? = some s) (hl : s.live = true) : comeTo ss (k + 1) = comeTo ss k ++ [⟨(k, s), h, hl⟩] := by
  conv => lhs; unfold comeTo
  congr 1
  split
  · rename_i s' h'
    have e : s' = s := Option.some.inj (h'.symm.trans h)
    subst e
    rw [dif_pos hl]
  · rename_i h'; rw [h] at h'; cases h'
theorem comeTo_miss {ss : List Sl} {k : Nat} {s : Sl} (h : ss[k]? = some s) (hl : s.live = false) : comeTo ss (k + 1) = comeTo ss k := by
  conv => lhs; unfold comeTo
  split
  · rename_i s' h'
    have e : s' = s := Option.some.inj (h'.symm.trans h)
    subst e
    rw [dif_neg (by rw [hl]; decide)]; simp
  · simp
/-- four slots' cells -/
def cells4 (a b c d : Sl) : List Value := a.cells ++ (b.cells ++ (c.cells ++ d.cells))
theorem idx4_0 (a b c d : Sl) (W : World) : (Instr.index 57 (.agg (cells4 a b c d).toArray) (.int .i64 0)).run Tryz.prog W = .ok (.agg a.cells.toArray) W := by kernel_rfl
theorem idx4_1 (a b c d : Sl) (W : World) : (Instr.index 57 (.agg (cells4 a b c d).toArray) (.int .i64 1)).run Tryz.prog W = .ok (.agg b.cells.toArray) W := by kernel_rfl
theorem idx4_2 (a b c d : Sl) (W : World) : (Instr.index 57 (.agg (cells4 a b c d).toArray) (.int .i64 2)).run Tryz.prog W = .ok (.agg c.cells.toArray) W := by kernel_rfl
theorem idx4_3 (a b c d : Sl) (W : World) : (Instr.index 57 (.agg (cells4 a b c d).toArray) (.int .i64 3)).run Tryz.prog W = .ok (.agg d.cells.toArray) W := by kernel_rfl
theorem idx4 {a b c d s : Sl} {k : Nat} (h : ([a, b, c, d] : List Sl)[k]? = some s) (W : World) : (Instr.index 57 (.agg (cells4 a b c d).toArray) (.int .i64 (k : Int))).run Tryz.prog W = .ok (.agg s.cells.toArray) W := by
  match k, h with
  | 0, h => obtain rfl := Option.some.inj h; exact idx4_0 _ _ _ _ _
  | 1, h => obtain rfl := Option.some.inj h; exact idx4_1 _ _ _ _ _
  | 2, h => obtain rfl := Option.some.inj h; exact idx4_2 _ _ _ _ _
  | 3, h => obtain rfl := Option.some.inj h; exact idx4_3 _ _ _ _ _
  | k + 4, h => simp at h
set_option maxRecDepth 100000 in
set_option maxHeartbeats 2000000 in
theorem living1_in (n : Nat) (hn : 1 ≤ n) (l Bt T : Nat) (a b c d : Sl) (J Jx : List (El [a, b, c, d]) → World → Prop) (W : World)
    (hJa : ∀ pre (w : World) (o : Obj), W.heap.size ≤ w.heap.size → J pre w → J pre (w.alloc o))
    (hY : ∀ pre x W1, J pre W1 → pre.length < 4 → YieldAt Fence.wide (n - 1) Tryz.prog l (encE x) W1 fun e W' =>
      (e = .returned (.bool true) ∧ J (pre ++ [x]) W' ∧ Below 0 W1 W') ∨ (e = .returned (.bool false) ∧ Jx (pre ++ [x]) W'))
    (hBt : W.cell? ⟨Bt, 0, none⟩ = some (.pointer (some ⟨T, 0, none⟩))) (hT : ∀ j v, (cells4 a b c d)[j]? = some v → W.cell? ⟨T, j, none⟩ = some v) (h0 : J [] W) :
    CallsIn Fence.wide n Tryz.prog 47 #[.func (.yield l) #[] #[], .pointer (some ⟨Bt, 0, none⟩)] W fun e W' => (∃ v, e = .returned v) ∧
      ((∃ ys, ys = comeTo [a, b, c, d] 4 ∧ J ys W') ∨ (∃ pre, (∃ k, k ≤ 4 ∧ pre = comeTo [a, b, c, d] k) ∧ Jx pre W')) := by
  have hT' : Hid (∀ j v, (cells4 a b c d).toArray.toList[j]? = some v → W.cell? ((⟨T, 0, none⟩ : Addr).add j) = some v) := Lib.hid (fun j v hj => by rw [Addr.add_lit, Nat.zero_add]; exact hT j v (by simpa using hj))
  clear hT
  have HJa := Lib.hid hJa
  have HY := Lib.hid hY
  clear hJa hY
  refine callsIn_of_wp Tryz.func47 rfl trivial ?_ rfl
  simp only [Tryz.ntmps47, List.size_toArray, List.length_cons, List.length_nil, Nat.reduceAdd, Nat.reduceSub, Array.replicate_succ, Array.replicate_zero, List.push_toArray, List.append_toArray, List.nil_append, List.cons_append]
  gi_wp2_with (refine wpListIn_load_agg rfl 57 _ rfl ⟨T, 0, none⟩ rfl (cells4 a b c d).toArray _ hT'.out Tryz.underlying57 rfl (by kernel_rfl) ?_; go_simp; generalize hAG : (cells4 a b c d).toArray = AG)
  gi_loopw [9] (fun i wr => ∃ k : Nat, k ≤ 4 ∧ i = .int .i64 k ∧ J (comeTo [a, b, c, d] k) wr ∧ W.heap.size ≤ wr.heap.size) (fun i _ => 4 - (intOf i).toNat)
  case atStart => exact ⟨0, Nat.zero_le _, rfl, h0, Nat.le_refl _⟩
  case round =>
    obtain ⟨k, hk, rfl, hJs, hsz⟩ := hrel
    by_cases hlt : k < 4
    · obtain ⟨s, hs⟩ : ∃ s, ([a, b, c, d] : List Sl)[k]? = some s := ⟨_, List.getElem?_eq_getElem (by simpa using hlt)⟩
      have hix := Lib.hid (idx4 hs)
      rw [hAG] at hix
      obtain ⟨live, gen, dA, dc, ds, df, ll, sA, sc, ns, ss, lA, lc, nl, ls, ca⟩ := s
      cases live with
      | false =>
        have HE := Lib.hid (comeTo_miss hs rfl)
        have HJ2 := Lib.hid (HJa.out _ wr (.cells #[.bool false, .int .i64 gen, .slice dA ds.length dc, .bool df, .bool ll, .slice sA ns sc, .slice lA nl lc, .pointer ca] 56) hsz hJs)
        clear hJs hs
        have HA := Lib.hid hAG
        clear hAG
        gi_wp2_with (first
          | (refine wpListIn_index rfl 57 _ _ rfl (.agg #[.bool false, .int .i64 gen, .slice dA ds.length dc, .bool df, .bool ll, .slice sA ns sc, .slice lA nl lc, .pointer ca]) (hix.out _) ?_; go_simp))
        refine ⟨fun _ h => (by cases h), ?_⟩
        gi_wp2
        go_roundw
        case rel => exact ⟨k + 1, by omega, by simp, by rw [HE.out]; exact HJ2.out, by simp; omega⟩
        case measure => simp [intOf]; omega
      | true =>
        have HE := Lib.hid (comeTo_hit hs rfl)
        have HJ2 := HJa.out _ wr (.cells #[.bool true, .int .i64 gen, .slice dA ds.length dc, .bool df, .bool ll, .slice sA ns sc, .slice lA nl lc, .pointer ca] 56) hsz hJs
        obtain ⟨fn, tmps, assign, body, hy, hR⟩ := HY.out _ ⟨(k, _), hs, rfl⟩ _ HJ2 (by have := comeTo_len [a, b, c, d] k; omega)
        dsimp only [encE, Sl.lk] at hy
        clear HJ2 hJs
        have HA := Lib.hid hAG
        clear hAG
        gi_wp2_with (first
          | (refine wpListIn_index rfl 57 _ _ rfl (.agg #[.bool true, .int .i64 gen, .slice dA ds.length dc, .bool df, .bool ll, .slice sA ns sc, .slice lA nl lc, .pointer ca]) (hix.out _) ?_; go_simp))
        refine hR.mono ?_
        rintro e W3 (⟨rfl, hJ3, hk3⟩ | ⟨rfl, hJx3⟩)
        · have HJ3 := Lib.hid hJ3
          have hz3 := hk3.size
          clear hJ3
          gi_wp2
          go_roundw
          case rel => exact ⟨k + 1, by omega, by simp, by rw [HE.out]; exact HJ3.out, by simp at hz3; omega⟩
          case measure => simp [intOf]; omega
        · have HJ3 := Lib.hid hJx3
          clear hJx3
          gi_wp2
          refine bodyPost_ret (results_none rfl _ _ _) rfl ?_
          exact ⟨⟨_, rfl⟩, .inr ⟨_, ⟨k + 1, by omega, HE.out.symm⟩, HJ3.out⟩⟩
    · obtain rfl : k = 4 := by omega
      have HJ := Lib.hid hJs
      clear hJs
      gi_wp2
      go_end0
      exact ⟨⟨_, rfl⟩, .inl ⟨_, rfl, HJ.out⟩⟩
theorem living_e (T : Nat) (w : World) : Calls Tryz.prog 29 #[.pointer (some ⟨T, 0, none⟩)] w fun e w' => e = .returned (.func (.func 47) #[] #[.pointer (some ⟨w.heap.size, 0, none⟩)]) ∧ w' = w.alloc (.cells #[.pointer (some ⟨T, 0, none⟩)] 25) := by
  go_enter Tryz.func29, Tryz.ntmps29
  go_wp2
  go_ret
  exact ⟨rfl, rfl⟩
theorem living_stops (n : Nat) (hn : 1 ≤ n) (Bt T : Nat) (a b c d : Sl) (w : World) (hlt : Bt < w.heap.size) (hTl : T < w.heap.size)
    (hBt : w.cell? ⟨Bt, 0, none⟩ = some (.pointer (some ⟨T, 0, none⟩))) (hT : ∀ j v, (cells4 a b c d)[j]? = some v → w.cell? ⟨T, j, none⟩ = some v) :
    SeqStopsK Fence.wide n Tryz.prog 47 #[.pointer (some ⟨Bt, 0, none⟩)] encE (Below 0) (fun ys => ys = comeTo [a, b, c, d] 4) (fun pre => ∃ k, k ≤ 4 ∧ pre = comeTo [a, b, c, d] k) 4 w := fun l J Jx W hW hJ _ hY h0 =>
  living1_in n hn l Bt T a b c d J Jx W (fun pre w o _ hj => hJ pre w _ none hj (World.grownBy_alloc w o none) (fun r e => by cases e)) hY ((hW.cell (p := ⟨Bt, 0, none⟩) hlt).trans hBt) (fun j v hj => (hW.cell (p := ⟨T, j, none⟩) hTl).trans (hT j v hj)) h0
theorem TAt.cells4 {base T last : Nat} {w : World} {a b c d : Sl} (h : TAt base w T [a, b, c, d] last) : ∀ j v, (cells4 a b c d)[j]? = some v → w.cell? ⟨T, j, none⟩ = some v := fun j v hj => by
  have hlt : j < (Go.Proofs.YtgopjgbcnjkblaaGreatDoor.cells4 a b c d).length := (List.getElem?_eq_some_iff.1 hj).1
  refine h.cell ?_
  have e : tcells [a, b, c, d] last = Go.Proofs.YtgopjgbcnjkblaaGreatDoor.cells4 a b c d ++ [.int .i64 last] := by
    simp only [tcells, Go.Proofs.YtgopjgbcnjkblaaGreatDoor.cells4, List.append_assoc]
  rw [e, List.getElem?_append_left hlt]
  exact hj
end Go.Proofs.YtgopjgbcnjkblaaGreatDoor
