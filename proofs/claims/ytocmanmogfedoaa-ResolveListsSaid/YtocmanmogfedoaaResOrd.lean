/-
  The walk of the statement's own order: sources of bits. Conditions: at most 20 numbers, that lie in memory.
-/
import Derived.Test.YtocmanmogfedoaaResFit
import Derived.Test.YtocmanmogfedoaaResFrame
namespace Go.Proofs.Ytocmanmogfedoaa
open Go.RowKit

theorem own_step {W W' : World} {B e size n : Nat} {v : Value} {xs : List Value} (h : W.ownsRow B e size v n xs) (hb : Below W.heap.size W W') : W'.ownsRow B e size v n xs :=
  h.kept (row := none) ⟨hb.os, hb.tape, hb.output, hb.size, fun k hk _ => hb.block k hk⟩ (by cases hq : v.ownBlock with | none => exact .inl rfl | some k => exact .inr (by simp))
/-- is a bit set? -/
def bx (x : Int) (k : Nat) : Bool := bits BinOp.and IntKind.i64 (x / 2 ^ (1 + k)) 1 == 1
/-- a source of bits, those below k set so far -/
def prS (x : Int) (k : Nat) : Sr := ⟨1 + ((bN x 3 % 3 : Nat) : Int), false, decide (1 < k) && bx x 1, decide (2 < k) && bx x 2, decide (3 < k) && bx x 3, decide (4 < k) && bx x 4⟩
def mkS (x : Int) : Sr := prS x 5
def orderL (l : List Int) : List Sr := (l.map mkS).take 4
theorem prS_put (x : Int) (k : Nat) (h1 : 1 ≤ k) (h4 : k ≤ 4) : (prS x k).cells.setIfInBounds (1 + k) (.bool (bx x k)) = (prS x (k + 1)).cells := by
  rcases (show k = 1 ∨ k = 2 ∨ k = 3 ∨ k = 4 by omega) with rfl | rfl | rfl | rfl <;> simp [prS, Sr.cells]
theorem prS_at (x : Int) (k : Nat) (h1 : 1 ≤ k) (h4 : k ≤ 4) : ∃ b, (prS x k).cells[1 + k]? = some (.bool b) := by
  rcases (show k = 1 ∨ k = 2 ∨ k = 3 ∨ k = 4 by omega) with rfl | rfl | rfl | rfl <;> exact ⟨_, rfl⟩
theorem info_srcZ : ∃ i, Try.prog.info? 44 = some i ∧ i.zero = some (.agg (zS 0).cells) ∧ i.size = 6 ∧ i.bytes = 16 := info_parts (show (Try.prog.info? 44).map (fun i => (i.zero, i.size, i.bytes)) = some (some (.agg (zS 0).cells), 6, 16) by kernel_rfl)
theorem fillS1 {cs : List Value} {z : Value} (h : cs.length = 6) : Instr.fill (fun i => some (i * 6, 6)) ((Array.range (1 * 6)).map (z.cells[· % z.cells.size]!)) [(0, .agg cs.toArray)] = some cs.toArray := by
  have := Great.fill_whole (s := 6) (by decide) [Value.agg cs.toArray] ((Array.range (1 * 6)).map (z.cells[· % z.cells.size]!)) (by simp [Value.cells, h]) (by simp)
  simpa [Value.cells] using this
def OrPost (l : List Int) (w : World) (e : Ending) (w' : World) : Prop := ∃ v, e = .returned v ∧ w'.ownsRow w.heap.size 44 6 v (orderL l).length (svs (orderL l)) ∧ Below w.heap.size w w'
/-- what the loop keeps: j sources, as the first j numbers say -/
structure OdAt (w wr : World) (l : List Int) (j : Nat) (v : Value) : Prop where
  below : Below w.heap.size w wr
  row : wr.ownsRow w.heap.size 44 6 v j (svs ((l.map mkS).take j))
set_option maxRecDepth 100000 in
set_option maxHeartbeats 4000000 in
theorem order_e (A : Option Addr) (n c : Nat) (ls : List Int) (w : World) (hn : ls.length = n) (h20 : n ≤ 20) (hls : IntsIn w A ls) : Calls Try.prog 8 #[.slice A n c] w (OrPost ls w) := by
  have HLS := Lib.hid hls
  have HN := Lib.hid hn
  have hnI : (n : Int) ≤ 20 := by omega
  clear hls hn
  go_enter Try.func8, Try.ntmps8
  go_wp2_with fail
  go_loopg [10, 3, 5, 6, 7] n (fun gk i v3 v5 v6 v7 wr => ∃ j : Nat, i = .int .i64 j ∧ j + gk = n ∧ Hid (j ≤ 4) ∧ Hid (OdAt w wr ls j v3))
  case atStart => exact ⟨0, rfl, by omega, Lib.hid (by omega), Lib.hid ⟨Below.refl _ _, World.ownsRow_nil _ _ _ _⟩⟩
  case round =>
    obtain ⟨j, rfl, hjg, HJ, HO⟩ := hrel
    by_cases hlt : j < n
    · obtain ⟨gk2, rfl⟩ : ∃ gk2, gk = gk2 + 1 := ⟨gk - 1, by omega⟩
      have hltI : (j : Int) < (n : Int) := by omega
      obtain ⟨b, o, rfl, hbl, hc⟩ := HLS.out (fun e => by have := HN.out; rw [e] at this; simp at this; omega)
      have dx := (HO.out.below.cell (p := ⟨b, o + j, none⟩) hbl).trans (hc j (by rw [HN.out]; exact hlt))
      have HXj : Hid (ls[j]? = some (ls.getD j 0)) := Lib.hid (by
        have := HN.out
        rw [List.getD_eq_getElem?_getD, List.getElem?_eq_getElem (by omega)]; rfl)
      generalize ls.getD j 0 = x at dx HXj
      obtain ⟨A3, c3, rfl⟩ : ∃ A3 c3, u3 = Value.slice A3 j c3 := by
        rcases HO.out.row.2 with ⟨rfl, rfl⟩ | ⟨g, cc, cs, rfl, _⟩
        · exact ⟨_, _, rfl⟩
        · exact ⟨_, _, rfl⟩
      clear hc
      by_cases h4 : j = 4
      · subst h4
        have HE : Hid (svs ((ls.map mkS).take 4) = svs (orderL ls)) := Lib.hid rfl
        have HLe : Hid ((orderL ls).length = 4) := Lib.hid (by unfold orderL; rw [List.length_take, List.length_map, HN.out]; omega)
        go_wp2_with fail
        go_ret
        exact ⟨_, rfl, by rw [HLe.out, ← HE.out]; exact HO.out.row, HO.out.below⟩
      · have HJ2 : Hid (j + 1 ≤ 4) := Lib.hid (by have := HJ.out; omega)
        have h4B : ((j : Int) == 4) = false := by simp; omega
        have hb3 : bits BinOp.and IntKind.i64 x 3 = (bN x 3 : Int) := (bN_e x 3 (by omega)).1
        have hl3 : (bN x 3 : Int) ≤ 3 := by have := (bN_e x 3 (by omega)).2; omega
        have HPc : Hid (∀ k, (prS x k).k = 1 + (bN x 3 : Int) % 3) := Lib.hid (fun k => by show 1 + ((bN x 3 % 3 : Nat) : Int) = _; omega)
        have HP1 : Hid ((prS x 1).cells = #[.int .i64 (1 + (bN x 3 : Int) % 3), .bool false, .bool false, .bool false, .bool false, .bool false]) := Lib.hid (by
          show (#[.int .i64 (prS x 1).k, .bool false, .bool false, .bool false, .bool false, .bool false] : Array Value) = _
          rw [HPc.out])
        generalize bN x 3 = m3 at hb3 hl3 HPc HP1
        have HB0 : Hid ((wr.alloc (.cells #[.int .i64 (1 + (m3 : Int) % 3), .bool false, .bool false, .bool false, .bool false, .bool false] 44)).heap[wr.heap.size]? = some (.cells (prS x 1).cells 44 (0, 0))) := Lib.hid (by rw [HP1.out]; exact heap_alloc_last wr _)
        have HL0 := Lib.hid ((Below.refl _ wr).alloc (Nat.le_refl _) (.cells #[.int .i64 (1 + (m3 : Int) % 3), .bool false, .bool false, .bool false, .bool false, .bool false] 44))
        go_wp2_with fail
        clear hb3 hl3 HPc HP1
        generalize wr.alloc (.cells #[.int .i64 (1 + (m3 : Int) % 3), .bool false, .bool false, .bool false, .bool false, .bool false] 44) = W0 at HB0 HL0 ⊢
        go_loopg [7] 4 (fun gq i wq => ∃ k : Nat, i = .int .i64 k ∧ k + gq = 5 ∧ 1 ≤ k ∧ Hid (wq.heap[wr.heap.size]? = some (.cells (prS x k).cells 44 (0, 0))) ∧ Hid (Below wr.heap.size wr wq))
        case atStart => exact ⟨1, rfl, by omega, by omega, HB0, HL0⟩
        case round =>
          rename World => wq
          obtain ⟨k, rfl, hkg, hk1, HBk, HLk⟩ := hrel
          by_cases hk5 : k < 5
          · obtain ⟨gq2, rfl⟩ : ∃ gq2, gk = gq2 + 1 := ⟨gk - 1, by omega⟩
            have hk5I : (k : Int) < 5 := by omega
            have hk0I : (1 : Int) ≤ (k : Int) := by omega
            obtain ⟨q, hq⟩ := prS_at x k hk1 (by omega)
            have dk := (cell_of_row _ wr.heap.size (1 + k) _ _ _ HBk.out).trans hq
            have fk := frozen_of_row _ wr.heap.size (1 + k) _ _ HBk.out
            have HB2 : Hid ((wq.setCell ⟨wr.heap.size, 1 + k, none⟩ (.bool (bits BinOp.and IntKind.i64 (x / 2 ^ (1 + k)) 1 == 1))).heap[wr.heap.size]? = some (.cells (prS x (k + 1)).cells 44 (0, 0))) := Lib.hid (by
              have := heap_setCell_same wq wr.heap.size (1 + k) _ _ (.bool (bx x k)) HBk.out
              rwa [prS_put x k hk1 (by omega)] at this)
            have HL2 : Hid (Below wr.heap.size wr (wq.setCell ⟨wr.heap.size, 1 + k, none⟩ (.bool (bits BinOp.and IntKind.i64 (x / 2 ^ (1 + k)) 1 == 1)))) := Lib.hid (HLk.out.setCell (p := ⟨wr.heap.size, 1 + k, none⟩) (Nat.le_refl _) _)
            clear hq HBk HLk
            go_wp2_with fail
            go_roundg gq2
            case measure => omega
            case rel => exact ⟨k + 1, by go_num, by omega, by omega, HB2, HL2⟩
          · obtain rfl : k = 5 := by omega
            have hk5I : ¬ ((5 : Nat) : Int) < 5 := by decide
            obtain ⟨i0, hi, hz0, hz1, hz2⟩ := info_srcZ
            have HI := Lib.hid hi
            have HZ0 := Lib.hid hz0
            have HZ1 := Lib.hid hz1
            have HZ2 := Lib.hid hz2
            clear hi hz0 hz1 hz2
            have HRw := Lib.hid (own_step (own_step HO.out.row (HLk.out)) ((Below.refl _ wq).alloc (Nat.le_refl _) (.cells (prS x 5).cells 44)))
            have HBw := Lib.hid ((HO.out.below.trans (HLk.out.mono HO.out.below.size)).alloc (HO.out.below.trans (HLk.out.mono HO.out.below.size)).size (.cells (prS x 5).cells 44))
            have HSz := Lib.hid (sizeS (prS x 5))
            have HF1 : Hid (Instr.fill (fun i => some (i * 6, 6)) ((Array.range (1 * 6)).map ((Value.agg (zS 0).cells).cells[· % (Value.agg (zS 0).cells).cells.size]!)) [(0, .agg (prS x 5).cells)] = some (prS x 5).cells) := Lib.hid (fillS1 (cs := (prS x 5).cells.toList) rfl)
            have HCL : Hid (∀ (i : Nat) (u : Value), (prS x 5).cells.toList[i]? = some u → (wq.alloc (.cells (prS x 5).cells 44)).cell? ((⟨wq.heap.size, 0, none⟩ : Addr).add i) = some u) := Lib.hid fun i u hi => by
              rw [Addr.add_lit, Nat.zero_add, World.cell?_alloc_mark, ← Array.getElem?_toList]; exact hi
            have HLn : Hid ((prS x 5).cells.toList.length = 6) := Lib.hid rfl
            have HOn : Hid (∀ u ∈ (prS x 5).cells.toList, u.oneCell' = true) := Lib.hid (fun u hu => svs_one [prS x 5] u (by unfold svs; simpa using hu))
            have HTk : Hid (svs ((ls.map mkS).take j) ++ (prS x 5).cells.toList = svs ((ls.map mkS).take (j + 1))) := Lib.hid (by
              rw [List.take_add_one, List.getElem?_map, HXj.out]
              exact (svs_snoc _ (prS x 5)).symm)
            have hjm : j ≤ 20 := by omega
            generalize svs ((ls.map mkS).take j) = xs0 at HRw HTk
            have HD := Lib.hid (rfl : (prS x 5).cells = (prS x 5).cells)
            generalize (prS x 5).cells = D at HBk HRw HBw HSz HF1 HCL HLn HOn HTk
            go_wp2_with (first
              | (refine wpList_load_row rfl 44 (.tmp 6) rfl wr.heap.size rfl 44 D (0, 0) _ HBk.out Try.underlying44 rfl HSz.out ?_; go_simp)
              | (refine wpList_buildSlice rfl 24 44 1 #[(0, .tmp 36)] rfl D i0 _ Try.underlying24 HI.out HZ0.out (by rw [HZ1.out]; decide) (by rw [HZ1.out]; decide) (by rw [HZ1.out]; refine (congrArg _ (?_ : _ = [(0, Value.agg D)])).trans HF1.out; rw [Array.toList_map]; rfl) ?_; go_simp)
              | (at_builtin; refine wpList_append_own (w := wq.alloc (.cells D 44)) rfl (.tmp 35) (.tmp 37) 24 rfl w.heap.size 44 i0 _ 6 16 Try.underlying24 HI.out HZ0.out HZ1.out HZ2.out rfl (by decide) (.slice A3 j c3) j xs0 rfl HRw.out ⟨wq.heap.size, 0, none⟩ 1 1 D.toList rfl HLn.out HCL.out HOn.out (by unfold maxLen; omega) (by omega) HBw.out.size ?_; intro v1 w6 ho1 hg1 hnil; clear hnil; go_simp))
            have HO6 : Hid (OdAt w w6 ls (j + 1) v1) := Lib.hid ⟨HBw.out.grown hg1 HBw.out.size (fun k e => (HRw.out.lt k e).1), by rw [← HTk.out]; exact ho1⟩
            go_roundg gk2
            case measure => omega
            case rel => exact ⟨j + 1, by go_num, by omega, HJ2, HO6⟩
    · obtain rfl : j = n := by omega
      have hltI : ¬ (j : Int) < (j : Int) := by omega
      have HE : Hid ((ls.map mkS).take j = orderL ls) := Lib.hid (by
        have := HN.out
        unfold orderL
        rw [List.take_of_length_le (by rw [List.length_map]; omega), List.take_of_length_le (by rw [List.length_map]; have := HJ.out; omega)])
      have HLe : Hid ((orderL ls).length = j) := Lib.hid (by rw [← HE.out, List.length_take, List.length_map, HN.out]; omega)
      go_wp2_with fail
      go_ret
      exact ⟨_, rfl, by rw [HLe.out, ← HE.out]; exact HO.out.row, HO.out.below⟩
end Go.Proofs.Ytocmanmogfedoaa
