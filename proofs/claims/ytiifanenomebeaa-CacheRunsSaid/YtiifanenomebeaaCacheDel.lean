/-
  The walk of slices.DeleteFunc over entries. Conditions: at most 1000 entries, times up to 2^40.
-/
import Derived.Test.YtiifanenomebeaaCacheMem
namespace Go.Proofs.Ytiifanenomebeaa
open Go.RowKit Go.Lib

section
variable {P : Program} {ops : Array Oper} {rest : List Oper} {o : Oper} {a : Act} {Q : Exit → Act → World → Prop}
/-- a whole value into the block that was made last -/
theorem wpList_store_new {W : World} (hgd : o.guard = none) (ty : TypeId) (x y : Operand) (ho : o.op = .store ty x y) (g : Nat) (hg : W.heap.size = g) (z cells : Array Value) (t : TypeId)
    (hx : a.eval x = .pointer (some ⟨g, 0, none⟩)) (hy : a.eval y = .agg cells) (hi : (P.info? ty).map (·.size) = some cells.size) (hz : z.size = cells.size) (h1 : cells.all (·.oneCell') = true)
    (h : wpList P ops Q rest (a.put o.dst undef) (W.alloc (.cells cells t))) : wpList P ops Q (o :: rest) a (W.alloc (.cells z t)) := by
  subst hg
  exact wpList_store_row hgd ty x y ho W.heap.size cells hx hy t z (heap_alloc_last W _) hi hz h1 (by rw [World.setRow_alloc_new]; exact h)
/-- a value of several cells into a part of a block of which all is known -/
theorem wpList_store_sub {w : World} (hgd : o.guard = none) (ty : TypeId) (x y : Operand) (ho : o.op = .store ty x y) (g off : Nat) (z cells z' : Array Value) (t : TypeId) (hg : w.heap[g]? = some (.cells z t (0, 0)))
    (hx : a.eval x = .pointer (some ⟨g, off, none⟩)) (hy : a.eval y = .agg cells) (hi : (P.info? ty).map (·.size) = some cells.size) (hz : off + cells.size ≤ z.size) (h1 : cells.all (·.oneCell') = true)
    (he : (z.toList.take off ++ cells.toList ++ z.toList.drop (off + cells.size)).toArray = z')
    (h : ∀ w', Hid (w'.heap[g]? = some (.cells z' t (0, 0))) → Hid (w.grownBy w' (some g)) → w'.heap.size = w.heap.size → wpList P ops Q rest (a.put o.dst undef) w') : wpList P ops Q (o :: rest) a w :=
  wpList_plain hgd fun _ hK => by
    have hst := run_storeCells_at P g off t cells.toList 0 z w hg (by simpa using hz) (fun v hv => (Array.all_eq_true_iff_forall_mem.1 h1) v (by simpa using hv))
    simp only [Nat.add_zero, Array.length_toList, he] at hst
    have hsv : (storeVar ty ⟨g, off, none⟩ (.agg cells)).run P w = .ok () (w.setRow g z') := by
      cases hq : P.info? ty with
      | none => simp [hq] at hi
      | some i =>
        have hs : cells.size = i.size := by simp [hq] at hi; omega
        simp [storeVar, sizeOf, typeInfo, hq, Value.cells, hs, hst]
    unfold Oper.wp execOp
    simp only [ho, hx, hy, Instr.storeAt, Instr.sureAddr, Sem.run_bind, Sem.run_pure, Result.andThen_ok, hsv]
    exact hK _ _ (h _ (setRow_heap w g z z' t _ hg) ⟨rfl, rfl, rfl, by simp, fun k _ hk => setRow_other w g k z' (fun e => hk (by rw [e]))⟩ (by simp))
/-- a new variable, what it holds under a name -/
theorem wpList_alloc_z {w : World} (hgd : o.guard = none) (ty : TypeId) (ho : o.op = .alloc ty) (z : Array Value) (hz : (P.info? ty).map (·.zero) = some (some (.agg z)))
    (h : wpList P ops Q rest (a.put o.dst (.pointer (some ⟨w.heap.size, 0, none⟩))) (w.alloc (.cells z ty))) : wpList P ops Q (o :: rest) a w :=
  wpList_plain hgd fun _ hK => by
    have hzr : (zeroValue ty).run P w = .ok (.agg z) w := by
      cases hq : P.info? ty with
      | none => simp [hq] at hz
      | some i =>
        have : i.zero = some (.agg z) := by simpa [hq] using hz
        simp [zeroValue, typeInfo, hq, this]
    unfold Oper.wp execOp
    simp only [ho, Instr.alloc, newVar, newRow, Sem.run_bind, hzr, Result.andThen_ok, run_newObj_alloc, Sem.run_pure, Value.cells]
    exact hK _ _ h
theorem run_zero_agg {w : World} (ty : TypeId) (z : Array Value) (hz : (P.info? ty).map (·.zero) = some (some (.agg z))) : (zeroValue ty).run P w = .ok (.agg z) w := by
  cases hq : P.info? ty with
  | none => simp [hq] at hz
  | some i =>
    have : i.zero = some (.agg z) := by simpa [hq] using hz
    simp [zeroValue, typeInfo, hq, this]
/-- clear of a part of a row of which all is known -/
theorem run_clear_row (w : World) (t e ty : TypeId) (z : Array Value) (ht : P.underlying t = some (.slice e)) (hz : (P.info? e).map (·.zero) = some (some (.agg z))) (g off n c : Nat) (hn : 0 < n) (cur : Array Value) (T : TypeId) (hg : w.heap[g]? = some (.cells cur T (0, 0)))
    (Z : List Value) (hZ : (Builtin.zeroCells z n).toList = Z) (hfit : off + Z.length ≤ cur.size) (h1 : ∀ u ∈ Z, u.oneCell' = true) :
    (Builtin.clear_ #[t] ty #[.slice (some ⟨g, off, none⟩) n c]).run P w = .ok (.tuple #[]) (w.setRow g (cur.toList.take off ++ Z ++ cur.toList.drop (off + Z.length)).toArray) := by
  have hst := run_storeCells_at P g off T Z 0 cur w hg (by simpa using hfit) h1
  simp only [Nat.add_zero] at hst
  obtain ⟨m, rfl⟩ : ∃ m, n = m + 1 := ⟨n - 1, by omega⟩
  simp [Builtin.clear_, run_underlying ht, run_zero_agg e z hz, Value.cells, hZ, hst]
end
theorem one_En {es : List En} (h : ∀ e ∈ es, e.rv.oneCell' = true) : ∀ u ∈ flatE es, u.oneCell' = true := by
  intro u hu
  obtain ⟨e, he, hu⟩ := List.mem_flatMap.1 hu
  simp only [En.cells, List.mem_cons, List.not_mem_nil, or_false] at hu
  rcases hu with rfl | rfl | rfl | rfl | rfl | rfl
  all_goals first | rfl | exact h e he
theorem one_cells {e : En} (h : e.rv.oneCell' = true) : e.cells.toArray.all (·.oneCell') = true := by
  rw [List.all_toArray, List.all_eq_true]
  have := one_En (es := [e]) (by simpa using h)
  simpa [flatE] using this
theorem flatE_take_drop (l : List En) (k : Nat) (hk : k ≤ l.length) : (flatE l).take (k * 6) = flatE (l.take k) ∧ (flatE l).drop (k * 6) = flatE (l.drop k) := by
  have e : flatE l = flatE (l.take k) ++ flatE (l.drop k) := by rw [← flatE_append, List.take_append_drop]
  have hl : (flatE (l.take k)).length = k * 6 := by rw [flatE_len, List.length_take, Nat.min_eq_left hk]
  rw [e]
  exact ⟨by rw [← hl, List.take_left], by rw [← hl, List.drop_left]⟩
/-- a stretch of whole entries of a row is another one -/
theorem flatE_splice (l m : List En) (tail : List Value) (k : Nat) (hk : k + m.length ≤ l.length) :
    (flatE l ++ tail).take (k * 6) ++ flatE m ++ (flatE l ++ tail).drop (k * 6 + (flatE m).length) = flatE (l.take k ++ m ++ l.drop (k + m.length)) ++ tail := by
  have h1 := flatE_take_drop l k (by omega)
  have h2 := flatE_take_drop l (k + m.length) hk
  rw [List.take_append_of_le_length (by rw [flatE_len]; omega), h1.1, flatE_len, show k * 6 + m.length * 6 = (k + m.length) * 6 by omega,
    List.drop_append_of_le_length (by rw [flatE_len]; omega), h2.2, flatE_append, flatE_append]
  simp [List.append_assoc]
theorem zero_En (n : Nat) : (Builtin.zeroCells zE.cells.toArray n).toList = flatE (List.replicate n zE) := by
  refine List.ext_getElem? (fun t => ?_)
  have hs : zE.cells.toArray.size = 6 := rfl
  rcases Nat.lt_or_ge t (n * 6) with h | h
  · have hk : t / 6 < n := by omega
    have hj : t % 6 < 6 := Nat.mod_lt _ (by decide)
    have := flatE_at (List.replicate n zE) (t / 6) (t % 6) zE (zE.cells[t % 6]'(by rw [En.len]; exact hj)) (by rw [List.getElem?_replicate, if_pos hk]) (List.getElem?_eq_getElem _)
    rw [show t / 6 * 6 + t % 6 = t by omega] at this
    rw [this, Array.getElem?_toList, Builtin.zeroCells, hs, Array.getElem?_map, Array.getElem?_range, if_pos h]
    simp only [Option.map_some]
    rw [getElem!_pos _ _ (by rw [hs]; exact hj)]
    rfl
  · rw [List.getElem?_eq_none (by rw [Array.length_toList, size_zeroCells, hs]; exact h), List.getElem?_eq_none (by rw [flatE_len, List.length_replicate]; exact h)]
theorem grown_trans {a b c : World} {g : Nat} (h : a.grownBy b (some g)) (k : b.grownBy c (some g)) : a.grownBy c (some g) :=
  ⟨k.os.trans h.os, k.tape.trans h.tape, k.output.trans h.output, Nat.le_trans h.size k.size, fun i hi hne => (k.block i (Nat.lt_of_lt_of_le hi h.size) hne).trans (h.block i hi hne)⟩
theorem grown_below {a b : World} {g : Nat} (h : Below a.heap.size a b) : a.grownBy b (some g) := ⟨h.os, h.tape, h.output, h.size, fun k hk _ => h.block k hk⟩
theorem grown_cell {w w' : World} {b k o : Nat} {v : Value} (hg : w.grownBy w' (some b)) (hc : w.cell? ⟨k, o, none⟩ = some v) (hne : k ≠ b) : w'.cell? ⟨k, o, none⟩ = some v :=
  hg.cell hc (by simpa using hne)
theorem filter_none {es : List En} {now : Nat} (h : ∀ e ∈ es, nC now e = false) : es.filter (cnt now) = es := by
  rw [List.filter_eq_self]
  intro e he
  have := h e he
  unfold nC at this
  simpa using this
theorem kept_filter (es : List En) (now : Nat) : keptUpTo (fun j => cnt now es.toArray[j]!) es.toArray es.length = es.filter (cnt now) := by
  have := keptUpTo_filter (cnt now) es.toArray
  simpa using this
theorem ret_sl {A : Option Addr} {n m c : Nat} (h : n = m) : Ending.returned (.slice A n c) = .returned (.slice A m c) := by rw [h]
def DelPost (g cap : Nat) (es : List En) (n : Nat) (tail : List Value) (w : World) (e : Ending) (w' : World) : Prop :=
  e = .returned (.slice (some ⟨g, 0, none⟩) es.length cap) ∧ w'.heap[g]? = some (.cells (flatE (es ++ List.replicate (n - es.length) zE) ++ tail).toArray 58 (0, 0)) ∧ w.grownBy w' (some g)
/-- the world within the loop -/
structure DAt (w wr : World) (g B now : Nat) (dk : List En) (tail : List Value) : Prop where
  row : wr.heap[g]? = some (.cells (flatE dk ++ tail).toArray 58 (0, 0))
  grown : w.grownBy wr (some g)
  box : wr.cell? ⟨B, 0, none⟩ = some (.int .i64 now)
theorem DAt.below {w wr w2 : World} {g B now : Nat} {dk : List En} {tail : List Value} (h : DAt w wr g B now dk tail) (hb : Below wr.heap.size wr w2) : DAt w w2 g B now dk tail :=
  ⟨(hb.block g (heap_lt h.row)).trans h.row, grown_trans h.grown (grown_below hb), by
    have hlt := World.block_lt_of_cell? wr _ h.box
    exact (hb.cell hlt).trans h.box⟩
theorem DAt.put {w wr w2 : World} {g B now : Nat} {dk dk' : List En} {tail : List Value} (h : DAt w wr g B now dk tail) (hne : B ≠ g) (hr : w2.heap[g]? = some (.cells (flatE dk' ++ tail).toArray 58 (0, 0))) (hg : wr.grownBy w2 (some g)) : DAt w w2 g B now dk' tail :=
  ⟨hr, grown_trans h.grown hg, grown_cell hg h.box hne⟩
set_option maxRecDepth 100000 in
set_option maxHeartbeats 4000000 in
theorem deleteFunc_e (g cap B now : Nat) (es : List En) (tail : List Value) (w : World) (hg : w.heap[g]? = some (.cells (flatE es ++ tail).toArray 58 (0, 0))) (hl : es.length ≤ 1000) (hcap : es.length ≤ cap) (hcm : cap ≤ maxLen)
    (hfit : ∀ e ∈ es, e.Fits) (h1 : ∀ e ∈ es, e.rv.oneCell' = true) (hB : w.cell? ⟨B, 0, none⟩ = some (.int .i64 now)) (hne : B ≠ g) (hn : now ≤ big) :
    Calls Try.prog 19 #[.slice (some ⟨g, 0, none⟩) es.length cap, .func (.func 20) #[] #[.pointer (some ⟨B, 0, none⟩)]] w
      fun e w' => DelPost g cap (es.filter (cnt now)) es.length tail w e w' := by
  unfold maxLen at hcm
  have hBlt := World.block_lt_of_cell? w _ hB
  have hIF := indexFunc_e (some ⟨g, 0, none⟩) cap es hl 20 #[.pointer (some ⟨B, 0, none⟩)] (enters_of Try.func20 (by kernel_rfl) rfl) (nC now) w (EntsAt.of_row hg)
    (fun W x hx hW => expire1_e B now x (hfit x hx) hn W ((hW.cell hBlt).trans hB))
  have HCL := Lib.hid (fun (W : World) (x : En) (hx : x ∈ es) (hW : W.cell? ⟨B, 0, none⟩ = some (.int .i64 now)) => expire1_e B now x (hfit x hx) hn W hW)
  have H1 := Lib.hid h1
  have HNE := Lib.hid hne
  have HD0 : Hid (DAt w w g B now es tail) := Lib.hid ⟨hg, ⟨rfl, rfl, rfl, Nat.le_refl _, fun _ _ _ => rfl⟩, hB⟩
  have HZ := Lib.hid zeroEn
  have HK : Hid (keptUpTo (fun j => cnt now es.toArray[j]!) es.toArray es.length = es.filter (cnt now)) := Lib.hid (kept_filter es now)
  obtain ⟨kp, HKP⟩ : ∃ kp : Nat → Bool, Hid (kp = fun j => cnt now es.toArray[j]!) := ⟨_, rfl⟩
  clear hBlt hfit h1 hB hne hg hn
  go_enter Try.func19, Try.ntmps19
  go_wp2_with fail
  refine hIF.mono ?_
  rintro e w0 ⟨r, rfl, hI, hb0⟩
  have HD1 := Lib.hid (HD0.out.below hb0)
  clear hIF hb0 HD0
  rcases hI with ⟨rfl, hall⟩ | ⟨k0, e0, rfl, hk0, hp0, hall⟩
  · have HF := Lib.hid (filter_none hall)
    clear hall
    go_wp2_with fail
    go_ret
    exact ⟨ret_sl (by rw [HF.out]), by rw [HF.out, Nat.sub_self, List.replicate_zero, List.append_nil]; exact HD1.out.row, HD1.out.grown⟩
  · have hk0l : k0 < es.length := (List.getElem?_eq_some_iff.1 hk0).1
    have hge : ∀ j e', es[j]? = some e' → es.toArray[j]! = e' := fun j e' h => by
      obtain ⟨hj, he⟩ := List.getElem?_eq_some_iff.1 h
      rw [getElem!_pos es.toArray j (by simpa using hj)]
      simpa using he
    have HST : Hid (KeptInv kp es.toArray (k0 + 1) k0 es.toArray) := Lib.hid (KeptInv.start (fun j hj => by
        rw [HKP.out]
        show cnt now es.toArray[j]! = true
        have hje : es[j]? = some (es[j]'(by omega)) := List.getElem?_eq_getElem _
        have := hall j _ hj hje
        rw [hge j _ hje]
        unfold nC at this
        simpa using this) (by
        rw [HKP.out]
        show cnt now es.toArray[k0]! = false
        rw [hge k0 _ hk0]
        unfold nC at hp0
        simpa using hp0))
    have HGE := Lib.hid hge
    have hne1 : ((k0 : Int) == -1) = false := beq_eq_false_iff_ne.2 (by omega)
    clear hall hge hp0 hk0
    go_wp2_with fail
    go_loopg [5, 6, 7] es.length (fun gg s5 s6 _ wr => ∃ (i j : Nat) (dk : Array En), s5 = .int .i64 i ∧ s6 = .int .i64 j ∧ j ≤ es.length ∧ es.length - j ≤ gg ∧ i < j ∧ Hid (DAt w wr g B now dk.toList tail) ∧ Hid (KeptInv kp es.toArray j i dk))
    case atStart => exact ⟨k0, k0 + 1, es.toArray, rfl, by go_num, by omega, by omega, by omega, HD1, HST⟩
    case round =>
      obtain ⟨i, j, dk, rfl, rfl, hjl, hgg, hij, HD, HI⟩ := hrel
      by_cases hlt : j < es.length
      · have hltz : (j : Int) < (es.length : Int) := by omega
        obtain ⟨u, hu⟩ : ∃ u, es[j]? = some u := ⟨_, List.getElem?_eq_getElem hlt⟩
        have hds : dk.size = es.length := HI.out.size
        have hdj : dk.toList[j]? = some u := by
          have := HI.out.high j (by omega)
          rw [HGE.out j u hu, getElem!_pos dk j (by omega)] at this
          rw [Array.getElem?_toList, Array.getElem?_eq_getElem (by omega), this]
        obtain ⟨g', hg', _, hc⟩ := (EntsAt.of_row HD.out.row) (by rw [Array.length_toList]; omega)
        obtain rfl : g = g' := by injection hg' with h; injection h
        have HC : Hid (∀ t v, u.cells.toArray.toList[t]? = some v → wr.cell? ((⟨g, j * 6, none⟩ : Addr).add t) = some v) := Lib.hid (hc j u hdj)
        have Z := Lib.hid (sizeEn u)
        have ZS : Hid (zE.cells.toArray.size = u.cells.toArray.size) := Lib.hid rfl
        have O1 := Lib.hid (one_cells (H1.out u (List.mem_of_getElem? hu)))
        have HD2 := Lib.hid (HD.out.below ((Below.refl _ wr).alloc (Nat.le_refl _) (.cells u.cells.toArray 58)))
        have HCALL := HCL.out _ u (List.mem_of_getElem? hu) HD2.out.box
        have HKJ : Hid (kp j = !nC now u) := Lib.hid (by rw [HKP.out]; show cnt now es.toArray[j]! = _; rw [HGE.out j u hu]; simp [nC])
        have HNEW : Hid ((((flatE dk.toList ++ tail).toArray.toList.take (i * 6)) ++ u.cells.toArray.toList ++ (flatE dk.toList ++ tail).toArray.toList.drop (i * 6 + u.cells.toArray.size)).toArray = (flatE (dk.setIfInBounds i u).toList ++ tail).toArray) := Lib.hid (by
          have h := flatE_splice dk.toList [u] tail i (by rw [Array.length_toList]; simp; omega)
          have e1 : flatE [u] = u.cells := by simp [flatE]
          rw [e1] at h
          rw [show (flatE dk.toList ++ tail).toArray.toList = flatE dk.toList ++ tail from rfl, show u.cells.toArray.toList = u.cells from rfl, show u.cells.toArray.size = u.cells.length from rfl, h, Array.toList_setIfInBounds, List.set_eq_take_append_cons_drop, if_pos (by rw [Array.length_toList]; omega)]
          simp)
        have HSZ : Hid (i * 6 + u.cells.toArray.size ≤ (flatE dk.toList ++ tail).toArray.size) := Lib.hid (by
          rw [show u.cells.toArray.size = 6 from rfl, List.size_toArray, List.length_append, flatE_len, Array.length_toList]; omega)
        have HU := Lib.hid (HGE.out j u hu)
        clear hc hdj hu hds hg'
        revert HC Z ZS O1 HD2 HCALL HNEW HSZ HKJ
        generalize nC now u = bb
        generalize u.cells.toArray = cs
        intro HC Z ZS O1 HD2 HCALL HKJ HNEW HSZ
        cases bb with
        | false =>
          go_wp2_with (first
            | (refine wpList_load_agg rfl 58 (.tmp 24) rfl ⟨g, j * 6, none⟩ rfl cs _ HC.out Try.underlying58 rfl Z.out ?_; go_simp)
            | (refine wpList_alloc_z rfl 58 rfl zE.cells.toArray HZ.out ?_; go_simp)
            | (refine wpList_store_new rfl 58 (.tmp 7) (.tmp 25) rfl wr.heap.size rfl zE.cells.toArray cs 58 rfl rfl Z.out ZS.out O1.out ?_; go_simp)
            | (refine wpList_load_row rfl 58 (.tmp 7) rfl wr.heap.size rfl 58 cs (0, 0) _ (heap_alloc_last wr _) Try.underlying58 rfl Z.out ?_; go_simp))
          refine HCALL.mono ?_
          rintro e w2 ⟨rfl, hb2⟩
          have HD3 := Lib.hid (HD2.out.below hb2)
          have HV := Lib.hid ((hb2.block wr.heap.size (by simp)).trans (heap_alloc_last wr (.cells cs 58)))
          have HK2 := Lib.hid (HI.out.keep (by simpa using hlt) HKJ.out)
          clear hb2 HCALL
          go_wp2_with (first
            | (refine wpList_load_row rfl 58 (.tmp 7) rfl wr.heap.size rfl 58 cs (0, 0) _ HV.out Try.underlying58 rfl Z.out ?_; go_simp)
            | (refine wpList_store_sub rfl 58 (.tmp 33) (.tmp 32) rfl g (i * 6) (flatE dk.toList ++ tail).toArray cs _ 58 HD3.out.row rfl rfl Z.out HSZ.out O1.out HNEW.out ?_; intro w3 hr3 hg3 hs3; have HD4 := Lib.hid (HD3.out.put HNE.out hr3.out hg3.out); clear hr3 hg3 hs3; go_simp))
          go_roundg (es.length - (j + 1))
          case measure => omega
          case rel => exact ⟨i + 1, j + 1, dk.setIfInBounds i u, by go_num, by go_num, by omega, Nat.le_refl _, by omega, HD4, by rw [HU.out] at HK2; exact HK2⟩
        | true =>
          go_wp2_with (first
            | (refine wpList_load_agg rfl 58 (.tmp 24) rfl ⟨g, j * 6, none⟩ rfl cs _ HC.out Try.underlying58 rfl Z.out ?_; go_simp)
            | (refine wpList_alloc_z rfl 58 rfl zE.cells.toArray HZ.out ?_; go_simp)
            | (refine wpList_store_new rfl 58 (.tmp 7) (.tmp 25) rfl wr.heap.size rfl zE.cells.toArray cs 58 rfl rfl Z.out ZS.out O1.out ?_; go_simp)
            | (refine wpList_load_row rfl 58 (.tmp 7) rfl wr.heap.size rfl 58 cs (0, 0) _ (heap_alloc_last wr _) Try.underlying58 rfl Z.out ?_; go_simp))
          refine HCALL.mono ?_
          rintro e w2 ⟨rfl, hb2⟩
          have HD3 := Lib.hid (HD2.out.below hb2)
          have HK2 := Lib.hid (HI.out.skip HKJ.out)
          clear hb2 HCALL
          go_wp2_with fail
          go_roundg (es.length - (j + 1))
          case measure => omega
          case rel => exact ⟨i, j + 1, dk, rfl, by go_num, by omega, Nat.le_refl _, by omega, HD3, HK2⟩
      · obtain rfl : j = es.length := by omega
        have hic : i < cap := by omega
        have hltz : ¬ (es.length : Int) < (es.length : Int) := by omega
        have hds : dk.size = es.length := HI.out.size
        have hdl : dk.toList.length = es.length := hds
        have HCLR : Hid (∀ ty, (Builtin.clear_ #[53] ty #[.slice (some ⟨g, i * 6, none⟩) (es.length - i) (cap - i)]).run Try.prog wr = .ok (.tuple #[]) (wr.setRow g (flatE (dk.toList.take i ++ List.replicate (es.length - i) zE) ++ tail).toArray)) := Lib.hid (fun ty => by
          have hfl := flatE_splice dk.toList (List.replicate (es.length - i) zE) tail i (by rw [hdl, List.length_replicate]; omega)
          have hdr : dk.toList.drop (i + (List.replicate (es.length - i) zE).length) = [] := List.drop_eq_nil_of_le (by rw [hdl, List.length_replicate]; omega)
          rw [hdr, List.append_nil] at hfl
          rw [run_clear_row wr 53 58 ty zE.cells.toArray Try.underlying53 HZ.out g (i * 6) (es.length - i) (cap - i) (by omega) _ 58 HD.out.row (flatE (List.replicate (es.length - i) zE)) (zero_En _)
            (by rw [show (flatE dk.toList ++ tail).toArray.size = (flatE dk.toList ++ tail).length from rfl, List.length_append, flatE_len, flatE_len, List.length_replicate, hdl]; omega) (one_En (fun e he => by rw [List.eq_of_mem_replicate he]; rfl))]
          rw [show (flatE dk.toList ++ tail).toArray.toList = flatE dk.toList ++ tail from rfl, hfl])
        obtain ⟨W', HW⟩ : ∃ W', Hid (wr.setRow g (flatE (dk.toList.take i ++ List.replicate (es.length - i) zE) ++ tail).toArray = W') := ⟨_, Lib.hid rfl⟩
        have hclr := HCLR.out
        rw [HW.out] at hclr
        clear HCLR
        have HFI : Hid (es.filter (cnt now) = dk.toList.take i ∧ (es.filter (cnt now)).length = i) := Lib.hid (by
          have hk := HK.out
          have hkp := HKP.out
          rw [← hkp] at hk
          have h1 := HI.out.len
          have h2 := HI.out.low
          rw [hk] at h1 h2
          refine ⟨?_, h1⟩
          refine List.ext_getElem? (fun t => ?_)
          rcases Nat.lt_or_ge t i with h | h
          · rw [h2 t h, List.getElem?_take, if_pos h, getElem!_pos dk t (by omega), Array.getElem?_toList, Array.getElem?_eq_getElem (by omega)]
          · rw [List.getElem?_eq_none (by omega), List.getElem?_eq_none (by rw [List.length_take]; omega)])
        have HX : Hid (W'.heap[g]? = some (.cells (flatE (dk.toList.take i ++ List.replicate (es.length - i) zE) ++ tail).toArray 58 (0, 0)) ∧ w.grownBy W' (some g)) := Lib.hid (by
          rw [← HW.out]
          exact ⟨setRow_heap wr g _ _ _ _ HD.out.row, grown_trans HD.out.grown ⟨rfl, rfl, rfl, by simp, fun k _ hk => setRow_other wr g k _ (fun e => hk (by rw [e]))⟩⟩)
        go_wp2_with fail
        go_ret
        exact ⟨ret_sl HFI.out.2.symm, by rw [HFI.out.2, HFI.out.1]; exact HX.out.1, HX.out.2⟩
end Go.Proofs.Ytiifanenomebeaa
