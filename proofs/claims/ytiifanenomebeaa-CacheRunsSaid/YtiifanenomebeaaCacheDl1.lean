/-
  The walk of slices.Delete of one entry. Conditions: at most 1000 entries; the place is one of theirs.
-/
import Derived.Test.YtiifanenomebeaaCacheDel
import Derived.Shelf.RegionOpenPlain
namespace Go.Proofs.Ytiifanenomebeaa
open Go.RowKit Go.Lib

theorem step_append_row {P : Program} {ops : Array Oper} {o : Oper} {a : Act} {w : World} {K : Act → World → Prop} {Q : Exit → Act → World → Prop} {E : Prop}
    (hg : o.guard = none) (s x : Operand) (t : TypeId) (hop : o.op = Op.call { callee := Callee.builtin Builtin.append, args := #[s, x], argTypes := #[t, t] })
    (e : TypeId) (i : TypeInfo) (size : Nat) (h1 : P.underlying t = some (.slice e)) (h2 : P.info? e = some i) (h4 : i.size = size)
    (b n cap : Nat) (hs : a.eval s = .slice (some ⟨b, 0, none⟩) n cap) (cur : Array Value) (hr : w.heap[b]? = some (.cells cur e (0, 0)))
    (ad : Addr) (m c : Nat) (news : List Value) (hx : a.eval x = .slice (some ad) m c) (hn : news.length = m * size) (hc : ∀ j u, news[j]? = some u → w.cell? (ad.add j) = some u) (h1c : ∀ u ∈ news, u.oneCell' = true)
    (hroom : n + m ≤ cap) (hfit : n * size + news.length ≤ cur.size)
    (hK : K (a.put o.dst (.slice (some ⟨b, 0, none⟩) (n + m) cap)) (w.setRow b (cur.toList.take (n * size) ++ news ++ cur.toList.drop (n * size + news.length)).toArray)) :
    if Region.wanted o (yielded ops a.tmps) = true then Oper.wp P o a w K Q else E := by
  have hw : Region.wanted o (yielded ops a.tmps) = true := by simp [Region.wanted, hg]
  rw [if_pos hw]
  subst h4
  have hrun := run_append_room (P := P) w t o.type e i h1 h2 b n cap cur hr ad m c news hn hc h1c hroom hfit
  unfold Oper.wp execOp
  simp only [hop, resolve, invoke, builtin, Sem.run_bind, Sem.run_pure, Result.andThen_ok, List.map_toArray, List.map_cons, List.map_nil, hs, hx, hrun]
  exact hK
theorem info_En : ∃ i, Try.prog.info? 58 = some i ∧ i.zero = some (.agg zE.cells.toArray) ∧ i.size = 6 ∧ i.bytes = 72 := by
  obtain ⟨i0, hi, hz0, hz1, hz2⟩ := info_parts (show (Try.prog.info? 58).map (fun i => (i.zero, i.size, i.bytes)) = some (some (.agg zE.cells.toArray), 6, 72) by kernel_rfl)
  exact ⟨i0, hi, hz0, hz1, hz2⟩
theorem sl_at (cap i g : Nat) : ∃ A : Addr, (A = ⟨g, 0, none⟩ ∧ cap = i + 1) ∨ (A = ⟨g, (i + 1) * 6, none⟩ ∧ cap ≠ i + 1) := by
  by_cases h : cap = i + 1
  · exact ⟨_, .inl ⟨rfl, h⟩⟩
  · exact ⟨_, .inr ⟨rfl, h⟩⟩
set_option maxRecDepth 100000 in
set_option maxHeartbeats 4000000 in
theorem delete_e (g cap i : Nat) (es : List En) (tail : List Value) (w : World) (hg : w.heap[g]? = some (.cells (flatE es ++ tail).toArray 58 (0, 0))) (hl : es.length ≤ 1000) (hcap : es.length ≤ cap) (hcm : cap ≤ maxLen)
    (h1 : ∀ e ∈ es, e.rv.oneCell' = true) (hi : i < es.length) :
    Calls Try.prog 23 #[.slice (some ⟨g, 0, none⟩) es.length cap, .int .i64 i, .int .i64 ((i : Int) + 1)] w
      fun e w' => DelPost g cap (es.eraseIdx i) es.length tail w e w' := by
  unfold maxLen at hcm
  obtain ⟨i0, hi0, _, hz1, _⟩ := info_En
  have HZ := Lib.hid zeroEn
  obtain ⟨news, hnews⟩ : ∃ news, news = flatE (es.drop (i + 1)) := ⟨_, rfl⟩
  have s1 : Hid (news.length = (es.length - (i + 1)) * 6) := Lib.hid (by rw [hnews, flatE_len, List.length_drop])
  have s2 : Hid (∀ u ∈ news, u.oneCell' = true) := Lib.hid (by rw [hnews]; exact one_En (fun e he => h1 e (List.mem_of_mem_drop he)))
  have hsl : flatE (es.take i ++ es.drop (i + 1) ++ es.drop (i + (es.drop (i + 1)).length)) = flatE (es.eraseIdx i ++ es.drop (es.length - 1)) := by
    rw [List.eraseIdx_eq_take_drop_succ, List.length_drop, show i + (es.length - (i + 1)) = es.length - 1 by omega]
  have hnew : (flatE es ++ tail).take (i * 6) ++ news ++ (flatE es ++ tail).drop (i * 6 + news.length) = flatE (es.eraseIdx i ++ es.drop (es.length - 1)) ++ tail := by
    rw [hnews, flatE_splice es (es.drop (i + 1)) tail i (by rw [List.length_drop]; omega), hsl]
  obtain ⟨W1, hW1⟩ : ∃ W1, W1 = w.drew.setRow g ((flatE es ++ tail).toArray.toList.take (i * 6) ++ news ++ (flatE es ++ tail).toArray.toList.drop (i * 6 + news.length)).toArray := ⟨_, rfl⟩
  have hrow : w.drew.heap[g]? = some (.cells (flatE es ++ tail).toArray 58 (0, 0)) := hg
  have hr1 : W1.heap[g]? = some (.cells (flatE (es.eraseIdx i ++ es.drop (es.length - 1)) ++ tail).toArray 58 (0, 0)) := by
    rw [hW1, show (flatE es ++ tail).toArray.toList = flatE es ++ tail from rfl, hnew]
    exact setRow_heap w.drew g _ _ _ _ hrow
  have hg1 : w.grownBy W1 (some g) := by
    rw [hW1]
    exact ⟨rfl, rfl, rfl, Nat.le_of_eq (size_setRow w.drew g _).symm, fun k _ hk => setRow_other w.drew g k _ (fun e => hk (by rw [e]))⟩
  have hel : (es.eraseIdx i).length = es.length - 1 := List.length_eraseIdx_of_lt hi
  have HFIT : Hid (i * 6 + news.length ≤ (flatE es ++ tail).toArray.size) := Lib.hid (by rw [s1.out, show (flatE es ++ tail).toArray.size = (flatE es ++ tail).length from rfl, List.length_append, flatE_len]; omega)
  have HCLR : Hid (∀ ty, (Builtin.clear_ #[53] ty #[.slice (some ⟨g, (es.length - 1) * 6, none⟩) 1 (cap - (es.length - 1))]).run Try.prog W1 = .ok (.tuple #[]) (W1.setRow g (flatE (es.eraseIdx i ++ List.replicate 1 zE) ++ tail).toArray)) := Lib.hid (fun ty => by
    have hfl := flatE_splice (es.eraseIdx i ++ es.drop (es.length - 1)) (List.replicate 1 zE) tail (es.length - 1) (by rw [List.length_append, hel, List.length_drop, List.length_replicate]; omega)
    have hdr : (es.eraseIdx i ++ es.drop (es.length - 1)).drop (es.length - 1 + (List.replicate 1 zE).length) = [] := List.drop_eq_nil_of_le (by rw [List.length_append, hel, List.length_drop, List.length_replicate]; omega)
    have htk : (es.eraseIdx i ++ es.drop (es.length - 1)).take (es.length - 1) = es.eraseIdx i := by rw [← hel, List.take_left]
    rw [hdr, List.append_nil, htk] at hfl
    rw [run_clear_row W1 53 58 ty zE.cells.toArray Try.underlying53 HZ.out g ((es.length - 1) * 6) 1 _ (by omega) _ 58 hr1 (flatE (List.replicate 1 zE)) (zero_En _)
      (by rw [show (flatE (es.eraseIdx i ++ es.drop (es.length - 1)) ++ tail).toArray.size = (flatE (es.eraseIdx i ++ es.drop (es.length - 1)) ++ tail).length from rfl, List.length_append, flatE_len, flatE_len, List.length_replicate, List.length_append, hel, List.length_drop]; omega) (one_En (fun e he => by rw [List.eq_of_mem_replicate he]; rfl))]
    rw [show (flatE (es.eraseIdx i ++ es.drop (es.length - 1)) ++ tail).toArray.toList = flatE (es.eraseIdx i ++ es.drop (es.length - 1)) ++ tail from rfl, hfl])
  obtain ⟨W2, hW2⟩ : ∃ W2, W1.setRow g (flatE (es.eraseIdx i ++ List.replicate 1 zE) ++ tail).toArray = W2 := ⟨_, rfl⟩
  have HX : Hid (W2.heap[g]? = some (.cells (flatE (es.eraseIdx i ++ List.replicate (es.length - (es.eraseIdx i).length) zE) ++ tail).toArray 58 (0, 0)) ∧ w.grownBy W2 (some g)) := Lib.hid (by
    rw [← hW2, hel, show es.length - (es.length - 1) = 1 by omega]
    exact ⟨setRow_heap W1 g _ _ _ _ hr1, grown_trans hg1 ⟨rfl, rfl, rfl, by simp, fun k _ hk => setRow_other W1 g k _ (fun e => hk (by rw [e]))⟩⟩)
  have hclr := HCLR.out
  rw [hW2] at hclr
  have HW := Lib.hid hW1
  have HEL := Lib.hid hel
  have HR := Lib.hid hrow
  have HI0 := Lib.hid hi0
  have HZ1 := Lib.hid hz1
  obtain ⟨n, hn⟩ : ∃ n, es.length = n + 1 := ⟨es.length - 1, by omega⟩
  rw [show es.length - 1 = n by omega] at hclr
  have hin : i + (n - i) = n := by omega
  have HIN := Lib.hid hin
  have s1' : Hid (news.length = (n - i) * 6) := Lib.hid (by rw [s1.out, hn]; congr 1; omega)
  have HSRC : Hid (∀ A : Addr, ((A = ⟨g, 0, none⟩ ∧ cap = i + 1) ∨ (A = ⟨g, (i + 1) * 6, none⟩ ∧ cap ≠ i + 1)) → ∀ t u, news[t]? = some u → w.drew.cell? (A.add t) = some u) := Lib.hid (by
    rintro A (⟨rfl, h⟩ | ⟨rfl, h⟩) t u hu
    · have : t < news.length := (List.getElem?_eq_some_iff.1 hu).1
      rw [s1.out] at this
      omega
    · rw [hnews, ← (flatE_take_drop es (i + 1) (by omega)).2, List.getElem?_drop] at hu
      rw [Addr.add_lit, cell_of_row w.drew g _ _ _ _ hrow, List.getElem?_toArray, List.getElem?_append_left (List.getElem?_eq_some_iff.1 hu).1]
      exact hu)
  clear hin hnew hsl hr1 hg1 hel HCLR hW2 hW1 hrow hnews hg h1 hi0 hz1
  by_cases hc1 : cap = i + 1
  · have HS := Lib.hid (HSRC.out ⟨g, 0, none⟩ (.inl ⟨rfl, hc1⟩))
    clear HSRC
    obtain rfl : n = i := by omega
    subst hc1
    have q1 : (n : Int) ≤ (n : Int) + 1 := by omega
    have q2 : (0 : Int) ≤ (n : Int) + 1 := by omega
    have q3 : ((n : Int) + 1).toNat = n + 1 := by omega
    rw [show n + 1 - n = 1 by omega] at hclr
    go_enter Try.func23, Try.ntmps23
    go_wp2_with fail
    go_region_law (refine step_append_row rfl (.tmp 22) (.tmp 25) 53 rfl 58 i0 6 Try.underlying53 HI0.out HZ1.out g n (n + 1) (by simp [Act.eval, Act.put]) _ HR.out ⟨g, 0, none⟩ (n - n) 0 news (by simp [Act.eval, Act.put]) s1'.out HS.out s2.out (by omega) HFIT.out ?_; rw [HIN.out, ← HW.out])
    go_wp2_with fail
    go_ret
    exact ⟨ret_sl (by rw [HEL.out]; omega), HX.out.1, HX.out.2⟩
  · have HS := Lib.hid (HSRC.out ⟨g, (i + 1) * 6, none⟩ (.inr ⟨rfl, hc1⟩))
    clear HSRC
    have q1 : (i : Int) ≤ (i : Int) + 1 := by omega
    have q2 : (0 : Int) ≤ (i : Int) + 1 := by omega
    have q3 : ((i : Int) + 1).toNat = i + 1 := by omega
    have q4 : (i : Int) + 1 ≤ (n : Int) + 1 := by omega
    have q5 : (i : Int) ≤ (cap : Int) := by omega
    have q6 : (i : Int) + 1 ≤ (cap : Int) := by omega
    have q7 : ¬ cap = n := by omega
    have q8 : n + 1 - (i + 1) = n - i := by omega
    go_enter Try.func23, Try.ntmps23
    go_wp2_with fail
    go_region_law (refine step_append_row rfl (.tmp 22) (.tmp 25) 53 rfl 58 i0 6 Try.underlying53 HI0.out HZ1.out g i cap (by simp [Act.eval, Act.put]) _ HR.out ⟨g, (i + 1) * 6, none⟩ (n - i) (cap - (i + 1)) news (by simp [Act.eval, Act.put]) s1'.out HS.out s2.out (by omega) HFIT.out ?_; rw [HIN.out, ← HW.out])
    go_wp2_with fail
    go_ret
    exact ⟨ret_sl (by rw [HEL.out]; omega), HX.out.1, HX.out.2⟩
end Go.Proofs.Ytiifanenomebeaa
