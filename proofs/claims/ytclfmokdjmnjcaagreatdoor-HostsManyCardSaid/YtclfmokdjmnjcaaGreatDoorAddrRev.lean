/-
  An address that lies in a block of its own; two addresses held against one another. Conditions: sixteen bytes.
  The walks of addr.digit, halves, backwards and Reverse: an address's reverse name. Conditions: sixteen bytes; the library's variables hold what their initialisers lay.
-/
import Derived.Test.YtclfmokdjmnjcaaGreatDoorAddrV4
import Derived.Test.YtclfmokdjmnjcaaGreatDoorAddrPrint
import Derived.Test.YtclfmokdjmnjcaaGreatDoorAddrRevMath
import Derived.ArgAppend
import Derived.Laws.MakeOwn
import Derived.Laws.OwnMore
import Derived.Lib.LazyBuf
namespace Go.Proofs.YtclfmokdjmnjcaaGreatDoor
open Go.RowKit

/-- block g holds this address -/
def Row (w : World) (g : Nat) (cs : Array Value) : Prop := w.heap[g]? = some (.cells cs 28 (0, 0))
theorem Row.below {w w' : World} {g : Nat} {cs : Array Value} (h : Row w g cs) (hb : Below w.heap.size w w') : Row w' g cs := (hb.block g (heap_lt h)).trans h
theorem Row.alloc {w : World} {g : Nat} {cs : Array Value} (h : Row w g cs) (o : Obj) : Row (w.alloc o) g cs := h.below ((Below.refl _ w).alloc (Nat.le_refl _) o)
theorem Row.new (w : World) (cs : Array Value) : Row (w.alloc (.cells cs 28)) w.heap.size cs := heap_alloc_last w _
theorem run_eq_addr (W : World) {x y : List UInt8} (hx : x.length = 16) (hy : y.length = 16) : (Op.equalIn 10000 28 (.agg (bvs x).toArray) (.agg (bvs y).toArray)).run Tryz.prog W = .ok (x == y) W := eq_addr 9998 W hx hy
end Go.Proofs.YtclfmokdjmnjcaaGreatDoor
namespace Go.Proofs.YtclfmokdjmnjcaaGreatDoor
open Go.RowKit

theorem digit_e (k : Nat) (hk : k < 16) (w : World) (he : AEnv w) :
    Calls Tryz.prog 49 #[.int .u8 k] w fun e w' => e = .returned (.string (tb [hexD k])) ∧ Below w.heap.size w w' := by
  have hf := fmt16 k (by omega) w he
  rw [show hexN k = [hexD k] by unfold hexN; rw [if_pos hk]] at hf
  have hk0 : (0 : Int) ≤ (k : Int) := by omega
  have hk1 : (k : Int) < 16 := by omega
  go_enter Tryz.func49, Tryz.ntmps49
  go_wp2_with (go_at_call 69; refine hf.mono ?_; rintro e w' ⟨rfl, hb⟩)
  go_ret
  exact ⟨rfl, hb⟩

/-- block g begins with these texts, has room for c, and may be written -/
structure Rw (w : World) (g : Nat) (ys : List ByteArray) (c : Nat) : Prop where
  lt : g < w.heap.size
  le : ys.length ≤ c
  cells : ∀ j, j < ys.length → w.cell? ⟨g, j, none⟩ = some (.string (ys.getD j ByteArray.empty))
  there : ∀ j, j < c → (w.cell? ⟨g, j, none⟩).isSome = true ∧ w.frozen? ⟨g, j, none⟩ = false
theorem Rw.of_strs {w : World} {g : Nat} {ys : List ByteArray} (h : StrsF w g ys) : Rw w g ys ys.length :=
  ⟨h.lt, Nat.le_refl _, h.cells, fun j hj => ⟨by rw [h.cells j hj]; rfl, h.free j hj⟩⟩
theorem Rw.strs {w : World} {g : Nat} {ys : List ByteArray} {c : Nat} (h : Rw w g ys c) : StrsF w g ys := ⟨h.lt, h.cells, fun j hj => (h.there j (Nat.lt_of_lt_of_le hj h.le)).2⟩
theorem Rw.below {w w' : World} {g : Nat} {ys : List ByteArray} {c : Nat} (h : Rw w g ys c) (hb : Below w.heap.size w w') : Rw w' g ys c :=
  ⟨Nat.lt_of_lt_of_le h.lt hb.size, h.le, fun j hj => (hb.cell (p := ⟨g, j, none⟩) h.lt).trans (h.cells j hj), fun j hj => by
    rw [hb.cell (p := ⟨g, j, none⟩) h.lt, hb.frozen (p := ⟨g, j, none⟩) h.lt]; exact h.there j hj⟩
theorem Rw.of_own {w : World} {base g n cap : Nat} {ys : List ByteArray} (h : w.ownsRow base 9 1 (.slice (some ⟨g, 0, none⟩) n cap) n (ys.map Value.string)) : Rw w g ys cap ∧ ys.length = n ∧ base ≤ g := by
  obtain ⟨h1, h2⟩ := h
  rw [List.length_map, Nat.mul_one] at h1
  rcases h2 with ⟨e, _⟩ | ⟨g', cap', cur, e, hb, hg, hc, hm, hs, ht⟩
  · cases e
  · injection e with e1 e2 e3
    injection e1 with e1
    injection e1 with e1 _ _
    subst e1
    subst e3
    rw [Nat.mul_one] at ht hs
    refine ⟨⟨(Array.getElem?_eq_some_iff.1 hg).1, by omega, fun j hj => ?_, fun j hj => ?_⟩, h1, hb⟩
    · rw [cell_of_row w g j cur 9 (0, 0) hg, ← Array.getElem?_toList]
      have : (cur.toList.take n)[j]? = some (.string (ys.getD j ByteArray.empty)) := by
        rw [ht, List.getElem?_map, List.getD_eq_getElem?_getD, List.getElem?_eq_getElem hj]; rfl
      rwa [List.getElem?_take_of_lt (by omega)] at this
    · refine ⟨?_, frozen_of_row w g j cur 9 hg⟩
      rw [cell_of_row w g j cur 9 (0, 0) hg, Array.getElem?_eq_getElem (by omega)]; rfl
theorem getD_snoc {ys : List ByteArray} {y : ByteArray} {j : Nat} (h : j < (ys ++ [y]).length) : (ys ++ [y]).getD j ByteArray.empty = if j < ys.length then ys.getD j ByteArray.empty else y := by
  rw [List.length_append, List.length_singleton] at h
  by_cases l : j < ys.length
  · rw [if_pos l, List.getD_eq_getElem?_getD, List.getElem?_append_left l, ← List.getD_eq_getElem?_getD]
  · rw [if_neg l, List.getD_eq_getElem?_getD, List.getElem?_append_right (by omega), show j - ys.length = 0 by omega]; rfl
section
variable {ops : Array Oper} {rest : List Oper} {o : Oper} {a : Act} {Q : Exit → Act → World → Prop} {w : World}
set_option maxRecDepth 100000 in
/-- one text more behind such a row -/
theorem wpList_append_rw (hgd : o.guard = none) (s x : Operand) (ho : o.op = .call { callee := .builtin .append, args := #[s, x], argTypes := #[29, 29] })
    (base g n c : Nat) (ys : List ByteArray) (hs : a.eval s = .slice (some ⟨g, 0, none⟩) n c) (hrw : Rw w g ys c) (hn : ys.length = n) (hn1 : n ≤ 1000000) (hg : base ≤ g) (hbase : base ≤ w.heap.size)
    (ad : Addr) (c1 : Nat) (y : ByteArray) (hx : a.eval x = .slice (some ad) 1 c1) (hy : w.cell? ad = some (.string y))
    (h : ∀ g' c' w', base ≤ g' → Rw w' g' (ys ++ [y]) c' → Below base w w' → wpList Tryz.prog ops Q rest (a.put o.dst (.slice (some ⟨g', 0, none⟩) (n + 1) c')) w') : wpList Tryz.prog ops Q (o :: rest) a w := by
  subst hn
  obtain ⟨i0, hi, hz0, hz1, hz2⟩ := info_parts (show (Tryz.prog.info? 9).map (fun i => (i.zero, i.size, i.bytes)) = some (some (.string ⟨#[]⟩), 1, 16) by kernel_rfl)
  have hnew : ∀ j u, [Value.string y][j]? = some u → w.cell? (ad.add j) = some u := fun j u hj => by
    match j, hj with
    | 0, hj =>
      rw [List.getElem?_cons_zero, Option.some.injEq] at hj
      subst hj
      exact hy
    | j + 1, hj => simp at hj
  refine wpList_append_arg w hgd s x 29 ho 9 i0 (.string ⟨#[]⟩) 1 16 Tryz.underlying29 hi hz0 hz1 hz2 rfl (by decide) g 0 ys.length c (ys.map Value.string) hs (by rw [List.length_map, Nat.mul_one]) (fun j u hj => ?_) ad 1 c1 [.string y] hx rfl hnew (fun u hu => by rw [List.mem_singleton.1 hu]; rfl)
    (fun hr j hj => ?_) (by unfold maxLen; omega) (by omega) (fun hr => ?_) (fun hr v' w' h1 h2 => ?_)
  · rw [List.getElem?_map] at hj
    rcases Nat.lt_or_ge j ys.length with hl | hl
    · rw [List.getElem?_eq_getElem hl] at hj
      injection hj with hj
      rw [Nat.zero_add, hrw.cells j hl, ← hj, List.getD_eq_getElem?_getD, List.getElem?_eq_getElem hl]; rfl
    · rw [List.getElem?_eq_none hl] at hj; cases hj
  · rw [Nat.zero_add, Nat.mul_one]
    have : j < 1 := hj
    exact hrw.there _ (by omega)
  · have hin := World.cell?_setCells_in g [Value.string y] (0 + ys.length * 1) w (fun j hj => by
      have : j < 1 := hj
      exact (hrw.there _ (by omega)).1)
    refine h g c _ hg ⟨?_, ?_, fun j hj => ?_, fun j hj => ⟨?_, ?_⟩⟩ (below_setCells hg _ _ _ (Below.refl base w))
    · rw [show (w.setCells g (0 + ys.length * 1) [Value.string y]).heap.size = w.heap.size from World.size_setCell _ _ _]
      exact hrw.lt
    · rw [List.length_append, List.length_singleton]; exact hr
    · rw [getD_snoc hj]
      by_cases l : j < ys.length
      · rw [if_pos l, World.cell?_setCells_out g _ _ _ _ (fun _ _ => .inl (by show j < 0 + ys.length * 1; omega))]
        exact hrw.cells j l
      · rw [if_neg l]
        rw [List.length_append, List.length_singleton] at hj
        have := hin 0 Nat.one_pos
        rw [show 0 + ys.length * 1 + 0 = j by omega] at this
        exact this
    · by_cases l : j = ys.length
      · subst l
        have := hin 0 Nat.one_pos
        rw [show 0 + ys.length * 1 + 0 = ys.length by omega] at this
        rw [this]; rfl
      · rw [World.cell?_setCells_out g _ _ _ _ (fun _ _ => by
          rcases Nat.lt_or_ge j ys.length with h | h
          · exact .inl (by show j < 0 + ys.length * 1; omega)
          · exact .inr (by show 0 + ys.length * 1 + 1 ≤ j; omega))]
        exact (hrw.there j hj).1
    · rw [World.frozen?_setCells]
      exact (hrw.there j hj).2
  · rw [show ys.map Value.string ++ [Value.string y] = (ys ++ [y]).map Value.string by rw [List.map_append]; rfl] at h1
    have hne : v' ≠ .slice none 0 0 := fun e => by
      have := h1.2
      rw [e] at this
      rcases this with ⟨_, h0⟩ | ⟨_, _, _, e', _⟩
      · omega
      · cases e'
    rcases h1.2 with ⟨e, _⟩ | ⟨g', cap', cur, e, rest'⟩
    · exact absurd e hne
    · subst e
      obtain ⟨hr1, hr2, hr3⟩ := Rw.of_own h1
      exact h g' cap' w' (Nat.le_trans hbase hr3) hr1 ((Below.refl base w).grown h2 hbase fun k hk => by cases hk)
set_option maxRecDepth 100000 in
/-- several texts more behind a row of the call's own -/
theorem wpList_append_strs (hgd : o.guard = none) (s x : Operand) (ho : o.op = .call { callee := .builtin .append, args := #[s, x], argTypes := #[29, 29] })
    (base n m : Nat) (v : Value) (xs ys : List ByteArray) (hs : a.eval s = v) (hown : w.ownsRow base 9 1 v n (xs.map Value.string)) (hn : n + m ≤ 1000000) (hbase : base ≤ w.heap.size)
    (ad : Addr) (c1 : Nat) (hx : a.eval x = .slice (some ad) m c1) (hl : ys.length = m) (hy : ∀ j, j < m → w.cell? (ad.add j) = some (.string (ys.getD j ByteArray.empty)))
    (h : ∀ v' w', w'.ownsRow base 9 1 v' (n + m) ((xs ++ ys).map Value.string) → Below base w w' → wpList Tryz.prog ops Q rest (a.put o.dst v') w') : wpList Tryz.prog ops Q (o :: rest) a w := by
  obtain ⟨i0, hi, hz0, hz1, hz2⟩ := info_parts (show (Tryz.prog.info? 9).map (fun i => (i.zero, i.size, i.bytes)) = some (some (.string ⟨#[]⟩), 1, 16) by kernel_rfl)
  refine wpList_append_own (w := w) hgd s x 29 ho base 9 i0 (.string ⟨#[]⟩) 1 16 Tryz.underlying29 hi hz0 hz1 hz2 rfl (by decide) v n (xs.map Value.string) hs hown ad m c1 (ys.map Value.string) hx (by rw [List.length_map, hl, Nat.mul_one]) (fun j u hj => ?_)
    (fun u hu => by obtain ⟨y, _, rfl⟩ := List.mem_map.1 hu; rfl) (by unfold maxLen; omega) (by omega) hbase (fun v' w' h2 h3 _ => h v' w' (by rw [List.map_append]; exact h2) ((Below.refl _ _).grown h3 hbase fun k hk => (hown.lt k hk).1))
  rw [List.getElem?_map] at hj
  rcases Nat.lt_or_ge j ys.length with hlt | hlt
  · rw [List.getElem?_eq_getElem hlt] at hj
    injection hj with hj
    rw [hy j (by omega), ← hj, List.getD_eq_getElem?_getD, List.getElem?_eq_getElem hlt]; rfl
  · rw [List.getElem?_eq_none hlt] at hj; cases hj
end
theorem below_drewQ {B : Nat} {a w : World} (h : Below B a w) (q : Nat) : Below B a (w.drewN q) := ⟨h.os, h.tape, h.output, h.size, h.block⟩
theorem strsOf_rev (ys : List ByteArray) : (Lib.strsOf (fun i => ys.getD i ByteArray.empty) ys.length).reverse.map encStr = ys.reverse.map Value.string := by
  have h : (Lib.strsOf (fun i => ys.getD i ByteArray.empty) ys.length).map encStr = ys.map Value.string := by
    unfold Lib.strsOf
    rw [List.map_map]
    apply List.ext_getElem?
    intro i
    rw [List.getElem?_map, List.getElem?_map]
    rcases Nat.lt_or_ge i ys.length with hi | hi
    · rw [List.getElem?_range hi, List.getElem?_eq_getElem hi]
      simp [encStr, List.getD_eq_getElem?_getD, List.getElem?_eq_getElem hi]
    · rw [List.getElem?_eq_none (by rw [List.length_range]; exact hi), List.getElem?_eq_none hi]; rfl
  rw [List.map_reverse, h, List.map_reverse]
theorem reverse_e (g c : Nat) (ys : List ByteArray) (w : World) (h : Rw w g ys c) (hn : ys.length ≤ 1000) :
    Calls Tryz.prog 47 #[.slice (some ⟨g, 0, none⟩) ys.length c] w fun e w' => e = .returned (.tuple #[]) ∧ Rw w' g ys.reverse c ∧ ∀ B, B ≤ g → Below B w w' := by
  refine (Tryz.slices_Reverse_string_cells g 0 ys.length c (fun i => ys.getD i ByteArray.empty) w (by omega) (fun i hi => by rw [Nat.zero_add]; exact h.cells i hi) (fun j hj => by rw [Nat.zero_add]; exact (h.there j (Nat.lt_of_lt_of_le hj h.le)).2)).mono ?_
  rintro e w' ⟨rfl, q, rfl⟩
  rw [strsOf_rev]
  have hd : ∀ x, (w.drewN q).cell? x = w.cell? x := fun _ => rfl
  have hin := World.cell?_setCells_in g (ys.reverse.map Value.string) 0 (w.drewN q) (fun j hj => by
    rw [List.length_map, List.length_reverse] at hj
    rw [Nat.zero_add, hd]
    exact (h.there j (Nat.lt_of_lt_of_le hj h.le)).1)
  have hl := h.le
  refine ⟨rfl, ⟨?_, by rw [List.length_reverse]; exact h.le, fun j hj => ?_, fun j hj => ⟨?_, ?_⟩⟩, fun B hB => below_setCells hB _ _ _ (below_drewQ (Below.refl B w) q)⟩
  · exact Nat.lt_of_lt_of_le h.lt (below_setCells (Nat.le_refl g) (ys.reverse.map Value.string) 0 (w.drewN q) (below_drewQ (Below.refl g w) q)).size
  · have := hin j (by rw [List.length_map]; exact hj)
    rw [Nat.zero_add] at this
    rw [this, List.getElem_map, List.getD_eq_getElem?_getD, List.getElem?_eq_getElem hj]; rfl
  · exact World.isSome_setCells g _ _ _ _ (by rw [hd]; exact (h.there j hj).1)
  · rw [World.frozen?_setCells]
    exact (h.there j hj).2
set_option maxRecDepth 100000 in
set_option maxHeartbeats 1000000 in
theorem backwards_e (g c n : Nat) (ys : List ByteArray) (d : ByteArray) (T : List UInt8) (w : World) (he : AEnv w) (base : Nat) (hbase : base ≤ g) (hbw : base ≤ w.heap.size) (hE : 0 < base) (h : Rw w g ys c) (hn : ys.length = n) (hn1 : n ≤ 100)
    (hT : jn ((ys.reverse ++ [d]).map (·.data.toList)) = T) (hl : T.length ≤ 100000) :
    Calls Tryz.prog 30 #[.slice (some ⟨g, 0, none⟩) n c, .string d] w fun e w' => e = .returned (.string (tb T)) ∧ Below base w w' := by
  subst hn
  have hR := reverse_e g c ys w h (by omega)
  have HE := Lib.hid he
  have HL := Lib.hid hl
  have HT := Lib.hid hT
  have hnl : (ys.length : Int) ≤ 100 := by omega
  clear he h hl hT
  go_enter Tryz.func30, Tryz.ntmps30
  go_wp2_with fail
  refine hR.mono ?_
  rintro e w1 ⟨rfl, hrw, hb1⟩
  have HRW := Lib.hid hrw
  have HB1 := Lib.hid (hb1 base hbase)
  clear hR hb1 hrw
  have hsz : w.heap.size ≤ w1.heap.size := HB1.out.size
  go_wp2_with (first
    | (refine wpList_append_rw rfl (.tmp 7) (.tmp 9) rfl base g ys.length c ys.reverse rfl (HRW.out.below ((Below.refl _ w1).alloc (Nat.le_refl _) _)) (by rw [List.length_reverse]) (by omega) hbase (by rw [World.size_alloc]; omega) ⟨w1.heap.size, 0, none⟩ 1 d rfl (by rw [World.cell?_alloc_mark]; rfl) ?_; intro g' c' w2 hg' hrw2 hb2; have HRW2 := Lib.hid hrw2; have HB2 := Lib.hid (HB1.out.trans (((Below.refl _ w1).alloc (by omega) _).trans hb2)); clear hrw2 hb2; go_simp))
  have he2 : Env w2 := ⟨Nat.lt_of_lt_of_le HE.out.env.1 HB2.out.size, HE.out.env.2.imp fun _ hm => (HB2.out.cell (p := ⟨0, 0, none⟩) hE).trans hm⟩
  have hj := join_e g' c' (ys.reverse ++ [d]) w2 he2 HRW2.out.strs.strs HRW2.out.le (by rw [List.length_append, List.length_reverse]; show ys.length + 1 ≤ _; omega) (by rw [HT.out]; have := HL.out; omega)
  rw [show (ys.reverse ++ [d]).length = ys.length + 1 by rw [List.length_append, List.length_reverse]; rfl, HT.out] at hj
  refine hj.mono ?_
  rintro e w3 ⟨rfl, hb3, _⟩
  go_wp2
  go_ret
  exact ⟨rfl, HB2.out.trans (hb3.mono (by have := HB2.out.size; omega))⟩

theorem index_bv (r : Array Value) (k : Nat) (v : Value) (hk : k < 16) (hr : r[k]? = some v) (W : World) : (Instr.index 28 (.agg r) (.int .i64 (k : Int))).run Tryz.prog W = .ok v W := by
  have hk' : (0 : Int) ≤ (k : Int) ∧ (k : Int) < 16 := by omega
  unfold Instr.index
  simp [asIntOf, run_underlying Tryz.underlying28, hk', part, sizeOfU8 W, hr, Sem.run_bind]
  intro h
  omega
theorem own_step {W W' : World} {B e size n : Nat} {v : Value} {xs : List Value} (h : W.ownsRow B e size v n xs) (hb : Below W.heap.size W W') : W'.ownsRow B e size v n xs :=
  h.kept (row := none) ⟨hb.os, hb.tape, hb.output, hb.size, fun k hk _ => hb.block k hk⟩ (by cases hq : v.ownBlock with | none => exact .inl rfl | some k => exact .inr (by simp))
theorem half_lo (c : UInt8) : bits BinOp.and IntKind.u8 (c.toNat : Int) 15 = (c.toNat : Int) % 16 := by
  have h : ∀ k : Fin 256, bits BinOp.and IntKind.u8 (k.val : Int) 15 = (k.val : Int) % 16 := by decide +kernel
  exact h ⟨c.toNat, c.toNat_lt⟩
theorem halfL_take {a : List UInt8} {k : Nat} (h : k < a.length) : halfL (a.take (k + 1)) = halfL (a.take k) ++ [[hexD ((a.getD k 0).toNat / 16)], [hexD ((a.getD k 0).toNat % 16)]] := by
  rw [List.take_succ_eq_append_getElem h]
  unfold halfL
  rw [List.flatMap_append, List.getD_eq_getElem?_getD, List.getElem?_eq_getElem h]
  simp
def HvPost (w : World) (a : List UInt8) (e : Ending) (w' : World) : Prop := ∃ g c, e = .returned (.slice (some ⟨g, 0, none⟩) 32 c) ∧ w.heap.size ≤ g ∧ Rw w' g ((halfL a).map tb) c ∧ Below w.heap.size w w'
set_option maxRecDepth 100000 in
set_option maxHeartbeats 1000000 in
theorem halves_e (a : List UInt8) (ha : a.length = 16) (w : World) (he : AEnv w) : Calls Tryz.prog 32 #[.agg (bvs a).toArray] w (HvPost w a) := by
  have hS := sizeBv ha
  have hu := Tryz.underlying28
  have hat : ∀ j, j < 16 → (bvs a).toArray[j]? = some (.int .u8 (a.getD j 0).toNat) := fun j hj => by rw [List.getElem?_toArray]; exact bvs_at (by omega)
  obtain ⟨r, hr⟩ : ∃ r, r = (bvs a).toArray := ⟨_, rfl⟩
  simp only [← hr] at hS hat ⊢
  have hb0 : Below w.heap.size w (w.alloc (.cells r 28)) := (Below.refl _ w).alloc (Nat.le_refl _) _
  obtain ⟨i0, hi, hz0, hz1, hz2⟩ := info_parts (show (Tryz.prog.info? 9).map (fun i => (i.zero, i.size, i.bytes)) = some (some (.string ⟨#[]⟩), 1, 16) by kernel_rfl)
  obtain ⟨W0, hmk, hown0, hg0⟩ := run_make_own (P := Tryz.prog) (w.alloc (.cells r 28)) w.heap.size 29 9 i0 _ 1 Tryz.underlying29 hi hz0 hz1 .i64 .i64 32 (by rw [hz2]; decide) (by unfold maxLen; decide) (by rw [World.size_alloc]; omega)
  have hbw0 : Below w.heap.size w W0 := hb0.grown hg0 (by rw [World.size_alloc]; omega) (fun k hk => by cases hk)
  have hrow : W0.heap[w.heap.size]? = some (.cells r 28 (0, 0)) := by
    rw [hg0.block _ (by rw [World.size_alloc]; omega) (by simp)]
    exact heap_alloc_last w _
  rw [World.size_alloc] at hmk hown0
  replace hmk : (Instr.makeSlice 29 (.int .i64 0) (.int .i64 32)).run Tryz.prog (w.alloc (.cells r 28)) = .ok (.slice (some ⟨w.heap.size + 1, 0, none⟩) 0 32) W0 := hmk
  have HE := Lib.hid he
  have HB0 := Lib.hid hbw0
  have HR0 := Lib.hid hrow
  have HS := Lib.hid hS
  have HA := Lib.hid hat
  have HO := Lib.hid hown0
  clear hS hat hr hb0 hown0 hg0 hbw0 hrow he
  go_enter Tryz.func32, Tryz.ntmps32
  go_wp2_with (first
    | (refine wpList_load_row rfl 28 (.tmp 1) rfl w.heap.size rfl 28 r (0, 0) _ HR0.out hu rfl HS.out ?_; go_simp))
  go_loopw [8, 3, 5] (fun i l _ wr => ∃ k : Nat, k ≤ 16 ∧ i = .int .i64 k ∧ wr.ownsRow w.heap.size 9 1 l (2 * k) (((halfL (a.take k)).map tb).map Value.string) ∧ Below w.heap.size w wr) (fun i _ _ _ => 16 - (intOf i).toNat)
  case atStart => exact ⟨0, by omega, rfl, HO.out, HB0.out⟩
  case round =>
    obtain ⟨k, hk, rfl, hown, hbw⟩ := hrel
    by_cases hlt : k < 16
    · have hix := fun W => index_bv r k _ hlt (HA.out k hlt) W
      have htk := halfL_take (a := a) (k := k) (by omega)
      have HTK := Lib.hid htk
      have HO1 := Lib.hid hown
      have HB1 := Lib.hid hbw
      have HE1 := Lib.hid (HE.out.below hbw)
      clear htk hown hbw
      generalize a.getD k 0 = c at hix HTK
      have hc := c.toNat_lt
      have hlo := half_lo c
      have hd1 : ∀ W, AEnv W → Calls Tryz.prog 49 #[.int .u8 ((c.toNat : Int) / 16)] W fun e w' => e = .returned (.string (tb [hexD (c.toNat / 16)])) ∧ Below W.heap.size W w' := fun W hW => by
        rw [show (c.toNat : Int) / 16 = ((c.toNat / 16 : Nat) : Int) by omega]; exact digit_e _ (by omega) W hW
      have hd2 : ∀ W, AEnv W → Calls Tryz.prog 49 #[.int .u8 ((c.toNat : Int) % 16)] W fun e w' => e = .returned (.string (tb [hexD (c.toNat % 16)])) ∧ Below W.heap.size W w' := fun W hW => by
        rw [show (c.toNat : Int) % 16 = ((c.toNat % 16 : Nat) : Int) by omega]; exact digit_e _ (by omega) W hW
      generalize hx1 : tb [hexD (c.toNat / 16)] = x1 at hd1
      generalize hx2 : tb [hexD (c.toNat % 16)] = x2 at hd2
      have HX1 := Lib.hid hx1
      have HX2 := Lib.hid hx2
      have HD1 := Lib.hid hd1
      have HD2 := Lib.hid hd2
      clear hd1 hd2 hx1 hx2
      go_wp2_with fail
      refine (HD1.out _ HE1.out).mono ?_
      rintro e w2 ⟨rfl, hb2⟩
      have HB2 := Lib.hid (HB1.out.trans (hb2.mono HB1.out.size))
      have HE2 := Lib.hid (HE1.out.below hb2)
      have HO2 := Lib.hid (own_step HO1.out hb2)
      clear hb2
      go_wp2_with fail
      refine (HD2.out _ HE2.out).mono ?_
      rintro e w3 ⟨rfl, hb3⟩
      have HB3 := Lib.hid (HB2.out.trans (hb3.mono HB2.out.size))
      have HO3 := Lib.hid (own_step HO2.out hb3)
      clear hb3
      have hsz := HB3.out.size
      have hcells : ∀ j, j < 2 → (w3.alloc (.cells #[.string x1, .string x2] 9)).cell? ((⟨w3.heap.size, 0, none⟩ : Addr).add j) = some (.string ([x1, x2].getD j ByteArray.empty)) := fun j hj => by
        rw [Addr.add_lit, Nat.zero_add, World.cell?_alloc_mark]
        match j, hj with
        | 0, _ => rfl
        | 1, _ => rfl
      have HCe := Lib.hid hcells
      have HNx : Hid ((halfL (a.take k)).map tb ++ [x1, x2] = (halfL (a.take (k + 1))).map tb) := Lib.hid (by rw [HTK.out, List.map_append, ← HX1.out, ← HX2.out]; rfl)
      clear hcells
      go_wp2_with (first
        | (refine wpList_append_strs rfl (.tmp 11) (.tmp 18) rfl w.heap.size (2 * k) 2 _ ((halfL (a.take k)).map tb) [x1, x2] rfl (HO3.out.alloc _) (by omega) (by rw [World.size_alloc]; omega) ⟨w3.heap.size, 0, none⟩ 2 rfl rfl HCe.out ?_; intro v' w4 hown4 hb4; rw [HNx.out] at hown4; have HO4 := Lib.hid hown4; have HB4 := Lib.hid (HB3.out.trans (((Below.refl _ w3).alloc (Nat.le_refl _) _).mono hsz |>.trans hb4)); clear hown4 hb4; go_simp))
      go_roundw
      case rel => exact ⟨k + 1, by omega, by go_num, HO4.out, HB4.out⟩
      case measure => simp [intOf]; omega
    · obtain rfl : k = 16 := by omega
      rw [show a.take 16 = a from List.take_of_length_le (by omega)] at hown
      have hl : (halfL a).length = 32 := by rw [halfL_length, ha]
      rcases hown.2 with ⟨e, h0⟩ | ⟨g, cap, cur, e, rest'⟩
      · omega
      · subst e
        obtain ⟨hr1, hr2, hr3⟩ := Rw.of_own hown
        have HR := Lib.hid (show HvPost w a (.returned (.slice (some ⟨g, 0, none⟩) 32 cap)) wr from ⟨g, cap, rfl, hr3, hr1, hbw⟩)
        clear hown rest' hr1 hr2 hr3 hl
        go_wp2
        go_ret
        exact HR.out
theorem jn_le63 : ∀ (ys : List (List UInt8)), (∀ y ∈ ys, y.length ≤ 63) → (jn ys).length ≤ 64 * ys.length
  | [], _ => by simp [jn]
  | [y], h => by have := h y (by simp); show y.length ≤ 64 * 1; omega
  | y :: z :: t, h => by
    have := h y (by simp)
    have ih := jn_le63 (z :: t) fun x hx => h x (List.mem_cons_of_mem _ hx)
    have e : (y :: z :: t).length = (z :: t).length + 1 := rfl
    rw [jn_cons y (by simp), List.length_append, List.length_cons, e]
    omega
theorem rvT_len {a : List UInt8} (h : a.length = 16) : (rvT a).length ≤ 64 * 33 := by
  unfold rvT
  split
  · refine Nat.le_trans (jn_le63 _ fun y hy => ?_) (by rw [List.length_append, List.length_reverse, decs4_length h]; decide)
    rcases List.mem_append.1 hy with hy | hy
    · rw [List.mem_reverse] at hy
      have := (decs y hy).len
      omega
    · rw [List.mem_singleton.1 hy]; decide
  · refine Nat.le_trans (jn_le63 _ fun y hy => ?_) (by rw [List.length_append, List.length_reverse, halfL_length, h]; decide)
    rcases List.mem_append.1 hy with hy | hy
    · rw [List.mem_reverse] at hy
      obtain ⟨k, _, rfl⟩ := halfL_mem hy
      show 1 ≤ 63
      omega
    · rw [List.mem_singleton.1 hy]; decide
theorem data_tb (xs : List (List UInt8)) (d : List UInt8) : (((xs.map tb).reverse ++ [tb d]).map (·.data.toList)) = xs.reverse ++ [d] := by
  rw [List.map_append, List.map_reverse, List.map_map]
  show (xs.map fun x => x).reverse ++ [d] = _
  rw [List.map_id']
set_option maxRecDepth 100000 in
set_option maxHeartbeats 1000000 in
theorem rv_e (a : List UInt8) (ha : a.length = 16) (w : World) (he : AEnv w) :
    Calls Tryz.prog 16 #[.agg (bvs a).toArray] w fun e w' => e = .returned (.string (tb (rvT a))) ∧ Below w.heap.size w w' := by
  have hbx : Below w.heap.size w (w.alloc (.cells (bvs a).toArray 28)) := (Below.refl _ w).alloc (Nat.le_refl _) _
  have H4 := fun W => is4_e a ha W
  have HHal := fun W (hW : AEnv W) => halves_e a ha W hW
  have hu := Tryz.underlying28
  have hsz : (Tryz.prog.info? 28).map (·.size) = some (bvs a).toArray.size := sizeBv ha
  have hrow : ∀ wr : World, Below (w.alloc (.cells (bvs a).toArray 28)).heap.size (w.alloc (.cells (bvs a).toArray 28)) wr → wr.heap[w.heap.size]? = some (.cells (bvs a).toArray 28 (0, 0)) := fun wr hb => by
    rw [hb.block _ (by rw [World.size_alloc]; exact Nat.lt_succ_self _)]; exact heap_alloc_last w _
  have hsl : ∀ W : World, (Instr.sliceAt 28 (.pointer (some ⟨w.heap.size, 0, none⟩)) (some (.int .i64 12)) none none).run Tryz.prog W = .ok (.slice (some ⟨w.heap.size, 12, none⟩) 4 4) W := fun W => by kernel_rfl
  have h12 : ∀ wr : World, wr.heap[w.heap.size]? = some (.cells (bvs a).toArray 28 (0, 0)) → ∀ j, j < 4 → wr.cell? ⟨w.heap.size, 12 + j, none⟩ = some (.int .u8 ((a.drop 12).getD j 0).toNat) := fun wr hr j hj => by
    rw [cell_of_row wr _ _ _ _ _ hr, List.getElem?_toArray, bvs_at (by omega)]
    simp [List.getD]
  have hdl : (a.drop 12).length = 4 := by rw [List.length_drop, ha]
  have ht4 : isV4 a = true → jn (((((a.drop 12).map fun (c : UInt8) => tb (decN c.toNat)).reverse) ++ [ByteArray.mk #[105, 110, 45, 97, 100, 100, 114, 46, 97, 114, 112, 97]]).map fun (z : ByteArray) => z.data.toList) = rvT a := fun h => by
    unfold rvT
    rw [if_pos h]
    have := data_tb (decs4 a) INADDR
    unfold decs4 at this ⊢
    rw [List.map_map] at this
    exact congrArg jn this
  have ht6 : isV4 a = false → jn ((((halfL a).map tb).reverse ++ [ByteArray.mk #[105, 112, 54, 46, 97, 114, 112, 97]]).map fun (z : ByteArray) => z.data.toList) = rvT a := fun h => by
    unfold rvT
    rw [if_neg (by rw [h]; decide)]
    exact congrArg jn (data_tb (halfL a) IP6)
  have hlen := rvT_len ha
  obtain ⟨d, hd⟩ : ∃ d, d = a.drop 12 := ⟨_, rfl⟩
  obtain ⟨T, hT⟩ : ∃ T, T = rvT a := ⟨_, rfl⟩
  obtain ⟨cs, hcs⟩ : ∃ cs, cs = (bvs a).toArray := ⟨_, rfl⟩
  rw [← hd] at hdl h12 ht4
  rw [← hT] at ht4 ht6 hlen ⊢
  rw [← hcs] at hbx hsz hrow h12 ⊢
  simp only [← hcs] at H4 HHal
  have hEn := he.env.1
  have HX := Lib.hid hbx
  have H4' := Lib.hid H4
  have HHal' := Lib.hid HHal
  have HR := Lib.hid hrow
  have H12 := Lib.hid h12
  have HT4 := Lib.hid ht4
  have HT6 := Lib.hid ht6
  have HDL := Lib.hid hdl
  have HLn := Lib.hid hlen
  have HE := Lib.hid he
  have HSZ := Lib.hid hsz
  have HEn := Lib.hid hEn
  clear H4 HHal hrow h12 ht4 ht6 hdl hlen hbx he hsz hd hT hcs hEn
  have HR0 := Lib.hid (HR.out _ (Below.refl _ _))
  go_enter Tryz.func16, Tryz.ntmps16
  go_wp2_with (first
    | (refine wpList_load_row rfl 28 (.tmp 1) rfl w.heap.size rfl 28 cs (0, 0) _ HR0.out hu rfl HSZ.out ?_; go_simp))
  refine (H4'.out _).mono ?_
  rintro e w1 ⟨rfl, hb1⟩
  have HR1 := Lib.hid (HR.out _ hb1)
  have HB1 := Lib.hid (HX.out.trans (hb1.mono HX.out.size))
  have HE1 := Lib.hid (HE.out.below HB1.out)
  clear hb1
  cases h4 : isV4 a
  · have HT := Lib.hid (HT6.out h4)
    clear HT6 HT4
    go_wp2_with (first
      | (refine wpList_load_row rfl 28 (.tmp 1) rfl w.heap.size rfl 28 cs (0, 0) _ HR1.out hu rfl HSZ.out ?_; go_simp))
    refine (HHal'.out _ HE1.out).mono ?_
    rintro e w2 ⟨g, c, rfl, hg, hrw, hb2⟩
    have HB2 := Lib.hid (HB1.out.trans (hb2.mono HB1.out.size))
    have HRW := Lib.hid hrw
    have hbk := backwards_e g c 32 ((halfL a).map tb) _ T w2 (HE.out.below HB2.out) w.heap.size (Nat.le_trans HB1.out.size hg) HB2.out.size HEn.out hrw (by rw [List.length_map, halfL_length, ha]) (by omega) HT.out (by have := HLn.out; omega)
    clear hb2 hrw hg
    go_wp2_with fail
    refine hbk.mono ?_
    rintro e w3 ⟨rfl, hb3⟩
    go_wp2
    go_ret
    exact ⟨rfl, HB2.out.trans hb3⟩
  · have HT := Lib.hid (HT4.out h4)
    clear HT6 HT4
    have hdec := decs_e w.heap.size 12 4 d w1 HE1.out (heap_lt HR1.out) (fun j hj => H12.out _ HR1.out j (by rw [← HDL.out]; exact hj)) (by rw [HDL.out]; decide)
    rw [HDL.out] at hdec
    go_wp2_with fail
    refine hdec.mono ?_
    rintro e w2 ⟨rfl, hb2, hs2⟩
    have HB2 := Lib.hid (HB1.out.trans (hb2.mono HB1.out.size))
    have hrw := Rw.of_strs hs2
    rw [show (d.map fun c => tb (decN c.toNat)).length = 4 by rw [List.length_map]; exact HDL.out] at hrw
    have hbk := backwards_e w1.heap.size 4 4 (d.map fun c => tb (decN c.toNat)) _ T w2 (HE.out.below HB2.out) w.heap.size HB1.out.size HB2.out.size HEn.out hrw (by rw [List.length_map]; exact HDL.out) (by omega) HT.out (by have := HLn.out; omega)
    clear hdec hb2 hs2 hrw
    go_wp2_with fail
    refine hbk.mono ?_
    rintro e w3 ⟨rfl, hb3⟩
    go_wp2
    go_ret
    exact ⟨rfl, HB2.out.trans hb3⟩
end Go.Proofs.YtclfmokdjmnjcaaGreatDoor
