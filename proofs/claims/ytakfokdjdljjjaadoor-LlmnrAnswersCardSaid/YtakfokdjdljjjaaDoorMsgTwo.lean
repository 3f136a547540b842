/-
  A writer as it stands in memory, and the walk of its method two: two bytes more. Conditions: each states its own.
-/
import Derived.Test.YtakfokdjdljjjaaDoorMsgMem
import Derived.Test.YtakfokdjdljjjaaDoorSplit
import Derived.Laws.AppendOwnNone
import Derived.OwnWalk
import Derived.Maps.Own
import Derived.Maps.OwnSet
namespace Go.Proofs.YtakfokdjdljjjaaDoor
open Go.RowKit Go.Maps

theorem infoU8 : (Tryd.prog.info? 5).map (fun i => (i.zero, i.size, i.bytes)) = some (some (.int .u8 0), 1, 1) := by kernel_rfl
theorem keyedS : Keyed Tryd.prog 9 := string_keyed Tryd.underlying9
/-- the map holds just what the table holds -/
structure MapIs (D : DataW Unit) (st : St) : Prop where
  map : IsMap D
  has : ∀ s, has D (.string s) = (st s).isSome
  val : ∀ s p, st s = some p → D.atKey (.string s) (.lit (.int .i64 0)) = .lit (.int .i64 (p : Nat))
  low : ∀ s p, st s = some p → p < 16384
theorem MapIs.empty : MapIs (.map []) (fun _ => none) := ⟨isMap_empty, fun _ => rfl, (fun _ _ h => by cases h), (fun _ _ h => by cases h)⟩
theorem MapIs.put {D : DataW Unit} {st : St} (h : MapIs D st) (s : List UInt8) (p : Nat) (hp : p < 16384) : MapIs (D.put (.string s) (.lit (.int .i64 (p : Nat)))) (st.put s p) := by
  refine ⟨h.map.put _ _, fun t => ?_, fun t q hq => ?_, fun t q hq => ?_⟩
  · unfold St.put
    by_cases e : t = s
    · subst e
      rw [if_pos rfl, has_put_same h.map (by simp [WideAt.IsKeyLit])]; rfl
    · rw [if_neg e, has_put_other (by simpa using e)]; exact h.has t
  · unfold St.put at hq
    by_cases e : t = s
    · subst e
      rw [if_pos rfl] at hq
      cases hq
      exact atKey_put_same h.map (by simp [WideAt.IsKeyLit]) _ _
    · rw [if_neg e] at hq
      rw [atKey_put_other (by simpa using e)]
      exact h.val t q hq
  · unfold St.put at hq
    by_cases e : t = s
    · subst e
      rw [if_pos rfl] at hq
      cases hq
      exact hp
    · rw [if_neg e] at hq
      exact h.low t q hq
/-- a block of a map's is none of cells -/
theorem map_ne {w : World} {mb n g : Nat} {D : DataW Unit} {k e t : TypeId} {cs : Array Value} {fr : Nat × Nat} (h : w.ownsMap Tryd.prog k (plainElem Tryd.prog e) mb n D) (hg : w.heap[g]? = some (.cells cs t fr)) : mb ≠ g := by
  rintro rfl
  obtain ⟨es, clock, hb, _⟩ := h
  rw [hb] at hg
  cases hg
theorem own_ne {w : World} {base g n : Nat} {e t : TypeId} {v : Value} {xs : List Value} {cs : Array Value} {fr : Nat × Nat} (h : w.ownsRow base e 1 v n xs) (hg : w.heap[g]? = some (.cells cs t fr)) (hne : e ≠ t) : v.ownBlock ≠ some g := by
  rcases h.2 with ⟨rfl, _⟩ | ⟨g', cap, cur, rfl, _, hh, _⟩
  · simp [Value.ownBlock]
  · intro he
    have : g' = g := by simpa [Value.ownBlock] using he
    subst this
    rw [hg] at hh
    injection hh with hh
    injection hh with _ ht
    exact hne ht.symm
theorem own_map_ne {w : World} {base mb m n : Nat} {e k e' : TypeId} {v : Value} {xs : List Value} {D : DataW Unit} (h : w.ownsRow base e 1 v n xs) (hm : w.ownsMap Tryd.prog k (plainElem Tryd.prog e') mb m D) : v.ownBlock ≠ some mb := by
  rcases h.2 with ⟨rfl, _⟩ | ⟨g', cap, cur, rfl, _, hh, _⟩
  · simp [Value.ownBlock]
  · intro he
    have : g' = mb := by simpa [Value.ownBlock] using he
    subst this
    exact map_ne hm hh rfl

/-- what is no writer's own is as it was -/
def Keeps (w w' : World) : Prop := ∀ (k : Nat) (cs : Array Value) (t : TypeId) (fr : Nat × Nat), t ≠ 5 → t ≠ 58 → w.heap[k]? = some (.cells cs t fr) → w'.heap[k]? = some (.cells cs t fr)
theorem Keeps.refl (w : World) : Keeps w w := fun _ _ _ _ _ _ h => h
theorem Keeps.trans {a b c : World} (h : Keeps a b) (h' : Keeps b c) : Keeps a c := fun k cs t fr h1 h2 hk => h' k cs t fr h1 h2 (h k cs t fr h1 h2 hk)
theorem Keeps.drew {a b : World} (h : Keeps a b) : Keeps a b.drew := h
theorem Keeps.below {w w' : World} (hb : Below w.heap.size w w') : Keeps w w' := fun k _ _ _ _ _ hk => (hb.block k (Array.getElem?_eq_some_iff.1 hk).1).trans hk
theorem Keeps.alloc {a b : World} (h : Keeps a b) (o : Obj) : Keeps a (b.alloc o) := h.trans (.below ((Below.refl _ b).alloc (Nat.le_refl _) o))
/-- a writer as it stands in memory: its bytes, and where names stand in them -/
structure WIs (base : Nat) (w : World) (g : Nat) (b : List UInt8) (st : St) (v : Value) (mb n : Nat) (D : DataW Unit) : Prop where
  blk : w.heap[g]? = some (.cells #[v, .map (some mb)] 58 (0, 0))
  row : w.ownsRow base 5 1 v b.length (bvs b)
  map : w.ownsMap Tryd.prog 9 (plainElem Tryd.prog 3) mb n D
  hmb : base ≤ mb
  hn : n ≤ b.length + 1
  is : MapIs D st
  hg : base ≤ g
  hb : base ≤ w.heap.size
  len : b.length ≤ 100000000
def WHas (base : Nat) (w : World) (g : Nat) (b : List UInt8) (st : St) (v : Value) : Prop := ∃ mb n D, WIs base w g b st v mb n D ∧ n ≤ b.length
def WAt (base : Nat) (w : World) (g : Nat) (b : List UInt8) (st : St) : Prop := ∃ v mb n D, WIs base w g b st v mb n D ∧ n ≤ b.length
theorem WHas.at_ {base g : Nat} {w : World} {b : List UInt8} {st : St} {v : Value} (h : WHas base w g b st v) : WAt base w g b st := by
  obtain ⟨mb, n, D, h⟩ := h
  exact ⟨v, mb, n, D, h⟩
theorem WIs.lt {base g mb n : Nat} {w : World} {b : List UInt8} {st : St} {v : Value} {D : DataW Unit} (h : WIs base w g b st v mb n D) : g < w.heap.size := (Array.getElem?_eq_some_iff.1 h.blk).1
theorem WIs.alloc {base g mb n : Nat} {w : World} {b : List UInt8} {st : St} {v : Value} {D : DataW Unit} (h : WIs base w g b st v mb n D) (o : Obj) : WIs base (w.alloc o) g b st v mb n D :=
  ⟨(Below.heap_alloc w o g h.lt).trans h.blk, h.row.alloc o, h.map.alloc o, h.hmb, h.hn, h.is, h.hg, by rw [World.size_alloc]; have := h.hb; omega, h.len⟩
theorem WIs.drew {base g mb n : Nat} {w : World} {b : List UInt8} {st : St} {v : Value} {D : DataW Unit} (h : WIs base w g b st v mb n D) : WIs base w.drew g b st v mb n D :=
  ⟨h.blk, h.row.drew, h.map.drew, h.hmb, h.hn, h.is, h.hg, h.hb, h.len⟩
/-- what is kept where nothing of a writer's is written -/
theorem WIs.below {base g mb n : Nat} {w w' : World} {b : List UInt8} {st : St} {v : Value} {D : DataW Unit} (h : WIs base w g b st v mb n D) (hb : Below w.heap.size w w') : WIs base w' g b st v mb n D := by
  have hgr : w.grownBy w' none := ⟨hb.os, hb.tape, hb.output, hb.size, fun k hk _ => hb.block k hk⟩
  exact ⟨(hb.block g h.lt).trans h.blk, h.row.kept hgr (Classical.em _), h.map.kept hgr (by simp), h.hmb, h.hn, h.is, h.hg, Nat.le_trans h.hb hb.size, h.len⟩
theorem WAt.below {base g : Nat} {w w' : World} {b : List UInt8} {st : St} (h : WAt base w g b st) (hb : Below w.heap.size w w') : WAt base w' g b st := by
  obtain ⟨v, mb, n, D, h, hn⟩ := h
  exact ⟨v, mb, n, D, h.below hb, hn⟩
/-- the bytes behind which others are laid, and the writer's field told so -/
theorem WIs.app {base g mb n : Nat} {w w1 : World} {b c : List UInt8} {st : St} {v v1 : Value} {D : DataW Unit} (h : WIs base w g b st v mb n D) (hrow : w1.ownsRow base 5 1 v1 (b ++ c).length (bvs (b ++ c)))
    (hgr : w.grownBy w1 v.ownBlock) (hl : (b ++ c).length ≤ 100000000) : WIs base (w1.setCell ⟨g, 0, none⟩ v1) g (b ++ c) st v1 mb n D := by
  have h1 : w1.heap[g]? = some (.cells #[v, .map (some mb)] 58 (0, 0)) := (hgr.block g h.lt (fun e => own_ne h.row h.blk (by decide) e.symm)).trans h.blk
  have h2 : w1.ownsMap Tryd.prog 9 (plainElem Tryd.prog 3) mb n D := h.map.kept hgr (fun e => own_map_ne h.row h.map e.symm)
  have hne : v1.ownBlock ≠ some g := own_ne hrow h1 (by decide)
  have hs := hgr.size
  have hgs : w1.grownBy (w1.setCell ⟨g, 0, none⟩ v1) (some g) := ⟨rfl, rfl, rfl, by simp, fun k _ hk => Below.heap_setCell _ _ _ _ (fun e => hk (by rw [e]))⟩
  refine ⟨?_, hrow.kept hgs (.inr hne), h2.kept hgs (fun e => map_ne h2 h1 (by injection e)), h.hmb, by have := h.hn; rw [List.length_append]; omega, h.is, h.hg, by simp; have := h.hb; omega, hl⟩
  rw [heap_setCell_same w1 g 0 _ _ _ h1]
  rfl

theorem WIs.keeps {base g mb n : Nat} {w w1 : World} {b : List UInt8} {st : St} {v : Value} {D : DataW Unit} (h : WIs base w g b st v mb n D) (hgr : w.grownBy w1 v.ownBlock) (u : Value) : Keeps w (w1.setCell ⟨g, 0, none⟩ u) := fun k cs t fr h1 h2 hk => by
  have hlt : k < w.heap.size := (Array.getElem?_eq_some_iff.1 hk).1
  have e1 := (hgr.block k hlt (fun e => own_ne h.row hk (fun e' => h1 e'.symm) e.symm)).trans hk
  rw [Below.heap_setCell w1 ⟨g, 0, none⟩ u k (fun e => by
    simp only at e
    subst e
    rw [h.blk] at hk
    injection hk with hk
    injection hk with _ ht
    exact h2 ht.symm)]
  exact e1
theorem WIs.keepsMap {base g mb n : Nat} {w w1 : World} {b : List UInt8} {st : St} {v : Value} {D : DataW Unit} (h : WIs base w g b st v mb n D) (hgr : w.grownBy w1 (some mb)) : Keeps w w1 := fun k cs t fr h1 h2 hk =>
  (hgr.block k (Array.getElem?_eq_some_iff.1 hk).1 (fun e => map_ne h.map hk (by injection e with e; exact e.symm))).trans hk
/-- an entry more in a writer's table -/
theorem WIs.put {base g mb n p : Nat} {w w1 : World} {b E : List UInt8} {st : St} {v : Value} {D : DataW Unit} (h : WIs base w g b st v mb n D) (hn : n ≤ b.length) (hp : p < 16384) (hm : w1.ownsMap Tryd.prog 9 (plainElem Tryd.prog 3) mb (n + 1) (D.put (.string E) (.lit (.int .i64 (p : Nat)))))
    (hgr : w.grownBy w1 (some mb)) : WIs base w1 g b (st.put E p) v mb (n + 1) (D.put (.string E) (.lit (.int .i64 (p : Nat)))) :=
  ⟨(hgr.block g h.lt (fun e => map_ne h.map h.blk (by injection e with e; exact e.symm))).trans h.blk, h.row.kept hgr (.inr (own_map_ne h.row h.map)), hm, h.hmb, by omega, h.is.put E p hp, h.hg, Nat.le_trans h.hb hgr.size, h.len⟩
theorem one_cell {W : World} {g : Nat} {t : TypeId} {v : Value} {c : UInt8} (hg : W.heap.size = g) (hv : v = .int .u8 c.toNat) : ∀ (j : Nat) (u : Value), (bvs [c])[j]? = some u → (W.alloc (.cells #[v] t)).cell? ((⟨g, 0, none⟩ : Addr).add j) = some u := fun j u hu => by
  subst hg hv
  rw [Addr.add_lit, Nat.zero_add, World.cell?_alloc_new]
  simpa [bvs] using hu
/-- append of some bytes to a row of the call's own -/
theorem wpList_append_bs {w : World} {ops : Array Oper} {rest : List Oper} {o : Oper} {a : Act} {Q : Exit → Act → World → Prop} (hgd : o.guard = none) (s x : Operand)
    (ho : o.op = .call { callee := .builtin .append, args := #[s, x], argTypes := #[32, 32] })
    (base : Nat) (v : Value) (xs : List UInt8) (n : Nat) (hs : a.eval s = v) (hown : w.ownsRow base 5 1 v n (bvs xs))
    (ad : Addr) (m mc : Nat) (cs : List UInt8) (hm : cs.length = m) (hx : a.eval x = .slice (some ad) m mc) (hc : ∀ (j : Nat) (u : Value), (bvs cs)[j]? = some u → w.cell? (ad.add j) = some u) (hn : n ≤ 100000000000) (hn2 : m ≤ 100000000000) (hbase : base ≤ w.heap.size)
    (h : ∀ v' w', w'.ownsRow base 5 1 v' (n + m) (bvs (xs ++ cs)) → w.grownBy w' v.ownBlock → wpList Tryd.prog ops Q rest (a.put o.dst v') w') : wpList Tryd.prog ops Q (o :: rest) a w := by
  obtain ⟨i0, hi, hz0, hz1, hz2⟩ := info_parts infoU8
  refine wpList_append_own (w := w) hgd s x 32 ho base 5 i0 (.int .u8 0) 1 1 Tryd.underlying32 hi hz0 hz1 hz2 rfl (by decide) v n (bvs xs) hs hown ad m mc (bvs cs) hx (by rw [bvs_length, hm]; omega)
    hc (bvs_one cs) (by unfold maxLen; omega) (by omega) hbase (fun v' w' h2 h3 _ => h v' w' (by rw [bvs_append]; exact h2) h3)
theorem two_bytes (n : Int) (h0 : 0 ≤ n) (W : World) (g : Nat) (t : TypeId) (hg : W.heap.size = g) : ∀ (j : Nat) (u : Value), (bvs (be2 n.toNat))[j]? = some u →
    (W.alloc (.cells #[Value.int .u8 (n / 256 % 256), Value.int .u8 (n % 256)] t)).cell? ((⟨g, 0, none⟩ : Addr).add j) = some u := fun j u hu => by
  subst hg
  have e : bvs (be2 n.toNat) = [Value.int .u8 (n / 256 % 256), Value.int .u8 (n % 256)] := by
    obtain ⟨k, rfl⟩ := Int.eq_ofNat_of_zero_le h0
    unfold bvs be2
    simp only [List.map_cons, List.map_nil, List.cons.injEq, Value.int.injEq, true_and, and_true]
    constructor
    · show ((UInt8.ofNat (_ / 256)).toNat : Int) = _
      rw [UInt8.toNat_ofNat']
      simp
    · show ((UInt8.ofNat _).toNat : Int) = _
      rw [UInt8.toNat_ofNat']
      simp
  rw [e] at hu
  rw [Addr.add_lit, Nat.zero_add, World.cell?_alloc_new]
  simpa using hu
/-- append of some bytes to a writer's bytes -/
theorem wpList_append_w {w : World} {base g mb nn : Nat} {b : List UInt8} {st : St} {v : Value} {D : DataW Unit} (HI : WIs base w g b st v mb nn D)
    {ops : Array Oper} {rest : List Oper} {o : Oper} {a : Act} {Q : Exit → Act → World → Prop} (hgd : o.guard = none) (s x : Operand)
    (ho : o.op = .call { callee := .builtin .append, args := #[s, x], argTypes := #[32, 32] }) (hs : a.eval s = v)
    (ad : Addr) (m mc : Nat) (cs : List UInt8) (hm : cs.length = m) (hx : a.eval x = .slice (some ad) m mc) (hc : ∀ (j : Nat) (u : Value), (bvs cs)[j]? = some u → w.cell? (ad.add j) = some u) (hm0 : 0 < b.length + m) (hl : b.length + m ≤ 100000000) (hnn : nn ≤ b.length + m)
    (h : ∀ (gb cap : Nat) (w' : World), w'.cell? ⟨g, 0, none⟩ = some v → w'.frozen? ⟨g, 0, none⟩ = false → Hid (WHas base (w'.setCell ⟨g, 0, none⟩ (.slice (some ⟨gb, 0, none⟩) (b.length + m) cap)) g (b ++ cs) st (.slice (some ⟨gb, 0, none⟩) (b.length + m) cap)) →
      Hid (Below base w (w'.setCell ⟨g, 0, none⟩ (.slice (some ⟨gb, 0, none⟩) (b.length + m) cap))) → Hid (Keeps w (w'.setCell ⟨g, 0, none⟩ (.slice (some ⟨gb, 0, none⟩) (b.length + m) cap))) → wpList Tryd.prog ops Q rest (a.put o.dst (.slice (some ⟨gb, 0, none⟩) (b.length + m) cap)) w') : wpList Tryd.prog ops Q (o :: rest) a w := by
  refine wpList_append_bs hgd s x ho base v b b.length hs HI.row ad m mc cs hm hx hc (by have := HI.len; omega) (by omega) HI.hb fun v' w' hown hgr => ?_
  obtain ⟨gb, cap, rfl⟩ : ∃ gb cap, v' = .slice (some ⟨gb, 0, none⟩) (b.length + m) cap := by
    rcases hown.2 with ⟨_, h0⟩ | ⟨gb, cap, _, hv, _⟩
    · omega
    · exact ⟨gb, cap, hv⟩
  have hblk := (hgr.block g HI.lt (fun e => own_ne HI.row HI.blk (by decide) e.symm)).trans HI.blk
  have hlen : (b ++ cs).length = b.length + m := by rw [List.length_append, hm]
  exact h gb cap w' (cell_of_row w' g 0 _ _ _ hblk) (frozen_of_row w' g 0 _ _ hblk) (Lib.hid ⟨mb, nn, D, HI.app (by rw [hlen]; exact hown) hgr (by omega), by omega⟩)
    (Lib.hid (((Below.refl base w).grown hgr HI.hb (fun k hk => (HI.row.lt k hk).1)).setCell HI.hg _)) (Lib.hid (HI.keeps hgr _))
def WPost (base : Nat) (w : World) (g : Nat) (b : List UInt8) (st : St) (e : Ending) (w' : World) : Prop := e = .returned (.tuple #[]) ∧ WAt base w' g b st ∧ Below base w w' ∧ Keeps w w'
set_option maxRecDepth 100000 in
set_option maxHeartbeats 1000000 in
theorem two_any (base g : Nat) (b : List UInt8) (st : St) (n : Int) (w : World) (h : WAt base w g b st) (h0 : 0 ≤ n) (hl : b.length + 2 ≤ 100000000) :
    Calls Tryd.prog 17 #[.pointer (some ⟨g, 0, none⟩), .int .i64 n] w fun e w' => WPost base w g (b ++ be2 n.toNat) st e w' := by
  obtain ⟨v, mb, nn, D, h, hnn⟩ := h
  have c0 : w.cell? ⟨g, 0, none⟩ = some v := cell_of_row w g 0 _ _ _ h.blk
  have HT := Lib.hid (two_bytes n h0 w w.heap.size 5 rfl)
  have HI := Lib.hid h
  have hbs := h.hb
  have hlt := h.lt
  clear h
  go_enter Tryd.func17, Tryd.ntmps17
  go_wp2_with (at_builtin; refine wpList_append_w (HI.out.alloc _) rfl (.tmp 8) (.tmp 14) rfl rfl ⟨w.heap.size, 0, none⟩ 2 2 (be2 n.toNat) rfl rfl HT.out (by omega) (by omega) (by omega) ?_; intro gb cap w1 c1 f1 HW HB HK; clear c0; go_simp)
  refine bodyPost_ret (results_none rfl _ _ _) rfl ?_
  exact ⟨rfl, HW.out.at_, ((Below.refl base w).alloc hbs _).trans HB.out, ((Keeps.refl w).alloc _).trans HK.out⟩
end Go.Proofs.YtakfokdjdljjjaaDoor
