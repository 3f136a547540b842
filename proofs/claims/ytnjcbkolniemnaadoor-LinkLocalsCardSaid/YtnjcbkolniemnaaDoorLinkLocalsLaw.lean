/-
  The walk of LinkLocals. Conditions: the links came in and the library's variable MaxLen holds some number.
-/
import Derived.Test.YtnjcbkolniemnaaDoorLinkEq
import Derived.Deep.RegionHeld3
namespace Go.Proofs.YtnjcbkolniemnaaDoor
open Go.RowKit

/-- the local addresses that are wanted, of the first k links but one -/
def wv (xs : List Sl) (g : Int) (k : Nat) : List Value := ((List.range k).map (fun (j : Nat) => if (j : Int) ≠ g then (xs.getD j zSl).ls else [])).flatten
def wn (xs : List Sl) (g : Int) (k : Nat) : Nat := ((List.range k).map (fun (j : Nat) => if (j : Int) ≠ g then (xs.getD j zSl).nl else 0)).sum
theorem wv_next (xs : List Sl) (g : Int) (k : Nat) : wv xs g (k + 1) = wv xs g k ++ (if (k : Int) ≠ g then (xs.getD k zSl).ls else []) := by
  unfold wv; rw [List.range_succ, List.map_append, List.flatten_append]; simp
theorem wn_next (xs : List Sl) (g : Int) (k : Nat) : wn xs g (k + 1) = wn xs g k + (if (k : Int) ≠ g then (xs.getD k zSl).nl else 0) := by
  unfold wn; rw [List.range_succ, List.map_append, List.sum_append]; simp
theorem w_more {xs : List Sl} {g : Int} {n : Nat} (hn : xs.length = n) : ∀ d, wv xs g (n + d) = wv xs g n ∧ wn xs g (n + d) = wn xs g n
  | 0 => ⟨rfl, rfl⟩
  | d + 1 => by
    have h := w_more (g := g) hn d
    have hz : xs.getD (n + d) zSl = zSl := by rw [List.getD, List.getElem?_eq_none (by omega)]; rfl
    have e1 : zSl.ls = [] := rfl
    have e2 : zSl.nl = 0 := rfl
    rw [← Nat.add_assoc, wv_next, wn_next, hz, e1, e2, h.1, h.2]
    simp
theorem w_four {xs : List Sl} {g : Int} {n : Nat} (hn : xs.length = n) (h4 : n ≤ 4) : wv xs g 4 = wv xs g n ∧ wn xs g 4 = wn xs g n := by
  have := w_more (g := g) hn (4 - n)
  rwa [show n + (4 - n) = 4 by omega] at this
theorem wn_le {xs : List Sl} (g : Int) (h : ∀ x ∈ xs, x.nl ≤ 4) : ∀ k, wn xs g k ≤ 4 * k
  | 0 => Nat.le_refl _
  | k + 1 => by
    have ih := wn_le g h k
    rw [wn_next]
    have : (xs.getD k zSl).nl ≤ 4 := by
      rcases Nat.lt_or_ge k xs.length with hk | hk
      · rw [List.getD, List.getElem?_eq_getElem hk]; exact h _ (List.getElem_mem hk)
      · rw [List.getD, List.getElem?_eq_none hk]; exact Nat.zero_le _
    split <;> omega
abbrev Lc16 := { l : Lc // l.ad.length = 16 }
/-- they are local addresses one behind the other -/
theorem w_locs {W : World} {xs : List Sl} (g : Int) (h : ∀ x ∈ xs, InS W x) : ∀ k, ∃ L : List Lc16, L.length = wn xs g k ∧ wv xs g k = (L.map (fun x => x.1.cells)).flatten
  | 0 => ⟨[], rfl, rfl⟩
  | k + 1 => by
    obtain ⟨L, h1, h2⟩ := w_locs g h k
    rw [wn_next, wv_next]
    by_cases hg : (k : Int) ≠ g
    · rw [if_pos hg, if_pos hg]
      rcases Nat.lt_or_ge k xs.length with hk | hk
      · rw [List.getD, List.getElem?_eq_getElem hk]
        obtain ⟨_, ls, hl, hn, he⟩ := h _ (List.getElem_mem hk)
        have hm : ∃ M : List Lc16, M.map (·.1) = ls := ⟨ls.attach.map (fun x => ⟨x.1, hl x.1 x.2⟩), by rw [List.map_map]; simp [Function.comp_def]⟩
        obtain ⟨M, hM⟩ := hm
        refine ⟨L ++ M, ?_, ?_⟩
        · rw [List.length_append, h1]
          have := congrArg List.length hM
          rw [List.length_map] at this
          show _ + _ = _ + (xs[k]).nl
          omega
        · rw [List.map_append, List.flatten_append, h2]
          congr 1
          show (xs[k]).ls = _
          rw [he, ← hM, List.map_map]; rfl
      · rw [List.getD, List.getElem?_eq_none hk]
        exact ⟨L, h1, by rw [h2]; simp [zSl]⟩
    · rw [if_neg hg, if_neg hg]
      exact ⟨L, h1, by rw [h2]; simp⟩
/-- the first k links are set as they came in -/
def SetTo (xs : List Sl) (k : Nat) (ss : List Sl) : Prop := ∀ (j : Nat) (s : Sl), ss[j]? = some s → (j < k → s.live = true ∧ s.nl = (xs.getD j zSl).nl ∧ s.ls = (xs.getD j zSl).ls) ∧ (k ≤ j → s = zSl)
theorem SetTo.next {xs ss : List Sl} {k : Nat} {s' : Sl} (h : SetTo xs k ss) (hk : k < ss.length) (h1 : s'.live = true) (h2 : s'.nl = (xs.getD k zSl).nl) (h3 : s'.ls = (xs.getD k zSl).ls) : SetTo xs (k + 1) (ss.set k s') := fun j s hj => by
  rw [List.getElem?_set] at hj
  by_cases e : k = j
  · subst e
    rw [if_pos rfl, if_pos hk] at hj
    obtain rfl := Option.some.inj hj
    exact ⟨fun _ => ⟨h1, h2, h3⟩, fun h => by omega⟩
  · rw [if_neg e] at hj
    exact ⟨fun h' => (h j s hj).1 (by omega), fun h' => (h j s hj).2 (by omega)⟩
/-- what each link has left -/
def LeftL (xs : List Sl) (g : Int) (ss : List Sl) : Prop := ∀ (j : Nat) (s : Sl), ss[j]? = some s → s.nl = (if (j : Int) ≠ g then (xs.getD j zSl).nl else 0) ∧ s.ls = (if (j : Int) ≠ g then (xs.getD j zSl).ls else [])
theorem locs_step {ss : List Sl} {k : Nat} {s : Sl} (h : ss[k]? = some s) (hd : s.live = false → s = zSl) : locsOf (comeTo ss (k + 1)) = locsOf (comeTo ss k) ++ s.ls ∧ numOf (comeTo ss (k + 1)) = numOf (comeTo ss k) + s.nl := by
  cases hl : s.live
  · rw [comeTo_miss h hl, hd hl]; simp [zSl]
  · rw [comeTo_hit h hl, locsOf_snoc, numOf_snoc]; exact ⟨rfl, rfl⟩
theorem left_locs {xs ss : List Sl} {g : Int} (h4 : ss.length = 4) (hd : ∀ s ∈ ss, s.live = false → s = zSl) (h : LeftL xs g ss) : ∀ k, k ≤ 4 → locsOf (comeTo ss k) = wv xs g k ∧ numOf (comeTo ss k) = wn xs g k
  | 0, _ => ⟨rfl, rfl⟩
  | k + 1, hk => by
    have ih := left_locs h4 hd h k (by omega)
    obtain ⟨s, hs⟩ : ∃ s, ss[k]? = some s := ⟨_, List.getElem?_eq_getElem (by omega)⟩
    obtain ⟨e1, e2⟩ := locs_step hs (hd s (List.mem_of_getElem? hs))
    obtain ⟨f1, f2⟩ := h k s hs
    rw [e1, e2, wv_next, wn_next, ih.1, ih.2, f1, f2]
    exact ⟨rfl, rfl⟩
theorem left_set {xs ss : List Sl} {n k : Nat} (h : SetTo xs n ss) (hn : xs.length = n) : LeftL xs (k : Int) (ss.set k zSl) := fun j s hj => by
  rw [List.getElem?_set] at hj
  by_cases e : k = j
  · subst e
    rw [if_pos rfl] at hj
    split at hj
    · obtain rfl := Option.some.inj hj
      simp [zSl]
    · cases hj
  · rw [if_neg e] at hj
    rw [if_pos (by omega), if_pos (by omega)]
    rcases Nat.lt_or_ge j n with hjn | hjn
    · exact ((h j s hj).1 hjn).2
    · rw [(h j s hj).2 hjn, List.getD, List.getElem?_eq_none (by omega)]; exact ⟨rfl, rfl⟩
theorem left_none {xs ss : List Sl} {n : Nat} {g : Int} (h : SetTo xs n ss) (hn : xs.length = n) (hg : ∀ j : Nat, (j : Int) = g → ∀ s, ss[j]? = some s → s.live = false) : LeftL xs g ss := fun j s hj => by
  rcases Nat.lt_or_ge j n with hjn | hjn
  · have h1 := (h j s hj).1 hjn
    have hne : (j : Int) ≠ g := fun e => by have := hg j e s hj; rw [h1.1] at this; cases this
    rw [if_pos hne, if_pos hne]
    exact h1.2
  · rw [(h j s hj).2 hjn, List.getD, List.getElem?_eq_none (by omega)]
    simp [zSl]
/-- Remove, whatever it is called with: what is left -/
theorem remove_left {base T last n : Nat} {w : World} {ss xs : List Sl} (g : Int) (hT : TAt base w T ss last) (h : SetTo xs n ss) (hn : xs.length = n) (hme : 0 ≠ T) (he : Env w) :
    Calls Tryd.prog 16 #[.pointer (some ⟨T, 0, none⟩), .int .i64 g] w fun e w' => ∃ (z : Int) (ss' : List Sl), e = .returned (.int .i64 z) ∧ TAt base w' T ss' last ∧ LeftL xs g ss' ∧ w.grownBy w' (some T) ∧ Env w' := by
  by_cases hi : 0 ≤ g ∧ g < 4
  · obtain ⟨k, rfl⟩ : ∃ k : Nat, g = k := ⟨g.toNat, by omega⟩
    obtain ⟨s, hs⟩ : ∃ s, ss[k]? = some s := ⟨_, List.getElem?_eq_getElem (by rw [hT.four]; omega)⟩
    cases hl : s.live with
    | true => exact (remove_yes hT hs hl).mono (by rintro e w' ⟨rfl, h1, h2⟩; exact ⟨_, _, rfl, h1, left_set h hn, h2, he.kept h2 hme⟩)
    | false =>
      have hd : ∀ j : Nat, (j : Int) = (k : Int) → ∀ s', ss[j]? = some s' → s'.live = false := fun j e s' hs' => by
        obtain rfl : j = k := by omega
        rw [hs] at hs'
        obtain rfl := Option.some.inj hs'
        exact hl
      refine (remove_no T k w (lives_in T k false _ (by omega) (by have := hT.slot hs (j := 0) (v := .bool s.live) rfl; rw [hl] at this; exact this))).mono ?_
      rintro e w' ⟨rfl, rfl⟩
      exact ⟨_, _, rfl, hT, left_none h hn hd, World.grownBy.refl _ _, he⟩
  · have hd : ∀ j : Nat, (j : Int) = g → ∀ s', ss[j]? = some s' → s'.live = false := fun j e s' hs' => by
      have := (List.getElem?_eq_some_iff.1 hs').1; rw [hT.four] at this; omega
    refine (remove_no T g w (lives_out T g w hi)).mono ?_
    rintro e w' ⟨rfl, rfl⟩
    exact ⟨_, _, rfl, hT, left_none h hn hd, World.grownBy.refl _ _, he⟩
/-- a row of local addresses that is no link's own is written: the table is as it was -/
theorem TAt.otherL {base T last g : Nat} {w w' : World} {ss : List Sl} {cs : Array Value} (h : TAt base w T ss last) (hg : w.heap[g]? = some (.cells cs 55 (0, 0))) (hsep : ∀ s ∈ ss, s.lv.ownBlock ≠ some g) (hw : w.grownBy w' (some g)) : TAt base w' T ss last := by
  have hne : some T ≠ some g := fun e => by
    injection e with e
    subst e
    have := h.obj.symm.trans hg
    injection this with this
    injection this with _ this
    exact absurd this (by decide)
  refine ⟨h.ge, Nat.le_trans h.hb hw.size, (hw.block T h.lt hne).trans h.obj, h.four, fun s hs => ?_, h.few⟩
  have k := h.oks s hs
  exact ⟨own_other k.dom hg (by decide) hw, own_other k.srv hg (by decide) hw, k.loc.kept hw (.inr (fun e => hsep s hs e)), k.nd, k.nsl, k.nll, k.sz, k.ones, k.one, k.dead, fun hl => by
    obtain ⟨C, h1, h2, h3⟩ := k.alive hl
    exact ⟨C, h1, h2, Nat.lt_of_lt_of_le h3 hw.size⟩⟩
theorem box7 {W : World} {B : Nat} {s : Sl} (h : W.heap[B]? = some (.cells s.lk.toArray 31 (0, 0))) :
    W.cell? ⟨B, 0, none⟩ = some (.bool s.live) ∧ W.cell? ⟨B, 1, none⟩ = some (.int .i64 s.gen) ∧ W.cell? ⟨B, 2, none⟩ = some (.slice s.dA s.ds.length s.dc) ∧ W.cell? ⟨B, 3, none⟩ = some (.bool s.df) ∧ W.cell? ⟨B, 4, none⟩ = some (.bool s.ll) ∧ W.cell? ⟨B, 5, none⟩ = some (.slice s.sA s.ns s.sc) ∧ W.cell? ⟨B, 6, none⟩ = some (.slice s.lA s.nl s.lc) ∧ W.frozen? ⟨B, 5, none⟩ = false := by
  refine ⟨?_, ?_, ?_, ?_, ?_, ?_, ?_, frozen_of_row W B 5 _ _ h⟩
  all_goals rw [cell_of_row W B _ _ _ _ h]; rfl
/-- the row is no link's own -/
def SepL (v : Value) (ss : List Sl) : Prop := ∀ s ∈ ss, ∀ g, v.ownBlock = some g → s.lv.ownBlock ≠ some g
theorem SepL.set {v : Value} {ss : List Sl} {k : Nat} {s : Sl} (h : SepL v ss) (hs : ∀ g, v.ownBlock = some g → s.lv.ownBlock ≠ some g) : SepL v (ss.set k s) := fun x hx => by
  rcases List.mem_or_eq_of_mem_set hx with h1 | h1
  · exact h x h1
  · rw [h1]; exact hs
theorem lv_lt {base : Nat} {w : World} {s : Sl} (h : SlOk base w s) : ∀ g, s.lv.ownBlock = some g → g < w.heap.size := fun g hg => (h.loc.lt g hg).2
set_option maxRecDepth 100000 in
set_option maxHeartbeats 4000000 in
theorem linkLocals_walk (A : Option Addr) (m c : Nat) (xs : List Sl) (gone : Int) (W : World) (he : Env W) (hm : xs.length = m) (hI : (∀ x ∈ xs, InS W x) ∧ RowIn 7 W (.slice A m c) m (xs.map Sl.lk).flatten ∧ m ≤ maxLen) :
    Calls Tryd.prog 6 #[.slice A m c, .int .i64 gone] W fun e w' => e = .returned (.bool true) ∧ Below W.heap.size W w' := by
  have hme := he.1
  have HI := Lib.hid hI.1
  have HR := Lib.hid hI.2.1
  have hbig := hI.2.2
  unfold maxLen at hbig
  have HE0 := Lib.hid he
  clear hI he
  go_enter Tryd.func6, Tryd.ntmps6
  go_wp2_with fail
  refine (fit11_e W HE0.out).mono ?_
  rintro e w1 ⟨rfl, hb, hE1⟩
  have HB1 := Lib.hid hb
  have HE1 := Lib.hid hE1
  clear hb hE1 HE0
  by_cases h4 : 4 < m
  · go_wp2
    go_ret
    exact ⟨rfl, HB1.out⟩
  have h4' : m ≤ 4 := by omega
  clear h4
  go_wp2_with fail
  refine (newT_e w1).mono ?_
  rintro e w2 ⟨T, rfl, hT, hb⟩
  have hTb := hT.ge
  have hz1 := HB1.out.size
  have HT2 := Lib.hid hT
  have HB2 := Lib.hid (HB1.out.trans (hb.mono hz1))
  have HE2 := Lib.hid (HE1.out.below hb)
  have hTlt := hT.lt
  have hz2 := HB2.out.size
  have hbs := hb.size
  obtain ⟨i0, zz, hi, hzz, hzc, hs, hby⟩ := info_loc
  have JI := Lib.hid hi
  have JZ := Lib.hid hzz
  have JZC := Lib.hid hzc
  have JS := Lib.hid hs
  have JBY := Lib.hid hby
  clear hi hzz hzc hs hby hT hb HB1 HE1
  go_wp2
  go_loopw [6, 19] (fun v i wr => ∃ (k : Nat) (ss : List Sl), k ≤ m ∧ i = .int .i64 k ∧ TAt w1.heap.size wr T ss k ∧ SetTo xs k ss ∧ wr.ownsRow w2.heap.size 55 18 v (wn xs gone k) (wv xs gone k) ∧ (∀ x ∈ xs.take k, x.nl ≤ 4) ∧ SepL v ss ∧ Below W.heap.size W wr ∧ Env wr ∧ w2.heap.size ≤ wr.heap.size) (fun _ i _ => m - (intOf i).toNat)
  case atStart =>
    refine ⟨0, _, Nat.zero_le _, rfl, HT2.out, fun j s hj => ⟨fun h => by omega, fun _ => ?_⟩, World.ownsRow_nil _ _ _ _, (fun x hx => by cases hx), (fun _ _ g hg => by cases hg), HB2.out, HE2.out, Nat.le_refl _⟩
    match j, hj with
    | 0, hj => exact (Option.some.inj hj).symm
    | 1, hj => exact (Option.some.inj hj).symm
    | 2, hj => exact (Option.some.inj hj).symm
    | 3, hj => exact (Option.some.inj hj).symm
    | j + 4, hj => simp at hj
  case round =>
    obtain ⟨k, ss, hk, rfl, hT, hst, ho, hnl, hsep, hb, hE, hsz⟩ := hrel
    by_cases hlt : k < m
    · obtain ⟨x, hx⟩ : ∃ x, xs[k]? = some x := ⟨_, List.getElem?_eq_getElem (by omega)⟩
      obtain ⟨b, o, rfl, hc⟩ := (HR.out.below hb).elem (C := Sl.lk) (fun _ => rfl) (by decide) hx
      have hxs := HI.out x (List.mem_of_getElem? hx)
      have hxi := hxs.inl
      have hba := (Below.refl _ wr).alloc (Nat.le_refl _) (.cells x.lk.toArray 31)
      have hsh := short_e ((hxi.below hb).below hba)
      have hxd : xs.getD k zSl = x := by rw [List.getD, hx]; rfl
      have HC := Lib.hid hc
      have HSZ := Lib.hid (sizeLk x)
      have HX := Lib.hid hxi
      have HXD := Lib.hid hxd
      have HO := Lib.hid ho
      have HT := Lib.hid hT
      have HST := Lib.hid hst
      have HB := Lib.hid hb
      have HE := Lib.hid hE
      have HNL := Lib.hid hnl
      have HSP := Lib.hid hsep
      have HXK := Lib.hid hx
      have HB3 := Lib.hid hba
      have HO3 := Lib.hid (heap_alloc_last wr (.cells x.lk.toArray 31))
      have hfour := hT.four
      have hwl := wn_le gone (xs := xs.take k) hnl k
      clear hc hxs hxi hxd ho hT hst hb hE hnl hx hba hsep
      obtain ⟨live, gen, dA, dc, ds, df, ll, sA, sc, ns, ss', lA, lc, nl, ls', ca⟩ := x
      simp only [Sl.lk] at HC HSZ hsh HB3 HO3
      go_wp2_with (first
        | (refine wpList_load_agg rfl 31 _ rfl ⟨b, o + k * 7, none⟩ rfl _ _ (fun j v hj => HC.out j v (by simpa using hj)) Tryd.underlying31 rfl HSZ.out ?_; go_simp))
      generalize wr.alloc _ = w3 at HB3 HO3 hsh ⊢
      refine hsh.mono ?_
      rintro e w4 ⟨bb, rfl, hb4⟩
      have HB4 := Lib.hid (HB3.out.trans (hb4.mono HB3.out.size))
      have HO4 := Lib.hid ((hb4.block wr.heap.size (heap_ltk HO3.out)).trans HO3.out)
      have hz4 := HB4.out.size
      clear hsh hb4 HB3 HO3
      cases bb with
      | false =>
        go_wp2
        go_ret
        exact ⟨rfl, HB.out.trans (HB4.out.mono HB.out.size)⟩
      | true =>
      obtain ⟨q0, q1, q2, q3, q4, q5, q6, _⟩ := box7 (s := ⟨live, gen, dA, dc, ds, df, ll, sA, sc, ns, ss', lA, lc, nl, ls', ca⟩) HO4.out
      dsimp only at q0 q1 q2 q3 q4 q5 q6
      have hrg := lright_e ((HX.out.below HB.out).below HB4.out) (HE.out.below HB4.out)
      simp only [Sl.lk] at hrg
      go_wp2_with fail
      refine hrg.mono ?_
      rintro e w5 ⟨rfl, hb5, hE5⟩
      have HB5 := Lib.hid (HB4.out.trans (hb5.mono hz4))
      have HO5 := Lib.hid ((hb5.block wr.heap.size (heap_ltk HO4.out)).trans HO4.out)
      have HE5 := Lib.hid hE5
      have hz5 := HB5.out.size
      clear hrg hb5 hE5 q0 q1 q2 q3 q4 q5 q6 HB4 HO4
      cases hr : rightL ⟨live, gen, dA, dc, ds, df, ll, sA, sc, ns, ss', lA, lc, nl, ls', ca⟩ with
      | false =>
        clear hr
        go_wp2
        go_ret
        exact ⟨rfl, HB.out.trans (HB5.out.mono HB.out.size)⟩
      | true =>
      obtain ⟨q0, q1, q2, q3, q4, q5, q6, _⟩ := box7 (s := ⟨live, gen, dA, dc, ds, df, ll, sA, sc, ns, ss', lA, lc, nl, ls', ca⟩) HO5.out
      dsimp only at q0 q1 q2 q3 q4 q5 q6
      have hbz := HB.out.size
      have hset := set_good (k := k) (HT.out.below HB5.out) (by omega) ((HX.out.below HB.out).below HB5.out) (HX.out.far (T := T) (by omega)) HE5.out (by omega) hr (by omega)
      have hnl4 := ((HX.out.inok hr).2.2.2.1 : nl ≤ 4)
      simp only [Sl.lk] at hset
      clear hr
      go_wp2_with fail
      refine hset.mono ?_
      rintro e w6 ⟨s6, C6, rfl, hT6, hg6, hE6, l6, _, _, _, _, _, _, nl6, ls6, _, _, _, ol6⟩
      dsimp only at nl6 ls6
      have HT6 := Lib.hid hT6
      have HE6 := Lib.hid hE6
      have HST6 := Lib.hid (HST.out.next (s' := s6) (by rw [hfour]; omega) l6 (by rw [HXD.out]; exact nl6) (by rw [HXD.out]; exact ls6))
      have HB6 := Lib.hid ((HB.out.trans (HB5.out.mono hbz)).grown hg6 (by omega) (fun j e => by injection e with e; omega))
      have HO6 := Lib.hid ((hg6.block wr.heap.size (heap_ltk HO5.out) (fun e => by injection e with e; omega)).trans HO5.out)
      have HW6 := Lib.hid (own_other (own_below HO.out HB5.out) (HT.out.below HB5.out).obj (by decide) hg6)
      have HSP6 := Lib.hid (HSP.out.set (k := k) (s := s6) (fun g hg hg2 => by have h1 := (ol6.loc.lt g hg2).1; have h2 := (HO.out.lt g hg).2; have h3 := HB5.out.size; omega))
      have hz6 : w2.heap.size ≤ w6.heap.size := by have := hg6.size; omega
      have HL6 := Lib.hid (HX.out.below HB6.out).loc
      have HWN := Lib.hid (wn_next xs gone k)
      have HWV := Lib.hid (wv_next xs gone k)
      rw [HXD.out] at HWN HWV
      have HNL6 : Hid (∀ x ∈ xs.take (k + 1), x.nl ≤ 4) := Lib.hid (fun x hx => by
        rw [List.take_add_one, HXK.out] at hx
        rcases List.mem_append.1 hx with hx | hx
        · exact HNL.out x hx
        · obtain rfl : x = _ := by simpa using hx
          exact hnl4)
      simp only [Sl.lv] at HL6
      dsimp only at HWN HWV
      clear q0 q1 q2 q3 q4 q5 q6 hset hT6 hg6 hE6 l6 nl6 ls6 ol6 HSP HT HB5 HO5 HE5 HST HO HX HC HNL
      obtain ⟨q0, q1, q2, q3, q4, q5, q6, _⟩ := box7 (s := ⟨live, gen, dA, dc, ds, df, ll, sA, sc, ns, ss', lA, lc, nl, ls', ca⟩) HO6.out
      dsimp only at q0 q1 q2 q3 q4 q5 q6
      have hwn0 : wn xs gone k ≤ 16 := by
        have e : wn xs gone k = wn (xs.take k) gone k := by
          unfold wn
          congr 1
          refine List.map_congr_left fun j hj => ?_
          have hjk := List.mem_range.1 hj
          have : (xs.take k).getD j zSl = xs.getD j zSl := by rw [List.getD, List.getD, List.getElem?_take, if_pos hjk]
          rw [this]
        omega
      obtain ⟨vA, vc, rfl⟩ := own_fm HW6.out
      by_cases hgk : (k : Int) = gone
      · rw [if_neg (by omega)] at HWN HWV
        have hne : ((k : Int) != gone) = false := by simpa using hgk
        clear hgk
        go_wp2
        go_roundw
        case rel => exact ⟨k + 1, _, by omega, by simp, HT6.out, HST6.out, by rw [HWN.out, HWV.out, List.append_nil]; exact HW6.out, HNL6.out, HSP6.out, HB6.out, HE6.out, hz6⟩
        case measure => simp [intOf]; omega
      · rw [if_pos (by omega)] at HWN HWV
        have hne : ((k : Int) != gone) = true := by simpa using hgk
        clear hgk
        rcases HL6.out.at' with ⟨e, h0⟩ | ⟨ad, c', e, hc0, hcc⟩
        · injection e with e1 e2 e3
          have hls := HL6.out.len
          try dsimp only at h0 hls
          subst e1 h0 e3
          obtain rfl : ls' = [] := List.length_eq_zero_iff.1 (by omega)
          clear hls
          go_wp2_with (first
            | (at_builtin; refine wpList_append_own_none rfl _ _ 29 rfl w2.heap.size 55 i0 18 Tryd.underlying29 JI.out _ _ _ rfl HW6.out rfl ?_; go_simp))
          go_roundw
          case rel => exact ⟨k + 1, _, by omega, by simp, HT6.out, HST6.out, by rw [HWN.out, HWV.out, List.append_nil]; exact HW6.out, HNL6.out, HSP6.out, HB6.out, HE6.out, hz6⟩
          case measure => simp [intOf]; omega
        · injection e with e1 e2 e3
          have HLN := Lib.hid HL6.out.len
          have HLO := Lib.hid HL6.out.one
          have HCC := Lib.hid hcc
          try dsimp only at HLN HLO HCC
          subst e1 e3
          clear hcc
          go_wp2_with (first
            | (at_builtin; refine wpList_append_own_at _ rfl _ _ 29 rfl w2.heap.size 55 i0 zz 18 18 Tryd.underlying29 JI.out JZ.out JS.out JBY.out JZC.out (by decide) _ _ _ rfl HW6.out ad nl _ ls' rfl HLN.out HCC.out HLO.out (by unfold maxLen; omega) (by omega) (by omega) ?_; intro v' w7 ho7 hg7 hnil7 hat7; clear hnil7; obtain ⟨va7, vc7, rfl⟩ := own_fm ho7; have HAT7 : Hid ((Value.slice va7 (wn xs gone k + nl) vc7).ownBlock = (Value.slice vA (wn xs gone k) vc).ownBlock ∨ (Value.slice va7 (wn xs gone k + nl) vc7).ownBlock = some w6.heap.size) := Lib.hid hat7; have HW7 := Lib.hid ho7; have HG7 : Hid (w6.grownBy w7 (Value.slice vA (wn xs gone k) vc).ownBlock) := Lib.hid hg7; clear ho7 hg7 hat7; go_simp))
          have hTG : TAt w1.heap.size w7 T (ss.set k s6) (k + 1) := by
            rcases HW6.out.2 with ⟨e, _⟩ | ⟨g, cap, cur, e, hbg, hgb, _⟩
            · exact HT6.out.below ⟨HG7.out.os, HG7.out.tape, HG7.out.output, HG7.out.size, fun j hj => HG7.out.block j hj (by rw [e]; exact fun h => by cases h)⟩
            · have hob : (Value.slice vA (wn xs gone k) vc).ownBlock = some g := by rw [e]; rfl
              exact HT6.out.otherL hgb (fun s hs => HSP6.out s hs g hob) (by have := HG7.out; rw [hob] at this; exact this)
          have hEG : Env w7 := by
            obtain ⟨h1, m', h2⟩ := HE6.out
            refine ⟨Nat.lt_of_lt_of_le h1 HG7.out.size, m', HG7.out.cell h2 (fun e => ?_)⟩
            have := (HW6.out.lt _ e.symm).1
            simp only at this
            omega
          have hSP7 : SepL (.slice va7 (wn xs gone k + nl) vc7) (ss.set k s6) := fun s hs g hg => by
            rcases HAT7.out with h | h
            · exact HSP6.out s hs g (h.symm.trans hg)
            · have e : w6.heap.size = g := by rw [h] at hg; injection hg
              intro h2
              have := lv_lt (HT6.out.oks s hs) g h2
              omega
          go_roundw
          case rel => exact ⟨k + 1, _, by omega, by simp, hTG, HST6.out, by rw [HWN.out, HWV.out]; exact HW7.out, HNL6.out, hSP7, HB6.out.grown HG7.out (by omega) (fun j hj => by have := HW6.out.lt j hj; omega), hEG, by have := HG7.out.size; omega⟩
          case measure => simp [intOf]; omega
    · obtain rfl : k = m := by omega
      have hN16 := wn_le gone (fun x hx => hnl x (by rw [List.take_of_length_le (by omega)]; exact hx)) k
      clear hnl hsep
      have hT' := hT
      have HT := Lib.hid hT
      have HB := Lib.hid hb
      have HW := Lib.hid ho
      have hrm := remove_left gone hT hst hm (by omega) hE
      have hbz := hb.size
      clear hT hst hb hE ho HR HT2 HB2 HE2
      go_wp2_with fail
      refine hrm.mono ?_
      rintro e w3 ⟨z, ss3, rfl, hT3, hleft, hg3, hE3⟩
      have HT3 := Lib.hid hT3
      have HB3 := Lib.hid (HB.out.grown hg3 hbz (fun j e => by injection e with e; omega))
      have HW3 := Lib.hid (own_other HW.out HT.out.obj (by decide) hg3)
      obtain ⟨f1, f2⟩ := left_locs hT3.four (fun s hs => (hT3.oks s hs).dead) hleft 4 (Nat.le_refl _)
      obtain ⟨g1, g2⟩ := w_four (g := gone) hm h4'
      have F1 := Lib.hid (f1.trans g1)
      have F2 := Lib.hid (f2.trans g2)
      obtain ⟨L, hL, hLv⟩ := w_locs gone HI.out k
      have HLV := Lib.hid hLv
      have hlc := locals_e w3 hT3
      have hz3 := HB3.out.size
      clear hrm hT3 hleft hg3 hE3 f1 f2 g1 g2 hLv HT HB HW hT'
      go_wp2_with fail
      refine hlc.mono ?_
      rintro e w4 ⟨v4, rfl, ho4, hb4⟩
      have HB4 := Lib.hid (HB3.out.trans (hb4.mono hz3))
      have hW4 := own_below HW3.out hb4
      rw [F1.out, F2.out, HLV.out] at ho4
      rw [HLV.out] at hW4
      obtain ⟨cA', cA, rfl⟩ := own_fm ho4
      obtain ⟨cB', cB, rfl⟩ := own_fm hW4
      have hone : ∀ u ∈ (L.map (fun x => x.1.cells)).flatten, u.oneCell' = true := fun u hu => by
        obtain ⟨y, hy, hu2⟩ := List.mem_flatten.1 hu
        obtain ⟨r, _, rfl⟩ := List.mem_map.1 hy
        exact Lc.one _ u hu2
      have HR1 := Lib.hid (RowIn.of_own ho4 hone)
      have HR2 := Lib.hid (RowIn.of_own hW4 hone)
      clear hlc hb4 ho4 hW4 HW3 HB3 HT3 F1 F2 HLV hone
      revert hN16 hL HR1 HR2
      generalize wn xs gone k = N
      intro hN16 hL HR1 HR2
      have hN : N ≤ 100 := by omega
      clear hN16
      go_wp2
      go_loopw [57] (fun i wr => ∃ k : Nat, k ≤ N ∧ i = .int .i64 k ∧ Below w4.heap.size w4 wr) (fun i _ => N - (intOf i).toNat)
      case atStart => exact ⟨0, Nat.zero_le _, rfl, Below.refl _ _⟩
      case round =>
        obtain ⟨k, hk, rfl, hb⟩ := hrel
        by_cases hlt : k < N
        · obtain ⟨r, hr⟩ : ∃ r, L[k]? = some r := ⟨_, List.getElem?_eq_getElem (by omega)⟩
          obtain ⟨g1, o1, rfl, c1⟩ := (HR1.out.below hb).elem (C := fun x : Lc16 => x.1.cells) (fun x => Lc.clen x.2) (by decide) hr
          obtain ⟨g2, o2, rfl, c2⟩ := (HR2.out.below hb).elem (C := fun x : Lc16 => x.1.cells) (fun x => Lc.clen x.2) (by decide) hr
          have HEQ := Lib.hid (fun w => eq_lc w r.1 r.2)
          have hSx : (Tryd.prog.info? 55).map (·.size) = some (r.1.cells).length := by rw [Lc.clen r.2]; kernel_rfl
          have hu := Tryd.underlying55
          have hgd : Tryd.prog.eqGuardType Tryd.prog.depth 55 = false := by kernel_rfl
          have HB := Lib.hid hb
          have HC1 := Lib.hid c1
          have HC2 := Lib.hid c2
          clear c1 c2 hb hr
          try dsimp only at HC1 HC2
          revert HEQ hSx HC1 HC2
          generalize r.1.cells = xc
          intro HEQ hSx HC1 HC2
          have RX1 := Lib.hid (fun (W : World) (hb : Below wr.heap.size wr W) => (fun j v hj => by have h := HC1.out j v hj; rw [Addr.add_lit] at h; exact (hb.cell (World.block_lt_of_cell? wr _ h)).trans h : W.rangeAt g1 (o1 + k * 18) xc))
          have RX2 := Lib.hid (fun (W : World) (hb : Below wr.heap.size wr W) => (fun j v hj => by have h := HC2.out j v hj; rw [Addr.add_lit] at h; exact (hb.cell (World.block_lt_of_cell? wr _ h)).trans h : W.rangeAt g2 (o2 + k * 18) xc))
          clear HC1 HC2
          go_wp2_with fail
          refine wp_region_held_drew (S := (fun W : World => Below wr.heap.size wr W)) (by kernel_rfl) (Below.refl _ wr).drew (fun hHeld => ?_)
          refine wpAnyH_take (i := 0) (oi := ({ dst := some 60, op := Go.Op.move (Go.Operand.tmp 9), type := 29, pos := "law.go:290", after := #[], guard := none } : Oper)) (v := .slice (some ⟨g1, o1, none⟩) N cA) rfl (by kernel_rfl) (by kernel_rfl) (by kernel_rfl) (fun _ _ _ h => h) (Or.inl ⟨by rfl, fun w' _ => ?_⟩) hHeld ?_
          · go_simp
          simp only [Act.put, List.setIfInBounds_toArray, List.set_cons_zero, List.set_cons_succ]
          refine wpAnyH_take (i := 1) (oi := ({ dst := some 61, op := Go.Op.move (Go.Operand.tmp 10), type := 3, pos := "law.go:290", after := #[], guard := none } : Oper)) (v := .int .i64 k) rfl (by kernel_rfl) (by kernel_rfl) (by kernel_rfl) (fun _ _ _ h => h) (Or.inl ⟨by rfl, fun w' _ => ?_⟩) hHeld ?_
          · go_simp
          simp only [Act.put, List.setIfInBounds_toArray, List.set_cons_zero, List.set_cons_succ]
          refine wpAnyH_take (i := 2) (oi := ({ dst := some 62, op := Go.Op.indexAddr 29 (Go.Operand.tmp 60) (Go.Operand.tmp 61), type := 0, pos := "law.go:290", after := #[{ on := 0, ground := Go.Ground.data }, { on := 1, ground := Go.Ground.data }], guard := none } : Oper)) (v := .pointer (some ⟨g1, o1 + k * 18, none⟩)) rfl (by kernel_rfl) (by kernel_rfl) (by kernel_rfl) (fun _ _ _ h => h) (Or.inl ⟨by rfl, fun w' _ => ?_⟩) hHeld ?_
          · go_simp
          simp only [Act.put, List.setIfInBounds_toArray, List.set_cons_zero, List.set_cons_succ]
          refine wpAnyH_take (i := 3) (oi := ({ dst := some 63, op := Go.Op.load 55 (Go.Operand.tmp 62), type := 55, pos := "law.go:290", after := #[{ on := 2, ground := Go.Ground.data }], guard := none } : Oper)) (v := .agg (xc).toArray) rfl (by kernel_rfl) (by kernel_rfl) (by kernel_rfl) (fun _ _ _ h => h) (yieldsIf_load_mid (by rfl) _ _ rfl _ _ rfl _ _ (fun W h => RX1.out W h) hu rfl hSx) hHeld ?_
          simp only [Act.put, List.setIfInBounds_toArray, List.set_cons_zero, List.set_cons_succ]
          refine wpAnyH_take (i := 4) (oi := ({ dst := some 64, op := Go.Op.move (Go.Operand.tmp 6), type := 29, pos := "law.go:290", after := #[], guard := none } : Oper)) (v := .slice (some ⟨g2, o2, none⟩) N cB) rfl (by kernel_rfl) (by kernel_rfl) (by kernel_rfl) (fun _ _ _ h => h) (Or.inl ⟨by rfl, fun w' _ => ?_⟩) hHeld ?_
          · go_simp
          simp only [Act.put, List.setIfInBounds_toArray, List.set_cons_zero, List.set_cons_succ]
          refine wpAnyH_take (i := 5) (oi := ({ dst := some 65, op := Go.Op.move (Go.Operand.tmp 10), type := 3, pos := "law.go:290", after := #[], guard := none } : Oper)) (v := .int .i64 k) rfl (by kernel_rfl) (by kernel_rfl) (by kernel_rfl) (fun _ _ _ h => h) (Or.inl ⟨by rfl, fun w' _ => ?_⟩) hHeld ?_
          · go_simp
          simp only [Act.put, List.setIfInBounds_toArray, List.set_cons_zero, List.set_cons_succ]
          refine wpAnyH_take (i := 6) (oi := ({ dst := some 66, op := Go.Op.indexAddr 29 (Go.Operand.tmp 64) (Go.Operand.tmp 65), type := 0, pos := "law.go:290", after := #[{ on := 4, ground := Go.Ground.data }, { on := 5, ground := Go.Ground.data }], guard := none } : Oper)) (v := .pointer (some ⟨g2, o2 + k * 18, none⟩)) rfl (by kernel_rfl) (by kernel_rfl) (by kernel_rfl) (fun _ _ _ h => h) (Or.inl ⟨by rfl, fun w' _ => ?_⟩) hHeld ?_
          · go_simp
          simp only [Act.put, List.setIfInBounds_toArray, List.set_cons_zero, List.set_cons_succ]
          refine wpAnyH_take (i := 7) (oi := ({ dst := some 67, op := Go.Op.load 55 (Go.Operand.tmp 66), type := 55, pos := "law.go:290", after := #[{ on := 6, ground := Go.Ground.data }], guard := none } : Oper)) (v := .agg (xc).toArray) rfl (by kernel_rfl) (by kernel_rfl) (by kernel_rfl) (fun _ _ _ h => h) (yieldsIf_load_mid (by rfl) _ _ rfl _ _ rfl _ _ (fun W h => RX2.out W h) hu rfl hSx) hHeld ?_
          simp only [Act.put, List.setIfInBounds_toArray, List.set_cons_zero, List.set_cons_succ]
          refine wpAnyH_take (i := 8) (oi := ({ dst := some 68, op := Go.Op.binOp Go.BinOp.neq 55 (Go.Operand.tmp 63) (Go.Operand.tmp 67) 55, type := 4, pos := "law.go:290", after := #[{ on := 3, ground := Go.Ground.data }, { on := 7, ground := Go.Ground.data }], guard := none } : Oper)) (v := .bool false) rfl (by kernel_rfl) (by kernel_rfl) (by kernel_rfl) (fun _ _ _ h => h) (Or.inl ⟨by rfl, fun w' _ => ?_⟩) hHeld ?_
          · (have hEQ := HEQ.out; go_simp)
          simp only [Act.put, List.setIfInBounds_toArray, List.set_cons_zero, List.set_cons_succ]
          refine wpAnyH_done (by kernel_rfl) ?_ _
          have HH := Lib.hid hHeld
          clear hHeld
          go_wp2
          go_roundw
          case rel => exact ⟨k + 1, by omega, by simp, HB.out.trans (HH.out.mono HB.out.size)⟩
          case measure => simp [intOf]; omega
        · obtain rfl : k = N := by omega
          have HB := Lib.hid hb
          clear hb
          go_wp2
          go_ret
          exact ⟨rfl, HB4.out.trans (HB.out.mono HB4.out.size)⟩
end Go.Proofs.YtnjcbkolniemnaaDoor
