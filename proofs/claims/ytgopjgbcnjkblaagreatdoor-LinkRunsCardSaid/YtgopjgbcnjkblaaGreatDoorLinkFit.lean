/-
  The walk of the statements' own example. Condition: the library's variable MaxLen holds some number.
-/
import Derived.Test.YtgopjgbcnjkblaaGreatDoorLinkPlain
import Derived.Test.YtgopjgbcnjkblaaGreatDoorLinkSet
namespace Go.Proofs.YtgopjgbcnjkblaaGreatDoor
open Go.RowKit

theorem RowIn.of_heap {t : TypeId} {k n g : Nat} {w : World} {cs : Array Value} {xs : List Value} (hg : w.heap[g]? = some (.cells cs t (0, 0))) (hx : cs.toList = xs) (hn : xs.length = n * k) (ho : ∀ u ∈ xs, u.oneCell' = true) : RowIn k w (.slice (some ⟨g, 0, none⟩) n n) n xs :=
  ⟨hn, ho, .inr ⟨⟨g, 0, none⟩, n, rfl, Nat.le_refl _, fun j u hj => by
    rw [Addr.add_lit, Nat.zero_add, cell_of_row _ _ _ _ _ _ hg]
    rw [← hx] at hj; simpa using hj⟩⟩
def z16 : List Value := List.replicate 16 (.int .u8 0)
theorem mk_addr (W : World) : (Instr.makeSlice 28 (.int .i64 1) (.int .i64 1)).run Tryz.prog W = .ok (.slice (some ⟨W.heap.size, 0, none⟩) 1 1) (W.alloc (.cells z16.toArray 83)) := by kernel_rfl
/-- a link that a statement makes: one domain, one server -/
def mkS (d : ByteArray) (df : Bool) (g1 g2 : Nat) : Sl := ⟨false, 0, some ⟨g1, 0, none⟩, 1, [d], df, false, some ⟨g2, 0, none⟩, 1, 1, z16, none, 0, 0, [], none⟩
theorem mkS_in {w : World} {d : ByteArray} {df : Bool} {g1 g2 : Nat} (h1 : w.heap[g1]? = some (.cells #[.string d] 9 (0, 0))) (h2 : w.heap[g2]? = some (.cells z16.toArray 83 (0, 0))) (hd : d.size ≤ maxLen) : InL w (mkS d df g1 g2) :=
  ⟨RowIn.of_heap h1 rfl rfl (fun u hu => by obtain rfl := List.mem_singleton.1 hu; rfl), RowIn.of_heap h2 rfl rfl (fun u (hu : u ∈ z16) => by unfold z16 at hu; rw [List.eq_of_mem_replicate hu]; rfl), RowIn.nil _ _, (fun x hx => by obtain rfl := List.mem_singleton.1 hx; exact hd), by show 1 ≤ maxLen; unfold maxLen; omega, by show 1 ≤ maxLen; unfold maxLen; omega, Nat.zero_le _⟩
theorem mkS_right {d : ByteArray} {df : Bool} {g1 g2 : Nat} (h : okD d = true) : rightL (mkS d df g1 g2) = true := by
  unfold rightL mkS
  simp [h]
theorem cnew1_e (w : World) : Calls Tryz.prog 21 #[.int .i64 1] w fun e w' => e = .returned (.pointer (some ⟨w.heap.size, 0, none⟩)) ∧ w' = w.alloc (.cells #[.int .i64 1, .slice none 0 0] 67) := by
  go_enter Tryz.func21, Tryz.ntmps21
  go_wp2
  go_ret
  exact ⟨rfl, rfl⟩
theorem clen_e (C : Nat) (w : World) (h : w.cell? ⟨C, 1, none⟩ = some (.slice none 0 0)) : Calls Tryz.prog 14 #[.pointer (some ⟨C, 0, none⟩)] w fun e w' => e = .returned (.int .i64 0) ∧ w = w' := by
  go_enter Tryz.func14, Tryz.ntmps14
  go_wp2
  go_ret
  exact ⟨rfl, rfl⟩
def corp : ByteArray := ⟨#[99, 111, 114, 112]⟩
def acorp : ByteArray := ⟨#[97, 46, 99, 111, 114, 112]⟩
def dotT : ByteArray := ⟨#[46]⟩
theorem reach_z (n : ByteArray) : reachL [] n = -1 := rfl
theorem fit_route {s1 s2 : Sl} (l1 : s1.live = true) (l2 : s2.live = true) (d1 : s1.ds = [corp]) (d2 : s2.ds = [dotT]) (n1 : s1.ns = 1) (n2 : s2.ns = 1) : routeL [s1, s2, zSl, zSl] acorp = [0] := by
  have r1 : reachL [corp] acorp = 1 := by rw [reachL_data]; decide
  have r2 : reachL [dotT] acorp = 0 := by rw [reachL_data]; decide
  rw [route4]
  have hz : zSl.live = false := rfl
  simp only [mx, selL, asked, l1, l2, d1, d2, r1, r2, n1, n2, hz]
  have e : (max (max (-1) 1) 0 : Int) = 1 := by decide
  simp [e]
theorem NumPost.one {L : List Int} {k : Int} {w w' : World} {v : Value} (h : w'.ownsRow w.heap.size 3 1 v L.length (ints L)) (hL : L = [k]) : ∃ g c, v = .slice (some ⟨g, 0, none⟩) 1 c ∧ w'.cell? ⟨g, 0, none⟩ = some (.int .i64 k) := by
  subst hL
  rcases h.2 with ⟨_, h0⟩ | ⟨g, cap, cur, rfl, hb, hg, _⟩
  · simp at h0
  · refine ⟨g, cap, rfl, ?_⟩
    have := h.cells (g := g) rfl 0 _ rfl
    rwa [Addr.add_lit, Nat.zero_add] at this
def SetS (base T last k : Nat) (ss : List Sl) (d : ByteArray) (df : Bool) (w : World) (e : Ending) (w' : World) : Prop :=
  ∃ s', e = .returned (.int .i64 0) ∧ TAt base w' T (ss.set k s') (last + 1) ∧ w.grownBy w' (some T) ∧ Env w' ∧ s'.live = true ∧ s'.ds = [d] ∧ s'.df = df ∧ s'.ns = 1
theorem setS_e {base T last k g1 g2 : Nat} {ss : List Sl} {W : World} {d : ByteArray} {df : Bool} (hT : TAt base W T ss last) (he : Env W) (hme : 0 < base) (hf : last + 1 ≤ 4611686018427387904) (hk : k < 4)
    (h1 : W.heap[g1]? = some (.cells #[.string d] 9 (0, 0))) (h2 : W.heap[g2]? = some (.cells z16.toArray 83 (0, 0))) (hd : okD d = true) :
    Calls Tryz.prog 10 #[.pointer (some ⟨T, 0, none⟩), .int .i64 k, .agg #[.bool false, .int .i64 0, .slice (some ⟨g1, 0, none⟩) 1 1, .bool df, .bool false, .slice (some ⟨g2, 0, none⟩) 1 1, .slice none 0 0]] W fun e w' => SetS base T last k ss d df W e w' :=
  (set_good (s := mkS d df g1 g2) hT hk (mkS_in h1 h2 (by have := okD_size hd; unfold maxLen; omega)) ⟨(fun _ e => by injection e with e; subst e; have := hT.obj.symm.trans h1; injection this with this; injection this with _ this; exact absurd this (by decide)), (fun _ e => by injection e with e; subst e; have := hT.obj.symm.trans h2; injection this with this; injection this with _ this; exact absurd this (by decide)), fun h => absurd rfl h⟩ he hme (mkS_right hd) hf).mono (by
    rintro e w' ⟨s', C, rfl, h1, h2, h3, h4, _, h6, h7, _, h9, _⟩
    exact ⟨s', rfl, h1, h2, h3, h4, h6, h7, h9⟩)
set_option maxRecDepth 100000 in
set_option maxHeartbeats 2000000 in
theorem fit11_e (w : World) (he : Env w) : Calls Tryz.prog 5 #[] w fun e w' => e = .returned (.bool true) ∧ Below w.heap.size w w' ∧ Env w' := by
  have hme := he.1
  have hmk := mk_addr
  go_enter Tryz.func5, Tryz.ntmps5
  go_wp2_with fail
  refine (newT_e w).mono ?_
  rintro e w1 ⟨T, rfl, hT1, hb1⟩
  have HT1 := Lib.hid hT1
  have HE1 := Lib.hid (he.below hb1)
  have HB1 := Lib.hid hb1
  clear hT1 hb1 he
  go_wp2_with fail
  have hS := setS_e (base := w.heap.size) (T := T) (last := 0) (k := 0) (g1 := w1.heap.size) (g2 := w1.heap.size + 1) (ss := [zSl, zSl, zSl, zSl]) (W := (w1.alloc (.cells #[.string corp] 9)).alloc (.cells z16.toArray 83)) (d := corp) (df := false)
    (HT1.out.below (((Below.refl _ w1).alloc (Nat.le_refl _) _).alloc (by simp) _)) (HE1.out.below (((Below.refl _ w1).alloc (Nat.le_refl _) _).alloc (by simp) _)) hme (by omega) (by omega)
    ((Below.heap_alloc _ _ _ (by simp)).trans (heap_alloc_last w1 _)) (by have := heap_alloc_last (w1.alloc (.cells #[.string corp] 9)) (.cells z16.toArray 83); rwa [World.size_alloc] at this) (okD_plain (by decide))
  refine Calls.mono hS ?_
  rintro e w2 ⟨s1, rfl, hT2, hg2, hE2, l1, d1, _, n1⟩
  have HT2 := Lib.hid hT2
  have HE2 := Lib.hid hE2
  have hbT := HT1.out.ge
  have HB2 := Lib.hid ((HB1.out.trans ((((Below.refl _ w1).alloc (Nat.le_refl _) (.cells #[.string corp] 9)).alloc (by simp) (.cells z16.toArray 83)).mono HB1.out.size)).grown hg2 (by have := HB1.out.size; simp; omega) (fun k e => by injection e with e; omega))
  clear hS hT2 hg2 hE2 HT1 HE1 HB1
  have hz2 := HB2.out.size
  go_wp2_with fail
  have hS := setS_e (base := w.heap.size) (T := T) (last := 1) (k := 1) (g1 := w2.heap.size) (g2 := w2.heap.size + 1) (ss := [s1, zSl, zSl, zSl]) (W := (w2.alloc (.cells #[.string dotT] 9)).alloc (.cells z16.toArray 83)) (d := dotT) (df := false)
    (HT2.out.below (((Below.refl _ w2).alloc (Nat.le_refl _) _).alloc (by simp) _)) (HE2.out.below (((Below.refl _ w2).alloc (Nat.le_refl _) _).alloc (by simp) _)) hme (by omega) (by omega)
    ((Below.heap_alloc _ _ _ (by simp)).trans (heap_alloc_last w2 _)) (by have := heap_alloc_last (w2.alloc (.cells #[.string dotT] 9)) (.cells z16.toArray 83); rwa [World.size_alloc] at this) (okD_dot rfl)
  refine Calls.mono hS ?_
  rintro e w3 ⟨s2, rfl, hT3, hg3, hE3, l2, d2, _, n2⟩
  have HT3 := Lib.hid hT3
  have HE3 := Lib.hid hE3
  have HB3 := Lib.hid ((HB2.out.trans ((((Below.refl _ w2).alloc (Nat.le_refl _) (.cells #[.string dotT] 9)).alloc (by simp) (.cells z16.toArray 83)).mono hz2)).grown hg3 (by simp; omega) (fun k e => by injection e with e; omega))
  clear hS hT3 hg3 hE3 HT2 HE2 HB2 hmk
  have hz3 := HB3.out.size
  have HRT := Lib.hid (fit_route l1 l2 d1 d2 n1 n2)
  clear l1 l2 d1 d2 n1 n2
  go_wp2_with fail
  refine Calls.mono (route_e acorp w3 HT3.out (by decide) HE3.out) ?_
  rintro e w4 ⟨v, rfl, ho, hb4⟩
  obtain ⟨g, c, rfl, hcell⟩ := NumPost.one ho HRT.out
  have HE4 := Lib.hid (HE3.out.below hb4)
  have HB4 := Lib.hid (HB3.out.trans (hb4.mono hz3))
  have hz4 := HB4.out.size
  clear ho hb4 HT3 HE3 HB3 HRT
  go_wp2_with fail
  refine (cnew1_e w4).mono ?_
  rintro e w5 ⟨rfl, rfl⟩
  have hb5 := (Below.refl _ w4).alloc (Nat.le_refl _) (.cells #[.int .i64 1, .slice none 0 0] 67)
  have hcl := clen_e w4.heap.size (w4.alloc (.cells #[.int .i64 1, .slice none 0 0] 67)) (by rw [cell_of_row _ _ _ _ _ _ (heap_alloc_last w4 _)]; rfl)
  have HE5 := Lib.hid (HE4.out.below hb5)
  have HB5 := Lib.hid (HB4.out.trans (hb5.mono hz4))
  clear hb5 HE4 HB4
  generalize w4.alloc _ = w5 at hcl HE5 HB5 ⊢
  go_wp2_with fail
  refine hcl.mono ?_
  rintro e w6 ⟨rfl, rfl⟩
  clear hcl
  go_wp2_with fail
  refine Calls.mono (count_e dotT w5 HE5.out (by decide)) ?_
  rintro e w6 ⟨rfl, hb6, hE6⟩
  have hc0 : (cntB dotT : Int) = 0 := by rw [cntB_data]; rfl
  have HE6 := Lib.hid hE6
  have HB6 := Lib.hid (HB5.out.trans (hb6.mono HB5.out.size))
  clear hb6 hE6 HE5 HB5
  rw [hc0]
  clear hc0
  go_wp2_with fail
  refine Calls.mono (dots_l ⟨#[97]⟩ w6) ?_
  rintro e w7 ⟨rfl, rfl⟩
  rw [show ((List.count 46 (ByteArray.mk #[97]).data.toList : Nat) : Int) = 0 by decide]
  go_wp2
  go_ret
  exact ⟨rfl, HB6.out, HE6.out⟩
end Go.Proofs.YtgopjgbcnjkblaaGreatDoor
