/-
  Calls that came in as a list, the walk of the statements' own helpers Light and equal, and Set whatever it is called with. Conditions: each states its own.
-/
import Derived.Test.YtgopjgbcnjkblaaGreatDoorLinkShort
namespace Go.Proofs.YtgopjgbcnjkblaaGreatDoor
open Go.ChangeShapes Go.WideShapes Go.ChangeAt Go.ChangeMaps Go.RowKit

/-- a call -/
structure Cl where
  kind : Int
  num : Int
  s : Sl
def Cl.cells (c : Cl) : List Value := .int .i64 c.kind :: .int .i64 c.num :: c.s.lk
theorem Cl.clen (c : Cl) : c.cells.length = 9 := rfl
theorem lk_one (s : Sl) : ∀ u ∈ s.lk, u.oneCell' = true := fun u hu => by
  have := oneLk s
  rw [List.all_toArray, List.all_eq_true] at this
  exact this u hu
theorem Cl.one (c : Cl) : ∀ u ∈ c.cells, u.oneCell' = true := fun u hu => by
  unfold Cl.cells at hu
  rcases List.mem_cons.1 hu with rfl | hu
  · rfl
  rcases List.mem_cons.1 hu with rfl | hu
  · rfl
  exact lk_one _ u hu
theorem cCall : Tryz.prog.cellsOf 34 = 9 := by kernel_rfl
section
variable {H : Type} {enc : TypeId × Value → H} {W : World} {sp : Nat → Bool} {held : Bool}
set_option maxRecDepth 100000 in
theorem call_of {fuel : Nat} {l : List Value} {y : DataW H × List MemPlace} (h : DataW.trod enc Tryz.prog W 0 sp held fuel 34 l = some y) : ∃ c : Cl, InS W c.s ∧ l = c.cells := by
  obtain ⟨xs, m, _, _, hl, hxl, hat⟩ := DataW.trod_struct Tryz.underlying34 h
  rw [cCall] at hl
  have hxl : xs.length = 3 := hxl
  have h0 : DataW.trod enc Tryz.prog W 0 sp held m 3 ((l.drop 0).take (Tryz.prog.cellsOf 3)) = xs[0]? := hat 0 _ rfl
  have h1 : DataW.trod enc Tryz.prog W 0 sp held m 3 ((l.drop 1).take (Tryz.prog.cellsOf 3)) = xs[1]? := hat 1 _ rfl
  have h2 : DataW.trod enc Tryz.prog W 0 sp held m 31 ((l.drop 2).take (Tryz.prog.cellsOf 31)) = xs[2]? := hat 2 _ rfl
  rw [cInt, List.getElem?_eq_getElem (by omega)] at h0 h1
  rw [cLink, List.getElem?_eq_getElem (by omega)] at h2
  obtain ⟨a, e0, _⟩ := DataW.trod_int Tryz.underlying3 h0
  obtain ⟨b, e1, _⟩ := DataW.trod_int Tryz.underlying3 h1
  obtain ⟨s, hs, e2⟩ := link_of h2
  refine ⟨⟨a, b, s⟩, hs, ?_⟩
  have h3 := take3 (l := l) (a := 1) (b := 1) (c := 7) (by omega)
  rw [h3, e0, e1, e2]
  rfl
/-- what a list of calls that came in is -/
theorem open_calls {fuel : Nat} {A : Option Addr} {len cap : Nat} {x : DataW H × List MemPlace} (h : DataW.trod enc Tryz.prog W 0 sp held fuel 22 (Value.slice A len cap).cells.toList = some x) :
    ∃ ls : List Cl, ls.length = len ∧ ((∀ c ∈ ls, InS W c.s) ∧ RowIn 9 W (.slice A len cap) len (ls.map Cl.cells).flatten ∧ len ≤ maxLen) := by
  obtain ⟨A', len', cap', ls, e, h1, hml, h2, h3⟩ := open_rowsL (α := Cl) (st := 22) (e := 34) (s := 9) ⟨0, 0, zSl⟩ Cl.cells (fun c => InS W c.s) Tryz.underlying22 cCall (by decide) (fun _ _ _ h => call_of h) (fun r _ => Cl.clen r) (fun r _ => Cl.one r) rfl h
  simp only [Value.cells, List.cons.injEq, Value.slice.injEq, and_true] at e
  obtain ⟨rfl, rfl, rfl⟩ := e
  exact ⟨ls, h1, h2, h3, hml⟩
end
/-- an element of a list that came in -/
theorem RowIn.elem {α : Type} {s n c k : Nat} {w : World} {A : Option Addr} {ls : List α} {C : α → List Value} {r : α} (h : RowIn s w (.slice A n c) n (ls.map C).flatten) (hC : ∀ r, (C r).length = s) (h0 : 0 < s) (hk : ls[k]? = some r) :
    ∃ b o, A = some ⟨b, o, none⟩ ∧ ∀ j v, (C r)[j]? = some v → w.cell? ((⟨b, o + k * s, none⟩ : Addr).add j) = some v := by
  have hlc : ∀ x ∈ ls.map C, x.length = s := fun x hx => by obtain ⟨r, _, rfl⟩ := List.mem_map.1 hx; exact hC r
  have hkl : k < ls.length := (List.getElem?_eq_some_iff.1 hk).1
  have hfl := flat_len hlc
  have hn : 0 < (ls.map C).flatten.length := by rw [hfl, List.length_map]; exact Nat.mul_pos (by omega) h0
  rcases h.at' with ⟨_, e0⟩ | ⟨a, c', e, _, hc⟩
  · have := h.len; rw [e0] at this; omega
  · injection e with e _ _
    obtain ⟨u, hu⟩ : ∃ u, (ls.map C).flatten[0]? = some u := ⟨_, List.getElem?_eq_getElem hn⟩
    have hz := hc 0 u hu
    obtain ⟨b, off, spot⟩ := a
    have hspot : spot = none := by simpa [Addr.add] using World.cell?_spot hz
    subst hspot
    refine ⟨b, off, e, fun j v hj => ?_⟩
    have hjs : j < s := by have := (List.getElem?_eq_some_iff.1 hj).1; rwa [hC] at this
    have := hc (k * s + j) v (by rw [flat_at (xs := ls.map C) hlc (by rw [List.getElem?_map, hk]; rfl) hjs]; exact hj)
    rw [Addr.add_lit] at this ⊢
    rwa [Nat.add_assoc]
theorem sizeCall (c : Cl) : (Tryz.prog.info? 34).map (·.size) = some c.cells.toArray.size := by kernel_rfl
theorem oneCall (c : Cl) : c.cells.toArray.all (·.oneCell') = true := by rw [List.all_toArray, List.all_eq_true]; exact Cl.one c
def LightPost (n : Nat) (w : World) (e : Ending) (w' : World) : Prop := ∃ b : Bool, e = .returned (.bool b) ∧ Below w.heap.size w w' ∧ (b = true → n ≤ 60)
set_option maxRecDepth 100000 in
set_option maxHeartbeats 1000000 in
theorem light_e {w : World} {A : Option Addr} {n c : Nat} {ls : List Cl} (hn : ls.length = n) (hI : ∀ x ∈ ls, InL w x.s) (hr : RowIn 9 w (.slice A n c) n (ls.map Cl.cells).flatten) (hm : n ≤ 9223372036854775807) :
    Calls Tryz.prog 6 #[.slice A n c] w fun e w' => LightPost n w e w' := by
  have HI := Lib.hid hI
  have HR := Lib.hid hr
  clear hI hr
  by_cases hl : 60 < n
  · go_enter Tryz.func6, Tryz.ntmps6
    go_wp2
    go_ret
    exact ⟨_, rfl, Below.refl _ _, fun h => by cases h⟩
  · have HL : Hid (n ≤ 60) := Lib.hid (by omega)
    go_enter Tryz.func6, Tryz.ntmps6
    go_wp2
    go_loopw [10] (fun i wr => ∃ k : Nat, k ≤ n ∧ i = .int .i64 k ∧ Below w.heap.size w wr) (fun i _ => n - (intOf i).toNat)
    case atStart => exact ⟨0, Nat.zero_le _, rfl, Below.refl _ _⟩
    case round =>
      obtain ⟨k, hk, rfl, hb⟩ := hrel
      by_cases hlt : k < n
      · obtain ⟨x, hx⟩ : ∃ x, ls[k]? = some x := ⟨_, List.getElem?_eq_getElem (by omega)⟩
        obtain ⟨b, o, rfl, hc⟩ := (HR.out.below hb).elem Cl.clen (by decide) hx
        have hxi := (HI.out x (List.mem_of_getElem? hx)).below hb
        have HC := Lib.hid hc
        have HS := Lib.hid (sizeCall x)
        have H1 := Lib.hid (oneCall x)
        have hba := (Below.refl _ wr).alloc (Nat.le_refl _) (.cells x.cells.toArray 34)
        have hsh := short_e (hxi.below hba)
        have HB := Lib.hid hb
        have HBA := Lib.hid hba
        clear hc hx hxi hb hba
        obtain ⟨kind, num, ⟨live, gen, dA, dc, ds, df, ll, sA, sc, ns, ss, lA, lc, nl, ls', ca⟩⟩ := x
        simp only [Cl.cells, Sl.lk] at HC HS H1 hsh HBA
        go_wp2_with (first
          | (refine wpList_load_agg rfl 34 _ rfl ⟨b, o + k * 9, none⟩ rfl _ _ (fun j v hj => HC.out j v (by simpa using hj)) Tryz.underlying34 rfl HS.out ?_; go_simp))
        refine hsh.mono ?_
        rintro e w1 ⟨bb, rfl, hb1⟩
        clear hsh
        have HB1 := Lib.hid ((HB.out.trans (HBA.out.mono HB.out.size)).trans (hb1.mono (Nat.le_trans HB.out.size HBA.out.size)))
        clear hb1
        cases bb
        · go_wp2
          go_ret
          exact ⟨_, rfl, HB1.out, fun h => by cases h⟩
        · go_wp2
          go_roundw
          case rel => exact ⟨k + 1, by omega, by simp, HB1.out⟩
          case measure => simp [intOf]; omega
      · obtain rfl : k = n := by omega
        have HB := Lib.hid hb
        clear hb
        go_wp2
        go_ret
        exact ⟨_, rfl, HB.out, fun _ => HL.out⟩
/-- Set, whatever it is called with -/
def SetAny (base T last : Nat) (w : World) (e : Ending) (w' : World) : Prop := ∃ (z : Int) (ss' : List Sl) (last' : Nat), e = .returned (.int .i64 z) ∧ TAt base w' T ss' last' ∧ last' ≤ last + 1 ∧ Env w' ∧ w.grownBy w' (some T)
theorem set_any {base T last : Nat} {w : World} {ss : List Sl} {s : Sl} (i : Int) (hT : TAt base w T ss last) (h : InL w s) (hfar : FarL T s) (he : Env w) (hme : 0 < base) (hf : last + 1 ≤ 4611686018427387904) :
    Calls Tryz.prog 10 #[.pointer (some ⟨T, 0, none⟩), .int .i64 i, .agg s.lk.toArray] w fun e w' => SetAny base T last w e w' := by
  by_cases hi : 0 ≤ i ∧ i < 4
  · obtain ⟨k, rfl⟩ : ∃ k : Nat, i = k := ⟨i.toNat, by omega⟩
    cases hr : rightL s with
    | true => exact (set_good hT (by omega) h hfar he hme hr hf).mono (by rintro e w' ⟨s', C, rfl, h1, h2, h3, _⟩; exact ⟨_, _, _, rfl, h1, Nat.le_refl _, h3, h2⟩)
    | false => exact (set_bad T k (by omega) h he hr).mono (by rintro e w' ⟨rfl, h1, h2⟩; exact ⟨_, _, _, rfl, hT.below h1, by omega, h2, grown_of_below _ h1⟩)
  · exact (set_out T i s hi).mono (by rintro e w' ⟨rfl, h1⟩; exact ⟨_, _, _, rfl, hT.below h1, by omega, he.below h1, grown_of_below _ h1⟩)
theorem flat_int : ∀ (L : List Int), (L.map (fun z => [Value.int .i64 z])).flatten = L.map (.int .i64)
  | [] => rfl
  | z :: L => by rw [List.map_cons, List.flatten_cons, flat_int L]; rfl
set_option maxRecDepth 100000 in
set_option maxHeartbeats 1000000 in
theorem eqn_e {w : World} {A B : Option Addr} {c d : Nat} {L : List Int} (hA : RowIn 1 w (.slice A L.length c) L.length (L.map (.int .i64))) (hB : RowIn 1 w (.slice B L.length d) L.length (L.map (.int .i64))) (hm : L.length ≤ 1000) :
    Calls Tryz.prog 16 #[.slice A L.length c, .slice B L.length d] w fun e w' => e = .returned (.bool true) ∧ Below w.heap.size w w' := by
  have HA := Lib.hid hA
  have HB := Lib.hid hB
  clear hA hB
  have hcell : ∀ {A : Option Addr} {c : Nat}, Hid (RowIn 1 w (.slice A L.length c) L.length (L.map (.int .i64))) → ∀ wr, Below w.heap.size w wr → ∀ k, k < L.length → ∃ g o, A = some ⟨g, o, none⟩ ∧ wr.cell? ⟨g, o + k, none⟩ = some (.int .i64 (L.getD k 0)) := fun h wr hb k hk => by
    have h2 := h.out.below hb
    rw [← flat_int] at h2
    obtain ⟨g, o, rfl, hc⟩ := h2.elem (C := fun z => [Value.int .i64 z]) (r := L.getD k 0) (fun _ => rfl) (by decide) (by rw [List.getD, List.getElem?_eq_getElem hk]; rfl)
    refine ⟨g, o, rfl, ?_⟩
    have := hc 0 _ rfl
    rw [Addr.add_lit, Nat.mul_one, Nat.add_zero] at this
    exact this
  have HC := Lib.hid (fun wr hb k hk => hcell HA wr hb k hk)
  have HD := Lib.hid (fun wr hb k hk => hcell HB wr hb k hk)
  clear hcell HA HB
  revert hm HC HD
  generalize L.length = n
  intro hm HC HD
  go_enter Tryz.func16, Tryz.ntmps16
  go_wp2
  go_loopw [13] (fun i wr => ∃ k : Nat, k ≤ n ∧ i = .int .i64 k ∧ Below w.heap.size w wr) (fun i _ => n - (intOf i).toNat)
  case atStart => exact ⟨0, Nat.zero_le _, rfl, Below.refl _ _⟩
  case round =>
    obtain ⟨k, hk, rfl, hb⟩ := hrel
    by_cases hlt : k < n
    · obtain ⟨g, o, rfl, c1⟩ := HC.out wr hb k hlt
      obtain ⟨g', o', rfl, c2⟩ := HD.out wr hb k hlt
      have HB := Lib.hid hb
      clear hb
      revert c1 c2
      generalize L.getD k 0 = z
      intro c1 c2
      go_wp2_with fail
      go_quiet (fail)
      have HB2 := Lib.hid (HB.out.trans (⟨rfl, rfl, rfl, Nat.le_refl _, fun _ _ => rfl⟩ : Below w.heap.size wr (wr.drewN nq)))
      go_wp2
      go_roundw
      case rel => exact ⟨k + 1, by omega, by simp, HB2.out⟩
      case measure => simp [intOf]; omega
    · obtain rfl : k = n := by omega
      have HB := Lib.hid hb
      clear hb
      go_wp2
      go_ret
      exact ⟨rfl, HB.out⟩
end Go.Proofs.YtgopjgbcnjkblaaGreatDoor
