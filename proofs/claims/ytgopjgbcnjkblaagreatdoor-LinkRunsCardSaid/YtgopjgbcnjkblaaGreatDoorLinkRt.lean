/-
  The walks of routes and Right: which links may be set. Conditions: the lists lie where the slices say, the texts have a length that may be, and the library's variable MaxLen holds some number.
-/
import Derived.Test.YtgopjgbcnjkblaaGreatDoorLinkTb
import Derived.Test.YtgopjgbcnjkblaaGreatDoorNameTo
import Derived.Test.YtgopjgbcnjkblaaGreatDoorUnder
import Derived.Test.YtgopjgbcnjkblaaGreatDoorCount
namespace Go.Proofs.YtgopjgbcnjkblaaGreatDoor
open Go.RowKit

theorem ta_l (s : ByteArray) (w : World) (he : Env w) (hs : s.size ≤ 9223372036854775807) :
    Calls Tryz.prog 25 #[.string s] w fun e w' => ∃ (n : Nat) (t : ByteArray), e = .returned (.tuple #[.string t, .int .i64 n]) ∧ Below w.heap.size w w' ∧ Env w' ∧ Hid (TA s.data.toList n t.data.toList) :=
  (toASCII_any s w he hs).mono fun _ _ ⟨m, y, h1, h2, h3⟩ => ⟨m, y, h1, h2, he.below h2, Lib.hid h3⟩
theorem bytes_un {y s : ByteArray} (h : ¬ y = s) : (y.toList == s.toList) = false := by
  rw [beq_eq_false_iff_ne, Lib.toList_data, Lib.toList_data]
  exact fun e => h (bytes_inj e)
open Classical in
/-- does it go out as it is? -/
noncomputable def taB (d : ByteArray) : Bool := decide (TA d.data.toList 0 d.data.toList)
open Classical in
theorem taB_yes {d : ByteArray} (h : TA d.data.toList 0 d.data.toList) : taB d = true := by unfold taB; exact decide_eq_true h
open Classical in
theorem taB_no {d : ByteArray} (h : ¬ TA d.data.toList 0 d.data.toList) : taB d = false := by unfold taB; exact decide_eq_false h
open Classical in
theorem of_taB {d : ByteArray} (h : taB d = true) : TA d.data.toList 0 d.data.toList := by unfold taB at h; exact of_decide_eq_true h
/-- may a text be a routing domain? -/
noncomputable def okD (d : ByteArray) : Bool := (d.toList == [46]) || taB d
theorem okD_size {d : ByteArray} (h : okD d = true) : d.size ≤ 253 := by
  unfold okD at h
  rw [Bool.or_eq_true] at h
  rcases h with h | h
  · have : d.toList = [46] := by simpa using h
    rw [Lib.size_eq, ← Lib.toList_data, this]; decide
  · have h := of_taB h
    rw [Lib.size_eq]
    generalize d.data.toList = x at h
    generalize hy : x = y at h
    rw [hy] at *
    have h2 : ∀ {s t : List UInt8}, TA s 0 t → t.length ≤ 253 := by
      intro s t ht
      generalize hz : (0 : Nat) = z at ht
      cases ht with
      | long => omega
      | err h e he hl => exact absurd hz.symm he
      | big => omega
      | ok h ys hl hb => exact hb
    exact h2 h
set_option maxHeartbeats 400000 in
theorem routes_e (d : ByteArray) (w : World) (he : Env w) (hs : d.size ≤ 9223372036854775807) :
    Calls Tryz.prog 24 #[.string d] w fun e w' => e = .returned (.bool (okD d)) ∧ Below w.heap.size w w' ∧ Env w' := by
  cases hd : (d.toList == [46])
  · have hta := ta_l d w he hs
    have HO := Lib.hid (show okD d = taB d by unfold okD; rw [hd]; rfl)
    go_enter Tryz.func24, Tryz.ntmps24
    go_wp2_with fail
    refine hta.mono ?_; rintro e w1 ⟨n, t, rfl, hb, he1, hT⟩
    clear hta
    by_cases hn : n = 0
    · subst hn
      by_cases ht : t = d
      · subst ht
        have hk : okD t = true := by rw [HO.out]; exact taB_yes hT.out
        have HK := Lib.hid hk
        have HB := Lib.hid hb
        have HE := Lib.hid he1
        clear hk hb he1 HO hT
        go_wp2
        go_ret
        exact ⟨ret_b HK.out.symm, HB.out, HE.out⟩
      · have hk : okD d = false := by rw [HO.out]; exact taB_no (fun h => ht (bytes_inj (hT.out.det h).2))
        have hne := bytes_un ht
        have HK := Lib.hid hk
        have HB := Lib.hid hb
        have HE := Lib.hid he1
        clear hk hb he1 HO hT ht
        go_wp2
        go_ret
        exact ⟨ret_b HK.out.symm, HB.out, HE.out⟩
    · have hk : okD d = false := by rw [HO.out]; exact taB_no (fun h => hn (hT.out.det h).1)
      have hn' : ((n : Int) == 0) = false := by simpa using hn
      have HK := Lib.hid hk
      have HB := Lib.hid hb
      have HE := Lib.hid he1
      clear hk hb he1 HO hT hn
      go_wp2
      go_ret
      exact ⟨ret_b HK.out.symm, HB.out, HE.out⟩
  · have HO := Lib.hid (show okD d = true by unfold okD; rw [hd]; rfl)
    go_enter Tryz.func24, Tryz.ntmps24
    go_wp2
    go_ret
    exact ⟨ret_b HO.out.symm, Below.refl _ _, he⟩
/-- a link that is handed in, of any length that may be -/
structure InL (w : World) (s : Sl) : Prop where
  dom : RowIn 1 w s.dv s.ds.length (s.ds.map .string)
  srv : RowIn 16 w s.sv s.ns s.ss
  loc : RowIn 18 w s.lv s.nl s.ls
  sz : ∀ d ∈ s.ds, d.size ≤ maxLen
  nd : s.ds.length ≤ maxLen
  nsl : s.ns ≤ maxLen
  nll : s.nl ≤ maxLen
theorem InL.below {w w' : World} {s : Sl} (h : InL w s) (hb : Below w.heap.size w w') : InL w' s := ⟨h.dom.below hb, h.srv.below hb, h.loc.below hb, h.sz, h.nd, h.nsl, h.nll⟩
/-- may a link be set so? -/
noncomputable def rightL (s : Sl) : Bool := decide (s.ds.length ≤ 4) && decide (s.ns ≤ 3) && decide (s.nl ≤ 4) && s.ds.all okD
theorem RowIn.txt {w : World} {A : Option Addr} {c : Nat} {ds : List ByteArray} (h : RowIn 1 w (.slice A ds.length c) ds.length (ds.map .string)) {k : Nat} (hk : k < ds.length) : ∃ g o, A = some ⟨g, o, none⟩ ∧ w.cell? ⟨g, o + k, none⟩ = some (.string (ds.getD k ByteArray.empty)) := by
  rcases h.at' with ⟨_, h0⟩ | ⟨a, c', e, hc0, hc⟩
  · omega
  · injection e with e _ _
    have := hc k (.string (ds.getD k ByteArray.empty)) (by rw [List.getElem?_map, List.getElem?_eq_getElem hk]; simp [List.getD, List.getElem?_eq_getElem hk])
    have h0 := hc 0 (.string (ds.getD 0 ByteArray.empty)) (by rw [List.getElem?_map, List.getElem?_eq_getElem (by omega : 0 < ds.length)]; simp [List.getD, List.getElem?_eq_getElem (by omega : 0 < ds.length)])
    obtain ⟨b, off, spot⟩ := a
    have hspot : spot = none := by simpa [Addr.add] using World.cell?_spot h0
    subst hspot
    refine ⟨b, off, e, ?_⟩
    rwa [Addr.add_lit] at this
theorem getD_mem {ds : List ByteArray} {k : Nat} (hk : k < ds.length) : ds.getD k ByteArray.empty ∈ ds := by
  rw [List.getD, List.getElem?_eq_getElem hk]; exact List.getElem_mem hk
theorem all_take {ds : List ByteArray} {p : ByteArray → Bool} {k : Nat} (hk : k < ds.length) (h : (ds.take k).all p = true) (h1 : p (ds.getD k ByteArray.empty) = true) : (ds.take (k + 1)).all p = true := by
  rw [List.take_succ_eq_append_getElem hk, List.all_append, h]
  rw [List.getD, List.getElem?_eq_getElem hk] at h1
  simpa using h1
theorem all_bad {ds : List ByteArray} {p : ByteArray → Bool} {k : Nat} (hk : k < ds.length) (h1 : p (ds.getD k ByteArray.empty) = false) : ds.all p = false := by
  rw [List.all_eq_false]
  exact ⟨_, getD_mem hk, by rw [h1]; decide⟩
set_option maxRecDepth 100000 in
set_option maxHeartbeats 1000000 in
theorem right_e {w : World} {s : Sl} (h : InL w s) (he : Env w) : Calls Tryz.prog 8 #[.agg s.lk.toArray] w fun e w' => e = .returned (.bool (rightL s)) ∧ Below w.heap.size w w' ∧ Env w' := by
  obtain ⟨live, gen, dA, dc, ds, df, ll, sA, sc, ns, ss, lA, lc, nl, ls, ca⟩ := s
  obtain ⟨hd, hs, hl, hz, n1, n2, n3⟩ := h
  simp only [Sl.dv, Sl.sv, Sl.lv] at hd hs hl hz n1 n2 n3
  have HD := Lib.hid hd
  have HZ := Lib.hid hz
  have HN1 := Lib.hid n1
  clear hs hl hd hz
  have hR : Hid (∀ b, b = (decide (ds.length ≤ 4) && decide (ns ≤ 3) && decide (nl ≤ 4) && ds.all okD) → Ending.returned (.bool b) = .returned (.bool (rightL ⟨live, gen, dA, dc, ds, df, ll, sA, sc, ns, ss, lA, lc, nl, ls, ca⟩))) := Lib.hid (fun b hb => by rw [hb]; rfl)
  simp only [Sl.lk]
  have hb0 := ((Below.refl _ w).alloc (Nat.le_refl _) (.cells #[.bool live, .int .i64 gen, .slice dA ds.length dc, .bool df, .bool ll, .slice sA ns sc, .slice lA nl lc] 31))
  have HB0 := Lib.hid hb0
  have HE0 := Lib.hid (he.below hb0)
  have HD0 := Lib.hid (HD.out.below hb0)
  clear hb0
  by_cases c1 : ds.length ≤ 4
  · by_cases c2 : ns ≤ 3
    · by_cases c3 : nl ≤ 4
      · clear n1 n2 n3
        go_enter Tryz.func8, Tryz.ntmps8
        go_wp2
        generalize w.alloc _ = w0 at HB0 HE0 HD0 ⊢
        go_loopw [24] (fun i wr => ∃ k : Nat, k ≤ ds.length ∧ i = .int .i64 k ∧ Below w0.heap.size w0 wr ∧ Env wr ∧ (ds.take k).all okD = true) (fun i _ => ds.length - (intOf i).toNat)
        case atStart => exact ⟨0, Nat.zero_le _, rfl, Below.refl _ _, HE0.out, rfl⟩
        case round =>
          obtain ⟨k, hk, rfl, hb, hE, hA⟩ := hrel
          by_cases hlt : k < ds.length
          · obtain ⟨g, o, rfl, hc⟩ := (HD0.out.below hb).txt hlt
            have hro := routes_e (ds.getD k ByteArray.empty) wr hE (by have := HZ.out _ (getD_mem hlt); unfold maxLen at this; omega)
            have HBad := Lib.hid (fun h => all_bad (p := okD) hlt h)
            have HGood := Lib.hid (fun h => all_take (p := okD) hlt hA h)
            have HB := Lib.hid hb
            clear hA hb hE
            revert hc hro HBad HGood
            generalize ds.getD k ByteArray.empty = x
            intro hc hro HBad HGood
            go_wp2_with fail
            refine hro.mono ?_; rintro e w1 ⟨rfl, hb1, hE1⟩
            clear hro
            have HB1 := Lib.hid (HB.out.trans (hb1.mono HB.out.size))
            have HE1 := Lib.hid hE1
            clear hb1 hE1 hc
            cases hq : okD x
            · have HQ := Lib.hid (HBad.out hq)
              clear hq HBad HGood
              go_wp2
              go_ret
              exact ⟨hR.out _ (by rw [HQ.out]; simp), HB0.out.trans (HB1.out.mono HB0.out.size), HE1.out⟩
            · have HQ := Lib.hid (HGood.out hq)
              clear hq HBad HGood
              go_wp2
              go_roundw
              case rel => exact ⟨k + 1, by omega, by simp, HB1.out, HE1.out, HQ.out⟩
              case measure => simp [intOf]; omega
          · obtain rfl : k = ds.length := by omega
            rw [List.take_length] at hA
            have HA := Lib.hid hA
            have HB := Lib.hid hb
            have HE := Lib.hid hE
            have HC := Lib.hid (show (decide (ds.length ≤ 4) && decide (ns ≤ 3) && decide (nl ≤ 4)) = true by simp [c1, c2, c3])
            clear hA hb hE
            go_wp2
            go_ret
            exact ⟨hR.out _ (by rw [HA.out, HC.out]; rfl), HB0.out.trans (HB.out.mono HB0.out.size), HE.out⟩
      · have HC := Lib.hid (show (decide (ds.length ≤ 4) && decide (ns ≤ 3) && decide (nl ≤ 4)) = false by rw [decide_eq_false c3]; simp)
        have c3' : 4 < nl := by omega
        clear c3
        go_enter Tryz.func8, Tryz.ntmps8
        go_wp2
        go_ret
        exact ⟨hR.out _ (by rw [HC.out]; rfl), HB0.out, HE0.out⟩
    · have HC := Lib.hid (show (decide (ds.length ≤ 4) && decide (ns ≤ 3) && decide (nl ≤ 4)) = false by rw [decide_eq_false c2]; simp)
      have c2' : 3 < ns := by omega
      clear c2
      go_enter Tryz.func8, Tryz.ntmps8
      go_wp2
      go_ret
      exact ⟨hR.out _ (by rw [HC.out]; rfl), HB0.out, HE0.out⟩
  · have HC := Lib.hid (show (decide (ds.length ≤ 4) && decide (ns ≤ 3) && decide (nl ≤ 4)) = false by rw [decide_eq_false c1]; simp)
    have c1' : 4 < ds.length := by omega
    clear c1
    go_enter Tryz.func8, Tryz.ntmps8
    go_wp2
    go_ret
    exact ⟨hR.out _ (by rw [HC.out]; rfl), HB0.out, HE0.out⟩
end Go.Proofs.YtgopjgbcnjkblaaGreatDoor
