/-
  The walk of RankTurns: the order in which addresses come plays no part, but for those that are alike. Condition: the two tables hold what their initialisers lay.
-/
import Derived.Test.YtoaedlllnkcfnaaDoorRankRows
namespace Go.Proofs.YtoaedlllnkcfnaaDoor
open Go.RowKit

/-- a record of an address alone -/
def ra (x : List UInt8) : RV := ⟨⟨#[]⟩, 0, 0, x, ⟨#[]⟩, ⟨#[]⟩⟩
theorem list16K {x : List UInt8} (h : x.length = 16) : ∃ a b c d e f g i j k l m n o p q, x = [a, b, c, d, e, f, g, i, j, k, l, m, n, o, p, q] := by
  match x, h with
  | [a, b, c, d, e, f, g, i, j, k, l, m, n, o, p, q], _ => exact ⟨a, b, c, d, e, f, g, i, j, k, l, m, n, o, p, q, rfl⟩
theorem builtRa {x : List UInt8} (h : x.length = 16) : Tryd.prog.built 29 [(3, .agg (bvs x).toArray)] = some (ra x).cells.toArray := by
  obtain ⟨a, b, c, d, e, f, g, i, j, k, l, m, n, o, p, q, rfl⟩ := list16K h
  kernel_rfl
/-- the addresses, from the T-th on -/
def rotL (al : List (List UInt8)) (T : Nat) : List (List UInt8) := al.drop T ++ al.take T
theorem rotL_at {al : List (List UInt8)} {T k P : Nat} (hT : T < al.length) (hk : k < al.length) (hP : P = (k + T) % al.length) : (rotL al T)[k]? = al[P]? := by
  unfold rotL
  subst hP
  rcases Nat.lt_or_ge (k + T) al.length with h | h
  · rw [List.getElem?_append_left (by rw [List.length_drop]; omega), List.getElem?_drop, Nat.mod_eq_of_lt h, Nat.add_comm]
  · rw [List.getElem?_append_right (by rw [List.length_drop]; omega), List.length_drop, List.getElem?_take, if_pos (by omega), Nat.mod_eq_sub_mod h, Nat.mod_eq_of_lt (by omega)]
    congr 1; omega
theorem rotL_len {al : List (List UInt8)} {T : Nat} (hT : T < al.length) : (rotL al T).length = al.length := by
  unfold rotL; rw [List.length_append, List.length_drop, List.length_take]; omega
theorem rotL_perm (al : List (List UInt8)) (T : Nat) : (rotL al T).Perm al := by
  unfold rotL
  have := List.perm_append_comm (l₁ := al.drop T) (l₂ := al.take T)
  rwa [List.take_append_drop] at this
theorem take_snocK {α : Type} {l : List α} {k : Nat} {x : α} (h : l[k]? = some x) : l.take (k + 1) = l.take k ++ [x] := by
  rw [List.take_add_one, h]; rfl
/-- an address out of a list that came in -/
theorem addr_at {w wr : World} {A : Option Addr} {al : List (List UInt8)} (hA : RowsAt 16 w A (al.map bvs)) (hb : Below w.heap.size w wr) {k : Nat} {x : List UInt8} (hx : al[k]? = some x) : ∃ b o, A = some ⟨b, o, none⟩ ∧ ∀ j v, (bvs x).toArray.toList[j]? = some v → wr.cell? ((⟨b, o + k * 16, none⟩ : Addr).add j) = some v := by
  obtain ⟨b, o, e, hbl, hc⟩ := hA (by rw [List.length_map]; have := (List.getElem?_eq_some_iff.1 hx).1; omega)
  refine ⟨b, o, e, fun j v hj => ?_⟩
  rw [Addr.add_lit, hb.cell (p := ⟨b, o + k * 16 + j, none⟩) hbl]
  exact hc k (bvs x) (by rw [List.getElem?_map, hx]; rfl) j v hj
/-- an address out of sorted records -/
theorem rec_at {W : World} {g : Nat} {rs : List RV} (h : RecsAt W (some ⟨g, 0, none⟩) rs) {k : Nat} {r : RV} (hr : rs[k]? = some r) (h16 : r.addr.length = 16) : g < W.heap.size ∧ ∀ j v, (bvs r.addr)[j]? = some v → W.cell? ⟨g, k * 21 + 3 + j, none⟩ = some v := by
  obtain ⟨b, o, e, hlt, hc⟩ := h (by rw [List.length_map]; have := (List.getElem?_eq_some_iff.1 hr).1; omega)
  injection e with e
  injection e with e1 e2
  subst e1 e2
  refine ⟨hlt, fun j v hj => ?_⟩
  have := hc k r.cells (by rw [List.getElem?_map, hr]; rfl) (3 + j) v ((RV.has h16).1 j v hj)
  rw [show 0 + k * 21 + (3 + j) = k * 21 + 3 + j by omega] at this
  exact this
theorem turn_ex (t : Int) {n : Nat} (hn : 0 < n) : ∃ (r1 : Int) (T : Nat), t.tmod (n : Int) = r1 ∧ -(n : Int) < r1 ∧ r1 < (n : Int) ∧ (r1 + (n : Int)).tmod (n : Int) = (T : Int) ∧ T < n := by
  have h0 : (0 : Int) < (n : Int) := by omega
  have h1 := Int.tmod_lt_of_pos t h0
  have h2 := Int.lt_tmod_of_pos t h0
  refine ⟨t.tmod n, ((t.tmod n + n).tmod n).toNat, rfl, h2, h1, ?_, ?_⟩
  · have h3 := Int.tmod_nonneg (a := t.tmod n + n) n (by omega)
    omega
  · have h3 := Int.tmod_lt_of_pos (t.tmod n + n) h0
    have h4 := Int.tmod_nonneg (a := t.tmod n + n) n (by omega)
    omega
theorem mod_nat (s n : Nat) : ((s : Int)).tmod (n : Int) = ((s % n : Nat) : Int) := by
  rw [Int.tmod_eq_emod_of_nonneg (by omega)]; omega
set_option maxRecDepth 100000 in
set_option maxHeartbeats 16000000 in
theorem rankTurns_walk (ls : List LV) (hls : ∀ x ∈ ls, x.addr.length = 16) (A : Option Addr) (cap : Nat) (al : List (List UInt8)) (has : ∀ x ∈ al, x.length = 16) (D : Option Addr) (capd : Nat) (turn : Int) (w : World) (he : REnv w) (hA : LocsAt w A ls) (hD : RowsAt 16 w D (al.map bvs)) :
    Calls Tryd.prog 6 #[.slice A ls.length cap, .slice D al.length capd, .int .i64 turn] w fun e w' => e = .returned (.bool true) ∧ Below w.heap.size w w' := by
  have HF := Lib.hid (fun W (hW : REnv W) => fit10_e W hW)
  have HE := Lib.hid he
  have HA := Lib.hid hA
  have HDd := Lib.hid hD
  have HAs := Lib.hid has
  have HLs := Lib.hid hls
  clear he hA hD has hls
  by_cases hl20 : 20 < ls.length
  · have h1 : (20 : Int) < (ls.length : Int) := by omega
    go_enter Tryd.func6, Tryd.ntmps6
    go_wp2_with fail
    refine (HF.out _ HE.out).mono ?_
    rintro e w1 ⟨rfl, hb1⟩
    have HB1 := Lib.hid hb1
    clear hb1
    go_wp2_with fail
    go_ret
    exact ⟨rfl, HB1.out⟩
  have h1 : ¬ (20 : Int) < (ls.length : Int) := by omega
  obtain ⟨n, hn⟩ : ∃ n, n = al.length := ⟨_, rfl⟩
  rw [← hn]
  have HNl := Lib.hid hn
  clear hn
  by_cases hn0 : n = 0
  · have hz : (n : Int) = 0 := by omega
    have hz1 : ((n : Int) == 0) = true := by simp [hn0]
    clear hn0
    go_enter Tryd.func6, Tryd.ntmps6
    go_wp2_with fail
    refine (HF.out _ HE.out).mono ?_
    rintro e w1 ⟨rfl, hb1⟩
    have HB1 := Lib.hid hb1
    clear hb1
    go_wp2_with fail
    go_ret
    exact ⟨rfl, HB1.out⟩
  have hz1 : ((n : Int) == 0) = false := beq_eq_false_iff_ne.2 (by omega)
  have hzn : ¬ (n : Int) = 0 := by omega
  by_cases hn30 : 30 < n
  · have h2 : (30 : Int) < (n : Int) := by omega
    clear hn0
    go_enter Tryd.func6, Tryd.ntmps6
    go_wp2_with fail
    refine (HF.out _ HE.out).mono ?_
    rintro e w1 ⟨rfl, hb1⟩
    have HB1 := Lib.hid hb1
    clear hb1
    go_wp2_with fail
    go_ret
    exact ⟨rfl, HB1.out⟩
  have h2 : ¬ (30 : Int) < (n : Int) := by omega
  have hnp : (0 : Int) < (n : Int) := by omega
  obtain ⟨r1, T, hr1, hr1a, hr1b, hT1, hTn⟩ := turn_ex turn (n := n) (by omega)
  have v1 : IntKind.i64.wrap (r1 + (n : Int)) = r1 + (n : Int) := by rw [IntKind.wrap_i64]; omega
  have HT := Lib.hid hTn
  have HN30 : Hid (n ≤ 30) := Lib.hid (by omega)
  have HL20 : Hid (ls.length < 1000000) := Lib.hid (by omega)
  clear hn0 hn30 hl20
  obtain ⟨i0, hi, hz0, hzz, hzb⟩ := info_recK
  have HI := Lib.hid hi
  have HZ0 := Lib.hid hz0
  have HZ1 := Lib.hid hzz
  clear hi hz0 hzz hzb
  go_enter Tryd.func6, Tryd.ntmps6
  go_wp2_with fail
  refine (HF.out _ HE.out).mono ?_
  rintro e w1 ⟨rfl, hb1⟩
  have HT0 : Hid (TwoR w.heap.size w w1 0 (rkc ((al.take 0).map ra)) (.slice none 0 0) 0 (rkc (((rotL al T).take 0).map ra)) (.slice none 0 0)) := Lib.hid ⟨World.ownsRow_nil _ _ _ _, World.ownsRow_nil _ _ _ _, (fun g h => by cases h), hb1, Nat.le_refl _, hb1.size⟩
  clear hb1 HF
  have hTI : (T : Int) < (n : Int) := by omega
  have hnI : (n : Int) ≤ 30 := by omega
  go_wp2_with fail
  clear hr1 hT1 v1 hr1a hr1b
  go_loopw [38, 7, 8] (fun i x y wr => ∃ (k : Nat) (v1 v2 : Value), k ≤ n ∧ i = .int .i64 k ∧ v1 = x ∧ v2 = y ∧ Hid (TwoR w.heap.size w wr k (rkc ((al.take k).map ra)) v1 k (rkc (((rotL al T).take k).map ra)) v2)) (fun i _ _ _ => n - (intOf i).toNat)
  case atStart => exact ⟨0, _, _, by omega, rfl, rfl, rfl, HT0⟩
  case round =>
    clear HT0
    obtain ⟨k, va, vb, hk, rfl, rfl, rfl, HP⟩ := hrel
    by_cases hlt : k < n
    · have hkI : (k : Int) < (n : Int) := by omega
      obtain ⟨s, hs⟩ : ∃ s, s = k + T := ⟨_, rfl⟩
      obtain ⟨P, hP⟩ : ∃ P, P = s % n := ⟨_, rfl⟩
      have hPn : P < n := by rw [hP]; exact Nat.mod_lt _ (by omega)
      have hPI : (P : Int) < (n : Int) := by omega
      have s1 : (k : Int) + (T : Int) = (s : Int) := by omega
      have u1 : IntKind.i64.wrap (s : Int) = (s : Int) := by rw [IntKind.wrap_i64]; omega
      have s2 : ((s : Int)).tmod (n : Int) = (P : Int) := by rw [mod_nat, hP]
      obtain ⟨x, hx⟩ : ∃ x, al[k]? = some x := ⟨_, List.getElem?_eq_getElem (by rw [← HNl.out]; exact hlt)⟩
      obtain ⟨y, hy⟩ : ∃ y, al[P]? = some y := ⟨_, List.getElem?_eq_getElem (by rw [← HNl.out]; exact hPn)⟩
      have hyr : (rotL al T)[k]? = some y := by rw [rotL_at (P := P) (by rw [← HNl.out]; exact HT.out) (by rw [← HNl.out]; exact hlt) (by rw [hP, hs, HNl.out])]; exact hy
      have hx16 := HAs.out x (List.mem_of_getElem? hx)
      have hy16 := HAs.out y (List.mem_of_getElem? hy)
      obtain ⟨b, o, rfl, hxc⟩ := addr_at HDd.out HP.out.below hx
      have HCX : Hid (∀ j v, (bvs x).toArray.toList[j]? = some v → wr.cell? ((⟨b, o + k * 16, none⟩ : Addr).add j) = some v) := Lib.hid hxc
      have HYa : Hid (∀ W, Below w.heap.size w W → ∀ j v, (bvs y).toArray.toList[j]? = some v → W.cell? ((⟨b, o + P * 16, none⟩ : Addr).add j) = some v) := Lib.hid (fun W hb => by
        obtain ⟨b', o', e, h⟩ := addr_at HDd.out hb hy
        injection e with e
        injection e with e1 e2
        subst e1 e2
        exact h)
      have HTx : Hid (rkc ((al.take (k + 1)).map ra) = rkc ((al.take k).map ra) ++ (ra x).cells) := Lib.hid (by rw [take_snocK hx, List.map_append]; exact rkc_snoc _ _)
      have HTy : Hid (rkc (((rotL al T).take (k + 1)).map ra) = rkc (((rotL al T).take k).map ra) ++ (ra y).cells) := Lib.hid (by rw [take_snocK hyr, List.map_append]; exact rkc_snoc _ _)
      have SX := Lib.hid (sizeBv hx16)
      have SY := Lib.hid (sizeBv hy16)
      have BX := Lib.hid (builtRa hx16)
      have BY := Lib.hid (builtRa hy16)
      have LX : Hid ((ra x).cells.length = 21) := Lib.hid (RV.size hx16)
      have LY : Hid ((ra y).cells.length = 21) := Lib.hid (RV.size hy16)
      have OX : Hid (∀ u ∈ (ra x).cells, u.oneCell' = true) := Lib.hid (fun u hu => by
        have h := RV.one (ra x)
        rw [Array.all_eq_true'] at h
        exact h u (by simpa using hu))
      have OY : Hid (∀ u ∈ (ra y).cells, u.oneCell' = true) := Lib.hid (fun u hu => by
        have h := RV.one (ra y)
        rw [Array.all_eq_true'] at h
        exact h u (by simpa using hu))
      clear hs hP hx hy hyr hx16 hy16 hxc
      obtain ⟨xs1, hxs1⟩ : ∃ xs1, xs1 = rkc ((al.take (k + 1)).map ra) := ⟨_, rfl⟩
      obtain ⟨ys1, hys1⟩ : ∃ ys1, ys1 = rkc (((rotL al T).take (k + 1)).map ra) := ⟨_, rfl⟩
      rw [← hxs1] at HTx
      rw [← hys1] at HTy
      have HX1 := Lib.hid hxs1
      have HX2 := Lib.hid hys1
      clear hxs1 hys1
      generalize rkc ((al.take k).map ra) = xs0 at HTx HP
      generalize rkc (((rotL al T).take k).map ra) = ys0 at HTy HP
      generalize (ra x).cells = rx at *
      generalize (ra y).cells = ry at *
      generalize bvs x = bx at *
      generalize bvs y = by_ at *
      have HP1 := Lib.hid (HP.out.to ((Below.refl _ wr).alloc (Nat.le_refl _) (.cells rx.toArray 29)))
      have HOa := Lib.hid HP1.out.o1
      have HBa := Lib.hid HP1.out.hb
      have HMa : Hid (∀ v' w', w'.ownsRow w.heap.size 29 21 v' (k + 1) (xs0 ++ rx) → (wr.alloc (.cells rx.toArray 29)).grownBy w' va.ownBlock → (∀ g, v'.ownBlock = some g → va.ownBlock = some g ∨ (wr.alloc (.cells rx.toArray 29)).heap.size ≤ g) → TwoR w.heap.size w w' (k + 1) xs1 v' k ys0 vb) := Lib.hid (fun v' w' h1 h2 h3 => by rw [HTx.out]; exact HP1.out.app h1 h2 h3)
      clear HP HP1
      go_upto_region 11 with (first
        | (refine wpList_load_agg rfl 27 (.tmp 44) rfl ⟨b, o + k * 16, none⟩ rfl bx.toArray _ HCX.out Tryd.underlying27 rfl SX.out ?_; go_simp)
        | (refine wpList_build_k rfl 29 #[(3, .tmp 45)] rfl [(3, .agg bx.toArray)] rx.toArray BX.out rfl ?_; go_simp)
        | (refine wpList_buildSlice rfl 25 29 1 #[(0, .tmp 46)] rfl rx.toArray i0 _ Tryd.underlying25 HI.out HZ0.out (by rw [HZ1.out]; decide) (by rw [HZ1.out]; decide) (by rw [HZ1.out]; refine (congrArg _ (?_ : _ = [(0, Value.agg rx.toArray)])).trans (fill21k LX.out); rw [Array.toList_map]; rfl) ?_; go_simp)
        | (at_builtin; refine wpList_append_rec (w := wr.alloc (.cells rx.toArray 29)) rfl (.tmp 41) (.tmp 47) rfl w.heap.size va k xs0 rfl HOa.out ⟨wr.heap.size, 0, none⟩ rx rfl LX.out (fun j u hj => by rw [Addr.add_lit, Nat.zero_add, World.cell?_alloc_mark, List.getElem?_toArray]; exact hj) OX.out (by omega) HBa.out ?_; intro vc w5 ho1 hg1 hn1; have HQ1 := Lib.hid (HMa.out _ _ ho1 hg1 hn1); clear ho1 hg1 hn1; go_simp))
      clear HOa HBa HMa HCX OX LX BX
      have HCY := Lib.hid (HYa.out _ HQ1.out.below)
      have HQ2 := Lib.hid (HQ1.out.to ((Below.refl _ w5).alloc (Nat.le_refl _) (.cells ry.toArray 29)))
      have HOb := Lib.hid HQ2.out.o2
      have HBb := Lib.hid HQ2.out.hb
      have HMb : Hid (∀ v' w', w'.ownsRow w.heap.size 29 21 v' (k + 1) (ys0 ++ ry) → (w5.alloc (.cells ry.toArray 29)).grownBy w' vb.ownBlock → (∀ g, v'.ownBlock = some g → vb.ownBlock = some g ∨ (w5.alloc (.cells ry.toArray 29)).heap.size ≤ g) → TwoR w.heap.size w w' (k + 1) xs1 vc (k + 1) ys1 v') := Lib.hid (fun v' w' h1 h2 h3 => by rw [HTy.out]; exact (HQ2.out.swap.app h1 h2 h3).swap)
      clear HQ1 HQ2 HYa
      go_wp2_with (first
        | (refine wpList_load_agg rfl 27 (.tmp 57) rfl ⟨b, o + P * 16, none⟩ rfl by_.toArray _ HCY.out Tryd.underlying27 rfl SY.out ?_; go_simp)
        | (refine wpList_build_k rfl 29 #[(3, .tmp 58)] rfl [(3, .agg by_.toArray)] ry.toArray BY.out rfl ?_; go_simp)
        | (refine wpList_buildSlice rfl 25 29 1 #[(0, .tmp 59)] rfl ry.toArray i0 _ Tryd.underlying25 HI.out HZ0.out (by rw [HZ1.out]; decide) (by rw [HZ1.out]; decide) (by rw [HZ1.out]; refine (congrArg _ (?_ : _ = [(0, Value.agg ry.toArray)])).trans (fill21k LY.out); rw [Array.toList_map]; rfl) ?_; go_simp)
        | (at_builtin; refine wpList_append_rec (w := w5.alloc (.cells ry.toArray 29)) rfl (.tmp 49) (.tmp 60) rfl w.heap.size vb k ys0 rfl HOb.out ⟨w5.heap.size, 0, none⟩ ry rfl LY.out (fun j u hj => by rw [Addr.add_lit, Nat.zero_add, World.cell?_alloc_mark, List.getElem?_toArray]; exact hj) OY.out (by omega) HBb.out ?_; intro vd w6 ho1 hg1 hn1; have HQ3 := Lib.hid (HMb.out _ _ ho1 hg1 hn1); clear ho1 hg1 hn1; go_simp))
      go_roundw
      case rel => exact ⟨k + 1, vc, vd, by omega, by first | rfl | go_num, rfl, rfl, by rw [← HX1.out, ← HX2.out]; exact HQ3⟩
      case measure => simp [intOf]; omega
    · have hkI : ¬ (k : Int) < (n : Int) := by omega
      obtain rfl : k = n := by omega
      have hn2 := HNl.out
      rw [List.take_of_length_le (by omega), List.take_of_length_le (by rw [rotL_len (by rw [← hn2]; exact HT.out)]; omega)] at HP
      obtain ⟨Aa, ca, rfl⟩ : ∃ A c, va = .slice A k c := by
        rcases HP.out.o1.2 with ⟨rfl, h0⟩ | ⟨g, c, cur, rfl, _⟩
        · exact ⟨none, 0, by rw [h0]⟩
        · exact ⟨_, c, rfl⟩
      obtain ⟨Ab, cb, rfl⟩ : ∃ A c, vb = .slice A k c := by
        rcases HP.out.o2.2 with ⟨rfl, h0⟩ | ⟨g, c, cur, rfl, _⟩
        · exact ⟨none, 0, by rw [h0]⟩
        · exact ⟨_, c, rfl⟩
      obtain ⟨rs1, hrs1⟩ : ∃ rs1, rs1 = al.map ra := ⟨_, rfl⟩
      obtain ⟨rs2, hrs2⟩ : ∃ rs2, rs2 = (rotL al T).map ra := ⟨_, rfl⟩
      have hl1 : rs1.length = k := by rw [hrs1, List.length_map, ← hn2]
      have hl2 : rs2.length = k := by rw [hrs2, List.length_map, rotL_len (by rw [← hn2]; exact HT.out), ← hn2]
      have h16a : ∀ r ∈ rs1, r.addr.length = 16 := fun r hr => by
        rw [hrs1] at hr
        obtain ⟨x, hx, rfl⟩ := List.mem_map.1 hr
        exact HAs.out x hx
      have h16b : ∀ r ∈ rs2, r.addr.length = 16 := fun r hr => by
        rw [hrs2] at hr
        obtain ⟨x, hx, rfl⟩ := List.mem_map.1 hr
        exact HAs.out x ((rotL_perm al T).mem_iff.1 hx)
      have hra : RecsAt wr Aa rs1 := own_recsK (base := w.heap.size) (c := ca) (by rw [hl1, hrs1]; exact HP.out.o1) h16a
      have hrb : RecsAt wr Ab rs2 := own_recsK (base := w.heap.size) (c := cb) (by rw [hl2, hrs2]; exact HP.out.o2) h16b
      have hbw := HP.out.below
      have hk1 : keysOf ls rs1 = al.map (keyA ls) := by rw [hrs1]; unfold keysOf; rw [List.map_map]; rfl
      have hk2 : keysOf ls rs2 = (rotL al T).map (keyA ls) := by rw [hrs2]; unfold keysOf; rw [List.map_map]; rfl
      have hperm : (keysOf ls rs1).Perm (keysOf ls rs2) := by rw [hk1, hk2]; exact ((rotL_perm al T).map _).symm
      have h8 : ∀ u ∈ keysOf ls rs1, u.length = 8 := fun u hu => by
        rw [hk1] at hu
        obtain ⟨x, _, rfl⟩ := List.mem_map.1 hu
        exact keyA_len ls x
      have c1 := sort_e ls HLs.out A cap rs1 h16a Aa ca HL20.out (by rw [hl1]; have := HN30.out; omega) wr (HE.out.below hbw) (RowsAt.below HA.out hbw) hra
      have C2 := Lib.hid (fun W hb => sort_e ls HLs.out A cap rs2 h16b Ab cb HL20.out (by rw [hl2]; have := HN30.out; omega) W (HE.out.below (hbw.trans (hb.mono hbw.size))) (RowsAt.below HA.out (hbw.trans (hb.mono hbw.size))) (RowsAt.below hrb hb))
      rw [hl1] at c1
      rw [hl2] at C2
      have C1 := Lib.hid c1
      have HBw := Lib.hid hbw
      have HSame := Lib.hid (fun ps qs (h1 : SortP (keysOf ls rs1) ps) (h2 : SortP (keysOf ls rs2) qs) => sort_same hperm h8 h1 h2)
      have HK1 : Hid (∀ i, i < k → (rs1.getD i rvZero).addr.length = 16 ∧ (keysOf ls rs1).getD i [] = keyA ls (rs1.getD i rvZero).addr) := Lib.hid (fun i hi => by
        have e : rs1[i]? = some (rs1.getD i rvZero) := by rw [List.getD_eq_getElem?_getD, List.getElem?_eq_getElem (by omega)]; rfl
        refine ⟨h16a _ (List.mem_of_getElem? e), ?_⟩
        rw [List.getD_eq_getElem?_getD (l := keysOf ls rs1)]
        unfold keysOf
        rw [List.getElem?_map, e]; rfl)
      have HK2 : Hid (∀ i, i < k → (rs2.getD i rvZero).addr.length = 16 ∧ (keysOf ls rs2).getD i [] = keyA ls (rs2.getD i rvZero).addr) := Lib.hid (fun i hi => by
        have e : rs2[i]? = some (rs2.getD i rvZero) := by rw [List.getD_eq_getElem?_getD, List.getElem?_eq_getElem (by omega)]; rfl
        refine ⟨h16b _ (List.mem_of_getElem? e), ?_⟩
        rw [List.getD_eq_getElem?_getD (l := keysOf ls rs2)]
        unfold keysOf
        rw [List.getElem?_map, e]; rfl)
      have HKl : Hid ((keysOf ls rs1).length = k ∧ (keysOf ls rs2).length = k) := Lib.hid ⟨by unfold keysOf; rw [List.length_map, hl1], by unfold keysOf; rw [List.length_map, hl2]⟩
      clear hn2 hrs1 hrs2 hl1 hl2 h16a h16b hra hrb hbw hk1 hk2 hperm h8 c1 HP HNl HAs HDd
      go_wp2_with fail
      refine C1.out.mono ?_
      rintro e w2 ⟨ps, b1, hps, rfl, hbb1, hrc1, hb2⟩
      have HPs := Lib.hid hps
      have HR1 := Lib.hid hrc1
      have HB2 := Lib.hid (HBw.out.trans (hb2.mono HBw.out.size))
      have C2w := Lib.hid (C2.out w2 hb2)
      clear hps hrc1 hb2 hbb1 C1 C2 HBw
      go_wp2_with fail
      refine C2w.out.mono ?_
      rintro e w3 ⟨qs, b2, hqs, rfl, hbb2, hrc2, hb3⟩
      have HS := Lib.hid (HSame.out ps qs HPs.out hqs)
      have HQs := Lib.hid hqs
      have HR2 := Lib.hid hrc2
      have HR1b := Lib.hid (RowsAt.below HR1.out hb3)
      have HB3 := Lib.hid (HB2.out.trans (hb3.mono HB2.out.size))
      clear hqs hrc2 hb3 hbb2 C2w HR1 HB2 HSame
      have hlps : Hid (ps.length = k ∧ qs.length = k) := Lib.hid ⟨by rw [HPs.out.len]; exact HKl.out.1, by rw [HQs.out.len]; exact HKl.out.2⟩
      clear hkI
      go_wp2_with fail
      generalize hnn : k = n at *
      go_loopw [76] (fun i wr => ∃ k : Nat, k ≤ n ∧ i = .int .i64 k ∧ Hid (Below w3.heap.size w3 wr)) (fun i _ => n - (intOf i).toNat)
      case atStart => exact ⟨0, by omega, rfl, Lib.hid (Below.refl _ _)⟩
      case round =>
        obtain ⟨k, hk, rfl, HP⟩ := hrel
        by_cases hlt : k < n
        · have hkI : (k : Int) < (n : Int) := by omega
          obtain ⟨i, hi⟩ : ∃ i, ps[k]? = some i := ⟨_, List.getElem?_eq_getElem (by rw [hlps.out.1]; exact hlt)⟩
          obtain ⟨j, hj⟩ : ∃ j, qs[k]? = some j := ⟨_, List.getElem?_eq_getElem (by rw [hlps.out.2]; exact hlt)⟩
          have hin : i < n := by have := HPs.out.lt hi; rwa [HKl.out.1] at this
          have hjn : j < n := by have := HQs.out.lt hj; rwa [HKl.out.2] at this
          obtain ⟨h16i, hki⟩ := HK1.out i hin
          obtain ⟨h16j, hkj⟩ := HK2.out j hjn
          have hkk : keyA ls (rs1.getD i rvZero).addr = keyA ls (rs2.getD j rvZero).addr := by
            have h := congrArg (·[k]?) HS.out
            simp only [List.getElem?_map, hi, hj, Option.map_some, Option.some.injEq] at h
            rw [← hki, ← hkj]; exact h
          obtain ⟨hg1, hc1⟩ := rec_at HR1b.out (k := k) (by rw [List.getElem?_map, hi]; rfl) h16i
          obtain ⟨hg2, hc2⟩ := rec_at HR2.out (k := k) (by rw [List.getElem?_map, hj]; rfl) h16j
          obtain ⟨z1, hz1d⟩ : ∃ z1, z1 = (rs1.getD i rvZero).addr := ⟨_, rfl⟩
          obtain ⟨z2, hz2d⟩ : ∃ z2, z2 = (rs2.getD j rvZero).addr := ⟨_, rfl⟩
          rw [← hz1d] at h16i hkk hc1
          rw [← hz2d] at h16j hkk hc2
          have hbwr := HB3.out.trans (HP.out.mono HB3.out.size)
          have HK1w : Hid (∀ W, Below wr.heap.size wr W → Calls Tryd.prog 16 #[.slice A ls.length cap, .agg (bvs z1).toArray] W fun e w' => e = .returned (.agg (key8 (keyA ls z1))) ∧ Below W.heap.size W w') := Lib.hid (fun W hb => key_e ls HLs.out A cap z1 h16i HL20.out W (HE.out.below (hbwr.trans (hb.mono hbwr.size))) (RowsAt.below HA.out (hbwr.trans (hb.mono hbwr.size))))
          have HK2w : Hid (∀ W, Below wr.heap.size wr W → Calls Tryd.prog 16 #[.slice A ls.length cap, .agg (bvs z2).toArray] W fun e w' => e = .returned (.agg (key8 (keyA ls z2))) ∧ Below W.heap.size W w') := Lib.hid (fun W hb => key_e ls HLs.out A cap z2 h16j HL20.out W (HE.out.below (hbwr.trans (hb.mono hbwr.size))) (RowsAt.below HA.out (hbwr.trans (hb.mono hbwr.size))))
          rw [← hkk] at HK2w
          have HEQ : Hid (∀ W, (Op.equalIn 10000 38 (.agg (key8 (keyA ls z1))) (.agg (key8 (keyA ls z1)))).run Tryd.prog W = .ok true W) := Lib.hid (fun W => (eq_keyK W _ _ (keyA_len ls z1) (keyA_len ls z1)).trans (by simp))
          have HEG := Lib.hid eqGuardKeyK
          have HS1 : Hid ((Tryd.prog.info? 27).map (·.size) = some (bvs z1).length) := Lib.hid (by rw [sizeAddr, bvs_length, h16i])
          have HS2 : Hid ((Tryd.prog.info? 27).map (·.size) = some (bvs z2).length) := Lib.hid (by rw [sizeAddr, bvs_length, h16j])
          have R1 : Hid (∀ W, Below wr.heap.size wr W → W.rangeAt b1 (k * 21 + 3) (bvs z1)) := Lib.hid (fun W hb j v hj => ((HP.out.trans (hb.mono HP.out.size)).cell (p := ⟨b1, k * 21 + 3 + j, none⟩) hg1).trans (hc1 j v hj))
          have R2 : Hid (∀ W, Below wr.heap.size wr W → W.rangeAt b2 (k * 21 + 3) (bvs z2)) := Lib.hid (fun W hb j v hj => ((HP.out.trans (hb.mono HP.out.size)).cell (p := ⟨b2, k * 21 + 3 + j, none⟩) hg2).trans (hc2 j v hj))
          have HP2 := Lib.hid HP.out
          clear hi hj hin hjn h16i hki h16j hkj hkk hg1 hc1 hg2 hc2 hz1d hz2d hbwr HP
          generalize key8 (keyA ls z1) = KK at HK1w HK2w HEQ
          generalize bvs z1 = x1 at HK1w HS1 R1
          generalize bvs z2 = x2 at HK2w HS2 R2
          go_upto_region 19 with fail
          refine wp_region_held_drew (S := (fun W : World => Below wr.heap.size wr W)) (by kernel_rfl) (Below.refl _ wr).drew (fun hHeld => ?_)
          refine wpAnyH_take (i := 0) (oi := ({ dst := some 79, op := Go.Op.move (Go.Operand.tmp 0), type := 22, pos := "law.go:113", after := #[], guard := none } : Oper)) (v := .slice A ls.length cap) rfl (by kernel_rfl) (by kernel_rfl) (by kernel_rfl) (fun _ _ _ h => h) (Or.inl ⟨by rfl, fun w' _ => ?_⟩) hHeld ?_
          · go_simp
          simp only [Act.put, List.setIfInBounds_toArray, List.set_cons_zero, List.set_cons_succ]
          refine wpAnyH_take (i := 1) (oi := ({ dst := some 80, op := Go.Op.move (Go.Operand.tmp 7), type := 25, pos := "law.go:113", after := #[], guard := none } : Oper)) (v := .slice (some ⟨b1, 0, none⟩) n n) rfl (by kernel_rfl) (by kernel_rfl) (by kernel_rfl) (fun _ _ _ h => h) (Or.inl ⟨by rfl, fun w' _ => ?_⟩) hHeld ?_
          · go_simp
          simp only [Act.put, List.setIfInBounds_toArray, List.set_cons_zero, List.set_cons_succ]
          refine wpAnyH_take (i := 2) (oi := ({ dst := some 81, op := Go.Op.move (Go.Operand.tmp 10), type := 3, pos := "law.go:113", after := #[], guard := none } : Oper)) (v := .int .i64 k) rfl (by kernel_rfl) (by kernel_rfl) (by kernel_rfl) (fun _ _ _ h => h) (Or.inl ⟨by rfl, fun w' _ => ?_⟩) hHeld ?_
          · go_simp
          simp only [Act.put, List.setIfInBounds_toArray, List.set_cons_zero, List.set_cons_succ]
          refine wpAnyH_take (i := 3) (oi := ({ dst := some 82, op := Go.Op.indexAddr 25 (Go.Operand.tmp 80) (Go.Operand.tmp 81), type := 0, pos := "law.go:113", after := #[{ on := 1, ground := Go.Ground.data }, { on := 2, ground := Go.Ground.data }], guard := none } : Oper)) (v := .pointer (some ⟨b1, k * 21, none⟩)) rfl (by kernel_rfl) (by kernel_rfl) (by kernel_rfl) (fun _ _ _ h => h) (Or.inl ⟨by rfl, fun w' _ => ?_⟩) hHeld ?_
          · go_simp
          simp only [Act.put, List.setIfInBounds_toArray, List.set_cons_zero, List.set_cons_succ]
          refine wpAnyH_take (i := 4) (oi := ({ dst := some 83, op := Go.Op.fieldAddr 29 (Go.Operand.tmp 82) 3, type := 0, pos := "law.go:113", after := #[{ on := 3, ground := Go.Ground.data }], guard := none } : Oper)) (v := .pointer (some ⟨b1, k * 21 + 3, none⟩)) rfl (by kernel_rfl) (by kernel_rfl) (by kernel_rfl) (fun _ _ _ h => h) (Or.inl ⟨by rfl, fun w' _ => ?_⟩) hHeld ?_
          · go_simp
          simp only [Act.put, List.setIfInBounds_toArray, List.set_cons_zero, List.set_cons_succ]
          refine wpAnyH_take (i := 5) (oi := ({ dst := some 84, op := Go.Op.load 27 (Go.Operand.tmp 83), type := 27, pos := "law.go:113", after := #[{ on := 4, ground := Go.Ground.data }], guard := none } : Oper)) (v := .agg (x1).toArray) rfl (by kernel_rfl) (by kernel_rfl) (by kernel_rfl) (fun _ _ _ h => h) (yieldsIf_load_mid (by rfl) _ _ rfl _ _ rfl _ _ (fun W h => R1.out W h) Tryd.underlying27 rfl HS1.out) hHeld ?_
          simp only [Act.put, List.setIfInBounds_toArray, List.set_cons_zero, List.set_cons_succ]
          refine wpAnyH_take (i := 7) (oi := ({ dst := some 86, op := Go.Op.move (Go.Operand.tmp 0), type := 22, pos := "law.go:113", after := #[], guard := none } : Oper)) (v := .slice A ls.length cap) rfl (by kernel_rfl) (by kernel_rfl) (by kernel_rfl) (fun _ _ _ h => h) (Or.inl ⟨by rfl, fun w' _ => ?_⟩) hHeld ?_
          · go_simp
          simp only [Act.put, List.setIfInBounds_toArray, List.set_cons_zero, List.set_cons_succ]
          refine wpAnyH_take (i := 8) (oi := ({ dst := some 87, op := Go.Op.move (Go.Operand.tmp 8), type := 25, pos := "law.go:113", after := #[], guard := none } : Oper)) (v := .slice (some ⟨b2, 0, none⟩) n n) rfl (by kernel_rfl) (by kernel_rfl) (by kernel_rfl) (fun _ _ _ h => h) (Or.inl ⟨by rfl, fun w' _ => ?_⟩) hHeld ?_
          · go_simp
          simp only [Act.put, List.setIfInBounds_toArray, List.set_cons_zero, List.set_cons_succ]
          refine wpAnyH_take (i := 9) (oi := ({ dst := some 88, op := Go.Op.move (Go.Operand.tmp 10), type := 3, pos := "law.go:113", after := #[], guard := none } : Oper)) (v := .int .i64 k) rfl (by kernel_rfl) (by kernel_rfl) (by kernel_rfl) (fun _ _ _ h => h) (Or.inl ⟨by rfl, fun w' _ => ?_⟩) hHeld ?_
          · go_simp
          simp only [Act.put, List.setIfInBounds_toArray, List.set_cons_zero, List.set_cons_succ]
          refine wpAnyH_take (i := 10) (oi := ({ dst := some 89, op := Go.Op.indexAddr 25 (Go.Operand.tmp 87) (Go.Operand.tmp 88), type := 0, pos := "law.go:113", after := #[{ on := 8, ground := Go.Ground.data }, { on := 9, ground := Go.Ground.data }], guard := none } : Oper)) (v := .pointer (some ⟨b2, k * 21, none⟩)) rfl (by kernel_rfl) (by kernel_rfl) (by kernel_rfl) (fun _ _ _ h => h) (Or.inl ⟨by rfl, fun w' _ => ?_⟩) hHeld ?_
          · go_simp
          simp only [Act.put, List.setIfInBounds_toArray, List.set_cons_zero, List.set_cons_succ]
          refine wpAnyH_take (i := 11) (oi := ({ dst := some 90, op := Go.Op.fieldAddr 29 (Go.Operand.tmp 89) 3, type := 0, pos := "law.go:113", after := #[{ on := 10, ground := Go.Ground.data }], guard := none } : Oper)) (v := .pointer (some ⟨b2, k * 21 + 3, none⟩)) rfl (by kernel_rfl) (by kernel_rfl) (by kernel_rfl) (fun _ _ _ h => h) (Or.inl ⟨by rfl, fun w' _ => ?_⟩) hHeld ?_
          · go_simp
          simp only [Act.put, List.setIfInBounds_toArray, List.set_cons_zero, List.set_cons_succ]
          refine wpAnyH_take (i := 12) (oi := ({ dst := some 91, op := Go.Op.load 27 (Go.Operand.tmp 90), type := 27, pos := "law.go:113", after := #[{ on := 11, ground := Go.Ground.data }], guard := none } : Oper)) (v := .agg (x2).toArray) rfl (by kernel_rfl) (by kernel_rfl) (by kernel_rfl) (fun _ _ _ h => h) (yieldsIf_load_mid (by rfl) _ _ rfl _ _ rfl _ _ (fun W h => R2.out W h) Tryd.underlying27 rfl HS2.out) hHeld ?_
          simp only [Act.put, List.setIfInBounds_toArray, List.set_cons_zero, List.set_cons_succ]
          refine wpAnyH_ready (rs := [6]) (by kernel_rfl) (by simp) ?_
          refine AllReadyH.cons (o := ({ dst := some 85, op := Go.Op.call { callee := Go.Callee.value (Go.Operand.func 16), args := #[Go.Operand.tmp 79, Go.Operand.tmp 84], argTypes := #[22, 27] }, type := 38, pos := "law.go:113", after := #[{ on := 0, ground := Go.Ground.data }, { on := 5, ground := Go.Ground.data }], guard := none } : Oper)) rfl (fun K hK => ?_) AllReadyH.nil
          go_simp
          go_at_call 16
          refine (HK1w.out _ hHeld).mono ?_
          rintro e' wc ⟨rfl, hbc⟩
          refine hK.out _ _ (Below.trans hHeld (Below.mono hbc (Below.size hHeld))) (fun hHeld' => ?_)
          clear hK K hbc
          try clear hHeld
          try simp only [Act.put, List.setIfInBounds_toArray, List.set_cons_zero, List.set_cons_succ]
          refine wpAnyH_ready (rs := [13]) (by kernel_rfl) (by simp) ?_
          refine AllReadyH.cons (o := ({ dst := some 92, op := Go.Op.call { callee := Go.Callee.value (Go.Operand.func 16), args := #[Go.Operand.tmp 86, Go.Operand.tmp 91], argTypes := #[22, 27] }, type := 38, pos := "law.go:113", after := #[{ on := 7, ground := Go.Ground.data }, { on := 12, ground := Go.Ground.data }, { on := 6, ground := Go.Ground.chain }], guard := none } : Oper)) rfl (fun K hK => ?_) AllReadyH.nil
          go_simp
          go_at_call 16
          refine (HK2w.out _ hHeld').mono ?_
          rintro e' wc ⟨rfl, hbc⟩
          refine hK.out _ _ (Below.trans hHeld' (Below.mono hbc (Below.size hHeld'))) (fun hHeld'' => ?_)
          clear hK K hbc
          try clear hHeld'
          try simp only [Act.put, List.setIfInBounds_toArray, List.set_cons_zero, List.set_cons_succ]
          refine wpAnyH_take (i := 14) (oi := ({ dst := some 93, op := Go.Op.binOp Go.BinOp.neq 38 (Go.Operand.tmp 85) (Go.Operand.tmp 92) 38, type := 4, pos := "law.go:113", after := #[{ on := 6, ground := Go.Ground.data }, { on := 13, ground := Go.Ground.data }], guard := none } : Oper)) (v := .bool false) rfl (by kernel_rfl) (by kernel_rfl) (by kernel_rfl) (fun _ _ _ h => h) (yieldsIf_neqK (by kernel_rfl) 38 (.tmp 85) (.tmp 92) _ rfl KK KK true rfl rfl HEG.out (fun W _ => HEQ.out W)) hHeld'' ?_
          simp only [Act.put, List.setIfInBounds_toArray, List.set_cons_zero, List.set_cons_succ]
          refine wpAnyH_done (by kernel_rfl) ?_ _
          have HP3 := Lib.hid (HP2.out.trans (hHeld''.mono HP2.out.size))
          clear hHeld'' R1 R2 HK1w HK2w HP2
          go_wp2_with fail
          go_roundw
          case rel => exact ⟨k + 1, by omega, by first | rfl | go_num, HP3⟩
          case measure => simp [intOf]; omega
        · have hkI : ¬ (k : Int) < (n : Int) := by omega
          have HBf := Lib.hid (HB3.out.trans (HP.out.mono HB3.out.size))
          clear HP
          go_wp2_with fail
          go_ret
          exact ⟨rfl, HBf.out⟩
end Go.Proofs.YtoaedlllnkcfnaaDoor
