/-
  The walks of cand.add and cand.List. Conditions: the list is of the call's own; the domains lie in memory and are not too long; the library's variable MaxLen holds some number.
-/
import Derived.Test.YtddgkignojfgiaaDoorCandMath
import Derived.Test.YtddgkignojfgiaaDoorPunyRow
import Derived.Test.YtddgkignojfgiaaDoorTxts
import Derived.Deep.WholeRow
import Derived.Laws.Rows
import Derived.BigQuiet
namespace Go.Proofs.YtddgkignojfgiaaDoor
open Go.RowKit

section
variable {ops : Array Oper} {rest : List Oper} {o : Oper} {a : Act} {Q : Exit → Act → World → Prop} {w : World}
set_option maxRecDepth 100000 in
/-- one text more behind a row of the call's own; no other block is touched -/
theorem wpList_append_s (hgd : o.guard = none) (s x : Operand) (ho : o.op = .call { callee := .builtin .append, args := #[s, x], argTypes := #[22, 22] })
    (base n : Nat) (v : Value) (xs : List ByteArray) (y : ByteArray) (hs : a.eval s = v) (hown : w.ownsRow base 9 1 v n (xs.map Value.string)) (hn : n + 1 ≤ 1000000) (hbase : base ≤ w.heap.size)
    (ad : Addr) (c1 : Nat) (hx : a.eval x = .slice (some ad) 1 c1) (hy : w.cell? (ad.add 0) = some (.string y))
    (h : ∀ v' w', w'.ownsRow base 9 1 v' (n + 1) ((xs ++ [y]).map Value.string) → w.grownBy w' v.ownBlock → wpList Tryd.prog ops Q rest (a.put o.dst v') w') : wpList Tryd.prog ops Q (o :: rest) a w := by
  obtain ⟨i0, hi, hz0, hz1, hz2⟩ := info_parts (show (Tryd.prog.info? 9).map (fun i => (i.zero, i.size, i.bytes)) = some (some (.string ⟨#[]⟩), 1, 16) by kernel_rfl)
  refine wpList_append_own (w := w) hgd s x 22 ho base 9 i0 (.string ⟨#[]⟩) 1 16 Tryd.underlying22 hi hz0 hz1 hz2 rfl (by decide) v n (xs.map Value.string) hs hown ad 1 c1 [.string y] hx rfl (fun j u hj => ?_)
    (fun u hu => by rw [List.mem_singleton] at hu; subst hu; rfl) (by unfold maxLen; omega) (by omega) hbase (fun v' w' h2 h3 _ => h v' w' (by rw [List.map_append]; exact h2) h3)
  match j, hj with
  | 0, hj => simp only [List.getElem?_cons_zero, Option.some.injEq] at hj; rw [← hj]; exact hy
  | j + 1, hj => simp at hj
end
/-- a row of texts of the call's own -/
abbrev OwnT (base : Nat) (v : Value) (l : List ByteArray) (w : World) : Prop := w.ownsRow base 9 1 v l.length (l.map Value.string)
theorem ownT_fm {b : Nat} {w : World} {v : Value} {l : List ByteArray} (h : OwnT b v l w) : ∃ A c, v = .slice A l.length c := by
  rcases h.2 with ⟨rfl, h0⟩ | ⟨g, cap, cur, hv, _⟩
  · exact ⟨none, 0, by rw [h0]⟩
  · exact ⟨_, _, hv⟩
theorem ownT_cells {b g c : Nat} {w : World} {l : List ByteArray} (h : OwnT b (.slice (some ⟨g, 0, none⟩) l.length c) l w) (j : Nat) (hj : j < l.length) : w.cell? ⟨g, j, none⟩ = some (.string (l.getD j ByteArray.empty)) := by
  have := h.cells (g := g) rfl j (.string (l.getD j ByteArray.empty)) (by rw [List.getElem?_map, List.getElem?_eq_getElem hj, List.getD, List.getElem?_eq_getElem hj]; rfl)
  rwa [Addr.add_lit, Nat.zero_add] at this
theorem ownT_full {b : Nat} {w : World} {v : Value} {l : List ByteArray} (h : OwnT b v l w) (h0 : 0 < l.length) : ∃ g c, v = .slice (some ⟨g, 0, none⟩) l.length c ∧ l.length ≤ c ∧ g < w.heap.size ∧ b ≤ g ∧ ∀ j, j < l.length → w.cell? ⟨g, j, none⟩ = some (.string (l.getD j ByteArray.empty)) := by
  rcases h.2 with ⟨_, h1⟩ | ⟨g, cap, cur, rfl, hb, hg, hc, _⟩
  · omega
  · exact ⟨g, cap, rfl, hc, (Array.getElem?_eq_some_iff.1 hg).1, hb, fun j hj => ownT_cells h j hj⟩
theorem ownT_at {b : Nat} {w : World} {A : Option Addr} {c : Nat} {l : List ByteArray} (h : OwnT b (.slice A l.length c) l w) : Txts w A l := fun h0 => by
  rcases h.2 with ⟨_, h1⟩ | ⟨g, cap, cur, hv, _, hg, _⟩
  · omega
  · injection hv with e1 _ e3
    subst e1
    exact ⟨g, 0, rfl, (Array.getElem?_eq_some_iff.1 hg).1, fun j hj => by rw [Nat.zero_add]; exact ownT_cells h j hj⟩
theorem ownT_below {b : Nat} {w w' : World} {v : Value} {l : List ByteArray} (h : OwnT b v l w) (hb : Below w.heap.size w w') : OwnT b v l w' := by
  refine ⟨h.1, ?_⟩
  rcases h.2 with h1 | ⟨g, cap, cur, hv, h2, h3, h4⟩
  · exact .inl h1
  · exact .inr ⟨g, cap, cur, hv, h2, (hb.block g (Array.getElem?_eq_some_iff.1 h3).1).trans h3, h4⟩
theorem ownT_mono {b b' : Nat} {w : World} {v : Value} {l : List ByteArray} (h : OwnT b v l w) (hb : b' ≤ b) : OwnT b' v l w := by
  refine ⟨h.1, ?_⟩
  rcases h.2 with h1 | ⟨g, cap, cur, hv, h2, h3⟩
  · exact .inl h1
  · exact .inr ⟨g, cap, cur, hv, by omega, h3⟩
theorem has_e (base : Nat) (v : Value) (l : List ByteArray) (n : ByteArray) (w : World) (hr : OwnT base v l w) (hl : l.length ≤ 1000) :
    Calls Tryd.prog 29 #[v, .string n] w fun e w' => e = .returned (.bool (memB l n)) ∧ w' = w := by
  have e : ∀ l, Lib.containsS l n = memB l n := fun l => by rw [Bool.eq_iff_iff, Lib.containsS_iff, memB_iff]
  rcases hr.2 with ⟨rfl, h0⟩ | ⟨g, cap, cur, rfl, _⟩
  · obtain rfl := List.length_eq_zero_iff.1 h0
    have := Tryd.slices_Contains_string_empty none 0 n w
    exact this
  · have := Tryd.slices_Contains_string g 0 l.length cap l n w (Nat.le_refl _) (by omega) (fun j hj => by rw [Nat.zero_add]; exact ownT_cells hr j hj)
    rw [List.take_length, e] at this
    exact this
def AddPost (base : Nat) (w : World) (L : List ByteArray) (e : Ending) (w' : World) : Prop := ∃ v, e = .returned v ∧ OwnT base v L w' ∧ Below base w w'
set_option maxHeartbeats 1000000 in
theorem add_e (base : Nat) (v : Value) (l : List ByteArray) (n : ByteArray) (w : World) (hr : OwnT base v l w) (hb : base ≤ w.heap.size) (hl : l.length ≤ 1000) (hn : n.size ≤ 1000000) :
    Calls Tryd.prog 17 #[v, .string n] w fun e w' => AddPost base w (addL l n) e w' := by
  have C := has_e base v l n w hr hl
  obtain ⟨A, c, rfl⟩ := ownT_fm hr
  have HR := Lib.hid hr
  clear hr
  by_cases hbig : 253 < n.size
  · have HL := Lib.hid (addL_out (l := l) (n := n) (.inl hbig))
    clear C
    go_enter Tryd.func17, Tryd.ntmps17
    go_wp2_with fail
    go_ret
    exact ⟨_, rfl, by rw [HL.out]; exact HR.out, Below.refl _ _⟩
  · have hbig' : n.size ≤ 253 := by omega
    by_cases hm : n ∈ l
    · have HL := Lib.hid (addL_out (l := l) (n := n) (.inr hm))
      rw [memB_iff.2 hm] at C
      clear hm hbig
      go_enter Tryd.func17, Tryd.ntmps17
      go_wp2_with (go_at_call 29; refine C.mono ?_; rintro e w' ⟨rfl, rfl⟩)
      go_ret
      exact ⟨_, rfl, by rw [HL.out]; exact HR.out, Below.refl _ _⟩
    · have HL := Lib.hid (addL_in (l := l) (n := n) (fun h => h.elim hbig hm))
      rw [show memB l n = false by rw [Bool.eq_false_iff, Ne, memB_iff]; exact hm] at C
      clear hm hbig
      go_enter Tryd.func17, Tryd.ntmps17
      go_wp2_with (first
        | (go_at_call 29; refine C.mono ?_; rintro e w' ⟨rfl, hw⟩; obtain rfl := hw.symm)
        | (refine wpList_append_s rfl (.tmp 14) (.tmp 16) rfl base l.length _ l n rfl (ownT_below HR.out ((Below.refl _ _).alloc (Nat.le_refl _) _)) (by omega) (by rw [World.size_alloc]; omega) ⟨w.heap.size, 0, none⟩ 1 rfl (by rw [Addr.add_lit, Nat.zero_add, World.cell?_alloc_mark]; rfl) ?_
           intro v5 w5 ho5 hg5
           have HO5 := Lib.hid ho5
           have HB5 := Lib.hid (((Below.refl base w).alloc hb (.cells #[.string n] 9)).grown hg5 (by rw [World.size_alloc]; omega) (fun k e => (HR.out.lt k e).1))
           clear ho5 hg5; go_simp))
      go_ret
      exact ⟨_, rfl, by rw [HL.out, OwnT, List.length_append]; exact HO5.out, HB5.out⟩
theorem dots_c (s : ByteArray) (w : World) :
    Calls Tryd.prog 11 #[.string s] w fun e w' => e = .returned (.int .i64 (s.data.toList.count 46 : Nat)) ∧ w' = w := by
  have C := Tryd.strings_Count_one s 46 w
  have hc : Lib.countByte s.data.toList 46 = s.data.toList.count 46 := rfl
  rw [hc] at C
  have hle : s.data.toList.count 46 ≤ s.size := by rw [Lib.size_eq]; exact List.count_le_length
  revert C hle
  generalize s.data.toList.count 46 = c
  intro C hle
  go_enter Tryd.func11, Tryd.ntmps11
  go_wp2_with (go_at_call 18; refine C.mono ?_; rintro e w' ⟨rfl, rfl⟩)
  go_ret
  exact ⟨rfl, rfl⟩
theorem ta_c (s : ByteArray) (w : World) (he : Env w) (hs : s.size ≤ 9223372036854775807) :
    Calls Tryd.prog 9 #[.string s] w fun e w' => ∃ (n : Nat) (t : ByteArray), e = .returned (.tuple #[.string t, .int .i64 n]) ∧ Below w.heap.size w w' ∧ Env w' ∧ Hid (TA s.data.toList n t.data.toList) :=
  (toASCII_any s w he hs).mono fun _ _ ⟨m, y, h1, h2, h3⟩ => ⟨m, y, h1, h2, he.below h2, Lib.hid h3⟩
theorem ends_e (s : ByteArray) (w : World) (hs : s.size ≤ 9223372036854775807) :
    Calls Tryd.prog 16 #[.string s, .string ⟨#[46]⟩] w fun e w' => e = .returned (.bool (decide (s.data.toList.getLast? = some 46))) ∧ w' = w := by
  have := Tryd.strings_HasSuffix s ⟨#[46]⟩ w hs
  have e : Lib.hasSuffix s.data.toList (ByteArray.mk #[46]).data.toList = decide (s.data.toList.getLast? = some 46) := by
    rw [show (ByteArray.mk #[46]).data.toList = [46] from rfl]
    rw [Bool.eq_iff_iff, decide_eq_true_eq]
    unfold Lib.hasSuffix
    rw [List.isSuffixOf_iff_suffix, List.getLast?_eq_some_iff]
    constructor
    · rintro ⟨u, hu⟩; exact ⟨u, hu.symm⟩
    · rintro ⟨u, hu⟩; exact ⟨u, hu.symm⟩
  rw [e] at this
  exact this
theorem box5 {W : World} {B : Nat} {a b d e f : Value} (h : W.heap[B]? = some (.cells #[a, b, d, e, f] 29 (0, 0))) :
    W.cell? ⟨B, 1, none⟩ = some b ∧ W.cell? ⟨B, 2, none⟩ = some d := by
  refine ⟨?_, ?_⟩
  all_goals rw [cell_of_row W B _ _ _ _ h]; rfl
/-- what a configuration's search domains and points are in memory -/
def ListPost (dots : Int) (ds : List ByteArray) (s : ByteArray) (w : World) (e : Ending) (w' : World) : Prop :=
  ∃ (n : Nat) (t : ByteArray) (v : Value), e = .returned (.tuple #[v, .int .i64 n]) ∧ Hid (TA s.data.toList n t.data.toList) ∧ OwnT w.heap.size v (resL n dots ds s t) w' ∧ Below w.heap.size w w' ∧ Env w'
set_option maxRecDepth 100000 in
set_option maxHeartbeats 2000000 in
theorem list_e (x0 : Value) (A : Option Addr) (c : Nat) (ds : List ByteArray) (dots tm att : Int) (s : ByteArray) (w : World) (he : Env w) (hd : Txts w A ds) (hl : ds.length ≤ 900) (hz : ∀ d ∈ ds, d.size ≤ 100000) (hs : s.size ≤ 140737488351232) :
    Calls Tryd.prog 10 #[.agg #[x0, .slice A ds.length c, .int .i64 dots, .int .i64 tm, .int .i64 att], .string s] w fun e w' => ListPost dots ds s w e w' := by
  have hb0 := ((Below.refl _ w).alloc (Nat.le_refl _) (.cells #[x0, .slice A ds.length c, .int .i64 dots, .int .i64 tm, .int .i64 att] 29))
  have hO0 := heap_alloc_last w (.cells #[x0, .slice A ds.length c, .int .i64 dots, .int .i64 tm, .int .i64 att] 29)
  have HB0 := Lib.hid hb0
  have HO0 := Lib.hid hO0
  have HE0 := Lib.hid (he.below hb0)
  have HD0 := Lib.hid (hd.below hb0)
  have HZ := Lib.hid hz
  have hsz0 : (w.alloc (.cells #[x0, .slice A ds.length c, .int .i64 dots, .int .i64 tm, .int .i64 att] 29)).heap.size = w.heap.size + 1 := World.size_alloc _ _
  clear hb0 hO0 he hd hz
  go_enter Tryd.func10, Tryd.ntmps10
  go_wp2_with fail
  generalize w.alloc _ = w0 at HB0 HO0 HE0 HD0 hsz0 ⊢
  refine (ta_c s w0 HE0.out (by omega)).mono ?_; rintro e w1 ⟨n, t, rfl, hb1, hE1, HT⟩
  have HB1 := Lib.hid (HB0.out.trans (hb1.mono HB0.out.size))
  have HO1 := Lib.hid ((hb1.block w.heap.size (by omega)).trans HO0.out)
  have HD1 := Lib.hid (HD0.out.below hb1)
  have HE1 := Lib.hid hE1
  have hs1 := hb1.size
  clear hb1 hE1 HB0 HO0 HE0 HD0
  by_cases hn : n = 0
  · subst hn
    have ht253 : t.size ≤ 253 := by rw [Lib.size_eq]; exact HT.out.right.2.1
    go_wp2_with fail
    refine (ends_e s w1 (by omega)).mono ?_; rintro e w' ⟨rfl, rfl⟩
    by_cases hend : s.data.toList.getLast? = some 46
    · rw [decide_eq_true hend]
      have HL := Lib.hid (show resL 0 dots ds s t = [t] by unfold resL; rw [if_neg (by simp), if_pos hend])
      clear hend
      have ho : OwnT w.heap.size (.slice (some ⟨w'.heap.size, 0, none⟩) 1 1) [t] (w'.alloc (.cells #[.string t] 9)) :=
        ⟨rfl, .inr ⟨w'.heap.size, 1, #[.string t], rfl, by omega, heap_alloc_last _ _, Nat.le_refl _, by decide, rfl, rfl⟩⟩
      have HOw := Lib.hid ho
      have HB2 := Lib.hid (HB1.out.alloc HB1.out.size (.cells #[.string t] 9))
      have HE2 := Lib.hid (HE1.out.below ((Below.refl _ w').alloc (Nat.le_refl _) (.cells #[.string t] 9)))
      clear ho
      go_wp2_with fail
      go_ret2
      exact ⟨0, t, _, rfl, HT, by rw [HL.out]; exact HOw.out, HB2.out, HE2.out⟩
    · rw [decide_eq_false hend]
      have HL := Lib.hid (show resL 0 dots ds s t = candL dots ds t by unfold resL; rw [if_neg (by simp), if_neg hend])
      clear hend
      obtain ⟨q1, q2⟩ := box5 HO1.out
      have hDt := dots_c t
      obtain ⟨cn, hcn⟩ : ∃ cn : Nat, cn = t.data.toList.count 46 := ⟨_, rfl⟩
      have HFB := Lib.hid (show fstB dots t = decide (dots ≤ (cn : Int)) by rw [hcn]; rfl)
      rw [← hcn] at hDt
      have hcb : cn ≤ 1000 := by rw [hcn]; exact Nat.le_trans List.count_le_length (by rw [← Lib.size_eq]; omega)
      clear hcn
      have HDt := Lib.hid hDt
      clear hDt
      go_wp2_with fail
      go_quiet ((go_at_call 11; refine Calls.quiet_of_same (HDt.out _)))
      have hbq := below_drewN (Below.refl w'.heap.size w') nq
      have HB2 := Lib.hid (HB1.out.trans (hbq.mono HB1.out.size))
      have HO2 := Lib.hid ((hbq.block w.heap.size (by omega)).trans HO1.out)
      have HE2 := Lib.hid (HE1.out.below hbq)
      have HD2 := Lib.hid (HD1.out.below hbq)
      have hs2 : w.heap.size + 1 ≤ (w'.drewN nq).heap.size := by have := hbq.size; omega
      clear q1 q2 hbq HB1 HO1 HD1 HE1 hs1 HDt
      generalize w'.drewN nq = w2 at HB2 HO2 HE2 HD2 hs2 ⊢
      obtain ⟨fb, hfb⟩ : ∃ fb, fb = decide (dots ≤ (cn : Int)) := ⟨_, rfl⟩
      rw [← hfb] at HFB
      cases fb
      · have hL0 : Hid (candL dots ds t = addL ((ds.map (dotB t)).foldl addL []) t) := Lib.hid (by rw [candL_snoc, HFB.out]; rfl)
        have hno : ¬ dots ≤ (cn : Int) := of_decide_eq_false hfb.symm
        have hno' : (cn : Int) < dots := by omega
        have HR3 : Hid (OwnT w2.heap.size (.slice none 0 0) [] w2) := Lib.hid (World.ownsRow_nil _ _ _ _)
        have hL0n : ([] : List ByteArray).length ≤ 1 := by simp
        have HB3 := Lib.hid (Below.refl w2.heap.size w2)
        clear hfb hno HFB
        revert HR3 hL0 hL0n
        generalize ([] : List ByteArray) = L0
        intro hL0 HR3 hL0n
        have hs3 := HB3.out.size
        obtain ⟨q1, q2⟩ := box5 ((HB3.out.block w.heap.size (by omega)).trans HO2.out)
        clear q2
        go_wp2_with fail
        clear q1
        go_loopw [8, 34] (fun z0 i wr => ∃ (k : Nat) (z : Value), k ≤ ds.length ∧ i = .int .i64 k ∧ z = z0 ∧ Hid (OwnT w2.heap.size z (((ds.take k).map (dotB t)).foldl addL L0) wr ∧ Below w2.heap.size w2 wr)) (fun _ i _ => ds.length - (intOf i).toNat)
        case atStart => exact ⟨0, _, Nat.zero_le _, rfl, rfl, Lib.hid ⟨HR3.out, HB3.out⟩⟩
        case round =>
          obtain ⟨k, z, hk, rfl, rfl, hinv⟩ := hrel
          have hbr := hinv.out.2
          have hszr := hbr.size
          have hlen : (((ds.take k).map (dotB t)).foldl addL L0).length ≤ 1000 := by
            have := fold_len ((ds.take k).map (dotB t)) L0
            rw [List.length_map, List.length_take] at this
            omega
          by_cases hlt : k < ds.length
          · obtain ⟨g, o, rfl, hgl, hcell⟩ := (HD2.out.below hbr) (by omega)
            have c0 := hcell k hlt
            have hdz : (ds.getD k ByteArray.empty).size ≤ 100000 := HZ.out _ (by rw [List.getD, List.getElem?_eq_getElem hlt]; exact List.getElem_mem hlt)
            have HF := Lib.hid (fold_take t ds L0 hlt)
            have hadd := add_e w2.heap.size z (((ds.take k).map (dotB t)).foldl addL L0) (dotB t (ds.getD k ByteArray.empty)) wr hinv.out.1 hszr hlen (by rw [dotB_size]; omega)
            rw [← HF.out] at hadd
            have HFW : Hid (∀ e w', AddPost w2.heap.size wr (((ds.take (k + 1)).map (dotB t)).foldl addL L0) e w' → ∃ v, e = .returned v ∧ Hid (OwnT w2.heap.size v (((ds.take (k + 1)).map (dotB t)).foldl addL L0) w' ∧ Below w2.heap.size w2 w')) :=
              Lib.hid (fun e w' ⟨v, h1, h2, h3⟩ => ⟨v, h1, Lib.hid ⟨h2, hbr.trans h3⟩⟩)
            revert c0 hdz hadd
            generalize ds.getD k ByteArray.empty = d
            intro c0 hdz hadd
            clear hlen HF hinv hcell
            have hbr2 := Lib.hid hbr
            clear hbr
            go_wp2_with fail
            refine Calls.mono hadd ?_; intro e w4 hp
            obtain ⟨v4, rfl, hp4⟩ := HFW.out _ _ hp
            clear hp hadd HFW
            go_wp2_with fail
            go_roundw
            case rel => exact ⟨k + 1, _, by omega, by go_num, rfl, hp4⟩
            case measure => simp [intOf]; omega
          · obtain rfl : k = ds.length := by omega
            rw [List.take_length] at hinv hlen
            have hadd := add_e w2.heap.size z ((ds.map (dotB t)).foldl addL L0) t wr hinv.out.1 hszr hlen (by omega)
            rw [← hL0.out] at hadd
            have hbr2 := Lib.hid hbr
            clear hbr hinv hlen
            go_wp2_with fail
            refine Calls.mono hadd ?_; rintro e w4 ⟨v4, rfl, hr4, hb4⟩
            have HR4 := Lib.hid (ownT_mono hr4 HB2.out.size)
            have HB4 := Lib.hid (HB2.out.trans ((hbr2.out.trans hb4).mono HB2.out.size))
            have HE4 := Lib.hid (HE2.out.below (hbr2.out.trans hb4))
            clear hadd hr4 hb4
            go_wp2_with fail
            go_ret2
            exact ⟨0, t, v4, rfl, HT, by rw [HL.out]; exact HR4.out, HB4.out, HE4.out⟩
      · have hL0 : Hid (candL dots ds t = addL ((ds.map (dotB t)).foldl addL (addL [] t)) t) := Lib.hid (by rw [candL_snoc, HFB.out]; rfl)
        have hyes : dots ≤ (cn : Int) := of_decide_eq_true hfb.symm
        have hL0n : (addL [] t).length ≤ 1 := addL_len [] t
        have hadd := add_e w2.heap.size (.slice none 0 0) [] t w2 (World.ownsRow_nil _ _ _ _) (Nat.le_refl _) (by simp) (by omega)
        clear hfb HFB
        revert hadd hL0 hL0n
        generalize addL [] t = L0
        intro hL0 hL0n hadd
        go_wp2_with fail
        refine Calls.mono hadd ?_; rintro e w3 ⟨v3, rfl, hr3, hb3⟩
        have HR3 := Lib.hid hr3
        have HB3 := Lib.hid hb3
        clear hadd hr3 hb3
        have hs3 := HB3.out.size
        obtain ⟨q1, q2⟩ := box5 ((HB3.out.block w.heap.size (by omega)).trans HO2.out)
        clear q2
        go_wp2_with fail
        clear q1
        go_loopw [8, 34] (fun z0 i wr => ∃ (k : Nat) (z : Value), k ≤ ds.length ∧ i = .int .i64 k ∧ z = z0 ∧ Hid (OwnT w2.heap.size z (((ds.take k).map (dotB t)).foldl addL L0) wr ∧ Below w2.heap.size w2 wr)) (fun _ i _ => ds.length - (intOf i).toNat)
        case atStart => exact ⟨0, _, Nat.zero_le _, rfl, rfl, Lib.hid ⟨HR3.out, HB3.out⟩⟩
        case round =>
          obtain ⟨k, z, hk, rfl, rfl, hinv⟩ := hrel
          have hbr := hinv.out.2
          have hszr := hbr.size
          have hlen : (((ds.take k).map (dotB t)).foldl addL L0).length ≤ 1000 := by
            have := fold_len ((ds.take k).map (dotB t)) L0
            rw [List.length_map, List.length_take] at this
            omega
          by_cases hlt : k < ds.length
          · obtain ⟨g, o, rfl, hgl, hcell⟩ := (HD2.out.below hbr) (by omega)
            have c0 := hcell k hlt
            have hdz : (ds.getD k ByteArray.empty).size ≤ 100000 := HZ.out _ (by rw [List.getD, List.getElem?_eq_getElem hlt]; exact List.getElem_mem hlt)
            have HF := Lib.hid (fold_take t ds L0 hlt)
            have hadd := add_e w2.heap.size z (((ds.take k).map (dotB t)).foldl addL L0) (dotB t (ds.getD k ByteArray.empty)) wr hinv.out.1 hszr hlen (by rw [dotB_size]; omega)
            rw [← HF.out] at hadd
            have HFW : Hid (∀ e w', AddPost w2.heap.size wr (((ds.take (k + 1)).map (dotB t)).foldl addL L0) e w' → ∃ v, e = .returned v ∧ Hid (OwnT w2.heap.size v (((ds.take (k + 1)).map (dotB t)).foldl addL L0) w' ∧ Below w2.heap.size w2 w')) :=
              Lib.hid (fun e w' ⟨v, h1, h2, h3⟩ => ⟨v, h1, Lib.hid ⟨h2, hbr.trans h3⟩⟩)
            revert c0 hdz hadd
            generalize ds.getD k ByteArray.empty = d
            intro c0 hdz hadd
            clear hlen HF hinv hcell
            have hbr2 := Lib.hid hbr
            clear hbr
            go_wp2_with fail
            refine Calls.mono hadd ?_; intro e w4 hp
            obtain ⟨v4, rfl, hp4⟩ := HFW.out _ _ hp
            clear hp hadd HFW
            go_wp2_with fail
            go_roundw
            case rel => exact ⟨k + 1, _, by omega, by go_num, rfl, hp4⟩
            case measure => simp [intOf]; omega
          · obtain rfl : k = ds.length := by omega
            rw [List.take_length] at hinv hlen
            have hadd := add_e w2.heap.size z ((ds.map (dotB t)).foldl addL L0) t wr hinv.out.1 hszr hlen (by omega)
            rw [← hL0.out] at hadd
            have hbr2 := Lib.hid hbr
            clear hbr hinv hlen
            go_wp2_with fail
            refine Calls.mono hadd ?_; rintro e w4 ⟨v4, rfl, hr4, hb4⟩
            have HR4 := Lib.hid (ownT_mono hr4 HB2.out.size)
            have HB4 := Lib.hid (HB2.out.trans ((hbr2.out.trans hb4).mono HB2.out.size))
            have HE4 := Lib.hid (HE2.out.below (hbr2.out.trans hb4))
            clear hadd hr4 hb4
            go_wp2_with fail
            go_ret2
            exact ⟨0, t, v4, rfl, HT, by rw [HL.out]; exact HR4.out, HB4.out, HE4.out⟩
  · have hn0 : ¬ ((n : Int) = 0) := by omega
    have HL := Lib.hid (show resL n dots ds s t = [] by unfold resL; rw [if_pos hn])
    have HNIL : Hid (OwnT w.heap.size (.slice none 0 0) [] w1) := Lib.hid (World.ownsRow_nil _ _ _ _)
    clear hn
    go_wp2_with fail
    go_ret2
    exact ⟨n, t, _, rfl, HT, by rw [HL.out]; exact HNIL.out, HB1.out, HE1.out⟩
end Go.Proofs.YtddgkignojfgiaaDoor
