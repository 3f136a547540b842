/-
  The walk of the statement's own route over four links, and that it answers as routeL does. Conditions: each states its own.
-/
import Derived.Test.YtgopjgbcnjkblaaGreatDoorLinkGensLib
import Derived.Test.YtgopjgbcnjkblaaGreatDoorLinkPlain
namespace Go.Proofs.YtgopjgbcnjkblaaGreatDoor
open Go.RowKit

theorem fold_max (n : ByteArray) : ∀ (ds : List ByteArray) (m : Int), -1 ≤ m → ds.foldl (rstep n) m = max m (reachL ds n)
  | [], m, h => by show m = max m (-1); omega
  | d :: ds, m, h => by
    have h1 := fold_max n ds (rstep n m d) (rstep_lo h)
    have h2 := fold_max n ds (rstep n (-1) d) (rstep_lo (by omega))
    have h3 : reachL (d :: ds) n = ds.foldl (rstep n) (rstep n (-1) d) := rfl
    have h4 := reach_lo ds n
    rw [List.foldl_cons, h1, h3, h2]
    unfold rstep
    split <;> omega
theorem any_reach {n : ByteArray} {mm : Int} : ∀ {ds : List ByteArray}, 0 ≤ mm → reachL ds n ≤ mm → ds.any (fun d => undB n d && decide ((cntB d : Int) = mm)) = decide (reachL ds n = mm)
  | [], h0, h => by
    have : ¬ reachL [] n = mm := by show ¬ (-1 : Int) = mm; omega
    rw [decide_eq_false this]; rfl
  | d :: ds, h0, h => by
    have h4 := reach_lo ds n
    have h3 : reachL (d :: ds) n = max (rstep n (-1) d) (reachL ds n) := fold_max n ds (rstep n (-1) d) (rstep_lo (by omega))
    rw [List.any_cons, any_reach h0 (by omega), h3]
    have h5 : rstep n (-1) d = if undB n d then max (-1) (cntB d : Int) else -1 := rfl
    rw [h3, h5] at h
    rw [h5]
    cases hu : undB n d
    · simp only [hu, Bool.false_eq_true, if_false, Bool.false_and, Bool.false_or] at h ⊢
      congr 1
      exact propext ⟨fun e => by omega, fun e => by omega⟩
    · simp only [hu, if_true, Bool.true_and] at h ⊢
      rw [← Bool.decide_or]
      congr 1
      exact propext ⟨fun e => by omega, fun e => by omega⟩
theorem any_low {n : ByteArray} {mm : Int} (h : mm < 0) (ds : List ByteArray) : ds.any (fun d => undB n d && decide ((cntB d : Int) = mm)) = false := by
  rw [List.any_eq_false]
  intro d _
  have : ¬ (cntB d : Int) = mm := by omega
  rw [decide_eq_false this]; simp
/-- what the law says of a link -/
def useL (mm : Int) (n : ByteArray) (s : Sl) : Bool := (decide (mm < 0) && s.df) || s.ds.any (fun d => undB n d && decide ((cntB d : Int) = mm))
theorem use_asked {mm : Int} {n : ByteArray} {s : Sl} (h : -1 ≤ mm) (hr : reachL s.ds n ≤ mm) : (useL mm n s && decide (0 < s.ns)) = asked mm n s := by
  unfold useL asked
  by_cases h0 : s.ns = 0
  · simp [h0]
  · have h1 : decide (0 < s.ns) = true := decide_eq_true (by omega)
    rw [h1, if_neg h0, Bool.and_true]
    by_cases hm : mm = -1
    · rw [any_low (by omega), if_pos hm, decide_eq_true (by omega)]; simp
    · rw [any_reach (by omega) hr, if_neg hm, decide_eq_false (by omega)]; simp
theorem mx_lo {n : ByteArray} {m : Int} {s : Sl} (h : -1 ≤ m) : -1 ≤ mx n m s ∧ m ≤ mx n m s := by unfold mx; split <;> omega
theorem mx_step {n : ByteArray} {m : Int} {s : Sl} (h : -1 ≤ m) (hl : s.live = true) : s.ds.foldl (rstep n) m = mx n m s := by
  rw [fold_max n s.ds m h]; unfold mx; rw [if_pos hl]
/-- the four links' cells -/
def flat4 (a b c d : Sl) : List Value := a.lk ++ b.lk ++ c.lk ++ d.lk
set_option maxRecDepth 100000 in
theorem idx4_a (a b c d : Sl) (W : World) : (Instr.index 32 (.agg (flat4 a b c d).toArray) (.int .i64 0)).run Tryz.prog W = .ok (.agg a.lk.toArray) W := by kernel_rfl
set_option maxRecDepth 100000 in
theorem idx4_b (a b c d : Sl) (W : World) : (Instr.index 32 (.agg (flat4 a b c d).toArray) (.int .i64 1)).run Tryz.prog W = .ok (.agg b.lk.toArray) W := by kernel_rfl
set_option maxRecDepth 100000 in
theorem idx4_c (a b c d : Sl) (W : World) : (Instr.index 32 (.agg (flat4 a b c d).toArray) (.int .i64 2)).run Tryz.prog W = .ok (.agg c.lk.toArray) W := by kernel_rfl
set_option maxRecDepth 100000 in
theorem idx4_d (a b c d : Sl) (W : World) : (Instr.index 32 (.agg (flat4 a b c d).toArray) (.int .i64 3)).run Tryz.prog W = .ok (.agg d.lk.toArray) W := by kernel_rfl
theorem idxL4 {a b c d s : Sl} {k : Nat} (W : World) (h : ([a, b, c, d] : List Sl)[k]? = some s) : (Instr.index 32 (.agg (flat4 a b c d).toArray) (.int .i64 k)).run Tryz.prog W = .ok (.agg s.lk.toArray) W := by
  match k, h with
  | 0, h => rw [← Option.some.inj h]; exact idx4_a a b c d W
  | 1, h => rw [← Option.some.inj h]; exact idx4_b a b c d W
  | 2, h => rw [← Option.some.inj h]; exact idx4_c a b c d W
  | 3, h => rw [← Option.some.inj h]; exact idx4_d a b c d W
theorem wpList_index {P : Program} {ops : Array Oper} {rest : List Oper} {o : Oper} {a : Act} {Q : Exit → Act → World → Prop} {w : World} (hgd : o.guard = none) (ty : TypeId) (x y : Operand) (ho : o.op = .index ty x y) (v : Value)
    (hr : (Instr.index ty (a.eval x) (a.eval y)).run P w = .ok v w) (h : wpList P ops Q rest (a.put o.dst v) w) : wpList P ops Q (o :: rest) a w :=
  wpList_plain hgd fun _ hK => by
    unfold Oper.wp execOp
    simp only [ho, Sem.run_bind, hr, Result.andThen_ok, Sem.run_pure]
    exact hK _ _ h
theorem sizeF (a b c d : Sl) : (Tryz.prog.info? 32).map (·.size) = some (flat4 a b c d).toArray.size := by kernel_rfl
theorem oneF (a b c d : Sl) : (flat4 a b c d).toArray.all (·.oneCell') = true := by simp [flat4, Sl.lk, Value.oneCell']
def bestL (n : ByteArray) (ls : List Sl) : Int := ls.foldl (mx n) (-1)
theorem bestL_lo (n : ByteArray) : ∀ (ls : List Sl) (m : Int), -1 ≤ m → m ≤ ls.foldl (mx n) m
  | [], m, _ => Int.le_refl _
  | s :: ls, m, h => by
    rw [List.foldl_cons]
    have h1 := mx_lo (n := n) (s := s) h
    have := bestL_lo n ls (mx n m s) h1.1
    omega
theorem bestL_next {n : ByteArray} {ls : List Sl} {k : Nat} {s : Sl} (h : ls[k]? = some s) : bestL n (ls.take (k + 1)) = mx n (bestL n (ls.take k)) s := by
  obtain ⟨hk, rfl⟩ := List.getElem?_eq_some_iff.1 h
  unfold bestL
  rw [List.take_succ_eq_append_getElem hk, List.foldl_append]; rfl
/-- the best after so many of a link's domains -/
def inL (live : Bool) (n : ByteArray) (ds : List ByteArray) (m : Int) : Int := if live = true then ds.foldl (rstep n) m else m
theorem inL_next {live : Bool} {n : ByteArray} {ds : List ByteArray} {m : Int} {k : Nat} (hk : k < ds.length) : inL live n (ds.take (k + 1)) m = if live = true then rstep n (inL live n (ds.take k) m) (ds.getD k ByteArray.empty) else inL live n (ds.take k) m := by
  unfold inL
  cases live
  · rfl
  · simp only [if_true]
    rw [List.take_succ_eq_append_getElem hk, List.foldl_append, List.getD, List.getElem?_eq_getElem hk]
    rfl
theorem fold_lo4 (n : ByteArray) : ∀ (ds : List ByteArray) (m : Int), -1 ≤ m → -1 ≤ ds.foldl (rstep n) m
  | [], _, h => h
  | _ :: ds, _, h => fold_lo4 n ds _ (rstep_lo h)
theorem inL_lo {live : Bool} {n : ByteArray} {ds : List ByteArray} {m : Int} (h : -1 ≤ m) : -1 ≤ inL live n ds m := by
  unfold inL; split
  · exact fold_lo4 n ds m h
  · exact h
theorem bestL_ge {n : ByteArray} {s : Sl} : ∀ {ls : List Sl} {m : Int}, -1 ≤ m → s ∈ ls → s.live = true → reachL s.ds n ≤ ls.foldl (mx n) m
  | t :: ls, m, h, hs, hl => by
    rw [List.foldl_cons]
    have h1 := mx_lo (n := n) (s := t) h
    rcases List.mem_cons.1 hs with e | h2
    · subst e
      have h2 := bestL_lo n ls (mx n m s) h1.1
      have h3 : mx n m s = max m (reachL s.ds n) := by unfold mx; rw [if_pos hl]
      omega
    · exact bestL_ge h1.1 h2 hl
/-- the numbers of those that are so -/
def selTo (p : Sl → Bool) : Int → List Sl → List Int
  | _, [] => []
  | i, s :: ls => selL p i s ++ selTo p (i + 1) ls
theorem selTo_snoc (p : Sl → Bool) (s : Sl) : ∀ (ls : List Sl) (i : Int), selTo p i (ls ++ [s]) = selTo p i ls ++ selL p (i + (ls.length : Nat)) s
  | [], i => by simp [selTo]
  | t :: ls, i => by
    rw [List.cons_append, selTo, selTo_snoc p s ls (i + 1), selTo, List.append_assoc, List.length_cons]
    congr 3
    omega
theorem selTo_next {p : Sl → Bool} {ls : List Sl} {k : Nat} {s : Sl} (h : ls[k]? = some s) : selTo p 0 (ls.take (k + 1)) = selTo p 0 (ls.take k) ++ selL p k s := by
  obtain ⟨hk, rfl⟩ := List.getElem?_eq_some_iff.1 h
  rw [List.take_succ_eq_append_getElem hk, selTo_snoc, List.length_take, Nat.min_eq_left (by omega), Int.zero_add]
theorem selTo_len (p : Sl → Bool) : ∀ (ls : List Sl) (i : Int), (selTo p i ls).length ≤ ls.length
  | [], _ => Nat.le_refl _
  | s :: ls, i => by
    have := selTo_len p ls (i + 1)
    rw [selTo, List.length_append, List.length_cons]
    have h : (selL p i s).length ≤ 1 := by unfold selL; split <;> simp
    omega
theorem anyT {ds : List ByteArray} (p : ByteArray → Bool) {k : Nat} (hk : k < ds.length) : (ds.take (k + 1)).any p = ((ds.take k).any p || p (ds.getD k ByteArray.empty)) := by
  rw [List.take_succ_eq_append_getElem hk, List.any_append, List.getD, List.getElem?_eq_getElem hk]; simp
/-- what the law has of a link after so many of its domains -/
def usL (mm : Int) (df : Bool) (n : ByteArray) (ds : List ByteArray) : Bool := (decide (mm < 0) && df) || ds.any (fun d => undB n d && decide ((cntB d : Int) = mm))
theorem usL_next {mm : Int} {df : Bool} {n : ByteArray} {ds : List ByteArray} {k : Nat} (hk : k < ds.length) : usL mm df n (ds.take (k + 1)) = (usL mm df n (ds.take k) || (undB n (ds.getD k ByteArray.empty) && decide ((cntB (ds.getD k ByteArray.empty) : Int) = mm))) := by
  unfold usL
  rw [anyT _ hk, Bool.or_assoc]
set_option maxRecDepth 100000 in
set_option maxHeartbeats 4000000 in
theorem lroute_e {a b c d : Sl} {w : World} (n : ByteArray) (hI : ∀ s ∈ [a, b, c, d], RowIn 1 w s.dv s.ds.length (s.ds.map .string)) (hz : ∀ s ∈ [a, b, c, d], ∀ x ∈ s.ds, x.size ≤ 300) (hl : ∀ s ∈ [a, b, c, d], s.ds.length ≤ 1000) (hn : n.size ≤ 300) (he : Env w) :
    Calls Tryz.prog 18 #[.agg (flat4 a b c d).toArray, .string n] w fun e w' => NumPost (routeL [a, b, c, d] n) w e w' := by
  have HI := Lib.hid hI
  have HZ := Lib.hid hz
  have HLN := Lib.hid hl
  have hb0 := ((Below.refl _ w).alloc (Nat.le_refl _) (.cells (flat4 a b c d).toArray 32))
  have HB0 := Lib.hid hb0
  have HO0 := Lib.hid (heap_alloc_last w (.cells (flat4 a b c d).toArray 32))
  have HE0 := Lib.hid (he.below hb0)
  have HSF := Lib.hid (sizeF a b c d)
  have H1F := Lib.hid (oneF a b c d)
  have HIX := Lib.hid (fun (k : Nat) (s : Sl) (W : World) h => idxL4 (a := a) (b := b) (c := c) (d := d) (k := k) (s := s) W h)
  have HZL := Lib.hid zeroLink
  have HEW := Lib.hid he
  clear hI hz hl hb0 he
  revert HB0 HO0 HE0 HSF H1F HIX
  generalize (flat4 a b c d).toArray = FL
  intro HB0 HO0 HE0 HSF H1F HIX
  go_enter Tryz.func18, Tryz.ntmps18
  go_wp2_with (first
    | (refine wpList_load_agg rfl 32 _ rfl ⟨w.heap.size, 0, none⟩ rfl FL _ (fun j v hj => by rw [Addr.add_lit, Nat.zero_add, cell_of_row _ w.heap.size j _ _ _ HO0.out]; simpa using hj) Tryz.underlying32 rfl HSF.out ?_; go_simp))
  generalize w.alloc _ = w0 at HB0 HO0 HE0 ⊢
  go_loopw [5, 17] (fun m i wr => ∃ k : Nat, k ≤ 4 ∧ i = .int .i64 k ∧ m = .int .i64 (bestL n ([a, b, c, d].take k)) ∧ Below w0.heap.size w0 wr ∧ Env wr) (fun _ i _ => 4 - (intOf i).toNat)
  case atStart => exact ⟨0, Nat.zero_le _, rfl, rfl, Below.refl _ _, HE0.out⟩
  case round =>
    obtain ⟨k, hk, rfl, rfl, hb, hE⟩ := hrel
    have HB := Lib.hid hb
    have HE := Lib.hid hE
    clear hb hE
    by_cases hlt : k < 4
    · obtain ⟨s, hs⟩ : ∃ s, ([a, b, c, d] : List Sl)[k]? = some s := ⟨_, List.getElem?_eq_getElem (by simpa using hlt)⟩
      have hmem := List.mem_of_getElem? hs
      have HIS := Lib.hid (HI.out s hmem)
      have HZS := Lib.hid (HZ.out s hmem)
      have hls := HLN.out s hmem
      have HIXS := Lib.hid (fun W => HIX.out k s W hs)
      have HBN := Lib.hid (bestL_next (n := n) hs)
      have hM0 := bestL_lo n ([a, b, c, d].take k) (-1) (Int.le_refl _)
      have hM1 : -1 ≤ bestL n ([a, b, c, d].take k) := hM0
      clear hM0 hs hmem
      revert HBN hM1
      generalize bestL n ([a, b, c, d].take k) = M0
      intro HBN hM1
      have hzl : zSl.lk.toArray.size = 7 := rfl
      have HS := Lib.hid (sizeLk s)
      have H1 := Lib.hid (oneLk s)
      have hsl : s.lk.toArray.size = 7 := rfl
      have HX2 : Hid (∀ (w : World) (X : Nat), w.heap[X]? = some (.cells s.lk.toArray 31 (0, 0)) → w.cell? ⟨X, 0, none⟩ = some (.bool s.live) ∧ w.cell? ⟨X, 2, none⟩ = some (.slice s.dA s.ds.length s.dc)) := Lib.hid (fun w X h => ⟨(box7 h).1, (box7 h).2.2.1⟩)
      have HMX : Hid (∀ m, -1 ≤ m → inL s.live n s.ds m = mx n m s) := Lib.hid (fun m hm => by
        unfold inL
        cases hl : s.live
        · unfold mx; rw [hl]; rfl
        · rw [if_pos rfl]; exact mx_step hm hl)
      revert HS H1 hsl HX2 HIXS
      generalize s.lk.toArray = S3
      intro HIXS HS H1 hsl HX2
      obtain ⟨live, gen, dA, dc, ds, df, ll, sA, sc, ns, ss, lA, lc, nl, ls, ca⟩ := s
      simp only [Sl.dv] at HIS HZS hls HX2 HMX HBN
      go_wp2_with (first
        | (refine wpList_index rfl 32 _ _ rfl _ (HIXS.out _) ?_; go_simp)
        | (refine wpList_alloc_z rfl 31 rfl zSl.lk.toArray HZL.out ?_; go_simp)
        | (refine wpList_store_blk rfl 31 _ _ rfl wr.heap.size _ _ _ (heap_alloc_last wr _) rfl rfl HS.out (hzl.trans hsl.symm) H1.out ?_; intro w1 hg1 hw1 hs1; clear hs1; obtain ⟨r0, r2⟩ := HX2.out w1 wr.heap.size hg1.out; go_simp))
      have hba := (Below.refl _ wr).alloc (Nat.le_refl _) (.cells zSl.lk.toArray 31)
      have hzr := HB.out.size
      have HB1 := Lib.hid ((HB.out.trans (hba.mono HB.out.size)).grown hw1.out (by simp; omega) (fun k e => by injection e with e; omega))
      have HE1 := Lib.hid (HE0.out.below HB1.out)
      have HIS1 := Lib.hid (HIS.out.below (HB0.out.trans (HB1.out.mono HB0.out.size)))
      have HG1 := Lib.hid hg1.out
      clear hba hw1 hg1 HIS HIXS r0 r2 HB HE
      go_loopw [5, 23] (fun m j wq => ∃ q : Nat, q ≤ ds.length ∧ j = .int .i64 q ∧ m = .int .i64 (inL live n (ds.take q) M0) ∧ Below w1.heap.size w1 wq ∧ Env wq) (fun _ j _ => ds.length - (intOf j).toNat)
      case atStart => exact ⟨0, Nat.zero_le _, rfl, by unfold inL; split <;> rfl, Below.refl _ _, HE1.out⟩
      case round =>
        obtain ⟨q, hq, rfl, rfl, hb, hE⟩ := hrel
        by_cases hlt2 : q < ds.length
        · obtain ⟨g, o, rfl, hc⟩ := (HIS1.out.below hb).txt hlt2
          have hxz := HZS.out _ (getD_mem hlt2)
          have HN := Lib.hid (inL_next (live := live) (n := n) (m := M0) hlt2)
          have hlo := inL_lo (live := live) (n := n) (ds := ds.take q) hM1
          have r0 := (HX2.out _ _ ((hb.block _ (heap_ltk HG1.out)).trans HG1.out)).1
          have HB := Lib.hid hb
          have HE := Lib.hid hE
          clear hb hE
          revert hc hxz HN hlo
          generalize ds.getD q ByteArray.empty = x
          generalize inL live n (ds.take q) M0 = m
          intro hc hxz HN hlo
          cases live
          · go_wp2
            go_roundw
            case rel => exact ⟨q + 1, by omega, by simp, by rw [HN.out]; rfl, HB.out, HE.out⟩
            case measure => simp [intOf]; omega
          · have hu := under_e n x _ HE.out (by omega) (by omega)
            go_wp2_with fail
            refine hu.mono ?_; rintro e w2 ⟨rfl, hb2, hE2⟩
            clear hu hc r0
            have HB2 := Lib.hid (HB.out.trans (hb2.mono HB.out.size))
            have HE2 := Lib.hid hE2
            clear hb2 hE2 HB HE
            cases hq2 : undB n x
            · have HQ := Lib.hid (show rstep n m x = m by unfold rstep; rw [hq2]; rfl)
              clear hq2
              go_wp2
              go_roundw
              case rel => exact ⟨q + 1, by omega, by simp, by rw [HN.out, if_pos trivial, HQ.out], HB2.out, HE2.out⟩
              case measure => simp [intOf]; omega
            · have HQ := Lib.hid (show rstep n m x = max m (cntB x) by unfold rstep; rw [hq2]; rfl)
              clear hq2
              have hcn := count_e x w2 HE2.out (by omega)
              go_wp2_with fail
              refine hcn.mono ?_; rintro e w3 ⟨rfl, hb3, hE3⟩
              clear hcn
              have HB3 := Lib.hid (HB2.out.trans (hb3.mono HB2.out.size))
              have HE3 := Lib.hid hE3
              clear hb3 hE3 HB2 HE2
              by_cases hgt : m < (cntB x : Int)
              · have hcn := count_e x w3 HE3.out (by omega)
                go_wp2_with fail
                refine hcn.mono ?_; rintro e w4 ⟨rfl, hb4, hE4⟩
                clear hcn
                have HB4 := Lib.hid (HB3.out.trans (hb4.mono HB3.out.size))
                have HE4 := Lib.hid hE4
                clear hb4 hE4 HB3 HE3
                have HMX2 := Lib.hid (show max m (cntB x : Int) = cntB x by omega)
                clear hgt
                go_wp2
                go_roundw
                case rel => exact ⟨q + 1, by omega, by simp, by rw [HN.out, if_pos trivial, HQ.out, HMX2.out], HB4.out, HE4.out⟩
                case measure => simp [intOf]; omega
              · have HMX2 := Lib.hid (show max m (cntB x : Int) = m by omega)
                go_wp2
                go_roundw
                case rel => exact ⟨q + 1, by omega, by simp, by rw [HN.out, if_pos trivial, HQ.out, HMX2.out], HB3.out, HE3.out⟩
                case measure => simp [intOf]; omega
        · obtain rfl : q = ds.length := by omega
          rw [List.take_length]
          have HBX := Lib.hid (HB1.out.trans (hb.mono HB1.out.size))
          have HEX := Lib.hid hE
          have HFIN := Lib.hid ((HMX.out M0 hM1).trans HBN.out.symm)
          clear hb hE
          revert HFIN
          generalize inL live n ds M0 = m1
          intro HFIN
          go_wp2
          go_roundw
          case rel => exact ⟨k + 1, by omega, by simp, by rw [HFIN.out], HBX.out, HEX.out⟩
          case measure => simp [intOf]; omega
    · obtain rfl : k = 4 := by omega
      rw [show ([a, b, c, d] : List Sl).take 4 = [a, b, c, d] from rfl]
      have hmm1 : -1 ≤ bestL n [a, b, c, d] := bestL_lo n _ (-1) (Int.le_refl _)
      have HRM := Lib.hid (fun (s : Sl) (hs : s ∈ [a, b, c, d]) (hl : s.live = true) => (show reachL s.ds n ≤ bestL n [a, b, c, d] from bestL_ge (Int.le_refl _) hs hl))
      have HRT : Hid (routeL [a, b, c, d] n = selTo (asked (bestL n [a, b, c, d]) n) 0 [a, b, c, d]) := Lib.hid (by
        rw [route4, show bestL n [a, b, c, d] = mx n (mx n (mx n (mx n (-1) a) b) c) d from rfl]
        simp [selTo, List.append_assoc])
      revert hmm1 HRM HRT
      generalize bestL n [a, b, c, d] = mm
      intro hmm1 HRM HRT
      have HOB := Lib.hid ((HB.out.block w.heap.size (heap_ltk HO0.out)).trans HO0.out)
      go_wp2_with (first
        | (refine wpList_load_agg rfl 32 _ rfl ⟨w.heap.size, 0, none⟩ rfl FL _ (fun j v hj => by rw [Addr.add_lit, Nat.zero_add, cell_of_row _ w.heap.size j _ _ _ HOB.out]; simpa using hj) Tryz.underlying32 rfl HSF.out ?_; go_simp))
      rename_i wm _
      go_loopw [10, 45] (fun v i wr => ∃ (k : Nat) (A : Option Addr) (cp : Nat), k ≤ 4 ∧ i = .int .i64 k ∧ v = .slice A (selTo (asked mm n) 0 ([a, b, c, d].take k)).length cp ∧ wr.ownsRow w.heap.size 3 1 (.slice A (selTo (asked mm n) 0 ([a, b, c, d].take k)).length cp) (selTo (asked mm n) 0 ([a, b, c, d].take k)).length (ints (selTo (asked mm n) 0 ([a, b, c, d].take k))) ∧ Below w.heap.size w wr ∧ Env wr) (fun _ i _ => 4 - (intOf i).toNat)
      case atStart => exact ⟨0, none, 0, Nat.zero_le _, rfl, rfl, World.ownsRow_nil _ _ _ _, HB0.out.trans (HB.out.mono HB0.out.size), HE.out⟩
      case round =>
        obtain ⟨k, A, cp, hk2, rfl, rfl, hrow, hb, hE⟩ := hrel
        have HR := Lib.hid hrow
        have HB2 := Lib.hid hb
        have HE2 := Lib.hid hE
        clear hrow hb hE HB HE HOB
        by_cases hlt2 : k < 4
        · obtain ⟨s, hs⟩ : ∃ s, ([a, b, c, d] : List Sl)[k]? = some s := ⟨_, List.getElem?_eq_getElem (by simpa using hlt2)⟩
          have hmem := List.mem_of_getElem? hs
          have HIS := Lib.hid (HI.out s hmem)
          have HZS := Lib.hid (HZ.out s hmem)
          have hls := HLN.out s hmem
          have HIXS := Lib.hid (fun W => HIX.out k s W hs)
          have HSN := Lib.hid (selTo_next (p := asked mm n) hs)
          have HUA := Lib.hid (fun hl : s.live = true => use_asked hmm1 (HRM.out s hmem hl))
          have hlen := selTo_len (asked mm n) ([a, b, c, d].take k) 0
          have hlen2 : (selTo (asked mm n) 0 ([a, b, c, d].take k)).length ≤ 4 := by
            rw [List.length_take] at hlen
            omega
          clear hs hmem hlen
          revert HR HSN hlen2
          generalize selTo (asked mm n) 0 ([a, b, c, d].take k) = L0
          intro HR HSN hlen2
          have HYN : Hid (selTo (asked mm n) 0 ([a, b, c, d].take (k + 1)) = if (usL mm s.df n s.ds && s.live && decide (0 < s.ns)) = true then L0 ++ [(k : Int)] else L0) := Lib.hid (by
            rw [HSN.out]
            unfold selL
            cases hlv : s.live
            · simp
            · rw [← HUA.out hlv]
              have : useL mm n s = usL mm s.df n s.ds := rfl
              rw [this]
              simp only [Bool.true_and, Bool.and_true]
              split <;> simp)
          clear HSN HUA
          have hzl : zSl.lk.toArray.size = 7 := rfl
          have HS := Lib.hid (sizeLk s)
          have H1 := Lib.hid (oneLk s)
          have hsl : s.lk.toArray.size = 7 := rfl
          have HX2 : Hid (∀ (w : World) (X : Nat), w.heap[X]? = some (.cells s.lk.toArray 31 (0, 0)) → w.cell? ⟨X, 0, none⟩ = some (.bool s.live) ∧ w.cell? ⟨X, 2, none⟩ = some (.slice s.dA s.ds.length s.dc) ∧ w.cell? ⟨X, 3, none⟩ = some (.bool s.df) ∧ w.cell? ⟨X, 5, none⟩ = some (.slice s.sA s.ns s.sc)) := Lib.hid (fun w X h => ⟨(box7 h).1, (box7 h).2.2.1, (box7 h).2.2.2.1, (box7 h).2.2.2.2.2.1⟩)
          revert HS H1 hsl HX2 HIXS
          generalize s.lk.toArray = S3
          intro HIXS HS H1 hsl HX2
          obtain ⟨live, gen, dA, dc, ds, df, ll, sA, sc, ns, ss, lA, lc, nl, ls, ca⟩ := s
          simp only [Sl.dv] at HIS HZS hls HX2 HYN
          obtain ⟨i0, zz, hi, hzz, hzc, hsi, hby⟩ := info_int
          have JI := Lib.hid hi
          have JZ := Lib.hid hzz
          have JC := Lib.hid hzc
          have JS := Lib.hid hsi
          have JB := Lib.hid hby
          clear hi hzz hzc hsi hby
          by_cases hm : mm < 0
          all_goals
            go_wp2_with (first
              | (refine wpList_index rfl 32 _ _ rfl _ (HIXS.out _) ?_; go_simp)
              | (refine wpList_alloc_z rfl 31 rfl zSl.lk.toArray HZL.out ?_; go_simp)
              | (refine wpList_store_blk rfl 31 _ _ rfl wr.heap.size _ _ _ (heap_alloc_last wr _) rfl rfl HS.out (hzl.trans hsl.symm) H1.out ?_; intro w1 hg1 hw1 hs1; clear hs1; obtain ⟨r0, r2, r3, r5⟩ := HX2.out w1 wr.heap.size hg1.out; go_simp))
            have hba := (Below.refl _ wr).alloc (Nat.le_refl _) (.cells zSl.lk.toArray 31)
            have hzr := HB2.out.size
            have HB1 := Lib.hid ((HB2.out.trans (hba.mono HB2.out.size)).grown hw1.out (by simp; omega) (fun k e => by injection e with e; omega))
            have HE1 := Lib.hid ((HE2.out.below hba).kept hw1.out (by have := HE2.out.1; omega))
            have HIS1 := Lib.hid (HIS.out.below HB1.out)
            have HG1 := Lib.hid hg1.out
            have HR1 := Lib.hid (own_other (own_below HR.out hba) (heap_alloc_last wr (.cells zSl.lk.toArray 31)) (by decide) hw1.out)
            clear hba hw1 hg1 HIS HIXS r0 r2 r3 r5 HR
            go_loopw [13, 58] (fun u j wq => ∃ q : Nat, q ≤ ds.length ∧ j = .int .i64 q ∧ u = .bool (usL mm df n (ds.take q)) ∧ Below w1.heap.size w1 wq ∧ Env wq) (fun _ j _ => ds.length - (intOf j).toNat)
            case atStart => exact ⟨0, Nat.zero_le _, rfl, by unfold usL; first | (rw [decide_eq_true hm]; simp) | (rw [decide_eq_false (show ¬ mm < 0 by omega)]; simp), Below.refl _ _, HE1.out⟩
            case round =>
              obtain ⟨q, hq, rfl, rfl, hb, hE⟩ := hrel
              by_cases hlt3 : q < ds.length
              · obtain ⟨g, o, rfl, hc⟩ := (HIS1.out.below hb).txt hlt3
                have hxz := HZS.out _ (getD_mem hlt3)
                have HN := Lib.hid (usL_next (mm := mm) (df := df) (n := n) hlt3)
                have HB := Lib.hid hb
                have HE := Lib.hid hE
                clear hb hE
                revert hc hxz HN
                generalize ds.getD q ByteArray.empty = x
                generalize usL mm df n (ds.take q) = u
                intro hc hxz HN
                cases u
                · have hu := under_e n x _ HE.out (by omega) (by omega)
                  go_wp2_with fail
                  refine hu.mono ?_; rintro e w2 ⟨rfl, hb2, hE2⟩
                  clear hu hc
                  have HB3 := Lib.hid (HB.out.trans (hb2.mono HB.out.size))
                  have HE3 := Lib.hid hE2
                  clear hb2 hE2 HB HE
                  cases hq2 : undB n x
                  · have HQ := Lib.hid hq2
                    clear hq2
                    go_wp2
                    go_roundw
                    case rel => exact ⟨q + 1, by omega, by simp, by rw [HN.out, HQ.out]; rfl, HB3.out, HE3.out⟩
                    case measure => simp [intOf]; omega
                  · have HQ := Lib.hid hq2
                    clear hq2
                    have hcn := count_e x w2 HE3.out (by omega)
                    go_wp2_with fail
                    refine hcn.mono ?_; rintro e w3 ⟨rfl, hb3, hE3⟩
                    clear hcn
                    have HB4 := Lib.hid (HB3.out.trans (hb3.mono HB3.out.size))
                    have HE4 := Lib.hid hE3
                    clear hb3 hE3 HB3 HE3
                    go_wp2
                    go_roundw
                    case rel => exact ⟨q + 1, by omega, by simp, by rw [HN.out, HQ.out]; simp; rfl, HB4.out, HE4.out⟩
                    case measure => simp [intOf]; omega
                · go_wp2
                  go_roundw
                  case rel => exact ⟨q + 1, by omega, by simp, by rw [HN.out]; rfl, HB.out, HE.out⟩
                  case measure => simp [intOf]; omega
              · obtain rfl : q = ds.length := by omega
                rw [List.take_length]
                obtain ⟨r0, r2, r3, r5⟩ := HX2.out _ _ ((hb.block _ (heap_ltk HG1.out)).trans HG1.out)
                clear r2 r3
                have HRQ := Lib.hid (own_below HR1.out hb)
                have HBQ := Lib.hid (HB1.out.trans (hb.mono HB1.out.size))
                have HEQ := Lib.hid hE
                have hzq := HBQ.out.size
                clear hb hE HR1 HB1 HE1 HIS1 HG1
                revert HYN
                generalize usL mm df n ds = u
                intro HYN
                cases u
                · have HY := Lib.hid (show selTo (asked mm n) 0 ([a, b, c, d].take (k + 1)) = L0 from by rw [HYN.out]; rfl)
                  clear HYN
                  go_wp2
                  go_roundw
                  case rel => exact ⟨k + 1, A, cp, by omega, by simp, by rw [HY.out], by rw [HY.out]; exact HRQ.out, HBQ.out, HEQ.out⟩
                  case measure => simp [intOf]; omega
                · cases live
                  · have HY := Lib.hid (show selTo (asked mm n) 0 ([a, b, c, d].take (k + 1)) = L0 from by rw [HYN.out]; rfl)
                    clear HYN
                    go_wp2
                    go_roundw
                    case rel => exact ⟨k + 1, A, cp, by omega, by simp, by rw [HY.out], by rw [HY.out]; exact HRQ.out, HBQ.out, HEQ.out⟩
                    case measure => simp [intOf]; omega
                  · by_cases hns : 0 < ns
                    · have HY := Lib.hid (show selTo (asked mm n) 0 ([a, b, c, d].take (k + 1)) = L0 ++ [(k : Int)] from by rw [HYN.out, decide_eq_true hns]; rfl)
                      clear HYN
                      go_wp2_with (first
                        | (at_builtin; refine wpList_append_own _ rfl _ _ 46 rfl w.heap.size 3 i0 zz 1 8 Tryz.underlying46 JI.out JZ.out JS.out JB.out JC.out (by decide) _ _ _ rfl (own_below HRQ.out ((Below.refl _ wr).alloc (Nat.le_refl _) _)) ⟨wr.heap.size, 0, none⟩ 1 1 [.int .i64 (k : Int)] rfl rfl (cell_one_new _ _ _) (by simp [Value.oneCell']) (by unfold maxLen; omega) (by omega) (by simp; omega) ?_; intro v' w9 ho9 hg9 hnil9; clear hnil9; obtain ⟨va9, vc9, rfl⟩ := own_fm ho9; have HO9 := Lib.hid ho9; have HB9 := Lib.hid ((HBQ.out.alloc hzq _).grown hg9 (by simp; omega) (fun j hj => (HRQ.out.lt j hj).1)); clear ho9 hg9; go_simp))
                      go_roundw
                      case rel => exact ⟨k + 1, va9, vc9, by omega, by simp, by rw [HY.out, List.length_append]; rfl, by rw [HY.out, List.length_append]; have h := HO9.out; simpa [ints] using h, HB9.out, HEW.out.below HB9.out⟩
                      case measure => simp [intOf]; omega
                    · have HY := Lib.hid (show selTo (asked mm n) 0 ([a, b, c, d].take (k + 1)) = L0 from by rw [HYN.out, decide_eq_false hns]; rfl)
                      clear HYN
                      go_wp2
                      go_roundw
                      case rel => exact ⟨k + 1, A, cp, by omega, by simp, by rw [HY.out], by rw [HY.out]; exact HRQ.out, HBQ.out, HEQ.out⟩
                      case measure => simp [intOf]; omega
        · obtain rfl : k = 4 := by omega
          go_wp2
          go_ret
          refine ⟨_, rfl, ?_, HB2.out⟩
          rw [HRT.out]
          exact HR.out
end Go.Proofs.YtgopjgbcnjkblaaGreatDoor
