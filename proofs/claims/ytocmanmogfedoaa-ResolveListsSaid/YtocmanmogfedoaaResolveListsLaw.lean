/-
  The walk of ResolveLists: outcomes one behind the other come to what a fold comes to, if they are just as many as it asks for. No condition but that the numbers lie in memory.
-/
import Derived.Test.YtocmanmogfedoaaResOrd
namespace Go.Proofs.Ytocmanmogfedoaa
open Go.RowKit

def foN (f : Fo) (l : List Oc) : Fo := l.foldl (fun f o => f.note o.k) f
theorem foN_snoc (f : Fo) (l : List Oc) (o : Oc) : foN f (l ++ [o]) = (foN f l).note o.k := by unfold foN; rw [List.foldl_append]; rfl
theorem note_idle {f : Fo} (h : f.asks = false) (k : Int) : f.note k = f := by unfold Fo.note; rw [if_neg (by simp [h])]
theorem foN_idle {f : Fo} (h : f.asks = false) : ∀ l, foN f l = f
  | [] => rfl
  | o :: l => by
    show foN (f.note o.k) l = f
    rw [note_idle h]
    exact foN_idle h l
/-- how many are asked for -/
def cntN (f : Fo) : List Oc → Nat
  | [] => 0
  | o :: l => if f.asks then cntN (f.note o.k) l + 1 else 0
theorem cntN_snoc : ∀ (l : List Oc) (f : Fo) (o : Oc), cntN f (l ++ [o]) = cntN f l + if (foN f l).asks then 1 else 0
  | [], f, o => by
    show cntN f [o] = 0 + if f.asks then 1 else 0
    unfold cntN
    cases f.asks <;> rfl
  | x :: l, f, o => by
    have ih := cntN_snoc l (f.note x.k) o
    have e : foN f (x :: l) = foN (f.note x.k) l := rfl
    cases h : f.asks with
    | true =>
      rw [List.cons_append, cntN, if_pos h, cntN, if_pos h, ih, e]; omega
    | false =>
      rw [List.cons_append, cntN, if_neg (by simp [h]), cntN, if_neg (by simp [h]), foN_idle h, h]; rfl
theorem runR_eq : ∀ (l : List Oc) (f : Fo), runR f l = (foN f l, !(foN f l).asks && decide (cntN f l = l.length))
  | [], f => by
    unfold runR
    show (f, !f.asks) = (f, !f.asks && decide (0 = 0))
    simp
  | o :: l, f => by
    have ih := runR_eq l (f.note o.k)
    cases h : f.asks with
    | true =>
      rw [runR_yes h, ih]
      show _ = (foN (f.note o.k) l, !(foN (f.note o.k) l).asks && decide (cntN f (o :: l) = (o :: l).length))
      rw [cntN, if_pos h, List.length_cons]
      congr 2
      simp
    | false =>
      rw [runR_no h, foN_idle h, cntN, if_neg (by simp [h])]
      simp
theorem cntN_le : ∀ (l : List Oc) (f : Fo), cntN f l ≤ l.length
  | [], f => Nat.le_refl _
  | o :: l, f => by
    have := cntN_le l (f.note o.k)
    unfold cntN
    split <;> simp <;> omega
theorem foN_ok {f : Fo} (h : f.Ok) : ∀ (l : List Oc), (∀ o ∈ l, 1 ≤ o.k ∧ o.k ≤ 5) → (foN f l).Ok := fun l hl => by
  induction l generalizing f with
  | nil => exact h
  | cons o l ih =>
    have ho := hl o List.mem_cons_self
    exact ih (h.note ho.1 ho.2) (fun x hx => hl x (List.mem_cons_of_mem _ hx))
theorem fieldO2 (cs cc ck : Int) (W : World) : (Instr.field 32 (.agg #[.int .i64 cs, .int .i64 cc, .int .i64 ck, .slice none 0 0]) 2).run Try.prog W = .ok (.int .i64 ck) W := by kernel_rfl
theorem fieldO0 (cs cc ck : Int) (W : World) : (Instr.field 32 (.agg #[.int .i64 cs, .int .i64 cc, .int .i64 ck, .slice none 0 0]) 0).run Try.prog W = .ok (.int .i64 cs) W := by kernel_rfl
def outL (l : List Int) : List Oc := l.map fun x => ⟨0, 0, (kd x : Nat)⟩
theorem outL_in {l : List Int} : ∀ o ∈ outL l, 1 ≤ o.k ∧ o.k ≤ 5 := fun o ho => by
  obtain ⟨x, _, rfl⟩ := List.mem_map.1 ho
  have := kd_in x
  show 1 ≤ ((kd x : Nat) : Int) ∧ ((kd x : Nat) : Int) ≤ 5
  omega
theorem outL_take {l : List Int} {j : Nat} {x : Int} (h : l[j]? = some x) : (outL l).take (j + 1) = (outL l).take j ++ [⟨0, 0, (kd x : Nat)⟩] := by
  rw [List.take_add_one]
  unfold outL
  rw [List.getElem?_map, h]; rfl
theorem info_out : ∃ i, Try.prog.info? 32 = some i ∧ i.zero = some (.agg zO.cells) ∧ i.size = 4 ∧ i.bytes = 48 := info_parts (show (Try.prog.info? 32).map (fun i => (i.zero, i.size, i.bytes)) = some (some (.agg zO.cells), 4, 48) by kernel_rfl)
theorem fillO1 {cs : List Value} {z : Value} (h : cs.length = 4) : Instr.fill (fun i => some (i * 4, 4)) ((Array.range (1 * 4)).map (z.cells[· % z.cells.size]!)) [(0, .agg cs.toArray)] = some cs.toArray := by
  have := Great.fill_whole (s := 4) (by decide) [Value.agg cs.toArray] ((Array.range (1 * 4)).map (z.cells[· % z.cells.size]!)) (by simp [Value.cells, h]) (by simp)
  simpa [Value.cells] using this
/-- the first loop: the outcomes so far -/
structure AlAt (w3 wr : World) (l : List Oc) (j : Nat) (v : Value) : Prop where
  below : Below w3.heap.size w3 wr
  row : wr.ownsRow w3.heap.size 32 4 v j (ocs (l.take j))
/-- the second loop: the fold, the sources and the outcomes -/
structure LsAt (w : World) (g : Nat) (A : Option Addr) (c : Nat) (v : Value) (os : List Sr) (bB : Nat) (l : List Oc) (f : Fo) (wr : World) : Prop where
  below : Below w.heap.size w wr
  ge : w.heap.size ≤ g
  fold : FoldAt wr g A c f
  row : RowIn 6 wr v os.length (svs os)
  ne : svs os ≠ [] → v.ownBlock ≠ some g
  bne : 0 < l.length → bB ≠ g ∧ bB < wr.heap.size ∧ ∀ k u, (ocs l)[k]? = some u → wr.cell? ⟨bB, k, none⟩ = some u
theorem LsAt.to {w wr wx : World} {g c bB : Nat} {A : Option Addr} {v : Value} {os : List Sr} {l : List Oc} {f : Fo} (h : LsAt w g A c v os bB l f wr) (hb : Below wr.heap.size wr wx) : LsAt w g A c v os bB l f wx :=
  ⟨h.below.trans (hb.mono h.below.size), h.ge, h.fold.below hb, h.row.below hb, h.ne, fun h0 => ⟨(h.bne h0).1, Nat.lt_of_lt_of_le (h.bne h0).2.1 hb.size, fun k u hk => (hb.cell (p := ⟨bB, k, none⟩) (h.bne h0).2.1).trans ((h.bne h0).2.2 k u hk)⟩⟩
theorem LsAt.note {w wr wx : World} {g c bB : Nat} {A : Option Addr} {v : Value} {os : List Sr} {l : List Oc} {f f' : Fo} (h : LsAt w g A c v os bB l f wr) (hf : FoldAt wx g A c f') (hg : wr.grownBy wx (some g)) : LsAt w g A c v os bB l f' wx :=
  ⟨h.below.grown hg h.below.size (fun q e => by injection e with e; have := h.ge; omega), h.ge, hf, h.row.kept h.ne hg, h.ne, fun h0 => ⟨(h.bne h0).1, Nat.lt_of_lt_of_le (h.bne h0).2.1 hg.size, fun k u hk => hg.cell ((h.bne h0).2.2 k u hk) (fun e => (h.bne h0).1 (by injection e))⟩⟩
set_option maxRecDepth 100000 in
set_option maxHeartbeats 16000000 in
theorem resolveLists_walk (ls : List Int) (A1 : Option Addr) (c1 : Nat) (cs0 : Int) (ms : List Int) (A2 : Option Addr) (c2 : Nat) (w : World) (hls : IntsIn w A1 ls) (hms : IntsIn w A2 ms) :
    Calls Try.prog 3 #[.slice A1 ls.length c1, .int .i64 cs0, .slice A2 ms.length c2] w fun e w' => e = .returned (.bool true) ∧ Below w.heap.size w w' := by
  have HFit := Lib.hid fit16_e
  obtain ⟨n1, hn1⟩ : ∃ n1, n1 = ls.length := ⟨_, rfl⟩
  obtain ⟨n2, hn2⟩ : ∃ n2, n2 = ms.length := ⟨_, rfl⟩
  rw [← hn1, ← hn2]
  have HLS := Lib.hid hls
  have HMS := Lib.hid hms
  have HN1 := Lib.hid hn1
  have HN2 := Lib.hid hn2
  clear hls hms hn1 hn2
  by_cases h20 : 20 < n1
  · have hI : (20 : Int) < (n1 : Int) := by omega
    clear h20
    go_enter Try.func3, Try.ntmps3
    go_wp2_with fail
    refine (HFit.out _).mono ?_
    rintro e w1 ⟨rfl, hb1⟩
    have HB1 := Lib.hid hb1
    clear hb1
    go_wp2_with fail
    go_ret
    exact ⟨rfl, HB1.out⟩
  have hI : ¬ (20 : Int) < (n1 : Int) := by omega
  by_cases h60 : 60 < n2
  · have hI2 : (60 : Int) < (n2 : Int) := by omega
    clear h60 h20
    go_enter Try.func3, Try.ntmps3
    go_wp2_with fail
    refine (HFit.out _).mono ?_
    rintro e w1 ⟨rfl, hb1⟩
    have HB1 := Lib.hid hb1
    clear hb1
    go_wp2_with fail
    go_ret
    exact ⟨rfl, HB1.out⟩
  have hI2 : ¬ (60 : Int) < (n2 : Int) := by omega
  have hl3 := (bN_e cs0 3 (by omega)).2
  have hb3 : bits BinOp.and IntKind.i64 cs0 3 = (bN cs0 3 : Int) := (bN_e cs0 3 (by omega)).1
  generalize bN cs0 3 = m at hl3 hb3
  have hm3 : (m : Int) ≤ 3 := by omega
  obtain ⟨os, hos⟩ : ∃ os, os = orderL ls := ⟨_, rfl⟩
  have hosl : os.length ≤ 4 := by rw [hos]; unfold orderL; rw [List.length_take]; omega
  have HOd : Hid (∀ W : World, IntsIn W A1 ls → Calls Try.prog 8 #[.slice A1 n1 c1] W fun e w' => ∃ v, e = .returned v ∧ w'.ownsRow W.heap.size 44 6 v os.length (svs os) ∧ Below W.heap.size W w') := Lib.hid (fun W hW => by
    rw [hos]
    exact order_e A1 n1 c1 ls W HN1.out.symm (by omega) hW)
  have HOL := Lib.hid hosl
  clear h20 h60 hl3 hos hosl
  have hn2I : (n2 : Int) ≤ 60 := by omega
  go_enter Try.func3, Try.ntmps3
  go_wp2_with fail
  refine (HFit.out _).mono ?_
  rintro e w1 ⟨rfl, hb1⟩
  have HB1 := Lib.hid hb1
  have HLS1 := Lib.hid (HLS.out.below (hb1.mono (Nat.le_refl _)))
  clear hb1 HLS
  go_wp2_with fail
  refine (HOd.out w1 HLS1.out).mono ?_
  rintro e w2 ⟨v, rfl, ho2, hb2⟩
  have hrow2 : RowIn 6 w2 v os.length (svs os) := RowIn.of_own ho2 (svs_one os)
  have HV : Hid (svs os ≠ [] → ∀ q, v.ownBlock = some q → q < w2.heap.size) := Lib.hid (fun _ q hq => (ho2.lt q hq).2)
  have HB2 := Lib.hid (HB1.out.trans (hb2.mono HB1.out.size))
  have hNw := new_e os (m : Nat) v (by have := HOL.out; omega) w2 hrow2
  have HR2 := Lib.hid hrow2
  clear ho2 hb2 hrow2 HB1 HOd HLS1
  go_wp2_with fail
  refine hNw.mono ?_
  rintro e w3 ⟨g, A, c, rfl, hg, hf, hb3'⟩
  have HF3 := Lib.hid hf
  have HB3 := Lib.hid (HB2.out.trans (hb3'.mono HB2.out.size))
  have HR3 := Lib.hid (HR2.out.below hb3')
  have HG3 : Hid (w.heap.size ≤ g ∧ w2.heap.size ≤ g ∧ g < w3.heap.size) := Lib.hid ⟨Nat.le_trans HB2.out.size hg, hg, heap_lt hf.blk⟩
  have HMS3 := Lib.hid (HMS.out.below HB3.out)
  clear hNw hg hf hb3' HB2 HR2 HMS hb3
  go_wp2_with fail
  go_loopg [42, 10, 12] n2 (fun gk i v10 v12 wr => ∃ j : Nat, i = .int .i64 j ∧ j + gk = n2 ∧ Hid (AlAt w3 wr (outL ms) j v10))
  case atStart => exact ⟨0, rfl, by omega, Lib.hid ⟨Below.refl _ _, World.ownsRow_nil _ _ _ _⟩⟩
  case round =>
    obtain ⟨j, rfl, hjg, HA⟩ := hrel
    by_cases hlt : j < n2
    · obtain ⟨gk2, rfl⟩ : ∃ gk2, gk = gk2 + 1 := ⟨gk - 1, by omega⟩
      have hltI : (j : Int) < (n2 : Int) := by omega
      obtain ⟨b, o, rfl, hbl, hc⟩ := HMS3.out (fun e => by have := HN2.out; rw [e] at this; simp at this; omega)
      have dx := (HA.out.below.cell (p := ⟨b, o + j, none⟩) hbl).trans (hc j (by rw [← HN2.out]; exact hlt))
      have HXj : Hid (ms[j]? = some (ms.getD j 0)) := Lib.hid (by
        have := HN2.out
        rw [List.getD_eq_getElem?_getD, List.getElem?_eq_getElem (by omega)]; rfl)
      generalize ms.getD j 0 = x at dx HXj
      obtain ⟨A3, c3, rfl⟩ : ∃ A3 c3, u10 = Value.slice A3 j c3 := by
        rcases HA.out.row.2 with ⟨rfl, rfl⟩ | ⟨gg, cc, cs, rfl, _⟩
        · exact ⟨_, _, rfl⟩
        · exact ⟨_, _, rfl⟩
      have hKd := kind_e x wr
      clear hc
      go_wp2_with fail
      refine hKd.mono ?_
      rintro e w5 ⟨rfl, rfl⟩
      obtain ⟨i0, hi, hz0, hz1, hz2⟩ := info_out
      have HI := Lib.hid hi
      have HZ0 := Lib.hid hz0
      have HZ1 := Lib.hid hz1
      have HZ2 := Lib.hid hz2
      clear hi hz0 hz1 hz2 hKd dx
      have HTk : Hid (ocs ((outL ms).take j) ++ (Oc.cells ⟨0, 0, (kd x : Nat)⟩).toList = ocs ((outL ms).take (j + 1))) := Lib.hid (by
        rw [outL_take HXj.out]
        exact (ocs_snoc _ _).symm)
      have HDl : Hid ((Oc.cells ⟨0, 0, (kd x : Nat)⟩) = #[.int .i64 0, .int .i64 0, .int .i64 (kd x : Nat), .slice none 0 0]) := Lib.hid rfl
      generalize kd x = kx at HTk HDl
      have HRw := Lib.hid (own_step HA.out.row ((Below.refl _ wr).alloc (Nat.le_refl _) (.cells (Oc.cells ⟨0, 0, (kx : Nat)⟩) 32)))
      have HBw := Lib.hid (HA.out.below.alloc HA.out.below.size (.cells (Oc.cells ⟨0, 0, (kx : Nat)⟩) 32))
      have HF1 : Hid (Instr.fill (fun i => some (i * 4, 4)) ((Array.range (1 * 4)).map ((Value.agg zO.cells).cells[· % (Value.agg zO.cells).cells.size]!)) [(0, .agg (Oc.cells ⟨0, 0, (kx : Nat)⟩))] = some (Oc.cells ⟨0, 0, (kx : Nat)⟩)) := Lib.hid (fillO1 (cs := (Oc.cells ⟨0, 0, (kx : Nat)⟩).toList) rfl)
      have HCL : Hid (∀ (i : Nat) (u : Value), (Oc.cells ⟨0, 0, (kx : Nat)⟩).toList[i]? = some u → (wr.alloc (.cells (Oc.cells ⟨0, 0, (kx : Nat)⟩) 32)).cell? ((⟨wr.heap.size, 0, none⟩ : Addr).add i) = some u) := Lib.hid fun i u hi => by
        rw [Addr.add_lit, Nat.zero_add, World.cell?_alloc_mark, ← Array.getElem?_toList]; exact hi
      have HLn : Hid ((Oc.cells ⟨0, 0, (kx : Nat)⟩).toList.length = 4) := Lib.hid rfl
      have HOn : Hid (∀ u ∈ (Oc.cells ⟨0, 0, (kx : Nat)⟩).toList, u.oneCell' = true) := Lib.hid (fun u hu => by
        have h := Oc.one ⟨0, 0, (kx : Nat)⟩
        rw [Array.all_eq_true'] at h
        exact h u (by simpa using hu))
      have hjm : j ≤ 60 := by omega
      have HBu : Hid (Try.prog.built 32 [(2, .int .i64 (kx : Nat))] = some (Oc.cells ⟨0, 0, (kx : Nat)⟩)) := Lib.hid (builtO _)
      generalize ocs ((outL ms).take j) = xs0 at HRw HTk
      generalize (Oc.cells ⟨0, 0, (kx : Nat)⟩) = D at HRw HBw HF1 HCL HLn HOn HTk HBu HDl
      go_wp2_with (first
        | (refine wpList_build_z rfl 32 #[(2, .tmp 48)] rfl D HBu.out ?_; go_simp)
        | (refine wpList_buildSlice rfl 28 32 1 #[(0, .tmp 49)] rfl D i0 _ Try.underlying28 HI.out HZ0.out (by rw [HZ1.out]; decide) (by rw [HZ1.out]; decide) (by rw [HZ1.out]; refine (congrArg _ (?_ : _ = [(0, Value.agg D)])).trans HF1.out; rw [Array.toList_map]; rfl) ?_; go_simp)
        | (at_builtin; refine wpList_append_own (w := wr.alloc (.cells D 32)) rfl (.tmp 46) (.tmp 50) 28 rfl w3.heap.size 32 i0 _ 4 48 Try.underlying28 HI.out HZ0.out HZ1.out HZ2.out rfl (by decide) (.slice A3 j c3) j xs0 rfl HRw.out ⟨wr.heap.size, 0, none⟩ 1 1 D.toList rfl HLn.out HCL.out HOn.out (by unfold maxLen; omega) (by omega) HBw.out.size ?_; intro v1 w6 ho1 hg1 hnil; clear hnil; go_simp))
      have HO6 : Hid (AlAt w3 w6 (outL ms) (j + 1) v1) := Lib.hid ⟨HBw.out.grown hg1 HBw.out.size (fun k e => (HRw.out.lt k e).1), by rw [← HTk.out]; exact ho1⟩
      go_roundg gk2
      case measure => omega
      case rel => exact ⟨j + 1, by go_num, by omega, HO6⟩
    · obtain rfl : j = n2 := by omega
      have hltI : ¬ (j : Int) < (j : Int) := by omega
      have hll : (outL ms).length = j := by unfold outL; rw [List.length_map]; exact HN2.out.symm
      have hrow := HA.out.row
      rw [List.take_of_length_le (by rw [hll]; exact Nat.le_refl _)] at hrow
      have HLL := Lib.hid hll
      have HRowA := Lib.hid hrow
      obtain ⟨B, cB, bB, rfl, hBq⟩ : ∃ B cB bB, u10 = Value.slice B j cB ∧ (0 < j → B = some ⟨bB, 0, none⟩ ∧ w3.heap.size ≤ bB ∧ bB < wr.heap.size ∧ ∀ k u, (ocs (outL ms))[k]? = some u → wr.cell? ⟨bB, k, none⟩ = some u) := by
        rcases hrow.2 with ⟨rfl, rfl⟩ | ⟨gg, cc, cs, rfl, hb, hgg, _⟩
        · exact ⟨_, _, 0, rfl, fun h => absurd h (Nat.lt_irrefl 0)⟩
        · exact ⟨_, _, gg, rfl, fun _ => ⟨rfl, hb, heap_lt hgg, fun k u hu => by
            have := hrow.cells (g := gg) rfl k u hu
            rwa [Addr.add_lit, Nat.zero_add] at this⟩⟩
      have HBq := Lib.hid (fun h => (hBq h).1)
      have HLs0 : Hid (LsAt w g A c v os bB (outL ms) (foN (newF os (m : Nat)) ((outL ms).take 0)) wr) := Lib.hid ⟨HB3.out.trans (HA.out.below.mono HB3.out.size), HG3.out.1, HF3.out.below HA.out.below, HR3.out.below HA.out.below, fun hne q => by
          have := HV.out hne g q
          have := HG3.out.2.1
          omega, fun h0 => by
          rw [HLL.out] at h0
          obtain ⟨_, h1, h2, h3⟩ := hBq h0
          exact ⟨by have := HG3.out.2.2; omega, h2, h3⟩⟩
      have HOk : Hid (∀ j, (foN (newF os (m : Nat)) ((outL ms).take j)).Ok) := Lib.hid (fun j => foN_ok (newF_ok os _ (by have := HOL.out; omega) (by omega)) _ (fun o ho => outL_in o (List.mem_of_mem_take ho)))
      clear hll hrow hBq HRowA HB3 HR3 HF3 HMS3 HA HV
      generalize hF0 : newF os (m : Nat) = F0 at HLs0 HOk
      have HF0 := Lib.hid hF0
      clear hF0
      generalize hoc : outL ms = oc at HLs0 HOk HLL
      have HOi : Hid (∀ o ∈ oc, 1 ≤ o.k ∧ o.k ≤ 5) := Lib.hid (by rw [← hoc]; exact outL_in)
      clear hoc
      have hjI : (j : Int) ≤ 60 := hn2I
      go_wp2_with fail
      go_loopg [55, 9, 14, 15, 16, 17] j (fun gk i v9 v14 v15 v16 v17 wq => ∃ k : Nat, i = .int .i64 k ∧ v9 = .int .i64 (cntN F0 (oc.take k) : Nat) ∧ k + gk = j ∧ Hid (LsAt w g A c v os bB oc (foN F0 (oc.take k)) wq))
      case atStart => exact ⟨0, rfl, rfl, by omega, HLs0⟩
      case round =>
        rename World => wq
        obtain ⟨k, rfl, rfl, hkg, HL⟩ := hrel
        by_cases hkj : k < j
        · obtain ⟨gq2, rfl⟩ : ∃ gq2, gk = gq2 + 1 := ⟨gk - 1, by omega⟩
          have hkjI : (k : Int) < (j : Int) := by omega
          obtain ⟨xo, hxo⟩ : ∃ xo, oc[k]? = some xo := ⟨_, List.getElem?_eq_getElem (by rw [HLL.out]; exact hkj)⟩
          have hxk := HOi.out xo (List.mem_of_getElem? hxo)
          obtain rfl := HBq.out (by omega)
          obtain ⟨_, _, hcells⟩ := HL.out.bne (by rw [HLL.out]; omega)
          have HXC : Hid (∀ i u, xo.cells.toList[i]? = some u → wq.cell? ((⟨bB, k * 4, none⟩ : Addr).add i) = some u) := Lib.hid (fun i u hi => by
            have hi4 : i < 4 := (List.getElem?_eq_some_iff.1 hi).1
            rw [Addr.add_lit]
            exact hcells _ _ (by rw [ocs_at hxo hi4]; exact hi))
          have hst : foN F0 (oc.take (k + 1)) = (foN F0 (oc.take k)).note xo.k := by rw [List.take_add_one, hxo]; exact foN_snoc _ _ _
          have hct : cntN F0 (oc.take (k + 1)) = cntN F0 (oc.take k) + if (foN F0 (oc.take k)).asks then 1 else 0 := by rw [List.take_add_one, hxo]; exact cntN_snoc _ _ _
          have HST := Lib.hid hst
          have HCT := Lib.hid hct
          have hcn : cntN F0 (oc.take k) ≤ 60 := by
            have := cntN_le (oc.take k) F0
            rw [List.length_take] at this; omega
          have hcnI : (cntN F0 (oc.take k) : Int) ≤ 60 := by omega
          have HXS := Lib.hid (sizeO xo)
          have HX1 := Lib.hid xo.one
          have HXZ : Hid (zO.cells.size = xo.cells.size) := Lib.hid rfl
          have HZO := Lib.hid zeroO
          have hL2 := HL.out.to ((Below.refl _ wq).alloc (Nat.le_refl _) (.cells xo.cells 32))
          have HL2 := Lib.hid hL2
          have HXB := Lib.hid (heap_alloc_last wq (.cells xo.cells 32))
          have HOkk := Lib.hid (HOk.out k)
          have HNt : Hid (∀ W : World, FoldAt W g A c (foN F0 (oc.take k)) → Calls Try.prog 12 #[.pointer (some ⟨g, 0, none⟩), .agg xo.cells] W (NtPost g A c ((foN F0 (oc.take k)).note xo.k) W)) := Lib.hid (fun W hW => note_e xo hW HOkk.out hxk.1 hxk.2)
          clear hst hct hcn hcells hxo hxk hL2 HOkk HL
          generalize hfk : foN F0 (oc.take k) = fk at HST HCT HL2 HNt
          have HFK := Lib.hid hfk
          clear hfk
          generalize cntN F0 (oc.take k) = nk at HCT hcnI ⊢
          generalize hXX : xo.cells = XC at HXC HXS HX1 HXZ HL2 HXB HNt
          clear hXX
          generalize zO.cells = Z at HXZ HZO
          go_upto_region 18 with (first
            | (refine wpList_load_agg rfl 32 (.tmp 57) rfl ⟨bB, k * 4, none⟩ rfl XC _ HXC.out Try.underlying32 rfl HXS.out ?_; go_simp)
            | (refine wpList_alloc_z rfl 32 rfl Z HZO.out ?_; go_simp)
            | (refine wpList_store_new rfl 32 (.tmp 14) (.tmp 58) rfl wq.heap.size rfl Z XC 32 rfl rfl HXS.out HXZ.out HX1.out ?_; go_simp))
          generalize wq.alloc (.cells XC 32) = W5 at HL2 HXB ⊢
          by_cases ha : fk.asks = true
          · have hAt := at_yes HL2.out.fold ha
            have HCT2 : Hid ((cntN F0 (oc.take (k + 1)) : Int) = (nk : Int) + 1) := Lib.hid (by have := HCT.out; rw [if_pos ha] at this; omega)
            clear ha HCT
            generalize fk.src = sv at hAt
            generalize fk.cand = cv at hAt
            go_wp2_with fail
            refine hAt.mono ?_
            rintro e w6 ⟨rfl, hb6⟩
            have HL6 := Lib.hid (HL2.out.to hb6)
            have HXB6 := Lib.hid ((hb6.block _ (heap_lt HXB.out)).trans HXB.out)
            clear hAt hb6 HL2 HXB
            go_wp2_with (refine wpList_load_row rfl 32 (.tmp 14) rfl wq.heap.size rfl 32 XC (0, 0) _ HXB6.out Try.underlying32 rfl HXS.out ?_; go_simp)
            refine (HNt.out _ HL6.out.fold).mono ?_
            rintro e w7 ⟨rfl, hf7, hg7⟩
            rw [← HST.out] at hf7
            have HL7 := Lib.hid (HL6.out.note hf7 hg7)
            clear hf7 hg7 HL6 HXB6 HNt HFK HST
            go_wp2_with fail
            go_roundg gq2
            case measure => omega
            case rel => exact ⟨k + 1, by go_num, by rw [HCT2.out], by omega, HL7⟩
          · have ha' : fk.asks = false := by simpa using ha
            have hAt : Calls _ _ _ _ _ := at_no HL2.out.fold ha'
            have HCT2 : Hid ((cntN F0 (oc.take (k + 1)) : Int) = (nk : Int)) := Lib.hid (by have := HCT.out; rw [if_neg ha] at this; omega)
            have HL7 : Hid (LsAt w g A c v os bB oc (foN F0 (oc.take (k + 1))) W5) := Lib.hid (by rw [HST.out, note_idle ha']; exact HL2.out)
            clear ha ha' HCT HST HNt HL2 HXB HFK
            go_wp2_with fail
            refine hAt.mono ?_
            rintro e w6 ⟨rfl, rfl⟩
            clear hAt
            go_wp2_with fail
            go_roundg gq2
            case measure => omega
            case rel => exact ⟨k + 1, by go_num, by rw [HCT2.out], by omega, HL7⟩
        · obtain rfl : k = j := by omega
          have hkjI : ¬ (k : Int) < (k : Int) := by omega
          have htk : oc.take k = oc := List.take_of_length_le (by rw [HLL.out]; exact Nat.le_refl _)
          rw [htk] at HL ⊢
          clear htk
          generalize hff : foN F0 oc = ff at HL
          generalize hnn : cntN F0 oc = nn
          have HFF := Lib.hid hff
          have HNN := Lib.hid hnn
          clear hff hnn
          by_cases ha : ff.asks = true
          · have hAt := at_yes HL.out.fold ha
            generalize ff.src = sv at hAt
            generalize ff.cand = cv at hAt
            go_wp2_with fail
            refine hAt.mono ?_
            rintro e W6 ⟨rfl, hb6⟩
            have HL6 := Lib.hid (HL.out.to hb6)
            clear hAt hb6 HL
            have hR := resolve_e os (m : Nat) v oc B cB (by have := HOL.out; omega) (by omega) (by rw [HLL.out]; omega) HOi.out W6 HL6.out.row (fun h0 => by
              obtain ⟨_, h2, h3⟩ := HL6.out.bne h0
              have e := HBq.out (by rw [← HLL.out]; exact h0)
              subst e
              exact OutsAt.of_cells h2 h3 h0)
            rw [runR_eq, HF0.out, HFF.out, HNN.out, HLL.out, ha] at hR
            have HR := Lib.hid hR
            clear hR ha HOi HOL HLL HOk HG3 HBq HF0 HFF HNN
            go_wp2_with fail
            refine HR.out.mono ?_
            rintro e w8 ⟨rfl, hb8⟩
            have hcs : ff.came.cells = #[.int .i64 ff.came.s, .int .i64 ff.came.c, .int .i64 ff.came.k, .slice none 0 0] := rfl
            have HL8 := Lib.hid (HL6.out.to hb8)
            have HRep0 : Hid (∀ W : World, LsAt w g A c v os bB oc ff W → Calls Try.prog 14 #[.pointer (some ⟨g, 0, none⟩)] W fun e w' => e = .returned (.agg #[.int .i64 ff.came.s, .int .i64 ff.came.c, .int .i64 ff.came.k, .slice none 0 0]) ∧ Below W.heap.size W w') := Lib.hid (fun W hW => reply_e hW.fold)
            dsimp only
            rw [hcs]
            generalize ff.came.s = cs at HRep0 ⊢
            generalize ff.came.c = cc at HRep0 ⊢
            generalize ff.came.k = ck at HRep0 ⊢
            clear hcs hb8 HR HL6
            have hb9 := (Below.refl _ w8).alloc (Nat.le_refl _) (.cells #[.int .i64 cs, .int .i64 cc, .int .i64 ck, .slice none 0 0] 32)
            have HL9 := Lib.hid (HL8.out.to hb9)
            have HX9 := Lib.hid (heap_alloc_last w8 (.cells #[.int .i64 cs, .int .i64 cc, .int .i64 ck, .slice none 0 0] 32))
            clear hb9 HL8
            simp only [Bool.not_true, Bool.false_and]
            go_upto_region 25 with fail
            generalize w8.alloc (.cells #[.int .i64 cs, .int .i64 cc, .int .i64 ck, .slice none 0 0] 32) = W9 at HL9 HX9 ⊢
            generalize w8.heap.size = gx at HX9 ⊢
            have HB9 := Lib.hid HL9.out.below
            have D2 : Hid (∀ W : World, Below W9.heap.size W9 W → W.cell? ⟨gx, 2, none⟩ = some (.int .i64 ck)) := Lib.hid (fun W hW => (hW.cell (p := ⟨gx, 2, none⟩) (heap_lt HX9.out)).trans ((cell_of_row _ gx 2 _ _ _ HX9.out).trans rfl))
            have D0 : Hid (∀ W : World, Below W9.heap.size W9 W → W.cell? ⟨gx, 0, none⟩ = some (.int .i64 cs)) := Lib.hid (fun W hW => (hW.cell (p := ⟨gx, 0, none⟩) (heap_lt HX9.out)).trans ((cell_of_row _ gx 0 _ _ _ HX9.out).trans rfl))
            have HRep : Hid (∀ W : World, Below W9.heap.size W9 W → Calls Try.prog 14 #[.pointer (some ⟨g, 0, none⟩)] W fun e w' => e = .returned (.agg #[.int .i64 cs, .int .i64 cc, .int .i64 ck, .slice none 0 0]) ∧ Below W.heap.size W w') := Lib.hid (fun W hW => HRep0.out W (HL9.out.to hW))
            clear HRep0 HL9 HX9
            have HFd2 : Hid (∀ W : World, (Instr.field 32 (.agg #[.int .i64 cs, .int .i64 cc, .int .i64 ck, .slice none 0 0]) 2).run Try.prog W = .ok (.int .i64 ck) W) := Lib.hid (fieldO2 cs cc ck)
            have HFd0 : Hid (∀ W : World, (Instr.field 32 (.agg #[.int .i64 cs, .int .i64 cc, .int .i64 ck, .slice none 0 0]) 0).run Try.prog W = .ok (.int .i64 cs) W) := Lib.hid (fieldO0 cs cc ck)
            refine wp_region_held_drew (S := (fun W : World => Below W9.heap.size W9 W)) (by kernel_rfl) (Below.refl _ W9).drew (fun hHeld => ?_)
            refine wpAnyH_take (i := 0) (oi := ({ dst := some 85, op := Go.Op.move (Go.Operand.tmp 22), type := 4, pos := "law.go:102", after := #[], guard := none } : Oper)) (v := .bool false) rfl (by kernel_rfl) (by kernel_rfl) (by kernel_rfl) (fun _ _ _ h => h) (Or.inl ⟨by rfl, fun w' _ => ?_⟩) hHeld ?_
            · go_simp
            simp only [Act.put, List.setIfInBounds_toArray, List.set_cons_zero, List.set_cons_succ]
            refine wpAnyH_take (i := 1) (oi := ({ dst := some 86, op := Go.Op.move (Go.Operand.tmp 20), type := 4, pos := "law.go:102", after := #[], guard := none } : Oper)) (v := .bool true) rfl (by kernel_rfl) (by kernel_rfl) (by kernel_rfl) (fun _ _ _ h => h) (Or.inl ⟨by rfl, fun w' _ => ?_⟩) hHeld ?_
            · go_simp
            simp only [Act.put, List.setIfInBounds_toArray, List.set_cons_zero, List.set_cons_succ]
            refine wpAnyH_take (i := 2) (oi := ({ dst := some 87, op := Go.Op.unOp Go.UnOp.not 4 (Go.Operand.tmp 86), type := 4, pos := "law.go:102", after := #[{ on := 1, ground := Go.Ground.data }], guard := none } : Oper)) (v := .bool false) rfl (by kernel_rfl) (by kernel_rfl) (by kernel_rfl) (fun _ _ _ h => h) (Or.inl ⟨by rfl, fun w' _ => ?_⟩) hHeld ?_
            · go_simp
            simp only [Act.put, List.setIfInBounds_toArray, List.set_cons_zero, List.set_cons_succ]
            refine wpAnyH_take (i := 3) (oi := ({ dst := some 88, op := Go.Op.move (Go.Operand.tmp 87), type := 4, pos := "law.go:102", after := #[{ on := 2, ground := Go.Ground.data }], guard := none } : Oper)) (v := .bool false) rfl (by kernel_rfl) (by kernel_rfl) (by kernel_rfl) (fun _ _ _ h => h) (Or.inl ⟨by rfl, fun w' _ => ?_⟩) hHeld ?_
            · go_simp
            simp only [Act.put, List.setIfInBounds_toArray, List.set_cons_zero, List.set_cons_succ]
            refine wpAnyH_take (i := 4) (oi := ({ dst := some 89, op := Go.Op.move (Go.Operand.tmp 9), type := 3, pos := "law.go:102", after := #[{ on := 3, ground := Go.Ground.guard }], guard := some (3, true) } : Oper)) (v := undef) rfl (by kernel_rfl) (by kernel_rfl) (by kernel_rfl) (fun _ _ _ h => h) (.inr ⟨by kernel_rfl, rfl⟩) hHeld ?_
            simp only [Act.put, List.setIfInBounds_toArray, List.set_cons_zero, List.set_cons_succ]
            refine wpAnyH_take (i := 5) (oi := ({ dst := some 90, op := Go.Op.move (Go.Operand.tmp 10), type := 28, pos := "law.go:102", after := #[{ on := 3, ground := Go.Ground.guard }], guard := some (3, true) } : Oper)) (v := undef) rfl (by kernel_rfl) (by kernel_rfl) (by kernel_rfl) (fun _ _ _ h => h) (.inr ⟨by kernel_rfl, rfl⟩) hHeld ?_
            simp only [Act.put, List.setIfInBounds_toArray, List.set_cons_zero, List.set_cons_succ]
            refine wpAnyH_take (i := 6) (oi := ({ dst := some 91, op := Go.Op.call { callee := Go.Callee.builtin Go.Builtin.len, args := #[Go.Operand.tmp 90], argTypes := #[28] }, type := 3, pos := "law.go:102", after := #[{ on := 5, ground := Go.Ground.data }, { on := 3, ground := Go.Ground.guard }], guard := some (3, true) } : Oper)) (v := undef) rfl (by kernel_rfl) (by kernel_rfl) (by kernel_rfl) (fun _ _ _ h => h) (.inr ⟨by kernel_rfl, rfl⟩) hHeld ?_
            simp only [Act.put, List.setIfInBounds_toArray, List.set_cons_zero, List.set_cons_succ]
            refine wpAnyH_take (i := 7) (oi := ({ dst := some 92, op := Go.Op.binOp Go.BinOp.eql 3 (Go.Operand.tmp 89) (Go.Operand.tmp 91) 3, type := 4, pos := "law.go:102", after := #[{ on := 4, ground := Go.Ground.data }, { on := 6, ground := Go.Ground.data }, { on := 3, ground := Go.Ground.guard }], guard := some (3, true) } : Oper)) (v := undef) rfl (by kernel_rfl) (by kernel_rfl) (by kernel_rfl) (fun _ _ _ h => h) (.inr ⟨by kernel_rfl, rfl⟩) hHeld ?_
            simp only [Act.put, List.setIfInBounds_toArray, List.set_cons_zero, List.set_cons_succ]
            refine wpAnyH_take (i := 8) (oi := ({ dst := some 93, op := Go.Op.pick (Go.Operand.tmp 88) (Go.Operand.tmp 92) (Go.Operand.const (Go.Value.bool false)), type := 4, pos := "law.go:102", after := #[{ on := 3, ground := Go.Ground.data }, { on := 7, ground := Go.Ground.data }], guard := none } : Oper)) (v := .bool false) rfl (by kernel_rfl) (by kernel_rfl) (by kernel_rfl) (fun _ _ _ h => h) (Or.inl ⟨by rfl, fun w' _ => ?_⟩) hHeld ?_
            · go_simp
            simp only [Act.put, List.setIfInBounds_toArray, List.set_cons_zero, List.set_cons_succ]
            refine wpAnyH_take (i := 9) (oi := ({ dst := some 94, op := Go.Op.binOp Go.BinOp.eql 4 (Go.Operand.tmp 85) (Go.Operand.tmp 93) 4, type := 4, pos := "law.go:102", after := #[{ on := 0, ground := Go.Ground.data }, { on := 8, ground := Go.Ground.data }], guard := none } : Oper)) (v := .bool true) rfl (by kernel_rfl) (by kernel_rfl) (by kernel_rfl) (fun _ _ _ h => h) (Or.inl ⟨by rfl, fun w' _ => ?_⟩) hHeld ?_
            · (go_simp; try simp)
            simp only [Act.put, List.setIfInBounds_toArray, List.set_cons_zero, List.set_cons_succ]
            refine wpAnyH_take (i := 10) (oi := ({ dst := some 95, op := Go.Op.move (Go.Operand.tmp 94), type := 4, pos := "law.go:102", after := #[{ on := 9, ground := Go.Ground.data }, { on := 3, ground := Go.Ground.chain }], guard := none } : Oper)) (v := .bool true) rfl (by kernel_rfl) (by kernel_rfl) (by kernel_rfl) (fun _ _ _ h => h) (Or.inl ⟨by rfl, fun w' _ => ?_⟩) hHeld ?_
            · go_simp
            simp only [Act.put, List.setIfInBounds_toArray, List.set_cons_zero, List.set_cons_succ]
            refine wpAnyH_take (i := 11) (oi := ({ dst := some 96, op := Go.Op.fieldAddr 32 (Go.Operand.tmp 21) 2, type := 0, pos := "law.go:102", after := #[{ on := 10, ground := Go.Ground.guard }], guard := some (10, true) } : Oper)) (v := .pointer (some ⟨gx, 2, none⟩)) rfl (by kernel_rfl) (by kernel_rfl) (by kernel_rfl) (fun _ _ _ h => h) (Or.inl ⟨by kernel_rfl, fun w' _ => ?_⟩) hHeld ?_
            · go_simp
            simp only [Act.put, List.setIfInBounds_toArray, List.set_cons_zero, List.set_cons_succ]
            refine wpAnyH_take (i := 12) (oi := ({ dst := some 97, op := Go.Op.load 3 (Go.Operand.tmp 96), type := 3, pos := "law.go:102", after := #[{ on := 11, ground := Go.Ground.data }, { on := 10, ground := Go.Ground.guard }], guard := some (10, true) } : Oper)) (v := .int .i64 ck) rfl (by kernel_rfl) (by kernel_rfl) (by kernel_rfl) (fun _ _ _ h => h) (Or.inl ⟨by kernel_rfl, fun w' hS' => ?_⟩) hHeld ?_
            · have hcell := D2.out w' hS'
              go_simp
            simp only [Act.put, List.setIfInBounds_toArray, List.set_cons_zero, List.set_cons_succ]
            refine wpAnyH_take (i := 13) (oi := ({ dst := some 98, op := Go.Op.move (Go.Operand.tmp 8), type := 26, pos := "law.go:102", after := #[{ on := 10, ground := Go.Ground.guard }], guard := some (10, true) } : Oper)) (v := .pointer (some ⟨g, 0, none⟩)) rfl (by kernel_rfl) (by kernel_rfl) (by kernel_rfl) (fun _ _ _ h => h) (Or.inl ⟨by kernel_rfl, fun w' _ => ?_⟩) hHeld ?_
            · go_simp
            simp only [Act.put, List.setIfInBounds_toArray, List.set_cons_zero, List.set_cons_succ]
            refine wpAnyH_ready (rs := [14]) (by kernel_rfl) (by simp) ?_
            refine AllReadyH.cons (o := ({ dst := some 99, op := Go.Op.call { callee := Go.Callee.value (Go.Operand.func 14), args := #[Go.Operand.tmp 98], argTypes := #[26] }, type := 32, pos := "law.go:102", after := #[{ on := 13, ground := Go.Ground.data }, { on := 10, ground := Go.Ground.chain }, { on := 10, ground := Go.Ground.guard }], guard := some (10, true) } : Oper)) rfl (fun K hK => ?_) AllReadyH.nil
            rw [if_pos (by kernel_rfl)]
            go_simp
            go_at_call 14
            refine (HRep.out _ hHeld).mono ?_
            rintro e' wc ⟨rfl, hbc⟩
            refine hK.out _ _ (Below.trans hHeld (Below.mono hbc (Below.size hHeld))) (fun hHeld' => ?_)
            clear hK K hbc
            try clear hHeld
            try simp only [Act.put, List.setIfInBounds_toArray, List.set_cons_zero, List.set_cons_succ]
            refine wpAnyH_take (i := 15) (oi := ({ dst := some 100, op := Go.Op.field 32 (Go.Operand.tmp 99) 2, type := 3, pos := "law.go:102", after := #[{ on := 14, ground := Go.Ground.data }, { on := 10, ground := Go.Ground.guard }], guard := some (10, true) } : Oper)) (v := .int .i64 ck) rfl (by kernel_rfl) (by kernel_rfl) (by kernel_rfl) (fun _ _ _ h => h) (Or.inl ⟨by kernel_rfl, fun w' _ => ?_⟩) hHeld' ?_
            · (have h := HFd2.out w'; go_simp)
            simp only [Act.put, List.setIfInBounds_toArray, List.set_cons_zero, List.set_cons_succ]
            refine wpAnyH_take (i := 16) (oi := ({ dst := some 101, op := Go.Op.binOp Go.BinOp.eql 3 (Go.Operand.tmp 97) (Go.Operand.tmp 100) 3, type := 4, pos := "law.go:102", after := #[{ on := 12, ground := Go.Ground.data }, { on := 15, ground := Go.Ground.data }, { on := 10, ground := Go.Ground.guard }], guard := some (10, true) } : Oper)) (v := .bool true) rfl (by kernel_rfl) (by kernel_rfl) (by kernel_rfl) (fun _ _ _ h => h) (Or.inl ⟨by kernel_rfl, fun w' _ => ?_⟩) hHeld' ?_
            · (go_simp; try simp)
            simp only [Act.put, List.setIfInBounds_toArray, List.set_cons_zero, List.set_cons_succ]
            refine wpAnyH_take (i := 17) (oi := ({ dst := some 102, op := Go.Op.pick (Go.Operand.tmp 95) (Go.Operand.tmp 101) (Go.Operand.const (Go.Value.bool false)), type := 4, pos := "law.go:102", after := #[{ on := 10, ground := Go.Ground.data }, { on := 16, ground := Go.Ground.data }], guard := none } : Oper)) (v := .bool true) rfl (by kernel_rfl) (by kernel_rfl) (by kernel_rfl) (fun _ _ _ h => h) (Or.inl ⟨by rfl, fun w' _ => ?_⟩) hHeld' ?_
            · go_simp
            simp only [Act.put, List.setIfInBounds_toArray, List.set_cons_zero, List.set_cons_succ]
            refine wpAnyH_take (i := 18) (oi := ({ dst := some 103, op := Go.Op.move (Go.Operand.tmp 102), type := 4, pos := "law.go:102", after := #[{ on := 17, ground := Go.Ground.data }, { on := 14, ground := Go.Ground.chain }], guard := none } : Oper)) (v := .bool true) rfl (by kernel_rfl) (by kernel_rfl) (by kernel_rfl) (fun _ _ _ h => h) (Or.inl ⟨by rfl, fun w' _ => ?_⟩) hHeld' ?_
            · go_simp
            simp only [Act.put, List.setIfInBounds_toArray, List.set_cons_zero, List.set_cons_succ]
            refine wpAnyH_take (i := 19) (oi := ({ dst := some 104, op := Go.Op.fieldAddr 32 (Go.Operand.tmp 21) 0, type := 0, pos := "law.go:102", after := #[{ on := 18, ground := Go.Ground.guard }], guard := some (18, true) } : Oper)) (v := .pointer (some ⟨gx, 0, none⟩)) rfl (by kernel_rfl) (by kernel_rfl) (by kernel_rfl) (fun _ _ _ h => h) (Or.inl ⟨by kernel_rfl, fun w' _ => ?_⟩) hHeld' ?_
            · go_simp
            simp only [Act.put, List.setIfInBounds_toArray, List.set_cons_zero, List.set_cons_succ]
            refine wpAnyH_take (i := 20) (oi := ({ dst := some 105, op := Go.Op.load 3 (Go.Operand.tmp 104), type := 3, pos := "law.go:102", after := #[{ on := 19, ground := Go.Ground.data }, { on := 18, ground := Go.Ground.guard }], guard := some (18, true) } : Oper)) (v := .int .i64 cs) rfl (by kernel_rfl) (by kernel_rfl) (by kernel_rfl) (fun _ _ _ h => h) (Or.inl ⟨by kernel_rfl, fun w' hS' => ?_⟩) hHeld' ?_
            · have hcell := D0.out w' hS'
              go_simp
            simp only [Act.put, List.setIfInBounds_toArray, List.set_cons_zero, List.set_cons_succ]
            refine wpAnyH_take (i := 21) (oi := ({ dst := some 106, op := Go.Op.move (Go.Operand.tmp 8), type := 26, pos := "law.go:102", after := #[{ on := 18, ground := Go.Ground.guard }], guard := some (18, true) } : Oper)) (v := .pointer (some ⟨g, 0, none⟩)) rfl (by kernel_rfl) (by kernel_rfl) (by kernel_rfl) (fun _ _ _ h => h) (Or.inl ⟨by kernel_rfl, fun w' _ => ?_⟩) hHeld' ?_
            · go_simp
            simp only [Act.put, List.setIfInBounds_toArray, List.set_cons_zero, List.set_cons_succ]
            refine wpAnyH_ready (rs := [22]) (by kernel_rfl) (by simp) ?_
            refine AllReadyH.cons (o := ({ dst := some 107, op := Go.Op.call { callee := Go.Callee.value (Go.Operand.func 14), args := #[Go.Operand.tmp 106], argTypes := #[26] }, type := 32, pos := "law.go:102", after := #[{ on := 21, ground := Go.Ground.data }, { on := 18, ground := Go.Ground.chain }, { on := 18, ground := Go.Ground.guard }], guard := some (18, true) } : Oper)) rfl (fun K hK => ?_) AllReadyH.nil
            rw [if_pos (by kernel_rfl)]
            go_simp
            go_at_call 14
            refine (HRep.out _ hHeld').mono ?_
            rintro e' wc ⟨rfl, hbc⟩
            refine hK.out _ _ (Below.trans hHeld' (Below.mono hbc (Below.size hHeld'))) (fun hHeld'' => ?_)
            clear hK K hbc
            try clear hHeld'
            try simp only [Act.put, List.setIfInBounds_toArray, List.set_cons_zero, List.set_cons_succ]
            refine wpAnyH_take (i := 23) (oi := ({ dst := some 108, op := Go.Op.field 32 (Go.Operand.tmp 107) 0, type := 3, pos := "law.go:102", after := #[{ on := 22, ground := Go.Ground.data }, { on := 18, ground := Go.Ground.guard }], guard := some (18, true) } : Oper)) (v := .int .i64 cs) rfl (by kernel_rfl) (by kernel_rfl) (by kernel_rfl) (fun _ _ _ h => h) (Or.inl ⟨by kernel_rfl, fun w' _ => ?_⟩) hHeld'' ?_
            · (have h := HFd0.out w'; go_simp)
            simp only [Act.put, List.setIfInBounds_toArray, List.set_cons_zero, List.set_cons_succ]
            refine wpAnyH_take (i := 24) (oi := ({ dst := some 109, op := Go.Op.binOp Go.BinOp.eql 3 (Go.Operand.tmp 105) (Go.Operand.tmp 108) 3, type := 4, pos := "law.go:102", after := #[{ on := 20, ground := Go.Ground.data }, { on := 23, ground := Go.Ground.data }, { on := 18, ground := Go.Ground.guard }], guard := some (18, true) } : Oper)) (v := .bool true) rfl (by kernel_rfl) (by kernel_rfl) (by kernel_rfl) (fun _ _ _ h => h) (Or.inl ⟨by kernel_rfl, fun w' _ => ?_⟩) hHeld'' ?_
            · (go_simp; try simp)
            simp only [Act.put, List.setIfInBounds_toArray, List.set_cons_zero, List.set_cons_succ]
            refine wpAnyH_take (i := 25) (oi := ({ dst := some 110, op := Go.Op.pick (Go.Operand.tmp 103) (Go.Operand.tmp 109) (Go.Operand.const (Go.Value.bool false)), type := 4, pos := "law.go:102", after := #[{ on := 18, ground := Go.Ground.data }, { on := 24, ground := Go.Ground.data }], guard := none } : Oper)) (v := .bool true) rfl (by kernel_rfl) (by kernel_rfl) (by kernel_rfl) (fun _ _ _ h => h) (Or.inl ⟨by rfl, fun w' _ => ?_⟩) hHeld'' ?_
            · go_simp
            simp only [Act.put, List.setIfInBounds_toArray, List.set_cons_zero, List.set_cons_succ]
            refine wpAnyH_take (i := 26) (oi := ({ dst := some 6, op := Go.Op.assign (Go.Operand.tmp 110), type := 4, pos := "law.go:102", after := #[{ on := 25, ground := Go.Ground.data }, { on := 22, ground := Go.Ground.chain }, { on := 0, ground := Go.Ground.phase }, { on := 1, ground := Go.Ground.phase }, { on := 2, ground := Go.Ground.phase }, { on := 3, ground := Go.Ground.phase }, { on := 4, ground := Go.Ground.phase }, { on := 5, ground := Go.Ground.phase }, { on := 6, ground := Go.Ground.phase }, { on := 7, ground := Go.Ground.phase }, { on := 8, ground := Go.Ground.phase }, { on := 9, ground := Go.Ground.phase }, { on := 10, ground := Go.Ground.phase }, { on := 11, ground := Go.Ground.phase }, { on := 12, ground := Go.Ground.phase }, { on := 13, ground := Go.Ground.phase }, { on := 14, ground := Go.Ground.phase }, { on := 15, ground := Go.Ground.phase }, { on := 16, ground := Go.Ground.phase }, { on := 17, ground := Go.Ground.phase }, { on := 18, ground := Go.Ground.phase }, { on := 19, ground := Go.Ground.phase }, { on := 20, ground := Go.Ground.phase }, { on := 21, ground := Go.Ground.phase }, { on := 22, ground := Go.Ground.phase }, { on := 23, ground := Go.Ground.phase }, { on := 24, ground := Go.Ground.phase }, { on := 25, ground := Go.Ground.phase }], guard := none } : Oper)) (v := .bool true) rfl (by kernel_rfl) (by kernel_rfl) (by kernel_rfl) (fun _ _ _ h => h) (Or.inl ⟨by rfl, fun w' _ => ?_⟩) hHeld'' ?_
            · go_simp
            simp only [Act.put, List.setIfInBounds_toArray, List.set_cons_zero, List.set_cons_succ]
            refine wpAnyH_done (by kernel_rfl) ?_ _
            have HBe := Lib.hid (HB9.out.trans (hHeld''.mono HB9.out.size))
            clear hHeld''
            go_wp2_with fail
            go_ret
            exact ⟨rfl, HBe.out⟩
          · have ha : ff.asks = false := by simpa using ha
            have hAt : Calls _ _ _ _ _ := at_no HL.out.fold ha
            go_wp2_with fail
            refine hAt.mono ?_
            rintro e W6 ⟨rfl, rfl⟩
            have HL6 := HL
            clear hAt HL
            have hR := resolve_e os (m : Nat) v oc B cB (by have := HOL.out; omega) (by omega) (by rw [HLL.out]; omega) HOi.out wq HL6.out.row (fun h0 => by
              obtain ⟨_, h2, h3⟩ := HL6.out.bne h0
              have e := HBq.out (by rw [← HLL.out]; exact h0)
              subst e
              exact OutsAt.of_cells h2 h3 h0)
            rw [runR_eq, HF0.out, HFF.out, HNN.out, HLL.out, ha] at hR
            have HR := Lib.hid hR
            clear hR ha HOi HOL HLL HOk HG3 HBq HF0 HFF HNN
            go_wp2_with fail
            refine HR.out.mono ?_
            rintro e w8 ⟨rfl, hb8⟩
            have hcs : ff.came.cells = #[.int .i64 ff.came.s, .int .i64 ff.came.c, .int .i64 ff.came.k, .slice none 0 0] := rfl
            have HL8 := Lib.hid (HL6.out.to hb8)
            have HRep0 : Hid (∀ W : World, LsAt w g A c v os bB oc ff W → Calls Try.prog 14 #[.pointer (some ⟨g, 0, none⟩)] W fun e w' => e = .returned (.agg #[.int .i64 ff.came.s, .int .i64 ff.came.c, .int .i64 ff.came.k, .slice none 0 0]) ∧ Below W.heap.size W w') := Lib.hid (fun W hW => reply_e hW.fold)
            dsimp only
            rw [hcs]
            generalize ff.came.s = cs at HRep0 ⊢
            generalize ff.came.c = cc at HRep0 ⊢
            generalize ff.came.k = ck at HRep0 ⊢
            clear hcs hb8 HR HL6
            have hb9 := (Below.refl _ w8).alloc (Nat.le_refl _) (.cells #[.int .i64 cs, .int .i64 cc, .int .i64 ck, .slice none 0 0] 32)
            have HL9 := Lib.hid (HL8.out.to hb9)
            have HX9 := Lib.hid (heap_alloc_last w8 (.cells #[.int .i64 cs, .int .i64 cc, .int .i64 ck, .slice none 0 0] 32))
            clear hb9 HL8
            obtain ⟨q, hq⟩ : ∃ q, decide (nn = k) = q := ⟨_, rfl⟩
            have HQ : Hid (((nn : Int) == (k : Int)) = q) := Lib.hid (by rw [← hq, Bool.eq_iff_iff, beq_iff_eq, decide_eq_true_eq]; omega)
            rw [hq]
            clear hq
            simp only [Bool.not_false, Bool.true_and]
            go_upto_region 25 with fail
            generalize w8.alloc (.cells #[.int .i64 cs, .int .i64 cc, .int .i64 ck, .slice none 0 0] 32) = W9 at HL9 HX9 ⊢
            generalize w8.heap.size = gx at HX9 ⊢
            have HB9 := Lib.hid HL9.out.below
            have D2 : Hid (∀ W : World, Below W9.heap.size W9 W → W.cell? ⟨gx, 2, none⟩ = some (.int .i64 ck)) := Lib.hid (fun W hW => (hW.cell (p := ⟨gx, 2, none⟩) (heap_lt HX9.out)).trans ((cell_of_row _ gx 2 _ _ _ HX9.out).trans rfl))
            have D0 : Hid (∀ W : World, Below W9.heap.size W9 W → W.cell? ⟨gx, 0, none⟩ = some (.int .i64 cs)) := Lib.hid (fun W hW => (hW.cell (p := ⟨gx, 0, none⟩) (heap_lt HX9.out)).trans ((cell_of_row _ gx 0 _ _ _ HX9.out).trans rfl))
            have HRep : Hid (∀ W : World, Below W9.heap.size W9 W → Calls Try.prog 14 #[.pointer (some ⟨g, 0, none⟩)] W fun e w' => e = .returned (.agg #[.int .i64 cs, .int .i64 cc, .int .i64 ck, .slice none 0 0]) ∧ Below W.heap.size W w') := Lib.hid (fun W hW => HRep0.out W (HL9.out.to hW))
            clear HRep0 HL9 HX9
            have HFd2 : Hid (∀ W : World, (Instr.field 32 (.agg #[.int .i64 cs, .int .i64 cc, .int .i64 ck, .slice none 0 0]) 2).run Try.prog W = .ok (.int .i64 ck) W) := Lib.hid (fieldO2 cs cc ck)
            have HFd0 : Hid (∀ W : World, (Instr.field 32 (.agg #[.int .i64 cs, .int .i64 cc, .int .i64 ck, .slice none 0 0]) 0).run Try.prog W = .ok (.int .i64 cs) W) := Lib.hid (fieldO0 cs cc ck)
            refine wp_region_held_drew (S := (fun W : World => Below W9.heap.size W9 W)) (by kernel_rfl) (Below.refl _ W9).drew (fun hHeld => ?_)
            refine wpAnyH_take (i := 0) (oi := ({ dst := some 85, op := Go.Op.move (Go.Operand.tmp 22), type := 4, pos := "law.go:102", after := #[], guard := none } : Oper)) (v := .bool q) rfl (by kernel_rfl) (by kernel_rfl) (by kernel_rfl) (fun _ _ _ h => h) (Or.inl ⟨by rfl, fun w' _ => ?_⟩) hHeld ?_
            · go_simp
            simp only [Act.put, List.setIfInBounds_toArray, List.set_cons_zero, List.set_cons_succ]
            refine wpAnyH_take (i := 1) (oi := ({ dst := some 86, op := Go.Op.move (Go.Operand.tmp 20), type := 4, pos := "law.go:102", after := #[], guard := none } : Oper)) (v := .bool false) rfl (by kernel_rfl) (by kernel_rfl) (by kernel_rfl) (fun _ _ _ h => h) (Or.inl ⟨by rfl, fun w' _ => ?_⟩) hHeld ?_
            · go_simp
            simp only [Act.put, List.setIfInBounds_toArray, List.set_cons_zero, List.set_cons_succ]
            refine wpAnyH_take (i := 2) (oi := ({ dst := some 87, op := Go.Op.unOp Go.UnOp.not 4 (Go.Operand.tmp 86), type := 4, pos := "law.go:102", after := #[{ on := 1, ground := Go.Ground.data }], guard := none } : Oper)) (v := .bool true) rfl (by kernel_rfl) (by kernel_rfl) (by kernel_rfl) (fun _ _ _ h => h) (Or.inl ⟨by rfl, fun w' _ => ?_⟩) hHeld ?_
            · go_simp
            simp only [Act.put, List.setIfInBounds_toArray, List.set_cons_zero, List.set_cons_succ]
            refine wpAnyH_take (i := 3) (oi := ({ dst := some 88, op := Go.Op.move (Go.Operand.tmp 87), type := 4, pos := "law.go:102", after := #[{ on := 2, ground := Go.Ground.data }], guard := none } : Oper)) (v := .bool true) rfl (by kernel_rfl) (by kernel_rfl) (by kernel_rfl) (fun _ _ _ h => h) (Or.inl ⟨by rfl, fun w' _ => ?_⟩) hHeld ?_
            · go_simp
            simp only [Act.put, List.setIfInBounds_toArray, List.set_cons_zero, List.set_cons_succ]
            refine wpAnyH_take (i := 4) (oi := ({ dst := some 89, op := Go.Op.move (Go.Operand.tmp 9), type := 3, pos := "law.go:102", after := #[{ on := 3, ground := Go.Ground.guard }], guard := some (3, true) } : Oper)) (v := .int .i64 (nn : Nat)) rfl (by kernel_rfl) (by kernel_rfl) (by kernel_rfl) (fun _ _ _ h => h) (Or.inl ⟨by kernel_rfl, fun w' _ => ?_⟩) hHeld ?_
            · go_simp
            simp only [Act.put, List.setIfInBounds_toArray, List.set_cons_zero, List.set_cons_succ]
            refine wpAnyH_take (i := 5) (oi := ({ dst := some 90, op := Go.Op.move (Go.Operand.tmp 10), type := 28, pos := "law.go:102", after := #[{ on := 3, ground := Go.Ground.guard }], guard := some (3, true) } : Oper)) (v := .slice B k cB) rfl (by kernel_rfl) (by kernel_rfl) (by kernel_rfl) (fun _ _ _ h => h) (Or.inl ⟨by kernel_rfl, fun w' _ => ?_⟩) hHeld ?_
            · go_simp
            simp only [Act.put, List.setIfInBounds_toArray, List.set_cons_zero, List.set_cons_succ]
            refine wpAnyH_take (i := 6) (oi := ({ dst := some 91, op := Go.Op.call { callee := Go.Callee.builtin Go.Builtin.len, args := #[Go.Operand.tmp 90], argTypes := #[28] }, type := 3, pos := "law.go:102", after := #[{ on := 5, ground := Go.Ground.data }, { on := 3, ground := Go.Ground.guard }], guard := some (3, true) } : Oper)) (v := .int .i64 (k : Nat)) rfl (by kernel_rfl) (by kernel_rfl) (by kernel_rfl) (fun _ _ _ h => h) (Or.inl ⟨by kernel_rfl, fun w' _ => ?_⟩) hHeld ?_
            · go_simp
            simp only [Act.put, List.setIfInBounds_toArray, List.set_cons_zero, List.set_cons_succ]
            refine wpAnyH_take (i := 7) (oi := ({ dst := some 92, op := Go.Op.binOp Go.BinOp.eql 3 (Go.Operand.tmp 89) (Go.Operand.tmp 91) 3, type := 4, pos := "law.go:102", after := #[{ on := 4, ground := Go.Ground.data }, { on := 6, ground := Go.Ground.data }, { on := 3, ground := Go.Ground.guard }], guard := some (3, true) } : Oper)) (v := .bool q) rfl (by kernel_rfl) (by kernel_rfl) (by kernel_rfl) (fun _ _ _ h => h) (Or.inl ⟨by kernel_rfl, fun w' _ => ?_⟩) hHeld ?_
            · (have h := HQ.out; go_simp)
            simp only [Act.put, List.setIfInBounds_toArray, List.set_cons_zero, List.set_cons_succ]
            refine wpAnyH_take (i := 8) (oi := ({ dst := some 93, op := Go.Op.pick (Go.Operand.tmp 88) (Go.Operand.tmp 92) (Go.Operand.const (Go.Value.bool false)), type := 4, pos := "law.go:102", after := #[{ on := 3, ground := Go.Ground.data }, { on := 7, ground := Go.Ground.data }], guard := none } : Oper)) (v := .bool q) rfl (by kernel_rfl) (by kernel_rfl) (by kernel_rfl) (fun _ _ _ h => h) (Or.inl ⟨by rfl, fun w' _ => ?_⟩) hHeld ?_
            · go_simp
            simp only [Act.put, List.setIfInBounds_toArray, List.set_cons_zero, List.set_cons_succ]
            refine wpAnyH_take (i := 9) (oi := ({ dst := some 94, op := Go.Op.binOp Go.BinOp.eql 4 (Go.Operand.tmp 85) (Go.Operand.tmp 93) 4, type := 4, pos := "law.go:102", after := #[{ on := 0, ground := Go.Ground.data }, { on := 8, ground := Go.Ground.data }], guard := none } : Oper)) (v := .bool true) rfl (by kernel_rfl) (by kernel_rfl) (by kernel_rfl) (fun _ _ _ h => h) (Or.inl ⟨by rfl, fun w' _ => ?_⟩) hHeld ?_
            · (go_simp; try simp)
            simp only [Act.put, List.setIfInBounds_toArray, List.set_cons_zero, List.set_cons_succ]
            refine wpAnyH_take (i := 10) (oi := ({ dst := some 95, op := Go.Op.move (Go.Operand.tmp 94), type := 4, pos := "law.go:102", after := #[{ on := 9, ground := Go.Ground.data }, { on := 3, ground := Go.Ground.chain }], guard := none } : Oper)) (v := .bool true) rfl (by kernel_rfl) (by kernel_rfl) (by kernel_rfl) (fun _ _ _ h => h) (Or.inl ⟨by rfl, fun w' _ => ?_⟩) hHeld ?_
            · go_simp
            simp only [Act.put, List.setIfInBounds_toArray, List.set_cons_zero, List.set_cons_succ]
            refine wpAnyH_take (i := 11) (oi := ({ dst := some 96, op := Go.Op.fieldAddr 32 (Go.Operand.tmp 21) 2, type := 0, pos := "law.go:102", after := #[{ on := 10, ground := Go.Ground.guard }], guard := some (10, true) } : Oper)) (v := .pointer (some ⟨gx, 2, none⟩)) rfl (by kernel_rfl) (by kernel_rfl) (by kernel_rfl) (fun _ _ _ h => h) (Or.inl ⟨by kernel_rfl, fun w' _ => ?_⟩) hHeld ?_
            · go_simp
            simp only [Act.put, List.setIfInBounds_toArray, List.set_cons_zero, List.set_cons_succ]
            refine wpAnyH_take (i := 12) (oi := ({ dst := some 97, op := Go.Op.load 3 (Go.Operand.tmp 96), type := 3, pos := "law.go:102", after := #[{ on := 11, ground := Go.Ground.data }, { on := 10, ground := Go.Ground.guard }], guard := some (10, true) } : Oper)) (v := .int .i64 ck) rfl (by kernel_rfl) (by kernel_rfl) (by kernel_rfl) (fun _ _ _ h => h) (Or.inl ⟨by kernel_rfl, fun w' hS' => ?_⟩) hHeld ?_
            · have hcell := D2.out w' hS'
              go_simp
            simp only [Act.put, List.setIfInBounds_toArray, List.set_cons_zero, List.set_cons_succ]
            refine wpAnyH_take (i := 13) (oi := ({ dst := some 98, op := Go.Op.move (Go.Operand.tmp 8), type := 26, pos := "law.go:102", after := #[{ on := 10, ground := Go.Ground.guard }], guard := some (10, true) } : Oper)) (v := .pointer (some ⟨g, 0, none⟩)) rfl (by kernel_rfl) (by kernel_rfl) (by kernel_rfl) (fun _ _ _ h => h) (Or.inl ⟨by kernel_rfl, fun w' _ => ?_⟩) hHeld ?_
            · go_simp
            simp only [Act.put, List.setIfInBounds_toArray, List.set_cons_zero, List.set_cons_succ]
            refine wpAnyH_ready (rs := [14]) (by kernel_rfl) (by simp) ?_
            refine AllReadyH.cons (o := ({ dst := some 99, op := Go.Op.call { callee := Go.Callee.value (Go.Operand.func 14), args := #[Go.Operand.tmp 98], argTypes := #[26] }, type := 32, pos := "law.go:102", after := #[{ on := 13, ground := Go.Ground.data }, { on := 10, ground := Go.Ground.chain }, { on := 10, ground := Go.Ground.guard }], guard := some (10, true) } : Oper)) rfl (fun K hK => ?_) AllReadyH.nil
            rw [if_pos (by kernel_rfl)]
            go_simp
            go_at_call 14
            refine (HRep.out _ hHeld).mono ?_
            rintro e' wc ⟨rfl, hbc⟩
            refine hK.out _ _ (Below.trans hHeld (Below.mono hbc (Below.size hHeld))) (fun hHeld' => ?_)
            clear hK K hbc
            try clear hHeld
            try simp only [Act.put, List.setIfInBounds_toArray, List.set_cons_zero, List.set_cons_succ]
            refine wpAnyH_take (i := 15) (oi := ({ dst := some 100, op := Go.Op.field 32 (Go.Operand.tmp 99) 2, type := 3, pos := "law.go:102", after := #[{ on := 14, ground := Go.Ground.data }, { on := 10, ground := Go.Ground.guard }], guard := some (10, true) } : Oper)) (v := .int .i64 ck) rfl (by kernel_rfl) (by kernel_rfl) (by kernel_rfl) (fun _ _ _ h => h) (Or.inl ⟨by kernel_rfl, fun w' _ => ?_⟩) hHeld' ?_
            · (have h := HFd2.out w'; go_simp)
            simp only [Act.put, List.setIfInBounds_toArray, List.set_cons_zero, List.set_cons_succ]
            refine wpAnyH_take (i := 16) (oi := ({ dst := some 101, op := Go.Op.binOp Go.BinOp.eql 3 (Go.Operand.tmp 97) (Go.Operand.tmp 100) 3, type := 4, pos := "law.go:102", after := #[{ on := 12, ground := Go.Ground.data }, { on := 15, ground := Go.Ground.data }, { on := 10, ground := Go.Ground.guard }], guard := some (10, true) } : Oper)) (v := .bool true) rfl (by kernel_rfl) (by kernel_rfl) (by kernel_rfl) (fun _ _ _ h => h) (Or.inl ⟨by kernel_rfl, fun w' _ => ?_⟩) hHeld' ?_
            · (go_simp; try simp)
            simp only [Act.put, List.setIfInBounds_toArray, List.set_cons_zero, List.set_cons_succ]
            refine wpAnyH_take (i := 17) (oi := ({ dst := some 102, op := Go.Op.pick (Go.Operand.tmp 95) (Go.Operand.tmp 101) (Go.Operand.const (Go.Value.bool false)), type := 4, pos := "law.go:102", after := #[{ on := 10, ground := Go.Ground.data }, { on := 16, ground := Go.Ground.data }], guard := none } : Oper)) (v := .bool true) rfl (by kernel_rfl) (by kernel_rfl) (by kernel_rfl) (fun _ _ _ h => h) (Or.inl ⟨by rfl, fun w' _ => ?_⟩) hHeld' ?_
            · go_simp
            simp only [Act.put, List.setIfInBounds_toArray, List.set_cons_zero, List.set_cons_succ]
            refine wpAnyH_take (i := 18) (oi := ({ dst := some 103, op := Go.Op.move (Go.Operand.tmp 102), type := 4, pos := "law.go:102", after := #[{ on := 17, ground := Go.Ground.data }, { on := 14, ground := Go.Ground.chain }], guard := none } : Oper)) (v := .bool true) rfl (by kernel_rfl) (by kernel_rfl) (by kernel_rfl) (fun _ _ _ h => h) (Or.inl ⟨by rfl, fun w' _ => ?_⟩) hHeld' ?_
            · go_simp
            simp only [Act.put, List.setIfInBounds_toArray, List.set_cons_zero, List.set_cons_succ]
            refine wpAnyH_take (i := 19) (oi := ({ dst := some 104, op := Go.Op.fieldAddr 32 (Go.Operand.tmp 21) 0, type := 0, pos := "law.go:102", after := #[{ on := 18, ground := Go.Ground.guard }], guard := some (18, true) } : Oper)) (v := .pointer (some ⟨gx, 0, none⟩)) rfl (by kernel_rfl) (by kernel_rfl) (by kernel_rfl) (fun _ _ _ h => h) (Or.inl ⟨by kernel_rfl, fun w' _ => ?_⟩) hHeld' ?_
            · go_simp
            simp only [Act.put, List.setIfInBounds_toArray, List.set_cons_zero, List.set_cons_succ]
            refine wpAnyH_take (i := 20) (oi := ({ dst := some 105, op := Go.Op.load 3 (Go.Operand.tmp 104), type := 3, pos := "law.go:102", after := #[{ on := 19, ground := Go.Ground.data }, { on := 18, ground := Go.Ground.guard }], guard := some (18, true) } : Oper)) (v := .int .i64 cs) rfl (by kernel_rfl) (by kernel_rfl) (by kernel_rfl) (fun _ _ _ h => h) (Or.inl ⟨by kernel_rfl, fun w' hS' => ?_⟩) hHeld' ?_
            · have hcell := D0.out w' hS'
              go_simp
            simp only [Act.put, List.setIfInBounds_toArray, List.set_cons_zero, List.set_cons_succ]
            refine wpAnyH_take (i := 21) (oi := ({ dst := some 106, op := Go.Op.move (Go.Operand.tmp 8), type := 26, pos := "law.go:102", after := #[{ on := 18, ground := Go.Ground.guard }], guard := some (18, true) } : Oper)) (v := .pointer (some ⟨g, 0, none⟩)) rfl (by kernel_rfl) (by kernel_rfl) (by kernel_rfl) (fun _ _ _ h => h) (Or.inl ⟨by kernel_rfl, fun w' _ => ?_⟩) hHeld' ?_
            · go_simp
            simp only [Act.put, List.setIfInBounds_toArray, List.set_cons_zero, List.set_cons_succ]
            refine wpAnyH_ready (rs := [22]) (by kernel_rfl) (by simp) ?_
            refine AllReadyH.cons (o := ({ dst := some 107, op := Go.Op.call { callee := Go.Callee.value (Go.Operand.func 14), args := #[Go.Operand.tmp 106], argTypes := #[26] }, type := 32, pos := "law.go:102", after := #[{ on := 21, ground := Go.Ground.data }, { on := 18, ground := Go.Ground.chain }, { on := 18, ground := Go.Ground.guard }], guard := some (18, true) } : Oper)) rfl (fun K hK => ?_) AllReadyH.nil
            rw [if_pos (by kernel_rfl)]
            go_simp
            go_at_call 14
            refine (HRep.out _ hHeld').mono ?_
            rintro e' wc ⟨rfl, hbc⟩
            refine hK.out _ _ (Below.trans hHeld' (Below.mono hbc (Below.size hHeld'))) (fun hHeld'' => ?_)
            clear hK K hbc
            try clear hHeld'
            try simp only [Act.put, List.setIfInBounds_toArray, List.set_cons_zero, List.set_cons_succ]
            refine wpAnyH_take (i := 23) (oi := ({ dst := some 108, op := Go.Op.field 32 (Go.Operand.tmp 107) 0, type := 3, pos := "law.go:102", after := #[{ on := 22, ground := Go.Ground.data }, { on := 18, ground := Go.Ground.guard }], guard := some (18, true) } : Oper)) (v := .int .i64 cs) rfl (by kernel_rfl) (by kernel_rfl) (by kernel_rfl) (fun _ _ _ h => h) (Or.inl ⟨by kernel_rfl, fun w' _ => ?_⟩) hHeld'' ?_
            · (have h := HFd0.out w'; go_simp)
            simp only [Act.put, List.setIfInBounds_toArray, List.set_cons_zero, List.set_cons_succ]
            refine wpAnyH_take (i := 24) (oi := ({ dst := some 109, op := Go.Op.binOp Go.BinOp.eql 3 (Go.Operand.tmp 105) (Go.Operand.tmp 108) 3, type := 4, pos := "law.go:102", after := #[{ on := 20, ground := Go.Ground.data }, { on := 23, ground := Go.Ground.data }, { on := 18, ground := Go.Ground.guard }], guard := some (18, true) } : Oper)) (v := .bool true) rfl (by kernel_rfl) (by kernel_rfl) (by kernel_rfl) (fun _ _ _ h => h) (Or.inl ⟨by kernel_rfl, fun w' _ => ?_⟩) hHeld'' ?_
            · (go_simp; try simp)
            simp only [Act.put, List.setIfInBounds_toArray, List.set_cons_zero, List.set_cons_succ]
            refine wpAnyH_take (i := 25) (oi := ({ dst := some 110, op := Go.Op.pick (Go.Operand.tmp 103) (Go.Operand.tmp 109) (Go.Operand.const (Go.Value.bool false)), type := 4, pos := "law.go:102", after := #[{ on := 18, ground := Go.Ground.data }, { on := 24, ground := Go.Ground.data }], guard := none } : Oper)) (v := .bool true) rfl (by kernel_rfl) (by kernel_rfl) (by kernel_rfl) (fun _ _ _ h => h) (Or.inl ⟨by rfl, fun w' _ => ?_⟩) hHeld'' ?_
            · go_simp
            simp only [Act.put, List.setIfInBounds_toArray, List.set_cons_zero, List.set_cons_succ]
            refine wpAnyH_take (i := 26) (oi := ({ dst := some 6, op := Go.Op.assign (Go.Operand.tmp 110), type := 4, pos := "law.go:102", after := #[{ on := 25, ground := Go.Ground.data }, { on := 22, ground := Go.Ground.chain }, { on := 0, ground := Go.Ground.phase }, { on := 1, ground := Go.Ground.phase }, { on := 2, ground := Go.Ground.phase }, { on := 3, ground := Go.Ground.phase }, { on := 4, ground := Go.Ground.phase }, { on := 5, ground := Go.Ground.phase }, { on := 6, ground := Go.Ground.phase }, { on := 7, ground := Go.Ground.phase }, { on := 8, ground := Go.Ground.phase }, { on := 9, ground := Go.Ground.phase }, { on := 10, ground := Go.Ground.phase }, { on := 11, ground := Go.Ground.phase }, { on := 12, ground := Go.Ground.phase }, { on := 13, ground := Go.Ground.phase }, { on := 14, ground := Go.Ground.phase }, { on := 15, ground := Go.Ground.phase }, { on := 16, ground := Go.Ground.phase }, { on := 17, ground := Go.Ground.phase }, { on := 18, ground := Go.Ground.phase }, { on := 19, ground := Go.Ground.phase }, { on := 20, ground := Go.Ground.phase }, { on := 21, ground := Go.Ground.phase }, { on := 22, ground := Go.Ground.phase }, { on := 23, ground := Go.Ground.phase }, { on := 24, ground := Go.Ground.phase }, { on := 25, ground := Go.Ground.phase }], guard := none } : Oper)) (v := .bool true) rfl (by kernel_rfl) (by kernel_rfl) (by kernel_rfl) (fun _ _ _ h => h) (Or.inl ⟨by rfl, fun w' _ => ?_⟩) hHeld'' ?_
            · go_simp
            simp only [Act.put, List.setIfInBounds_toArray, List.set_cons_zero, List.set_cons_succ]
            refine wpAnyH_done (by kernel_rfl) ?_ _
            have HBe := Lib.hid (HB9.out.trans (hHeld''.mono HB9.out.size))
            clear hHeld''
            go_wp2_with fail
            go_ret
            exact ⟨rfl, HBe.out⟩
end Go.Proofs.Ytocmanmogfedoaa
