/-
  The walk of msg.All: what it answers for every message. Conditions: its texts are no longer than the model lets a text be, its lists' records lie in memory, and the library's variable MaxLen holds some number.
-/
import Derived.Test.YtakfokdjdljjjaaDoorMsgAll
namespace Go.Proofs.YtakfokdjdljjjaaDoor
open Go.RowKit

/-- a message as it lies in memory -/
structure MV where
  id : Int
  rp : Bool
  tr : Bool
  rc : Bool
  code : Int
  qn : ByteArray
  qt : Int
  A : Option Addr
  ca : Nat
  an : List RV
  U : Option Addr
  cu : Nat
  au : List RV
def MV.cells (m : MV) : Array Value := #[.int .i64 m.id, .bool m.rp, .bool m.tr, .bool m.rc, .int .i64 m.code, .string m.qn, .int .i64 m.qt, .slice m.A m.an.length m.ca, .slice m.U m.au.length m.cu]
def mvOk (m : MV) : Bool := btw 0 m.id 65535 && (btw 0 m.code 15 && (gosB m.qn && (btw 1 m.qt 65535 && (allB m.an && allB m.au))))
structure MV.Fits (m : MV) : Prop where
  qn : m.qn.size ≤ maxLen
  an : ∀ r ∈ m.an, r.Fits
  au : ∀ r ∈ m.au, r.Fits
  la : m.an.length ≤ 9223372036854775807
  lu : m.au.length ≤ 9223372036854775807
structure MV.Lies (m : MV) (w : World) : Prop where
  an : RecsAt w m.A m.an
  au : RecsAt w m.U m.au
theorem MV.Lies.below {m : MV} {w w' : World} (h : m.Lies w) (hb : Below w.heap.size w w') : m.Lies w' := ⟨h.an.below hb, h.au.below hb⟩

set_option maxRecDepth 100000 in
set_option maxHeartbeats 4000000 in
theorem all_mv (m : MV) (h : m.Fits) (w : World) (he : Env w) (hl : m.Lies w) :
    Calls Tryd.prog 15 #[.agg m.cells] w fun e w' => e = .returned (.bool (mvOk m)) ∧ Below w.heap.size w w' ∧ Env w' := by
  obtain ⟨id, rp, tr, rc, code, qn, qt, A, ca, an, U, cu, au⟩ := m
  obtain ⟨h1, h2, h3, h4, h5⟩ := h
  obtain ⟨l1, l2⟩ := hl
  simp only at h1 h2 h3 h4 h5 l1 l2
  unfold mvOk MV.cells
  simp only
  have HE := Lib.hid he
  have HW := Lib.hid (Below.refl w.heap.size w)
  have B0 := Lib.hid (fun (W : World) => between_any 0 id 65535 W)
  have B1 := Lib.hid (fun (W : World) => between_any 0 code 15 W)
  have B2 := Lib.hid (fun (W : World) => between_any 1 qt 65535 W)
  have G := Lib.hid (fun (W : World) (hE : Env W) => goesOut_any qn W hE h1)
  have R1 := Lib.hid (fun (W : World) (hE : Env W) (hR : RecsAt W A an) => allRight_rv A ca an h2 h4 W hE hR)
  have R2 := Lib.hid (fun (W : World) (hE : Env W) (hR : RecsAt W U au) => allRight_rv U cu au h3 h5 W hE hR)
  have L1 := Lib.hid l1
  have L2 := Lib.hid l2
  clear he h1 h2 h3 l1 l2
  revert B0 B1 B2 G R1 R2
  generalize btw 0 id 65535 = b0
  generalize btw 0 code 15 = b1
  generalize gosB qn = b2
  generalize btw 1 qt 65535 = b3
  generalize allB an = b4
  generalize allB au = b5
  intro B0 B1 B2 G R1 R2
  cases b0 with
  | false =>
    go_enter Tryd.func15, Tryd.ntmps15
    go_wp2_with fail
    refine (B0.out _).mono ?_; rintro e w' ⟨rfl, rfl⟩
    go_wp2_with fail
    go_ret
    have hb := (Below.refl _ w).alloc (Nat.le_refl _) (.cells #[.int .i64 id, .bool rp, .bool tr, .bool rc, .int .i64 code, .string qn, .int .i64 qt, .slice A an.length ca, .slice U au.length cu] 31)
    exact ⟨rfl, hb, HE.out.below hb⟩
  | true =>
  cases b1 with
  | false =>
    go_enter Tryd.func15, Tryd.ntmps15
    go_wp2_with fail
    refine (B0.out _).mono ?_; rintro e w' ⟨rfl, rfl⟩
    go_wp2_with fail
    refine (B1.out _).mono ?_; rintro e w' ⟨rfl, rfl⟩
    go_wp2_with fail
    go_ret
    have hb := (Below.refl _ w).alloc (Nat.le_refl _) (.cells #[.int .i64 id, .bool rp, .bool tr, .bool rc, .int .i64 code, .string qn, .int .i64 qt, .slice A an.length ca, .slice U au.length cu] 31)
    exact ⟨rfl, hb, HE.out.below hb⟩
  | true =>
    have hA := (Below.refl _ w).alloc (Nat.le_refl _) (.cells #[.int .i64 id, .bool rp, .bool tr, .bool rc, .int .i64 code, .string qn, .int .i64 qt, .slice A an.length ca, .slice U au.length cu] 31)
    have HA := Lib.hid hA
    clear hA
    go_enter Tryd.func15, Tryd.ntmps15
    go_wp2_with fail
    refine (B0.out _).mono ?_; rintro e w' ⟨rfl, rfl⟩
    go_wp2_with fail
    refine (B1.out _).mono ?_; rintro e w' ⟨rfl, rfl⟩
    go_wp2_with fail
    refine (G.out _ (HE.out.below HA.out)).mono ?_; rintro e w1 ⟨rfl, hb1, he1⟩
    have hg1 := heap_keep hb1
    have d6 := cell_of_row w1 _ 6 _ _ _ hg1
    have d7 := cell_of_row w1 _ 7 _ _ _ hg1
    have HG1 := Lib.hid hg1
    have HB1 := Lib.hid (HA.out.trans (hb1.mono (by simp)))
    have hl1 := heap_lt hg1
    clear hg1 hb1 he1 HA
    simp only [List.getElem?_toArray, List.getElem?_cons_succ, List.getElem?_cons_zero] at d6 d7
    cases b2 with
    | false =>
      go_wp2_with fail
      go_ret
      exact ⟨rfl, HB1.out, HE.out.below HB1.out⟩
    | true =>
      cases b3 with
      | false =>
        go_wp2_with fail
        refine (B2.out _).mono ?_; rintro e w' ⟨rfl, rfl⟩
        go_wp2_with fail
        go_ret
        exact ⟨rfl, HB1.out, HE.out.below HB1.out⟩
      | true =>
        go_wp2_with fail
        refine (B2.out _).mono ?_; rintro e w' ⟨rfl, rfl⟩
        go_wp2_with fail
        refine (R1.out _ (HE.out.below HB1.out) (L1.out.below HB1.out)).mono ?_; rintro e w2 ⟨rfl, hb2, he2⟩
        have hg2 := (hb2.block w.heap.size hl1).trans HG1.out
        have e8 := cell_of_row w2 _ 8 _ _ _ hg2
        have HB2 := Lib.hid (HB1.out.trans (hb2.mono HB1.out.size))
        clear hg2 hb2 he2 d6 d7
        simp only [List.getElem?_toArray, List.getElem?_cons_succ, List.getElem?_cons_zero] at e8
        cases b4 with
        | false =>
          go_wp2_with fail
          go_ret
          exact ⟨rfl, HB2.out, HE.out.below HB2.out⟩
        | true =>
          go_wp2_with fail
          refine (R2.out _ (HE.out.below HB2.out) (L2.out.below HB2.out)).mono ?_; rintro e w3 ⟨rfl, hb3, he3⟩
          have HB3 := Lib.hid (HB2.out.trans (hb3.mono HB2.out.size))
          clear hb3 he3
          go_wp2_with fail
          go_ret
          exact ⟨ret_bool (by simp), HB3.out, HE.out.below HB3.out⟩
end Go.Proofs.YtakfokdjdljjjaaDoor
