/-
  The pieces that strings.FieldsFunc gives, where what parts them are blanks and tabs, are a text's words by bytes. No program, no condition.
  The walks of hosts.parts and Words: what they answer; the next line of a text; the words behind a first one. Conditions: each states its own.
-/
import Derived.Test.YtpnlgojbmjfhhaaGreatDoorHostsMath
import Derived.Lib.FieldsP
import Derived.Lib.SpaceUEq
import Derived.Laws.RangeAny
import Derived.Test.YtpnlgojbmjfhhaaGreatDoorAddrParse
import Derived.WalkMore
import Derived.Great.BuildSlice
import Derived.Deep.LoopGhost
namespace Go.Proofs.YtpnlgojbmjfhhaaGreatDoor
open Go.Lib

def pSp (r : Nat) : Bool := decide (r = 32) || decide (r = 9)
theorem pSp_high {r : Nat} (h : 128 ≤ r) : pSp r = false := by
  unfold pSp
  rw [decide_eq_false (by omega), decide_eq_false (by omega)]; rfl
theorem pSp_low (c : UInt8) : pSp c.toNat = spc c := by
  have h : ∀ k : Fin 256, pSp (UInt8.ofNat k.val).toNat = spc (UInt8.ofNat k.val) := by decide +kernel
  simpa using h ⟨c.toNat, c.toNat_lt⟩
theorem spc_high {c : UInt8} (h : 128 ≤ c.toNat) : spc c = false := by rw [← pSp_low]; exact pSp_high h
theorem byteF_at (s : ByteArray) (i : Nat) (h : i < s.size) : s.data.toList.getD i 0 = s[i]'h := by
  rw [List.getD_eq_getElem?_getD, Array.getElem?_toList, Array.getElem?_eq_getElem h]; rfl
theorem dropF_at (s : ByteArray) (i : Nat) (h : i < s.size) : s.data.toList.drop i = s[i]'h :: s.data.toList.drop (i + 1) := by
  rw [List.drop_eq_getElem_cons (by rw [← size_eq]; exact h)]; rfl
theorem step_bytes (s : ByteArray) (pos : Nat) (hp : pos < s.size) :
    (pSp (Utf8.decode s pos).1 = true → (Utf8.decode s pos).2 = 1 ∧ spc (s[pos]'hp) = true) ∧ (pSp (Utf8.decode s pos).1 = false → ∀ c ∈ (s.data.toList.drop pos).take (Utf8.decode s pos).2, spc c = false) := by
  by_cases h1 : (s[pos]'hp).toNat < 128
  · rw [decode_ascii s pos hp h1]
    refine ⟨fun h => ⟨rfl, by rw [← pSp_low]; exact h⟩, fun h c hc => ?_⟩
    rw [dropF_at s pos hp] at hc
    simp only [List.take_succ_cons, List.take_zero, List.mem_singleton] at hc
    rw [hc, ← pSp_low]; exact h
  · have hh := (decode_high s pos hp (by omega)).1
    refine ⟨fun h => (by rw [pSp_high hh] at h; cases h), fun _ c hc => ?_⟩
    have hl : s.data.toList.length = s.size := (size_eq s).symm
    have hcs := decodeN_conts (s.data.toList.length - pos) (s.data.toList.getD pos 0).toNat (s.data.toList.getD (pos + 1) 0).toNat (s.data.toList.getD (pos + 2) 0).toNat (s.data.toList.getD (pos + 3) 0).toNat
    rw [← decode_N] at hcs
    obtain ⟨c2, c3, c4, c5⟩ := hcs
    obtain ⟨j, hj, hg⟩ := List.getElem_of_mem hc
    rw [List.length_take, List.length_drop] at hj
    have hcj : c = s.data.toList.getD (pos + j) 0 := by
      rw [← hg, List.getElem_take, List.getElem_drop, List.getD_eq_getElem?_getD, List.getElem?_eq_getElem (by omega)]; rfl
    rw [hcj]
    apply spc_high
    have hj4 : j = 0 ∨ j = 1 ∨ j = 2 ∨ j = 3 := by omega
    rcases hj4 with rfl | rfl | rfl | rfl
    · rw [Nat.add_zero, byteF_at s pos hp]; omega
    · have := (c2 (by omega)).1; omega
    · have := (c3 (by omega)).1; omega
    · have := (c4 (by omega)).1; omega
theorem fields_eq (s : ByteArray) : ∀ (f pos : Nat) (st : Option Nat) (acc : List (Nat × Nat)), s.size ≤ pos + f → pos ≤ s.size → (∀ a, st = some a → a < pos) →
    acc.map (fun p => pieceU s.data.toList p.1 p.2) ++ fw (openPiece s.data.toList st pos) (s.data.toList.drop pos) = (closeSpans s (spansFromP pSp s f pos st acc)).map (fun p => pieceU s.data.toList p.1 p.2)
  | 0, pos, st, acc, h, hp, hst => by
    obtain rfl : pos = s.size := by omega
    have hd : s.data.toList.drop s.size = [] := List.drop_eq_nil_of_le (by rw [← size_eq]; exact Nat.le_refl _)
    rw [hd, fw]
    cases st with
    | none => simp [spansFromP, closeSpans, openPiece]
    | some a =>
      have := pieceU_ne s.data.toList a s.size (hst a rfl) (by rw [← size_eq]; exact Nat.le_refl _)
      simp [spansFromP, closeSpans, openPiece, this]
  | f + 1, pos, st, acc, h, hp, hst => by
    by_cases hlt : pos < s.size
    · have hw := width_pos s pos
      have hwn : pos + (Utf8.decode s pos).2 ≤ s.size := by
        have := decodeN_le_n' (s.size - pos) (s.get! pos).toNat (s.get! (pos + 1)).toNat (s.get! (pos + 2)).toNat (s.get! (pos + 3)).toNat (by omega)
        rw [← decode_at] at this
        omega
      obtain ⟨hy, hn⟩ := step_bytes s pos hlt
      simp only [spansFromP, if_pos hlt]
      cases hsp : pSp (Utf8.decode s pos).1 with
      | true =>
        obtain ⟨hw1, hc⟩ := hy hsp
        rw [dropF_at s pos hlt, fw_space hc, hw1]
        simp only [if_true]
        cases st with
        | none =>
          have ih := fields_eq s f (pos + 1) none acc (by omega) (by omega) (fun a h => by cases h)
          simpa [openPiece] using ih
        | some a =>
          have hpn := pieceU_ne s.data.toList a pos (hst a rfl) (by rw [← size_eq]; omega)
          have ih := fields_eq s f (pos + 1) none (acc ++ [(a, pos)]) (by omega) (by omega) (fun a h => by cases h)
          simpa [openPiece, hpn] using ih
      | false =>
        have hx := hn hsp
        have hsplit : s.data.toList.drop pos = (s.data.toList.drop pos).take (Utf8.decode s pos).2 ++ s.data.toList.drop (pos + (Utf8.decode s pos).2) := by
          conv => lhs; rw [← List.take_append_drop (Utf8.decode s pos).2 (s.data.toList.drop pos), List.drop_drop]
        rw [hsplit, fw_plain _ _ _ hx]
        simp only [Bool.false_eq_true, if_false]
        cases st with
        | none =>
          have ih := fields_eq s f (pos + (Utf8.decode s pos).2) (some pos) acc (by omega) hwn (fun a h => by cases h; omega)
          have e : ([] : List UInt8) ++ (s.data.toList.drop pos).take (Utf8.decode s pos).2 = pieceU s.data.toList pos (pos + (Utf8.decode s pos).2) := by
            unfold pieceU
            rw [List.nil_append, Nat.add_sub_cancel_left]
          simp only [openPiece] at ih ⊢
          rw [e]
          exact ih
        | some a =>
          have ih := fields_eq s f (pos + (Utf8.decode s pos).2) (some a) acc (by omega) hwn (fun b h => by cases h; have := hst a rfl; omega)
          simp only [openPiece] at ih ⊢
          rw [pieceU_grow _ _ _ _ (Nat.le_of_lt (hst a rfl))]
          exact ih
    · obtain rfl : pos = s.size := by omega
      have hd : s.data.toList.drop s.size = [] := List.drop_eq_nil_of_le (by rw [← size_eq]; exact Nat.le_refl _)
      rw [hd, fw, spansFromP_end _ s _ _ _ _ hlt]
      cases st with
      | none => simp [closeSpans, openPiece]
      | some a =>
        have := pieceU_ne s.data.toList a s.size (hst a rfl) (by rw [← size_eq]; exact Nat.le_refl _)
        simp [closeSpans, openPiece, this]
theorem goFields_fw (s : ByteArray) : (goFieldsP pSp s).map (·.data.toList) = fw [] s.data.toList := by
  have h := fields_eq s s.size 0 none [] (by omega) (Nat.zero_le _) (fun a h => by cases h)
  simp only [List.map_nil, List.nil_append, openPiece, List.drop_zero] at h
  unfold goFieldsP spansOfP
  rw [h, List.map_map]
  congr 1
  funext p
  simp [pieceU]
end Go.Proofs.YtpnlgojbmjfhhaaGreatDoor
namespace Go.Proofs.YtpnlgojbmjfhhaaGreatDoor
open Go.RowKit

/-- block g holds this address -/
def Row (w : World) (g : Nat) (cs : Array Value) : Prop := w.heap[g]? = some (.cells cs 48 (0, 0))
theorem Row.below {w w' : World} {g : Nat} {cs : Array Value} (h : Row w g cs) (hb : Below w.heap.size w w') : Row w' g cs := (hb.block g (heap_lt h)).trans h
theorem Row.alloc {w : World} {g : Nat} {cs : Array Value} (h : Row w g cs) (o : Obj) : Row (w.alloc o) g cs := h.below ((Below.refl _ w).alloc (Nat.le_refl _) o)
theorem Row.new (w : World) (cs : Array Value) : Row (w.alloc (.cells cs 48)) w.heap.size cs := heap_alloc_last w _
theorem run_eq_addr (W : World) {x y : List UInt8} (hx : x.length = 16) (hy : y.length = 16) : (Op.equalIn 10000 48 (.agg (bvs x).toArray) (.agg (bvs y).toArray)).run Tryz.prog W = .ok (x == y) W := eq_addr 9998 W hx hy
/-- a whole value is loaded cell by cell, under a guard that holds -/
theorem wpList_aggr_gh {P : Program} {ops : Array Oper} {rest : List Oper} {o : Oper} {a : Act} {Q : Exit → Act → World → Prop} {w : World} (ty : TypeId) (x : Operand) (hw : Region.wanted o (yielded ops a.tmps) = true) (ho : o.op = .load ty x) (p : Addr) (cs : Array Value)
    (hx : a.eval x = .pointer (some p)) (hc : ∀ j v, cs.toList[j]? = some v → w.cell? (p.add j) = some v) (n : Nat) (e : TypeId)
    (hu : P.underlying ty = some (.array n e)) (hi : (P.info? ty).map (·.size) = some cs.size)
    (h : wpList P ops Q rest (a.put o.dst (.agg cs)) w) : wpList P ops Q (o :: rest) a w := by
  unfold wpList
  rw [if_pos hw]
  left
  have hlv := run_load_agg (P := P) (w := w) ty p cs (.array n e) hc hu rfl hi
  unfold Oper.wp execOp
  simp only [ho, hx, Instr.loadAt, Instr.sureAddr, Sem.run_bind, Sem.run_pure, Result.andThen_ok, hlv]
  exact h
/-- a slice of one value of several cells -/
theorem wpList_slice1 {P : Program} {ops : Array Oper} {rest : List Oper} {o : Oper} {a : Act} {w : World} {Q : Exit → Act → World → Prop} (hg : o.guard = none) (t e : TypeId) (x : Operand) (ho : o.op = .buildSlice t 1 #[(0, x)]) (cs : Array Value) (hx : a.eval x = .agg cs)
    (n : Nat) (hu : P.underlying t = some (.slice e)) (hi : (P.info? e).map (fun i => (i.zero.map (fun z => z.cells.size), i.size)) = some (some n, n)) (hs : cs.size = n) (hn0 : 0 < n) (hn : n ≤ 1000)
    (h : wpList P ops Q rest (a.put o.dst (.slice (some ⟨w.heap.size, 0, none⟩) 1 1)) (w.alloc (.cells cs e))) : wpList P ops Q (o :: rest) a w := by
  cases hq : P.info? e with
  | none => simp [hq] at hi
  | some ie =>
    simp only [hq, Option.map_some, Option.some.injEq, Prod.mk.injEq] at hi
    obtain ⟨h1, h2⟩ := hi
    cases hz : ie.zero with
    | none => simp [hz] at h1
    | some z =>
      refine wpList_buildSlice hg t e 1 _ ho cs ie z hu hq hz (by rw [h2]; omega) (by rw [h2]; omega) ?_ h
      rw [h2, Nat.one_mul]
      have hl : (#[(0, x)].map fun (p : Nat × Operand) => (p.1, a.eval p.2)).toList = [(0, .agg cs)] := by
        rw [Array.toList_map]
        show [(0, a.eval x)] = _
        rw [hx]
      refine (congrArg _ hl).trans ?_
      have := Great.fill_whole hn0 [Value.agg cs] ((Array.range n).map (z.cells[· % z.cells.size]!)) (by simp [Value.cells, hs]) (by simp)
      simpa [Value.cells] using this
/-- block g begins with these texts, has room for c, and may be written -/
structure Rw (w : World) (g : Nat) (ys : List ByteArray) (c : Nat) : Prop where
  lt : g < w.heap.size
  le : ys.length ≤ c
  cells : ∀ j, j < ys.length → w.cell? ⟨g, j, none⟩ = some (.string (ys.getD j ByteArray.empty))
  there : ∀ j, j < c → (w.cell? ⟨g, j, none⟩).isSome = true ∧ w.frozen? ⟨g, j, none⟩ = false
theorem Rw.of_strs {w : World} {g : Nat} {ys : List ByteArray} (h : StrsF w g ys) : Rw w g ys ys.length :=
  ⟨h.lt, Nat.le_refl _, h.cells, fun j hj => ⟨by rw [h.cells j hj]; rfl, h.free j hj⟩⟩
theorem Rw.strs {w : World} {g : Nat} {ys : List ByteArray} {c : Nat} (h : Rw w g ys c) : StrsF w g ys := ⟨h.lt, h.cells, fun j hj => (h.there j (Nat.lt_of_lt_of_le hj h.le)).2⟩
theorem Rw.below {w w' : World} {g : Nat} {ys : List ByteArray} {c : Nat} (h : Rw w g ys c) (hb : Below w.heap.size w w') : Rw w' g ys c :=
  ⟨Nat.lt_of_lt_of_le h.lt hb.size, h.le, fun j hj => (hb.cell (p := ⟨g, j, none⟩) h.lt).trans (h.cells j hj), fun j hj => by
    rw [hb.cell (p := ⟨g, j, none⟩) h.lt, hb.frozen (p := ⟨g, j, none⟩) h.lt]; exact h.there j hj⟩
theorem Rw.of_own {w : World} {base g n cap : Nat} {ys : List ByteArray} (h : w.ownsRow base 9 1 (.slice (some ⟨g, 0, none⟩) n cap) n (ys.map Value.string)) : Rw w g ys cap ∧ ys.length = n ∧ base ≤ g := by
  obtain ⟨h1, h2⟩ := h
  rw [List.length_map, Nat.mul_one] at h1
  rcases h2 with ⟨e, _⟩ | ⟨g', cap', cur, e, hb, hg, hc, hm, hs, ht⟩
  · cases e
  · injection e with e1 e2 e3
    injection e1 with e1
    injection e1 with e1 _ _
    subst e1
    subst e3
    rw [Nat.mul_one] at ht hs
    refine ⟨⟨(Array.getElem?_eq_some_iff.1 hg).1, by omega, fun j hj => ?_, fun j hj => ?_⟩, h1, hb⟩
    · rw [cell_of_row w g j cur 9 (0, 0) hg, ← Array.getElem?_toList]
      have : (cur.toList.take n)[j]? = some (.string (ys.getD j ByteArray.empty)) := by
        rw [ht, List.getElem?_map, List.getD_eq_getElem?_getD, List.getElem?_eq_getElem hj]; rfl
      rwa [List.getElem?_take_of_lt (by omega)] at this
    · refine ⟨?_, frozen_of_row w g j cur 9 hg⟩
      rw [cell_of_row w g j cur 9 (0, 0) hg, Array.getElem?_eq_getElem (by omega)]; rfl
theorem below_drewQ {B : Nat} {a w : World} (h : Below B a w) (q : Nat) : Below B a (w.drewN q) := ⟨h.os, h.tape, h.output, h.size, h.block⟩
theorem own_step {W W' : World} {B e size n : Nat} {v : Value} {xs : List Value} (h : W.ownsRow B e size v n xs) (hb : Below W.heap.size W W') : W'.ownsRow B e size v n xs :=
  h.kept (row := none) ⟨hb.os, hb.tape, hb.output, hb.size, fun k hk _ => hb.block k hk⟩ (by cases hq : v.ownBlock with | none => exact .inl rfl | some k => exact .inr (by simp))
theorem parts_e (r : Nat) (W : World) : Calls Tryz.prog 42 #[.int .i32 r] W fun e w' => e = .returned (.bool (pSp r)) ∧ ∃ q, w' = W.drewN q := by
  have hp : pSp r = (decide (r = 32) || decide (r = 9)) := rfl
  by_cases h1 : r = 32
  · subst h1
    go_enter Tryz.func42, Tryz.ntmps42
    go_wp2
    go_ret
    exact ⟨rfl, 0, rfl⟩
  · by_cases h2 : r = 9
    · subst h2
      go_enter Tryz.func42, Tryz.ntmps42
      go_wp2
      go_ret
      exact ⟨rfl, 0, rfl⟩
    · have z1 : ¬ (r : Int) = 32 := by omega
      have z2 : ¬ (r : Int) = 9 := by omega
      have hx : pSp r = false := by rw [hp, decide_eq_false h1, decide_eq_false h2]; rfl
      rw [hx]
      clear hp h1 h2 hx
      go_enter Tryz.func42, Tryz.ntmps42
      go_wp2
      all_goals go_ret
      all_goals exact ⟨by simp [z1, z2], 0, rfl⟩
theorem partsP_at (w : World) : PredAt Tryz.prog 42 #[] encR pSp w := fun W r _ => parts_e r W
/-- what Words answers -/
def WdPost (w : World) (s : List UInt8) (e : Ending) (w' : World) : Prop :=
  ∃ (b : Nat) (xs : List ByteArray), xs.map (·.data.toList) = wordsL s ∧ e = .returned (.slice (some ⟨b, 0, none⟩) xs.length xs.length) ∧ Strs w' b xs ∧ Below w.heap.size w w'
set_option maxRecDepth 100000 in
set_option maxHeartbeats 1000000 in
theorem words_e (s : ByteArray) (w : World) (he : AEnv w) (hs : s.size < 4294967281) : Calls Tryz.prog 23 #[.string s] w (WdPost w s.data.toList) := by
  obtain ⟨m, hm⟩ := he.env.2
  have hcut := Tryz.strings_Cut s ⟨#[35]⟩ m w hs hm
  have ht : (Go.Lib.cut s.data.toList [35]).1 = toldL s.data.toList := (toldL_cut _).symm
  rw [show (ByteArray.mk #[35]).data.toList = [35] from rfl, ht] at hcut
  obtain ⟨t, hte⟩ : ∃ t : ByteArray, t = ⟨(toldL s.data.toList).toArray⟩ := ⟨_, rfl⟩
  rw [← hte] at hcut
  have htd : t.data.toList = toldL s.data.toList := by rw [hte]
  have hts : t.size ≤ 4294967296 := by
    have := toldL_len s.data.toList
    rw [Lib.size_eq, htd]
    rw [Lib.size_eq] at hs
    omega
  have hff := fun W => Tryz.strings_FieldsFunc 42 #[] (enters_of Tryz.func42 (by kernel_rfl) rfl) pSp t W hts (partsP_at W)
  have hw : (Go.Lib.goFieldsP pSp t).map (·.data.toList) = wordsL s.data.toList := by rw [goFields_fw, htd]; rfl
  generalize Go.Lib.goFieldsP pSp t = xs at hff hw
  have HF := Lib.hid hff
  have HW := Lib.hid hw
  clear hff hw hte htd hts hm ht he
  go_enter Tryz.func23, Tryz.ntmps23
  go_wp2_with fail
  refine hcut.mono ?_
  rintro e w1 ⟨rfl, q, rfl⟩
  clear hcut
  go_wp2_with fail
  refine (HF.out _).mono ?_
  rintro e w2 ⟨A, rfl, hA, hown, hb⟩
  have HO := Lib.hid (Rw.of_own hown).1
  have HB := Lib.hid hb
  clear hown hb
  go_wp2
  go_ret
  exact ⟨A, xs, HW.out, rfl, HO.out.strs.strs, (below_drewQ (Below.refl _ w) q).trans HB.out⟩
/-- the next line -/
structure CutAt (t line after : ByteArray) (found : Bool) : Prop where
  lines : nl t.data.toList = line.data.toList :: (if found = true then nl after.data.toList else [])
  le : line.size ≤ t.size ∧ after.size ≤ t.size
  less : found = true → after.size < t.size
theorem cut_at10 (t : ByteArray) : CutAt t ⟨(Go.Lib.cut t.data.toList [10]).1.toArray⟩ ⟨(Go.Lib.cut t.data.toList [10]).2.1.toArray⟩ (Go.Lib.cut t.data.toList [10]).2.2 := by
  have hge := Go.Lib.index_ge t.data.toList [10]
  by_cases h : 0 ≤ Go.Lib.index t.data.toList [10]
  · have hs := nl_some h
    have hr := Go.Lib.index_room t.data.toList [10] h
    have e : Go.Lib.cut t.data.toList [10] = (t.data.toList.take (Go.Lib.index t.data.toList [10]).toNat, t.data.toList.drop ((Go.Lib.index t.data.toList [10]).toNat + 1), true) := by
      unfold Go.Lib.cut; rw [if_pos h]; rfl
    rw [e] at hs ⊢
    simp only [List.length_cons, List.length_nil] at hr
    refine ⟨hs, ⟨?_, ?_⟩, fun _ => ?_⟩
    · rw [Lib.size_eq, Lib.size_eq]; show (List.take _ _).length ≤ _; rw [List.length_take]; omega
    · rw [Lib.size_eq, Lib.size_eq]; show (List.drop _ _).length ≤ _; rw [List.length_drop]; omega
    · rw [Lib.size_eq, Lib.size_eq]; show (List.drop _ _).length < _; rw [List.length_drop]; omega
  · have hs := nl_none (l := t.data.toList) (by omega)
    have e : Go.Lib.cut t.data.toList [10] = (t.data.toList, [], false) := by
      unfold Go.Lib.cut; rw [if_neg h]
    rw [e]
    refine ⟨hs, ⟨?_, ?_⟩, fun h => by cases h⟩
    · rw [Lib.size_eq]; exact Nat.le_of_eq (Lib.size_eq t).symm
    · rw [Lib.size_eq]; exact Nat.zero_le _
theorem sl_one (b n : Nat) (hn : 1 ≤ n) (hn2 : n ≤ 1099511627776) (W : World) : (Instr.sliceAt 24 (.slice (some ⟨b, 0, none⟩) (n + 1) (n + 1)) (some (.int .i64 1)) none none).run Tryz.prog W = .ok (.slice (some ⟨b, 1, none⟩) n n) W := by
  have hE : Tryz.prog.elem 24 = 9 := by kernel_rfl
  have hZ : ∀ W : World, (sizeOf 9).run Tryz.prog W = .ok 1 W := fun W => by kernel_rfl
  have h0 : ¬ n = 0 := by omega
  have h1 : (1 : Int) ≤ (n : Int) + 1 := by omega
  rw [run_sliceAt_slice (P := Tryz.prog) (w := W) 24 _ (some (.int .i64 1)) none none (by rw [hE]; exact Tryz.underlying24)]
  go_simp
theorem set_next (ys : List ByteArray) (y : ByteArray) (n : Nat) (h : ys.length < n) : (ys ++ List.replicate (n - ys.length) ByteArray.empty).set ys.length y = (ys ++ [y]) ++ List.replicate (n - (ys ++ [y]).length) ByteArray.empty := by
  rw [List.set_append_right _ _ (Nat.le_refl _), Nat.sub_self, show n - ys.length = (n - (ys ++ [y]).length) + 1 by rw [List.length_append, List.length_singleton]; omega, List.replicate_succ, List.set_cons_zero, List.append_assoc]
  rfl
def more1 (m : Bool) : Nat := if m = true then 1 else 0
theorem dots6_any (s : ByteArray) (w : World) :
    Calls Tryz.prog 24 #[.string s] w fun e w' => e = .returned (.int .i64 (s.data.toList.count 46 : Nat)) ∧ w = w' := by
  have C := Tryz.strings_Count_one s 46 w
  have hc : Lib.countByte s.data.toList 46 = s.data.toList.count 46 := rfl
  rw [hc] at C
  have hle : s.data.toList.count 46 ≤ s.size := by rw [Lib.size_eq]; exact List.count_le_length
  revert C hle
  generalize s.data.toList.count 46 = c
  intro C hle
  go_enter Tryz.func24, Tryz.ntmps24
  go_wp2_with (go_at_call 43; refine C.mono ?_; rintro e w' ⟨rfl, rfl⟩)
  go_ret
  exact ⟨rfl, rfl⟩
/-- a name of one label of small letters goes out as it is -/
theorem ta_small {x : List UInt8} (h : x.all (fun c => decide ((97 ≤ c.toNat ∧ c.toNat ≤ 122) ∨ (48 ≤ c.toNat ∧ c.toNat ≤ 57))) = true) (h1 : 1 ≤ x.length) (h2 : x.length ≤ 63) (h3 : ¬ XN <+: x) : TA x 0 x := by
  have ha : ∀ c ∈ x, (97 ≤ c.toNat ∧ c.toNat ≤ 122) ∨ (48 ≤ c.toNat ∧ c.toNat ≤ 57) := fun c hc => by
    have := List.all_eq_true.1 h c hc
    simpa using this
  have hlow : low x = x := low_same (fun c hc => by have := ha c hc; omega)
  have h46 : (46 : UInt8) ∉ x := fun hm => by have := ha _ hm; have e : (46 : UInt8).toNat = 46 := rfl; omega
  have hne45 : ∀ c, c ∈ x → c ≠ 45 := fun c hc e => by subst e; have := ha _ hc; have e : (45 : UInt8).toNat = 45 := rfl; omega
  have hR : RightL x := ⟨h1, h2, fun c hc => by unfold stN; have := ha c hc; omega, fun e => hne45 45 (List.mem_of_mem_head? e) rfl, fun e => hne45 45 (List.mem_of_getLast? e) rfl⟩
  have hl : Lab x 0 x := by
    have := Lab.plain (x := x) (fun c hc => by have := ha c hc; omega) (by rw [hlow]; exact hR) (by rw [hlow]; exact h3)
    rwa [hlow] at this
  have hcut : cutP x = x := by
    unfold cutP
    rw [if_neg (fun e => h46 (List.mem_of_getLast? e))]
  have hb : Labs (sp (cutP x)) 0 [x] := by rw [hcut, sp_plain h46]; exact .next hl .nil
  exact TA.ok (by omega) [x] hb (by show x.length ≤ 253; omega)
end Go.Proofs.YtpnlgojbmjfhhaaGreatDoor
