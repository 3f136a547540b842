/-
  The walks of label.Split, Join and Count in any world: what they answer for every text; what was in memory before is as it was (where package name is in the translation they are imported). Conditions: the lengths that each states, and the library's variable MaxLen holds some number.
-/
import Derived.Test.YtclfmokdjmnjcaaDoorMath
import Derived.Test.YtclfmokdjmnjcaaDoorShelf
import Derived.WalkKit
import Derived.Below
import Derived.Laws.IdiomStrings
import Derived.Lib.SlBytesRow
import Derived.Lib.Hide
import Derived.Lib.Join
namespace Go.Proofs.YtclfmokdjmnjcaaDoor
open Go.RowKit
/-- the library's variable MaxLen holds some number -/
def Env (w : World) : Prop := 0 < w.heap.size ∧ ∃ m : Int, w.cell? ⟨0, 0, none⟩ = some (.int .i64 m)
theorem Env.below {w w' : World} (h : Env w) (hb : Below w.heap.size w w') : Env w' :=
  ⟨Nat.lt_of_lt_of_le h.1 hb.size, h.2.imp fun _ hm => (hb.cell (p := ⟨0, 0, none⟩) h.1).trans hm⟩
/-- block b holds these texts -/
def Strs (w : World) (b : Nat) (xs : List ByteArray) : Prop := b < w.heap.size ∧ ∀ j, j < xs.length → w.cell? ⟨b, 0 + j, none⟩ = some (.string (xs.getD j ByteArray.empty))
theorem Strs.below {w w' : World} {b : Nat} {xs : List ByteArray} (h : Strs w b xs) (hb : Below w.heap.size w w') : Strs w' b xs :=
  ⟨Nat.lt_of_lt_of_le h.1 hb.size, fun j hj => (hb.cell (p := ⟨b, 0 + j, none⟩) h.1).trans (h.2 j hj)⟩
theorem pieces_pos (s : ByteArray) : 0 < (pieces s).length := by rw [pieces_count]; omega
set_option maxHeartbeats 400000 in
theorem split_e (s : ByteArray) (w : World) (he : Env w) (hs : s.size < 4294967281) :
    Calls Tryd.prog 10 #[.string s] w fun e w' => ∃ b, e = .returned (.slice (some ⟨b, 0, none⟩) (pieces s).length (pieces s).length) ∧ Below w.heap.size w w' ∧ Env w' ∧ Strs w' b (pieces s) ∧ w.heap.size ≤ b := by
  obtain ⟨m, hm⟩ := he.2
  have hsp : Calls Tryd.prog 21 #[.string s, .string ⟨#[46]⟩] w fun e w' => e = .returned (.slice (some ⟨w.heap.size, 0, none⟩) (pieces s).length (pieces s).length) ∧ w' = w.alloc (.cells ((pieces s).map Value.string).toArray 9) := by
    rw [pieces_count]; exact Tryd.strings_Split s ⟨#[46]⟩ m w hs hm (by decide)
  have hpost : ∀ W, W = w.alloc (.cells ((pieces s).map Value.string).toArray 9) → Below w.heap.size w W ∧ Env W ∧ Strs W w.heap.size (pieces s) := fun W hW => by
    subst hW
    have hb : Below w.heap.size w (w.alloc (.cells ((pieces s).map Value.string).toArray 9)) := (Below.refl _ w).alloc (Nat.le_refl _) _
    refine ⟨hb, he.below hb, by rw [World.size_alloc]; omega, fun j hj => ?_⟩
    rw [Nat.zero_add]
    have := World.cell?_alloc_mark w ((pieces s).map Value.string).toArray 9 (0, 0) j
    refine this.trans ?_
    simp [List.getElem?_eq_getElem hj, List.getD]
  have HP := Lib.hid hpost
  clear hpost
  go_enter Tryd.func10, Tryd.ntmps10
  go_wp2_with (go_at_call 21; refine hsp.mono ?_; rintro e w' ⟨rfl, hw⟩; have HP' := Lib.hid (HP.out _ hw); clear hw)
  go_ret
  exact ⟨_, rfl, HP'.out.1, HP'.out.2.1, HP'.out.2.2, Nat.le_refl _⟩
theorem pieces_le (s : ByteArray) : (pieces s).length ≤ s.size + 2 := by
  rw [pieces_count, Lib.size_eq]; have h : Lib.countB s ⟨#[46]⟩ ≤ s.data.toList.length + 1 := Lib.count_le _ _; omega
theorem join_jn (xs : List (List UInt8)) : Lib.join xs [46] = jn xs := by
  induction xs with
  | nil => rfl
  | cons x t ih =>
    cases t with
    | nil => rw [Lib.join_one]; rfl
    | cons y t =>
      rw [jn_cons x (by simp), ← ih]
      unfold Lib.join
      simp [List.intercalate]
set_option maxHeartbeats 400000 in
theorem join_e (b c : Nat) (xs : List ByteArray) (w : World) (he : Env w) (h : Strs w b xs) (hc : xs.length ≤ c) (h0 : xs.length ≤ 140737488355328) (hl : (jn (xs.map (·.data.toList))).length ≤ 140737488355328) :
    Calls Tryd.prog 11 #[.slice (some ⟨b, 0, none⟩) xs.length c] w fun e w' => e = .returned (.string ⟨(jn (xs.map (·.data.toList))).toArray⟩) ∧ Below w.heap.size w w' ∧ Env w' := by
  have hj := Tryd.strings_Join b 0 c xs ⟨#[46]⟩ w (fun j x hx => by
    have hj : j < xs.length := by
      rcases Nat.lt_or_ge j xs.length with h' | h'
      · exact h'
      · rw [List.getElem?_eq_none h'] at hx; cases hx
    rw [h.2 j hj]
    simp [List.getD, hx]) h.1 h0 hc (by rw [show (ByteArray.mk #[46]).data.toList = [46] from rfl, join_jn]; exact hl)
  rw [show (ByteArray.mk #[46]).data.toList = [46] from rfl, join_jn] at hj
  go_enter Tryd.func11, Tryd.ntmps11
  go_wp2_with fail
  refine hj.mono ?_; rintro e w' ⟨rfl, hb⟩
  have he' := he.below hb
  go_wp2
  go_ret
  exact ⟨rfl, hb, he'⟩
theorem jn_part : ∀ (xs : List (List UInt8)) (x : List UInt8), x ∈ xs → x.length ≤ (jn xs).length
  | [], x, h => by cases h
  | [y], x, h => by
    rw [List.mem_singleton] at h; subst h; exact Nat.le_refl _
  | y :: z :: t, x, h => by
    rw [jn_cons y (by simp), List.length_append, List.length_cons]
    rcases List.mem_cons.1 h with rfl | h
    · omega
    · have := jn_part (z :: t) x h; omega
theorem piece_size (s : ByteArray) (k : Nat) (h : k < (pieces s).length) : ((pieces s).getD k ByteArray.empty).size ≤ s.size := by
  have hmem : (pieces s).getD k ByteArray.empty ∈ pieces s := by
    rw [List.getD, List.getElem?_eq_getElem h]; exact List.getElem_mem h
  have h1 : ((pieces s).getD k ByteArray.empty).data.toList ∈ sp s.data.toList := by
    rw [← pieces_data]; exact List.mem_map_of_mem hmem
  have := jn_part _ _ h1
  rw [jn_sp, ← Lib.size_eq, ← Lib.size_eq] at this
  exact this
/-- how many labels a domain has -/
def cntB (s : ByteArray) : Nat := if s.toList == [46] then 0 else (pieces s).length
set_option maxHeartbeats 400000 in
theorem count_e (s : ByteArray) (w : World) (he : Env w) (hs : s.size < 4294967281) :
    Calls Tryd.prog 14 #[.string s] w fun e w' => e = .returned (.int .i64 (cntB s)) ∧ Below w.heap.size w w' ∧ Env w' := by
  cases hd : (s.toList == [46])
  · have HD := Lib.hid (show cntB s = (pieces s).length by unfold cntB; rw [hd]; rfl)
    go_enter Tryd.func14, Tryd.ntmps14
    go_wp2_with fail
    refine (split_e s w he hs).mono ?_; rintro e w1 ⟨b, rfl, hb1, he1, hs1, hg1⟩
    go_wp2
    go_ret
    exact ⟨by rw [HD.out]; rfl, hb1, he1⟩
  · have HD := Lib.hid (show cntB s = 0 by unfold cntB; rw [hd]; rfl)
    go_enter Tryd.func14, Tryd.ntmps14
    go_wp2
    go_ret
    exact ⟨by rw [HD.out]; rfl, Below.refl _ _, he⟩
/-- block b holds these texts, and they may be written -/
structure StrsF (w : World) (b : Nat) (xs : List ByteArray) : Prop where
  lt : b < w.heap.size
  cells : ∀ j, j < xs.length → w.cell? ⟨b, j, none⟩ = some (.string (xs.getD j ByteArray.empty))
  free : ∀ j, j < xs.length → w.frozen? ⟨b, j, none⟩ = false
theorem StrsF.below {w w' : World} {b : Nat} {xs : List ByteArray} (h : StrsF w b xs) (hb : Below w.heap.size w w') : StrsF w' b xs :=
  ⟨Nat.lt_of_lt_of_le h.lt hb.size, fun j hj => (hb.cell (p := ⟨b, j, none⟩) h.lt).trans (h.cells j hj), fun j hj => (hb.frozen (p := ⟨b, j, none⟩) h.lt).trans (h.free j hj)⟩
theorem StrsF.strs {w : World} {b : Nat} {xs : List ByteArray} (h : StrsF w b xs) : Strs w b xs := ⟨h.lt, fun j hj => by rw [Nat.zero_add]; exact h.cells j hj⟩
theorem StrsF.set {w : World} {b : Nat} {xs : List ByteArray} (h : StrsF w b xs) (k : Nat) (y : ByteArray) (hk : k < xs.length) : StrsF (w.setCell ⟨b, k, none⟩ (.string y)) b (xs.set k y) :=
  ⟨by rw [World.size_setCell]; exact h.lt, fun j hj => by
    rw [List.length_set] at hj
    by_cases e : j = k
    · subst e
      rw [World.cell?_setCell_same (h := h.cells j hj)]
      simp [List.getD, hk]
    · rw [World.cell?_setCell_other (h := by intro e'; injection e' with _ e' _; omega), h.cells j hj]
      simp [List.getD, Ne.symm e], fun j hj => by
    rw [List.length_set] at hj
    rw [World.frozen?_setCell]; exact h.free j hj⟩
set_option maxHeartbeats 400000 in
theorem split_f (s : ByteArray) (w : World) (he : Env w) (hs : s.size < 4294967281) :
    Calls Tryd.prog 10 #[.string s] w fun e w' => e = .returned (.slice (some ⟨w.heap.size, 0, none⟩) (pieces s).length (pieces s).length) ∧ Below w.heap.size w w' ∧ StrsF w' w.heap.size (pieces s) := by
  obtain ⟨m, hm⟩ := he.2
  have hsp : Calls Tryd.prog 21 #[.string s, .string ⟨#[46]⟩] w fun e w' => e = .returned (.slice (some ⟨w.heap.size, 0, none⟩) (pieces s).length (pieces s).length) ∧ w' = w.alloc (.cells ((pieces s).map Value.string).toArray 9) := by
    rw [pieces_count]; exact Tryd.strings_Split s ⟨#[46]⟩ m w hs hm (by decide)
  have hpost : ∀ W, W = w.alloc (.cells ((pieces s).map Value.string).toArray 9) → Below w.heap.size w W ∧ StrsF W w.heap.size (pieces s) := fun W hW => by
    subst hW
    have hb : Below w.heap.size w (w.alloc (.cells ((pieces s).map Value.string).toArray 9)) := (Below.refl _ w).alloc (Nat.le_refl _) _
    refine ⟨hb, by rw [World.size_alloc]; omega, fun j hj => ?_, fun j hj => ?_⟩
    · have := World.cell?_alloc_mark w ((pieces s).map Value.string).toArray 9 (0, 0) j
      refine this.trans ?_
      simp [List.getElem?_eq_getElem hj, List.getD]
    · show (w.alloc _).frozen? _ = _
      rw [World.frozen?_alloc_mark]
      simp
  have HP := Lib.hid hpost
  clear hpost
  go_enter Tryd.func10, Tryd.ntmps10
  go_wp2_with (go_at_call 21; refine hsp.mono ?_; rintro e w' ⟨rfl, hw⟩; have HP' := Lib.hid (HP.out _ hw); clear hw)
  go_ret
  exact ⟨rfl, HP'.out.1, HP'.out.2⟩
def bvs (xs : List UInt8) : List Value := xs.map fun c => .int .u8 c.toNat
end Go.Proofs.YtclfmokdjmnjcaaDoor
