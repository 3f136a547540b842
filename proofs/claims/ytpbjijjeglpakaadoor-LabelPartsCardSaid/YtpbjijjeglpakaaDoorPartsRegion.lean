/-
  The last statement of LabelParts, whose order Go leaves open: in whatever order its parts are reckoned it comes to true. Conditions: each states its own.
-/
import Derived.Test.YtpbjijjeglpakaaDoorPartsLib
import Derived.Test.YtpbjijjeglpakaaDoorRegion
namespace Go.Proofs.YtpbjijjeglpakaaDoor
open Go.RowKit

noncomputable def partsOps : Array Oper := (Tryd.f5.body.bind (opsOf 23)).getD #[]
def partsRows : List (Option Tmp × Op × Option (Nat × Bool) × List Nat) := [
  (some 46, .move (.tmp 3), none, []),
  (some 47, .call { callee := .builtin .len, args := #[.tmp 46], argTypes := #[27] }, none, [0]),
  (some 48, .move (.tmp 4), none, []),
  (some 49, .binOp .add 3 (.tmp 48) (.const (.int .i64 1)) 3, none, [2]),
  (some 50, .binOp .eql 3 (.tmp 47) (.tmp 49) 3, none, [1, 3]),
  (some 51, .move (.tmp 50), none, [4]),
  (some 52, .move (.tmp 3), some (5, true), [5]),
  (some 53, .call { callee := .value (.func 14), args := #[.tmp 52], argTypes := #[27] }, some (5, true), [6, 5, 5]),
  (some 54, .move (.tmp 0), some (5, true), [5]),
  (some 55, .binOp .eql 9 (.tmp 53) (.tmp 54) 9, some (5, true), [7, 8, 5]),
  (some 56, .pick (.tmp 51) (.tmp 55) (.const (.bool false)), none, [5, 9]),
  (some 57, .move (.tmp 56), none, [10, 7]),
  (some 58, .move (.tmp 0), some (11, true), [11]),
  (some 59, .call { callee := .value (.func 15), args := #[.tmp 58], argTypes := #[9] }, some (11, true), [12, 11, 11]),
  (some 60, .makeMap 31 none, some (11, true), [11]),
  (none, .insert 31 (.tmp 60) (.const (.bool true)) (.const (.int .i64 0)), some (11, true), [14, 11]),
  (some 61, .move (.tmp 4), some (11, true), [11]),
  (some 62, .binOp .add 3 (.tmp 61) (.const (.int .i64 1)) 3, some (11, true), [16, 11]),
  (none, .insert 31 (.tmp 60) (.const (.bool false)) (.tmp 62), some (11, true), [14, 17, 11]),
  (some 63, .move (.tmp 60), some (11, true), [14, 11, 15, 16, 17, 18]),
  (some 64, .move (.tmp 0), some (11, true), [11]),
  (some 65, .binOp .eql 9 (.tmp 64) (.const (.string ⟨#[46]⟩)) 9, some (11, true), [20, 11]),
  (some 66, .lookup 31 (.tmp 63) (.tmp 65) false, some (11, true), [19, 21, 11]),
  (some 67, .binOp .eql 3 (.tmp 59) (.tmp 66) 3, some (11, true), [13, 22, 11]),
  (some 68, .pick (.tmp 57) (.tmp 67) (.const (.bool false)), none, [11, 23]),
  (some 2, .assign (.tmp 68), none, [24, 13, 0, 1, 2, 3, 4, 5, 6, 7, 8, 9, 10, 11, 12, 13, 14, 15, 16, 17, 18, 19, 20, 21, 22, 23, 24])]
theorem partsRows_eq : (partsOps.toList.map fun o => (o.dst, o.op, o.guard, needsOf o)) = partsRows := by kernel_rfl
theorem partsDst5 : (partsOps[5]?).bind (·.dst) = some 51 := by kernel_rfl
theorem partsDst11 : (partsOps[11]?).bind (·.dst) = some 57 := by kernel_rfl
theorem partsRow {i : Nat} {o : Oper} (h : partsOps[i]? = some o) : partsRows[i]? = some (o.dst, o.op, o.guard, needsOf o) := by
  rw [← partsRows_eq, List.getElem?_map, Array.getElem?_toList, h]; rfl

/-- what the map holds, by which of the two stores have been made -/
def Holds : Bool → Bool → Int → Option Obj → Prop
  | false, false, _, o => o = some (.map #[] 0)
  | true, false, _, o => o = some (.map ent1 1)
  | false, true, n, o => o = some (.map (entF n) 1)
  | true, true, n, o => o = some (.map (ent2 n) 2) ∨ o = some (.map (ent2' n) 2)
theorem Holds.lt {x y : Bool} {n : Int} {w : World} {b : Nat} (h : Holds x y n w.heap[b]?) : b < w.heap.size := by
  rcases Nat.lt_or_ge b w.heap.size with h' | h'
  · exact h'
  · rw [Array.getElem?_eq_none h'] at h
    cases x <;> cases y <;> simp [Holds] at h

/-- which slot each operation of one value fills -/
def pairs : List (Nat × Nat) := [(0, 46), (1, 47), (2, 48), (3, 49), (4, 50), (5, 51), (6, 52), (7, 53), (8, 54), (9, 55), (10, 56), (11, 57), (12, 58), (13, 59), (16, 61), (17, 62), (20, 64), (21, 65), (22, 66), (23, 67), (24, 68), (25, 2)]
theorem pairs_one : ∀ p ∈ pairs, ∀ q ∈ pairs, p.2 = q.2 → p.1 = q.1 := by decide
theorem pairs_far : ∀ p ∈ pairs, p.2 ≠ 0 ∧ p.2 ≠ 3 ∧ p.2 ≠ 4 ∧ p.2 ≠ 60 ∧ p.2 ≠ 63 ∧ p.2 < 69 ∧ p.1 ≠ 14 ∧ p.1 ≠ 15 ∧ p.1 ≠ 18 ∧ p.1 ≠ 19 := by decide
/-- the value of each -/
def valOf (s : ByteArray) (V : Value) (n c q : Int) : Nat → Value
  | 0 => V | 1 => .int .i64 n | 2 => .int .i64 c | 3 => .int .i64 n | 4 => .bool true | 5 => .bool true | 6 => V | 7 => .string s | 8 => .string s | 9 => .bool true | 10 => .bool true | 11 => .bool true
  | 12 => .string s | 13 => .int .i64 q | 16 => .int .i64 c | 17 => .int .i64 n | 20 => .string s | 21 => .bool (s.toList == [46]) | 22 => .int .i64 q | 23 => .bool true | 24 => .bool true | 25 => .bool true
  | _ => undef

structure PInv (w0 : World) (s : ByteArray) (V : Value) (n c q : Int) (D : List Deferred) (listed : Array Bool) (a : Act) (w : World) : Prop where
  sz : a.tmps.size = 69
  ls : listed.size = 26
  df : a.defers = D
  s0 : a.tmps.getD 0 undef = .string s
  s3 : a.tmps.getD 3 undef = V
  s4 : a.tmps.getD 4 undef = .int .i64 c
  slots : ∀ i d, (i, d) ∈ pairs → listed.getD i false = true → a.tmps.getD d undef = valOf s V n c q i
  good : Good w0 w
  c15 : listed.getD 15 false = true → listed.getD 14 false = true
  c18 : listed.getD 18 false = true → listed.getD 14 false = true
  c19 : listed.getD 19 false = true → listed.getD 15 false = true ∧ listed.getD 18 false = true
  map : listed.getD 14 false = true → ∃ b, w0.heap.size ≤ b ∧ a.tmps.getD 60 undef = .map (some b) ∧ (listed.getD 19 false = true → a.tmps.getD 63 undef = .map (some b)) ∧ Holds (listed.getD 15 false) (listed.getD 18 false) n w.heap[b]?

theorem set_get {listed : Array Bool} {i j : Nat} (h : (listed.setIfInBounds i true).getD j false = true) : j = i ∨ listed.getD j false = true := by
  by_cases e : i = j
  · exact .inl e.symm
  · rw [getD_set_ne _ e] at h; exact .inr h
theorem set_self {listed : Array Bool} {i : Nat} (h : i < listed.size) (d : Bool) : (listed.setIfInBounds i true).getD i d = true := by
  rw [Array.getD_eq_getD_getElem?, Array.getElem?_setIfInBounds]; simp [h]

section
variable {w0 : World} {s : ByteArray} {V : Value} {n c q : Int} {D : List Deferred} {listed : Array Bool} {a : Act} {w : World}

theorem PInv.put (h : PInv w0 s V n c q D listed a w) {i d : Nat} (hp : (i, d) ∈ pairs) {v : Value} (hv : v = valOf s V n c q i) : PInv w0 s V n c q D (listed.setIfInBounds i true) (a.put (some d) v) w := by
  obtain ⟨f0, f3, f4, f60, f63, f69, i14, i15, i18, i19⟩ := pairs_far _ hp
  have keep : ∀ k, k ≠ d → (a.put (some d) v).tmps.getD k undef = a.tmps.getD k undef := fun k hk => by rw [slot_put, if_neg (fun e => hk e.1)]
  refine ⟨by rw [size_put]; exact h.sz, by rw [Array.size_setIfInBounds]; exact h.ls, by rw [defers_put]; exact h.df, by rw [keep _ f0.symm]; exact h.s0, by rw [keep _ f3.symm]; exact h.s3, by rw [keep _ f4.symm]; exact h.s4, fun j d' hj hl => ?_, h.good, by rw [getD_set_ne _ i14, getD_set_ne _ i15]; exact h.c15, by rw [getD_set_ne _ i14, getD_set_ne _ i18]; exact h.c18, by rw [getD_set_ne _ i15, getD_set_ne _ i18, getD_set_ne _ i19]; exact h.c19, fun hl => ?_⟩
  · by_cases e : d' = d
    · subst e
      have : j = i := pairs_one _ hj _ hp rfl
      subst this
      rw [slot_put, if_pos ⟨rfl, by rw [h.sz]; exact f69⟩, hv]
    · rw [keep _ e]
      rcases set_get hl with rfl | hl
      · exact absurd (by
          have key : ∀ p ∈ pairs, ∀ r ∈ pairs, p.1 = r.1 → p.2 = r.2 := by decide
          exact key _ hj _ hp rfl) e
      · exact h.slots j d' hj hl
  · rw [getD_set_ne _ i14] at hl
    obtain ⟨b, h1, h2, h3, h4⟩ := h.map hl
    refine ⟨b, h1, by rw [keep _ f60.symm]; exact h2, fun hl9 => ?_, by rw [getD_set_ne _ i15, getD_set_ne _ i18]; exact h4⟩
    rw [getD_set_ne _ i19] at hl9
    rw [keep _ f63.symm]; exact h3 hl9
theorem PInv.world (h : PInv w0 s V n c q D listed a w) {w' : World} (hg : Good w0 w') (hk : ∀ k, k < w.heap.size → w'.heap[k]? = w.heap[k]?) : PInv w0 s V n c q D listed a w' :=
  ⟨h.sz, h.ls, h.df, h.s0, h.s3, h.s4, h.slots, hg, h.c15, h.c18, h.c19, fun hl => by
    obtain ⟨b, h1, h2, h3, h4⟩ := h.map hl
    exact ⟨b, h1, h2, h3, by rw [hk b h4.lt]; exact h4⟩⟩
theorem PInv.remap (h : PInv w0 s V n c q D listed a w) {i : Nat} (hi : i = 14 ∨ i = 15 ∨ i = 18 ∨ i = 19) {a' : Act} {w' : World} (hsz : a'.tmps.size = 69) (hdf : a'.defers = D) (hkeep : ∀ k, k ≠ 60 → k ≠ 63 → a'.tmps.getD k undef = a.tmps.getD k undef) (hg : Good w0 w')
    (h15 : (listed.setIfInBounds i true).getD 15 false = true → (listed.setIfInBounds i true).getD 14 false = true) (h18 : (listed.setIfInBounds i true).getD 18 false = true → (listed.setIfInBounds i true).getD 14 false = true)
    (h19 : (listed.setIfInBounds i true).getD 19 false = true → (listed.setIfInBounds i true).getD 15 false = true ∧ (listed.setIfInBounds i true).getD 18 false = true)
    (hmap : ∃ b, w0.heap.size ≤ b ∧ a'.tmps.getD 60 undef = .map (some b) ∧ ((listed.setIfInBounds i true).getD 19 false = true → a'.tmps.getD 63 undef = .map (some b)) ∧ Holds ((listed.setIfInBounds i true).getD 15 false) ((listed.setIfInBounds i true).getD 18 false) n w'.heap[b]?) :
    PInv w0 s V n c q D (listed.setIfInBounds i true) a' w' :=
  ⟨hsz, by rw [Array.size_setIfInBounds]; exact h.ls, hdf, (hkeep 0 (by decide) (by decide)).trans h.s0, (hkeep 3 (by decide) (by decide)).trans h.s3, (hkeep 4 (by decide) (by decide)).trans h.s4, fun j d hj hl => by
    obtain ⟨_, _, _, f60, f63, _, i14, i15, i18, i19⟩ := pairs_far _ hj
    rw [hkeep d f60 f63]
    refine h.slots j d hj ?_
    rcases set_get hl with rfl | hl
    · simp only at i14 i15 i18 i19; omega
    · exact hl, hg, h15, h18, h19, fun _ => hmap⟩
theorem getD_free {i : Nat} (h : listed.getD i true = false) : listed.getD i false = false := by
  cases e : listed.getD i false
  · rfl
  · exfalso
    rw [Array.getD_eq_getD_getElem?] at h e
    cases e2 : listed[i]? with
    | none => rw [e2] at h; cases h
    | some b => rw [e2] at h e; simp at h e; rw [h] at e; cases e
theorem setB_at {w : World} {b : Nat} (o : Obj) (h : b < w.heap.size) : (ChangeMaps.setBlock w b o).heap[b]? = some o := by show (w.heap.setIfInBounds b o)[b]? = _; simp [h]
theorem PInv.at (h : PInv w0 s V n c q D listed a w) {i d : Nat} (hl : listed.getD i false = true) (hp : (i, d) ∈ pairs) {v : Value} (hv : valOf s V n c q i = v) : a.tmps.getD d undef = v := (h.slots i d hp hl).trans hv
theorem yields_of {j d : Nat} {b : Bool} (hd : (partsOps[j]?).bind (·.dst) = some d) (hs : d < a.tmps.size) (h : a.tmps.getD d undef = .bool b) : yielded partsOps a.tmps j = some b := by
  unfold yielded
  rw [hd]
  rw [Array.getD_eq_getD_getElem?] at h
  show (match a.tmps[d]? with | some (.bool b) => some b | _ => none) = _
  rw [Array.getElem?_eq_getElem hs] at h ⊢
  simp at h
  rw [h]
theorem PInv.wanted (h : PInv w0 s V n c q D listed a w) {o : Oper} (hn : ∀ j ∈ needsOf o, listed.getD j false = true) (hg : o.guard = none ∨ (o.guard = some (5, true) ∧ 5 ∈ needsOf o) ∨ (o.guard = some (11, true) ∧ 11 ∈ needsOf o)) : Region.wanted o (yielded partsOps a.tmps) = true := by
  unfold Region.wanted
  rcases hg with hg | ⟨hg, hm⟩ | ⟨hg, hm⟩
  · rw [hg]
  · rw [hg]
    show (yielded partsOps a.tmps 5 == some true) = true
    rw [yields_of partsDst5 (by rw [h.sz]; omega) (h.at (hn 5 hm) (by decide) rfl)]; rfl
  · rw [hg]
    show (yielded partsOps a.tmps 11 == some true) = true
    rw [yields_of partsDst11 (by rw [h.sz]; omega) (h.at (hn 11 hm) (by decide) rfl)]; rfl
end
end Go.Proofs.YtpbjijjeglpakaaDoor
