/-
  The pieces that strings.FieldsFunc gives, where what parts them are blanks and tabs, are a text's words by bytes. No program, no condition.
  The walks of hosts.parts, Words, Has, family, and of the laws' light: what they answer. Conditions: each states its own.
  Lines of a hosts text as they lie in memory. Conditions: each states its own.
  The walk of hosts.Parse: the lines of a text that tell something, the first 64. Conditions: a text that may come in; the library's variables hold what their initialisers lay.
  The walk of hosts.Find: the records of a name and a type. Conditions: each states its own.
  The walk of the laws' first call: the example holds. Condition: the library's variables hold what their initialisers lay.
-/
import Derived.Test.YtclfmokdjmnjcaaGreatDoorHostsMath
import Derived.Lib.FieldsP
import Derived.Lib.SpaceUEq
import Derived.Laws.RangeAny
import Derived.Test.YtclfmokdjmnjcaaGreatDoorAddrParse
import Derived.Test.YtclfmokdjmnjcaaGreatDoorAddrRev
import Derived.WalkMore
import Derived.Great.BuildSlice
import Derived.Deep.LoopGhost
namespace Go.Proofs.YtclfmokdjmnjcaaGreatDoor
open Go.Lib

def pSp (r : Nat) : Bool := decide (r = 32) || decide (r = 9)
theorem pSp_high {r : Nat} (h : 128 ≤ r) : pSp r = false := by
  unfold pSp
  rw [decide_eq_false (by omega), decide_eq_false (by omega)]; rfl
theorem pSp_low (c : UInt8) : pSp c.toNat = spc c := by
  have h : ∀ k : Fin 256, pSp (UInt8.ofNat k.val).toNat = spc (UInt8.ofNat k.val) := by decide +kernel
  simpa using h ⟨c.toNat, c.toNat_lt⟩
theorem spc_high {c : UInt8} (h : 128 ≤ c.toNat) : spc c = false := by rw [← pSp_low]; exact pSp_high h
theorem byteF_at (s : ByteArray) (i : Nat) (h : i < s.size) : s.data.toList.getD i 0 = s[i]'h := by
  rw [List.getD_eq_getElem?_getD, Array.getElem?_toList, Array.getElem?_eq_getElem h]; rfl
theorem dropF_at (s : ByteArray) (i : Nat) (h : i < s.size) : s.data.toList.drop i = s[i]'h :: s.data.toList.drop (i + 1) := by
  rw [List.drop_eq_getElem_cons (by rw [← size_eq]; exact h)]; rfl
theorem step_bytes (s : ByteArray) (pos : Nat) (hp : pos < s.size) :
    (pSp (Utf8.decode s pos).1 = true → (Utf8.decode s pos).2 = 1 ∧ spc (s[pos]'hp) = true) ∧ (pSp (Utf8.decode s pos).1 = false → ∀ c ∈ (s.data.toList.drop pos).take (Utf8.decode s pos).2, spc c = false) := by
  by_cases h1 : (s[pos]'hp).toNat < 128
  · rw [decode_ascii s pos hp h1]
    refine ⟨fun h => ⟨rfl, by rw [← pSp_low]; exact h⟩, fun h c hc => ?_⟩
    rw [dropF_at s pos hp] at hc
    simp only [List.take_succ_cons, List.take_zero, List.mem_singleton] at hc
    rw [hc, ← pSp_low]; exact h
  · have hh := (decode_high s pos hp (by omega)).1
    refine ⟨fun h => (by rw [pSp_high hh] at h; cases h), fun _ c hc => ?_⟩
    have hl : s.data.toList.length = s.size := (size_eq s).symm
    have hcs := decodeN_conts (s.data.toList.length - pos) (s.data.toList.getD pos 0).toNat (s.data.toList.getD (pos + 1) 0).toNat (s.data.toList.getD (pos + 2) 0).toNat (s.data.toList.getD (pos + 3) 0).toNat
    rw [← decode_N] at hcs
    obtain ⟨c2, c3, c4, c5⟩ := hcs
    obtain ⟨j, hj, hg⟩ := List.getElem_of_mem hc
    rw [List.length_take, List.length_drop] at hj
    have hcj : c = s.data.toList.getD (pos + j) 0 := by
      rw [← hg, List.getElem_take, List.getElem_drop, List.getD_eq_getElem?_getD, List.getElem?_eq_getElem (by omega)]; rfl
    rw [hcj]
    apply spc_high
    have hj4 : j = 0 ∨ j = 1 ∨ j = 2 ∨ j = 3 := by omega
    rcases hj4 with rfl | rfl | rfl | rfl
    · rw [Nat.add_zero, byteF_at s pos hp]; omega
    · have := (c2 (by omega)).1; omega
    · have := (c3 (by omega)).1; omega
    · have := (c4 (by omega)).1; omega
theorem fields_eq (s : ByteArray) : ∀ (f pos : Nat) (st : Option Nat) (acc : List (Nat × Nat)), s.size ≤ pos + f → pos ≤ s.size → (∀ a, st = some a → a < pos) →
    acc.map (fun p => pieceU s.data.toList p.1 p.2) ++ fw (openPiece s.data.toList st pos) (s.data.toList.drop pos) = (closeSpans s (spansFromP pSp s f pos st acc)).map (fun p => pieceU s.data.toList p.1 p.2)
  | 0, pos, st, acc, h, hp, hst => by
    obtain rfl : pos = s.size := by omega
    have hd : s.data.toList.drop s.size = [] := List.drop_eq_nil_of_le (by rw [← size_eq]; exact Nat.le_refl _)
    rw [hd, fw]
    cases st with
    | none => simp [spansFromP, closeSpans, openPiece]
    | some a =>
      have := pieceU_ne s.data.toList a s.size (hst a rfl) (by rw [← size_eq]; exact Nat.le_refl _)
      simp [spansFromP, closeSpans, openPiece, this]
  | f + 1, pos, st, acc, h, hp, hst => by
    by_cases hlt : pos < s.size
    · have hw := width_pos s pos
      have hwn : pos + (Utf8.decode s pos).2 ≤ s.size := by
        have := decodeN_le_n' (s.size - pos) (s.get! pos).toNat (s.get! (pos + 1)).toNat (s.get! (pos + 2)).toNat (s.get! (pos + 3)).toNat (by omega)
        rw [← decode_at] at this
        omega
      obtain ⟨hy, hn⟩ := step_bytes s pos hlt
      simp only [spansFromP, if_pos hlt]
      cases hsp : pSp (Utf8.decode s pos).1 with
      | true =>
        obtain ⟨hw1, hc⟩ := hy hsp
        rw [dropF_at s pos hlt, fw_space hc, hw1]
        simp only [if_true]
        cases st with
        | none =>
          have ih := fields_eq s f (pos + 1) none acc (by omega) (by omega) (fun a h => by cases h)
          simpa [openPiece] using ih
        | some a =>
          have hpn := pieceU_ne s.data.toList a pos (hst a rfl) (by rw [← size_eq]; omega)
          have ih := fields_eq s f (pos + 1) none (acc ++ [(a, pos)]) (by omega) (by omega) (fun a h => by cases h)
          simpa [openPiece, hpn] using ih
      | false =>
        have hx := hn hsp
        have hsplit : s.data.toList.drop pos = (s.data.toList.drop pos).take (Utf8.decode s pos).2 ++ s.data.toList.drop (pos + (Utf8.decode s pos).2) := by
          conv => lhs; rw [← List.take_append_drop (Utf8.decode s pos).2 (s.data.toList.drop pos), List.drop_drop]
        rw [hsplit, fw_plain _ _ _ hx]
        simp only [Bool.false_eq_true, if_false]
        cases st with
        | none =>
          have ih := fields_eq s f (pos + (Utf8.decode s pos).2) (some pos) acc (by omega) hwn (fun a h => by cases h; omega)
          have e : ([] : List UInt8) ++ (s.data.toList.drop pos).take (Utf8.decode s pos).2 = pieceU s.data.toList pos (pos + (Utf8.decode s pos).2) := by
            unfold pieceU
            rw [List.nil_append, Nat.add_sub_cancel_left]
          simp only [openPiece] at ih ⊢
          rw [e]
          exact ih
        | some a =>
          have ih := fields_eq s f (pos + (Utf8.decode s pos).2) (some a) acc (by omega) hwn (fun b h => by cases h; have := hst a rfl; omega)
          simp only [openPiece] at ih ⊢
          rw [pieceU_grow _ _ _ _ (Nat.le_of_lt (hst a rfl))]
          exact ih
    · obtain rfl : pos = s.size := by omega
      have hd : s.data.toList.drop s.size = [] := List.drop_eq_nil_of_le (by rw [← size_eq]; exact Nat.le_refl _)
      rw [hd, fw, spansFromP_end _ s _ _ _ _ hlt]
      cases st with
      | none => simp [closeSpans, openPiece]
      | some a =>
        have := pieceU_ne s.data.toList a s.size (hst a rfl) (by rw [← size_eq]; exact Nat.le_refl _)
        simp [closeSpans, openPiece, this]
theorem goFields_fw (s : ByteArray) : (goFieldsP pSp s).map (·.data.toList) = fw [] s.data.toList := by
  have h := fields_eq s s.size 0 none [] (by omega) (Nat.zero_le _) (fun a h => by cases h)
  simp only [List.map_nil, List.nil_append, openPiece, List.drop_zero] at h
  unfold goFieldsP spansOfP
  rw [h, List.map_map]
  congr 1
  funext p
  simp [pieceU]
end Go.Proofs.YtclfmokdjmnjcaaGreatDoor
namespace Go.Proofs.YtclfmokdjmnjcaaGreatDoor
open Go.RowKit

theorem parts_e (r : Nat) (W : World) : Calls Tryz.prog 28 #[.int .i32 r] W fun e w' => e = .returned (.bool (pSp r)) ∧ ∃ q, w' = W.drewN q := by
  have hp : pSp r = (decide (r = 32) || decide (r = 9)) := rfl
  by_cases h1 : r = 32
  · subst h1
    go_enter Tryz.func28, Tryz.ntmps28
    go_wp2
    go_ret
    exact ⟨rfl, 0, rfl⟩
  · by_cases h2 : r = 9
    · subst h2
      go_enter Tryz.func28, Tryz.ntmps28
      go_wp2
      go_ret
      exact ⟨rfl, 0, rfl⟩
    · have z1 : ¬ (r : Int) = 32 := by omega
      have z2 : ¬ (r : Int) = 9 := by omega
      have hx : pSp r = false := by rw [hp, decide_eq_false h1, decide_eq_false h2]; rfl
      rw [hx]
      clear hp h1 h2 hx
      go_enter Tryz.func28, Tryz.ntmps28
      go_wp2
      all_goals go_ret
      all_goals exact ⟨by simp [z1, z2], 0, rfl⟩
theorem partsP_at (w : World) : PredAt Tryz.prog 28 #[] encR pSp w := fun W r _ => parts_e r W
/-- what Words answers -/
def WdPost (w : World) (s : List UInt8) (e : Ending) (w' : World) : Prop :=
  ∃ (b : Nat) (xs : List ByteArray), xs.map (·.data.toList) = wordsL s ∧ e = .returned (.slice (some ⟨b, 0, none⟩) xs.length xs.length) ∧ Strs w' b xs ∧ Below w.heap.size w w'
set_option maxRecDepth 100000 in
set_option maxHeartbeats 1000000 in
theorem words_e (s : ByteArray) (w : World) (he : AEnv w) (hs : s.size < 4294967281) : Calls Tryz.prog 13 #[.string s] w (WdPost w s.data.toList) := by
  obtain ⟨m, hm⟩ := he.env.2
  have hcut := Tryz.strings_Cut s ⟨#[35]⟩ m w hs hm
  have ht : (Go.Lib.cut s.data.toList [35]).1 = toldL s.data.toList := (toldL_cut _).symm
  rw [show (ByteArray.mk #[35]).data.toList = [35] from rfl, ht] at hcut
  obtain ⟨t, hte⟩ : ∃ t : ByteArray, t = ⟨(toldL s.data.toList).toArray⟩ := ⟨_, rfl⟩
  rw [← hte] at hcut
  have htd : t.data.toList = toldL s.data.toList := by rw [hte]
  have hts : t.size ≤ 4294967296 := by
    have := toldL_len s.data.toList
    rw [Lib.size_eq, htd]
    rw [Lib.size_eq] at hs
    omega
  have hff := fun W => Tryz.strings_FieldsFunc 28 #[] (enters_of Tryz.func28 (by kernel_rfl) rfl) pSp t W hts (partsP_at W)
  have hw : (Go.Lib.goFieldsP pSp t).map (·.data.toList) = wordsL s.data.toList := by rw [goFields_fw, htd]; rfl
  generalize Go.Lib.goFieldsP pSp t = xs at hff hw
  have HF := Lib.hid hff
  have HW := Lib.hid hw
  clear hff hw hte htd hts hm ht he
  go_enter Tryz.func13, Tryz.ntmps13
  go_wp2_with fail
  refine hcut.mono ?_
  rintro e w1 ⟨rfl, q, rfl⟩
  clear hcut
  go_wp2_with fail
  refine (HF.out _).mono ?_
  rintro e w2 ⟨A, rfl, hA, hown, hb⟩
  have HO := Lib.hid (Rw.of_own hown).1
  have HB := Lib.hid hb
  clear hown hb
  go_wp2
  go_ret
  exact ⟨A, xs, HW.out, rfl, HO.out.strs.strs, (below_drewQ (Below.refl _ w) q).trans HB.out⟩
theorem containsS_tb (xs : List (List UInt8)) (x : ByteArray) : Lib.containsS (xs.map tb) x = xs.contains x.data.toList := by
  rw [Bool.eq_iff_iff, Lib.containsS_iff, List.contains_iff_mem, List.mem_map]
  constructor
  · rintro ⟨y, hy, rfl⟩; exact hy
  · intro h; exact ⟨_, h, bytes_inj rfl⟩
theorem has_e (b c n : Nat) (xs : List ByteArray) (x : ByteArray) (w : World) (h : Strs w b xs) (hn : xs.length = n) (hn1 : n ≤ 9223372036854775807) :
    Calls Tryz.prog 17 #[.slice (some ⟨b, 0, none⟩) n c, .string x] w fun e w' => e = .returned (.bool (Lib.containsS xs x)) ∧ w' = w := by
  have hc := Tryz.slices_Contains_string b 0 n c xs x w (by omega) (by omega) h.2
  rw [List.take_of_length_le (by omega)] at hc
  go_enter Tryz.func17, Tryz.ntmps17
  go_wp2_with (go_at_call 33; refine hc.mono ?_; rintro e w' ⟨rfl, rfl⟩)
  go_ret
  exact ⟨rfl, rfl⟩
theorem light_e (s : ByteArray) (w : World) (hs : s.size ≤ 9223372036854775807) : Calls Tryz.prog 10 #[.string s] w fun e w' => e = .returned (.bool (decide (s.size ≤ 2000))) ∧ w' = w := by
  go_enter Tryz.func10, Tryz.ntmps10
  go_wp2
  go_ret
  rw [show decide (s.size ≤ 2000) = decide ((s.size : Int) ≤ 2000) from decide_eq_decide.2 ⟨fun h => by omega, fun h => by omega⟩]
  exact ⟨rfl, rfl⟩
set_option maxRecDepth 100000 in
set_option maxHeartbeats 1000000 in
theorem family_e (a : List UInt8) (ha : a.length = 16) (w : World) : Calls Tryz.prog 29 #[.agg (bvs a).toArray] w fun e w' => e = .returned (.int .i64 (famOf a)) ∧ Below w.heap.size w w' := by
  have h4e := fun W => is4_e a ha W
  have hS := sizeBv ha
  have hu := Tryz.underlying28
  have hf : famOf a = if isV4 a = true then 1 else 28 := rfl
  obtain ⟨r, hr⟩ : ∃ r, r = (bvs a).toArray := ⟨_, rfl⟩
  simp only [← hr] at hS h4e ⊢
  have hb0 : Below w.heap.size w (w.alloc (.cells r 28)) := (Below.refl _ w).alloc (Nat.le_refl _) _
  have HB0 := Lib.hid hb0
  have HR0 := Lib.hid (Row.new w r)
  have HS := Lib.hid hS
  have H4 := Lib.hid h4e
  have HF := Lib.hid hf
  clear hS h4e hr hb0 ha hf
  go_enter Tryz.func29, Tryz.ntmps29
  go_wp2_with (first
    | (refine wpList_load_row rfl 28 (.tmp 1) rfl w.heap.size rfl 28 r (0, 0) _ HR0.out hu rfl HS.out ?_; go_simp))
  refine (H4.out _).mono ?_
  rintro e w1 ⟨rfl, hb1⟩
  have HB1 := Lib.hid (HB0.out.trans (hb1.mono HB0.out.size))
  clear hb1
  cases h4 : isV4 a
  · go_wp2
    go_ret
    exact ⟨by rw [HF.out, h4]; rfl, HB1.out⟩
  · go_wp2
    go_ret
    exact ⟨by rw [HF.out, h4]; rfl, HB1.out⟩
end Go.Proofs.YtclfmokdjmnjcaaGreatDoor
namespace Go.Proofs.YtclfmokdjmnjcaaGreatDoor
open Go.RowKit

/-- a line, and where its names lie -/
structure HV where
  h : HostM
  g : Nat
  c : Nat
def HV.cells (x : HV) : List Value := bvs x.h.addr ++ [.slice (some ⟨x.g, 0, none⟩) x.h.names.length x.c]
theorem HV.len {x : HV} (h : x.h.addr.length = 16) : x.cells.length = 17 := by unfold HV.cells; rw [List.length_append, bvs_length, h]; rfl
theorem HV.byte {x : HV} (h : x.h.addr.length = 16) {j : Nat} (hj : j < 16) : x.cells[j]? = some (.int .u8 (x.h.addr.getD j 0).toNat) := by
  unfold HV.cells
  rw [List.getElem?_append_left (by rw [bvs_length, h]; exact hj), bvs_at (by omega)]
theorem HV.nm {x : HV} (h : x.h.addr.length = 16) : x.cells[16]? = some (.slice (some ⟨x.g, 0, none⟩) x.h.names.length x.c) := by
  unfold HV.cells
  rw [List.getElem?_append_right (by rw [bvs_length, h]; omega), bvs_length, h]; rfl
theorem HV.one (x : HV) : ∀ v ∈ x.cells, v.oneCell' = true := fun v hv => by
  unfold HV.cells at hv
  rcases List.mem_append.1 hv with hv | hv
  · exact bvs_one _ v hv
  · rw [List.mem_singleton.1 hv]; rfl
def hvs (l : List HV) : List Value := l.flatMap HV.cells
theorem hvs_snoc (l : List HV) (x : HV) : hvs (l ++ [x]) = hvs l ++ x.cells := by unfold hvs; rw [List.flatMap_append]; simp
theorem hvs_len : ∀ {l : List HV}, (∀ x ∈ l, x.h.addr.length = 16) → (hvs l).length = l.length * 17
  | [], _ => rfl
  | x :: l, h => by
    have ih := hvs_len (l := l) (fun y hy => h y (List.mem_cons_of_mem _ hy))
    unfold hvs at ih ⊢
    rw [List.flatMap_cons, List.length_append, ih, HV.len (h x List.mem_cons_self), List.length_cons]; omega
theorem hvs_at : ∀ {l : List HV} {i : Nat} {x : HV} {j : Nat}, (∀ x ∈ l, x.h.addr.length = 16) → l[i]? = some x → j < 17 → (hvs l)[i * 17 + j]? = x.cells[j]?
  | [], i, x, j, _, h, _ => by simp at h
  | y :: l, 0, x, j, hl, h, hj => by
    rw [List.getElem?_cons_zero, Option.some.injEq] at h
    subst h
    unfold hvs
    rw [List.flatMap_cons, Nat.zero_mul, Nat.zero_add, List.getElem?_append_left (by rw [HV.len (hl y List.mem_cons_self)]; exact hj)]
  | y :: l, i + 1, x, j, hl, h, hj => by
    have ih := hvs_at (l := l) (i := i) (x := x) (j := j) (fun z hz => hl z (List.mem_cons_of_mem _ hz)) (by simpa using h) hj
    unfold hvs at ih ⊢
    rw [List.flatMap_cons, List.getElem?_append_right (by rw [HV.len (hl y List.mem_cons_self)]; omega), HV.len (hl y List.mem_cons_self), show (i + 1) * 17 + j - 17 = i * 17 + j by omega, ih]
/-- what lines lie beside: their names -/
structure HNs (w : World) (l : List HV) : Prop where
  good : ∀ x ∈ l, Good x.h
  names : ∀ x ∈ l, Strs w x.g (x.h.names.map tb)
  small : ∀ x ∈ l, x.h.names.length ≤ 4294967281
theorem HNs.len {w : World} {l : List HV} (h : HNs w l) : ∀ x ∈ l, x.h.addr.length = 16 := fun x hx => (h.good x hx).len
theorem HNs.below {w w' : World} {l : List HV} (h : HNs w l) (hb : Below w.heap.size w w') : HNs w' l := ⟨h.good, fun x hx => (h.names x hx).below hb, h.small⟩
theorem HNs.snoc {w : World} {l : List HV} {x : HV} (h : HNs w l) (hg : Good x.h) (hs : Strs w x.g (x.h.names.map tb)) (hsm : x.h.names.length ≤ 4294967281) : HNs w (l ++ [x]) :=
  ⟨fun y hy => by
    rcases List.mem_append.1 hy with hy | hy
    · exact h.good y hy
    · rw [List.mem_singleton.1 hy]; exact hg, fun y hy => by
    rcases List.mem_append.1 hy with hy | hy
    · exact h.names y hy
    · rw [List.mem_singleton.1 hy]; exact hs, fun y hy => by
    rcases List.mem_append.1 hy with hy | hy
    · exact h.small y hy
    · rw [List.mem_singleton.1 hy]; exact hsm⟩
/-- block b holds these lines -/
structure HRow (w : World) (b : Nat) (l : List HV) : Prop where
  lt : b < w.heap.size
  cells : ∀ k v, (hvs l)[k]? = some v → w.cell? ⟨b, k, none⟩ = some v
  ns : HNs w l
theorem HRow.below {w w' : World} {b : Nat} {l : List HV} (h : HRow w b l) (hb : Below w.heap.size w w') : HRow w' b l :=
  ⟨Nat.lt_of_lt_of_le h.lt hb.size, fun k v hk => (hb.cell (p := ⟨b, k, none⟩) h.lt).trans (h.cells k v hk), h.ns.below hb⟩
/-- a slice of lines -/
def HostsV (w : World) (v : Value) (l : List HV) : Prop := (l = [] ∧ v = .slice none 0 0) ∨ (l ≠ [] ∧ ∃ b c, v = .slice (some ⟨b, 0, none⟩) l.length c ∧ l.length ≤ c ∧ HRow w b l)
theorem HostsV.below {w w' : World} {v : Value} {l : List HV} (h : HostsV w v l) (hb : Below w.heap.size w w') : HostsV w' v l := by
  rcases h with h | ⟨h, b, c, e, hc, hr⟩
  · exact .inl h
  · exact .inr ⟨h, b, c, e, hc, hr.below hb⟩
/-- rows of the call's own -/
theorem HostsV.own {w : World} {base n : Nat} {v : Value} {l : List HV} (h : w.ownsRow base 31 17 v n (hvs l)) (hn : HNs w l) (hv : l = [] → v = .slice none 0 0) : HostsV w v l := by
  have hl := h.1
  rw [hvs_len hn.len] at hl
  have hln : l.length = n := by omega
  rcases h.2 with ⟨e, h0⟩ | ⟨g, cap, cur, e, hb, hg, hc, hm, hs, ht⟩
  · exact .inl ⟨List.length_eq_zero_iff.1 (by omega), e⟩
  · by_cases h0 : l = []
    · exact .inl ⟨h0, hv h0⟩
    · refine .inr ⟨h0, g, cap, by rw [e, hln], by omega, (Array.getElem?_eq_some_iff.1 hg).1, fun k v hk => ?_, hn⟩
      rw [cell_of_row w g k cur _ (0, 0) hg, ← Array.getElem?_toList]
      rw [← ht] at hk
      have hkl := (List.getElem?_eq_some_iff.1 hk).1
      rw [List.length_take] at hkl
      rwa [List.getElem?_take_of_lt (by omega)] at hk
end Go.Proofs.YtclfmokdjmnjcaaGreatDoor
namespace Go.Proofs.YtclfmokdjmnjcaaGreatDoor
open Go.RowKit

theorem zeroHost : (Tryz.prog.info? 31).map (fun i => (i.zero, i.size, i.bytes)) = some (some (.agg ((bvs zero16).toArray.push (.slice none 0 0))), 17, 40) := by kernel_rfl
theorem builtHost {a : List UInt8} (h : a.length = 16) (A : Option Addr) (n c : Nat) : Tryz.prog.built 31 [(0, .agg (bvs a).toArray), (1, .slice A n c)] = some (bvs a ++ [Value.slice A n c]).toArray := by
  obtain ⟨a, b, c, d, e, f, g, i, j, k, l, m, n, o, p, q, rfl⟩ := list16 h
  kernel_rfl
/-- a value of several cells, made from a list, appended to a row of the call's own -/
theorem own_append {ops : Array Oper} {rest : List Oper} {o : Oper} {a : Act} {Q : Exit → Act → World → Prop} {w : World} (hgd : o.guard = none) (s x : Operand) (ho : o.op = .call { callee := .builtin .append, args := #[s, x], argTypes := #[24, 24] })
    (base n : Nat) (v : Value) (l : List HV) (y : HV) (hs : a.eval s = v) (hown : w.ownsRow base 31 17 v n (hvs l)) (hn : n ≤ 1000) (hbase : base ≤ w.heap.size)
    (ad : Addr) (c1 : Nat) (hx : a.eval x = .slice (some ad) 1 c1) (hy16 : y.h.addr.length = 16) (hy : ∀ j u, y.cells[j]? = some u → w.cell? (ad.add j) = some u)
    (h : ∀ v' w', w'.ownsRow base 31 17 v' (n + 1) (hvs (l ++ [y])) → w.grownBy w' v.ownBlock → v' ≠ .slice none 0 0 → wpList Tryz.prog ops Q rest (a.put o.dst v') w') : wpList Tryz.prog ops Q (o :: rest) a w := by
  obtain ⟨i0, hi, hz0, hz1, hz2⟩ := info_parts zeroHost
  refine wpList_append_own (w := w) hgd s x 24 ho base 31 i0 _ 17 40 Tryz.underlying24 hi hz0 hz1 hz2 (by kernel_rfl) (by decide) v n (hvs l) hs hown ad 1 c1 y.cells hx (by rw [HV.len hy16]) hy y.one (by unfold maxLen; omega) (by omega) hbase (fun v' w' h2 h3 h4 => h v' w' (by rw [hvs_snoc]; exact h2) h3 (fun e => by have := (h4.1 e).2; omega))
/-- names' blocks are none of the row's -/
theorem own_apart {w : World} {base n : Nat} {v : Value} {l : List HV} (h : w.ownsRow base 31 17 v n (hvs l)) (hv : l = [] → v = .slice none 0 0) (hl : ∀ x ∈ l, x.h.addr.length = 16) {g : Nat} {xs : List ByteArray} (hs : Strs w g xs) (h0 : 0 < xs.length) : some g ≠ v.ownBlock := by
  intro e
  cases l with
  | nil => rw [hv rfl] at e; cases e
  | cons x l =>
    have hc := h.cells (g := g) e.symm 0 (.int .u8 (x.h.addr.getD 0 0).toNat) (by
      have := hvs_at (l := x :: l) (i := 0) (x := x) (j := 0) hl rfl (by decide)
      rw [show 0 * 17 + 0 = 0 by rfl] at this
      rw [this]
      exact HV.byte (hl x List.mem_cons_self) (by decide))
    rw [Addr.add_lit] at hc
    rw [hs.2 0 h0] at hc
    cases hc
theorem HNs.grown {w w' : World} {base n : Nat} {v : Value} {l : List HV} (h : HNs w l) (hown : w.ownsRow base 31 17 v n (hvs l)) (hv : l = [] → v = .slice none 0 0) (hg : w.grownBy w' v.ownBlock) : HNs w' l :=
  ⟨h.good, fun x hx => by
    have hs := h.names x hx
    have h0 : 0 < (x.h.names.map tb).length := by rw [List.length_map]; exact List.length_pos_iff.2 (h.good x hx).ne
    have hne := own_apart hown hv h.len hs h0
    exact ⟨Nat.lt_of_lt_of_le hs.1 hg.size, fun j hj => (World.cell?_of_block (a := ⟨x.g, 0 + j, none⟩) (hg.block x.g hs.1 hne)).trans (hs.2 j hj)⟩, h.small⟩
/-- how Parse's loop stands: what is left is to be read behind these lines -/
structure PrAt (w wr : World) (s : List UInt8) (t : ByteArray) (more : Bool) (v : Value) (l : List HV) : Prop where
  below : Below w.heap.size w wr
  row : wr.ownsRow w.heap.size 31 17 v l.length (hvs l)
  nil : l = [] → v = .slice none 0 0
  ns : HNs wr l
  len : l.length ≤ 64
  small : t.size ≤ s.length
  rest : ∀ l2, Pd (64 - l.length) (if more = true then nl t.data.toList else []) l2 → Pd 64 (nl s) (l.map (·.h) ++ l2)
def PrPost (w : World) (s : List UInt8) (e : Ending) (w' : World) : Prop := ∃ l v, Pd 64 (nl s) (l.map (·.h)) ∧ e = .returned v ∧ HostsV w' v l ∧ Below w.heap.size w w'
theorem PrAt.done {w wr : World} {s : List UInt8} {t : ByteArray} {more : Bool} {v : Value} {l : List HV} (h : PrAt w wr s t more v l) (hd : more = false ∨ l.length = 64) : PrPost w s (.returned v) wr := by
  refine ⟨l, v, ?_, rfl, HostsV.own h.row h.ns h.nil, h.below⟩
  have hp := h.rest []
  rw [List.append_nil] at hp
  apply hp
  have hl := h.len
  by_cases h64 : l.length = 64
  · rw [h64]; exact .full
  · rcases hd with hd | hd
    · rw [hd, if_neg (by decide)]
      obtain ⟨k, hk⟩ : ∃ k, 64 - l.length = k + 1 := ⟨63 - l.length, by omega⟩
      rw [hk]; exact .done
    · exact absurd hd h64
/-- the next line -/
structure CutAt (t line after : ByteArray) (found : Bool) : Prop where
  lines : nl t.data.toList = line.data.toList :: (if found = true then nl after.data.toList else [])
  le : line.size ≤ t.size ∧ after.size ≤ t.size
  less : found = true → after.size < t.size
theorem cut_at10 (t : ByteArray) : CutAt t ⟨(Go.Lib.cut t.data.toList [10]).1.toArray⟩ ⟨(Go.Lib.cut t.data.toList [10]).2.1.toArray⟩ (Go.Lib.cut t.data.toList [10]).2.2 := by
  have hge := Go.Lib.index_ge t.data.toList [10]
  by_cases h : 0 ≤ Go.Lib.index t.data.toList [10]
  · have hs := nl_some h
    have hr := Go.Lib.index_room t.data.toList [10] h
    have e : Go.Lib.cut t.data.toList [10] = (t.data.toList.take (Go.Lib.index t.data.toList [10]).toNat, t.data.toList.drop ((Go.Lib.index t.data.toList [10]).toNat + 1), true) := by
      unfold Go.Lib.cut; rw [if_pos h]; rfl
    rw [e] at hs ⊢
    simp only [List.length_cons, List.length_nil] at hr
    refine ⟨hs, ⟨?_, ?_⟩, fun _ => ?_⟩
    · rw [Lib.size_eq, Lib.size_eq]; show (List.take _ _).length ≤ _; rw [List.length_take]; omega
    · rw [Lib.size_eq, Lib.size_eq]; show (List.drop _ _).length ≤ _; rw [List.length_drop]; omega
    · rw [Lib.size_eq, Lib.size_eq]; show (List.drop _ _).length < _; rw [List.length_drop]; omega
  · have hs := nl_none (l := t.data.toList) (by omega)
    have e : Go.Lib.cut t.data.toList [10] = (t.data.toList, [], false) := by
      unfold Go.Lib.cut; rw [if_neg h]
    rw [e]
    refine ⟨hs, ⟨?_, ?_⟩, fun h => by cases h⟩
    · rw [Lib.size_eq]; exact Nat.le_of_eq (Lib.size_eq t).symm
    · rw [Lib.size_eq]; exact Nat.zero_le _
theorem PrAt.skip {w wr w2 : World} {s : List UInt8} {t line after : ByteArray} {found : Bool} {v : Value} {l : List HV} (h : PrAt w wr s t true v l) (hl : l.length < 64) (hc : CutAt t line after found) (hr : LineR line.data.toList none) (hb : Below wr.heap.size wr w2) : PrAt w w2 s after found v l :=
  ⟨h.below.trans (hb.mono h.below.size), own_step h.row hb, h.nil, h.ns.below hb, h.len, Nat.le_trans hc.le.2 h.small, fun l2 h2 => h.rest l2 (by
    rw [if_pos rfl, hc.lines]
    obtain ⟨k, hk⟩ : ∃ k, 64 - l.length = k + 1 := ⟨63 - l.length, by omega⟩
    rw [hk] at h2 ⊢
    exact .skip hr h2)⟩
theorem PrAt.take {w wr w2 : World} {s : List UInt8} {t line after : ByteArray} {found : Bool} {v v' : Value} {l : List HV} {x : HV} (h : PrAt w wr s t true v l) (hl : l.length < 64) (hc : CutAt t line after found) (hr : LineR line.data.toList (some x.h))
    (hb : Below w.heap.size w w2) (ho : w2.ownsRow w.heap.size 31 17 v' (l.length + 1) (hvs (l ++ [x]))) (hn : HNs w2 (l ++ [x])) : PrAt w w2 s after found v' (l ++ [x]) :=
  ⟨hb, by rw [List.length_append]; exact ho, fun e => by simp at e, hn, by rw [List.length_append, List.length_singleton]; omega, Nat.le_trans hc.le.2 h.small, fun l2 h2 => by
    rw [List.map_append, List.append_assoc]
    refine h.rest _ ?_
    rw [if_pos rfl, hc.lines]
    rw [List.length_append, List.length_singleton] at h2
    obtain ⟨k, hk⟩ : ∃ k, 64 - l.length = k + 1 := ⟨63 - l.length, by omega⟩
    rw [show 64 - (l.length + 1) = k by omega] at h2
    rw [hk]
    exact .take hr h2⟩
/-- a slice of one value of several cells -/
theorem wpList_slice1 {P : Program} {ops : Array Oper} {rest : List Oper} {o : Oper} {a : Act} {w : World} {Q : Exit → Act → World → Prop} (hg : o.guard = none) (t e : TypeId) (x : Operand) (ho : o.op = .buildSlice t 1 #[(0, x)]) (cs : Array Value) (hx : a.eval x = .agg cs)
    (n : Nat) (hu : P.underlying t = some (.slice e)) (hi : (P.info? e).map (fun i => (i.zero.map (fun z => z.cells.size), i.size)) = some (some n, n)) (hs : cs.size = n) (hn0 : 0 < n) (hn : n ≤ 1000)
    (h : wpList P ops Q rest (a.put o.dst (.slice (some ⟨w.heap.size, 0, none⟩) 1 1)) (w.alloc (.cells cs e))) : wpList P ops Q (o :: rest) a w := by
  cases hq : P.info? e with
  | none => simp [hq] at hi
  | some ie =>
    simp only [hq, Option.map_some, Option.some.injEq, Prod.mk.injEq] at hi
    obtain ⟨h1, h2⟩ := hi
    cases hz : ie.zero with
    | none => simp [hz] at h1
    | some z =>
      refine wpList_buildSlice hg t e 1 _ ho cs ie z hu hq hz (by rw [h2]; omega) (by rw [h2]; omega) ?_ h
      rw [h2, Nat.one_mul]
      have hl : (#[(0, x)].map fun (p : Nat × Operand) => (p.1, a.eval p.2)).toList = [(0, .agg cs)] := by
        rw [Array.toList_map]
        show [(0, a.eval x)] = _
        rw [hx]
      refine (congrArg _ hl).trans ?_
      have := Great.fill_whole hn0 [Value.agg cs] ((Array.range n).map (z.cells[· % z.cells.size]!)) (by simp [Value.cells, hs]) (by simp)
      simpa [Value.cells] using this
theorem sl_one (b n : Nat) (hn : 1 ≤ n) (hn2 : n ≤ 1099511627776) (W : World) : (Instr.sliceAt 29 (.slice (some ⟨b, 0, none⟩) (n + 1) (n + 1)) (some (.int .i64 1)) none none).run Tryz.prog W = .ok (.slice (some ⟨b, 1, none⟩) n n) W := by
  have hE : Tryz.prog.elem 29 = 9 := by kernel_rfl
  have hZ : ∀ W : World, (sizeOf 9).run Tryz.prog W = .ok 1 W := fun W => by kernel_rfl
  have h0 : ¬ n = 0 := by omega
  have h1 : (1 : Int) ≤ (n : Int) + 1 := by omega
  rw [run_sliceAt_slice (P := Tryz.prog) (w := W) 29 _ (some (.int .i64 1)) none none (by rw [hE]; exact Tryz.underlying29)]
  go_simp
theorem set_next (ys : List ByteArray) (y : ByteArray) (n : Nat) (h : ys.length < n) : (ys ++ List.replicate (n - ys.length) ByteArray.empty).set ys.length y = (ys ++ [y]) ++ List.replicate (n - (ys ++ [y]).length) ByteArray.empty := by
  rw [List.set_append_right _ _ (Nat.le_refl _), Nat.sub_self, show n - ys.length = (n - (ys ++ [y]).length) + 1 by rw [List.length_append, List.length_singleton]; omega, List.replicate_succ, List.set_cons_zero, List.append_assoc]
  rfl
/-- how the names' loop stands: the first are turned -/
structure NmAt (w0 wr : World) (g n : Nat) (ws : List (List UInt8)) (ys : List ByteArray) : Prop where
  below : Below w0.heap.size w0 wr
  row : StrsF wr g (ys ++ List.replicate (n - ys.length) ByteArray.empty)
  len : ys.length ≤ n
  out : NamesR (ws.take ys.length) (some (ys.map (·.data.toList)))
theorem NmAt.step {w0 wr w2 : World} {g n : Nat} {ws : List (List UInt8)} {ys : List ByteArray} {y : ByteArray} {x : List UInt8} (h : NmAt w0 wr g n ws ys) (hk : ys.length < n) (hg : w0.heap.size ≤ g) (hb : Below wr.heap.size wr w2) (hx : ws[ys.length]? = some x) (ht : TA x 0 y.data.toList) :
    NmAt w0 (w2.setCell ⟨g, ys.length, none⟩ (.string y)) g n ws (ys ++ [y]) := by
  refine ⟨(h.below.trans (hb.mono h.below.size)).setCell hg _, ?_, by rw [List.length_append, List.length_singleton]; omega, ?_⟩
  · rw [← set_next ys y n hk]
    exact (h.row.below hb).set ys.length y (by rw [List.length_append, List.length_replicate]; omega)
  · rw [List.length_append, List.length_singleton, List.take_add_one, hx, List.map_append]
    exact h.out.snoc ht
theorem NmAt.cell {w0 wr w2 : World} {g n : Nat} {ws : List (List UInt8)} {ys : List ByteArray} (h : NmAt w0 wr g n ws ys) (hk : ys.length < n) (hb : Below wr.heap.size wr w2) : (∃ u, w2.cell? ⟨g, ys.length, none⟩ = some u) ∧ w2.frozen? ⟨g, ys.length, none⟩ = false :=
  ⟨⟨_, (h.row.below hb).cells ys.length (by rw [List.length_append, List.length_replicate]; omega)⟩, (h.row.below hb).free ys.length (by rw [List.length_append, List.length_replicate]; omega)⟩
def more1 (m : Bool) : Nat := if m = true then 1 else 0
set_option maxRecDepth 100000 in
set_option maxHeartbeats 4000000 in
theorem hparse_e (s : ByteArray) (w : World) (he : AEnv w) (hs : s.size ≤ 1099511627) : Calls Tryz.prog 11 #[.string s] w (PrPost w s.data.toList) := by
  have hst : PrAt w w s.data.toList s true (.slice none 0 0) [] := ⟨Below.refl _ w, World.ownsRow_nil w _ _ _, fun _ => rfl, ⟨by simp, by simp, by simp⟩, by decide, by rw [Lib.size_eq]; exact Nat.le_refl _, fun l2 h => by rw [if_pos rfl] at h; exact h⟩
  obtain ⟨S, hS⟩ : ∃ S, S = s.data.toList := ⟨_, rfl⟩
  have hSl : S.length ≤ 1099511627 := by rw [hS, ← Lib.size_eq]; exact hs
  rw [← hS] at hst ⊢
  have HST := Lib.hid hst
  have HE := Lib.hid he
  have HSl := Lib.hid hSl
  clear hst he hSl hS
  go_enter Tryz.func11, Tryz.ntmps11
  go_wp2_with fail
  go_step3
  go_wp2
  go_step3
  go_wp2
  go_loopg [0, 3, 4, 5, 6, 7, 8, 9, 10, 11] (s.size + 1) (fun gk t l m _ _ _ _ _ _ _ wr => ∃ (tt : ByteArray) (mm : Bool) (ll : List HV), t = .string tt ∧ m = .bool mm ∧ tt.size + more1 mm ≤ gk ∧ PrAt w wr S tt mm l ll)
  case atStart => exact ⟨s, true, [], rfl, rfl, Nat.le_refl _, HST.out⟩
  case round =>
    obtain ⟨t, more, l, rfl, rfl, hgk, hat⟩ := hrel
    cases more
    · have HD := Lib.hid (hat.done (.inl rfl))
      clear hat
      go_wp2_with fail
      go_ret
      exact HD.out
    · have hrl : ∀ v n, wr.ownsRow w.heap.size 31 17 v n (hvs l) → ∃ B cap, v = .slice B n cap := fun v n h => own_form h
      by_cases hl : l.length < 64
      · obtain ⟨g, rfl⟩ : ∃ g, gk = g + 1 := ⟨gk - 1, by unfold more1 at hgk; rw [if_pos rfl] at hgk; omega⟩
        have htg : t.size ≤ g := by unfold more1 at hgk; rw [if_pos rfl] at hgk; omega
        have hts : t.size < 4294967281 := by have := hat.small; have := HSl.out; omega
        obtain ⟨B, cap, hv⟩ := own_form hat.row
        obtain ⟨m, hm⟩ := (HE.out.below hat.below).env.2
        have hcut := Tryz.strings_Cut t ⟨#[10]⟩ m wr hts hm
        have hca := cut_at10 t
        rw [show (ByteArray.mk #[10]).data.toList = [10] from rfl] at hcut
        generalize (ByteArray.mk (Go.Lib.cut t.data.toList [10]).1.toArray) = line at hcut hca
        generalize (ByteArray.mk (Go.Lib.cut t.data.toList [10]).2.1.toArray) = after at hcut hca
        generalize (Go.Lib.cut t.data.toList [10]).2.2 = found at hcut hca
        have hg' : after.size + more1 found ≤ g := by
          have := hca.le.2
          unfold more1
          cases found
          · rw [if_neg (by decide)]; omega
          · have := hca.less rfl
            rw [if_pos rfl]; omega
        have hls : line.size < 4294967281 := by have := hca.le.1; omega
        have hl64 : (l.length : Int) < 64 := by omega
        have HAT := Lib.hid hat
        have HCA := Lib.hid hca
        have HB := Lib.hid hat.below
        have HE1 := Lib.hid (HE.out.below hat.below)
        clear hat hca hm hgk hrl
        subst hv
        go_wp2_with fail
        refine hcut.mono ?_
        rintro e w1 ⟨rfl, q, rfl⟩
        clear hcut
        have hb1 : Below wr.heap.size wr (wr.drewN q) := below_drewQ (Below.refl _ wr) q
        have HB1 := Lib.hid hb1
        have hwd := words_e line (wr.drewN q) (HE1.out.below hb1) hls
        clear hb1
        go_wp2_with fail
        refine hwd.mono ?_
        rintro e w2 ⟨b, xs, hxs, rfl, hst, hb2⟩
        have HB2 := Lib.hid (HB1.out.trans (hb2.mono HB1.out.size))
        have HST := Lib.hid hst
        have HXS := Lib.hid hxs
        clear hwd hst hb2 hxs
        by_cases hx2 : xs.length < 2
        · have hx2' : (xs.length : Int) < 2 := by omega
          have hr : LineR line.data.toList none := .short (by rw [← HXS.out, List.length_map]; exact hx2)
          have HN := Lib.hid (HAT.out.skip hl HCA.out hr HB2.out)
          clear hr hx2
          go_wp2_with fail
          go_roundg g
          case measure => omega
          case rel => exact ⟨after, found, l, rfl, rfl, hg', HN.out⟩
        · obtain ⟨n, hxl⟩ : ∃ n, xs.length = n + 1 := ⟨xs.length - 1, by omega⟩
          have hn1 : 1 ≤ n := by omega
          have hwl : wordsL line.data.toList = (xs.getD 0 ByteArray.empty).data.toList :: xs.tail.map (·.data.toList) := by
            rw [← HXS.out]
            cases xs with
            | nil => simp at hxl
            | cons x t => rfl
          have hx0s : (xs.getD 0 ByteArray.empty).size ≤ line.size := by
            rw [Lib.size_eq, Lib.size_eq]
            exact words_len (by rw [hwl]; exact List.mem_cons_self)
          have hxt : xs.tail.length = n := by rw [List.length_tail, hxl]; rfl
          have hxg : ∀ k, k < n → xs.tail[k]? = some (xs.getD (1 + k) ByteArray.empty) := fun k hk => by
            rw [List.getElem?_tail, List.getD_eq_getElem?_getD, Nat.add_comm 1 k, List.getElem?_eq_getElem (by omega)]; rfl
          have hns : n ≤ 4294967281 := by
            have h1 := congrArg List.length HXS.out
            rw [List.length_map] at h1
            have h2 := fw_count (toldL line.data.toList) []
            have h3 := toldL_len line.data.toList
            rw [← Lib.size_eq] at h3
            unfold wordsL at h1
            omega
          have c0 : w2.cell? ⟨b, 0, none⟩ = some (.string (xs.getD 0 ByteArray.empty)) := HST.out.2 0 (by omega)
          have hpa := parse_e (xs.getD 0 ByteArray.empty) w2 (HE1.out.below HB2.out) (by omega)
          have hx2' : ¬ ((n : Int) + 1 < 2) := by omega
          have hsl := sl_one b n hn1 (by omega)
          have hmk := mk_str n (by omega)
          rw [hxl] at *
          obtain ⟨Z, hZ⟩ : ∃ Z, Z = (bvs zero16).toArray := ⟨_, rfl⟩
          have ZA : Hid ((Tryz.prog.info? 28).map (·.zero) = some (some (.agg Z))) := by rw [hZ]; exact zeroAddr
          have ZS : Hid ((Tryz.prog.info? 28).map (·.size) = some Z.size) := by rw [hZ]; exact sizeBv rfl
          have Z1 : Hid (Z.all (·.oneCell') = true) := by rw [hZ]; exact oneBv _
          have ZN : Hid (Z.size = 16) := by rw [hZ]; rfl
          have HZ := Lib.hid hZ
          have HWL := Lib.hid hwl
          have HXG := Lib.hid hxg
          have HXT := Lib.hid hxt
          generalize hx0 : xs.getD 0 ByteArray.empty = x0 at *
          clear hx0 hwl hxg hxt hx2 hZ hxl
          go_wp2_with fail
          refine hpa.mono ?_
          rintro e w3 ⟨hb3, hp⟩
          clear hpa
          rcases hp with ⟨a, hpa, hal, rfl⟩ | ⟨hpn, rfl⟩
          · have hS := sizeBv hal
            have h1 := oneBv a
            have hzr : Z.size = (bvs a).toArray.size := by rw [ZN.out, List.size_toArray, bvs_length, hal]
            have hbu := fun (A : Option Addr) (n c : Nat) => builtHost hal A n c
            have hcl : (bvs a ++ [Value.slice (some ⟨w3.heap.size + 1, 0, none⟩) n n]) = HV.cells ⟨⟨a, []⟩, 0, 0⟩ → True := fun _ => trivial
            obtain ⟨r, hr⟩ : ∃ r, r = (bvs a).toArray := ⟨_, rfl⟩
            simp only [← hr] at hS h1 hzr hbu ⊢
            have HB3 := Lib.hid (HB2.out.trans ((hb3.alloc hb3.size (.cells r 28)).mono HB2.out.size))
            have HST3 := Lib.hid (HST.out.below (hb3.alloc hb3.size (.cells r 28)))
            have HE3 := Lib.hid (HE1.out.below HB3.out)
            have HR3 := Lib.hid (Row.new w3 r)
            have hst0 : NmAt (w3.alloc (.cells r 28)) ((w3.alloc (.cells r 28)).alloc (.cells (madeCells #[.string ⟨#[]⟩] n) 9)) (w3.heap.size + 1) n (xs.tail.map (·.data.toList)) [] := by
              have hS0 := fill_start (n := n) (F := fun _ => .string ByteArray.empty) (z := .string ⟨#[]⟩) (t := 9) (Below.refl (w3.alloc (.cells r 28)).heap.size (w3.alloc (.cells r 28)))
              rw [World.size_alloc] at hS0
              refine ⟨(Below.refl _ _).alloc (Nat.le_refl _) _, ⟨hS0.lt, fun j hj => ?_, fun j hj => ?_⟩, Nat.zero_le _, .nil⟩
              · rw [List.nil_append, List.length_nil, Nat.sub_zero, List.length_replicate] at hj
                rw [hS0.cells j hj]
                unfold fillF
                rw [if_neg (Nat.not_lt_zero j), List.nil_append, List.length_nil, Nat.sub_zero, List.getD_eq_getElem?_getD, List.getElem?_replicate, if_pos hj]; rfl
              · rw [List.nil_append, List.length_nil, Nat.sub_zero, List.length_replicate] at hj
                exact hS0.free j hj
            have HS := Lib.hid hS
            have H1 := Lib.hid h1
            have HZR := Lib.hid hzr
            have HBu := Lib.hid hbu
            have HS0 := Lib.hid hst0
            have HR := Lib.hid hr
            have HPA := Lib.hid hpa
            have HAL := Lib.hid hal
            clear hS h1 hzr hbu hst0 hr hpa hal hb3 hcl
            go_wp2_with (first
              | (refine wpList_alloc_z rfl 28 rfl Z ZA.out ?_; go_simp)
              | (refine wpList_store_new rfl 28 (.tmp 7) (.tmp 34) rfl w3.heap.size rfl Z r 28 rfl rfl HS.out HZR.out H1.out ?_; go_simp))
            go_loopg [45, 8, 10, 11] n (fun gk i _ _ _ wr2 => ∃ (zs : List ByteArray), i = .int .i64 zs.length ∧ zs.length + gk = n ∧ NmAt (w3.alloc (.cells r 28)) wr2 (w3.heap.size + 1) n (xs.tail.map (·.data.toList)) zs)
            case atStart => exact ⟨[], rfl, by simp, HS0.out⟩
            case round =>
              obtain ⟨zs, rfl, hzk, hnm⟩ := hrel
              by_cases hkn : zs.length < n
              · obtain ⟨g2, rfl⟩ : ∃ g2, gk = g2 + 1 := ⟨gk - 1, by omega⟩
                have hbw := hnm.below
                have hxk := HXG.out zs.length hkn
                have hcx : wr.cell? ⟨b, 1 + zs.length, none⟩ = some (.string (xs.getD (1 + zs.length) ByteArray.empty)) := by
                  have h := HST3.out
                  rw [hbw.cell (p := ⟨b, 1 + zs.length, none⟩) h.1]
                  have := h.2 (1 + zs.length) (by have h5 := HXT.out; rw [List.length_tail] at h5; omega)
                  rwa [Nat.zero_add] at this
                have hwx : (xs.tail.map (·.data.toList))[zs.length]? = some (xs.getD (1 + zs.length) ByteArray.empty).data.toList := by rw [List.getElem?_map, hxk]; rfl
                have hxs2 : (xs.getD (1 + zs.length) ByteArray.empty).size ≤ 9223372036854775807 := by
                  have : (xs.getD (1 + zs.length) ByteArray.empty).data.toList ∈ wordsL line.data.toList := by
                    rw [HWL.out]
                    exact List.mem_cons_of_mem _ (List.mem_of_getElem? hwx)
                  have := words_len this
                  rw [← Lib.size_eq, ← Lib.size_eq] at this
                  omega
                have hkI : (zs.length : Int) < (n : Int) := by omega
                generalize xs.getD (1 + zs.length) ByteArray.empty = x at hcx hwx hxs2 hxk
                have hta := toASCII_any x wr (HE3.out.below hbw).env hxs2
                have HNM := Lib.hid hnm
                have HWX := Lib.hid hwx
                have HBW := Lib.hid hbw
                clear hnm hbw hwx hxk
                go_wp2_with fail
                refine hta.mono ?_
                rintro e w6 ⟨m, y, rfl, hb6, hty⟩
                obtain ⟨⟨u, hcu⟩, hfu⟩ := HNM.out.cell hkn hb6
                have HB6 := Lib.hid hb6
                have HTY := Lib.hid hty
                clear hta hb6 hty
                by_cases hm0 : m = 0
                · subst hm0
                  have HN := Lib.hid (HNM.out.step hkn (by rw [World.size_alloc]; exact Nat.le_refl _) HB6.out HWX.out HTY.out)
                  go_wp2_with fail
                  go_roundg g2
                  case measure => omega
                  case rel => exact ⟨zs ++ [y], by rw [List.length_append, List.length_singleton]; go_num, by rw [List.length_append, List.length_singleton]; omega, HN.out⟩
                · have hmI : ¬ (m : Int) = 0 := by omega
                  have HBs := Lib.hid ((HBW.out.trans (HB6.out.mono HBW.out.size)).setCell (p := ⟨w3.heap.size + 1, zs.length, none⟩) (by rw [World.size_alloc]; exact Nat.le_refl _) (.string y))
                  have HN := Lib.hid (HAT.out.skip hl HCA.out (.noname HWL.out (by intro e; have := congrArg List.length e; rw [List.length_map, HXT.out, List.length_nil] at this; omega) HPA.out (HNM.out.out.fail HWX.out HTY.out hm0)) (HB3.out.trans (HBs.out.mono HB3.out.size)))
                  go_wp2_with fail
                  go_roundg g
                  case measure => omega
                  case rel => exact ⟨after, found, l, rfl, rfl, hg', HN.out⟩
              · have hzn : zs.length = n := by have := hnm.len; omega
                subst hzn
                have hbw := hnm.below
                have hrow : StrsF wr (w3.heap.size + 1) zs := by
                  have := hnm.row
                  rwa [Nat.sub_self, List.replicate_zero, List.append_nil] at this
                have hout := hnm.out
                rw [List.take_of_length_le (by rw [List.length_map, HXT.out]; exact Nat.le_refl _)] at hout
                have hra := HR3.out.below hbw
                have hln : LineR line.data.toList (some ⟨a, zs.map (·.data.toList)⟩) := .ok HWL.out (by intro e; have := congrArg List.length e; rw [List.length_map, HXT.out, List.length_nil] at this; omega) HPA.out hout
                have hgd := hln.good
                have hzt : (zs.map (·.data.toList)).map tb = zs := by
                  rw [List.map_map]
                  conv => rhs; rw [← List.map_id zs]
                  exact List.map_congr_left fun z _ => bytes_inj rfl
                have hcs : HV.cells ⟨⟨a, zs.map (·.data.toList)⟩, w3.heap.size + 1, zs.length⟩ = bvs a ++ [Value.slice (some ⟨w3.heap.size + 1, 0, none⟩) zs.length zs.length] := by unfold HV.cells; simp only [List.length_map]
                have hkI : ¬ (zs.length : Int) < (zs.length : Int) := by omega
                have hbu := HBu.out (some ⟨w3.heap.size + 1, 0, none⟩) zs.length zs.length
                have HB9 := Lib.hid (HB3.out.trans (hbw.mono HB3.out.size))
                have HRA := Lib.hid hra
                have HLN := Lib.hid hln
                have HGD := Lib.hid hgd
                have HZT := Lib.hid hzt
                have HRO := Lib.hid hrow
                have HCS := Lib.hid hcs
                obtain ⟨cs, hcse⟩ : ∃ cs, cs = (bvs a ++ [Value.slice (some ⟨w3.heap.size + 1, 0, none⟩) zs.length zs.length]).toArray := ⟨_, rfl⟩
                rw [← hcse] at hbu
                have HI : Hid ((Tryz.prog.info? 31).map (fun i => (i.zero.map (fun z => z.cells.size), i.size)) = some (some 17, 17)) := Lib.hid (by kernel_rfl)
                have HSC : Hid (cs.size = 17) := Lib.hid (by rw [hcse, List.size_toArray, List.length_append, bvs_length, HAL.out]; rfl)
                have hba : Below wr.heap.size wr (wr.alloc (.cells cs 31)) := (Below.refl _ wr).alloc (Nat.le_refl _) _
                have hbo := HB9.out.trans (hba.mono HB9.out.size)
                have HB10 := Lib.hid (HAT.out.below.trans (hbo.mono HAT.out.below.size))
                have HO10 := Lib.hid (own_step HAT.out.row hbo)
                have HNS10 := Lib.hid (HAT.out.ns.below hbo)
                have HNil := Lib.hid HAT.out.nil
                have HW10 : Hid (w.heap.size ≤ (wr.alloc (.cells cs 31)).heap.size) := Lib.hid HB10.out.size
                have HRO10 := Lib.hid (hrow.below hba)
                have HC10 : Hid (∀ j u, (HV.cells ⟨⟨a, zs.map (·.data.toList)⟩, w3.heap.size + 1, zs.length⟩)[j]? = some u → (wr.alloc (.cells cs 31)).cell? ((⟨wr.heap.size, 0, none⟩ : Addr).add j) = some u) := Lib.hid (fun j u hj => by
                  rw [Addr.add_lit, Nat.zero_add, World.cell?_alloc_mark, hcse, List.getElem?_toArray, ← hcs]; exact hj)
                clear hba hbo
                have HCE := Lib.hid hcse
                have HBU := Lib.hid hbu
                clear hnm hbw hrow hout hra hln hgd hzt hcs hcse hbu
                go_wp2_with (first
                  | (refine wpList_load_row rfl 28 (.tmp 7) rfl w3.heap.size rfl 28 r (0, 0) _ HRA.out Tryz.underlying28 rfl HS.out ?_; go_simp)
                  | (refine wpList_build_z rfl 31 #[(0, .tmp 62), (1, .tmp 63)] rfl cs HBU.out ?_; go_simp)
                  | (refine wpList_slice1 rfl 24 31 (.tmp 64) rfl cs rfl 17 Tryz.underlying24 HI.out HSC.out (by decide) (by decide) ?_; go_simp)
                  | (refine own_append rfl (.tmp 61) (.tmp 65) rfl w.heap.size l.length _ l ⟨⟨a, zs.map (·.data.toList)⟩, w3.heap.size + 1, zs.length⟩ rfl HO10.out (by omega) HW10.out ⟨wr.heap.size, 0, none⟩ 1 rfl HAL.out HC10.out ?_; intro v' w11 ho11 hg11 hv11; have HO11 := Lib.hid ho11; have HG11 := Lib.hid hg11; clear ho11 hg11; go_simp))
                have hbf : Below w.heap.size w w11 := HB10.out.grown HG11.out HW10.out (fun k hk => (HO10.out.lt k hk).1)
                have hnsn : HNs w11 (l ++ [⟨⟨a, zs.map (·.data.toList)⟩, w3.heap.size + 1, zs.length⟩]) := by
                  refine HNs.snoc (HNS10.out.grown HO10.out HNil.out HG11.out) HGD.out ?_ (by show (zs.map _).length ≤ _; rw [List.length_map]; exact hns)
                  have hst := HRO10.out
                  have hne := own_apart HO10.out HNil.out HNS10.out.len hst.strs (by omega)
                  refine ⟨Nat.lt_of_lt_of_le hst.lt HG11.out.size, fun j hj => ?_⟩
                  rw [show (zs.map (·.data.toList)).map tb = zs from HZT.out] at hj ⊢
                  exact (World.cell?_of_block (a := ⟨w3.heap.size + 1, 0 + j, none⟩) (HG11.out.block _ hst.lt hne)).trans (hst.strs.2 j hj)
                have HN := Lib.hid (HAT.out.take hl HCA.out HLN.out hbf HO11.out hnsn)
                clear hbf hnsn
                go_roundg g
                case measure => omega
                case rel => exact ⟨after, found, _, rfl, rfl, hg', HN.out⟩
          · rw [← HZ.out]
            have HB3 := Lib.hid (HB2.out.trans ((hb3.alloc hb3.size (.cells Z 28)).mono HB2.out.size))
            have HN := Lib.hid (HAT.out.skip hl HCA.out (.noaddr HWL.out hpn) HB3.out)
            clear hb3 hpn
            go_wp2_with (first
              | (refine wpList_alloc_z rfl 28 rfl Z ZA.out ?_; go_simp)
              | (refine wpList_store_new rfl 28 (.tmp 7) (.tmp 34) rfl w3.heap.size rfl Z Z 28 rfl rfl ZS.out rfl Z1.out ?_; go_simp))
            go_roundg g
            case measure => omega
            case rel => exact ⟨after, found, l, rfl, rfl, hg', HN.out⟩
      · have HD := Lib.hid (hat.done (.inr (by have := hat.len; omega)))
        obtain ⟨B, cap, hv⟩ := own_form hat.row
        have hl64 : ¬ (l.length : Int) < 64 := by omega
        clear hat
        subst hv
        go_wp2_with fail
        go_ret
        exact HD.out
end Go.Proofs.YtclfmokdjmnjcaaGreatDoor
namespace Go.Proofs.YtclfmokdjmnjcaaGreatDoor
open Go.RowKit

/-- a record as it lies in memory -/
def rcells (n : ByteArray) (kind : Int) (r : RecM) : List Value := .string n :: .int .i64 kind :: .int .i64 0 :: (bvs r.addr ++ [.string (tb r.text), .string ⟨#[]⟩])
def rvsF (n : ByteArray) (kind : Int) (l : List RecM) : List Value := l.flatMap (rcells n kind)
theorem rcells_len {n : ByteArray} {kind : Int} {r : RecM} (h : r.addr.length = 16) : (rcells n kind r).length = 21 := by
  unfold rcells; simp [bvs_length, h]
theorem rcells_one (n : ByteArray) (kind : Int) (r : RecM) : ∀ v ∈ rcells n kind r, v.oneCell' = true := fun v hv => by
  unfold rcells at hv
  simp only [List.mem_cons, List.mem_append, List.not_mem_nil, or_false] at hv
  rcases hv with rfl | rfl | rfl | hv | rfl | rfl
  · rfl
  · rfl
  · rfl
  · exact bvs_one _ v hv
  · rfl
  · rfl
theorem rvsF_snoc (n : ByteArray) (kind : Int) (l : List RecM) (x : RecM) : rvsF n kind (l ++ [x]) = rvsF n kind l ++ rcells n kind x := by unfold rvsF; rw [List.flatMap_append]; simp
theorem rvsF_len {n : ByteArray} {kind : Int} : ∀ {l : List RecM}, (∀ x ∈ l, x.addr.length = 16) → (rvsF n kind l).length = l.length * 21
  | [], _ => rfl
  | x :: l, h => by
    have ih := rvsF_len (n := n) (kind := kind) (l := l) (fun y hy => h y (List.mem_cons_of_mem _ hy))
    unfold rvsF at ih ⊢
    rw [List.flatMap_cons, List.length_append, ih, rcells_len (h x List.mem_cons_self), List.length_cons]; omega
theorem rvsF_at {n : ByteArray} {kind : Int} : ∀ {l : List RecM} {i : Nat} {x : RecM} {j : Nat}, (∀ x ∈ l, x.addr.length = 16) → l[i]? = some x → j < 21 → (rvsF n kind l)[i * 21 + j]? = (rcells n kind x)[j]?
  | [], i, x, j, _, h, _ => by simp at h
  | y :: l, 0, x, j, hl, h, hj => by
    rw [List.getElem?_cons_zero, Option.some.injEq] at h
    subst h
    unfold rvsF
    rw [List.flatMap_cons, Nat.zero_mul, Nat.zero_add, List.getElem?_append_left (by rw [rcells_len (hl y List.mem_cons_self)]; exact hj)]
  | y :: l, i + 1, x, j, hl, h, hj => by
    have ih := rvsF_at (n := n) (kind := kind) (l := l) (i := i) (x := x) (j := j) (fun z hz => hl z (List.mem_cons_of_mem _ hz)) (by simpa using h) hj
    unfold rvsF at ih ⊢
    rw [List.flatMap_cons, List.getElem?_append_right (by rw [rcells_len (hl y List.mem_cons_self)]; omega), rcells_len (hl y List.mem_cons_self), show (i + 1) * 21 + j - 21 = i * 21 + j by omega, ih]
/-- a slice of records -/
def RecsV (w : World) (v : Value) (n : ByteArray) (kind : Int) (l : List RecM) : Prop := (l = [] ∧ v = .slice none 0 0) ∨ (l ≠ [] ∧ ∃ b c, v = .slice (some ⟨b, 0, none⟩) l.length c ∧ b < w.heap.size ∧ ∀ k u, (rvsF n kind l)[k]? = some u → w.cell? ⟨b, k, none⟩ = some u)
theorem RecsV.below {w w' : World} {v : Value} {n : ByteArray} {kind : Int} {l : List RecM} (h : RecsV w v n kind l) (hb : Below w.heap.size w w') : RecsV w' v n kind l := by
  rcases h with h | ⟨h, b, c, e, hlt, hc⟩
  · exact .inl h
  · exact .inr ⟨h, b, c, e, Nat.lt_of_lt_of_le hlt hb.size, fun k u hk => (hb.cell (p := ⟨b, k, none⟩) hlt).trans (hc k u hk)⟩
theorem RecsV.own {w : World} {base : Nat} {v : Value} {n : ByteArray} {kind : Int} {l : List RecM} (h : w.ownsRow base 40 21 v l.length (rvsF n kind l)) (hv : l = [] → v = .slice none 0 0) : RecsV w v n kind l := by
  rcases h.2 with ⟨e, h0⟩ | ⟨g, cap, cur, e, hb, hg, hc, hm, hs, ht⟩
  · exact .inl ⟨List.length_eq_zero_iff.1 h0, e⟩
  · by_cases h0 : l = []
    · exact .inl ⟨h0, hv h0⟩
    · refine .inr ⟨h0, g, cap, e, (Array.getElem?_eq_some_iff.1 hg).1, fun k v hk => ?_⟩
      rw [cell_of_row w g k cur _ (0, 0) hg, ← Array.getElem?_toList]
      rw [← ht] at hk
      have hkl := (List.getElem?_eq_some_iff.1 hk).1
      rw [List.length_take] at hkl
      rwa [List.getElem?_take_of_lt (by omega)] at hk
/-- how Find's loop stands behind k lines -/
structure FnAt (w wr : World) (ls : List HV) (n : ByteArray) (kind : Int) (k : Nat) (v : Value) (there : Bool) (rs : List RecM) : Prop where
  below : Below w.heap.size w wr
  row : wr.ownsRow w.heap.size 40 21 v rs.length (rvsF n kind rs)
  nil : rs = [] → v = .slice none 0 0
  recs : rs = ((ls.take k).map (·.h)).filterMap (recH n.data.toList kind)
  len : rs.length ≤ 32
  is : there = ((ls.take k).map (·.h)).any (hitH n.data.toList)
  addr : ∀ r ∈ rs, r.addr.length = 16
def FnPost (w : World) (ls : List HV) (n : ByteArray) (kind : Int) (e : Ending) (w' : World) : Prop :=
  ∃ v, e = .returned (.tuple #[v, .bool ((ls.map (·.h)).any (hitH n.data.toList))]) ∧ RecsV w' v n kind (findL (ls.map (·.h)) n.data.toList kind) ∧ Below w.heap.size w w'
theorem hit_of_rec {n : List UInt8} {kind : Int} {h : HostM} {r : RecM} (hr : recH n kind h = some r) : hitH n h = true := by
  unfold recH at hr
  unfold hitH
  by_cases he : rvT h.addr = n
  · rw [beq_iff_eq.2 he]; rfl
  · rw [if_neg he] at hr
    by_cases hc : h.names.contains n = true ∧ kind = famOf h.addr
    · rw [hc.1, Bool.or_true]
    · rw [if_neg hc] at hr; cases hr
theorem FnAt.done {w wr : World} {ls : List HV} {n : ByteArray} {kind : Int} {k : Nat} {v : Value} {there : Bool} {rs : List RecM} (h : FnAt w wr ls n kind k v there rs) (hd : k = ls.length ∨ rs.length = 32) : FnPost w ls n kind (.returned (.tuple #[v, .bool there])) wr := by
  have hlen := h.len
  have hsplit : ls.map (·.h) = (ls.take k).map (·.h) ++ (ls.drop k).map (·.h) := by rw [← List.map_append, List.take_append_drop]
  have hr : findL (ls.map (·.h)) n.data.toList kind = rs ∧ (ls.map (·.h)).any (hitH n.data.toList) = there := by
    unfold findL
    rcases hd with hd | hd
    · have e : ls.take k = ls := List.take_of_length_le (by omega)
      have h1 := h.recs
      have h2 := h.is
      rw [e] at h1 h2
      exact ⟨by rw [← h1, List.take_of_length_le hlen], h2.symm⟩
    · rw [hsplit, List.filterMap_append, ← h.recs, List.take_append_of_le_length (by omega), List.take_of_length_le (by omega), List.any_append, ← h.is]
      refine ⟨rfl, ?_⟩
      have : there = true := by
        rw [h.is, List.any_eq_true]
        match rs, hd, h.recs with
        | r :: rs, _, hrec =>
          have hm : r ∈ ((ls.take k).map (·.h)).filterMap (recH n.data.toList kind) := by rw [← hrec]; exact List.mem_cons_self
          obtain ⟨x, hx, hxr⟩ := List.mem_filterMap.1 hm
          exact ⟨x, hx, hit_of_rec hxr⟩
      rw [this]; rfl
  refine ⟨v, by rw [hr.2], ?_, h.below⟩
  rw [hr.1]
  exact RecsV.own h.row h.nil
theorem FnAt.skip {w wr w2 : World} {ls : List HV} {n : ByteArray} {kind : Int} {k : Nat} {v : Value} {there th' : Bool} {rs : List RecM} {x : HV} (h : FnAt w wr ls n kind k v there rs) (hx : ls[k]? = some x) (hr : recH n.data.toList kind x.h = none) (ht : th' = (there || hitH n.data.toList x.h)) (hb : Below wr.heap.size wr w2) : FnAt w w2 ls n kind (k + 1) v th' rs := by
  have e : (ls.take (k + 1)).map (·.h) = (ls.take k).map (·.h) ++ [x.h] := by rw [List.take_add_one, hx, List.map_append]; rfl
  refine ⟨h.below.trans (hb.mono h.below.size), own_step h.row hb, h.nil, ?_, h.len, ?_, h.addr⟩
  · rw [e, List.filterMap_append, ← h.recs, List.filterMap_cons_none hr, List.filterMap_nil, List.append_nil]
  · rw [e, List.any_append, ← h.is, ht]; simp
theorem FnAt.add {w wr w2 : World} {ls : List HV} {n : ByteArray} {kind : Int} {k : Nat} {v v' : Value} {there : Bool} {rs : List RecM} {x : HV} {r : RecM} (h : FnAt w wr ls n kind k v there rs) (hx : ls[k]? = some x) (hr : recH n.data.toList kind x.h = some r) (hl : rs.length < 32) (ha : r.addr.length = 16)
    (hb : Below w.heap.size w w2) (ho : w2.ownsRow w.heap.size 40 21 v' (rs.length + 1) (rvsF n kind (rs ++ [r]))) : FnAt w w2 ls n kind (k + 1) v' true (rs ++ [r]) := by
  have e : (ls.take (k + 1)).map (·.h) = (ls.take k).map (·.h) ++ [x.h] := by rw [List.take_add_one, hx, List.map_append]; rfl
  refine ⟨hb, by rw [List.length_append]; exact ho, fun e => by simp at e, ?_, by rw [List.length_append, List.length_singleton]; omega, ?_, fun y hy => ?_⟩
  · rw [e, List.filterMap_append, ← h.recs, List.filterMap_cons_some hr]; rfl
  · rw [e, List.any_append, List.any_cons, hit_of_rec hr]; simp
  · rcases List.mem_append.1 hy with hy | hy
    · exact h.addr y hy
    · rw [List.mem_singleton.1 hy]; exact ha
/-- a slice of lines, its address as it comes -/
def HostsA (w : World) (A : Option Addr) (ls : List HV) : Prop := ls ≠ [] → ∃ b, A = some ⟨b, 0, none⟩ ∧ HRow w b ls
theorem HostsV.form {w : World} {v : Value} {ls : List HV} (h : HostsV w v ls) : ∃ A c, v = .slice A ls.length c ∧ HostsA w A ls := by
  rcases h with ⟨rfl, rfl⟩ | ⟨_, b, c, rfl, _, hr⟩
  · exact ⟨none, 0, rfl, fun h => absurd rfl h⟩
  · exact ⟨_, c, rfl, fun _ => ⟨b, rfl, hr⟩⟩
theorem HostsA.below {w w' : World} {A : Option Addr} {ls : List HV} (h : HostsA w A ls) (hb : Below w.heap.size w w') : HostsA w' A ls := fun h0 => by
  obtain ⟨b, e, hr⟩ := h h0
  exact ⟨b, e, hr.below hb⟩
theorem FnAt.below' {w wr w2 : World} {ls : List HV} {n : ByteArray} {kind : Int} {k : Nat} {v : Value} {there : Bool} {rs : List RecM} (h : FnAt w wr ls n kind k v there rs) (hb : Below wr.heap.size wr w2) : FnAt w w2 ls n kind k v there rs :=
  ⟨h.below.trans (hb.mono h.below.size), own_step h.row hb, h.nil, h.recs, h.len, h.is, h.addr⟩
theorem HRow.load {w : World} {b : Nat} {ls : List HV} {k : Nat} {x : HV} (h : HRow w b ls) (hx : ls[k]? = some x) : ∀ j v, x.cells.toArray.toList[j]? = some v → w.cell? ((⟨b, k * 17, none⟩ : Addr).add j) = some v := fun j v hj => by
  have hl := HV.len (h.ns.len x (List.mem_of_getElem? hx))
  have hj' : x.cells[j]? = some v := hj
  have hjl := (List.getElem?_eq_some_iff.1 hj').1
  rw [Addr.add_lit]
  refine h.cells _ _ ?_
  rw [hvs_at h.ns.len hx (by omega)]
  exact hj'
/-- a line in a block of its own -/
structure HBlk (w : World) (g : Nat) (x : HV) : Prop where
  lt : g < w.heap.size
  byte : ∀ j v, (bvs x.h.addr).toArray.toList[j]? = some v → w.cell? ((⟨g, 0, none⟩ : Addr).add j) = some v
  nm : w.cell? ⟨g, 16, none⟩ = some (.slice (some ⟨x.g, 0, none⟩) x.h.names.length x.c)
  names : Strs w x.g (x.h.names.map tb)
theorem HBlk.below {w w' : World} {g : Nat} {x : HV} (h : HBlk w g x) (hb : Below w.heap.size w w') : HBlk w' g x :=
  ⟨Nat.lt_of_lt_of_le h.lt hb.size, fun j v hj => by
    have := h.byte j v hj
    rw [Addr.add_lit] at this ⊢
    exact (hb.cell (p := ⟨g, 0 + j, none⟩) h.lt).trans this, (hb.cell (p := ⟨g, 16, none⟩) h.lt).trans h.nm, h.names.below hb⟩
theorem HBlk.new {w : World} {x : HV} (hl : x.h.addr.length = 16) (hs : Strs w x.g (x.h.names.map tb)) : HBlk (w.alloc (.cells x.cells.toArray 31)) w.heap.size x := by
  have hb : Below w.heap.size w (w.alloc (.cells x.cells.toArray 31)) := (Below.refl _ w).alloc (Nat.le_refl _) _
  refine ⟨by rw [World.size_alloc]; omega, fun j v hj => ?_, ?_, hs.below hb⟩
  · have hj' : (bvs x.h.addr)[j]? = some v := hj
    have hjl := (List.getElem?_eq_some_iff.1 hj').1
    rw [Addr.add_lit, Nat.zero_add, World.cell?_alloc_mark, List.getElem?_toArray]
    unfold HV.cells
    rw [List.getElem?_append_left hjl]; exact hj'
  · rw [World.cell?_alloc_mark, List.getElem?_toArray]; exact HV.nm hl
/-- a whole value is loaded cell by cell, under a guard that holds -/
theorem wpList_aggr_gh {P : Program} {ops : Array Oper} {rest : List Oper} {o : Oper} {a : Act} {Q : Exit → Act → World → Prop} {w : World} (ty : TypeId) (x : Operand) (hw : Region.wanted o (yielded ops a.tmps) = true) (ho : o.op = .load ty x) (p : Addr) (cs : Array Value)
    (hx : a.eval x = .pointer (some p)) (hc : ∀ j v, cs.toList[j]? = some v → w.cell? (p.add j) = some v) (n : Nat) (e : TypeId)
    (hu : P.underlying ty = some (.array n e)) (hi : (P.info? ty).map (·.size) = some cs.size)
    (h : wpList P ops Q rest (a.put o.dst (.agg cs)) w) : wpList P ops Q (o :: rest) a w := by
  unfold wpList
  rw [if_pos hw]
  left
  have hlv := run_load_agg (P := P) (w := w) ty p cs (.array n e) hc hu rfl hi
  unfold Oper.wp execOp
  simp only [ho, hx, Instr.loadAt, Instr.sureAddr, Sem.run_bind, Sem.run_pure, Result.andThen_ok, hlv]
  exact h
/-- one cell of a block of which all is known -/
theorem wpList_store_1 {P : Program} {ops : Array Oper} {rest : List Oper} {o : Oper} {a : Act} {Q : Exit → Act → World → Prop} {w : World} (hgd : o.guard = none) (ty : TypeId) (x y : Operand) (ho : o.op = .store ty x y) (g off : Nat) (z z' : Array Value) (t : TypeId) (hg : w.heap[g]? = some (.cells z t (0, 0)))
    (hx : a.eval x = .pointer (some ⟨g, off, none⟩)) (v : Value) (hy : a.eval y = v) (hi : (P.info? ty).map (·.size) = some 1) (h1 : v.oneCell' = true) (hz : off < z.size) (he : (z.toList.take off ++ [v] ++ z.toList.drop (off + 1)).toArray = z')
    (h : ∀ w', Hid (w'.heap[g]? = some (.cells z' t (0, 0))) → Hid (w.grownBy w' (some g)) → w'.heap.size = w.heap.size → wpList P ops Q rest (a.put o.dst undef) w') : wpList P ops Q (o :: rest) a w :=
  wpList_plain hgd fun _ hK => by
    have hst := run_storeCells_at P g off t [v] 0 z w hg (by simp; omega) (fun u hu => by rw [List.mem_singleton.1 hu]; exact h1)
    simp only [Nat.add_zero, List.length_singleton, he] at hst
    have hc : v.cells = #[v] := by cases v <;> first | rfl | cases h1
    have hsv : (storeVar ty ⟨g, off, none⟩ v).run P w = .ok () (w.setRow g z') := by
      cases hq : P.info? ty with
      | none => simp [hq] at hi
      | some i =>
        have hs : i.size = 1 := by simpa [hq] using hi
        simp [storeVar, sizeOf, typeInfo, hq, hc, hs, hst]
    unfold Oper.wp execOp
    simp only [ho, hx, hy, Instr.storeAt, Instr.sureAddr, Sem.run_bind, Sem.run_pure, Result.andThen_ok, hsv]
    exact hK _ _ (h _ (setRow_heap w g z z' t _ hg) ⟨rfl, rfl, rfl, by simp, fun k _ hk => setRow_other w g k z' (fun e => hk (by rw [e]))⟩ (by simp))
theorem rcells_text (n : ByteArray) (kind : Int) (t : List UInt8) : (((rcells n kind ⟨zero16', []⟩).toArray.toList.take 19 ++ [Value.string (tb t)] ++ (rcells n kind ⟨zero16', []⟩).toArray.toList.drop (19 + 1)).toArray) = (rcells n kind ⟨zero16', t⟩).toArray := by rfl
theorem rcells_addr (n : ByteArray) (kind : Int) {x : List UInt8} (h : x.length = 16) : (((rcells n kind ⟨zero16', []⟩).toArray.toList.take 3 ++ (bvs x).toArray.toList ++ (rcells n kind ⟨zero16', []⟩).toArray.toList.drop (3 + (bvs x).toArray.size)).toArray) = (rcells n kind ⟨x, []⟩).toArray := by
  rw [List.size_toArray, bvs_length, h]
  unfold rcells
  rfl
theorem builtRec (n : ByteArray) (k : Int) : Tryz.prog.built 40 [(0, .string n), (1, .int .i64 k)] = some (rcells n k ⟨zero16', []⟩).toArray := by kernel_rfl
theorem zeroRec : (Tryz.prog.info? 40).map (fun i => (i.zero, i.size, i.bytes)) = some (some (.agg (rcells ⟨#[]⟩ 0 ⟨zero16', []⟩).toArray), 21, 80) := by kernel_rfl
/-- a record more behind a row of the call's own -/
theorem own_appendR {ops : Array Oper} {rest : List Oper} {o : Oper} {a : Act} {Q : Exit → Act → World → Prop} {w : World} (hgd : o.guard = none) (s x : Operand) (ho : o.op = .call { callee := .builtin .append, args := #[s, x], argTypes := #[36, 36] })
    (base m : Nat) (v : Value) (n : ByteArray) (kind : Int) (l : List RecM) (y : RecM) (hs : a.eval s = v) (hown : w.ownsRow base 40 21 v m (rvsF n kind l)) (hn : m ≤ 1000) (hbase : base ≤ w.heap.size)
    (ad : Addr) (c1 : Nat) (hx : a.eval x = .slice (some ad) 1 c1) (hy16 : y.addr.length = 16) (hy : ∀ j u, (rcells n kind y)[j]? = some u → w.cell? (ad.add j) = some u)
    (h : ∀ v' w', w'.ownsRow base 40 21 v' (m + 1) (rvsF n kind (l ++ [y])) → w.grownBy w' v.ownBlock → wpList Tryz.prog ops Q rest (a.put o.dst v') w') : wpList Tryz.prog ops Q (o :: rest) a w := by
  obtain ⟨i0, hi, hz0, hz1, hz2⟩ := info_parts zeroRec
  refine wpList_append_own (w := w) hgd s x 36 ho base 40 i0 _ 21 80 Tryz.underlying36 hi hz0 hz1 hz2 (by kernel_rfl) (by decide) v m (rvsF n kind l) hs hown ad 1 c1 (rcells n kind y) hx (by rw [rcells_len hy16]) hy (rcells_one _ _ _) (by unfold maxLen; omega) (by omega) hbase (fun v' w' h2 h3 _ => h v' w' (by rw [rvsF_snoc]; exact h2) h3)
set_option maxRecDepth 100000 in
set_option maxHeartbeats 4000000 in
theorem find_e (A : Option Addr) (c len : Nat) (ls : List HV) (n : ByteArray) (kind : Int) (w : World) (he : AEnv w) (hls : HostsA w A ls) (hlen : ls.length = len) (hl : len ≤ 64) :
    Calls Tryz.prog 14 #[.slice A len c, .string n, .int .i64 kind] w (FnPost w ls n kind) := by
  have hst : FnAt w w ls n kind 0 (.slice none 0 0) false [] := ⟨Below.refl _ w, World.ownsRow_nil w _ _ _, fun _ => rfl, rfl, by decide, rfl, by simp⟩
  have HST := Lib.hid hst
  have HE := Lib.hid he
  have HLS := Lib.hid hls
  clear hst he hls
  go_enter Tryz.func14, Tryz.ntmps14
  go_wp2_with fail
  go_loopg [16, 8, 9, 11, 12, 13] len (fun gk i v th _ _ _ wr => ∃ (k : Nat) (tt : Bool) (rs : List RecM), i = .int .i64 k ∧ k + gk = len ∧ th = .bool tt ∧ FnAt w wr ls n kind k v tt rs)
  case atStart => exact ⟨0, false, [], rfl, by simp, rfl, HST.out⟩
  case round =>
    obtain ⟨k, there, rs, rfl, hk, rfl, hat⟩ := hrel
    obtain ⟨B, cap, hv⟩ := own_form hat.row
    subst hv
    by_cases hlt : k < len
    · obtain ⟨g, rfl⟩ : ∃ g, gk = g + 1 := ⟨gk - 1, by omega⟩
      obtain ⟨x, hx⟩ : ∃ x, ls[k]? = some x := ⟨_, List.getElem?_eq_getElem (by omega)⟩
      obtain ⟨b, rfl, hrow⟩ := (HLS.out.below hat.below) (by intro e; rw [e] at hlen; simp at hlen; omega)
      have hgx := hrow.ns.good x (List.mem_of_getElem? hx)
      have hkI : (k : Int) < (len : Int) := by omega
      have hld := hrow.load hx
      have hnm := hrow.ns.names x (List.mem_of_getElem? hx)
      have hbk : HBlk (wr.alloc (.cells x.cells.toArray 31)) wr.heap.size x := HBlk.new hgx.len hnm
      have hsm : x.h.names.length ≤ 4294967281 := hrow.ns.small x (List.mem_of_getElem? hx)
      have hsc : x.cells.toArray.size = 17 := by rw [List.size_toArray]; exact HV.len hgx.len
      have hc1 : x.cells.toArray.all (·.oneCell') = true := by rw [List.all_toArray]; exact List.all_eq_true.2 x.one
      obtain ⟨cs, hcs⟩ : ∃ cs, cs = x.cells.toArray := ⟨_, rfl⟩
      rw [← hcs] at hld hbk hsc hc1
      obtain ⟨ZH, hZH⟩ : ∃ ZH, ZH = (bvs zero16).toArray.push (.slice none 0 0) := ⟨_, rfl⟩
      have HZA : Hid ((Tryz.prog.info? 31).map (·.zero) = some (some (.agg ZH))) := Lib.hid (by rw [hZH]; kernel_rfl)
      have HZS : Hid (ZH.size = cs.size) := Lib.hid (by rw [hZH, hsc]; rfl)
      have HSI : Hid ((Tryz.prog.info? 31).map (·.size) = some cs.size) := Lib.hid (by rw [hsc]; kernel_rfl)
      have huH := Tryz.underlying31
      have huA := Tryz.underlying28
      have hb0 : Below wr.heap.size wr (wr.alloc (.cells cs 31)) := (Below.refl _ wr).alloc (Nat.le_refl _) _
      have HLD := Lib.hid hld
      have HC1 := Lib.hid hc1
      have HBK := Lib.hid hbk
      have HAT := Lib.hid (hat.below' hb0)
      have HBW := Lib.hid hb0
      have HBa := Lib.hid hat.below
      have HX := Lib.hid hx
      have HGX := Lib.hid hgx
      have HE0 := Lib.hid (HE.out.below (hat.below.trans (hb0.mono hat.below.size)))
      have hrl := hat.len
      have hSa := sizeBv hgx.len
      have HRv := Lib.hid (fun W (hW : AEnv W) => rv_e x.h.addr hgx.len W hW)
      have HFa := Lib.hid (fun W => family_e x.h.addr hgx.len W)
      obtain ⟨r, hr⟩ : ∃ r, r = (bvs x.h.addr).toArray := ⟨_, rfl⟩
      simp only [← hr] at HRv HFa hSa
      have HSa := Lib.hid hSa
      have hby : ∀ W g, HBlk W g x → ∀ j v, r.toList[j]? = some v → W.cell? ((⟨g, 0, none⟩ : Addr).add j) = some v := fun W g h => by rw [hr]; exact h.byte
      have HBy := Lib.hid hby
      have HR := Lib.hid hr
      clear hat hrow hld hnm hbk hsc hc1 hZH hb0 hx hgx hSa hr hcs hby
      by_cases h32 : rs.length = 32
      · have h32' : (rs.length : Int) = 32 := by omega
        have HD := Lib.hid (HAT.out.done (.inr h32))
        go_wp2_with (first
          | (refine wpList_load_agg rfl 31 (.tmp 18) rfl ⟨b, k * 17, none⟩ rfl cs _ HLD.out huH rfl HSI.out ?_; go_simp)
          | (refine wpList_alloc_z rfl 31 rfl ZH HZA.out ?_; go_simp)
          | (refine wpList_store_new rfl 31 (.tmp 11) (.tmp 19) rfl wr.heap.size rfl ZH cs 31 rfl rfl HSI.out HZS.out HC1.out ?_; go_simp))
        go_ret2
        have hd := HD.out
        rw [h32] at hd
        exact hd
      · have h32' : ¬ (rs.length : Int) = 32 := by omega
        go_wp2_with (first
          | (refine wpList_load_agg rfl 31 (.tmp 18) rfl ⟨b, k * 17, none⟩ rfl cs _ HLD.out huH rfl HSI.out ?_; go_simp)
          | (refine wpList_alloc_z rfl 31 rfl ZH HZA.out ?_; go_simp)
          | (refine wpList_store_new rfl 31 (.tmp 11) (.tmp 19) rfl wr.heap.size rfl ZH cs 31 rfl rfl HSI.out HZS.out HC1.out ?_; go_simp)
          | (refine wpList_load_agg rfl 28 (.tmp 23) rfl ⟨wr.heap.size, 0, none⟩ rfl r _ (HBy.out _ _ HBK.out) huA rfl HSa.out ?_; go_simp))
        refine (HRv.out _ HE0.out).mono ?_
        rintro e w2 ⟨rfl, hb2⟩
        have HB2 := Lib.hid hb2
        have HBK2 := Lib.hid (HBK.out.below hb2)
        have HE2 := Lib.hid (HE0.out.below hb2)
        have HAT2 := Lib.hid (HAT.out.below' hb2)
        clear hb2
        have hnl : 0 < x.h.names.length := List.length_pos_iff.2 HGX.out.ne
        have hnI : (0 : Int) < (x.h.names.length : Int) := by omega
        have hrs : rs.length < 32 := by omega
        obtain ⟨T, hT⟩ : ∃ T, T = tb (rvT x.h.addr) := ⟨_, rfl⟩
        rw [← hT]
        obtain ⟨rc, hrc⟩ : ∃ rc, rc = (rcells n kind ⟨zero16', []⟩).toArray := ⟨_, rfl⟩
        have hbr := builtRec n kind
        rw [← hrc] at hbr
        have hrs1 : (Tryz.prog.info? 40).map (·.size) = some rc.size := by rw [hrc, List.size_toArray, rcells_len (by rfl)]; kernel_rfl
        have hrc1 : rc.all (·.oneCell') = true := by rw [hrc, List.all_toArray]; exact List.all_eq_true.2 (rcells_one _ _ _)
        have hrcs : rc.size = 21 := by rw [hrc, List.size_toArray, rcells_len (by rfl)]
        obtain ⟨ZR, hZR⟩ : ∃ ZR, ZR = (rcells ⟨#[]⟩ 0 ⟨zero16', []⟩).toArray := ⟨_, rfl⟩
        have HZR : Hid ((Tryz.prog.info? 40).map (·.zero) = some (some (.agg ZR))) := Lib.hid (by rw [hZR]; kernel_rfl)
        have HZRS : Hid (ZR.size = rc.size) := Lib.hid (by rw [hZR, hrcs, List.size_toArray, rcells_len (by rfl)])
        have HBR := Lib.hid hbr
        have HRS := Lib.hid hrs1
        have HRC1 := Lib.hid hrc1
        have HRC := Lib.hid hrc
        have HRN := Lib.hid hrcs
        have huR := Tryz.underlying40
        have HRI : Hid ((Tryz.prog.info? 40).map (fun i => (i.zero.map (fun z => z.cells.size), i.size)) = some (some 21, 21)) := Lib.hid (by kernel_rfl)
        clear hbr hrs1 hrc1 hrc hZR hrcs
        by_cases he : rvT x.h.addr = n.data.toList
        · have hTn : T = n := bytes_inj (by rw [hT, tb_data, he])
          have hhit : true = (there || hitH n.data.toList x.h) := by unfold hitH; rw [he, beq_self_eq_true]; simp
          clear hT
          subst hTn
          have HHI := Lib.hid hhit
          clear hhit
          by_cases h12 : kind = 12
          · subst h12
            have hrr : recH T.data.toList 12 x.h = some ⟨zero16', x.h.names.headD []⟩ := by unfold recH; rw [if_pos he, if_pos ⟨rfl, HGX.out.ne⟩]
            obtain ⟨t0, ht0⟩ : ∃ t0, t0 = x.h.names.headD [] := ⟨_, rfl⟩
            rw [← ht0] at hrr
            have htx := rcells_text T 12 t0
            rw [← HRC.out] at htx
            obtain ⟨rc2, hrc2⟩ : ∃ rc2, rc2 = (rcells T 12 ⟨zero16', t0⟩).toArray := ⟨_, rfl⟩
            rw [← hrc2] at htx
            have HTX := Lib.hid htx
            have HRN2 : Hid (rc2.size = 21) := Lib.hid (by rw [hrc2, List.size_toArray, rcells_len (by rfl)])
            have HRS2 : Hid ((Tryz.prog.info? 40).map (·.size) = some rc2.size) := Lib.hid (by rw [HRN2.out]; kernel_rfl)
            have hb3 : Below w2.heap.size w2 (w2.alloc (.cells rc 40)) := (Below.refl _ w2).alloc (Nat.le_refl _) _
            have HBK3 := Lib.hid (HBK2.out.below hb3)
            have HR3 := Lib.hid (heap_alloc_last w2 (.cells rc 40))
            have c16 := HBK3.out.nm
            have hc0 : (w2.alloc (.cells rc 40)).cell? ⟨x.g, 0, none⟩ = some (.string (tb t0)) := by
              have := HBK3.out.names.2 0 (by rw [List.length_map]; exact hnl)
              rw [Nat.zero_add] at this
              rw [this, ht0]
              cases hnn : x.h.names with
              | nil => rw [hnn] at hnl; cases hnl
              | cons y ys => rfl
            have HB4F := Lib.hid (fun w4 (hg : Hid ((w2.alloc (.cells rc 40)).grownBy w4 (some w2.heap.size))) => hb3.grown hg.out (by rw [World.size_alloc]; omega) (fun k hk => by injection hk with hk; omega))
            have HCF := Lib.hid (fun (w4 : World) j u (hj : (rcells T 12 ⟨zero16', t0⟩)[j]? = some u) => (show (w4.alloc (.cells rc2 40)).cell? ((⟨w4.heap.size, 0, none⟩ : Addr).add j) = some u by rw [Addr.add_lit, Nat.zero_add, World.cell?_alloc_mark, hrc2, List.getElem?_toArray]; exact hj))
            have HOF := Lib.hid (fun w4 hg => own_step HAT2.out.row ((HB4F.out w4 hg).alloc (HB4F.out w4 hg).size (.cells rc2 40)))
            have HBF := Lib.hid (fun w4 hg => HAT2.out.below.trans (((HB4F.out w4 hg).alloc (HB4F.out w4 hg).size (.cells rc2 40)).mono HAT2.out.below.size))
            have HRR := Lib.hid hrr
            have HT0 := Lib.hid ht0
            have hs21 : rc.size = 21 := HRN.out
            have hzl : (⟨zero16', t0⟩ : RecM).addr.length = 16 := rfl
            have HS1 : Hid ((Tryz.prog.info? 9).map (·.size) = some 1) := Lib.hid (by kernel_rfl)
            clear htx hrc2 hb3 hrr ht0
            generalize hy0 : tb t0 = y0 at hc0
            rw [hy0] at HTX
            clear hy0
            go_wp2_with (first
              | (refine wpList_build_z rfl 40 #[(0, .tmp 37), (1, .tmp 38)] rfl rc HBR.out ?_; go_simp)
              | (refine wpList_alloc_z rfl 40 rfl ZR HZR.out ?_; go_simp)
              | (refine wpList_store_new rfl 40 (.tmp 13) (.tmp 39) rfl w2.heap.size rfl ZR rc 40 rfl rfl HRS.out HZRS.out HRC1.out ?_; go_simp)
              | (refine wpList_store_1 rfl 9 (.tmp 56) (.tmp 55) rfl w2.heap.size 19 rc rc2 40 HR3.out rfl (.string y0) rfl HS1.out rfl (by rw [hs21]; decide) HTX.out ?_; intro w4 hr4 hg4 hs4; have HS4 := Lib.hid hs4; clear hs4; go_simp)
              | (refine wpList_load_row rfl 40 (.tmp 13) rfl w2.heap.size rfl 40 rc2 (0, 0) _ hr4.out huR rfl HRS2.out ?_; go_simp)
              | (refine wpList_slice1 rfl 36 40 (.tmp 71) rfl rc2 rfl 21 Tryz.underlying36 HRI.out HRN2.out (by decide) (by decide) ?_; go_simp)
              | (refine own_appendR rfl (.tmp 70) (.tmp 72) rfl w.heap.size rs.length _ T 12 rs ⟨zero16', t0⟩ rfl (HOF.out _ hg4) (by omega) (HBF.out _ hg4).size ⟨w4.heap.size, 0, none⟩ 1 rfl hzl (HCF.out w4) ?_; intro v' w6 ho6 hg6; have HO6 := Lib.hid ho6; have HG6 := Lib.hid hg6; clear ho6 hg6; go_simp))
            have hb6 : Below w.heap.size w w6 := (HBF.out _ hg4).grown HG6.out (HBF.out _ hg4).size (fun k hk => ((HOF.out _ hg4).lt k hk).1)
            have HN := Lib.hid (HAT2.out.add HX.out HRR.out hrs hzl hb6 HO6.out)
            go_roundg g
            case measure => omega
            case rel => exact ⟨k + 1, true, _, by go_num, by omega, rfl, HN.out⟩
          · have hrn : recH T.data.toList kind x.h = none := by unfold recH; rw [if_pos he, if_neg (fun h => h12 h.1)]
            have HBK3 := Lib.hid (HBK2.out.below ((Below.refl _ w2).alloc (Nat.le_refl _) (.cells rc 40)))
            have HN := Lib.hid (HAT2.out.skip HX.out hrn HHI.out ((Below.refl _ w2).alloc (Nat.le_refl _) (.cells rc 40)))
            have c16 := HBK3.out.nm
            clear hrn
            go_wp2_with (first
              | (refine wpList_build_z rfl 40 #[(0, .tmp 37), (1, .tmp 38)] rfl rc HBR.out ?_; go_simp)
              | (refine wpList_alloc_z rfl 40 rfl ZR HZR.out ?_; go_simp)
              | (refine wpList_store_new rfl 40 (.tmp 13) (.tmp 39) rfl w2.heap.size rfl ZR rc 40 rfl rfl HRS.out HZRS.out HRC1.out ?_; go_simp))
            go_roundg g
            case measure => omega
            case rel => exact ⟨k + 1, true, rs, by go_num, by omega, rfl, HN.out⟩
        · have hne : (T.toList == n.toList) = false := bytes_neq (fun h => he (by rw [← h, hT, tb_data]))
          have HHa := Lib.hid (has_e x.g x.c x.h.names.length (x.h.names.map tb) n w2 HBK2.out.names (by rw [List.length_map]) (by omega))
          rw [containsS_tb] at HHa
          have c16 := HBK2.out.nm
          by_cases hin : x.h.names.contains n.data.toList = true
          · rw [hin] at HHa
            have hhit : true = (there || hitH n.data.toList x.h) := by unfold hitH; rw [hin]; simp
            have hb3 : Below w2.heap.size w2 (w2.alloc (.cells rc 40)) := (Below.refl _ w2).alloc (Nat.le_refl _) _
            have HBK3 := Lib.hid (HBK2.out.below hb3)
            have HR3 := Lib.hid (heap_alloc_last w2 (.cells rc 40))
            have HB3 := Lib.hid hb3
            have HHI := Lib.hid hhit
            clear hb3 hhit hT
            by_cases hf : kind = famOf x.h.addr
            · have hrr : recH n.data.toList kind x.h = some ⟨x.h.addr, []⟩ := by unfold recH; rw [if_neg he, if_pos ⟨hin, hf⟩]
              have htx := rcells_addr n kind HGX.out.len
              rw [← HRC.out, ← HR.out] at htx
              obtain ⟨rc2, hrc2⟩ : ∃ rc2, rc2 = (rcells n kind ⟨x.h.addr, []⟩).toArray := ⟨_, rfl⟩
              rw [← hrc2] at htx
              have HTX := Lib.hid htx
              have HRN2 : Hid (rc2.size = 21) := Lib.hid (by rw [hrc2, List.size_toArray, rcells_len HGX.out.len])
              have HRS2 : Hid ((Tryz.prog.info? 40).map (·.size) = some rc2.size) := Lib.hid (by rw [HRN2.out]; kernel_rfl)
              have HR1 : Hid (r.all (·.oneCell') = true) := Lib.hid (by rw [HR.out]; exact oneBv _)
              have HR16 : Hid (r.size = 16) := Lib.hid (by rw [HR.out, List.size_toArray, bvs_length, HGX.out.len])
              have HRR := Lib.hid hrr
              have hzl : (⟨x.h.addr, []⟩ : RecM).addr.length = 16 := HGX.out.len
              have HCF := Lib.hid (fun (w4 : World) j u (hj : (rcells n kind ⟨x.h.addr, []⟩)[j]? = some u) => (show (w4.alloc (.cells rc2 40)).cell? ((⟨w4.heap.size, 0, none⟩ : Addr).add j) = some u by rw [Addr.add_lit, Nat.zero_add, World.cell?_alloc_mark, hrc2, List.getElem?_toArray]; exact hj))
              have HF3 := Lib.hid (HFa.out (w2.alloc (.cells rc 40)))
              clear htx hrc2 hrr
              rw [← hf] at HF3
              clear hf he
              have hs3 : 3 + r.size ≤ rc.size := by rw [HR16.out, HRN.out]; decide
              go_wp2_with (first
                | (go_at_call 17; refine HHa.out.mono ?_; rintro e w' ⟨rfl, hw⟩; obtain rfl := hw.symm)
                | (refine wpList_build_z rfl 40 #[(0, .tmp 37), (1, .tmp 38)] rfl rc HBR.out ?_; go_simp)
                | (refine wpList_alloc_z rfl 40 rfl ZR HZR.out ?_; go_simp)
                | (refine wpList_store_new rfl 40 (.tmp 13) (.tmp 39) rfl w2.heap.size rfl ZR rc 40 rfl rfl HRS.out HZRS.out HRC1.out ?_; go_simp)
                | (refine wpList_aggr_gh 28 (.tmp 62) rfl rfl ⟨wr.heap.size, 0, none⟩ r rfl (HBy.out _ _ HBK3.out) 16 5 huA HSa.out ?_; go_simp)
                | (go_at_call 29; refine HF3.out.mono ?_; rintro e w5 ⟨rfl, hb5⟩; have HB5 := Lib.hid hb5; have HBK5 := Lib.hid (HBK3.out.below hb5); have HR5 := Lib.hid ((hb5.block _ (by rw [World.size_alloc]; omega)).trans HR3.out); clear hb5)
                | (refine wpList_load_agg rfl 28 (.tmp 67) rfl ⟨wr.heap.size, 0, none⟩ rfl r _ (HBy.out _ _ HBK5.out) huA rfl HSa.out ?_; go_simp)
                | (refine wpList_store_sub rfl 28 (.tmp 69) (.tmp 68) rfl w2.heap.size 3 rc r rc2 40 HR5.out rfl rfl HSa.out hs3 HR1.out HTX.out ?_; intro w6 hr6 hg6 hs6; have HS6 := Lib.hid hs6; have HB6 := Lib.hid ((HB3.out.trans (HB5.out.mono HB3.out.size)).grown hg6.out (by have := HB5.out.size; rw [World.size_alloc] at this; omega) (fun k hk => by injection hk with hk; omega)); clear hs6; go_simp)
                | (refine wpList_load_row rfl 40 (.tmp 13) rfl w2.heap.size rfl 40 rc2 (0, 0) _ hr6.out huR rfl HRS2.out ?_; go_simp)
                | (refine wpList_slice1 rfl 36 40 (.tmp 71) rfl rc2 rfl 21 Tryz.underlying36 HRI.out HRN2.out (by decide) (by decide) ?_; have HO6 := Lib.hid (own_step HAT2.out.row (HB6.out.alloc HB6.out.size (.cells rc2 40))); have HB7 := Lib.hid (HAT2.out.below.trans ((HB6.out.alloc HB6.out.size (.cells rc2 40)).mono HAT2.out.below.size)); go_simp)
                | (refine own_appendR rfl (.tmp 70) (.tmp 72) rfl w.heap.size rs.length _ n kind rs ⟨x.h.addr, []⟩ rfl HO6.out (by omega) HB7.out.size ⟨w6.heap.size, 0, none⟩ 1 rfl hzl (HCF.out w6) ?_; intro v' w8 ho8 hg8; have HO8 := Lib.hid ho8; have HG8 := Lib.hid hg8; clear ho8 hg8; go_simp))
              have hb8 : Below w.heap.size w w8 := HB7.out.grown HG8.out HB7.out.size (fun k hk => (HO6.out.lt k hk).1)
              have HN := Lib.hid (HAT2.out.add HX.out HRR.out hrs hzl hb8 HO8.out)
              go_roundg g
              case measure => omega
              case rel => exact ⟨k + 1, true, _, by go_num, by omega, rfl, HN.out⟩
            · have hrn : recH n.data.toList kind x.h = none := by unfold recH; rw [if_neg he, if_neg (fun h => hf h.2)]
              have HF3 := Lib.hid (HFa.out (w2.alloc (.cells rc 40)))
              have HRNo := Lib.hid hrn
              generalize famOf x.h.addr = fam at hf HF3
              clear hrn he
              go_wp2_with (first
                | (go_at_call 17; refine HHa.out.mono ?_; rintro e w' ⟨rfl, hw⟩; obtain rfl := hw.symm)
                | (refine wpList_build_z rfl 40 #[(0, .tmp 37), (1, .tmp 38)] rfl rc HBR.out ?_; go_simp)
                | (refine wpList_alloc_z rfl 40 rfl ZR HZR.out ?_; go_simp)
                | (refine wpList_store_new rfl 40 (.tmp 13) (.tmp 39) rfl w2.heap.size rfl ZR rc 40 rfl rfl HRS.out HZRS.out HRC1.out ?_; go_simp)
                | (refine wpList_aggr_gh 28 (.tmp 62) rfl rfl ⟨wr.heap.size, 0, none⟩ r rfl (HBy.out _ _ HBK3.out) 16 5 huA HSa.out ?_; go_simp)
                | (go_at_call 29; refine HF3.out.mono ?_; rintro e w5 ⟨rfl, hb5⟩; have HB5 := Lib.hid hb5; have HBK5 := Lib.hid (HBK3.out.below hb5); have HR5 := Lib.hid ((hb5.block _ (by rw [World.size_alloc]; omega)).trans HR3.out); clear hb5))
              have HN := Lib.hid (HAT2.out.skip HX.out HRNo.out HHI.out (HB3.out.trans (HB5.out.mono HB3.out.size)))
              go_roundg g
              case measure => omega
              case rel => exact ⟨k + 1, true, rs, by go_num, by omega, rfl, HN.out⟩
          · have hin' : x.h.names.contains n.data.toList = false := Bool.eq_false_iff.2 hin
            have hrn : recH n.data.toList kind x.h = none := by unfold recH; rw [if_neg he, if_neg (fun h => hin h.1)]
            have hhit : there = (there || hitH n.data.toList x.h) := by unfold hitH; rw [hin', beq_eq_false_iff_ne.2 he]; simp
            have HN := Lib.hid (HAT2.out.skip HX.out hrn hhit (Below.refl _ w2))
            rw [hin'] at HHa
            clear hrn hhit hin hin' hT
            go_wp2_with (go_at_call 17; refine HHa.out.mono ?_; rintro e w' ⟨rfl, rfl⟩)
            go_roundg g
            case measure => omega
            case rel => exact ⟨k + 1, there, rs, by go_num, by omega, rfl, HN.out⟩
    · have hkl : k = ls.length := by omega
      have HD := Lib.hid (hat.done (.inl hkl))
      have hkI : ¬ (k : Int) < (len : Int) := by omega
      clear hat
      go_wp2_with fail
      go_ret2
      exact HD.out
end Go.Proofs.YtclfmokdjmnjcaaGreatDoor
namespace Go.Proofs.YtclfmokdjmnjcaaGreatDoor
open Go.RowKit

theorem dots6_any (s : ByteArray) (w : World) :
    Calls Tryz.prog 20 #[.string s] w fun e w' => e = .returned (.int .i64 (s.data.toList.count 46 : Nat)) ∧ w = w' := by
  have C := Tryz.strings_Count_one s 46 w
  have hc : Lib.countByte s.data.toList 46 = s.data.toList.count 46 := rfl
  rw [hc] at C
  have hle : s.data.toList.count 46 ≤ s.size := by rw [Lib.size_eq]; exact List.count_le_length
  revert C hle
  generalize s.data.toList.count 46 = c
  intro C hle
  go_enter Tryz.func20, Tryz.ntmps20
  go_wp2_with (go_at_call 34; refine C.mono ?_; rintro e w' ⟨rfl, rfl⟩)
  go_ret
  exact ⟨rfl, rfl⟩
/-- a name of one label of small letters goes out as it is -/
theorem ta_small {x : List UInt8} (h : x.all (fun c => decide (97 ≤ c.toNat ∧ c.toNat ≤ 122)) = true) (h1 : 1 ≤ x.length) (h2 : x.length ≤ 63) (h3 : ¬ XN <+: x) : TA x 0 x := by
  have ha : ∀ c ∈ x, 97 ≤ c.toNat ∧ c.toNat ≤ 122 := fun c hc => by
    have := List.all_eq_true.1 h c hc
    simpa using this
  have hlow : low x = x := low_same (fun c hc => by have := ha c hc; omega)
  have h46 : (46 : UInt8) ∉ x := fun hm => by have := ha _ hm; have e : (46 : UInt8).toNat = 46 := rfl; omega
  have hne45 : ∀ c, c ∈ x → c ≠ 45 := fun c hc e => by subst e; have := ha _ hc; have e : (45 : UInt8).toNat = 45 := rfl; omega
  have hR : RightL x := ⟨h1, h2, fun c hc => by unfold stN; have := ha c hc; omega, fun e => hne45 45 (List.mem_of_mem_head? e) rfl, fun e => hne45 45 (List.mem_of_getLast? e) rfl⟩
  have hl : Lab x 0 x := by
    have := Lab.plain (x := x) (fun c hc => by have := ha c hc; omega) (by rw [hlow]; exact hR) (by rw [hlow]; exact h3)
    rwa [hlow] at this
  have hcut : cutP x = x := by
    unfold cutP
    rw [if_neg (fun e => h46 (List.mem_of_getLast? e))]
  have hb : Labs (sp (cutP x)) 0 [x] := by rw [hcut, sp_plain h46]; exact .next hl .nil
  exact TA.ok (by omega) [x] hb (by show x.length ≤ 253; omega)
def exT : List UInt8 := [49, 50, 55, 46, 48, 46, 48, 46, 49, 9, 108, 111, 99, 97, 108, 104, 111, 115, 116, 32, 108, 111, 32, 35, 32, 120]
def exA : List UInt8 := [0, 0, 0, 0, 0, 0, 0, 0, 0, 0, 255, 255, 127, 0, 0, 1]
def exH : HostM := ⟨exA, [[108, 111, 99, 97, 108, 104, 111, 115, 116], [108, 111]]⟩
theorem ta_localhost : TA [108, 111, 99, 97, 108, 104, 111, 115, 116] 0 [108, 111, 99, 97, 108, 104, 111, 115, 116] := ta_small (by decide +kernel) (by decide) (by decide) (by decide +kernel)
theorem ta_lo : TA [108, 111] 0 [108, 111] := ta_small (by decide +kernel) (by decide) (by decide) (by decide +kernel)
theorem ex_line : LineR exT (some exH) :=
  .ok (a := [49, 50, 55, 46, 48, 46, 48, 46, 49]) (l := [[108, 111, 99, 97, 108, 104, 111, 115, 116], [108, 111]]) (by decide +kernel) (by simp) (parseA_iff.2 ⟨by decide +kernel, rfl⟩) (.ok ta_localhost (.ok ta_lo .nil))
theorem ex_pd : Pd 64 (nl exT) [exH] := by
  rw [nl_plain (by decide +kernel)]
  exact .take ex_line .done
theorem ex_find : findL [exH] [108, 111] 1 = [⟨exA, []⟩] ∧ [exH].any (hitH [108, 111]) = true := by
  have h1 : ¬ rvT exH.addr = [108, 111] := by decide +kernel
  have h2 : exH.names.contains [108, 111] = true := by decide +kernel
  have h3 : (1 : Int) = famOf exH.addr := by decide +kernel
  have hr : recH [108, 111] 1 exH = some ⟨exA, []⟩ := by unfold recH; rw [if_neg h1, if_pos ⟨h2, h3⟩]; rfl
  refine ⟨?_, ?_⟩
  · unfold findL
    rw [List.filterMap_cons_some hr]; rfl
  · rw [List.any_cons, hit_of_rec hr]; rfl
/-- Parse of a text of which it is known what it tells -/
theorem hparse_at (s : ByteArray) (L : List HostM) (hL : Pd 64 (nl s.data.toList) L) (w : World) (he : AEnv w) (hs : s.size ≤ 1099511627) :
    Calls Tryz.prog 11 #[.string s] w fun e w' => ∃ (A : Option Addr) (c : Nat) (l : List HV), l.map (·.h) = L ∧ e = .returned (.slice A L.length c) ∧ HostsA w' A l ∧ Below w.heap.size w w' :=
  (hparse_e s w he hs).mono fun e w' ⟨l, v, hp, h1, h2, h3⟩ => by
    have e1 := hp.det hL
    obtain ⟨A, c, hv, ha⟩ := h2.form
    refine ⟨A, c, l, e1, ?_, ha, h3⟩
    rw [h1, hv, ← e1, List.length_map]
set_option maxRecDepth 100000 in
set_option maxHeartbeats 4000000 in
theorem fit6_e (w : World) (he : AEnv w) : Calls Tryz.prog 9 #[] w fun e w' => e = .returned (.bool true) ∧ Below w.heap.size w w' := by
  have hp := hparse_at ⟨#[49, 50, 55, 46, 48, 46, 48, 46, 49, 9, 108, 111, 99, 97, 108, 104, 111, 115, 116, 32, 108, 111, 32, 35, 32, 120]⟩ [exH] ex_pd w he (by decide)
  have HE := Lib.hid he
  have huA := Tryz.underlying28
  clear he
  go_enter Tryz.func9, Tryz.ntmps9
  go_wp2_with fail
  refine hp.mono ?_
  rintro e w1 ⟨A, c, l, hl, rfl, hA, hb1⟩
  have hll : l.length = 1 := by have := congrArg List.length hl; rwa [List.length_map] at this
  have HB1 := Lib.hid hb1
  have hf := find_e A c 1 l ⟨#[108, 111]⟩ 1 w1 (HE.out.below hb1) hA hll (by omega)
  have HL := Lib.hid hl
  clear hp hb1 hA hl
  go_wp2_with fail
  refine hf.mono ?_
  rintro e w2 ⟨v, rfl, hr, hb2⟩
  have e2 := ex_find
  rw [← HL.out] at e2
  rw [show (ByteArray.mk #[108, 111]).data.toList = [108, 111] from rfl] at hr ⊢
  rw [e2.1] at hr
  rw [e2.2]
  rcases hr with ⟨h0, _⟩ | ⟨_, b, c2, rfl, hlt, hcells⟩
  · cases h0
  · have HB2 := Lib.hid (HB1.out.trans (hb2.mono HB1.out.size))
    have hby : ∀ j u, (bvs exA).toArray.toList[j]? = some u → w2.cell? ((⟨b, 3, none⟩ : Addr).add j) = some u := fun j u hj => by
      rw [Addr.add_lit]
      refine hcells _ _ ?_
      have hj' : (bvs exA)[j]? = some u := hj
      have hjl := (List.getElem?_eq_some_iff.1 hj').1
      show (rcells _ _ _ ++ [])[3 + j]? = _
      rw [List.append_nil]
      unfold rcells
      rw [Nat.add_comm 3 j]
      simp only [List.getElem?_cons_succ]
      rw [List.getElem?_append_left hjl]; exact hj'
    obtain ⟨r, hrr⟩ : ∃ r, r = (bvs exA).toArray := ⟨_, rfl⟩
    have h4 := is4_e exA rfl w2
    have hS := sizeBv (l := exA) rfl
    rw [← hrr] at hby h4 hS
    rw [show isV4 exA = true by decide +kernel] at h4
    have hd := fun W => dots6_any ⟨#[97, 46, 98]⟩ W
    rw [show (ByteArray.mk #[97, 46, 98]).data.toList.count 46 = 1 by decide] at hd
    have HBy := Lib.hid hby
    have HS := Lib.hid hS
    have H4 := Lib.hid h4
    have HD := Lib.hid hd
    clear hf hb2 hcells hby h4 hS hd hrr e2
    go_wp2_with (first
      | (refine wpList_aggr_gh 28 (.tmp 24) rfl rfl ⟨b, 3, none⟩ r rfl HBy.out 16 5 huA HS.out ?_; go_simp)
      | (go_at_call 19; refine H4.out.mono ?_; rintro e w3 ⟨rfl, hb3⟩; have HB3 := Lib.hid (HB2.out.trans (hb3.mono HB2.out.size)); clear hb3)
      | (go_at_call 20; refine (HD.out _).mono ?_; rintro e w4 ⟨rfl, hw4⟩; obtain rfl := hw4))
    go_ret
    exact ⟨rfl, HB3.out⟩
end Go.Proofs.YtclfmokdjmnjcaaGreatDoor
