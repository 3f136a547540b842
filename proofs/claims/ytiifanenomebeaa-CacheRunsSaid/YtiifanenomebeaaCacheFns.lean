/-
  The walks of New, Len, Clear, find and Expire of a cache. Conditions: each states its own.
-/
import Derived.Test.YtiifanenomebeaaCacheAt
namespace Go.Proofs.Ytiifanenomebeaa
open Go.RowKit Go.Lib

def NewPost (size : Nat) (w : World) (e : Ending) (w' : World) : Prop := ∃ C, C = w.heap.size ∧ e = .returned (.pointer (some ⟨C, 0, none⟩)) ∧ CAt w.heap.size w' C size (.slice none 0 0) [] ∧ Below w.heap.size w w'
theorem new_at (size : Nat) (h : size ≤ 16) (w : World) : CAt w.heap.size (w.alloc (.cells #[.int .i64 size, .slice none 0 0] 55)) w.heap.size size (.slice none 0 0) [] :=
  ⟨Nat.le_refl _, heap_alloc_last w _, World.ownsRow_nil _ _ _ _, (fun e he => by cases he), (fun e he => by cases he), Nat.zero_le _, h⟩
set_option maxRecDepth 100000 in
theorem new_e (n : Int) (w : World) : Calls Try.prog 10 #[.int .i64 n] w fun e w' => NewPost (min (max n 0) 16).toNat w e w' := by
  by_cases h0 : n < 0
  · rw [show (min (max n 0) 16).toNat = 0 by omega]
    have H := Lib.hid (new_at 0 (by omega) w)
    go_enter Try.func10, Try.ntmps10
    go_wp2_with fail
    go_ret
    exact ⟨_, rfl, rfl, H.out, (Below.refl _ w).alloc (Nat.le_refl _) _⟩
  by_cases h16 : 16 < n
  · rw [show (min (max n 0) 16).toNat = 16 by omega]
    have H := Lib.hid (new_at 16 (by omega) w)
    have h0' : 0 ≤ n := by omega
    go_enter Try.func10, Try.ntmps10
    go_wp2_with fail
    go_ret
    exact ⟨_, rfl, rfl, H.out, (Below.refl _ w).alloc (Nat.le_refl _) _⟩
  · obtain ⟨k, rfl⟩ : ∃ k : Nat, n = k := ⟨n.toNat, by omega⟩
    rw [show (min (max (k : Int) 0) 16).toNat = k by omega]
    have H := Lib.hid (new_at k (by omega) w)
    go_enter Try.func10, Try.ntmps10
    go_wp2_with fail
    go_ret
    exact ⟨_, rfl, rfl, H.out, (Below.refl _ w).alloc (Nat.le_refl _) _⟩
theorem len_nil (w : World) : Calls Try.prog 15 #[.pointer none] w fun e w' => e = .returned (.int .i64 0) ∧ w = w' := by
  go_enter Try.func15, Try.ntmps15
  go_wp2
  go_ret
  exact ⟨rfl, rfl⟩
theorem len_e {base C size : Nat} {w : World} {v : Value} {es : List En} (h : CAt base w C size v es) : Calls Try.prog 15 #[.pointer (some ⟨C, 0, none⟩)] w fun e w' => e = .returned (.int .i64 es.length) ∧ w = w' := by
  obtain ⟨A, c, rfl⟩ := own_sl h.own
  have hc := cell_of_row w C 1 _ _ _ h.obj
  simp only [List.getElem?_toArray, List.getElem?_cons_succ, List.getElem?_cons_zero] at hc
  clear h
  go_enter Try.func15, Try.ntmps15
  go_wp2
  go_ret
  exact ⟨rfl, rfl⟩
theorem clear_nil (w : World) : Calls Try.prog 13 #[.pointer none] w fun e w' => e = .returned (.tuple #[]) ∧ w = w' := by
  go_enter Try.func13, Try.ntmps13
  go_wp2
  go_end0
  exact ⟨rfl, rfl⟩
def ClrPost (base C size : Nat) (es : List En) (w : World) (e : Ending) (w' : World) : Prop := ∃ v, e = .returned (.tuple #[]) ∧ CAt base w' C size v es ∧ Step base w w'
theorem clear_e {base C size : Nat} {w : World} {v : Value} {es : List En} (h : CAt base w C size v es) : Calls Try.prog 13 #[.pointer (some ⟨C, 0, none⟩)] w fun e w' => ClrPost base C size [] w e w' := by
  have hc := cell_of_row w C 1 _ _ _ h.obj
  have hf := frozen_of_row w C 1 _ _ h.obj
  simp only [List.getElem?_toArray, List.getElem?_cons_succ, List.getElem?_cons_zero] at hc
  have H1 : Hid (CAt base (w.setCell ⟨C, 1, none⟩ (.slice none 0 0)) C size (.slice none 0 0) []) := Lib.hid ⟨h.ge, by simpa using heap_setCell_same w C 1 _ _ (.slice none 0 0) h.obj, World.ownsRow_nil _ _ _ _, (fun e he => by cases he), (fun e he => by cases he), Nat.zero_le _, h.small⟩
  have H2 : Hid (Step base w (w.setCell ⟨C, 1, none⟩ (.slice none 0 0))) := Lib.hid (Step.put (g := C) ⟨rfl, rfl, rfl, by simp, fun k _ hk => Below.heap_setCell _ _ _ _ (fun e => hk (by rw [e]))⟩ h.ge h.hb h.obj (.inr rfl))
  clear h
  go_enter Try.func13, Try.ntmps13
  go_wp2
  go_end0
  exact ⟨_, rfl, H1.out, H2.out⟩
set_option maxRecDepth 100000 in
theorem find_e {base C size : Nat} {w : World} {v : Value} {es : List En} (h : CAt base w C size v es) (qn : ByteArray) (qt : Int) : Calls Try.prog 22 #[.pointer (some ⟨C, 0, none⟩), .agg #[.string qn, .int .i64 qt]] w fun e w' => IdxPost (isQ qn qt) es w e w' := by
  obtain ⟨A, c, rfl⟩ := own_sl h.own
  have hb : Below w.heap.size w (w.alloc (.cells #[.string qn, .int .i64 qt] 32)) := (Below.refl _ w).alloc (Nat.le_refl _) _
  have h' := h.below hb
  have hc := cell_of_row _ C 1 _ _ _ h'.obj
  simp only [List.getElem?_toArray, List.getElem?_cons_succ, List.getElem?_cons_zero] at hc
  have hq : (w.alloc (.cells #[.string qn, .int .i64 qt] 32)).heap[w.heap.size]? = _ := heap_alloc_last w _
  have hI := indexFunc_e A c es (by have := h.len; have := h.small; omega) 28 #[.pointer (some ⟨w.heap.size, 0, none⟩)] (enters_of Try.func28 (by kernel_rfl) rfl) (isQ qn qt) _ h'.ents
    (fun W x hx hW => find1_e w.heap.size qn qt x W ((hW.cell (heap_lt hq)).trans (by rw [cell_of_row _ _ 0 _ _ _ hq]; rfl)) ((hW.cell (heap_lt hq)).trans (by rw [cell_of_row _ _ 1 _ _ _ hq]; rfl)))
  have HB := Lib.hid hb
  clear h h' hq hb
  go_enter Try.func22, Try.ntmps22
  go_wp2_with (go_at_call 27; refine hI.mono ?_; rintro e w2 ⟨r, rfl, hr, hb2⟩; have HB2 := Lib.hid (HB.out.trans (hb2.mono (by simp))); have HR := Lib.hid hr; clear hr hb2 hI; go_simp)
  go_ret
  exact ⟨r, rfl, HR.out, HB2.out⟩
set_option maxRecDepth 100000 in
theorem deleteFunc_nil (B : Nat) (w : World) :
    Calls Try.prog 19 #[.slice none 0 0, .func (.func 20) #[] #[.pointer (some ⟨B, 0, none⟩)]] w
      fun e w' => e = .returned (.slice none 0 0) ∧ Below w.heap.size w w' := by
  have hIF := indexFunc_e none 0 [] (by simp) 20 #[.pointer (some ⟨B, 0, none⟩)] (enters_of Try.func20 (by kernel_rfl) rfl) (fun _ => true) w (fun h => by simp at h) (fun W x hx => by cases hx)
  go_enter Try.func19, Try.ntmps19
  go_wp2_with fail
  refine hIF.mono ?_
  rintro e w0 ⟨r, rfl, hI, hb0⟩
  obtain rfl : r = -1 := by
    rcases hI with ⟨h, _⟩ | ⟨k, e0, _, hk, _⟩
    · exact h
    · simp at hk
  have HB := Lib.hid hb0
  clear hIF hb0 hI
  go_wp2_with fail
  go_ret
  exact ⟨rfl, HB.out⟩
theorem expire_nil (now : Int) (w : World) : Calls Try.prog 12 #[.pointer none, .int .i64 now] w fun e w' => e = .returned (.tuple #[]) ∧ Below w.heap.size w w' := by
  have HB : Hid (Below w.heap.size w (w.alloc (.cells #[.int .i64 now] 3))) := Lib.hid ((Below.refl _ w).alloc (Nat.le_refl _) _)
  go_enter Try.func12, Try.ntmps12
  go_wp2
  go_end0
  exact ⟨rfl, HB.out⟩
set_option maxRecDepth 100000 in
theorem expire_e {base C size : Nat} {w : World} {v : Value} {es : List En} (h : CAt base w C size v es) (now : Nat) (hn : now ≤ big) : Calls Try.prog 12 #[.pointer (some ⟨C, 0, none⟩), .int .i64 now] w fun e w' => ClrPost base C size (es.filter (cnt now)) w e w' := by
  have hb : Below w.heap.size w (w.alloc (.cells #[.int .i64 now] 3)) := (Below.refl _ w).alloc (Nat.le_refl _) _
  have h' := h.below hb
  have hbox : (w.alloc (.cells #[.int .i64 now] 3)).heap[w.heap.size]? = _ := heap_alloc_last w _
  rcases h.row with ⟨rfl, rfl⟩ | ⟨g, cap, tail, rfl, hbg, hg, hnc, hcm, hs⟩
  · have hc := cell_of_row _ C 1 _ _ _ h'.obj
    have hI := deleteFunc_nil w.heap.size (w.alloc (.cells #[.int .i64 now] 3))
    simp only [List.getElem?_toArray, List.getElem?_cons_succ, List.getElem?_cons_zero] at hc
    have H := Lib.hid h'
    have HB := Lib.hid hb
    have HBA := Lib.hid h.hb
    clear h h' hbox hb
    go_enter Try.func12, Try.ntmps12
    go_wp2_with (go_at_call 19; refine hI.mono ?_; rintro e w2 ⟨rfl, hb2⟩; have H2 := Lib.hid (H.out.below hb2); have HB2 := Lib.hid (HB.out.trans (hb2.mono (by simp))); have hc2 := cell_of_row w2 C 1 _ _ _ H2.out.obj; have hf2 := frozen_of_row w2 C 1 _ _ H2.out.obj; simp only [List.getElem?_toArray, List.getElem?_cons_succ, List.getElem?_cons_zero] at hc2; clear hb2 hI; go_simp)
    go_end0
    refine ⟨.slice none 0 0, rfl, ?_, ?_⟩
    · exact ⟨H2.out.ge, by simpa using heap_setCell_same w2 C 1 _ _ (.slice none 0 0) H2.out.obj, World.ownsRow_nil _ _ _ _, (fun e he => by cases he), (fun e he => by cases he), Nat.zero_le _, H2.out.small⟩
    · exact (Step.of_below HB2.out HBA.out).trans (Step.put (g := C) ⟨rfl, rfl, rfl, by simp, fun k _ hk => Below.heap_setCell _ _ _ _ (fun e => hk (by rw [e]))⟩ H2.out.ge H2.out.hb H2.out.obj (.inr rfl))
  · have hc := cell_of_row _ C 1 _ _ _ h'.obj
    simp only [List.getElem?_toArray, List.getElem?_cons_succ, List.getElem?_cons_zero] at hc
    have hg' := (hb.block g (heap_lt hg)).trans hg
    have hI := deleteFunc_e g cap w.heap.size now es tail (w.alloc (.cells #[.int .i64 now] 3)) hg' (by have := h.len; have := h.small; omega) hnc hcm h.fits h.one (by rw [cell_of_row _ _ 0 _ _ _ hbox]; rfl) (Nat.ne_of_gt (heap_lt hg)) hn
    have HF : Hid (∀ w2, DelPost g cap (es.filter (cnt now)) es.length tail (w.alloc (.cells #[.int .i64 now] 3)) (.returned (.slice (some ⟨g, 0, none⟩) (es.filter (cnt now)).length cap)) w2 → _) := Lib.hid (fun w2 hd => CAt.del h hg hbg hcm hnc hs hb hd.2.1 hd.2.2 (List.length_filter_le _ _) (fun e he => (List.mem_filter.1 he).1))
    clear h h' hbox hb hg hg' hs hbg
    go_enter Try.func12, Try.ntmps12
    go_wp2_with (go_at_call 19; refine hI.mono ?_; rintro e w2 hd; obtain rfl := hd.1; have H2 := Lib.hid (HF.out w2 hd); have hc2 := cell_of_row w2 C 1 _ _ _ H2.out.2.2; have hf2 := frozen_of_row w2 C 1 _ _ H2.out.2.2; simp only [List.getElem?_toArray, List.getElem?_cons_succ, List.getElem?_cons_zero] at hc2; clear hd hI; go_simp)
    go_end0
    exact ⟨_, rfl, H2.out.1, H2.out.2.1⟩
end Go.Proofs.Ytiifanenomebeaa
