/-
  The walk of a writer's method name: a name's bytes behind what is written already, its end by the place where that stands. Conditions: the name may be one, and what is written is not too long.
-/
import Derived.Test.YtakfokdjdljjjaaDoorMsgTwo
import Derived.Test.YtakfokdjdljjjaaDoorMsgBits
import Derived.Test.YtakfokdjdljjjaaDoorMsgGoes
import Derived.Test.YtakfokdjdljjjaaDoorTxts
import Derived.StillTailTactics
import Derived.Lib.AppendStr
namespace Go.Proofs.YtakfokdjdljjjaaDoor
open Go.RowKit Go.Maps

/-- append of a text's bytes to a writer's bytes -/
theorem wpList_append_t {w : World} {base g mb nn : Nat} {b : List UInt8} {st : St} {v : Value} {D : DataW Unit} (HI : WIs base w g b st v mb nn D)
    {ops : Array Oper} {rest : List Oper} {o : Oper} {a : Act} {Q : Exit → Act → World → Prop} (hgd : o.guard = none) (s x : Operand)
    (ho : o.op = .call { callee := .builtin .append, args := #[s, x], argTypes := #[32, 9] }) (hs : a.eval s = v)
    (t : ByteArray) (hx : a.eval x = .string t) (hm0 : 0 < b.length) (hl : b.length + t.size ≤ 100000000) (hnn : nn ≤ b.length + t.size)
    (h : ∀ (gb cap : Nat) (w' : World), w'.cell? ⟨g, 0, none⟩ = some v → w'.frozen? ⟨g, 0, none⟩ = false → Hid (WHas base (w'.setCell ⟨g, 0, none⟩ (.slice (some ⟨gb, 0, none⟩) (b.length + t.size) cap)) g (b ++ t.data.toList) st (.slice (some ⟨gb, 0, none⟩) (b.length + t.size) cap)) →
      Hid (Below base w (w'.setCell ⟨g, 0, none⟩ (.slice (some ⟨gb, 0, none⟩) (b.length + t.size) cap))) → Hid (Keeps w (w'.setCell ⟨g, 0, none⟩ (.slice (some ⟨gb, 0, none⟩) (b.length + t.size) cap))) → wpList Tryd.prog ops Q rest (a.put o.dst (.slice (some ⟨gb, 0, none⟩) (b.length + t.size) cap)) w') : wpList Tryd.prog ops Q (o :: rest) a w := by
  obtain ⟨i0, hi, hz0, hz1, hz2⟩ := info_parts infoU8
  refine Lib.wpList_append_own_string w hgd s x 32 9 ho base 5 i0 Tryd.underlying32 Tryd.underlying9 hi hz0 hz1 hz2 v b.length (bvs b) hs HI.row t hx (by unfold maxLen; omega) (by omega) HI.hb fun v' w' hown hgr _ => ?_
  obtain ⟨gb, cap, rfl⟩ : ∃ gb cap, v' = .slice (some ⟨gb, 0, none⟩) (b.length + t.size) cap := by
    rcases hown.2 with ⟨_, h0⟩ | ⟨gb, cap, _, hv, _⟩
    · omega
    · exact ⟨gb, cap, hv⟩
  have hblk := (hgr.block g HI.lt (fun e => own_ne HI.row HI.blk (by decide) e.symm)).trans HI.blk
  have hlen : (b ++ t.data.toList).length = b.length + t.size := by rw [List.length_append, ← Lib.size_eq]
  have hown' : w'.ownsRow base 5 1 (.slice (some ⟨gb, 0, none⟩) (b.length + t.size) cap) (b ++ t.data.toList).length (bvs (b ++ t.data.toList)) := by rw [hlen, bvs_append]; exact hown
  exact h gb cap w' (cell_of_row w' g 0 _ _ _ hblk) (frozen_of_row w' g 0 _ _ hblk) (Lib.hid ⟨mb, nn, D, HI.app hown' hgr (by omega), by omega⟩)
    (Lib.hid (((Below.refl base w).grown hgr HI.hb (fun k hk => (HI.row.lt k hk).1)).setCell HI.hg _)) (Lib.hid (HI.keeps hgr _))

theorem join_w (A : Option Addr) (c m : Nat) (xs : List ByteArray) (w : World) (he : Env w) (hm : xs.length = m) (h0 : 0 < m) (h : Txts w A xs) (hc : m ≤ c) (hs : m ≤ 1000) (hl : (jn (xs.map (·.data.toList))).length ≤ 140737488355328) :
    Calls Tryd.prog 37 #[.slice A m c] w fun e w' => e = .returned (.string ⟨(jn (xs.map (·.data.toList))).toArray⟩) ∧ Below w.heap.size w w' ∧ Env w' := by
  subst hm
  obtain ⟨b, o, rfl, hlt, hcell⟩ := h h0
  have hj := Tryd.strings_Join b o c xs ⟨#[46]⟩ w (fun j x hx => by
    have hj : j < xs.length := (List.getElem?_eq_some_iff.1 hx).1
    rw [hcell j hj]
    simp [List.getD, hx]) hlt (by omega) hc (by rw [show (ByteArray.mk #[46]).data.toList = [46] from rfl, join_jn]; exact hl)
  rw [show (ByteArray.mk #[46]).data.toList = [46] from rfl, join_jn] at hj
  go_enter Tryd.func37, Tryd.ntmps37
  go_wp2_with fail
  refine hj.mono ?_; rintro e w' ⟨rfl, hb⟩
  have he' := he.below hb
  go_wp2
  go_ret
  exact ⟨rfl, hb, he'⟩
/-- the block of a name's labels -/
def SBlk (w : World) (bl : Nat) (xs : List ByteArray) : Prop := w.heap[bl]? = some (.cells (xs.map Value.string).toArray 9 (0, 0))
theorem SBlk.strs {w : World} {bl : Nat} {xs : List ByteArray} (h : SBlk w bl xs) : Strs w bl xs := ⟨(Array.getElem?_eq_some_iff.1 h).1, fun j hj => by
  rw [Nat.zero_add, cell_of_row w bl j _ _ _ h]
  simp [List.getElem?_eq_getElem hj, List.getD]⟩
theorem SBlk.keeps {w w' : World} {bl : Nat} {xs : List ByteArray} (h : SBlk w bl xs) (hk : Keeps w w') : SBlk w' bl xs := hk bl _ _ _ (by decide) (by decide) h
theorem split_b (s : ByteArray) (w : World) (he : Env w) (hs : s.size < 4294967281) :
    Calls Tryd.prog 33 #[.string s] w fun e w' => e = .returned (.slice (some ⟨w.heap.size, 0, none⟩) (pieces s).length (pieces s).length) ∧ Below w.heap.size w w' ∧ SBlk w' w.heap.size (pieces s) := by
  obtain ⟨m, hm⟩ := he.2
  have hsp : Calls Tryd.prog 39 #[.string s, .string ⟨#[46]⟩] w fun e w' => e = .returned (.slice (some ⟨w.heap.size, 0, none⟩) (pieces s).length (pieces s).length) ∧ w' = w.alloc (.cells ((pieces s).map Value.string).toArray 9) := by
    rw [pieces_count]; exact Tryd.strings_Split s ⟨#[46]⟩ m w hs hm (by decide)
  have hpost : ∀ W, W = w.alloc (.cells ((pieces s).map Value.string).toArray 9) → Below w.heap.size w W ∧ SBlk W w.heap.size (pieces s) := fun W hW => by
    subst hW
    exact ⟨(Below.refl _ w).alloc (Nat.le_refl _) _, heap_alloc_last w _⟩
  have HP := Lib.hid hpost
  clear hpost
  go_enter Tryd.func33, Tryd.ntmps33
  go_wp2_with (go_at_call 39; refine hsp.mono ?_; rintro e w' ⟨rfl, hw⟩; have HP' := Lib.hid (HP.out _ hw); clear hw)
  go_ret
  exact ⟨rfl, HP'.out.1, HP'.out.2⟩
theorem zeroI (w : World) : (zeroValue 3).run Tryd.prog w = .ok (.int .i64 0) w := by kernel_rfl
theorem Env.base {w w' : World} {base : Nat} (h : Env w) (hb : Below base w w') (hB : 0 < base) : Env w' :=
  ⟨Nat.lt_of_lt_of_le h.1 hb.size, h.2.imp fun _ hm => (hb.cell (p := ⟨0, 0, none⟩) hB).trans hm⟩
theorem jn_le_jn : ∀ (L : List (List UInt8)) (k : Nat), (jn (L.drop k)).length ≤ (jn L).length
  | [], k => by simp
  | x :: t, 0 => by simp
  | [x], k + 1 => by simp [jn]
  | x :: y :: t, k + 1 => by
    have := jn_le_jn (y :: t) k
    rw [List.drop_succ_cons, jn_cons x (by simp), List.length_append, List.length_cons]
    omega
theorem encN_hit {pos p : Nat} {st : St} {L : List (List UInt8)} (hL : L ≠ []) (h : st (jn L) = some p) : encN pos st L = (be2 (49152 + p), st) := by
  cases L with
  | nil => exact absurd rfl hL
  | cons x l => unfold encN; rw [h]
theorem encN_miss {pos : Nat} {st : St} {x : List UInt8} {l : List (List UInt8)} (h : st (jn (x :: l)) = none) :
    encN pos st (x :: l) = (UInt8.ofNat x.length :: x ++ (encN (pos + 1 + x.length) (if pos < 16384 then st.put (jn (x :: l)) pos else st) l).1, (encN (pos + 1 + x.length) (if pos < 16384 then st.put (jn (x :: l)) pos else st) l).2) := by
  conv => lhs; unfold encN
  rw [h]
theorem drop_at {xs : List ByteArray} {L : List (List UInt8)} (hd : xs.map (·.data.toList) = L) {k : Nat} (hk : k < xs.length) : L.drop k = (xs.getD k ByteArray.empty).data.toList :: L.drop (k + 1) := by
  subst hd
  rw [List.drop_eq_getElem_cons (by simpa using hk)]
  simp [List.getD, List.getElem?_eq_getElem hk]
/-- how the loop stands ahead of label number k -/
structure NmAt (base : Nat) (w wr : World) (g : Nat) (b : List UInt8) (st : St) (L : List (List UInt8)) (k : Nat) (b' : List UInt8) (st' : St) : Prop where
  at_ : WAt base wr g b' st'
  below : Below base w wr
  keeps : Keeps w wr
  ahead : b' ++ (encN b'.length st' (L.drop k)).1 = b ++ (encN b.length st L).1
  table : (encN b'.length st' (L.drop k)).2 = (encN b.length st L).2
  le : b.length ≤ b'.length
  len : b'.length ≤ b.length + 64 * k

theorem NmAt.hit {base g k p : Nat} {w wr w' : World} {b b' : List UInt8} {st st' : St} {L : List (List UInt8)} (h : NmAt base w wr g b st L k b' st') (hne : L.drop k ≠ []) (hp : st' (jn (L.drop k)) = some p)
    (hw : WAt base w' g (b' ++ be2 (49152 + p)) st') (hb : Below base w w') (hk2 : Keeps w w') : WPost base w g (b ++ (encN b.length st L).1) (encN b.length st L).2 (.returned (.tuple #[])) w' := by
  have h1 := h.ahead
  have h2 := h.table
  rw [encN_hit hne hp] at h1 h2
  simp only at h1 h2
  rw [← h1, ← h2]
  exact ⟨rfl, hw, hb, hk2⟩
theorem NmAt.fin {base g : Nat} {w wr w' : World} {b b' : List UInt8} {st st' : St} {L : List (List UInt8)} {k : Nat} (h : NmAt base w wr g b st L k b' st') (hk : L.drop k = [])
    (hw : WAt base w' g (b' ++ [0]) st') (hb : Below base w w') (hk2 : Keeps w w') : WPost base w g (b ++ (encN b.length st L).1) (encN b.length st L).2 (.returned (.tuple #[])) w' := by
  have h1 := h.ahead
  have h2 := h.table
  rw [hk] at h1 h2
  simp only [encN] at h1 h2
  rw [← h1, ← h2]
  exact ⟨rfl, hw, hb, hk2⟩
theorem NmAt.next {base g k : Nat} {w wr w' : World} {b b' x : List UInt8} {st st' : St} {L : List (List UInt8)} (h : NmAt base w wr g b st L k b' st') (hx : L.drop k = x :: L.drop (k + 1)) (hp : st' (jn (L.drop k)) = none) (hl : x.length ≤ 63)
    (hw : WAt base w' g (b' ++ [UInt8.ofNat x.length] ++ x) (if b'.length < 16384 then st'.put (jn (L.drop k)) b'.length else st')) (hb : Below base w w') (hk2 : Keeps w w') :
    NmAt base w w' g b st L (k + 1) (b' ++ [UInt8.ofNat x.length] ++ x) (if b'.length < 16384 then st'.put (jn (L.drop k)) b'.length else st') := by
  have h1 := h.ahead
  have h2 := h.table
  have h3 := h.le
  have h4 := h.len
  have hlen : (b' ++ [UInt8.ofNat x.length] ++ x).length = b'.length + 1 + x.length := by simp only [List.length_append, List.length_cons, List.length_nil]
  rw [hx] at h1 h2 hp ⊢
  rw [encN_miss hp] at h1 h2
  simp only at h1 h2
  refine ⟨by rw [hx] at hw; exact hw, hb, hk2, ?_, ?_, by omega, by omega⟩
  · rw [hlen, ← h1]
    simp
  · rw [hlen]; exact h2
set_option maxRecDepth 100000 in
set_option maxHeartbeats 8000000 in
theorem name_any (base g : Nat) (b : List UInt8) (st : St) (s : ByteArray) (w : World) (he : Env w) (hB : 0 < base) (h : WAt base w g b st) (hb0 : 0 < b.length) (hs : gosB s = true) (hl : b.length + 20000 ≤ 100000000) :
    Calls Tryd.prog 27 #[.pointer (some ⟨g, 0, none⟩), .string s] w fun e w' => WPost base w g (b ++ (encN b.length st (sp s.data.toList)).1) (encN b.length st (sp s.data.toList)).2 e w' := by
  have hsz : s.size ≤ 253 := by
    unfold gosB nmOk at hs
    simp only [Bool.and_eq_true, decide_eq_true_eq] at hs
    rw [Lib.size_eq]; exact hs.1.1
  have C := split_b s w he (by omega)
  have hpl := pieces_le s
  have HPS := Lib.hid (fun k h => Nat.le_trans (piece_size s k h) hsz)
  have HD := Lib.hid (pieces_data s)
  have HW := Lib.hid h
  have HRT : Hid (∀ k, k < (pieces s).length → rightB ((pieces s).getD k ByteArray.empty) = true) := Lib.hid (fun k hk => by
    unfold gosB nmOk at hs
    simp only [Bool.and_eq_true, decide_eq_true_eq] at hs
    have h2 := hs.2
    rw [← pieces_data, List.all_map, List.all_eq_true] at h2
    have e : (pieces s)[k] = (pieces s).getD k ByteArray.empty := by simp [List.getD, List.getElem?_eq_getElem hk]
    rw [← e]
    exact h2 _ (List.getElem_mem hk))
  have hbs : base ≤ w.heap.size := by obtain ⟨v, mb, nn, D, h', _⟩ := h; exact h'.hb
  clear h hs
  go_enter Tryd.func27, Tryd.ntmps27
  go_wp2_with fail
  refine C.mono ?_; rintro e w1 ⟨rfl, hb1, hs1⟩
  obtain ⟨bl, hbl⟩ : ∃ bl, bl = w.heap.size := ⟨_, rfl⟩
  rw [← hbl] at hs1
  have hge1 : w.heap.size ≤ bl := by omega
  rw [← hbl]
  clear C hbl
  have HS1 := Lib.hid hs1
  have HA0 : Hid (NmAt base w w1 g b st (sp s.data.toList) 0 b st) := by
    obtain ⟨v, mb, nn, D, h, _⟩ := HW.out
    exact Lib.hid ⟨HW.out.below hb1, hb1.mono h.hb, .below hb1, rfl, rfl, Nat.le_refl _, Nat.le_refl _⟩
  have hwl : w.heap.size ≤ w1.heap.size := hb1.size
  have HE := Lib.hid he
  clear hb1 he HW hs1
  have HJ : Hid ((jn (sp s.data.toList)).length ≤ 253) := Lib.hid (by rw [jn_sp, ← Lib.size_eq]; exact hsz)
  revert hpl HPS HD HRT HS1 HA0 HJ
  generalize hL : sp s.data.toList = L
  have HLq := Lib.hid hL
  clear hL
  generalize pieces s = xs
  intro hpl HPS HD HRT HS1 HA0 HJ
  have hxl : xs.length ≤ 255 := by omega
  clear hpl
  go_wp2_with fail
  go_loopw [14, 5, 6, 7, 8, 9] (fun i _ _ _ _ _ wr => ∃ (k : Nat) (b' : List UInt8) (st' : St), k ≤ xs.length ∧ i = .int .i64 k ∧ b.length ≤ b'.length ∧ b'.length ≤ b.length + 64 * k ∧ Hid (NmAt base w wr g b st L k b' st') ∧ Hid (SBlk wr bl xs)) (fun i _ _ _ _ _ _ => xs.length - (intOf i).toNat)
  case atStart => exact ⟨0, b, st, Nat.zero_le _, rfl, Nat.le_refl _, by omega, HA0, HS1⟩
  case round =>
    obtain ⟨k, b', st', hk, rfl, hb1, hb2, HA, HS⟩ := hrel
    by_cases hlt : k < xs.length
    · have c0 := HS.out.strs.2 k hlt
      rw [Nat.zero_add] at c0
      have hsz0 := HPS.out k hlt
      have hck : ¬ (xs.length = k) := by omega
      have hEw : Env wr := HE.out.base HA.out.below hB
      obtain ⟨E, hE⟩ : ∃ E, E = jn (L.drop k) := ⟨_, rfl⟩
      have hEl : E.length ≤ 253 := by rw [hE]; exact Nat.le_trans (jn_le_jn L k) HJ.out
      have J := join_w (some ⟨bl, k, none⟩) (xs.length - k) (xs.length - k) (xs.drop k) wr hEw (by simp) (by omega) (fun _ => ⟨bl, k, rfl, HS.out.strs.1, fun j hj => by
        rw [List.length_drop] at hj
        have := HS.out.strs.2 (k + j) (by omega)
        rw [Nat.zero_add] at this
        rw [this]
        simp [List.getD, List.getElem?_drop]⟩) (Nat.le_refl _) (by omega) (by rw [List.map_drop, HD.out, ← hE]; omega)
      rw [List.map_drop, HD.out, ← hE] at J
      obtain ⟨x, hx⟩ : ∃ x, xs.getD k ByteArray.empty = x := ⟨_, rfl⟩
      rw [hx] at c0 hsz0
      have HX := Lib.hid hx
      have HEq := Lib.hid hE
      clear hx hE hEw
      go_wp2_with fail
      refine J.mono ?_; rintro e w2 ⟨rfl, hb2, _⟩
      clear J
      have hw2 := HA.out.at_.below hb2
      have hs2 := HS.out.keeps (.below hb2)
      have hbe2 := HA.out.below.trans (hb2.mono (by have := HA.out.below.size; omega))
      obtain ⟨v, mb, nn, D, hI, hnn⟩ := hw2
      obtain ⟨gb, cap, rfl⟩ : ∃ gb cap, v = .slice (some ⟨gb, 0, none⟩) b'.length cap := by
        rcases hI.row.2 with ⟨_, h0⟩ | ⟨gb, cap, _, hv, _⟩
        · omega
        · exact ⟨gb, cap, hv⟩
      have c1 : w2.cell? ⟨g, 1, none⟩ = some (.map (some mb)) := cell_of_row w2 g 1 _ _ _ hI.blk
      have c2 : w2.cell? ⟨g, 0, none⟩ = some (.slice (some ⟨gb, 0, none⟩) b'.length cap) := cell_of_row w2 g 0 _ _ _ hI.blk
      have HI := Lib.hid hI
      have HS2 := Lib.hid hs2
      have HB2 := Lib.hid hbe2
      have HK2 := Lib.hid (HA.out.keeps.trans (.below hb2))
      have hw2l := hb2.size
      have hglt := hI.lt
      have hkey : keyOf Tryd.prog 9 (.string ⟨E.toArray⟩) = some (.string E) := WideMaps.keyOf_string_mk Tryd.underlying9 (s := ⟨E.toArray⟩) (by show E.length ≤ _; unfold maxLen; omega)
      have HK := Lib.hid hkey
      have HDK := Lib.hid (drop_at HD.out hlt)
      cases hst : st' E with
      | some p =>
        have hp := hI.is.low E p hst
        have hhas : Maps.has D (.string E) = true := by rw [hI.is.has, hst]; rfl
        have HV := Lib.hid (hI.is.val E p hst)
        have HST := Lib.hid hst
        have hor := or_place hp
        clear hkey hI hs2 hbe2 hb2 hst c0
        go_wp2_with (at_lookup; refine wpList_lookup_own_ok_int w2 rfl (.tmp 27) (.tmp 28) 56 rfl 9 3 .i64 keyedS Tryd.underlying56 Tryd.underlying3 (zeroI _) mb nn D rfl HI.out.map _ (.string E) rfl HK.out ?_; intro c hat _; obtain rfl : c = (p : Int) := (by have := HV.out.symm.trans hat; injection this with this; injection this with _ this; exact this.symm); clear hat; go_simp)
        refine (two_any base g b' st' _ w2 ⟨_, mb, nn, D, HI.out, hnn⟩ (by omega) (by omega)).mono ?_
        rintro e w3 ⟨rfl, hw3, hb3, hk3⟩
        have HW3 := Lib.hid hw3
        have HB3 := Lib.hid (HB2.out.trans hb3)
        have HK3 := Lib.hid (HK2.out.trans hk3)
        clear hw3 hb3 hk3 hor hhas
        go_wp2_with fail
        refine bodyPost_ret (results_none rfl _ _ _) rfl ?_
        rw [HLq.out]
        refine HA.out.hit (by rw [HDK.out]; simp) (p := p) (by rw [← HEq.out]; exact HST.out) ?_ HB3.out HK3.out
        have e1 : ((49152 : Int) + (p : Int)).toNat = 49152 + p := by omega
        have := HW3.out
        rw [e1] at this
        exact this
      | none =>
        have hhas : Maps.has D (.string E) = false := by rw [hI.is.has, hst]; rfl
        have HST := Lib.hid hst
        clear hkey hI hs2 hbe2 hb2 hst c0
        have hx63 : x.size ≤ 63 := by
          have := HRT.out k hlt
          rw [HX.out] at this
          unfold rightB at this
          simp only [Bool.and_eq_true, decide_eq_true_eq] at this
          omega
        have HU8 : Hid ((x.size : Int) = ((UInt8.ofNat x.size).toNat : Int)) := Lib.hid (by rw [UInt8.toNat_ofNat']; omega)
        have HU9 : Hid ((x.size : Int) % 256 = ((UInt8.ofNat x.size).toNat : Int)) := Lib.hid (by rw [UInt8.toNat_ofNat']; omega)
        by_cases hlow : b'.length < 16384
        · have hlow' : decide ((b'.length : Int) < 16384) = true := decide_eq_true (by omega)
          go_wp2_with (at_lookup; refine wpList_lookup_own_ok_int w2 rfl (.tmp 27) (.tmp 28) 56 rfl 9 3 .i64 keyedS Tryd.underlying56 Tryd.underlying3 (zeroI _) mb nn D rfl HI.out.map _ (.string E) rfl HK.out ?_; intro c hat _; clear hat; go_simp)
          go_still_tail 10, (by kernel_rfl)
          go_wp2_with (first
            | (at_mapUpdate; refine wpList_mapUpdate_own w2.drew rfl (.tmp 46) (.tmp 47) (.tmp 52) 56 rfl 9 3 keyedS Tryd.underlying56 (plainElem Tryd.prog 3) mb nn D rfl HI.out.drew.map (by unfold maxLen; omega) _ _ (.string E) rfl rfl HK.out (.lit (.int .i64 (b'.length : Nat))) [] (plainElem_int Tryd.underlying3 (WalkArith.wf_i64 (by omega))) ?_; intro w3 hm3 hg3; have hI3 := HI.out.drew.put hnn hlow hm3 hg3; have c3 := cell_of_row w3 g 0 _ _ _ hI3.blk; have f3 := frozen_of_row w3 g 0 _ _ hI3.blk; have hgl3 := hI3.lt; have HI3 := Lib.hid hI3; have HK3 := Lib.hid ((HK2.out.drew).trans (HI.out.drew.keepsMap hg3)); have HB3 := Lib.hid ((HB2.out.drew).grown hg3 (by have := HI.out.hb; exact this) (fun k e => by injection e with e; subst e; exact HI.out.hmb)); have HS3 := Lib.hid (HS2.out.keeps ((Keeps.refl w2).drew.trans (HI.out.drew.keepsMap hg3))); have hsz3 := hg3.size; clear hI3 hm3 hg3 c1 c2; go_simp)
            | (at_builtin; refine wpList_append_w (HI3.out.alloc _) rfl (.tmp 57) (.tmp 61) rfl rfl ⟨w3.heap.size, 0, none⟩ 1 1 [UInt8.ofNat x.size] rfl rfl (one_cell rfl (by first | exact congrArg (Value.int .u8) HU8.out | exact congrArg (Value.int .u8) HU9.out)) (by omega) (by omega) (by omega) ?_; intro gb4 cap4 w4 c4 f4 HW4 HB4 HK4; clear c3 f3; go_simp)
            | (at_builtin; obtain ⟨mb5, nn5, D5, HI5, hnn5⟩ := HW4.out; have hnn6 : nn5 ≤ b'.length + 1 := (by rw [List.length_append, List.length_singleton] at hnn5; exact hnn5); have hc5 := cell_of_row _ g 0 _ _ _ HI5.blk; refine wpList_append_t HI5 rfl (.tmp 69) (.tmp 70) rfl rfl x rfl (by rw [List.length_append, List.length_singleton]; omega) (by rw [List.length_append, List.length_singleton]; omega) (by rw [List.length_append, List.length_singleton]; omega) ?_; intro gb6 cap6 w6 c6 f6 HW6 HB6 HK6; clear c4 f4 HI5 hnn5 hc5; go_simp))
          have HBf := Lib.hid ((HB3.out.alloc (by have := HI3.out.hb; omega) _).trans (HB4.out.trans HB6.out))
          have HKf := Lib.hid ((HK3.out.alloc _).trans (HK4.out.trans HK6.out))
          have HNf := Lib.hid (HA.out.next (x := x.data.toList) (by rw [HDK.out, HX.out]) (by rw [← HEq.out]; exact HST.out) (by rw [← Lib.size_eq]; omega) (by rw [← Lib.size_eq, ← HEq.out, if_pos hlow]; exact HW6.out.at_) HBf.out HKf.out)
          have HSf := Lib.hid (HS3.out.keeps (((Keeps.refl w3).alloc _).trans (HK4.out.trans HK6.out)))
          have e5 : (b' ++ [UInt8.ofNat x.size]).length = b'.length + 1 := by rw [List.length_append, List.length_singleton]
          rw [e5] at HNf HSf
          have hf1 := HNf.out.le
          have hf2 := HNf.out.len
          go_roundw
          case rel => exact ⟨k + 1, b' ++ [UInt8.ofNat x.data.toList.length] ++ x.data.toList, _, by omega, by go_num, hf1, hf2, HNf, HSf⟩
          case measure => simp [intOf]; omega
        · have hlow' : decide ((b'.length : Int) < 16384) = false := decide_eq_false (by omega)
          have f2 := frozen_of_row w2 g 0 _ _ HI.out.blk
          go_wp2_with (first
            | (at_lookup; refine wpList_lookup_own_ok_int w2 rfl (.tmp 27) (.tmp 28) 56 rfl 9 3 .i64 keyedS Tryd.underlying56 Tryd.underlying3 (zeroI _) mb nn D rfl HI.out.map _ (.string E) rfl HK.out ?_; intro c hat _; clear hat; go_simp)
            | (at_builtin; refine wpList_append_w (HI.out.alloc _) rfl (.tmp 57) (.tmp 61) rfl rfl ⟨w2.heap.size, 0, none⟩ 1 1 [UInt8.ofNat x.size] rfl rfl (one_cell rfl (by first | exact congrArg (Value.int .u8) HU8.out | exact congrArg (Value.int .u8) HU9.out)) (by omega) (by omega) (by omega) ?_; intro gb4 cap4 w4 c4 f4 HW4 HB4 HK4; clear c1 c2; go_simp)
            | (at_builtin; obtain ⟨mb5, nn5, D5, HI5, hnn5⟩ := HW4.out; have hnn6 : nn5 ≤ b'.length + 1 := (by rw [List.length_append, List.length_singleton] at hnn5; exact hnn5); have hc5 := cell_of_row _ g 0 _ _ _ HI5.blk; refine wpList_append_t HI5 rfl (.tmp 69) (.tmp 70) rfl rfl x rfl (by rw [List.length_append, List.length_singleton]; omega) (by rw [List.length_append, List.length_singleton]; omega) (by rw [List.length_append, List.length_singleton]; omega) ?_; intro gb6 cap6 w6 c6 f6 HW6 HB6 HK6; clear c4 f4 HI5 hnn5 hc5; go_simp))
          have HBf := Lib.hid ((HB2.out.alloc (by have := HI.out.hb; omega) _).trans (HB4.out.trans HB6.out))
          have HKf := Lib.hid ((HK2.out.alloc _).trans (HK4.out.trans HK6.out))
          have HNf := Lib.hid (HA.out.next (x := x.data.toList) (by rw [HDK.out, HX.out]) (by rw [← HEq.out]; exact HST.out) (by rw [← Lib.size_eq]; omega) (by rw [← Lib.size_eq, ← HEq.out, if_neg hlow]; exact HW6.out.at_) HBf.out HKf.out)
          have HSf := Lib.hid (HS2.out.keeps (((Keeps.refl w2).alloc _).trans (HK4.out.trans HK6.out)))
          have e5 : (b' ++ [UInt8.ofNat x.size]).length = b'.length + 1 := by rw [List.length_append, List.length_singleton]
          rw [e5] at HNf HSf
          have hf1 := HNf.out.le
          have hf2 := HNf.out.len
          go_roundw
          case rel => exact ⟨k + 1, b' ++ [UInt8.ofNat x.data.toList.length] ++ x.data.toList, _, by omega, by go_num, hf1, hf2, HNf, HSf⟩
          case measure => simp [intOf]; omega
    · obtain rfl : k = xs.length := by omega
      have hLd : L.drop xs.length = [] := by
        have := HD.out
        rw [← this, List.drop_eq_nil_iff, List.length_map]; exact Nat.le_refl _
      have HLd := Lib.hid hLd
      obtain ⟨v, mb, nn, D, hI, hnn⟩ := HA.out.at_
      have c2 : wr.cell? ⟨g, 0, none⟩ = some v := cell_of_row wr g 0 _ _ _ hI.blk
      have hglt := hI.lt
      have HI := Lib.hid hI
      clear hI hLd
      go_wp2_with (at_builtin; refine wpList_append_w (HI.out.alloc _) rfl (.tmp 79) (.tmp 80) rfl rfl ⟨wr.heap.size, 0, none⟩ 1 1 [0] rfl rfl (one_cell rfl rfl) (by omega) (by omega) (by omega) ?_; intro gb4 cap4 w4 c4 f4 HW4 HB4 HK4; clear c2; go_simp)
      refine bodyPost_ret (results_none rfl _ _ _) rfl ?_
      rw [HLq.out]
      exact HA.out.fin HLd.out HW4.out.at_ ((HA.out.below.alloc (by have := HA.out.below.size; omega) _).trans HB4.out) ((HA.out.keeps.alloc _).trans HK4.out)
end Go.Proofs.YtakfokdjdljjjaaDoor
