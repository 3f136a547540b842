/-
  The walk of name.ToASCII: how a name goes out, for every text. Conditions: the text has no more bytes than Go's int can count, and the library's variable MaxLen holds some number.
-/
import Derived.Test.YtgopjgbcnjkblaaGreatDoorNameGoes
namespace Go.Proofs.YtgopjgbcnjkblaaGreatDoor
open Go.RowKit

theorem trim_cut (l : List UInt8) : Lib.trimSuffix l [46] = cutP l := by
  have h : Lib.hasSuffix l [46] = true ↔ l.getLast? = some 46 := by
    unfold Lib.hasSuffix
    rw [List.isSuffixOf_iff_suffix]
    constructor
    · rintro ⟨a, rfl⟩; simp
    · intro h
      obtain ⟨a, rfl⟩ := List.getLast?_eq_some_iff.1 h
      exact ⟨a, rfl⟩
  unfold Lib.trimSuffix cutP
  by_cases h1 : l.getLast? = some 46
  · rw [if_pos (h.2 h1), if_pos h1, List.dropLast_eq_take]; rfl
  · rw [if_neg (fun e => h1 (h.1 e)), if_neg h1]
theorem cutP_length (l : List UInt8) : (cutP l).length ≤ l.length := by
  unfold cutP
  split
  · simp
  · omega
theorem trim_any (s t : ByteArray) (w : World) (hs : s.size ≤ 9223372036854775807) (ht : t.data.toList = cutP s.data.toList) : Calls Tryz.prog 41 #[.string s, .string ⟨#[46]⟩] w fun e w' => e = .returned (.string t) ∧ w = w' :=
  (Tryz.strings_TrimSuffix s ⟨#[46]⟩ w hs).mono fun e w' ⟨h1, h2⟩ => ⟨by
    have e : (ByteArray.mk (Lib.trimSuffix s.data.toList [46]).toArray) = t := bytes_inj (by rw [ht]; exact trim_cut _)
    rw [h1, ← e], h2.symm⟩
/-- block b holds these texts, and may be written -/
structure StrsF (w : World) (b : Nat) (xs : List ByteArray) : Prop where
  lt : b < w.heap.size
  cells : ∀ j, j < xs.length → w.cell? ⟨b, j, none⟩ = some (.string (xs.getD j ByteArray.empty))
  free : ∀ j, j < xs.length → w.frozen? ⟨b, j, none⟩ = false
theorem StrsF.below {w w' : World} {b : Nat} {xs : List ByteArray} (h : StrsF w b xs) (hb : Below w.heap.size w w') : StrsF w' b xs :=
  ⟨Nat.lt_of_lt_of_le h.lt hb.size, fun j hj => (hb.cell (p := ⟨b, j, none⟩) h.lt).trans (h.cells j hj), fun j hj => (hb.frozen (p := ⟨b, j, none⟩) h.lt).trans (h.free j hj)⟩
theorem StrsF.strs {w : World} {b : Nat} {xs : List ByteArray} (h : StrsF w b xs) : Strs w b xs := ⟨h.lt, fun j hj => by rw [Nat.zero_add]; exact h.cells j hj⟩
theorem StrsF.set {w : World} {b : Nat} {xs : List ByteArray} (h : StrsF w b xs) (k : Nat) (y : ByteArray) (hk : k < xs.length) : StrsF (w.setCell ⟨b, k, none⟩ (.string y)) b (xs.set k y) :=
  ⟨by rw [World.size_setCell]; exact h.lt, fun j hj => by
    rw [List.length_set] at hj
    by_cases e : j = k
    · subst e
      rw [World.cell?_setCell_same (h := h.cells j hj)]
      simp [List.getD, hk]
    · rw [World.cell?_setCell_other (h := by intro e'; injection e' with _ e' _; omega), h.cells j hj]
      simp [List.getD, Ne.symm e], fun j hj => by
    rw [List.length_set] at hj
    rw [World.frozen?_setCell]; exact h.free j hj⟩
set_option maxHeartbeats 400000 in
theorem split_f (s : ByteArray) (w : World) (he : Env w) (hs : s.size < 4294967281) :
    Calls Tryz.prog 39 #[.string s] w fun e w' => e = .returned (.slice (some ⟨w.heap.size, 0, none⟩) (pieces s).length (pieces s).length) ∧ Below w.heap.size w w' ∧ StrsF w' w.heap.size (pieces s) := by
  obtain ⟨m, hm⟩ := he.2
  have hsp : Calls Tryz.prog 56 #[.string s, .string ⟨#[46]⟩] w fun e w' => e = .returned (.slice (some ⟨w.heap.size, 0, none⟩) (pieces s).length (pieces s).length) ∧ w' = w.alloc (.cells ((pieces s).map Value.string).toArray 9) := by
    rw [pieces_count]; exact Tryz.strings_Split s ⟨#[46]⟩ m w hs hm (by decide)
  have hpost : ∀ W, W = w.alloc (.cells ((pieces s).map Value.string).toArray 9) → Below w.heap.size w W ∧ StrsF W w.heap.size (pieces s) := fun W hW => by
    subst hW
    have hb : Below w.heap.size w (w.alloc (.cells ((pieces s).map Value.string).toArray 9)) := (Below.refl _ w).alloc (Nat.le_refl _) _
    refine ⟨hb, by rw [World.size_alloc]; omega, fun j hj => ?_, fun j hj => ?_⟩
    · have := World.cell?_alloc_mark w ((pieces s).map Value.string).toArray 9 (0, 0) j
      refine this.trans ?_
      simp [List.getElem?_eq_getElem hj, List.getD]
    · show (w.alloc _).frozen? _ = _
      rw [World.frozen?_alloc_mark]
      simp
  have HP := Lib.hid hpost
  clear hpost
  go_enter Tryz.func39, Tryz.ntmps39
  go_wp2_with (go_at_call 56; refine hsp.mono ?_; rintro e w' ⟨rfl, hw⟩; have HP' := Lib.hid (HP.out _ hw); clear hw)
  go_ret
  exact ⟨rfl, HP'.out.1, HP'.out.2⟩

theorem jn_len63 : ∀ (ys : List (List UInt8)), (∀ y ∈ ys, y.length ≤ 63) → (jn ys).length ≤ 64 * ys.length
  | [], _ => by simp [jn]
  | [y], h => by have := h y (by simp); show y.length ≤ 64 * 1; omega
  | y :: z :: t, h => by
    have := h y (by simp)
    have ih := jn_len63 (z :: t) fun x hx => h x (List.mem_cons_of_mem _ hx)
    have e : (y :: z :: t).length = (z :: t).length + 1 := rfl
    rw [jn_cons y (by simp), List.length_append, List.length_cons, e]
    omega

/-- how ToASCII's loop stands: the first k labels are turned -/
structure TaAt (w wr : World) (b : Nat) (xs : List ByteArray) (k : Nat) (ys : List ByteArray) : Prop where
  below : Below w.heap.size w wr
  base : w.heap.size ≤ b
  row : StrsF wr b (ys ++ xs.drop k)
  len : ys.length = k
  labs : Labs ((xs.take k).map (·.data.toList)) 0 (ys.map (·.data.toList))
theorem TaAt.start {w wr : World} {b : Nat} {xs : List ByteArray} (h : StrsF wr b xs) (hb : Below w.heap.size w wr) (hB : w.heap.size ≤ b) : TaAt w wr b xs 0 [] :=
  ⟨hb, hB, by simpa using h, rfl, by simpa using Labs.nil⟩
theorem getD_drop {xs : List ByteArray} {k : Nat} (h : k < xs.length) : xs.drop k = xs.getD k ByteArray.empty :: xs.drop (k + 1) := by
  rw [List.drop_eq_getElem_cons h]
  simp [List.getD, List.getElem?_eq_getElem h]
theorem TaAt.cell {w wr : World} {b : Nat} {xs ys : List ByteArray} {k : Nat} (h : TaAt w wr b xs k ys) (hk : k < xs.length) : wr.cell? ⟨b, k, none⟩ = some (.string (xs.getD k ByteArray.empty)) := by
  have hl := h.len
  rw [h.row.cells k (by rw [List.length_append, List.length_drop]; omega)]
  rw [List.getD, List.getElem?_append_right (by omega), show k - ys.length = 0 by omega, getD_drop hk]; rfl
theorem TaAt.next {w wr w2 : World} {b : Nat} {xs ys : List ByteArray} {k : Nat} {y : ByteArray} (h : TaAt w wr b xs k ys) (hk : k < xs.length) (hb : Below wr.heap.size wr w2) (hl : Lab (xs.getD k ByteArray.empty).data.toList 0 y.data.toList) :
    w2.frozen? ⟨b, k, none⟩ = false ∧ w2.cell? ⟨b, k, none⟩ = some (.string (xs.getD k ByteArray.empty)) ∧ TaAt w (w2.setCell ⟨b, k, none⟩ (.string y)) b xs (k + 1) (ys ++ [y]) := by
  have hlen := h.len
  have hr := h.row.below hb
  have hlt : k < (ys ++ xs.drop k).length := by rw [List.length_append, List.length_drop]; omega
  have hs := hr.set k y hlt
  have he : (ys ++ xs.drop k).set k y = (ys ++ [y]) ++ xs.drop (k + 1) := by
    rw [getD_drop hk, List.set_append_right _ _ (by omega), show k - ys.length = 0 by omega]
    simp
  rw [he] at hs
  refine ⟨hr.free k hlt, (hb.cell (p := ⟨b, k, none⟩) h.row.lt).trans (h.cell hk), ((h.below.trans (hb.mono h.below.size)).setCell h.base _), h.base, hs, by rw [List.length_append, hlen]; rfl, ?_⟩
  have e2 : xs.take (k + 1) = xs.take k ++ [xs.getD k ByteArray.empty] := by
    rw [List.take_succ_eq_append_getElem hk]
    simp [List.getD, List.getElem?_eq_getElem hk]
  have := h.labs.append (Labs.next hl Labs.nil)
  rw [if_pos rfl] at this
  rw [e2, List.map_append, List.map_append]
  exact this
theorem TaAt.err {w wr : World} {b : Nat} {xs ys : List ByteArray} {k n : Nat} {y : List UInt8} (h : TaAt w wr b xs k ys) (hk : k < xs.length) (hl : Lab (xs.getD k ByteArray.empty).data.toList n y) (hn : n ≠ 0) : Labs (xs.map (·.data.toList)) n [] := by
  have e : xs.map (·.data.toList) = (xs.take k).map (·.data.toList) ++ (xs.getD k ByteArray.empty).data.toList :: (xs.drop (k + 1)).map (·.data.toList) := by
    conv => lhs; rw [← List.take_append_drop k xs, getD_drop hk, List.map_append, List.map_cons]
  have h1 : Labs ((xs.getD k ByteArray.empty).data.toList :: (xs.drop (k + 1)).map (·.data.toList)) n [] := .err hl hn
  have := h.labs.append h1
  rw [if_neg hn] at this
  rw [e]
  exact this
theorem TaAt.done {w wr : World} {b : Nat} {xs ys : List ByteArray} (h : TaAt w wr b xs xs.length ys) : Strs wr b ys ∧ ys.length = xs.length ∧ Labs (xs.map (·.data.toList)) 0 (ys.map (·.data.toList)) := by
  have h1 := h.row
  rw [List.drop_length, List.append_nil] at h1
  have h2 := h.labs
  rw [List.take_length] at h2
  exact ⟨h1.strs, h.len, h2⟩

set_option maxRecDepth 100000 in
set_option maxHeartbeats 2000000 in
theorem toASCII_any (s : ByteArray) (w : World) (he : Env w) (hs : s.size ≤ 9223372036854775807) :
    Calls Tryz.prog 25 #[.string s] w fun e w' => TwoPost (TA s.data.toList) w e w' := by
  have hsl := Lib.size_eq s
  by_cases hlong : 1012 < s.size
  · have HR : Hid (TA s.data.toList 2 []) := Lib.hid (.long (by omega))
    clear hsl
    go_enter Tryz.func25, Tryz.ntmps25
    go_wp2
    go_ret2
    exact ⟨2, ⟨#[]⟩, rfl, Below.refl _ _, HR.out⟩
  · obtain ⟨t, htd⟩ : ∃ t : ByteArray, t.data.toList = cutP s.data.toList := ⟨⟨(cutP s.data.toList).toArray⟩, rfl⟩
    have C1 := trim_any s t w hs htd
    have hts : t.size ≤ 1012 := by rw [Lib.size_eq, htd]; have := cutP_length s.data.toList; omega
    have C2 := split_f t w he (by omega)
    have hpl := pieces_le t
    have hps := fun k h => Nat.le_trans (piece_size t k h) hts
    have hpd := pieces_data t
    have HPS := Lib.hid hps
    have HPD := Lib.hid (hpd.trans (by rw [htd]))
    have HS : Hid (s.data.toList.length ≤ 1012) := Lib.hid (by omega)
    have HEnv := Lib.hid he
    clear htd hps hpd hsl he
    go_enter Tryz.func25, Tryz.ntmps25
    go_wp2_with fail
    refine C1.mono ?_; rintro e w0 ⟨rfl, rfl⟩
    go_wp2_with fail
    refine C2.mono ?_; rintro e w1 ⟨rfl, hb1, hrow⟩
    have HA0 := Lib.hid (TaAt.start hrow hb1 (Nat.le_refl _))
    have hb0 : w.heap.size < w1.heap.size := hrow.lt
    clear C1 C2 hb1 hrow
    have hpl2 : (pieces t).length ≤ 1014 := by omega
    clear hpl
    revert HPS HPD HA0 hpl2
    generalize pieces t = xs
    intro HPS HPD HA0 hpl2
    go_wp2_with fail
    go_loopw [18] (fun i wr => ∃ (k : Nat) (ys : List ByteArray), i = .int .i64 k ∧ k ≤ xs.length ∧ w.heap.size < wr.heap.size ∧ Hid (TaAt w wr w.heap.size xs k ys)) (fun i _ => xs.length - (intOf i).toNat)
    case atStart => exact ⟨0, [], rfl, Nat.zero_le _, hb0, HA0⟩
    case round =>
      obtain ⟨k, ys, rfl, hk, hbw, HA⟩ := hrel
      by_cases hlt : k < xs.length
      · have c0 := HA.out.cell hlt
        have C := goesOut_any (xs.getD k ByteArray.empty) wr (HPS.out k hlt)
        obtain ⟨x, hx⟩ : ∃ x, xs.getD k ByteArray.empty = x := ⟨_, rfl⟩
        rw [hx] at c0 C
        have HX := Lib.hid hx
        clear hx
        go_wp2_with fail
        refine C.mono ?_
        rintro e w2 ⟨n, y, rfl, hb2, hlab⟩
        clear C
        by_cases hn : n = 0
        · subst hn
          obtain ⟨f0, c1, hnext⟩ := HA.out.next hlt hb2 (by rw [HX.out]; exact hlab)
          have HN := Lib.hid hnext
          have hbw2 := Nat.lt_of_lt_of_le hbw hb2.size
          rw [HX.out] at c1
          clear hnext hlab hb2 c0
          go_wp2_with fail
          go_roundw
          case rel => exact ⟨k + 1, ys ++ [y], by go_num, by omega, by rw [World.size_setCell]; exact hbw2, HN⟩
          case measure => simp [intOf]; omega
        · have hn' : ((n : Int) != 0) = true := by simp; omega
          have HE : Hid (TA s.data.toList n []) := Lib.hid (.err HS.out n hn (by rw [← HPD.out]; exact HA.out.err hlt (by rw [HX.out]; exact hlab) hn))
          have HB := Lib.hid (HA.out.below.trans (hb2.mono HA.out.below.size))
          clear hlab hb2 c0
          go_wp2_with fail
          go_ret2
          exact ⟨n, ⟨#[]⟩, rfl, HB.out, HE.out⟩
      · obtain rfl : k = xs.length := by omega
        obtain ⟨d1, d2, d3⟩ := HA.out.done
        have hbel := HA.out.below
        have hjl := jn_len63 (ys.map (·.data.toList)) fun y hy => (d3.right y hy).1.len
        rw [List.length_map, d2] at hjl
        have J := join_e w.heap.size xs.length ys wr (HEnv.out.below hbel) d1 (by omega) (by omega) (by omega)
        rw [d2] at J
        obtain ⟨y, hy⟩ : ∃ y : ByteArray, y = ⟨(jn (ys.map (·.data.toList))).toArray⟩ := ⟨_, rfl⟩
        rw [← hy] at J
        have hyd : y.data.toList = jn (ys.map (·.data.toList)) := by rw [hy]
        have hys : y.size ≤ 100000 := by rw [Lib.size_eq, hyd]; omega
        have HYD := Lib.hid hyd
        have HL := Lib.hid d3
        clear d1 d2 d3 hjl hy hyd
        go_wp2_with fail
        refine J.mono ?_
        rintro e w2 ⟨rfl, hb2, _⟩
        have HB := Lib.hid (hbel.trans (hb2.mono hbel.size))
        clear J hb2 hbel
        by_cases hbig : y.size ≤ 253
        · have HR : Hid (TA s.data.toList 0 y.data.toList) := by
            rw [Lib.size_eq] at hbig
            rw [HYD.out] at hbig ⊢
            exact Lib.hid (.ok HS.out _ (by rw [← HPD.out]; exact HL.out) hbig)
          go_wp2_with fail
          go_ret2
          exact ⟨0, y, rfl, HB.out, HR.out⟩
        · have HR : Hid (TA s.data.toList 2 []) := by
            rw [Lib.size_eq] at hbig
            rw [HYD.out] at hbig
            exact Lib.hid (.big HS.out _ (by rw [← HPD.out]; exact HL.out) (by omega))
          go_wp2_with fail
          go_ret2
          exact ⟨2, ⟨#[]⟩, rfl, HB.out, HR.out⟩
end Go.Proofs.YtgopjgbcnjkblaaGreatDoor
