/-
  The walk of name.ToUnicode: how a name that goes out as it is is read, for every text. Conditions: the text has no more bytes than Go's int can count, and the library's variable MaxLen holds some number.
-/
import Derived.Test.YtiaijbklpkapmaaDoorNameTo
namespace Go.Proofs.YtiaijbklpkapmaaDoor
open Go.RowKit

theorem bytes_ne {y s : ByteArray} (h : ¬ y = s) : (!y.toList == s.toList) = true ∧ (y.toList == s.toList) = false := by
  have : (y.toList == s.toList) = false := by
    rw [beq_eq_false_iff_ne, Lib.toList_data, Lib.toList_data]
    exact fun e => h (bytes_inj e)
  exact ⟨by rw [this]; rfl, this⟩
theorem Rdls.append {a c a' c' : List (List UInt8)} (h : Rdls a c) (h' : Rdls a' c') : Rdls (a ++ a') (c ++ c') := by
  induction h with
  | nil => exact h'
  | next h ht ih => exact .next h ih
theorem Labs.self : ∀ {ys : List (List UInt8)}, Labs ys 0 ys → ∀ y ∈ ys, Lab y 0 y
  | [], _, y, hy => by cases hy
  | z :: zs, h, y, hy => by
    cases h with
    | next h ht =>
      rcases List.mem_cons.1 hy with rfl | hy
      · exact h
      · exact Labs.self ht y hy
theorem TA.self {s : List UInt8} (h : TA s 0 s) : Labs (sp s) 0 (sp s) ∧ s.length ≤ 253 := by
  have hb := h.right.2.1
  obtain ⟨ys, hys, hs⟩ : ∃ ys, Labs (sp (cutP s)) 0 ys ∧ s = jn ys := by
    cases h with
    | err _ _ he => exact absurd rfl he
    | ok _ ys hl hb => exact ⟨ys, hl, rfl⟩
  have hr := hys.right
  have hsp : sp s = ys := by rw [hs]; exact sp_join ys hys.ne fun y h => (hr y h).1.no_point
  refine ⟨?_, hb⟩
  rw [hsp]; exact hys.again
theorem lab_self {x : List UInt8} (h : Lab x 0 x) (hx : XN <+: x) : ∃ l P, x = XN ++ P ∧ NLab l ∧ PunyW P l ∧ P.length ≤ 59 := by
  obtain ⟨z, hz, _⟩ := h.read
  have hl := h.right.1.len
  cases hz with
  | plain hn => exact absurd hx hn
  | puny l P e h1 h2 =>
    refine ⟨l, P, e, h1, h2, ?_⟩
    rw [e, List.length_append] at hl
    have : (XN).length = 4 := rfl
    omega
/-- how ToUnicode's loop stands: the first k labels are read -/
structure TuAt (w wr : World) (b : Nat) (xs : List ByteArray) (k : Nat) (ys : List ByteArray) : Prop where
  below : Below w.heap.size w wr
  base : w.heap.size ≤ b
  row : StrsF wr b (ys ++ xs.drop k)
  len : ys.length = k
  rds : Rdls ((xs.take k).map (·.data.toList)) (ys.map (·.data.toList))
theorem TuAt.start {w wr : World} {b : Nat} {xs : List ByteArray} (h : StrsF wr b xs) (hb : Below w.heap.size w wr) (hB : w.heap.size ≤ b) : TuAt w wr b xs 0 [] :=
  ⟨hb, hB, by simpa using h, rfl, by simpa using Rdls.nil⟩
theorem TuAt.cell {w wr : World} {b : Nat} {xs ys : List ByteArray} {k : Nat} (h : TuAt w wr b xs k ys) (hk : k < xs.length) : wr.cell? ⟨b, k, none⟩ = some (.string (xs.getD k ByteArray.empty)) := by
  have hl := h.len
  rw [h.row.cells k (by rw [List.length_append, List.length_drop]; omega)]
  rw [List.getD, List.getElem?_append_right (by omega), show k - ys.length = 0 by omega, getD_drop hk]; rfl
theorem take_snocD {xs : List ByteArray} {k : Nat} (hk : k < xs.length) : xs.take (k + 1) = xs.take k ++ [xs.getD k ByteArray.empty] := by
  rw [List.take_succ_eq_append_getElem hk]
  simp [List.getD, List.getElem?_eq_getElem hk]
theorem TuAt.next {w wr w2 : World} {b : Nat} {xs ys : List ByteArray} {k : Nat} {y : ByteArray} (h : TuAt w wr b xs k ys) (hk : k < xs.length) (hb : Below wr.heap.size wr w2) (hl : Rdl (xs.getD k ByteArray.empty).data.toList y.data.toList) :
    w2.frozen? ⟨b, k, none⟩ = false ∧ w2.cell? ⟨b, k, none⟩ = some (.string (xs.getD k ByteArray.empty)) ∧ TuAt w (w2.setCell ⟨b, k, none⟩ (.string y)) b xs (k + 1) (ys ++ [y]) := by
  have hlen := h.len
  have hr := h.row.below hb
  have hlt : k < (ys ++ xs.drop k).length := by rw [List.length_append, List.length_drop]; omega
  have hs := hr.set k y hlt
  have he : (ys ++ xs.drop k).set k y = (ys ++ [y]) ++ xs.drop (k + 1) := by
    rw [getD_drop hk, List.set_append_right _ _ (by omega), show k - ys.length = 0 by omega]
    simp
  rw [he] at hs
  refine ⟨hr.free k hlt, (hb.cell (p := ⟨b, k, none⟩) h.row.lt).trans (h.cell hk), ((h.below.trans (hb.mono h.below.size)).setCell h.base _), h.base, hs, by rw [List.length_append, hlen]; rfl, ?_⟩
  rw [take_snocD hk, List.map_append, List.map_append]
  exact h.rds.append (.next hl .nil)
theorem TuAt.keep {w wr : World} {b : Nat} {xs ys : List ByteArray} {k : Nat} (h : TuAt w wr b xs k ys) (hk : k < xs.length) (hl : ¬ XN <+: (xs.getD k ByteArray.empty).data.toList) : TuAt w wr b xs (k + 1) (ys ++ [xs.getD k ByteArray.empty]) := by
  refine ⟨h.below, h.base, ?_, by rw [List.length_append, h.len]; rfl, ?_⟩
  · have := h.row
    rw [getD_drop hk] at this
    rw [List.append_assoc]; exact this
  · rw [take_snocD hk, List.map_append, List.map_append]
    exact h.rds.append (.next (.plain hl) .nil)
theorem TuAt.done {w wr : World} {b : Nat} {xs ys : List ByteArray} (h : TuAt w wr b xs xs.length ys) : Strs wr b ys ∧ ys.length = xs.length ∧ Rdls (xs.map (·.data.toList)) (ys.map (·.data.toList)) := by
  have h1 := h.row
  rw [List.drop_length, List.append_nil] at h1
  have h2 := h.rds
  rw [List.take_length] at h2
  exact ⟨h1.strs, h.len, h2⟩

set_option maxRecDepth 100000 in
set_option maxHeartbeats 2000000 in
theorem toUnicode_any (s : ByteArray) (w : World) (he : Env w) (hs : s.size ≤ 9223372036854775807) :
    Calls Tryd.prog 13 #[.string s] w fun e w' => TwoPost (TU s.data.toList) w e w' := by
  have C1 := toASCII_any s w he hs
  have HEnv := Lib.hid he
  clear he
  go_enter Tryd.func13, Tryd.ntmps13
  go_wp2_with fail
  refine C1.mono ?_
  rintro e w1 ⟨n, y, rfl, hb1, hta⟩
  clear C1
  by_cases hn : n = 0
  · subst hn
    by_cases hy : y = s
    · subst hy
      obtain ⟨hlabs, h253⟩ := hta.self
      have hys : y.size ≤ 253 := by rw [Lib.size_eq]; exact h253
      have C2 := split_f y w1 (HEnv.out.below hb1) (by omega)
      have hpd := pieces_data y
      rw [← hpd] at hlabs
      have HPD := Lib.hid hpd
      have HTA := Lib.hid hta
      have HLB := Lib.hid hlabs
      have hpl := pieces_le y
      clear hlabs hpd hta h253
      go_wp2_with fail
      refine C2.mono ?_; rintro e w2 ⟨rfl, hb2, hrow⟩
      have HA0 := Lib.hid (TuAt.start hrow (hb1.trans (hb2.mono hb1.size)) hb1.size)
      have hb0 : w1.heap.size < w2.heap.size := hrow.lt
      have hpl2 : (pieces y).length ≤ 1014 := by omega
      clear C2 hb1 hb2 hrow hpl
      revert HPD HLB HA0 hpl2
      generalize pieces y = xs
      intro HPD HLB HA0 hpl2
      go_wp2_with fail
      go_loopw [25] (fun i wr => ∃ (k : Nat) (ys : List ByteArray), i = .int .i64 k ∧ k ≤ xs.length ∧ w1.heap.size < wr.heap.size ∧ Hid (TuAt w wr w1.heap.size xs k ys)) (fun i _ => xs.length - (intOf i).toNat)
      case atStart => exact ⟨0, [], rfl, Nat.zero_le _, hb0, HA0⟩
      case round =>
        obtain ⟨k, ys, rfl, hk, hbw, HA⟩ := hrel
        by_cases hlt : k < xs.length
        · have c0 := HA.out.cell hlt
          have hself : Lab (xs.getD k ByteArray.empty).data.toList 0 (xs.getD k ByteArray.empty).data.toList := HLB.out.self _ (List.mem_map.2 ⟨_, by rw [List.getD, List.getElem?_eq_getElem hlt]; exact List.getElem_mem hlt, rfl⟩)
          cases hx : Lib.hasPrefix (xs.getD k ByteArray.empty).data.toList [120, 110, 45, 45] with
          | false =>
            have C4 := pre_any (xs.getD k ByteArray.empty) ⟨#[120, 110, 45, 45]⟩ false wr hx
            have HN := Lib.hid (HA.out.keep hlt fun h => by rw [(pre_mark _).2 h] at hx; cases hx)
            clear hself hx
            generalize xs.getD k ByteArray.empty = x at c0 C4 HN
            go_wp2_with fail
            refine C4.mono ?_; rintro e w' ⟨rfl, rfl⟩
            clear C4
            go_wp2_with fail
            go_roundw
            case rel => exact ⟨k + 1, ys ++ [x], by go_num, by omega, hbw, HN⟩
            case measure => simp [intOf]; omega
          | true =>
            have C4 := pre_any (xs.getD k ByteArray.empty) ⟨#[120, 110, 45, 45]⟩ true wr hx
            obtain ⟨l, P, e1, e2, e3, e4⟩ := lab_self hself ((pre_mark _).1 hx)
            have C5 := isRead_any (xs.getD k ByteArray.empty) P wr e1 (by omega)
            obtain ⟨x, hgx⟩ : ∃ x, xs.getD k ByteArray.empty = x := ⟨_, rfl⟩
            have HR : Hid (∀ u : ByteArray, u.data.toList = utf l → Rdl (xs.getD k ByteArray.empty).data.toList u.data.toList) := Lib.hid fun u hu => by rw [hu]; exact .puny l P e1 e2 e3
            have HX := Lib.hid hgx
            have HP := Lib.hid e3
            rw [hgx] at c0 C4 C5
            clear hself hx e1 e2 e3 e4 hgx
            go_wp2_with fail
            refine C4.mono ?_; rintro e w' ⟨rfl, rfl⟩
            clear C4
            go_wp2_with fail
            refine C5.mono ?_
            rintro e w3 ⟨n, u, rfl, hb3, hir⟩
            clear C5
            obtain ⟨ul, hul⟩ : ∃ ul, u.data.toList = ul := ⟨_, rfl⟩
            rw [hul] at hir
            cases hir with
            | none hno => exact absurd HP.out.puny (hno l)
            | some l' hp' =>
              obtain rfl := HP.out.puny.det hp'
              obtain ⟨f0, c1, hnext⟩ := HA.out.next hlt hb3 (HR.out u hul)
              have HN := Lib.hid hnext
              have hbw2 := Nat.lt_of_lt_of_le hbw hb3.size
              rw [HX.out] at c1
              clear hnext hb3 c0 hp' hul
              go_wp2_with fail
              go_roundw
              case rel => exact ⟨k + 1, ys ++ [u], by go_num, by omega, by rw [World.size_setCell]; exact hbw2, HN⟩
              case measure => simp [intOf]; omega
        · obtain rfl : k = xs.length := by omega
          obtain ⟨d1, d2, d3⟩ := HA.out.done
          have hbel := HA.out.below
          obtain ⟨zs', r1, _, _, r4⟩ := HLB.out.read
          have hze := d3.det r1
          rw [← hze, HPD.out, jn_sp, ← Lib.size_eq] at r4
          have J := join_e w1.heap.size xs.length ys wr (HEnv.out.below hbel) d1 (by omega) (by omega) (by omega)
          rw [d2] at J
          obtain ⟨u, hu⟩ : ∃ u : ByteArray, u = ⟨(jn (ys.map (·.data.toList))).toArray⟩ := ⟨_, rfl⟩
          rw [← hu] at J
          have hud : u.data.toList = jn (ys.map (·.data.toList)) := by rw [hu]
          have HR : Hid (TU y.data.toList 0 u.data.toList) := by
            rw [hud]
            exact Lib.hid (.ok _ HTA.out (by rw [← HPD.out]; exact d3))
          clear d1 d2 d3 hu hud r1 r4 hze
          go_wp2_with fail
          refine J.mono ?_
          rintro e w2 ⟨rfl, hb2, _⟩
          have HB := Lib.hid (hbel.trans (hb2.mono hbel.size))
          clear J hb2 hbel
          go_wp2_with fail
          go_ret2
          exact ⟨0, u, rfl, HB.out, HR.out⟩
    · have hyn := (bytes_ne hy).1
      have HR : Hid (TU s.data.toList 1 []) := Lib.hid (.no fun h => hy (bytes_inj (hta.det h).2))
      have HB := Lib.hid hb1
      clear hta hb1
      go_wp2_with fail
      go_ret2
      exact ⟨1, ⟨#[]⟩, rfl, HB.out, HR.out⟩
  · have hn' : ((n : Int) != 0) = true := by simp; omega
    have HR : Hid (TU s.data.toList 1 []) := Lib.hid (.no fun h => hn (hta.det h).1)
    have HB := Lib.hid hb1
    clear hta hb1
    go_wp2_with fail
    go_ret2
    exact ⟨1, ⟨#[]⟩, rfl, HB.out, HR.out⟩
end Go.Proofs.YtiaijbklpkapmaaDoor
