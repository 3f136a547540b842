/-
  The walks of order's Default and Parse: what they answer for every text. Conditions: the library's variable MaxLen holds some number; the text is not too long.
-/
import Derived.Test.YtpgkopnnfhlhbaaDoorOrdFirst
import Derived.Lib.OwnKind
namespace Go.Proofs.YtpgkopnnfhlhbaaDoor
open Go.RowKit

theorem own_step {W W' : World} {B e size n : Nat} {v : Value} {xs : List Value} (h : W.ownsRow B e size v n xs) (hb : Below W.heap.size W W') : W'.ownsRow B e size v n xs :=
  h.kept (row := none) ⟨hb.os, hb.tape, hb.output, hb.size, fun k hk _ => hb.block k hk⟩ (by cases hq : v.ownBlock with | none => exact .inl rfl | some k => exact .inr (by simp))
theorem svs_one (s : Src) : (svs [s]).toArray = srcV s := by unfold svs; simp
theorem info_src : ∃ i, Tryd.prog.info? 30 = some i ∧ i.zero = some (.agg zS) ∧ i.size = 6 ∧ i.bytes = 16 := info_parts (show (Tryd.prog.info? 30).map (fun i => (i.zero, i.size, i.bytes)) = some (some (.agg zS), 6, 16) by kernel_rfl)
theorem fill_at (l : List Src) (n : Nat) (hn : l.length = n) : Instr.fill (fun i => some (i * 6, 6)) ((Array.range (n * 6)).map ((Value.agg zS).cells[· % (Value.agg zS).cells.size]!)) (((l.map fun s => Value.agg (srcV s)).zipIdx 0).map fun x => (x.2, x.1)) = some (svs l).toArray := fillS l _ (by rw [hn]; simp)
/-- what Default answers -/
def DfPost (w : World) (e : Ending) (w' : World) : Prop := ∃ v, e = .returned v ∧ SlS w' v dflt ∧ Below w.heap.size w w'
set_option maxRecDepth 100000 in
set_option maxHeartbeats 1000000 in
theorem default_e (w : World) : Calls Tryd.prog 13 #[] w (DfPost w) := by
  obtain ⟨i0, hi, hz0, hz1, hz2⟩ := info_src
  have HI := Lib.hid hi
  have HZ0 := Lib.hid hz0
  have HZ1 := Lib.hid hz1
  have hfill : Instr.fill (fun i => some (i * 6, 6)) ((Array.range (3 * 6)).map ((Value.agg zS).cells[· % (Value.agg zS).cells.size]!)) [(0, .agg (srcV (1, r0))), (1, .agg (srcV (2, r0))), (2, .agg (srcV (3, r0)))] = some (svs dflt).toArray := fill_at dflt 3 rfl
  have P1 := Lib.hid (fun W => plain_e 1 W)
  have P2 := Lib.hid (fun W => plain_e 2 W)
  have P3 := Lib.hid (fun W => plain_e 3 W)
  obtain ⟨S1, h1⟩ : ∃ S1, S1 = srcV (1, r0) := ⟨_, rfl⟩
  obtain ⟨S2, h2⟩ : ∃ S2, S2 = srcV (2, r0) := ⟨_, rfl⟩
  obtain ⟨S3, h3⟩ : ∃ S3, S3 = srcV (3, r0) := ⟨_, rfl⟩
  rw [← h1] at P1 hfill
  rw [← h2] at P2 hfill
  rw [← h3] at P3 hfill
  have HF := Lib.hid hfill
  obtain ⟨C, hC⟩ : ∃ C, C = (svs dflt).toArray := ⟨_, rfl⟩
  rw [← hC] at HF
  have HC := Lib.hid hC
  clear hi hz0 hz1 hz2 hfill h1 h2 h3 hC
  go_enter Tryd.func13, Tryd.ntmps13
  go_wp2_with fail
  refine (P1.out _).mono ?_
  rintro e w1 ⟨rfl, hb1⟩
  have HB1 := Lib.hid hb1
  clear hb1
  go_wp2_with fail
  refine (P2.out _).mono ?_
  rintro e w2 ⟨rfl, hb2⟩
  have HB2 := Lib.hid (HB1.out.trans (hb2.mono HB1.out.size))
  clear hb2
  go_wp2_with fail
  refine (P3.out _).mono ?_
  rintro e w3 ⟨rfl, hb3⟩
  have HB3 := Lib.hid (HB2.out.trans (hb3.mono HB2.out.size))
  clear hb3
  go_wp2_with (first
    | (refine wpList_buildSlice rfl 23 30 3 #[(0, .tmp 1), (1, .tmp 2), (2, .tmp 3)] rfl C i0 _ Tryd.underlying23 HI.out HZ0.out (by rw [HZ1.out]; decide) (by rw [HZ1.out]; decide) (by rw [HZ1.out]; refine (congrArg _ (?_ : _ = [(0, Value.agg S1), (1, Value.agg S2), (2, Value.agg S3)])).trans HF.out; rw [Array.toList_map]; rfl) ?_; go_simp))
  go_ret
  refine ⟨_, rfl, ⟨some ⟨w3.heap.size, 0, none⟩, 3, rfl, fun _ => ⟨w3.heap.size, rfl, by rw [World.size_alloc]; omega, fun k u hk => ?_⟩⟩, HB3.out.alloc HB3.out.size _⟩
  rw [World.cell?_alloc_mark, HC.out, List.getElem?_toArray]
  exact hk
/-- the words that are left, the sources that are read -/
structure PsAt (w : World) (B b : Nat) (wr : World) (ws : List (List UInt8)) (A : Option Addr) (xs : List ByteArray) (v : Value) (acc : List Src) : Prop where
  below : Below w.heap.size w wr
  words : WordsB wr b A xs
  base : w.heap.size ≤ B ∧ b < B ∧ B ≤ wr.heap.size
  row : wr.ownsRow B 30 6 v acc.length (svs acc)
  rest : parseW ws = (parseW (xs.map (·.data.toList))).map (acc ++ ·)
  small : ∀ y ∈ xs, y.size < 4294967281
  len : xs.length ≤ 1000000000
/-- what Parse answers -/
def PsPost (w : World) (s : List UInt8) (e : Ending) (w' : World) : Prop :=
  Below w.heap.size w w' ∧ ∃ v, e = .returned (.tuple #[v, .int .i64 (parseO s).1]) ∧ SlS w' v (parseO s).2
set_option maxRecDepth 100000 in
set_option maxHeartbeats 4000000 in
theorem parse_e (s : ByteArray) (w : World) (he : Env w) (hs : s.size ≤ 100000000) : Calls Tryd.prog 10 #[.string s] w (PsPost w s.data.toList) := by
  have hw8 := words8_e s w he hs
  have hwl : ∀ y ∈ wordsL (apart s.data.toList), y.length < 4294967281 := fun y hy => by
    have := words_len hy
    have := apart_len s.data.toList
    rw [size_eq] at hs; omega
  have hwc : (wordsL (apart s.data.toList)).length ≤ 1000000000 := by
    have := words_count (apart s.data.toList)
    have := apart_len s.data.toList
    rw [size_eq] at hs; omega
  have hpo : parseO s.data.toList = if wordsL (apart s.data.toList) = [] then (0, dflt) else if 4 < cntF false (wordsL (apart s.data.toList)) then (2, []) else
    match parseW (wordsL (apart s.data.toList)) with
    | none => (6, [])
    | some l => (0, l) := rfl
  unfold WdPost at hw8
  have HE := Lib.hid he
  obtain ⟨ws, hws⟩ : ∃ ws, ws = wordsL (apart s.data.toList) := ⟨_, rfl⟩
  rw [← hws] at hw8 hwl hwc hpo
  have HPO := Lib.hid hpo
  have HWL := Lib.hid hwl
  have HWC := Lib.hid hwc
  clear he hwl hwc hpo hws hs
  go_enter Tryd.func10, Tryd.ntmps10
  go_wp2_with fail
  refine hw8.mono ?_
  rintro e w1 ⟨b, xs, hx, rfl, hst, hb1⟩
  have hlen : xs.length = ws.length := by rw [← hx, List.length_map]
  have HX := Lib.hid hx
  have HS := Lib.hid hst
  have HB1 := Lib.hid hb1
  obtain ⟨n, hn⟩ : ∃ n, n = xs.length := ⟨_, rfl⟩
  rw [← hn]
  have HN := Lib.hid hn
  clear hw8 hx hst hb1
  by_cases h0 : n = 0
  · have HP : Hid (parseO s.data.toList = (0, dflt)) := Lib.hid (by
      rw [HPO.out, if_pos]
      exact List.length_eq_zero_iff.1 (by omega))
    have hdf := default_e w1
    subst h0
    go_wp2_with fail
    refine hdf.mono ?_
    rintro e w2 ⟨v, rfl, hsl, hb2⟩
    have HSL := Lib.hid hsl
    have HB2 := Lib.hid (HB1.out.trans (hb2.mono HB1.out.size))
    clear hdf hsl hb2
    go_wp2
    go_ret2
    exact ⟨HB2.out, v, by rw [HP.out]; rfl, by rw [HP.out]; exact HSL.out⟩
  have hnI : ¬ (n : Int) = 0 := by omega
  have hnB : ((n : Int) == 0) = false := by simp; omega
  have hct := count_e n (some ⟨b, 0, none⟩) xs w1 (WordsV.strs HS.out) hn.symm (by have := HWC.out; omega)
  rw [HX.out] at hct
  have HP1 : Hid (parseO s.data.toList = if 4 < cntF false ws then (2, []) else match parseW ws with
    | none => (6, [])
    | some l => (0, l)) := Lib.hid (by rw [HPO.out, if_neg (fun e => by rw [e] at hlen; simp at hlen; rw [hlen] at hn; simp at hn; omega)])
  clear HPO
  by_cases h4 : 4 < cntF false ws
  · have HP : Hid (parseO s.data.toList = (2, [])) := Lib.hid (by rw [HP1.out, if_pos h4])
    have h4I : (4 : Int) < (cntF false ws : Int) := by omega
    generalize cntF false ws = c at hct h4I
    clear h4 hlen hn
    go_wp2_with fail
    refine hct.mono ?_
    rintro e w2 ⟨rfl, rfl⟩
    go_wp2
    go_ret2
    exact ⟨HB1.out, .slice none 0 0, by rw [HP.out]; rfl, by rw [HP.out]; exact SlS.nil _⟩
  have HP2 : Hid (parseO s.data.toList = match parseW ws with
    | none => (6, [])
    | some l => (0, l)) := Lib.hid (by rw [HP1.out, if_neg h4])
  have h4I : ¬ (4 : Int) < (cntF false ws : Int) := by omega
  have HA0 : Hid (PsAt w w1.heap.size b w1 ws (some ⟨b, 0, none⟩) xs (.slice none 0 0) []) := Lib.hid ⟨HB1.out, (fun _ => ⟨0, rfl, HS.out.1, HS.out.2⟩), ⟨HB1.out.size, HS.out.1, Nat.le_refl _⟩, (by
      have := World.ownsRow_nil w1 w1.heap.size 30 6
      exact this), (by rw [HX.out]; cases parseW ws <;> rfl), fun y hy => by
        rw [size_eq]
        exact HWL.out _ (by rw [← HX.out]; exact List.mem_map_of_mem hy), by rw [hlen]; exact HWC.out⟩
  obtain ⟨c, hc⟩ : ∃ c, c = cntF false ws := ⟨_, rfl⟩
  rw [← hc] at hct h4I
  have hnM : n ≤ 1000000000 := by have := HWC.out; have := HN.out; omega
  clear h4 hlen hc HP1 hnI hnB
  clear hn
  go_wp2_with fail
  refine hct.mono ?_
  rintro e w2 ⟨rfl, rfl⟩
  clear hct
  go_wp2_with fail
  obtain ⟨i0, hi, hz0, hz1, hz2⟩ := info_src
  have HI := Lib.hid hi
  have HZ0 := Lib.hid hz0
  have HZ1 := Lib.hid hz1
  have HZ2 := Lib.hid hz2
  have HZS := Lib.hid zeroSrc
  clear hi hz0 hz1 hz2
  go_loopg [4, 5] n (fun gk vw vl wr => ∃ (A : Option Addr) (ys : List ByteArray) (acc : List Src) (m : Nat), vw = .slice A m m ∧ m = ys.length ∧ m ≤ gk ∧ acc.length + m ≤ n ∧ Hid (PsAt w w2.heap.size b wr ws A ys vl acc))
  case atStart => exact ⟨_, xs, [], n, rfl, HN.out, Nat.le_refl _, by simp, HA0⟩
  case round =>
    obtain ⟨A, ys, acc, m, rfl, hm, hmg, hacc, HA⟩ := hrel
    cases ys with
    | nil =>
      obtain rfl : m = 0 := hm
      have HP : Hid (parseO s.data.toList = (0, acc)) := Lib.hid (by
        have h := HA.out.rest
        rw [List.map_nil, parseW_nil] at h
        rw [HP2.out, h]
        show (0, acc ++ []) = _
        rw [List.append_nil])
      go_wp2
      go_ret2
      exact ⟨HA.out.below, _, by rw [HP.out]; rfl, by rw [HP.out]; exact SlS.own HA.out.row⟩
    | cons y t =>
      obtain ⟨g2, rfl⟩ : ∃ g2, gk = g2 + 1 := ⟨gk - 1, by rw [List.length_cons] at hm; omega⟩
      obtain ⟨o, rfl, hql, hqc⟩ := HA.out.words (by simp)
      have hfs := first_e t.length b o y t wr (HE.out.below HA.out.below) hql hqc rfl (by have := HA.out.len; rw [List.length_cons] at this; omega) HA.out.small
      obtain ⟨l, hl⟩ : ∃ l, l = t.length := ⟨_, rfl⟩
      rw [← hl] at hfs
      obtain rfl : m = l + 1 := by rw [hm, List.length_cons, hl]
      have hlI : (0 : Int) < (l : Int) + 1 := by omega
      have HL := Lib.hid hl
      clear hl hql hqc hm
      go_wp2_with fail
      refine hfs.mono ?_
      rintro e w5 ⟨hb5, (⟨hn5, rfl⟩ | ⟨sr, rest, A5, hf5, hwv, hmem, hrl, rfl⟩)⟩
      · have HP : Hid (parseO s.data.toList = (6, [])) := Lib.hid (by
          have h := HA.out.rest
          rw [parseW_none (by simp) hn5] at h
          rw [HP2.out, h]
          rfl)
        have HB5 := Lib.hid (HA.out.below.trans (hb5.mono HA.out.below.size))
        have HSZ : Hid ((Tryd.prog.info? 30).map (·.size) = some zS.size) := Lib.hid sizeSrc
        have HB6 : Hid (Below w.heap.size w (w5.alloc (.cells zS 30))) := Lib.hid (HB5.out.alloc HB5.out.size _)
        have HO1 := Lib.hid zS_one
        generalize zS = Z at HZS HZ0 HSZ HB6 HO1
        clear hb5 hn5 hfs
        go_wp2_with (first
          | (refine wpList_alloc_z rfl 30 rfl Z HZS.out ?_; go_simp)
          | (refine wpList_store_new rfl 30 (.tmp 6) (.tmp 24) rfl w5.heap.size rfl Z Z 30 rfl rfl HSZ.out rfl HO1.out ?_; go_simp))
        go_ret2
        exact ⟨HB6.out, .slice none 0 0, by rw [HP.out]; rfl, by rw [HP.out]; exact SlS.nil _⟩
      · obtain ⟨D, hD⟩ : ∃ D, D = srcV sr := ⟨_, rfl⟩
        have hfill : Instr.fill (fun i => some (i * 6, 6)) ((Array.range (1 * 6)).map ((Value.agg zS).cells[· % (Value.agg zS).cells.size]!)) [(0, .agg (srcV sr))] = some (srcV sr) := by
          have := fill_at [sr] 1 rfl
          rwa [svs_one] at this
        have HSZ : Hid ((Tryd.prog.info? 30).map (·.size) = some (srcV sr).size) := Lib.hid sizeSrc
        have HZD : Hid (zS.size = (srcV sr).size) := Lib.hid rfl
        have HO1 := Lib.hid (srcV_one sr)
        have HLn : Hid ((srcV sr).toList.length = 6) := Lib.hid rfl
        have HOL : Hid (∀ u ∈ (srcV sr).toList, u.oneCell' = true) := Lib.hid fun u hu => by
          have h := srcV_one sr
          rw [Array.all_eq_true'] at h
          exact h u (by simpa using hu)
        rw [← hD] at hfill HSZ HZD HO1 HLn HOL ⊢
        have HDe := Lib.hid hD
        have HF := Lib.hid hfill
        have hb6 : Below w5.heap.size w5 (w5.alloc (.cells D 30)) := (Below.refl _ _).alloc (Nat.le_refl _) _
        have hb7 : Below w5.heap.size w5 ((w5.alloc (.cells D 30)).alloc (.cells D 30)) := hb6.alloc (by rw [World.size_alloc]; omega) _
        have HR7 : Hid (((w5.alloc (.cells D 30)).alloc (.cells D 30)).ownsRow w2.heap.size 30 6 u5 acc.length (svs acc)) := Lib.hid (own_step (own_step HA.out.row hb5) hb7)
        have HGA := Lib.hid (heap_alloc_last w5 (.cells D 30))
        have hz6 : (w5.alloc (.cells D 30)).heap.size = w5.heap.size + 1 := World.size_alloc _ _
        have HCL : Hid (∀ (j : Nat) (u : Value), D.toList[j]? = some u → ((w5.alloc (.cells D 30)).alloc (.cells D 30)).cell? ((⟨w5.heap.size + 1, 0, none⟩ : Addr).add j) = some u) := Lib.hid fun j u hj => by
          rw [Addr.add_lit, Nat.zero_add, ← hz6, World.cell?_alloc_mark, ← Array.getElem?_toList]; exact hj
        have HB7 := Lib.hid (HA.out.below.trans ((hb5.trans (hb7.mono hb5.size)).mono HA.out.below.size))
        have HWV := Lib.hid (hwv.later (Nat.le_trans hb5.size hb7.size) (fun h => (hb7.block b (Nat.lt_of_lt_of_le h hb5.size)).trans (hb5.block b h)))
        have HRST : Hid (parseW ws = (parseW (rest.map (·.data.toList))).map ((acc ++ [sr]) ++ ·)) := Lib.hid (by
          rw [HA.out.rest, parseW_some hf5]
          cases parseW (rest.map (·.data.toList)) with
          | none => rfl
          | some l => simp)
        have HSM : Hid (∀ y ∈ rest, y.size < 4294967281) := Lib.hid fun z hz => HA.out.small z (hmem z hz)
        have HRL : Hid (rest.length < l + 1) := Lib.hid (by rw [List.length_cons, ← HL.out] at hrl; exact hrl)
        have HBb := Lib.hid HA.out.base
        have HBS : Hid (w2.heap.size ≤ ((w5.alloc (.cells D 30)).alloc (.cells D 30)).heap.size) := Lib.hid (by have := HA.out.base.2.2; have := hb5.size; have := hb7.size; omega)
        have HLE := Lib.hid HA.out.len
        obtain ⟨r, hr⟩ : ∃ r, r = rest.length := ⟨_, rfl⟩
        rw [← hr]
        have HRr := Lib.hid hr
        clear hfill hD hb5 hb6 hwv hf5 hmem hrl hfs HA hr
        go_wp2_with (first
          | (refine wpList_alloc_z rfl 30 rfl zS HZS.out ?_; go_simp)
          | (refine wpList_store_new rfl 30 (.tmp 6) (.tmp 24) rfl w5.heap.size rfl zS D 30 rfl rfl HSZ.out HZD.out HO1.out ?_; go_simp)
          | (refine wpList_load_row rfl 30 (.tmp 6) rfl w5.heap.size rfl 30 D (0, 0) _ HGA.out Tryd.underlying30 rfl HSZ.out ?_; go_simp)
          | (refine wpList_buildSlice rfl 23 30 1 #[(0, .tmp 30)] rfl D i0 _ Tryd.underlying23 HI.out HZ0.out (by rw [HZ1.out]; decide) (by rw [HZ1.out]; decide) (by rw [HZ1.out]; refine (congrArg _ (?_ : _ = [(0, Value.agg D)])).trans HF.out; rw [Array.toList_map]; rfl) ?_; go_simp)
          | (at_builtin; refine wpList_append_own (w := (w5.alloc (.cells D 30)).alloc (.cells D 30)) rfl (.tmp 29) (.tmp 31) 23 rfl w2.heap.size 30 i0 _ 6 16 Tryd.underlying23 HI.out HZ0.out HZ1.out HZ2.out rfl (by decide) u5 acc.length (svs acc) rfl HR7.out ⟨w5.heap.size + 1, 0, none⟩ 1 1 D.toList rfl HLn.out HCL.out HOL.out (by have := HLE.out; unfold maxLen; omega) (by have := HLE.out; omega) HBS.out ?_; intro v1 w6 ho1 hg1 hnil; clear hnil; go_simp))
        have HB6 := Lib.hid (HB7.out.grown hg1 HB7.out.size (fun k e => Nat.le_trans HBb.out.1 (HR7.out.lt k e).1))
        have HA6 : Hid (PsAt w w2.heap.size b w6 ws A5 rest v1 (acc ++ [sr])) := Lib.hid ⟨HB6.out, HWV.out.later hg1.size (fun h => hg1.block b h (fun e => by
            have := (HR7.out.lt b e.symm).1
            have := HBb.out.2.1
            omega)), ⟨HBb.out.1, HBb.out.2.1, Nat.le_trans HBS.out hg1.size⟩,
          (by rw [List.length_append, svs_snoc, ← HDe.out]; exact ho1), HRST.out, HSM.out, (by have := HRL.out; have := HLE.out; rw [List.length_cons, ← HL.out] at this; omega)⟩
        go_roundg g2
        case measure => omega
        case rel => exact ⟨A5, rest, acc ++ [sr], r, rfl, HRr.out, by have := HRL.out; have := HRr.out; omega, by rw [List.length_append, List.length_singleton]; have := HRL.out; have := HRr.out; omega, HA6⟩
end Go.Proofs.YtpgkopnnfhlhbaaDoor
