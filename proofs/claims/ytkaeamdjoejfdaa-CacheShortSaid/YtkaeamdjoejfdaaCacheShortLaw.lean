/-
  The walk of CacheShort: without room the one that counts shortest goes, the first of several. Condition: the numbers stand in the list's cells.
-/
import Derived.Test.YtkaeamdjoejfdaaCacheInts
import Derived.BigQuiet
namespace Go.Proofs.Ytkaeamdjoejfdaa
open Go.RowKit Go.Lib

/-- a question by its number -/
theorem short1_e (k : Nat) (hk : k ≤ 100) (w : World) : Calls Try.prog 18 #[.int .i64 k] w fun e w' => e = .returned (.agg #[.string (nmB (97 + k)), .int .i64 1]) ∧ Below w.heap.size w w' := by
  obtain ⟨m, hm⟩ : ∃ m : Nat, 97 + (k : Int) = (m : Int) := ⟨97 + k, by omega⟩
  have hmk : m = 97 + k := by omega
  rw [← hmk]
  have hmb : m < 256 := by omega
  clear hmk
  have hcv := conv1 (w.alloc (.cells #[.string ⟨#[]⟩, .int .i64 0] 32)) m (by omega)
  rw [World.size_alloc] at hcv
  have HNM : Hid ((⟨#[UInt8.ofNat m]⟩ : ByteArray) = nmB m) := Lib.hid rfl
  generalize (⟨#[UInt8.ofNat m]⟩ : ByteArray) = S at hcv HNM
  have hb1 : Below w.heap.size w (w.alloc (.cells #[.string S, .int .i64 1] 32)) := (Below.refl _ w).alloc (Nat.le_refl _) _
  have HB : Hid (Below w.heap.size w ((w.alloc (.cells #[.string S, .int .i64 1] 32)).alloc (.cells #[.int .u8 (m : Int)] 5))) := Lib.hid (hb1.alloc hb1.size _)
  have HG : Hid (((w.alloc (.cells #[.string S, .int .i64 1] 32)).alloc (.cells #[.int .u8 (m : Int)] 5)).heap[w.heap.size]? = some (.cells #[.string S, .int .i64 1] 32 (0, 0))) := Lib.hid (((Below.refl _ (w.alloc (.cells #[.string S, .int .i64 1] 32))).alloc (Nat.le_refl _) (.cells #[.int .u8 (m : Int)] 5)).block w.heap.size (by rw [World.size_alloc]; omega) |>.trans (heap_alloc_last w _))
  have HS := Lib.hid (sizeQ S 1)
  clear hb1
  go_enter Try.func18, Try.ntmps18
  go_wp2_with fail
  exact bodyPost_ret (results_cell_row rfl _ _ w.heap.size 32 #[.string S, .int .i64 1] (0, 0) _ rfl HG.out Try.underlying32 rfl HS.out) rfl ⟨by rw [← HNM.out], HB.out⟩
/-- a number's last three bits -/
def dI (x : Int) : Nat := (bits BinOp.and IntKind.i64 x 7).toNat
theorem dI_eq (x : Int) : bits BinOp.and IntKind.i64 x 7 = (dI x : Int) ∧ dI x ≤ 7 := by
  obtain ⟨m, hm, h⟩ := and_n x 7 (by omega)
  have h : bits BinOp.and IntKind.i64 x 7 = (m : Int) := h
  unfold dI
  rw [h]
  exact ⟨rfl, by simpa using hm⟩
def shp (ls : List Int) (j : Nat) : PE := ⟨nmB (97 + j), 1, 1, [], 0, dI (ls.getD j 0) + 1⟩
def shps (ls : List Int) (k : Nat) : List PE := (List.range k).map (shp ls)
def p20 : PE := ⟨nmB 117, 1, 1, [], 0, 99⟩
theorem shps_len (ls : List Int) (k : Nat) : (shps ls k).length = k := by unfold shps; simp
theorem shps_at (ls : List Int) {k j : Nat} (h : j < k) : (shps ls k)[j]? = some (shp ls j) := by unfold shps; simp [h]
theorem shps_mem {ls : List Int} {k : Nat} {x : PE} (h : x ∈ shps ls k) : ∃ j, j < k ∧ x = shp ls j := by
  unfold shps at h
  obtain ⟨j, hj, rfl⟩ := List.mem_map.1 h
  exact ⟨j, List.mem_range.1 hj, rfl⟩
theorem shp_cnt (ls : List Int) (j : Nat) : cntP 0 (shp ls j) = true := decide_eq_true (by show 0 < 0 + (_ + 1); omega)
theorem shp_is {ls : List Int} {i j : Nat} (hi : i ≤ 100) (hj : j ≤ 100) : isP (nmB (97 + i)) 1 (shp ls j) = decide (j = i) := by
  unfold isP
  by_cases h : j = i
  · subst h
    rw [decide_eq_true (⟨rfl, rfl⟩ : (shp ls j).nm = nmB (97 + j) ∧ (shp ls j).ty = 1)]
    simp
  · rw [decide_eq_false h]
    exact decide_eq_false fun e => h (by
      have := nmB_ne (by omega) (by omega) e.1
      omega)
theorem shps_more {ls : List Int} {n k : Nat} (hk : k < n) (hn : n ≤ 15) {ps' : List PE} (h : PutR n 0 (shps ls k) (shp ls k) ps') : ps' = shps ls (k + 1) := by
  have hm := put_more h (fun x hx => by
    obtain ⟨j, _, rfl⟩ := shps_mem hx
    exact shp_cnt ls j) (fun x hx => by
    obtain ⟨j, hj, rfl⟩ := shps_mem hx
    exact (shp_is (by omega) (by omega)).trans (decide_eq_false (by omega)))
  rcases hm with ⟨_, h⟩ | ⟨h, _⟩
  · rw [h]; unfold shps; rw [List.range_succ, List.map_append]; rfl
  · rw [shps_len] at h; omega
/-- the first one of those that count shortest, so far -/
def MnI (ls : List Int) (k f : Nat) : Prop := (f < k ∨ (k = 0 ∧ f = 0)) ∧ ∀ j, j < k → dI (ls.getD f 0) ≤ dI (ls.getD j 0) ∧ (j < f → dI (ls.getD f 0) < dI (ls.getD j 0))
theorem MnI.yes {ls : List Int} {k f : Nat} (h : MnI ls k f) (hlt : dI (ls.getD k 0) < dI (ls.getD f 0)) : MnI ls (k + 1) k := ⟨.inl (by omega), fun j hj => by
  rcases Nat.lt_or_ge j k with h1 | h1
  · have := (h.2 j h1).1
    exact ⟨by omega, fun _ => by omega⟩
  · obtain rfl : j = k := by omega
    exact ⟨Nat.le_refl _, fun h => by omega⟩⟩
theorem MnI.no {ls : List Int} {k f : Nat} (h : MnI ls k f) (hlt : ¬ dI (ls.getD k 0) < dI (ls.getD f 0)) : MnI ls (k + 1) f := ⟨.inl (by have := h.1; omega), fun j hj => by
  rcases Nat.lt_or_ge j k with h1 | h1
  · exact h.2 j h1
  · obtain rfl : j = k := by omega
    exact ⟨by omega, fun h2 => by have := h.1; omega⟩⟩
theorem shps_out {ls : List Int} {n f : Nat} (hn : n ≤ 15) (h0 : 0 < n) (hm : MnI ls n f) {ps' : List PE} (h : PutR n 0 (shps ls n) p20 ps') : ps' = (shps ls n).eraseIdx f ++ [p20] := by
  have hp := put_more h (fun x hx => by
    obtain ⟨j, _, rfl⟩ := shps_mem hx
    exact shp_cnt ls j) (fun x hx => by
    obtain ⟨j, hj, rfl⟩ := shps_mem hx
    exact (shp_is (i := 20) (by omega) (by omega)).trans (decide_eq_false (by omega)))
  rcases hp with ⟨h, _⟩ | ⟨_, g, hg, rfl⟩
  · rw [shps_len] at h; exact absurd rfl h
  · have hgl := hg.1
    rw [shps_len] at hgl
    have hfl : f < n := by have := hm.1; omega
    have h1 := hg.2 f _ _ (shps_at ls hgl) (shps_at ls hfl)
    have h2 := hm.2 g hgl
    have e1 : finP (shp ls g) = 0 + (dI (ls.getD g 0) + 1) := rfl
    have e2 : finP (shp ls f) = 0 + (dI (ls.getD f 0) + 1) := rfl
    rw [e1, e2] at h1
    have : g = f := by omega
    rw [this]
theorem getO_none {now : Nat} {qn : ByteArray} {qt : Int} {L : List PE} (h : ∀ x ∈ L, isP qn qt x = false) : getO now qn qt L = none := by
  unfold getO
  rw [List.find?_eq_none.2 (fun x hx => by rw [h x hx]; simp)]
  rfl
theorem getO_some {now : Nat} {qn : ByteArray} {qt : Int} {L : List PE} {x : PE} (hx : x ∈ L) (hq : isP qn qt x = true) (hc : ∀ y ∈ L, cntP now y = true) : ∃ p, p ∈ L ∧ getO now qn qt L = some p := by
  unfold getO
  cases h : L.find? (isP qn qt) with
  | none => exact absurd hq (List.find?_eq_none.1 h x hx)
  | some p =>
    have hp := List.mem_of_find?_eq_some h
    exact ⟨p, hp, by rw [Option.filter_some, if_pos (hc p hp)]⟩
theorem short_all {ls : List Int} {n f : Nat} {x : PE} (hx : x ∈ (shps ls n).eraseIdx f ++ [p20]) : cntP 0 x = true ∧ x.out = 1 ∧ x.frm = 0 := by
  rcases List.mem_append.1 hx with hx | hx
  · obtain ⟨j, _, rfl⟩ := shps_mem (List.mem_of_mem_eraseIdx hx)
    exact ⟨shp_cnt ls j, rfl, rfl⟩
  · rw [List.mem_singleton.1 hx]
    exact ⟨by decide, rfl, rfl⟩
theorem short_gone {ls : List Int} {n f : Nat} (hn : n ≤ 15) (hf : f < n) : getO 0 (nmB (97 + f)) 1 ((shps ls n).eraseIdx f ++ [p20]) = none := getO_none fun x hx => by
  rcases List.mem_append.1 hx with hx | hx
  · obtain ⟨j, hj, hje⟩ := List.mem_eraseIdx_iff_getElem?.1 hx
    have hjl : j < n := by
      have := (List.getElem?_eq_some_iff.1 hje).1
      rwa [shps_len] at this
    rw [shps_at ls hjl] at hje
    injection hje with hje
    subst hje
    exact (shp_is (by omega) (by omega)).trans (decide_eq_false hj)
  · rw [List.mem_singleton.1 hx]
    exact decide_eq_false fun e => by
      have := nmB_ne (by omega) (by omega) e.1
      omega
theorem short_there {ls : List Int} {n f i : Nat} (hn : n ≤ 15) (hi : i < n) (hne : i ≠ f) : ∃ p, getO 0 (nmB (97 + i)) 1 ((shps ls n).eraseIdx f ++ [p20]) = some p ∧ p.out = 1 := by
  obtain ⟨p, hp, h⟩ := getO_some (now := 0) (qn := nmB (97 + i)) (qt := 1) (L := (shps ls n).eraseIdx f ++ [p20]) (x := shp ls i)
    (List.mem_append_left _ (List.mem_eraseIdx_iff_getElem?.2 ⟨i, hne, shps_at ls hi⟩)) ((shp_is (by omega) (by omega)).trans (decide_eq_true rfl)) (fun y hy => (short_all hy).1)
  exact ⟨p, h, (short_all hp).2.1⟩
theorem short_last {ls : List Int} {n f : Nat} : ∃ p, getO 0 (nmB 117) 1 ((shps ls n).eraseIdx f ++ [p20]) = some p ∧ p.out = 1 := by
  obtain ⟨p, hp, h⟩ := getO_some (now := 0) (qn := nmB 117) (qt := 1) (L := (shps ls n).eraseIdx f ++ [p20]) (x := p20)
    (List.mem_append_right _ (List.mem_singleton.2 rfl)) (decide_eq_true ⟨rfl, rfl⟩) (fun y hy => (short_all hy).1)
  exact ⟨p, h, (short_all hp).2.1⟩
theorem short_len {ls : List Int} {n f : Nat} (hf : f < n) : ((shps ls n).eraseIdx f ++ [p20]).length = n := by
  rw [List.length_append, List.length_eraseIdx_of_lt (by rw [shps_len]; exact hf), shps_len, List.length_singleton]; omega
set_option maxRecDepth 100000 in
set_option maxHeartbeats 4000000 in
theorem cacheShort_walk (A : Option Addr) (n c : Nat) (ls : List Int) (w : World) (hn : ls.length = n) (hls : IntsIn w A ls) : Calls Try.prog 8 #[.slice A n c] w fun e w' => e = .returned (.bool true) ∧ Below w.heap.size w w' := by
  have HFit := Lib.hid (fit9_e w)
  have HLS := Lib.hid hls
  have HN := Lib.hid hn
  clear hls hn
  by_cases h0 : n = 0 ∨ 15 < n
  · have hor : ((n : Int) == 0) = true ∨ ((n : Int) == 0) = false ∧ (15 : Int) < (n : Int) := by
      rcases h0 with h0 | h0
      · exact .inl (by simp [h0])
      · exact .inr ⟨by simp; omega, by omega⟩
    rcases h0 with rfl | h0
    · go_enter Try.func8, Try.ntmps8
      go_wp2_with (go_at_call 9; refine HFit.out.mono ?_; rintro e w1 ⟨rfl, hb1⟩; have HB1 := Lib.hid hb1; clear hb1; go_simp)
      go_ret
      exact ⟨rfl, HB1.out⟩
    · have hI : (15 : Int) < (n : Int) := by omega
      clear hor
      go_enter Try.func8, Try.ntmps8
      go_wp2_with (go_at_call 9; refine HFit.out.mono ?_; rintro e w1 ⟨rfl, hb1⟩; have HB1 := Lib.hid hb1; clear hb1; go_simp)
      go_ret
      exact ⟨rfl, HB1.out⟩
  have hn1 : 1 ≤ n := by omega
  have hn15 : n ≤ 15 := by omega
  have hI : ¬ (15 : Int) < (n : Int) := by omega
  have hI0 : ((n : Int) == 0) = false := by simp; omega
  have HNew := Lib.hid (fun W => new_m (n : Int) W)
  rw [show (min (max (n : Int) 0) 16).toNat = n by omega] at HNew
  obtain ⟨b, o, rfl, hbl, hcl⟩ := HLS.out (List.length_pos_iff.1 (by rw [HN.out]; omega))
  have HCL : Hid (∀ W, Below w.heap.size w W → ∀ k, k < n → W.cell? ⟨b, o + k, none⟩ = some (.int .i64 (ls.getD k 0))) := Lib.hid (fun W hW k hk => (hW.cell (p := ⟨b, o + k, none⟩) hbl).trans (hcl k (by rw [HN.out]; exact hk)))
  clear h0 hcl hbl HLS HN
  go_enter Try.func8, Try.ntmps8
  go_wp2_with (go_at_call 9; refine HFit.out.mono ?_; rintro e w1 ⟨rfl, hb1⟩; have HB1 := Lib.hid hb1; clear hb1; go_simp)
  refine (HNew.out w1).mono ?_
  rintro e w2 ⟨C, hC, rfl, hc2, hb2⟩
  obtain ⟨base, hbase⟩ : ∃ base, base = w1.heap.size := ⟨_, rfl⟩
  rw [← hbase] at hc2
  have HBA : Hid (w.heap.size ≤ base) := Lib.hid (by rw [hbase]; exact HB1.out.size)
  have HC2 : Hid (CM base w2 C n (shps ls 0)) := Lib.hid hc2
  have HB2 := Lib.hid (HB1.out.trans (hb2.mono HB1.out.size))
  clear hb2 hc2 hC HFit HNew hbase HB1
  go_wp2_with fail
  go_loopw [28, 5] (fun vi va wr => ∃ k f : Nat, k ≤ n ∧ vi = .int .i64 k ∧ va = .int .i64 f ∧ Hid (CM base wr C n (shps ls k)) ∧ Hid (MnI ls k f) ∧ Hid (Below w.heap.size w wr)) (fun i _ _ => n - (intOf i).toNat)
  case atStart => exact ⟨0, 0, by omega, rfl, rfl, HC2, Lib.hid ⟨.inr ⟨rfl, rfl⟩, fun j hj => absurd hj (Nat.not_lt_zero _)⟩, HB2⟩
  case round =>
    obtain ⟨k, f, hk, rfl, rfl, HC, HM, HB⟩ := hrel
    by_cases hkT : k < n
    · have hkI : (k : Int) < (n : Int) := by omega
      have hfn : f < n := by have := HM.out.1; omega
      have hcx := HCL.out wr HB.out k hkT
      have HCX := Lib.hid (fun W hW => HCL.out W hW k hkT)
      have HCF := Lib.hid (fun W hW => HCL.out W hW f hfn)
      obtain ⟨hdk, hdk7⟩ := dI_eq (ls.getD k 0)
      obtain ⟨hdf, hdf7⟩ := dI_eq (ls.getD f 0)
      have HS := Lib.hid (fun ps' (h : PutR n 0 (shps ls k) ⟨nmB (97 + k), 1, 1, [], 0, dI (ls.getD k 0) + 1⟩ ps') => shps_more (ls := ls) hkT hn15 (ps' := ps') h)
      have HYN : Hid ((dI (ls.getD k 0) < dI (ls.getD f 0) → MnI ls (k + 1) k) ∧ (¬ dI (ls.getD k 0) < dI (ls.getD f 0) → MnI ls (k + 1) f)) := Lib.hid ⟨HM.out.yes, HM.out.no⟩
      generalize ls.getD k 0 = X at hcx HCX hdk hdk7 HS HYN
      generalize ls.getD f 0 = Y at HCF hdf hdf7 HYN
      generalize dI X = dk at hdk hdk7 HS HYN
      generalize dI Y = df at hdf hdf7 HYN
      have HQ := Lib.hid (fun W => short1_e k (by omega) W)
      generalize nmB (97 + k) = S at HS HQ
      have hfI : (f : Int) < (n : Int) := by omega
      obtain ⟨T, hT⟩ : ∃ T, T = dk + 1 := ⟨_, rfl⟩
      rw [← hT] at HS
      have hTI : (dk : Int) + 1 = (T : Int) := by omega
      have HT := Lib.hid hT
      clear hT HM
      go_wp2_with fail
      refine (HQ.out wr).mono ?_
      rintro e w3 ⟨rfl, hb3⟩
      have HC3 := Lib.hid (HC.out.below hb3)
      have HB3 := Lib.hid (HB.out.trans (hb3.mono HB.out.size))
      clear hb3 hcx HC HB
      go_wp2_with fail
      refine (put_m HC3.out 0 (by decide) S 1 1 (l := .slice none 0 0) (rs := []) (RecsIn.nil _) (fun r hr => by cases hr) (by decide) T T (by omega) (by omega) (by omega)).mono ?_
      rintro e w4 ⟨ps', rfl, hc4, hr4, hs4⟩
      obtain rfl := HS.out _ hr4
      have HB4 := Lib.hid (HB3.out.trans (hs4.below.mono HBA.out))
      have HC4 := Lib.hid hc4
      have hcf := HCF.out w4 HB4.out
      clear hr4 hs4 hc4 HC3 HB3 HCX HCF
      by_cases hlt : dk < df
      · have hltI : (dk : Int) < (df : Int) := by omega
        have HM2 := Lib.hid (HYN.out.1 hlt)
        go_wp2_with fail
        go_roundw
        case rel => exact ⟨k + 1, k, by omega, by first | rfl | go_num, rfl, HC4, HM2, HB4⟩
        case measure => simp [intOf]; omega
      · have hltI : ¬ (dk : Int) < (df : Int) := by omega
        have HM2 := Lib.hid (HYN.out.2 hlt)
        go_wp2_with fail
        go_roundw
        case rel => exact ⟨k + 1, f, by omega, by first | rfl | go_num, rfl, HC4, HM2, HB4⟩
        case measure => simp [intOf]; omega
    · obtain rfl : k = n := by omega
      have hfk : f < k := by have := HM.out.1; omega
      have hkI : ¬ (k : Int) < (k : Int) := by omega
      have HQ := Lib.hid (fun W => short1_e 20 (by omega) W)
      have HPo := Lib.hid (fun ps' (h : PutR k 0 (shps ls k) ⟨nmB 117, 1, 1, [], 0, 99⟩ ps') => shps_out (ls := ls) hn15 hn1 HM.out (ps' := ps') h)
      have HGO := Lib.hid (short_gone (ls := ls) hn15 hfk)
      have HTH := Lib.hid (fun i (hi : i < k) (hne : i ≠ f) => short_there (ls := ls) (f := f) hn15 hi hne)
      have HLA := Lib.hid (short_last (ls := ls) (n := k) (f := f))
      have HLE := Lib.hid (short_len (ls := ls) hfk)
      have HFR : Hid (∀ x ∈ (shps ls k).eraseIdx f ++ [p20], x.frm ≤ 0) := Lib.hid (fun x hx => Nat.le_of_eq (short_all hx).2.2)
      go_wp2_with fail
      refine (HQ.out wr).mono ?_
      rintro e w3 ⟨rfl, hb3⟩
      have HC3 := Lib.hid (HC.out.below hb3)
      have HB3 := Lib.hid (HB.out.trans (hb3.mono HB.out.size))
      clear hb3 HC HB
      go_wp2_with fail
      refine (put_m HC3.out 0 (by decide) (nmB 117) 1 1 (l := .slice none 0 0) (rs := []) (RecsIn.nil _) (fun r hr => by cases hr) (by decide) 99 99 (by decide) (by decide) (by omega)).mono ?_
      rintro e w4 ⟨ps', rfl, hc4, hr4, hs4⟩
      obtain rfl := HPo.out _ hr4
      have HB4 := Lib.hid (HB3.out.trans (hs4.below.mono HBA.out))
      have HC4 := Lib.hid hc4
      clear hr4 hs4 hc4 HC3 HB3 HPo HM
      generalize (shps ls k).eraseIdx f ++ [p20] = L at *
      go_wp2_with fail
      go_loopw [57] (fun vi wr => ∃ i : Nat, i ≤ k ∧ vi = .int .i64 i ∧ Hid (CM base wr C k L) ∧ Hid (Below w.heap.size w wr)) (fun i _ => k - (intOf i).toNat)
      case atStart => exact ⟨0, by omega, rfl, HC4, HB4⟩
      case round =>
        obtain ⟨i, hik, rfl, HC, HB⟩ := hrel
        by_cases hiT : i < k
        · have hiI : (i : Int) < (k : Int) := by omega
          have HQi := Lib.hid (fun W => short1_e i (by omega) W)
          go_wp2_with fail
          refine (HQi.out wr).mono ?_
          rintro e w5 ⟨rfl, hb5⟩
          have HC5 := Lib.hid (HC.out.below hb5)
          have HB5 := Lib.hid (HB.out.trans (hb5.mono HB.out.size))
          clear hb5 HC HB
          go_wp2_with fail
          refine (get_m HC5.out 0 (by decide) (nmB (97 + i)) 1 HFR.out).mono ?_
          rintro e w6 hgm
          by_cases hif : i = f
          · subst hif
            obtain ⟨rfl, hb6⟩ := hgm.none HGO.out
            have HC6 := Lib.hid (HC5.out.below hb6)
            have HB6 := Lib.hid (HB5.out.trans (hb6.mono HB5.out.size))
            clear hb6 hgm HC5 HB5
            go_wp2_with fail
            go_roundw
            case rel => exact ⟨i + 1, by omega, by first | rfl | go_num, HC6, HB6⟩
            case measure => simp [intOf]; omega
          · obtain ⟨p, hp, hpo⟩ := HTH.out i hiT hif
            obtain ⟨lv, rfl, ho, hok, hb6⟩ := hgm.some hp
            obtain ⟨Al, cl, rfl⟩ := own_sl ho
            rw [hpo]
            have hfe : ((i : Int) == (f : Int)) = false := by simp; omega
            have HC6 := Lib.hid (HC5.out.below hb6)
            have HB6 := Lib.hid (HB5.out.trans (hb6.mono HB5.out.size))
            clear hb6 hgm ho hok hp hpo HC5 HB5
            go_wp2_with fail
            go_roundw
            case rel => exact ⟨i + 1, by omega, by first | rfl | go_num, HC6, HB6⟩
            case measure => simp [intOf]; omega
        · obtain rfl : i = k := by omega
          have hiI : ¬ (i : Int) < (i : Int) := by omega
          go_wp2_with fail
          refine (HQ.out wr).mono ?_
          rintro e w5 ⟨rfl, hb5⟩
          have HC5 := Lib.hid (HC.out.below hb5)
          have HB5 := Lib.hid (HB.out.trans (hb5.mono HB.out.size))
          clear hb5 HC HB
          go_wp2_with fail
          refine (get_m HC5.out 0 (by decide) (nmB 117) 1 HFR.out).mono ?_
          rintro e w6 hgm
          obtain ⟨p, hp, hpo⟩ := HLA.out
          obtain ⟨lv, rfl, ho, hok, hb6⟩ := hgm.some hp
          obtain ⟨Al, cl, rfl⟩ := own_sl ho
          rw [hpo]
          have HC6 := Lib.hid (HC5.out.below hb6)
          have HB6 := Lib.hid (HB5.out.trans (hb6.mono HB5.out.size))
          have HLC := len_m HC6.out
          rw [HLE.out] at HLC
          clear hb6 hgm ho hok hp hpo HC5 HB5
          go_wp2_with (first
            | (go_at_call 15; refine HLC.mono ?_; rintro e w7 ⟨rfl, rfl⟩; go_simp))
          go_ret
          exact ⟨rfl, HB6.out⟩
end Go.Proofs.Ytkaeamdjoejfdaa
