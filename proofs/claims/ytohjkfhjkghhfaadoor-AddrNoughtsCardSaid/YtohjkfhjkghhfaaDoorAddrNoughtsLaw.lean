/-
  The walk of AddrNoughts: what is no address's text is refused. Condition: the library's variables hold what their initialisers lay.
-/
import Derived.Test.YtohjkfhjkghhfaaDoorAddrFit
import Derived.Test.YtohjkfhjkghhfaaDoorAddrOther
import Derived.Laws.IdiomStrings
import Derived.Laws.Concat
import Derived.Lib.SlBytesRow
namespace Go.Proofs.YtohjkfhjkghhfaaDoor
open Go.RowKit

theorem cap_hit (b : UInt8) (h1 : 97 ≤ (b.toNat : Int)) (h2 : (b.toNat : Int) ≤ 102) : ((cap b).toNat : Int) = (b.toNat : Int) - 32 := by
  have h : ∀ k : Fin 256, 97 ≤ k.val → k.val ≤ 102 → (cap (UInt8.ofNat k.val)).toNat + 32 = k.val := by decide +kernel
  have := h ⟨b.toNat, b.toNat_lt⟩ (by simp only; omega) (by simp only; omega)
  simp only [UInt8.ofNat_toNat] at this
  omega
theorem cap_miss (b : UInt8) (h : (b.toNat : Int) < 97 ∨ 102 < (b.toNat : Int)) : cap b = b := by
  refine cap_keep ?_
  unfold lowH
  exact decide_eq_false (by omega)
def capB (s : ByteArray) : ByteArray := ⟨(s.data.toList.map cap).toArray⟩
theorem capB_data (s : ByteArray) : (capB s).data.toList = s.data.toList.map cap := rfl
theorem capB_size (s : ByteArray) : (capB s).size = s.size := by rw [Lib.size_eq, capB_data, List.length_map, ← Lib.size_eq]
/-- is a letter among the first k? -/
def lowTo (s : ByteArray) (k : Nat) : Bool := (s.data.toList.take k).any lowH
theorem lowTo_step (s : ByteArray) (k : Nat) (hk : k < s.size) : lowTo s (k + 1) = (lowTo s k || lowH s[k]) := by
  unfold lowTo
  rw [List.take_add_one, Lib.data_getElem? s k hk, List.any_append]
  simp
theorem lowTo_all (s : ByteArray) : lowTo s s.size = s.data.toList.any lowH := by
  unfold lowTo
  rw [Lib.size_eq, List.take_length]
theorem lowTo_hit {s : ByteArray} {k : Nat} (hk : k < s.size) (h1 : 97 ≤ (s[k].toNat : Int)) (h2 : (s[k].toNat : Int) ≤ 102) : lowTo s (k + 1) = true := by
  rw [lowTo_step s k hk, show lowH s[k] = true from decide_eq_true (by omega), Bool.or_true]
theorem lowTo_miss {s : ByteArray} {k : Nat} (hk : k < s.size) (h : (s[k].toNat : Int) < 97 ∨ 102 < (s[k].toNat : Int)) : lowTo s (k + 1) = lowTo s k := by
  rw [lowTo_step s k hk, show lowH s[k] = false from decide_eq_false (by omega), Bool.or_false]

/-- how memory stands in the loop's round k: the new row's first k bytes are turned -/
structure CapAt (w wr : World) (s : ByteArray) (k : Nat) : Prop where
  below : Below w.heap.size w wr
  more : w.heap.size < wr.heap.size
  cells : ∀ j (_ : j < s.size), wr.cell? ⟨w.heap.size, j, none⟩ = some (.int .u8 (if j < k then (cap s[j]).toNat else s[j].toNat))
  free : ∀ j (_ : j < s.size), wr.frozen? ⟨w.heap.size, j, none⟩ = false
theorem capAt_start (w : World) (s : ByteArray) (cp : Nat) (t : TypeId) : CapAt w (w.alloc (.cells (bytesRow s cp) t ((bytesRow s cp).size, (bytesRow s cp).size + 1))).drew s 0 := by
  refine ⟨((Below.refl _ w).alloc (Nat.le_refl _) _).drew, ?_, fun j hj => ?_, fun j hj => ?_⟩
  · show w.heap.size < (w.alloc _).heap.size
    rw [World.size_alloc]; omega
  · show (w.alloc _).cell? _ = _
    rw [World.cell?_alloc_mark, bytesRow_at s _ j hj, if_neg (Nat.not_lt_zero j)]; rfl
  · show (w.alloc _).frozen? _ = _
    rw [World.frozen?_alloc_mark]
    have : s.size ≤ (bytesRow s cp).size := by rw [bytesRow, Array.size_append, Array.size_map]; exact Nat.le_add_right _ _
    rw [decide_eq_false (by omega)]; rfl
theorem capAt_keep {w wr : World} {s : ByteArray} {k : Nat} (h : CapAt w wr s k) (hk : k < s.size) (hc : (s[k].toNat : Int) < 97 ∨ 102 < (s[k].toNat : Int)) : CapAt w wr s (k + 1) :=
  ⟨h.below, h.more, fun j hj => by
    rw [h.cells j hj]
    by_cases e : j = k
    · subst e; rw [if_neg (Nat.lt_irrefl j), if_pos (Nat.lt_succ_self j), cap_miss _ hc]
    · by_cases l : j < k
      · rw [if_pos l, if_pos (by omega)]
      · rw [if_neg l, if_neg (by omega)], h.free⟩
theorem capAt_set {w wr : World} {s : ByteArray} {k : Nat} (h : CapAt w wr s k) (hk : k < s.size) (h1 : 97 ≤ (s[k].toNat : Int)) (h2 : (s[k].toNat : Int) ≤ 102) : CapAt w (wr.setCell ⟨w.heap.size, k, none⟩ (.int .u8 ((s[k].toNat : Int) - 32))) s (k + 1) :=
  ⟨h.below.setCell (Nat.le_refl _) _, by rw [World.size_setCell]; exact h.more, fun j hj => by
    by_cases e : j = k
    · subst e
      rw [World.cell?_setCell_same (h := h.cells j hj), if_pos (Nat.lt_succ_self j), cap_hit _ h1 h2]
    · rw [World.cell?_setCell_other (h := by intro e'; injection e' with _ e' _; omega), h.cells j hj]
      by_cases l : j < k
      · rw [if_pos l, if_pos (by omega)]
      · rw [if_neg l, if_neg (by omega)], fun j hj => by rw [World.frozen?_setCell]; exact h.free j hj⟩
theorem capAt_end {w wr : World} {s : ByteArray} (h : CapAt w wr s s.size) (cp : Nat) : (convert 34 9 (.slice (some ⟨w.heap.size, 0, none⟩) s.size cp)).run Tryd.prog wr = .ok (.string (capB s)) wr := by
  have hl : (s.data.toList.map cap).length = s.size := by rw [List.length_map, ← Lib.size_eq]
  have := run_convert_bytes_back (P := Tryd.prog) wr 34 9 5 ⟨w.heap.size, 0, none⟩ cp (s.data.toList.map cap) Tryd.underlying34 Tryd.underlying5 Tryd.underlying9 (fun j hj => by
    have hj' : j < s.size := by omega
    rw [Addr.add_lit, Nat.zero_add, h.cells j hj', if_pos hj']
    congr 2
    have e : (s.data.toList.map cap)[j] = cap s[j] := by
      have e1 : (s.data.toList.map cap)[j]? = some (cap s[j]) := by rw [List.getElem?_map, Lib.data_getElem? s j hj']; rfl
      rw [List.getElem?_eq_getElem hj] at e1
      exact Option.some.inj e1
    rw [e])
  rw [hl] at this
  exact this
theorem parse_no (x : ByteArray) (hx : parseA x.data.toList = none) (hs : x.size ≤ 1000) (w : World) (he : AEnv w) :
    Calls Tryd.prog 12 #[.string x] w fun e w' => e = .returned (.tuple #[.agg (bvs zero16).toArray, .int .i64 5]) ∧ Below w.heap.size w w' :=
  (parse_e x w he (by omega)).mono fun e w' ⟨h1, h2⟩ => by
    rcases h2 with ⟨c, hc, _⟩ | ⟨_, h3⟩
    · rw [hx] at hc; cases hc
    · exact ⟨h3, h1⟩
/-- what the text with capitals gives -/
theorem parse_caps {a : List UInt8} (ha : a.length = 16) (w : World) (he : AEnv w) :
    Calls Tryd.prog 12 #[.string (capB (tb (txt a)))] w fun e w' => (∃ (c : List UInt8) (k : Int), c.length = 16 ∧ e = .returned (.tuple #[.agg (bvs c).toArray, .int .i64 k]) ∧ (k == 5) = (txt a).any lowH) ∧ Below w.heap.size w w' :=
  (parse_e _ w he (by rw [capB_size, Lib.size_eq, tb_data]; have := txt_len ha; omega)).mono fun e w' ⟨h1, h2⟩ => by
    refine ⟨?_, h1⟩
    rw [capB_data, tb_data, other_caps ha] at h2
    rcases h2 with ⟨c, hc, hl, h3⟩ | ⟨hc, h3⟩
    · refine ⟨c, 0, hl, h3, ?_⟩
      by_cases hh : (txt a).any lowH = true
      · rw [if_pos hh] at hc; cases hc
      · rw [Bool.eq_false_iff.2 hh]; rfl
    · refine ⟨zero16, 5, rfl, h3, ?_⟩
      by_cases hh : (txt a).any lowH = true
      · rw [hh]; rfl
      · rw [if_neg hh] at hc; cases hc
theorem ne58 {c : UInt8} (h : ((c.toNat : Int) == 58) = false) : some c ≠ some (58 : UInt8) := fun e => by injection e with e; subst e; exact absurd h (by decide)
theorem is58 {c : UInt8} (h : ((c.toNat : Int) == 58) = true) : some c = some (58 : UInt8) := by
  have : c = 58 := UInt8.toNat_inj.1 (by have := eq_of_beq h; show c.toNat = 58; omega)
  rw [this]
set_option maxRecDepth 100000 in
set_option maxHeartbeats 4000000 in
theorem addrNoughts_walk (a : List UInt8) (ha : a.length = 16) (n : Int) (w : World) (he : AEnv w) :
    Calls Tryd.prog 10 #[.agg (bvs a).toArray, .int .i64 n] w fun e w' => e = .returned (.bool true) ∧ Below w.heap.size w w' := by
  obtain ⟨Z, hZ⟩ : ∃ Z, Z = (bvs zero16).toArray := ⟨_, rfl⟩
  have zA : (Tryd.prog.info? 23).map (·.zero) = some (some (.agg Z)) := by rw [hZ]; exact zeroAddr
  have zS : (Tryd.prog.info? 23).map (·.size) = some Z.size := by rw [hZ]; exact sizeBv rfl
  have z1 : Z.all (·.oneCell') = true := by rw [hZ]; exact oneBv _
  have zn : Z.size = 16 := by rw [hZ]; rfl
  have hS := sizeBv ha
  have hu := Tryd.underlying23
  have hprint := fun W (hW : AEnv W) => print_e a ha W hW
  have hcaps := fun W (hW : AEnv W) => parse_caps ha W hW
  have hany : lowTo (tb (txt a)) (tb (txt a)).size = (txt a).any lowH := lowTo_all _
  have hl := txt_len ha
  have h0 : 0 < (tb (txt a)).size := by
    rw [Lib.size_eq, tb_data]
    rcases e : txt a with _ | ⟨c, l⟩
    · exact absurd e (txt_ne ha)
    · simp
  have hle : (tb (txt a)).size ≤ 39 := by rw [Lib.size_eq, tb_data]; exact hl
  have hhead : (txt a).head? = some ((tb (txt a))[0]'h0) := by
    rw [List.head?_eq_getElem?]; exact Lib.data_getElem? (tb (txt a)) 0 h0
  have hn1 : (txt a).head? ≠ some 58 → parseA ((⟨#[48]⟩ : ByteArray) ++ tb (txt a)).data.toList = none := fun h => by
    rw [ByteArray.data_append, Array.toList_append]; exact other_nought ha h
  have hn2 : (txt a).head? = some 58 → parseA (((⟨#[48]⟩ : ByteArray) ++ (tb (txt a)).extract 0 1) ++ tb (txt a)).data.toList = none := fun h => by
    have hx : (tb (txt a)).extract 0 1 = ⟨#[58]⟩ := by
      apply bytes_inj
      rw [ByteArray.data_extract, Array.toList_extract, tb_data]
      rcases e : txt a with _ | ⟨c, l⟩
      · exact absurd e (txt_ne ha)
      · rw [e] at h; injection h with h; subst h; rfl
    rw [hx, ByteArray.data_append, Array.toList_append]; exact other_gap ha h
  have hn3 : parseA (tb (txt a) ++ (⟨#[58]⟩ : ByteArray)).data.toList = none := by
    rw [ByteArray.data_append, Array.toList_append]; exact other_colon ha
  have hn4 : parseA (tb (txt a) ++ (⟨#[46, 49]⟩ : ByteArray)).data.toList = none := by
    rw [ByteArray.data_append, Array.toList_append]; exact other_point ha
  have hn5 : parseA (⟨#[]⟩ : ByteArray).data.toList = none := other_empty
  generalize (txt a).any lowH = up at hcaps hany
  rw [hhead] at hn1 hn2
  clear hhead hl
  obtain ⟨r, hr⟩ : ∃ r, r = (bvs a).toArray := ⟨_, rfl⟩
  simp only [← hr] at hS hprint ⊢
  generalize tb (txt a) = s at hprint hcaps hany h0 hle hn1 hn2 hn3 hn4
  have hb0 : Below w.heap.size w (w.alloc (.cells r 23)) := (Below.refl _ w).alloc (Nat.le_refl _) _
  have hR0 : (w.alloc (.cells r 23)).heap[w.heap.size]? = some (.cells r 23 (0, 0)) := heap_alloc_last w _
  have HE := Lib.hid (he.below hb0)
  have HB0 := Lib.hid hb0
  have HR0 := Lib.hid (fun w' (hb : Below (w.alloc (.cells r 23)).heap.size (w.alloc (.cells r 23)) w') => (hb.block w.heap.size (by rw [World.size_alloc]; omega)).trans hR0)
  have ZA := Lib.hid zA
  have ZS := Lib.hid zS
  have Z1 := Lib.hid z1
  have ZN := Lib.hid zn
  have HZ := Lib.hid hZ
  have HS := Lib.hid hS
  have HPr := Lib.hid hprint
  have HC := Lib.hid hcaps
  have HA := Lib.hid hany
  have N1 := Lib.hid hn1
  have N2 := Lib.hid hn2
  have N3 := Lib.hid hn3
  have N4 := Lib.hid hn4
  have N5 := Lib.hid hn5
  clear zA zS z1 zn hZ hS hprint hcaps hany hn1 hn2 hn3 hn4 hn5 hr hb0 hR0 he ha
  go_enter Tryd.func10, Tryd.ntmps10
  go_wp2_with fail
  refine (fit_e _ HE.out).mono ?_
  rintro e w1 ⟨rfl, hb1⟩
  have HB1 := Lib.hid (HB0.out.trans (hb1.mono HB0.out.size))
  have HE1 := Lib.hid (HE.out.below hb1)
  have hR1 := Lib.hid (HR0.out w1 hb1)
  clear hb1 HR0
  go_wp2_with (first
      | (refine wpList_load_row rfl 23 (.tmp 2) rfl w.heap.size rfl 23 r (0, 0) _ hR1.out hu rfl HS.out ?_; go_simp))
  refine (HPr.out _ HE1.out).mono ?_
  rintro e w2 ⟨rfl, hb2⟩
  have HB2 := Lib.hid (HB1.out.trans (hb2.mono HB1.out.size))
  have HE2 := Lib.hid (HE1.out.below hb2)
  clear hb2 hR1
  go_wp2_with fail
  all_goals
    refine (parse_no _ (by first | exact N1.out (ne58 (by assumption)) | exact N2.out (is58 (by assumption))) (by first | (rw [ByteArray.size_append]; show 1 + s.size ≤ 1000; omega) | (rw [ByteArray.size_append, ByteArray.size_append, ByteArray.size_extract]; show 1 + _ + s.size ≤ 1000; omega)) _ HE2.out).mono ?_
    rintro e w3 ⟨rfl, hb⟩
    rw [← HZ.out]
    have hb' : Below w2.heap.size w2 (w3.alloc (.cells Z 23)) := hb.alloc hb.size _
    have HB3 := Lib.hid (HB2.out.trans (hb'.mono HB2.out.size))
    have HE3 := Lib.hid (HE2.out.below hb')
    clear hb hb'
    go_wp2_with (first
      | (refine wpList_alloc_z rfl 23 rfl Z ZA.out ?_; go_simp)
      | (refine wpList_store_new rfl 23 (.tmp 7) (.tmp 37) rfl w3.heap.size rfl Z Z 23 rfl rfl ZS.out rfl Z1.out ?_; go_simp))
    refine (parse_no _ (N3.out) (by rw [ByteArray.size_append]; show s.size + 1 ≤ 1000; omega) _ HE3.out).mono ?_
    rintro e w4 ⟨rfl, hb⟩
    rw [← HZ.out]
    have hb' : Below (w3.alloc (.cells Z 23)).heap.size (w3.alloc (.cells Z 23)) (w4.alloc (.cells Z 23)) := hb.alloc hb.size _
    have HB4 := Lib.hid (HB3.out.trans (hb'.mono HB3.out.size))
    have HE4 := Lib.hid (HE3.out.below hb')
    clear hb hb'
    go_wp2_with (first
      | (refine wpList_alloc_z rfl 23 rfl Z ZA.out ?_; go_simp)
      | (refine wpList_store_new rfl 23 (.tmp 9) (.tmp 43) rfl w4.heap.size rfl Z Z 23 rfl rfl ZS.out rfl Z1.out ?_; go_simp))
    refine (parse_no _ (N4.out) (by rw [ByteArray.size_append]; show s.size + 2 ≤ 1000; omega) _ HE4.out).mono ?_
    rintro e w5 ⟨rfl, hb⟩
    rw [← HZ.out]
    have hb' : Below (w4.alloc (.cells Z 23)).heap.size (w4.alloc (.cells Z 23)) (w5.alloc (.cells Z 23)) := hb.alloc hb.size _
    have HB5 := Lib.hid (HB4.out.trans (hb'.mono HB4.out.size))
    have HE5 := Lib.hid (HE4.out.below hb')
    clear hb hb'
    go_wp2_with (first
      | (refine wpList_alloc_z rfl 23 rfl Z ZA.out ?_; go_simp)
      | (refine wpList_store_new rfl 23 (.tmp 11) (.tmp 49) rfl w5.heap.size rfl Z Z 23 rfl rfl ZS.out rfl Z1.out ?_; go_simp))
    refine (parse_no _ (N5.out) (by show 0 ≤ 1000; omega) _ HE5.out).mono ?_
    rintro e w6 ⟨rfl, hb⟩
    rw [← HZ.out]
    have hb' : Below (w5.alloc (.cells Z 23)).heap.size (w5.alloc (.cells Z 23)) (w6.alloc (.cells Z 23)) := hb.alloc hb.size _
    have HB6 := Lib.hid (HB5.out.trans (hb'.mono HB5.out.size))
    have HE6 := Lib.hid (HE5.out.below hb')
    clear hb hb'
    have hcv2 := fun w s => run_bytes_of_string (P := Tryd.prog) w 9 34 5 s Tryd.underlying9 Tryd.underlying34 Tryd.underlying5
    go_wp2_with (first
      | (refine wpList_alloc_z rfl 23 rfl Z ZA.out ?_; go_simp)
      | (refine wpList_store_new rfl 23 (.tmp 13) (.tmp 53) rfl w6.heap.size rfl Z Z 23 rfl rfl ZS.out rfl Z1.out ?_; go_simp))
    generalize grownCap (w6.alloc (.cells Z 23)) s.size 0 5 = cp
    clear hcv2
    go_loopw [59, 16, 17] (fun i u _ wr => ∃ k : Nat, k ≤ s.size ∧ i = .int .i64 k ∧ u = .bool (lowTo s k) ∧ CapAt (w6.alloc (.cells Z 23)) wr s k) (fun i _ _ _ => s.size - (intOf i).toNat)
    case atStart => exact ⟨0, Nat.zero_le _, rfl, rfl, capAt_start (w6.alloc (.cells Z 23)) s cp _⟩
    case round =>
      obtain ⟨k, hk, rfl, rfl, hat⟩ := hrel
      by_cases hlt : k < s.size
      · have c0 : wr.cell? ⟨w6.heap.size + 1, k, none⟩ = some (.int .u8 s[k].toNat) := by
          have := hat.cells k hlt
          rw [if_neg (Nat.lt_irrefl k), World.size_alloc] at this
          exact this
        have f0 : wr.frozen? ⟨w6.heap.size + 1, k, none⟩ = false := by
          have := hat.free k hlt
          rw [World.size_alloc] at this
          exact this
        have H := Lib.hid hat
        clear hat
        go_wp2_with fail
        all_goals
          go_roundw
          case rel =>
            refine ⟨k + 1, by omega, by go_num, ?_, ?_⟩
            · first | rw [lowTo_hit hlt (by assumption) (by assumption)] | rw [lowTo_miss hlt (by omega)]
            · first
                | (have h9 := capAt_set H.out hlt (by assumption) (by assumption)
                   rw [World.size_alloc] at h9
                   exact h9)
                | exact capAt_keep H.out hlt (by omega)
          case measure => simp [intOf]; omega
      · obtain rfl : k = s.size := by omega
        have hcv := capAt_end hat cp
        rw [World.size_alloc] at hcv
        have HB7 := Lib.hid (HB6.out.trans (hat.below.mono HB6.out.size))
        have HE7 := Lib.hid (HE6.out.below hat.below)
        clear hat
        go_wp2_with fail
        refine (HC.out _ HE7.out).mono ?_
        rintro e w8 ⟨⟨c, m, hcl, rfl, hm⟩, hb8⟩
        rw [HA.out]
        have hSc := sizeBv hcl
        have h1c := oneBv c
        have hzc : Z.size = (bvs c).toArray.size := by rw [ZN.out, List.size_toArray, bvs_length, hcl]
        obtain ⟨q, hqq⟩ : ∃ q, q = (bvs c).toArray := ⟨_, rfl⟩
        simp only [← hqq] at hSc h1c hzc ⊢
        have hb9 : Below wr.heap.size wr (w8.alloc (.cells q 23)) := hb8.alloc hb8.size _
        have HB9 := Lib.hid (HB7.out.trans (hb9.mono HB7.out.size))
        have HSc := Lib.hid hSc
        have H1c := Lib.hid h1c
        have HZc := Lib.hid hzc
        have HM := Lib.hid hm
        clear hSc h1c hzc hqq hcl hb8 hb9 hm hcv
        go_wp2_with (first
          | (refine wpList_alloc_z rfl 23 rfl Z ZA.out ?_; go_simp)
          | (refine wpList_store_new rfl 23 (.tmp 18) (.tmp 85) rfl w8.heap.size rfl Z q 23 rfl rfl HSc.out HZc.out H1c.out ?_; go_simp))
        go_ret
        refine ⟨?_, HB9.out⟩
        rw [HM.out]
        simp
end Go.Proofs.YtohjkfhjkghhfaaDoor
