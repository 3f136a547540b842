/-
  The walk of NameCapitals: whatever text it is called with, it returns true. Conditions: the text lies within the form's own reach, and the library's variable MaxLen holds some number.
-/
import Derived.Test.YtiaijbklpkapmaaDoorNamePartsLib
namespace Go.Proofs.YtiaijbklpkapmaaDoor
open Go.RowKit

def upc (b : UInt8) : UInt8 := if 97 ≤ b ∧ b ≤ 122 then b - 32 else b
theorem upc_hit (b : UInt8) (h1 : 97 ≤ (b.toNat : Int)) (h2 : (b.toNat : Int) ≤ 122) : ((upc b).toNat : Int) = (b.toNat : Int) - 32 := by
  have h : ∀ k : Fin 256, 97 ≤ k.val → k.val ≤ 122 → (upc (UInt8.ofNat k.val)).toNat + 32 = k.val := by decide +kernel
  have := h ⟨b.toNat, b.toNat_lt⟩ (by simp only; omega) (by simp only; omega)
  simp only [UInt8.ofNat_toNat] at this
  omega
theorem upc_miss (b : UInt8) (h : (b.toNat : Int) < 97 ∨ 122 < (b.toNat : Int)) : upc b = b := by
  have h' : ∀ k : Fin 256, k.val < 97 ∨ 122 < k.val → upc (UInt8.ofNat k.val) = UInt8.ofNat k.val := by decide +kernel
  have := h' ⟨b.toNat, b.toNat_lt⟩ (by simp only; omega)
  simpa using this
theorem lowc_upc (b : UInt8) : lowc (upc b) = lowc b := by
  have h : ∀ k : Fin 256, lowc (upc (UInt8.ofNat k.val)) = lowc (UInt8.ofNat k.val) := by decide +kernel
  simpa using h ⟨b.toNat, b.toNat_lt⟩
def upB (s : ByteArray) : ByteArray := ⟨(s.data.toList.map upc).toArray⟩
theorem upB_data (s : ByteArray) : (upB s).data.toList = s.data.toList.map upc := rfl
theorem upB_size (s : ByteArray) : (upB s).size = s.size := by rw [Lib.size_eq, upB_data, List.length_map, ← Lib.size_eq]
theorem low_up (s : ByteArray) : low (upB s).data.toList = low s.data.toList := by
  rw [upB_data]; unfold low
  rw [List.map_map]
  exact List.map_congr_left fun c _ => lowc_upc c

/-- how memory stands in the loop's round k: the new row's first k bytes are turned -/
structure UpAt (w wr : World) (s : ByteArray) (k : Nat) : Prop where
  below : Below w.heap.size w wr
  more : w.heap.size < wr.heap.size
  cells : ∀ j (_ : j < s.size), wr.cell? ⟨w.heap.size, j, none⟩ = some (.int .u8 (if j < k then (upc s[j]).toNat else s[j].toNat))
  free : ∀ j (_ : j < s.size), wr.frozen? ⟨w.heap.size, j, none⟩ = false
theorem upAt_start (w : World) (s : ByteArray) (cap : Nat) (t : TypeId) : UpAt w (w.alloc (.cells (bytesRow s cap) t ((bytesRow s cap).size, (bytesRow s cap).size + 1))).drew s 0 := by
  refine ⟨((Below.refl _ w).alloc (Nat.le_refl _) _).drew, ?_, fun j hj => ?_, fun j hj => ?_⟩
  · show w.heap.size < (w.alloc _).heap.size
    rw [World.size_alloc]; omega
  · show (w.alloc _).cell? _ = _
    rw [World.cell?_alloc_mark, bytesRow_at s _ j hj, if_neg (Nat.not_lt_zero j)]; rfl
  · show (w.alloc _).frozen? _ = _
    rw [World.frozen?_alloc_mark]
    have : s.size ≤ (bytesRow s cap).size := by rw [bytesRow, Array.size_append, Array.size_map]; exact Nat.le_add_right _ _
    rw [decide_eq_false (by omega)]; rfl
theorem upAt_keep {w wr : World} {s : ByteArray} {k : Nat} (h : UpAt w wr s k) (hk : k < s.size) (hc : (s[k].toNat : Int) < 97 ∨ 122 < (s[k].toNat : Int)) : UpAt w wr s (k + 1) :=
  ⟨h.below, h.more, fun j hj => by
    rw [h.cells j hj]
    by_cases e : j = k
    · subst e; rw [if_neg (Nat.lt_irrefl j), if_pos (Nat.lt_succ_self j), upc_miss _ hc]
    · by_cases l : j < k
      · rw [if_pos l, if_pos (by omega)]
      · rw [if_neg l, if_neg (by omega)], h.free⟩
theorem upAt_set {w wr : World} {s : ByteArray} {k : Nat} (h : UpAt w wr s k) (hk : k < s.size) (h1 : 97 ≤ (s[k].toNat : Int)) (h2 : (s[k].toNat : Int) ≤ 122) : UpAt w (wr.setCell ⟨w.heap.size, k, none⟩ (.int .u8 ((s[k].toNat : Int) - 32))) s (k + 1) :=
  ⟨h.below.setCell (Nat.le_refl _) _, by rw [World.size_setCell]; exact h.more, fun j hj => by
    by_cases e : j = k
    · subst e
      rw [World.cell?_setCell_same (h := h.cells j hj), if_pos (Nat.lt_succ_self j), upc_hit _ h1 h2]
    · rw [World.cell?_setCell_other (h := by intro e'; injection e' with _ e' _; omega), h.cells j hj]
      by_cases l : j < k
      · rw [if_pos l, if_pos (by omega)]
      · rw [if_neg l, if_neg (by omega)], fun j hj => by rw [World.frozen?_setCell]; exact h.free j hj⟩
theorem upAt_end {w wr : World} {s : ByteArray} (h : UpAt w wr s s.size) (cap : Nat) : (convert 34 9 (.slice (some ⟨w.heap.size, 0, none⟩) s.size cap)).run Tryd.prog wr = .ok (.string (upB s)) wr := by
  have hl : (s.data.toList.map upc).length = s.size := by rw [List.length_map, ← Lib.size_eq]
  have := run_convert_bytes_back (P := Tryd.prog) wr 34 9 5 ⟨w.heap.size, 0, none⟩ cap (s.data.toList.map upc) Tryd.underlying34 Tryd.underlying5 Tryd.underlying9 (fun j hj => by
    have hj' : j < s.size := by omega
    rw [Addr.add_lit, Nat.zero_add, h.cells j hj', if_pos hj']
    congr 2
    have e : (s.data.toList.map upc)[j] = upc s[j] := by
      have e1 : (s.data.toList.map upc)[j]? = some (upc s[j]) := by rw [List.getElem?_map, Lib.data_getElem? s j hj']; rfl
      rw [List.getElem?_eq_getElem hj] at e1
      exact Option.some.inj e1
    rw [e])
  rw [hl] at this
  exact this
theorem UpAt.of_below {w wr w2 : World} {s : ByteArray} {k : Nat} (h : UpAt w wr s k) (hb : Below wr.heap.size wr w2) : UpAt w w2 s k :=
  ⟨h.below.trans (hb.mono h.below.size), Nat.lt_of_lt_of_le h.more hb.size, fun j hj => (hb.cell (p := ⟨w.heap.size, j, none⟩) h.more).trans (h.cells j hj), fun j hj => (hb.frozen (p := ⟨w.heap.size, j, none⟩) h.more).trans (h.free j hj)⟩
theorem join_point (s : ByteArray) : (s ++ { data := #[46] }).data.toList = s.data.toList ++ [46] := by
  rw [ByteArray.data_append, Array.toList_append]

set_option maxRecDepth 100000 in
set_option maxHeartbeats 1000000 in
theorem nameCapitals_walk (s : ByteArray) (w : World) (he : Env w) (hs : s.size ≤ 140737488351232) :
    Calls Tryd.prog 7 #[.string s] w fun e w' => e = .returned (.bool true) ∧ Below w.heap.size w w' := by
  by_cases hl : s.size ≤ 900
  · by_cases ha : ends s
    · have h0 := ends_pos ha
      have h1 := (last_point h0).2 ha
      have h2 := nonempty h0
      clear ha
      go_enter Tryd.func7, Tryd.ntmps7
      go_wp2_with fail
      refine (fit_e w he).mono ?_; rintro e w1 ⟨rfl, hb1, he1⟩
      go_wp2_with fail
      go_ret
      exact ⟨rfl, hb1⟩
    · have hA := not_ends ha
      have HA := Lib.hid ha
      clear ha
      rcases hA with ⟨g1, g2⟩ | ⟨g0, g1, g2, g3⟩
      all_goals
        go_enter Tryd.func7, Tryd.ntmps7
        go_wp2_with fail
        refine (fit_e w he).mono ?_; rintro e w1 ⟨rfl, hb1, he1⟩
        have hcv2 := fun w s => run_bytes_of_string (P := Tryd.prog) w 9 34 5 s Tryd.underlying9 Tryd.underlying34 Tryd.underlying5
        go_wp2_with fail
        generalize grownCap w1 s.size 0 5 = cap
        clear hcv2
        go_loopw [33, 4, 5] (fun i _ _ wr => ∃ k : Nat, k ≤ s.size ∧ i = .int .i64 k ∧ UpAt w1 wr s k) (fun i _ _ _ => s.size - (intOf i).toNat)
        case atStart => exact ⟨0, Nat.zero_le _, rfl, upAt_start w1 s cap _⟩
        case round =>
          obtain ⟨k, hk, rfl, hat⟩ := hrel
          by_cases hlt : k < s.size
          · have c0 : wr.cell? ⟨w1.heap.size, k, none⟩ = some (.int .u8 s[k].toNat) := by rw [hat.cells k hlt, if_neg (Nat.lt_irrefl k)]
            have f0 := hat.free k hlt
            have H := Lib.hid hat
            clear hat
            go_wp2_with fail
            all_goals
              go_roundw
              case rel => exact ⟨k + 1, by omega, by go_num, by first | exact upAt_set H.out hlt (by assumption) (by assumption) | exact upAt_keep H.out hlt (by omega)⟩
              case measure => simp [intOf]; omega
          · obtain rfl : k = s.size := by omega
            have hb := hb1.trans (hat.below.mono hb1.size)
            have he2 := he1.below hat.below
            have HAT := Lib.hid hat
            clear hat hb1 he1
            go_wp2_with fail
            refine (ta_e s wr he2 (by omega)).mono ?_; rintro e w2 ⟨n, t, rfl, hb2, he3, hta⟩
            have hcv := upAt_end (HAT.out.of_below hb2) cap
            have C2 := ta_at (upB s) t n w2 he3 (by rw [upB_size]; omega) (hta.out.of_low (low_up s))
            have H3 := Lib.hid (hta.out.point (by rw [← Lib.size_eq]; omega) HA.out)
            replace hb := hb.trans (hb2.mono hb.size)
            clear hb2 HAT hta
            go_wp2_with fail
            refine C2.mono ?_; rintro e w3 ⟨rfl, hb3, he4⟩
            clear C2 hcv
            replace hb := hb.trans (hb3.mono hb.size)
            have C3 := ta_at (s ++ { data := #[46] }) t n w3 he4 (by rw [ByteArray.size_append]; show s.size + 1 ≤ _; omega) (by rw [join_point]; exact H3.out)
            clear hb3
            go_wp2_with fail
            refine C3.mono ?_; rintro e w4 ⟨rfl, hb4, he5⟩
            replace hb := hb.trans (hb4.mono hb.size)
            clear C3 hb4
            go_wp2_with fail
            go_ret
            exact ⟨ret_bool (by simp), hb⟩
  · go_enter Tryd.func7, Tryd.ntmps7
    go_wp2_with fail
    refine (fit_e w he).mono ?_; rintro e w1 ⟨rfl, hb1, he1⟩
    go_wp2_with fail
    go_ret
    exact ⟨rfl, hb1⟩
end Go.Proofs.YtiaijbklpkapmaaDoor
