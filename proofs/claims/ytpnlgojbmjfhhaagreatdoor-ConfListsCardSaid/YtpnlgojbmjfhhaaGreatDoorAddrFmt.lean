/-
  The walk of strconv.FormatUint in base 16: the text of every number below 65536. Condition: the library's table deBruijn64tab holds what its initialiser lays.
-/
import Derived.Test.YtpnlgojbmjfhhaaGreatDoorAddrMem
import Derived.Laws.Bits64b
import Derived.Lib.ItoaWalk
namespace Go.Proofs.YtpnlgojbmjfhhaaGreatDoor
open Go.RowKit

theorem tz64 (w : World) (hc : w.cell? ⟨4, 15, none⟩ = some (.int .u8 4)) :
    Calls Tryz.prog 124 #[.int .u64 16] w fun e w' => e = .returned (.int .i64 4) ∧ w' = w := by
  have key : IntKind.u64.wrap (bits BinOp.and IntKind.u64 16 (IntKind.u64.wrap (-16)) * 285870213051353865) / 288230376151711744 = 15 := by decide +kernel
  go_enter Tryz.func124, Tryz.ntmps124
  go_wp2_with (simp only [key])
  go_ret
  exact ⟨rfl, rfl⟩
theorem tz (w : World) (hc : w.cell? ⟨4, 15, none⟩ = some (.int .u8 4)) :
    Calls Tryz.prog 111 #[.int .u64 16] w fun e w' => e = .returned (.int .i64 4) ∧ w' = w := by
  go_enter Tryz.func111, Tryz.ntmps111
  go_wp2_with (go_at_call 124; refine (tz64 _ hc).mono ?_; rintro e w' ⟨rfl, rfl⟩)
  go_ret
  exact ⟨rfl, rfl⟩
theorem pow2 (w : World) : Calls Tryz.prog 110 #[.int .i64 16] w fun e w' => e = .returned (.bool true) ∧ w' = w := by
  have key : bits BinOp.and IntKind.i64 16 15 = 0 := by decide +kernel
  go_enter Tryz.func110, Tryz.ntmps110
  go_wp2_with (simp only [key])
  go_ret
  exact ⟨rfl, rfl⟩

theorem hexN_one {u : Nat} (h : u < 16) : hexN u = [hexD u] := by unfold hexN; rw [if_pos h]
theorem hexN_more {u : Nat} (h : ¬ u < 16) (hu : u < 65536) : hexN u = hexN (u / 16) ++ [hexD (u % 16)] := by
  unfold hexN
  rw [if_neg h]
  by_cases h1 : u < 256
  · rw [if_pos h1, if_pos (by omega)]; rfl
  · rw [if_neg h1]
    by_cases h2 : u < 4096
    · rw [if_pos h2, if_neg (by omega), if_pos (by omega), show u / 16 / 16 = u / 256 by omega]; rfl
    · rw [if_neg h2, if_neg (by omega), if_neg (by omega), if_pos (by omega), show u / 16 / 256 = u / 4096 by omega, show u / 16 / 16 % 16 = u / 256 % 16 by omega]; rfl
/-- how formatBits' loop stands: what is written, and what is left -/
structure FmtAt (w wr : World) (n u i : Nat) (t : List UInt8) : Prop where
  below : Below w.heap.size w wr
  lt : w.heap.size < wr.heap.size
  has : ∀ j, j < 65 → ∃ v, wr.cell? ⟨w.heap.size, j, none⟩ = some v
  cells : ∀ j, j < t.length → wr.cell? ⟨w.heap.size, i + j, none⟩ = some (.int .u8 (t.getD j 0).toNat)
  free : ∀ j, j < 65 → wr.frozen? ⟨w.heap.size, j, none⟩ = false
  len : t.length + i = 65
  text : hexN n = hexN u ++ t
  small : u < 65536
theorem hexN_len {n : Nat} (h : n < 65536) : 1 ≤ (hexN n).length ∧ (hexN n).length ≤ 4 := by
  have h1 := (hexN_num h).len
  have h2 := (hexN_num h).ne
  refine ⟨?_, h1⟩
  rcases Nat.eq_zero_or_pos (hexN n).length with e | e
  · exact absurd (List.length_eq_zero_iff.1 e) h2
  · exact e
theorem FmtAt.room {w wr : World} {n u i : Nat} {t : List UInt8} (h : FmtAt w wr n u i t) (hn : n < 65536) : 62 ≤ i ∧ i ≤ 65 := by
  have h1 := hexN_len hn
  have h2 := hexN_len h.small
  have h3 := congrArg List.length h.text
  have h4 := h.len
  rw [List.length_append] at h3
  omega
theorem FmtAt.put {w wr : World} {n u i : Nat} {t : List UInt8} (h : FmtAt w wr n u i t) (hn : n < 65536) (c : UInt8) : ∀ j, j < (c :: t).length → (wr.setCell ⟨w.heap.size, i - 1, none⟩ (.int .u8 c.toNat)).cell? ⟨w.heap.size, i - 1 + j, none⟩ = some (.int .u8 ((c :: t).getD j 0).toNat) := fun j hj => by
  have hr := h.room hn
  have hl := h.len
  cases j with
  | zero =>
    obtain ⟨v, hv⟩ := h.has (i - 1) (by omega)
    rw [Nat.add_zero, World.cell?_setCell_same (h := hv)]; rfl
  | succ j =>
    rw [List.length_cons] at hj
    rw [World.cell?_setCell_other (h := by intro e'; injection e' with _ e' _; omega), show i - 1 + (j + 1) = i + j by omega, h.cells j (by omega)]; rfl
theorem FmtAt.set {w wr : World} {n u i : Nat} {t : List UInt8} (h : FmtAt w wr n u i t) (hn : n < 65536) (c : UInt8) (u' : Nat) (hu' : u' < 65536) (ht : hexN n = hexN u' ++ c :: t) : FmtAt w (wr.setCell ⟨w.heap.size, i - 1, none⟩ (.int .u8 c.toNat)) n u' (i - 1) (c :: t) := by
  have hr := h.room hn
  have hl := h.len
  have hc : ∀ j, j < 65 → ∃ v, (wr.setCell ⟨w.heap.size, i - 1, none⟩ (.int .u8 c.toNat)).cell? ⟨w.heap.size, j, none⟩ = some v := fun j hj => by
    obtain ⟨v, hv⟩ := h.has j hj
    by_cases e : j = i - 1
    · subst e; exact ⟨_, World.cell?_setCell_same _ _ _ hv⟩
    · exact ⟨v, by rw [World.cell?_setCell_other (h := by intro e'; injection e' with _ e' _; omega)]; exact hv⟩
  exact ⟨h.below.setCell (Nat.le_refl _) _, by rw [World.size_setCell]; exact h.lt, hc, h.put hn c, fun j hj => by rw [World.frozen?_setCell]; exact h.free j hj, by rw [List.length_cons]; omega, ht, hu'⟩
theorem fmt_conv {w wr : World} {i cap : Nat} {t : List UInt8} (hc : ∀ j, j < t.length → wr.cell? ⟨w.heap.size, i + j, none⟩ = some (.int .u8 (t.getD j 0).toNat)) :
    (convert 62 9 (.slice (some ⟨w.heap.size, i, none⟩) t.length cap)).run Tryz.prog wr = .ok (.string ⟨t.toArray⟩) wr :=
  run_convert_bytes_back (P := Tryz.prog) wr 62 9 5 ⟨w.heap.size, i, none⟩ cap t Tryz.underlying62 Tryz.underlying5 Tryz.underlying9 (fun j hj => by
    rw [Addr.add_lit, hc j hj]; simp [List.getD, List.getElem?_eq_getElem hj])
theorem dig_lit : (ByteArray.mk #[48, 49, 50, 51, 52, 53, 54, 55, 56, 57, 97, 98, 99, 100, 101, 102, 103, 104, 105, 106, 107, 108, 109, 110, 111, 112, 113, 114, 115, 116, 117, 118, 119, 120, 121, 122]) = Lib.digits36 := by decide +kernel
theorem dig_at : ∀ k : Fin 16, Lib.digits36.data.toList.getD k.val 0 = hexD k.val := by decide +kernel
theorem idx_dig (k : Nat) (hk : k < 16) (W : World) : (Instr.index 9 (.string (ByteArray.mk #[48, 49, 50, 51, 52, 53, 54, 55, 56, 57, 97, 98, 99, 100, 101, 102, 103, 104, 105, 106, 107, 108, 109, 110, 111, 112, 113, 114, 115, 116, 117, 118, 119, 120, 121, 122])) (.int .u64 (k : Int))).run Tryz.prog W = .ok (.int .u8 (hexD k).toNat) W := by
  rw [dig_lit, run_index_string W 9 Lib.digits36 .u64 (k : Int) Tryz.underlying9, dif_pos ⟨by omega, by rw [Lib.digits36_size]; omega⟩]
  have e : ((k : Int)).toNat = k := by omega
  simp only [e]
  rw [Lib.getD_at _ _ (by rw [Lib.digits36_size]; omega), dig_at ⟨k, hk⟩]
theorem dig_get (k : Nat) (hk : k < 16) (h : k < (ByteArray.mk #[48, 49, 50, 51, 52, 53, 54, 55, 56, 57, 97, 98, 99, 100, 101, 102, 103, 104, 105, 106, 107, 108, 109, 110, 111, 112, 113, 114, 115, 116, 117, 118, 119, 120, 121, 122]).size) : (ByteArray.mk #[48, 49, 50, 51, 52, 53, 54, 55, 56, 57, 97, 98, 99, 100, 101, 102, 103, 104, 105, 106, 107, 108, 109, 110, 111, 112, 113, 114, 115, 116, 117, 118, 119, 120, 121, 122])[k] = hexD k := by
  rw [Lib.getD_at _ _ h]
  exact dig_at ⟨k, hk⟩
theorem and15 (u : Nat) (hu : u < 65536) : bits BinOp.and IntKind.u64 (u : Int) 15 = ((u % 16 : Nat) : Int) := by
  rw [show (15 : Int) = ((15 : Nat) : Int) from rfl, bits_and_u64_nat u 15 (by omega) (by omega), show (15 : Nat) = 2 ^ 4 - 1 from rfl, Nat.and_two_pow_sub_one_eq_mod]

theorem fmt_slice (W : World) (g i : Nat) (hi : i < 65) : (Instr.sliceAt 155 (.pointer (some ⟨g, 0, none⟩)) (some (.int .i64 (i : Int))) none none).run Tryz.prog W = .ok (.slice (some ⟨g, i, none⟩) (65 - i) (65 - i)) W := by
  have hal : Tryz.prog.arrayLen 155 = 65 := by kernel_rfl
  rw [run_sliceAt_array_l W 155 ⟨g, 0, none⟩ (by kernel_rfl) .i64 (i : Int) (by omega) (by rw [hal]; omega)]
  have he : (sizeOf (Tryz.prog.elem 155)).run Tryz.prog W = .ok 1 W := by kernel_rfl
  rw [he, hal]
  simp only [Result.andThen_ok, slicedAt, Int.toNat_natCast]
  rw [if_neg (by omega), Addr.add_lit]
  simp
set_option maxRecDepth 100000 in
set_option maxHeartbeats 1000000 in
theorem fbits (n : Nat) (hn : n < 65536) (w : World) (hc : w.cell? ⟨4, 15, none⟩ = some (.int .u8 4)) :
    Calls Tryz.prog 92 #[.slice none 0 0, .int .u64 n, .int .i64 16, .bool false, .bool false] w fun e w' => e = .returned (.tuple #[.slice none 0 0, .string ⟨(hexN n).toArray⟩]) ∧ Below w.heap.size w w' := by
  obtain ⟨Z, hZ⟩ : ∃ Z : Array Value, Z = Array.replicate 65 (.int .u8 0) := ⟨_, rfl⟩
  have zz : (Tryz.prog.info? 155).map (·.zero) = some (some (.agg Z)) := by rw [hZ]; kernel_rfl
  have hst : FmtAt w (w.alloc (.cells Z 155)) n n 65 [] := ⟨(Below.refl _ w).alloc (Nat.le_refl _) _, by rw [World.size_alloc]; omega, fun j hj => ⟨.int .u8 0, by
      have := World.cell?_alloc_mark w Z 155 (0, 0) j
      refine this.trans ?_
      rw [hZ, Array.getElem?_replicate, if_pos hj]⟩, fun j hj => absurd hj (by simp), fun j hj => by
      show (w.alloc _).frozen? _ = _
      rw [World.frozen?_alloc_mark]; simp, rfl, by simp, by omega⟩
  have ZZ := Lib.hid zz
  have ST := Lib.hid hst
  clear hZ zz hst
  go_enter Tryz.func92, Tryz.ntmps92
  go_wp2_with (first
    | (refine wpList_alloc_z rfl 155 rfl Z ZZ.out ?_; go_simp)
    | (go_at_call 110; refine (pow2 _).mono ?_; rintro e w' ⟨rfl, rfl⟩)
    | (go_at_call 111; refine (tz _ (by rw [World.cell?_alloc_lt _ _ _ (cell_lt hc)]; exact hc)).mono ?_; rintro e w' ⟨rfl, rfl⟩))
  go_loopw [1, 13] (fun u i wr => ∃ (u' i' : Nat) (t : List UInt8), u = .int .u64 u' ∧ i = .int .i64 i' ∧ FmtAt w wr n u' i' t) (fun u _ _ => (intOf u).toNat)
  case atStart => exact ⟨n, 65, [], rfl, rfl, ST.out⟩
  case round =>
    obtain ⟨u, i, t, rfl, rfl, hat⟩ := hrel
    have hr := hat.room hn
    have hus := hat.small
    have hl := hat.len
    have f0 := hat.free (i - 1) (by omega)
    obtain ⟨v0, c0⟩ := hat.has (i - 1) (by omega)
    have ei : (i : Int) - 1 = ((i - 1 : Nat) : Int) := by omega
    have H := Lib.hid hat
    by_cases hu : u < 16
    · have hix := idx_dig u hu
      have hsl := fun W => fmt_slice W w.heap.size (i - 1) (by omega)
      have hcv := fmt_conv (cap := 65 - (i - 1)) (hat.put hn (hexD u))
      rw [show (hexD u :: t).length = 65 - (i - 1) by rw [List.length_cons]; omega] at hcv
      have hx : hexN n = hexD u :: t := by rw [hat.text, hexN_one hu]; rfl
      rw [← hx] at hcv
      have HB := Lib.hid (hat.below.setCell (Nat.le_refl _) (p := ⟨w.heap.size, i - 1, none⟩) (.int .u8 (hexD u).toNat))
      clear hat hx
      go_wp2
      go_ret2
      exact ⟨rfl, HB.out⟩
    · have hix := idx_dig (u % 16) (by omega)
      have ha := and15 u hus
      have hset := Lib.hid (hat.set hn (hexD (u % 16)) (u / 16) (by omega) (by rw [hat.text, hexN_more hu hus]; simp))
      clear hat
      go_wp2
      go_roundw
      case rel =>
        rw [dig_get _ (by omega)]
        exact ⟨u / 16, i - 1, hexD (u % 16) :: t, by simp, rfl, hset.out⟩
      case measure => simp [intOf]; omega
theorem fmt16i (n : Nat) (hn : n < 65536) (w : World) (hc : w.cell? ⟨4, 15, none⟩ = some (.int .u8 4)) :
    Calls Tryz.prog 87 #[.int .u64 n, .int .i64 16] w fun e w' => e = .returned (.string ⟨(hexN n).toArray⟩) ∧ Below w.heap.size w w' := by
  go_enter Tryz.func87, Tryz.ntmps87
  go_wp2_with (go_at_call 92; refine (fbits n hn _ hc).mono ?_; rintro e w' ⟨rfl, hb⟩)
  go_ret
  exact ⟨rfl, hb⟩
theorem fmt16 (n : Nat) (hn : n < 65536) (w : World) (he : AEnv w) :
    Calls Tryz.prog 69 #[.int .u64 n, .int .i64 16] w fun e w' => e = .returned (.string ⟨(hexN n).toArray⟩) ∧ Below w.heap.size w w' := by
  go_enter Tryz.func69, Tryz.ntmps69
  go_wp2_with (go_at_call 87; refine (fmt16i n hn _ he.bru).mono ?_; rintro e w' ⟨rfl, hb⟩)
  go_ret
  exact ⟨rfl, hb⟩
end Go.Proofs.YtpnlgojbmjfhhaaGreatDoor
