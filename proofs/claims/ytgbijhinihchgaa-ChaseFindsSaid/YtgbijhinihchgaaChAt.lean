/-
  The walks of the names of a ring and of a chain. Conditions: the numbers are small.
-/
import Derived.Test.YtgbijhinihchgaaChMapB
namespace Go.Proofs.Ytgbijhinihchgaa
open Go.RowKit

theorem conv_back {w : World} {a : Addr} {cap : Nat} {l : List UInt8} (h : ∀ j (hj : j < l.length), w.cell? (a.add j) = some (.int .u8 (l[j]).toNat)) : (convert 43 9 (.slice (some a) l.length cap)).run Try.prog w = .ok (.string ⟨l.toArray⟩) w :=
  run_convert_bytes_back (P := Try.prog) w 43 9 5 a cap l Try.underlying43 Try.underlying5 Try.underlying9 h
theorem u8_of {n : Nat} (h : n < 256) : (UInt8.ofNat n).toNat = n := by rw [UInt8.toNat_ofNat', Nat.mod_eq_of_lt (by omega)]
theorem bs_app (a b : List UInt8) : (⟨a.toArray⟩ : ByteArray) ++ ⟨b.toArray⟩ = ⟨(a ++ b).toArray⟩ := by
  apply ByteArray.ext
  simp
/-- the names of a ring of n -/
def nmR (n i : Nat) : ByteArray := ⟨#[114, UInt8.ofNat (48 + i % n)]⟩
set_option maxRecDepth 100000 in
set_option maxHeartbeats 4000000 in
theorem atR_e (i n : Nat) (hn : 1 ≤ n) (hn8 : n ≤ 8) (p : Addr) (w : World) (hp : w.cell? p = some (.int .i64 (n : Int))) :
    Calls Try.prog 13 #[.int .i64 (i : Int), .pointer (some p)] w fun e w' => e = .returned (.string (nmR n i)) ∧ Below w.heap.size w w' := by
  have hd : i % n < 8 := Nat.lt_of_lt_of_le (Nat.mod_lt _ hn) hn8
  have hm : Int.tmod (i : Int) (n : Int) = ((i % n : Nat) : Int) := by
    rw [Int.tmod_eq_emod_of_nonneg (by omega)]; simp
  have hn0 : ((n : Int) == 0) = false := by simp; omega
  have hn0' : ¬ (n : Int) = 0 := by omega
  have HR : Hid (nmR n i = ⟨#[114, UInt8.ofNat (48 + i % n)]⟩) := Lib.hid rfl
  generalize i % n = d at hd hm HR
  generalize nmR n i = R at HR ⊢
  have hb : Below w.heap.size w (w.alloc (.cells #[.int .u8 (48 + (d : Int))] 5)) := (Below.refl _ w).alloc (Nat.le_refl _) _
  have HB := Lib.hid hb
  have hu : ((UInt8.ofNat (48 + d)).toNat : Int) = 48 + (d : Int) := by rw [u8_of (by omega)]; omega
  have hcv : (convert 43 9 (.slice (some ⟨w.heap.size, 0, none⟩) 1 1)).run Try.prog (w.alloc (.cells #[.int .u8 (48 + (d : Int))] 5)) = .ok (.string ⟨#[UInt8.ofNat (48 + d)]⟩) (w.alloc (.cells #[.int .u8 (48 + (d : Int))] 5)) :=
    conv_back (l := [UInt8.ofNat (48 + d)]) (fun j hj => by
      obtain rfl : j = 0 := by simp only [List.length_singleton] at hj; omega
      rw [Addr.add_lit, Nat.zero_add, World.cell?_alloc_mark, List.getElem_cons_zero, hu]; rfl)
  have hw8 : IntKind.u8.wrap (48 + (d : Int)) = 48 + (d : Int) := by rw [IntKind.wrap_u8]; omega
  have hdI : (d : Int) < 8 := by omega
  generalize UInt8.ofNat (48 + d) = u at hcv HR hu
  have HA1 : Hid ((⟨#[114]⟩ : ByteArray) ++ ⟨#[u]⟩ = ⟨#[114, u]⟩) := Lib.hid (bs_app [114] [u])
  clear hb hu hd
  go_enter Try.func13, Try.ntmps13
  go_wp2
  go_ret
  refine ⟨?_, HB.out⟩
  rw [HR.out, ← HA1.out]
  rfl
/-- the names of a chain -/
def nmC (i : Nat) : ByteArray := if i < 10 then ⟨#[99, UInt8.ofNat (48 + i % 10)]⟩ else ⟨#[99, UInt8.ofNat (48 + i / 10), UInt8.ofNat (48 + i % 10)]⟩
set_option maxRecDepth 100000 in
set_option maxHeartbeats 4000000 in
theorem atC_e (i : Nat) (hi : i ≤ 20) (w : World) :
    Calls Try.prog 14 #[.int .i64 (i : Int)] w fun e w' => e = .returned (.string (nmC i)) ∧ Below w.heap.size w w' := by
  have hr : Int.tmod (i : Int) 10 = ((i % 10 : Nat) : Int) := by rw [Int.tmod_eq_emod_of_nonneg (by omega)]; omega
  have hq : Int.tdiv (i : Int) 10 = ((i / 10 : Nat) : Int) := by rw [Int.tdiv_eq_ediv_of_nonneg (by omega)]; omega
  have hq3 : (i : Int) / 10 = ((i / 10 : Nat) : Int) := by omega
  have hr3 : (i : Int) % 10 = ((i % 10 : Nat) : Int) := by omega
  have HR : Hid (nmC i = if i < 10 then ⟨#[99, UInt8.ofNat (48 + i % 10)]⟩ else ⟨#[99, UInt8.ofNat (48 + i / 10), UInt8.ofNat (48 + i % 10)]⟩) := Lib.hid rfl
  have hd : i % 10 < 10 := Nat.mod_lt _ (by omega)
  have hc : i / 10 ≤ 2 := by omega
  generalize i % 10 = d at hd hr hr3 HR
  generalize i / 10 = c at hc hq hq3 HR
  generalize nmC i = R at HR ⊢
  have hud : ((UInt8.ofNat (48 + d)).toNat : Int) = 48 + (d : Int) := by rw [u8_of (by omega)]; omega
  have huc : ((UInt8.ofNat (48 + c)).toNat : Int) = 48 + (c : Int) := by rw [u8_of (by omega)]; omega
  obtain ⟨w1, hw1⟩ : ∃ w1, w1 = w.alloc (.cells #[.int .u8 (48 + (c : Int)), .int .u8 (48 + (d : Int))] 5) := ⟨_, rfl⟩
  have hb1 : Below w.heap.size w w1 := by rw [hw1]; exact (Below.refl _ w).alloc (Nat.le_refl _) _
  have hg1 : w1.heap[w.heap.size]? = some (.cells #[.int .u8 (48 + (c : Int)), .int .u8 (48 + (d : Int))] 5 (0, 0)) := by rw [hw1]; exact heap_alloc_last w _
  have hz1 : w1.heap.size = w.heap.size + 1 := by rw [hw1, World.size_alloc]
  have HB1 := Lib.hid hb1
  have HG1 := Lib.hid hg1
  have HW1 := Lib.hid hw1
  have HZ1 := Lib.hid hz1
  have HCV : Hid (∀ W : World, W.heap[w.heap.size]? = w1.heap[w.heap.size]? → (convert 43 9 (.slice (some ⟨w.heap.size, 0, none⟩) 2 2)).run Try.prog W = .ok (.string ⟨#[UInt8.ofNat (48 + c), UInt8.ofNat (48 + d)]⟩) W ∧ (convert 43 9 (.slice (some ⟨w.heap.size, 1, none⟩) 1 1)).run Try.prog W = .ok (.string ⟨#[UInt8.ofNat (48 + d)]⟩) W) := Lib.hid (fun W hW => by
    rw [HG1.out] at hW
    refine ⟨conv_back (l := [UInt8.ofNat (48 + c), UInt8.ofNat (48 + d)]) (fun j hj => ?_), conv_back (l := [UInt8.ofNat (48 + d)]) (fun j hj => ?_)⟩
    · rcases (show j = 0 ∨ j = 1 by simp at hj; omega) with rfl | rfl
      · rw [Addr.add_lit, cell_of_row W _ _ _ _ _ hW, List.getElem_cons_zero, huc]; rfl
      · rw [Addr.add_lit, cell_of_row W _ _ _ _ _ hW]
        show _ = some (Value.int .u8 ((UInt8.ofNat (48 + d)).toNat : Int))
        rw [hud]; rfl
    · obtain rfl : j = 0 := by simp only [List.length_singleton] at hj; omega
      rw [Addr.add_lit, cell_of_row W _ _ _ _ _ hW, List.getElem_cons_zero, hud]; rfl)
  have hwc : IntKind.u8.wrap (48 + (c : Int)) = 48 + (c : Int) := by rw [IntKind.wrap_u8]; omega
  have hwd : IntKind.u8.wrap (48 + (d : Int)) = 48 + (d : Int) := by rw [IntKind.wrap_u8]; omega
  have hdI : (d : Int) < 10 := by omega
  have hcI : (c : Int) ≤ 2 := by omega
  have hiI : (i : Int) ≤ 20 := by omega
  have hmm := @run_makeMap Try.prog
  clear hb1 hg1 hz1 hw1 huc hud
  have hB0 : Below w.heap.size w ((w.alloc (.cells #[.int .u8 (48 + (c : Int)), .int .u8 (48 + (d : Int))] 5)).alloc (.map #[] 0)) := by rw [← HW1.out]; exact HB1.out.alloc HB1.out.size _
  have hM0 : ((w.alloc (.cells #[.int .u8 (48 + (c : Int)), .int .u8 (48 + (d : Int))] 5)).alloc (.map #[] 0)).heap[w.heap.size + 1]? = some (.map #[] 0) := by rw [← HW1.out, ← HZ1.out]; exact heap_alloc_last w1 _
  have hG0 : ((w.alloc (.cells #[.int .u8 (48 + (c : Int)), .int .u8 (48 + (d : Int))] 5)).alloc (.map #[] 0)).heap[w.heap.size]? = w1.heap[w.heap.size]? := by rw [← HW1.out]; exact ((Below.refl _ w1).alloc (Nat.le_refl _) _).block _ (by have := HZ1.out; omega)
  have HB0 := Lib.hid hB0
  have HM0 := Lib.hid hM0
  have HG0 := Lib.hid hG0
  clear hB0 hM0 hG0 HW1 HG1
  generalize UInt8.ofNat (48 + d) = ud at HCV HR
  generalize UInt8.ofNat (48 + c) = uc at HCV HR
  have HA1 : Hid ((⟨#[99]⟩ : ByteArray) ++ ⟨#[ud]⟩ = ⟨#[99, ud]⟩) := Lib.hid (bs_app [99] [ud])
  have HA2 : Hid ((⟨#[99]⟩ : ByteArray) ++ ⟨#[uc, ud]⟩ = ⟨#[99, uc, ud]⟩) := Lib.hid (bs_app [99] [uc, ud])
  by_cases hlt : i < 10
  · have hltI : (i : Int) < 10 := by omega
    rw [if_pos hlt] at HR
    clear hlt
    go_enter Try.func14, Try.ntmps14
    go_wp2_with (first
      | (refine wpList_insB rfl (.tmp 12) (.const (.bool true)) (.const (.int .i64 1)) rfl (w.heap.size + 1) true 1 #[] 0 rfl rfl rfl HM0.out rfl ?_; intro w11 hs11 hb11 ho11 hB11; have HS11 := Lib.hid hs11; have HM11 := Lib.hid hb11; have HX11 := Lib.hid ho11; have HL11 := Lib.hid hB11; clear hs11 hb11 ho11 hB11; go_simp)
      | (refine wpList_insB rfl (.tmp 12) (.const (.bool false)) (.const (.int .i64 0)) rfl (w.heap.size + 1) false 0 _ 1 rfl rfl rfl HM11.out rfl ?_; intro w12 hs12 hb12 ho12 hB12; have hcv := HCV.out w12 (by rw [ho12 _ (by omega), HX11.out _ (by omega)]; exact HG0.out); have hcv1 := hcv.1; have hcv2 := hcv.2; clear hcv; have HM12 := Lib.hid hb12; have HL12 := Lib.hid hB12; clear hs12 hb12 ho12 hB12; go_simp)
      | (refine wpList_lookB rfl (.tmp 13) (.tmp 15) rfl (w.heap.size + 1) true 1 _ 2 0 rfl rfl HM12.out rfl ?_; go_simp))
    go_ret
    refine ⟨?_, (HB0.out.trans (HL11.out.mono (by omega))).trans (HL12.out.mono (by omega))⟩
    rw [HR.out, ← HA1.out]
    rfl
  · have hltI : ¬ (i : Int) < 10 := by omega
    rw [if_neg hlt] at HR
    clear hlt
    go_enter Try.func14, Try.ntmps14
    go_wp2_with (first
      | (refine wpList_insB rfl (.tmp 12) (.const (.bool true)) (.const (.int .i64 1)) rfl (w.heap.size + 1) true 1 #[] 0 rfl rfl rfl HM0.out rfl ?_; intro w11 hs11 hb11 ho11 hB11; have HS11 := Lib.hid hs11; have HM11 := Lib.hid hb11; have HX11 := Lib.hid ho11; have HL11 := Lib.hid hB11; clear hs11 hb11 ho11 hB11; go_simp)
      | (refine wpList_insB rfl (.tmp 12) (.const (.bool false)) (.const (.int .i64 0)) rfl (w.heap.size + 1) false 0 _ 1 rfl rfl rfl HM11.out rfl ?_; intro w12 hs12 hb12 ho12 hB12; have hcv := HCV.out w12 (by rw [ho12 _ (by omega), HX11.out _ (by omega)]; exact HG0.out); have hcv1 := hcv.1; have hcv2 := hcv.2; clear hcv; have HM12 := Lib.hid hb12; have HL12 := Lib.hid hB12; clear hs12 hb12 ho12 hB12; go_simp)
      | (refine wpList_lookB rfl (.tmp 13) (.tmp 15) rfl (w.heap.size + 1) false 0 _ 2 1 rfl rfl HM12.out rfl ?_; go_simp))
    go_ret
    refine ⟨?_, (HB0.out.trans (HL11.out.mono (by omega))).trans (HL12.out.mono (by omega))⟩
    rw [HR.out, ← HA2.out]
    rfl
end Go.Proofs.Ytgbijhinihchgaa
