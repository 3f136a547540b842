/-
  The walks of addr.decimals, base16 and numbers: rows that are filled in a loop. Conditions: each states its own.
-/
import Derived.Test.YtpnlgojbmjfhhaaGreatDoorAddrV4
import Derived.Test.YtpnlgojbmjfhhaaGreatDoorAddrFmt
import Derived.Test.YtpnlgojbmjfhhaaGreatDoorAddrPub
import Derived.Lib.AppendIntMem
namespace Go.Proofs.YtpnlgojbmjfhhaaGreatDoor
open Go.RowKit

def tb (l : List UInt8) : ByteArray := ⟨l.toArray⟩
theorem tb_data (l : List UInt8) : (tb l).data.toList = l := rfl
/-- a row is filled up to k -/
def fillF (F : Nat → Value) (z : Value) (k j : Nat) : Value := if j < k then F j else z
theorem Blk.fill {w wr w2 : World} {g n k : Nat} {F : Nat → Value} {z : Value} (h : Blk w wr g n (fillF F z k)) (hk : k < n) (hb : Below wr.heap.size wr w2) :
    w2.frozen? ⟨g, k, none⟩ = false ∧ (∃ u, w2.cell? ⟨g, k, none⟩ = some u) ∧ ∀ v, v = F k → Blk w (w2.setCell ⟨g, k, none⟩ v) g n (fillF F z (k + 1)) := by
  have h2 := h.step hb
  refine ⟨h2.free k hk, ⟨_, h2.cells k hk⟩, fun v hv => (h2.set k hk v).congr fun j hj => ?_⟩
  unfold fillF
  by_cases e : j = k
  · subst e; rw [if_pos rfl, if_pos (by omega), hv]
  · rw [if_neg e]
    by_cases l : j < k
    · rw [if_pos l, if_pos (by omega)]
    · rw [if_neg l, if_neg (by omega)]
theorem fill_start {w wr : World} {n : Nat} {F : Nat → Value} {z : Value} {t : TypeId} (hb : Below w.heap.size w wr) : Blk w (wr.alloc (.cells (madeCells #[z] n) t)) wr.heap.size n (fillF F z 0) :=
  Blk.new hb fun j hj => (madeAt _ _ _ hj).trans (by unfold fillF; rw [if_neg (Nat.not_lt_zero j)])
theorem Blk.strs {w wr : World} {g : Nat} {z : Value} (ys : List ByteArray) (h : Blk w wr g ys.length (fillF (fun j => .string (ys.getD j ByteArray.empty)) z ys.length)) : StrsF wr g ys :=
  ⟨h.lt, fun j hj => (h.cells j hj).trans (by unfold fillF; rw [if_pos hj]), h.free⟩
theorem Blk.nums {w wr : World} {g : Nat} {z : Value} (vs : List Nat) (h : Blk w wr g vs.length (fillF (fun j => .int .u64 (vs.getD j 0 : Nat)) z vs.length)) : U64s wr g vs :=
  ⟨h.lt, fun j hj => (h.cells j hj).trans (by unfold fillF; rw [if_pos hj])⟩

theorem itoa_e (c : UInt8) (w : World) (he : AEnv w) : Calls Tryz.prog 31 #[.int .i64 c.toNat] w fun e w' => e = .returned (.string (tb (decN c.toNat))) ∧ Below w.heap.size w w' := by
  have h256 := c.toNat_lt
  refine (Tryz.strconv_Itoa (c.toNat : Int) (by omega) (by omega) w he.tab).mono ?_
  rintro e w' ⟨rfl, k, os, rfl⟩
  refine ⟨?_, Lib.below_grow _ w (Nat.le_refl _) k os⟩
  rw [Lib.itoa_nonneg, decN_digits (by omega)]; rfl
set_option maxRecDepth 100000 in
set_option maxHeartbeats 1000000 in
theorem decs_e (b o cap : Nat) (d : List UInt8) (w : World) (he : AEnv w) (hb : b < w.heap.size) (hc : ∀ j, j < d.length → w.cell? ⟨b, o + j, none⟩ = some (.int .u8 (d.getD j 0).toNat)) (hn : d.length ≤ 1000) :
    Calls Tryz.prog 50 #[.slice (some ⟨b, o, none⟩) d.length cap] w fun e w' => e = .returned (.slice (some ⟨w.heap.size, 0, none⟩) d.length d.length) ∧ Below w.heap.size w w' ∧ StrsF w' w.heap.size (d.map fun c => tb (decN c.toNat)) := by
  obtain ⟨n, hdn⟩ : ∃ n, d.length = n := ⟨_, rfl⟩
  have hyl : (d.map fun c => tb (decN c.toNat)).length = n := by rw [List.length_map, hdn]
  obtain ⟨ys, hys⟩ : ∃ ys, ys = d.map fun c => tb (decN c.toNat) := ⟨_, rfl⟩
  have hy : ∀ j, j < n → ys.getD j ByteArray.empty = tb (decN (d.getD j 0).toNat) := fun j hj => by
    rw [hys]; simp [List.getD, List.getElem?_map, List.getElem?_eq_getElem (show j < d.length by omega)]
  rw [← hys] at hyl ⊢
  rw [hdn] at hc hn ⊢
  have hmk := mk_str n (by omega)
  have ST := Lib.hid (fill_start (n := n) (F := fun j => .string (ys.getD j ByteArray.empty)) (z := .string ⟨#[]⟩) (t := 9) (Below.refl _ w))
  have HE := Lib.hid he
  have HC := Lib.hid hc
  have HY := Lib.hid hy
  have HL := Lib.hid hyl
  clear he hc hy hys hdn hyl
  go_enter Tryz.func50, Tryz.ntmps50
  go_wp2
  go_loopw [11, 4, 5] (fun i _ _ wr => ∃ k : Nat, k ≤ n ∧ i = .int .i64 k ∧ Blk w wr w.heap.size n (fillF (fun j => .string (ys.getD j ByteArray.empty)) (.string ⟨#[]⟩) k)) (fun i _ _ _ => n - (intOf i).toNat)
  case atStart => exact ⟨0, Nat.zero_le _, rfl, ST.out⟩
  case round =>
    obtain ⟨k, hk, rfl, hat⟩ := hrel
    by_cases hlt : k < n
    · have c0 : wr.cell? ⟨b, o + k, none⟩ = some (.int .u8 (d.getD k 0).toNat) := (hat.below.cell (p := ⟨b, o + k, none⟩) hb).trans (HC.out k hlt)
      have hcall := itoa_e (d.getD k 0) wr (HE.out.below hat.below)
      have HN := Lib.hid (fun w2 (hb2 : Below wr.heap.size wr w2) => hat.fill hlt hb2)
      have HV := Lib.hid (HY.out k hlt)
      have h256 := (d.getD k 0).toNat_lt
      clear hat
      generalize d.getD k 0 = c at c0 hcall HV h256
      go_wp2_with fail
      refine hcall.mono ?_
      rintro e w2 ⟨rfl, hb2⟩
      obtain ⟨f0, ⟨u, c2⟩, hnext⟩ := HN.out w2 hb2
      have HN' := Lib.hid (hnext (.string (tb (decN c.toNat))) (by rw [HV.out]))
      clear hnext hb2 hcall
      go_wp2
      go_roundw
      case rel => exact ⟨k + 1, by omega, by go_num, HN'.out⟩
      case measure => simp [intOf]; omega
    · obtain rfl : k = n := by omega
      have H := Lib.hid hat
      clear hat
      go_wp2
      go_ret
      have hl := HL.out
      have hf := H.out
      rw [← hl] at hf
      exact ⟨rfl, H.out.below, hf.strs⟩

theorem join58 (xs : List (List UInt8)) : Lib.join xs [58] = jq xs := by
  induction xs with
  | nil => rfl
  | cons x t ih =>
    cases t with
    | nil => rw [Lib.join_one]; rfl
    | cons y t =>
      rw [jq_cons x (by simp), ← ih]
      unfold Lib.join
      simp [List.intercalate]
theorem jq_bound {ys : List (List UInt8)} (h : ∀ y ∈ ys, y.length ≤ 4) : (jq ys).length ≤ 5 * ys.length := by
  induction ys with
  | nil => exact Nat.zero_le _
  | cons y t ih =>
    have h1 := h y List.mem_cons_self
    have h2 := ih fun z hz => h z (List.mem_cons_of_mem _ hz)
    cases t with
    | nil => show y.length ≤ _; simp only [List.length_cons, List.length_nil]; omega
    | cons z t => rw [jq_cons y (by simp), List.length_append, List.length_cons]; simp only [List.length_cons] at h2 ⊢; omega
set_option maxRecDepth 100000 in
set_option maxHeartbeats 1000000 in
theorem base16_e (b o cap : Nat) (d : List Nat) (w : World) (he : AEnv w) (hb : b < w.heap.size) (hc : ∀ j, j < d.length → w.cell? ⟨b, o + j, none⟩ = some (.int .u64 (d.getD j 0 : Nat))) (hd : ∀ v ∈ d, v < 65536) (hn : d.length ≤ 1000) :
    Calls Tryz.prog 53 #[.slice (some ⟨b, o, none⟩) d.length cap] w fun e w' => e = .returned (.string (tb (jq (d.map hexN)))) ∧ Below w.heap.size w w' := by
  obtain ⟨n, hdn⟩ : ∃ n, d.length = n := ⟨_, rfl⟩
  have hyl : (d.map fun v => tb (hexN v)).length = n := by rw [List.length_map, hdn]
  obtain ⟨ys, hys⟩ : ∃ ys, ys = d.map fun v => tb (hexN v) := ⟨_, rfl⟩
  have hy : ∀ j, j < n → ys.getD j ByteArray.empty = tb (hexN (d.getD j 0)) ∧ d.getD j 0 < 65536 := fun j hj => by
    rw [hys]
    have hj' : j < d.length := by omega
    refine ⟨by simp [List.getD, List.getElem?_map, List.getElem?_eq_getElem hj'], ?_⟩
    rw [List.getD, List.getElem?_eq_getElem hj']
    exact hd _ (List.getElem_mem hj')
  have hyd : ys.map (·.data.toList) = d.map hexN := by rw [hys, List.map_map]; rfl
  have hjl : (jq (d.map hexN)).length ≤ 5000 := by
    have := jq_bound (ys := d.map hexN) (fun y hy => by obtain ⟨v, hv, rfl⟩ := List.mem_map.1 hy; exact (hexN_num (hd v hv)).len)
    rw [List.length_map] at this; omega
  rw [← hys] at hyl
  rw [hdn] at hc hn ⊢
  have hmk := mk_str n (by omega)
  have ST := Lib.hid (fill_start (n := n) (F := fun j => .string (ys.getD j ByteArray.empty)) (z := .string ⟨#[]⟩) (t := 9) (Below.refl _ w))
  have HE := Lib.hid he
  have HC := Lib.hid hc
  have HY := Lib.hid hy
  have HL := Lib.hid hyl
  have HD := Lib.hid hyd
  have HJ := Lib.hid hjl
  clear he hc hy hys hdn hyl hd hyd hjl
  go_enter Tryz.func53, Tryz.ntmps53
  go_wp2
  go_loopw [11, 4, 5] (fun i _ _ wr => ∃ k : Nat, k ≤ n ∧ i = .int .i64 k ∧ Blk w wr w.heap.size n (fillF (fun j => .string (ys.getD j ByteArray.empty)) (.string ⟨#[]⟩) k)) (fun i _ _ _ => n - (intOf i).toNat)
  case atStart => exact ⟨0, Nat.zero_le _, rfl, ST.out⟩
  case round =>
    obtain ⟨k, hk, rfl, hat⟩ := hrel
    by_cases hlt : k < n
    · have c0 : wr.cell? ⟨b, o + k, none⟩ = some (.int .u64 (d.getD k 0 : Nat)) := (hat.below.cell (p := ⟨b, o + k, none⟩) hb).trans (HC.out k hlt)
      have hcall := fmt16 (d.getD k 0) (HY.out k hlt).2 wr (HE.out.below hat.below)
      have HN := Lib.hid (fun w2 (hb2 : Below wr.heap.size wr w2) => hat.fill hlt hb2)
      have HV := Lib.hid (HY.out k hlt).1
      clear hat
      generalize d.getD k 0 = c at c0 hcall HV
      go_wp2_with fail
      refine hcall.mono ?_
      rintro e w2 ⟨rfl, hb2⟩
      obtain ⟨f0, ⟨u, c2⟩, hnext⟩ := HN.out w2 hb2
      have HN' := Lib.hid (hnext (.string ⟨(hexN c).toArray⟩) (by rw [HV.out]; rfl))
      clear hnext hb2 hcall
      go_wp2
      go_roundw
      case rel => exact ⟨k + 1, by omega, by go_num, HN'.out⟩
      case measure => simp [intOf]; omega
    · obtain rfl : k = n := by omega
      have hl := HL.out
      have hf := hat
      rw [← hl] at hf
      have hst := hf.strs
      have hj := Tryz.strings_Join w.heap.size 0 k ys ⟨#[58]⟩ wr (fun j x hx => by
        have hj : j < ys.length := by
          rcases Nat.lt_or_ge j ys.length with h' | h'
          · exact h'
          · rw [List.getElem?_eq_none h'] at hx; cases hx
        rw [hst.strs.2 j hj]
        simp [List.getD, hx]) hst.lt (by omega) (by omega) (by rw [show (ByteArray.mk #[58]).data.toList = [58] from rfl, join58, HD.out]; have := HJ.out; omega)
      rw [show (ByteArray.mk #[58]).data.toList = [58] from rfl, join58, HD.out, hl] at hj
      have HB := Lib.hid hat.below
      clear hat hf hst hl
      go_wp2_with fail
      refine hj.mono ?_
      rintro e w2 ⟨rfl, hb2⟩
      go_wp2
      go_ret
      exact ⟨rfl, HB.out.trans (hb2.mono HB.out.size)⟩
end Go.Proofs.YtpnlgojbmjfhhaaGreatDoor
