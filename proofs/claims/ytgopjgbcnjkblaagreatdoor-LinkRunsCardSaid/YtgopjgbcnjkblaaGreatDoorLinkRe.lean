/-
  The walk of reach: what the longest of a link's domains that a name is under counts. Conditions: the link's domains lie where its slice says, with at most 300 bytes each; the name has at most 300; the library's variable MaxLen holds some number.
-/
import Derived.Test.YtgopjgbcnjkblaaGreatDoorLinkRt
namespace Go.Proofs.YtgopjgbcnjkblaaGreatDoor
open Go.RowKit

def rstep (n : ByteArray) (m : Int) (d : ByteArray) : Int := if undB n d then max m (cntB d) else m
/-- what the longest of these domains that a name is under counts; -1 -/
def reachL (ds : List ByteArray) (n : ByteArray) : Int := ds.foldl (rstep n) (-1)
theorem reach_next {ds : List ByteArray} {n : ByteArray} {k : Nat} (h : k < ds.length) : reachL (ds.take (k + 1)) n = rstep n (reachL (ds.take k) n) (ds.getD k ByteArray.empty) := by
  unfold reachL
  rw [List.take_succ_eq_append_getElem h, List.foldl_append, List.getD, List.getElem?_eq_getElem h]
  rfl
theorem rstep_lo {n : ByteArray} {m : Int} {d : ByteArray} (h : -1 ≤ m) : -1 ≤ rstep n m d := by
  unfold rstep; split <;> omega
theorem cntB_le (d : ByteArray) : (cntB d : Int) ≤ d.size + 2 := by
  unfold cntB
  split
  · omega
  · have := pieces_le d; omega
theorem fold_lo (n : ByteArray) : ∀ (ds : List ByteArray) (m : Int), -1 ≤ m → -1 ≤ ds.foldl (rstep n) m
  | [], _, h => h
  | _ :: ds, _, h => fold_lo n ds _ (rstep_lo h)
theorem fold_hi (n : ByteArray) : ∀ (ds : List ByteArray) (m : Int), m ≤ 302 → (∀ d ∈ ds, d.size ≤ 300) → ds.foldl (rstep n) m ≤ 302
  | [], _, h, _ => h
  | d :: ds, m, h, hz => fold_hi n ds _ (by
      have h1 := cntB_le d
      have h2 := hz d List.mem_cons_self
      unfold rstep; split <;> omega) (fun x hx => hz x (List.mem_cons_of_mem _ hx))
theorem reach_lo (ds : List ByteArray) (n : ByteArray) : -1 ≤ reachL ds n := fold_lo n ds _ (by omega)
theorem reach_hi {ds : List ByteArray} {n : ByteArray} (h : ∀ d ∈ ds, d.size ≤ 300) : reachL ds n ≤ 302 := fold_hi n ds _ (by omega) h
set_option maxRecDepth 100000 in
set_option maxHeartbeats 1000000 in
theorem reach_e {w : World} {s : Sl} (n : ByteArray) (hd : RowIn 1 w s.dv s.ds.length (s.ds.map .string)) (hz : ∀ d ∈ s.ds, d.size ≤ 300) (hl : s.ds.length ≤ 1000) (hn : n.size ≤ 300) (he : Env w) :
    Calls Tryz.prog 30 #[.agg s.lk.toArray, .string n] w fun e w' => e = .returned (.int .i64 (reachL s.ds n)) ∧ Below w.heap.size w w' ∧ Env w' := by
  obtain ⟨live, gen, dA, dc, ds, df, ll, sA, sc, ns, ss, lA, lc, nl, ls, ca⟩ := s
  simp only [Sl.dv] at hd hz hl
  have HZ := Lib.hid hz
  simp only [Sl.lk]
  have hb0 := ((Below.refl _ w).alloc (Nat.le_refl _) (.cells #[.bool live, .int .i64 gen, .slice dA ds.length dc, .bool df, .bool ll, .slice sA ns sc, .slice lA nl lc] 31))
  have HB0 := Lib.hid hb0
  have HE0 := Lib.hid (he.below hb0)
  have HD0 := Lib.hid (hd.below hb0)
  clear hb0 hz hd
  go_enter Tryz.func30, Tryz.ntmps30
  go_wp2
  generalize w.alloc _ = w0 at HB0 HE0 HD0 ⊢
  go_loopw [5, 11] (fun m i wr => ∃ k : Nat, k ≤ ds.length ∧ i = .int .i64 k ∧ m = .int .i64 (reachL (ds.take k) n) ∧ Below w0.heap.size w0 wr ∧ Env wr) (fun _ i _ => ds.length - (intOf i).toNat)
  case atStart => exact ⟨0, Nat.zero_le _, rfl, rfl, Below.refl _ _, HE0.out⟩
  case round =>
    obtain ⟨k, hk, rfl, rfl, hb, hE⟩ := hrel
    by_cases hlt : k < ds.length
    · obtain ⟨g, o, rfl, hc⟩ := (HD0.out.below hb).txt hlt
      have hxz := HZ.out _ (getD_mem hlt)
      have HN := Lib.hid (reach_next (n := n) hlt)
      have hlo := reach_lo (ds.take k) n
      have HB := Lib.hid hb
      have HE := Lib.hid hE
      clear hb hE
      revert hc hxz HN hlo
      generalize ds.getD k ByteArray.empty = x
      generalize reachL (ds.take k) n = m
      intro hc hxz HN hlo
      have hu := under_e n x wr HE.out (by omega) (by omega)
      go_wp2_with fail
      refine hu.mono ?_; rintro e w1 ⟨rfl, hb1, hE1⟩
      clear hu hc
      have HB1 := Lib.hid (HB.out.trans (hb1.mono HB.out.size))
      clear hb1
      cases hq : undB n x
      · have HQ := Lib.hid (show rstep n m x = m by unfold rstep; rw [hq]; rfl)
        have HE1 := Lib.hid hE1
        clear hE1 hq
        go_wp2
        go_roundw
        case rel => exact ⟨k + 1, by omega, by simp, by rw [HN.out, HQ.out], HB1.out, HE1.out⟩
        case measure => simp [intOf]; omega
      · have HQ := Lib.hid (show rstep n m x = max m (cntB x) by unfold rstep; rw [hq]; rfl)
        have hcn := count_e x w1 hE1 (by omega)
        clear hq hE1
        go_wp2_with fail
        refine hcn.mono ?_; rintro e w2 ⟨rfl, hb2, hE2⟩
        clear hcn
        have HB2 := Lib.hid (HB1.out.trans (hb2.mono HB1.out.size))
        have HE2 := Lib.hid hE2
        clear hb2 hE2
        go_wp2
        go_roundw
        case rel => exact ⟨k + 1, by omega, by simp, by rw [HN.out, HQ.out], HB2.out, HE2.out⟩
        case measure => simp [intOf]; omega
    · obtain rfl : k = ds.length := by omega
      rw [List.take_length]
      have HB := Lib.hid hb
      have HE := Lib.hid hE
      clear hb hE
      go_wp2
      go_ret
      exact ⟨rfl, HB0.out.trans (HB.out.mono HB0.out.size), HE.out⟩
end Go.Proofs.YtgopjgbcnjkblaaGreatDoor
