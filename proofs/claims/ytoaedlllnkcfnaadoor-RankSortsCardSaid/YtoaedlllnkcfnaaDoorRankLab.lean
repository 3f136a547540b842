/-
  The walks of rank.labelled and cmp.Or; a local address as it lies in memory. Conditions: each states its own.
-/
import Derived.Test.YtoaedlllnkcfnaaDoorRankPolW
namespace Go.Proofs.YtoaedlllnkcfnaaDoor
open Go.RowKit

def PP (a : List UInt8) : Nat := (bestP a 9).prec
def PL (a : List UInt8) : Nat := (bestP a 9).lab
set_option maxHeartbeats 1000000 in
theorem labelled_e (a b : List UInt8) (ha : a.length = 16) (hb : b.length = 16) (w : World) (he : REnv w) :
    Calls Tryd.prog 28 #[.agg (bvs a).toArray, .agg (bvs b).toArray] w fun e w' => e = .returned (.bool (decide (PL a = PL b))) ∧ Below w.heap.size w w' := by
  have C1 := fun W (h : REnv W) => policy_e a ha W h
  have C2 := fun W (h : REnv W) => policy_e b hb W h
  have hS1 := sizeBv ha
  have hS2 := sizeBv hb
  unfold PL
  generalize (bestP a 9).prec = p1 at *
  generalize (bestP a 9).lab = l1 at *
  generalize (bestP b 9).prec = p2 at *
  generalize (bestP b 9).lab = l2 at *
  generalize (bvs a).toArray = c1 at *
  generalize (bvs b).toArray = c2 at *
  have hx1 : ((w.alloc (.cells c1 27)).alloc (.cells c2 27)).heap[w.heap.size]? = some (.cells c1 27 (0, 0)) := heap_alloc2_old _ _ _
  have hx2 : ((w.alloc (.cells c1 27)).alloc (.cells c2 27)).heap[w.heap.size + 1]? = some (.cells c2 27 (0, 0)) := heap_alloc2_new _ _ _
  have hb0 : Below w.heap.size w ((w.alloc (.cells c1 27)).alloc (.cells c2 27)) := ((Below.refl _ w).alloc (Nat.le_refl _) _).alloc (by rw [World.size_alloc]; omega) _
  have hE := he.below hb0
  have hdec : decide ((l1 : Int) = (l2 : Int)) = decide (l1 = l2) := by simp [Int.ofNat_inj]
  rw [← hdec]
  have HX1 := Lib.hid hx1
  have HX2 := Lib.hid hx2
  have HB0 := Lib.hid hb0
  have HE := Lib.hid hE
  have HC1 := Lib.hid C1
  have HC2 := Lib.hid C2
  have HS1 := Lib.hid hS1
  have HS2 := Lib.hid hS2
  clear hx1 hx2 hb0 hE C1 C2 hS1 hS2 he ha hb hdec
  go_enter Tryd.func28, Tryd.ntmps28
  go_wp2_with (first
    | (refine wpList_load_row rfl 27 (.tmp 2) rfl w.heap.size rfl 27 c1 (0, 0) _ HX1.out Tryd.underlying27 rfl HS1.out ?_; go_simp))
  refine (HC1.out _ HE.out).mono ?_
  rintro e w1 ⟨rfl, hb1⟩
  have hx2' := (hb1.block _ (heap_lt HX2.out)).trans HX2.out
  have HX2' := Lib.hid hx2'
  have HE1 := Lib.hid (HE.out.below hb1)
  have HB1 := Lib.hid (HB0.out.trans (hb1.mono HB0.out.size))
  clear hx2' hb1
  go_wp2_with (first
    | (refine wpList_load_row rfl 27 (.tmp 3) rfl (w.heap.size + 1) rfl 27 c2 (0, 0) _ HX2'.out Tryd.underlying27 rfl HS2.out ?_; go_simp))
  refine (HC2.out _ HE1.out).mono ?_
  rintro e w2 ⟨rfl, hb2⟩
  have HB2 := Lib.hid (HB1.out.trans (hb2.mono HB1.out.size))
  clear hb2
  go_wp2
  go_ret
  exact ⟨rfl, HB2.out⟩
/-- the first number that isn't 0 -/
def firstNZ : List Int → Int
  | [] => 0
  | x :: l => if x = 0 then firstNZ l else x
theorem firstNZ_drop (xs : List Int) (k : Nat) (h : k < xs.length) : firstNZ (xs.drop k) = if xs.getD k 0 = 0 then firstNZ (xs.drop (k + 1)) else xs.getD k 0 := by
  rw [List.drop_eq_getElem_cons h, firstNZ]
  simp [List.getD, List.getElem?_eq_getElem h]
set_option maxHeartbeats 1000000 in
theorem or_e (xs : List Int) (b : Nat) (w : World) (hx : w.rangeAt b 0 (xs.map (Value.int .i64))) (hl : xs.length < 1000) :
    Calls Tryd.prog 36 #[.slice (some ⟨b, 0, none⟩) xs.length xs.length] w fun e w' => e = .returned (.int .i64 (firstNZ xs)) ∧ w' = w := by
  have hat : ∀ k, k < xs.length → w.cell? ⟨b, k, none⟩ = some (.int .i64 (xs.getD k 0)) := fun k hk => by
    have := hx k (.int .i64 (xs.getD k 0)) (by rw [List.getElem?_map]; simp [List.getD, List.getElem?_eq_getElem hk])
    rwa [Nat.zero_add] at this
  have hst := firstNZ_drop xs
  have h0 : firstNZ xs = firstNZ (xs.drop 0) := rfl
  have hend : firstNZ (xs.drop xs.length) = 0 := by rw [List.drop_length]; rfl
  obtain ⟨F, hF⟩ : ∃ F : Nat → Int, ∀ k, F k = firstNZ (xs.drop k) := ⟨_, fun _ => rfl⟩
  rw [h0]
  simp only [← hF] at hst hend ⊢
  obtain ⟨g, hg⟩ : ∃ g : Nat → Int, ∀ k, g k = xs.getD k 0 := ⟨_, fun _ => rfl⟩
  simp only [← hg] at hst hat
  generalize xs.length = n at *
  have HA := Lib.hid hat
  have HS := Lib.hid hst
  have HE := Lib.hid hend
  clear hat hst hend hx hF hg h0
  go_enter Tryd.func36, Tryd.ntmps36
  go_wp2
  go_loopg [8] n (fun gk i wr => ∃ k : Nat, i = .int .i64 k ∧ k + gk = n ∧ Hid (F 0 = F k) ∧ wr = w)
  case atStart => exact ⟨0, rfl, by simp, Lib.hid rfl, rfl⟩
  case round =>
    obtain ⟨k, rfl, hk, HF, rfl⟩ := hrel
    by_cases hlt : k < n
    · obtain ⟨m, rfl⟩ : ∃ m, gk = m + 1 := ⟨gk - 1, by omega⟩
      have hc := HA.out k hlt
      have hs := HS.out k hlt
      generalize hgk : g k = x at hc hs
      have hkI : (k : Int) < (n : Int) := by omega
      by_cases hx : x = 0
      · rw [if_pos hx] at hs
        have HF' := Lib.hid (HF.out.trans hs)
        clear hs HF hgk
        subst hx
        go_wp2
        go_roundg m
        case measure => omega
        case rel => exact ⟨k + 1, by go_num, by omega, HF', rfl⟩
      · rw [if_neg hx] at hs
        have HF' := Lib.hid (HF.out.trans hs)
        clear hs HF hgk
        go_wp2
        go_ret
        refine ⟨?_, rfl⟩
        rw [HF'.out]; rfl
    · obtain rfl : k = n := by omega
      have HF' := Lib.hid (HF.out.trans HE.out)
      go_wp2
      go_ret
      refine ⟨?_, rfl⟩
      rw [HF'.out]; rfl
/-- a local address -/
structure LV where
  addr : List UInt8
  dep : Bool
  home : Bool
def LV.cells (l : LV) : List Value := bvs l.addr ++ [Value.bool l.dep, Value.bool l.home]
theorem LV.one (r : LV) : r.cells.toArray.all (·.oneCell') = true := by
  rw [List.all_toArray]
  refine List.all_eq_true.2 fun v hv => ?_
  unfold LV.cells at hv
  rcases List.mem_append.1 hv with h | h
  · exact bvs_one _ v h
  · simp only [List.mem_cons, List.not_mem_nil, or_false] at h
    rcases h with rfl | rfl <;> rfl
theorem LV.size {r : LV} (h : r.addr.length = 16) : r.cells.length = 18 := by
  unfold LV.cells; simp [bvs_length, h]
theorem lSize {r : LV} (h : r.addr.length = 16) : (Tryd.prog.info? 42).map (·.size) = some r.cells.toArray.size := by
  rw [List.size_toArray, LV.size h]; kernel_rfl
theorem LV.has {r : LV} (h : r.addr.length = 16) : (∀ (j : Nat) (v : Value), (bvs r.addr)[j]? = some v → r.cells[j]? = some v) ∧ r.cells[16]? = some (.bool r.dep) ∧ r.cells[17]? = some (.bool r.home) := by
  have hl : (bvs r.addr).length = 16 := by rw [bvs_length, h]
  unfold LV.cells
  refine ⟨fun j v hj => ?_, ?_, ?_⟩
  · rw [List.getElem?_append_left (List.getElem?_eq_some_iff.1 hj).1]; exact hj
  all_goals rw [List.getElem?_append_right (by omega), hl]; rfl
end Go.Proofs.YtoaedlllnkcfnaaDoor
