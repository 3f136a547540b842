/-
  The walk of TTL: the least of records' TTLs. Conditions: at most 1000 records, none above the greatest TTL.
-/
import Derived.Test.YtiifanenomebeaaCacheInts
namespace Go.Proofs.Ytiifanenomebeaa
open Go.RowKit Go.Lib

/-- the least of numbers, and the greatest TTL -/
def lst (l : List Nat) : Nat := l.foldl min 1048576
theorem foldl_min_le : ∀ (l : List Nat) (a : Nat), l.foldl min a ≤ a
  | [], _ => Nat.le_refl _
  | x :: l, a => Nat.le_trans (foldl_min_le l (min a x)) (Nat.min_le_left _ _)
theorem lst_cons {x : Nat} {l : List Nat} (h : x ≤ 1048576) : (x :: l).foldl min x = lst (x :: l) := by
  unfold lst
  rw [List.foldl_cons, List.foldl_cons, Nat.min_self, Nat.min_eq_right h]
theorem lst_snoc (l : List Nat) (x : Nat) : lst (l ++ [x]) = min (lst l) x := by unfold lst; rw [List.foldl_append]; rfl
theorem recs_cell {w : World} {g o : Nat} {rs : List Rc} (hc : ∀ j u, (recsC rs)[j]? = some u → w.cell? ((⟨g, o, none⟩ : Addr).add j) = some u) (hok : ∀ r ∈ rs, r.Ok) {k j : Nat} {r : Rc} {v : Value} (hr : rs[k]? = some r) (hv : r.cells[j]? = some v) : w.cell? ⟨g, o + (k * 21 + j), none⟩ = some v := by
  have := hc _ _ (recsC_at rs k j r v hok hr hv)
  rwa [Addr.add_lit] at this
set_option maxRecDepth 100000 in
set_option maxHeartbeats 2000000 in
theorem ttl_e {w : World} {A : Option Addr} {c : Nat} {rs : List Rc} (h : RecsIn w (.slice A rs.length c) rs.length (recsC rs)) (hok : ∀ r ∈ rs, r.Ok) (hs : ∀ r ∈ rs, r.t ≤ 1048576) (hl : rs.length ≤ 1000) :
    Calls Try.prog 17 #[.slice A rs.length c] w fun e w' => e = .returned (.int .i64 (lst (rs.map (·.t)) : Nat)) ∧ Below w.heap.size w w' := by
  rcases rs with _ | ⟨x, l⟩
  · go_enter Try.func17, Try.ntmps17
    go_wp2_with fail
    go_ret
    exact ⟨rfl, Below.refl _ _⟩
  generalize hrs : x :: l = rs at *
  have hx0 : rs[0]? = some x := by rw [← hrs]; rfl
  have HE : Hid ((rs.map (·.t)).foldl min x.t = lst (rs.map (·.t))) := Lib.hid (by rw [← hrs, List.map_cons]; exact lst_cons (hs x (by rw [← hrs]; exact List.mem_cons_self)))
  have hpos : 0 < rs.length := by rw [← hrs]; simp
  obtain ⟨n, hn⟩ : ∃ n, n = rs.length := ⟨_, rfl⟩
  rw [← hn] at h hpos hl ⊢
  have HN := Lib.hid hn
  have hat := h.at'
  obtain ⟨g, o, c', cs0, fr, hv, hg, hc⟩ : ∃ (g o c' : Nat) (cs : Array Value) (fr : Nat × Nat), Value.slice A n c = .slice (some ⟨g, o, none⟩) n c' ∧ w.heap[g]? = some (.cells cs 40 fr) ∧ ∀ j u, (recsC rs)[j]? = some u → w.cell? ((⟨g, o, none⟩ : Addr).add j) = some u := by
    rcases hat with h0 | h0
    · omega
    · exact h0
  injection hv with hA _ hcc
  subst hA hcc
  have c2 : w.cell? ⟨g, o + 2, none⟩ = some (.int .i64 x.t) := by simpa using recs_cell hc hok hx0 (j := 2) (v := .int .i64 x.t) rfl
  have HC : Hid (∀ W, Below w.heap.size w W → ∀ j u, (recsC rs)[j]? = some u → W.cell? ((⟨g, o, none⟩ : Addr).add j) = some u) := Lib.hid (fun W hW j u hj => (hW.cell (p := (⟨g, o, none⟩ : Addr).add j) (by rw [Addr.add_lit]; exact heap_lt hg)).trans (hc j u hj))
  have HOK := Lib.hid hok
  have HZR := Lib.hid zeroRec
  have hn0 : ((n : Int) == 0) = false := by simp; omega
  have hx0t : (x.t : Int) = (x.t : Int) := rfl
  clear hat h hc hg hok hs hrs hx0 hn hx0t
  generalize hxt : x.t = xt at *
  clear hxt
  go_enter Try.func17, Try.ntmps17
  go_wp2_with fail
  go_loopw [15, 3] (fun vi vl wr => ∃ k : Nat, k ≤ n ∧ vi = .int .i64 k ∧ vl = .int .i64 (((rs.take k).map (·.t)).foldl min xt : Nat) ∧ Hid (Below w.heap.size w wr)) (fun i _ _ => n - (intOf i).toNat)
  case atStart => exact ⟨0, by omega, rfl, rfl, Lib.hid (Below.refl _ _)⟩
  case round =>
    obtain ⟨k, hk, rfl, rfl, HB⟩ := hrel
    by_cases hkT : k < n
    · have hkI : (k : Int) < (n : Int) := by omega
      obtain ⟨r, hr⟩ : ∃ r, rs[k]? = some r := ⟨_, List.getElem?_eq_getElem (by rw [← HN.out]; exact hkT)⟩
      have hrok := HOK.out r (List.mem_of_getElem? hr)
      have HCR : Hid (∀ t v, r.cells.toArray.toList[t]? = some v → wr.cell? ((⟨g, o + k * 21, none⟩ : Addr).add t) = some v) := Lib.hid (fun t v hv => by
        rw [Addr.add_lit, Nat.add_assoc]; exact recs_cell (HC.out wr HB.out) HOK.out hr hv)
      have ZR := Lib.hid (sizeRec hrok)
      have ZZ : Hid (zRec.size = r.cells.toArray.size) := Lib.hid (by show zRec.size = r.cells.length; rw [Rc.clen hrok]; rfl)
      have OR : Hid (r.cells.toArray.all (·.oneCell') = true) := Lib.hid (by rw [List.all_toArray, List.all_eq_true]; exact Rc.cone hrok)
      have r2 : (wr.alloc (.cells r.cells.toArray 40)).cell? ⟨wr.heap.size, 2, none⟩ = some (.int .i64 r.t) := by rw [cell_of_row _ wr.heap.size 2 _ _ _ (heap_alloc_last wr _)]; rfl
      have htk : ((rs.take (k + 1)).map (·.t)).foldl min xt = min (((rs.take k).map (·.t)).foldl min xt) r.t := by
        rw [List.take_add_one, hr]
        simp [List.foldl_append]
      obtain ⟨M, hM⟩ : ∃ M, M = ((rs.take k).map (·.t)).foldl min xt := ⟨_, rfl⟩
      rw [← hM] at htk ⊢
      obtain ⟨M2, hM2⟩ : ∃ M2, M2 = min M r.t := ⟨_, rfl⟩
      have hmin : min (M : Int) (r.t : Int) = (M2 : Int) := by omega
      have HTK : Hid (M2 = ((rs.take (k + 1)).map (·.t)).foldl min xt) := Lib.hid (by rw [htk, hM2])
      have HBA : Hid (Below w.heap.size w (wr.alloc (.cells r.cells.toArray 40))) := Lib.hid (HB.out.alloc HB.out.size _)
      have hcase : ((M : Int) ≤ (r.t : Int) ∧ M2 = M) ∨ ((r.t : Int) < (M : Int) ∧ M2 = r.t) := by omega
      clear hr hrok htk hM hM2
      generalize r.cells.toArray = rc at *
      generalize r.t = rt at *
      rcases hcase with ⟨hle, rfl⟩ | ⟨hle, rfl⟩
      all_goals
        go_wp2_with (first
          | (refine wpList_load_agg rfl 40 (.tmp 17) rfl ⟨g, o + k * 21, none⟩ rfl rc _ HCR.out Try.underlying40 rfl ZR.out ?_; go_simp)
          | (refine wpList_alloc_z rfl 40 rfl zRec HZR.out ?_; go_simp)
          | (refine wpList_store_new rfl 40 (.tmp 5) (.tmp 18) rfl wr.heap.size rfl zRec rc 40 rfl rfl ZR.out ZZ.out OR.out ?_; go_simp))
        go_roundw
        case rel => exact ⟨k + 1, by omega, by first | rfl | go_num, by rw [← HTK.out], HBA⟩
        case measure => simp [intOf]; omega
    · obtain rfl : k = n := by omega
      have hkI : ¬ (k : Int) < (k : Int) := by omega
      go_wp2_with fail
      go_ret
      refine ⟨?_, HB.out⟩
      rw [List.take_of_length_le (by simp [HN.out]), HE.out]
      rfl
end Go.Proofs.Ytiifanenomebeaa
