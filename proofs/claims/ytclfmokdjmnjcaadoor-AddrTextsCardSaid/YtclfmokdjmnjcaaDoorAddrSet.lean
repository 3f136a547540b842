/-
  The walks of addr.joined and slices.Concat at numbers. Conditions: eight numbers; the rows that each states.
-/
import Derived.Test.YtclfmokdjmnjcaaDoorAddrRead
import Derived.Lib.AppendZerosOnto
import Derived.Lib.AppendZeros
namespace Go.Proofs.YtclfmokdjmnjcaaDoor
open Go.RowKit

theorem ung_at : ∀ (vs : List Nat) (k : Nat), k < vs.length → (ung vs).getD (2 * k) 0 = UInt8.ofNat (vs.getD k 0 / 256) ∧ (ung vs).getD (2 * k + 1) 0 = UInt8.ofNat (vs.getD k 0)
  | [], k, h => absurd h (Nat.not_lt_zero k)
  | v :: l, 0, _ => ⟨rfl, rfl⟩
  | v :: l, k + 1, h => by
    have := ung_at l k (by simpa using h)
    rw [ung, show 2 * (k + 1) = 2 * k + 1 + 1 by omega]
    simp only [List.getD_cons_succ]
    exact this
theorem hi_byte (v : Nat) (h : v < 65536) : ((UInt8.ofNat (v / 256)).toNat : Int) = (v : Int) / 256 := by
  rw [UInt8.toNat_ofNat']; omega
theorem lo_byte (v : Nat) : ((UInt8.ofNat v).toNat : Int) = (v : Int) % 256 := by
  rw [UInt8.toNat_ofNat']; omega
set_option maxRecDepth 100000 in
set_option maxHeartbeats 1000000 in
theorem joined_e (g cap : Nat) (vs : List Nat) (hl : vs.length = 8) (hv : ∀ v ∈ vs, v < 65536) (w : World) (hg : U64s w g vs) :
    Calls Tryd.prog 38 #[.slice (some ⟨g, 0, none⟩) 8 cap] w fun e w' => e = .returned (.agg (bvs (ung vs)).toArray) ∧ Below w.heap.size w w' := by
  have hgl := hg.lt
  obtain ⟨Z, hZ⟩ : ∃ Z, Z = (bvs zero16).toArray := ⟨_, rfl⟩
  have zA : (Tryd.prog.info? 23).map (·.zero) = some (some (.agg Z)) := by rw [hZ]; exact zeroAddr
  have hZs : Z.size = 16 := by rw [hZ]; rfl
  have hZc : ∀ j, j < 16 → Z[j]? = some (.int .u8 0) := by
    intro j hj
    have h : ∀ j : Fin 16, zero16.getD j.val 0 = 0 := by decide
    rw [hZ, List.getElem?_toArray, bvs_at hj, h ⟨j, hj⟩]; rfl
  have hb1 : Below w.heap.size w (w.alloc (.cells Z 23)) := (Below.refl _ w).alloc (Nat.le_refl _) _
  obtain ⟨us, hus⟩ : ∃ us, us = ung vs := ⟨_, rfl⟩
  have hul : us.length = 16 := by rw [hus, ung_length, hl]
  have hst : Blk w ((w.alloc (.cells Z 23)).alloc (.cells Z 23)) (w.heap.size + 1) 16 (fillF (fun j => .int .u8 (us.getD j 0).toNat) (.int .u8 0) (2 * 0)) := by
    have := Blk.new (n := 16) (f := fillF (fun j => .int .u8 (us.getD j 0).toNat) (.int .u8 0) (2 * 0)) (z := Z) (t := 23) hb1 (fun j hj => (hZc j hj).trans (by unfold fillF; rw [if_neg (by omega)]))
    rwa [World.size_alloc] at this
  have hval : ∀ k, k < 8 → w.cell? ⟨g, k, none⟩ = some (.int .u64 (vs.getD k 0 : Nat)) ∧ vs.getD k 0 < 65536 ∧ us.getD (2 * k) 0 = UInt8.ofNat (vs.getD k 0 / 256) ∧ us.getD (2 * k + 1) 0 = UInt8.ofNat (vs.getD k 0) := fun k hk => by
    refine ⟨hg.cells k (by omega), ?_, ?_⟩
    · rw [List.getD, List.getElem?_eq_getElem (by omega)]; exact hv _ (List.getElem_mem _)
    · rw [hus]; exact ung_at vs k (by omega)
  have hs := sizeBv hul
  have h1 := oneBv us
  have hz : Z.size = (bvs us).toArray.size := by rw [hZs, List.size_toArray, bvs_length, hul]
  have hrc : ∀ wr : World, Blk w wr (w.heap.size + 1) 16 (fillF (fun j => .int .u8 (us.getD j 0).toNat) (.int .u8 0) (2 * 8)) → ∀ j v, (bvs us).toArray.toList[j]? = some v → wr.cell? ((⟨w.heap.size + 1, 0, none⟩ : Addr).add j) = some v := fun wr h j v hj => by
    have hj' : j < 16 := by have := (List.getElem?_eq_some_iff.1 hj).1; simp only [bvs_length, hul] at this; exact this
    rw [Addr.add_lit, Nat.zero_add, h.cells j hj', ← hj]
    unfold fillF
    rw [if_pos (by omega)]
    exact (bvs_at (by omega)).symm
  have hu := Tryd.underlying23
  rw [← hus]
  have ZA := Lib.hid zA
  have ST := Lib.hid hst
  have HV := Lib.hid hval
  have HS := Lib.hid hs
  have H1 := Lib.hid h1
  have HZ := Lib.hid hz
  have HRC := Lib.hid hrc
  have HG := Lib.hid hg
  clear zA hZs hZc hZ hst hval hs h1 hz hrc hus hul hl hv hb1 hg
  revert HS H1 HZ HRC
  generalize (bvs us).toArray = r
  intro HS H1 HZ HRC
  go_enter Tryd.func38, Tryd.ntmps38
  go_wp2_with (first
    | (refine wpList_alloc_z rfl 23 rfl Z ZA.out ?_; go_simp))
  go_loopw [8, 4, 5] (fun i _ _ wr => ∃ k : Nat, k ≤ 8 ∧ i = .int .i64 k ∧ Below (w.alloc (.cells Z 23)).heap.size (w.alloc (.cells Z 23)) wr ∧ Blk w wr (w.heap.size + 1) 16 (fillF (fun j => .int .u8 (us.getD j 0).toNat) (.int .u8 0) (2 * k))) (fun i _ _ _ => 8 - (intOf i).toNat)
  case atStart => exact ⟨0, by decide, rfl, (Below.refl _ _).alloc (Nat.le_refl _) _, ST.out⟩
  case round =>
    obtain ⟨k, hk, rfl, hbw, hat⟩ := hrel
    by_cases hlt : k < 8
    · obtain ⟨v1, v2, v3, v4⟩ := HV.out k hlt
      have c0 := (hat.below.cell (p := ⟨g, k, none⟩) hgl).trans v1
      obtain ⟨f0, ⟨u0, c1⟩, hn1⟩ := hat.fill (show 2 * k < 16 by omega) (Below.refl _ wr)
      have hx1 := hn1 (.int .u8 ((vs.getD k 0 : Nat) / 256 : Int)) (by rw [v3, hi_byte _ v2])
      obtain ⟨f1, ⟨u1, c2⟩, hn2⟩ := hx1.fill (show 2 * k + 1 < 16 by omega) (Below.refl _ _)
      have hx2 := hn2 (.int .u8 ((vs.getD k 0 : Nat) % 256 : Int)) (by rw [v4, lo_byte])
      have HN := Lib.hid hx2
      have HB := Lib.hid hbw
      clear hn1 hn2 hx1 hx2 hat hbw v1 v3 v4
      generalize vs.getD k 0 = x at c0 v2 c2 f1 HN
      go_wp2
      go_roundw
      case rel => exact ⟨k + 1, by omega, by go_num, (HB.out.setCell (p := ⟨w.heap.size + 1, 2 * k, none⟩) (by rw [World.size_alloc]; exact Nat.le_refl _) _).setCell (p := ⟨w.heap.size + 1, 2 * k + 1, none⟩) (by rw [World.size_alloc]; exact Nat.le_refl _) _, by rw [show 2 * (k + 1) = 2 * k + 1 + 1 by omega]; exact HN.out⟩
      case measure => simp [intOf]; omega
    · obtain rfl : k = 8 := by omega
      have hcs := HRC.out wr hat
      have hz0 : wr.heap[w.heap.size]? = some (.cells Z 23 (0, 0)) := by
        rw [hbw.block _ (by rw [World.size_alloc]; exact Nat.lt_succ_self _)]; exact heap_alloc_last w _
      have HB := Lib.hid hat.below
      have HC := Lib.hid hcs
      have H0 := Lib.hid hz0
      clear hat hbw hcs hz0
      go_wp2_with (first
        | (refine wpList_load_agg rfl 23 (.tmp 3) rfl ⟨w.heap.size + 1, 0, none⟩ rfl r _ HC.out hu rfl HS.out ?_; go_simp)
        | (refine wpList_store_blk rfl 23 (.tmp 2) (.tmp 26) rfl w.heap.size Z r 23 H0.out rfl rfl HS.out HZ.out H1.out ?_; intro w3 hg3 hw3 hz3; go_simp))
      exact bodyPost_ret (results_cell_row rfl _ w3 w.heap.size 23 r (0, 0) _ rfl hg3.out hu rfl HS.out) rfl ⟨rfl, HB.out.grown hw3.out HB.out.size (fun k e => by injection e with e; omega)⟩

def uvs (xs : List Nat) : List Value := xs.map fun (r : Nat) => .int .u64 r
theorem infoU64 : (Tryd.prog.info? 52).map (fun i => (i.zero, i.size, i.bytes)) = some (some (.int .u64 0), 1, 8) := by kernel_rfl
theorem uvs_length (xs : List Nat) : (uvs xs).length = xs.length := by unfold uvs; simp
theorem uvs_at {xs : List Nat} {j : Nat} (h : j < xs.length) : (uvs xs)[j]? = some (.int .u64 (xs.getD j 0 : Nat)) := by
  unfold uvs; rw [List.getElem?_map, List.getElem?_eq_getElem h]; simp [List.getD, List.getElem?_eq_getElem h]
theorem uvs_one (xs : List Nat) : ∀ v ∈ uvs xs, v.oneCell' = true := fun v hv => by
  unfold uvs at hv
  obtain ⟨r, _, rfl⟩ := List.mem_map.1 hv
  rfl
theorem uvs_append (a b : List Nat) : uvs (a ++ b) = uvs a ++ uvs b := by unfold uvs; rw [List.map_append]
/-- a list of numbers as it is handed on: none, or a row -/
def Part (w : World) (A : Option Addr) (vs : List Nat) : Prop := (A = none ∧ vs = []) ∨ ∃ g, A = some ⟨g, 0, none⟩ ∧ U64s w g vs
theorem Part.below {w w' : World} {A : Option Addr} {vs : List Nat} (h : Part w A vs) (hb : Below w.heap.size w w') : Part w' A vs := by
  rcases h with h | ⟨g, h1, h2⟩
  · exact .inl h
  · exact .inr ⟨g, h1, h2.below hb⟩
/-- what Grow answers of no row -/
def GrowPost (base : Nat) (w : World) (e : Ending) (w' : World) : Prop := ∃ g cap, e = .returned (.slice (some ⟨g, 0, none⟩) 0 cap) ∧ w'.ownsRow base 52 1 (.slice (some ⟨g, 0, none⟩) 0 cap) 0 (uvs []) ∧ Below base w w'
set_option maxHeartbeats 1000000 in
theorem grow_e (base : Nat) (w : World) (hbase : base ≤ w.heap.size) : Calls Tryd.prog 49 #[.slice none 0 0, .int .i64 8] w (GrowPost base w) := by
  obtain ⟨i0, hi, hz0, hz1, hz2⟩ := info_parts infoU64
  obtain ⟨G, hG⟩ : ∃ G, G = grownCap w 8 0 52 := ⟨_, rfl⟩
  have hGn : 8 ≤ G := by rw [hG]; exact grownCap_ge w _ _ _
  have hGm : G ≤ maxLen := by rw [hG]; exact grownCap_le_maxLen w _ _ _ (by unfold maxLen; omega)
  obtain ⟨ROW, hROW⟩ : ∃ ROW : Array Value, ROW = ([] : List Value).toArray ++ Builtin.zeroCells (Value.int .u64 0).cells 8 ++ Builtin.zeroCells (Value.int .u64 0).cells (G - 8) := ⟨_, rfl⟩
  have hold : (Builtin.firstCells i0.size 0 (.slice none 0 0)).run Tryd.prog w.drew = .ok ([] : List Value).toArray w.drew := by rw [hz1]; rfl
  have hrz : ∀ ty, (Builtin.append_ #[40, 3] ty #[.slice none 0 0, .int .i64 8]).run Tryd.prog w = .ok (.slice (some ⟨w.heap.size, 0, none⟩) 8 G) (w.drew.alloc (.cells ROW 52)) := fun ty => by
    have h := Lib.run_append_grow_zeros w 40 3 ty 52 i0 _ .i64 .i64 Tryd.underlying40 Tryd.underlying3 hi hz0 none 0 0 [] hold 8 (by omega) (by omega) (by omega) (by omega) (by rw [hz2]; omega) (by rw [hz2]; exact growslice_fits (by omega) (by omega))
    rw [hROW, hG]
    exact h
  have hRs : ROW.size = G := by
    rw [hROW]
    simp [Builtin.zeroCells, Value.cells]
    omega
  have hown : (w.drew.alloc (.cells ROW 52)).ownsRow base 52 1 (.slice (some ⟨w.heap.size, 0, none⟩) 0 G) 0 (uvs []) :=
    ⟨rfl, .inr ⟨w.heap.size, G, ROW, rfl, hbase, heap_alloc_last w.drew _, Nat.zero_le _, hGm, by rw [hRs, Nat.mul_one], by simp [uvs]⟩⟩
  have hbel : Below base w (w.drew.alloc (.cells ROW 52)) := (Below.refl _ w).drew.alloc hbase _
  have HO := Lib.hid hown
  have HB := Lib.hid hbel
  have hG8 : (8 : Int) ≤ (G : Int) := by omega
  clear hown hbel hRs hROW hold hi hz0 hz1 hz2 hGm hG
  go_enter Tryd.func49, Tryd.ntmps49
  go_wp2_with (at_builtin; refine Lib.wpList_append_run _ rfl _ _ _ _ rfl _ _ rfl rfl _ _ (hrz _) ?_)
  go_ret
  exact ⟨_, _, rfl, HO.out, HB.out⟩
end Go.Proofs.YtclfmokdjmnjcaaDoor
