/-
  The walks of addr.joined and slices.Concat at numbers. Conditions: eight numbers; the rows that each states.
  The walk of slices.Concat at three lists of numbers, eight in all. Conditions: the lists lie in memory as they are handed on.
  The walk of addr.read6. Conditions: a text that is not long; the library's variables hold what their initialisers lay.
  The walk of addr.read4. Conditions: a text that is not long; the library's variables hold what their initialisers lay.
  The walk of addr.Parse: the address whose text it is, or an error. Conditions: the text is no longer than a text that comes in may be; the library's variables hold what their initialisers lay.
-/
import Derived.Test.YtpnlgojbmjfhhaaGreatDoorAddrRead
import Derived.Lib.AppendZerosOnto
import Derived.Lib.AppendZeros
import Derived.Laws.ResultCell
import Derived.Deep.MidRow
import Derived.StillTailTactics
import Derived.Lib.IndexBytes
namespace Go.Proofs.YtpnlgojbmjfhhaaGreatDoor
open Go.RowKit

theorem ung_at : ∀ (vs : List Nat) (k : Nat), k < vs.length → (ung vs).getD (2 * k) 0 = UInt8.ofNat (vs.getD k 0 / 256) ∧ (ung vs).getD (2 * k + 1) 0 = UInt8.ofNat (vs.getD k 0)
  | [], k, h => absurd h (Nat.not_lt_zero k)
  | v :: l, 0, _ => ⟨rfl, rfl⟩
  | v :: l, k + 1, h => by
    have := ung_at l k (by simpa using h)
    rw [ung, show 2 * (k + 1) = 2 * k + 1 + 1 by omega]
    simp only [List.getD_cons_succ]
    exact this
theorem hi_byte (v : Nat) (h : v < 65536) : ((UInt8.ofNat (v / 256)).toNat : Int) = (v : Int) / 256 := by
  rw [UInt8.toNat_ofNat']; omega
theorem lo_byte (v : Nat) : ((UInt8.ofNat v).toNat : Int) = (v : Int) % 256 := by
  rw [UInt8.toNat_ofNat']; omega
set_option maxRecDepth 100000 in
set_option maxHeartbeats 1000000 in
theorem joined_e (g cap : Nat) (vs : List Nat) (hl : vs.length = 8) (hv : ∀ v ∈ vs, v < 65536) (w : World) (hg : U64s w g vs) :
    Calls Tryz.prog 105 #[.slice (some ⟨g, 0, none⟩) 8 cap] w fun e w' => e = .returned (.agg (bvs (ung vs)).toArray) ∧ Below w.heap.size w w' := by
  have hgl := hg.lt
  obtain ⟨Z, hZ⟩ : ∃ Z, Z = (bvs zero16).toArray := ⟨_, rfl⟩
  have zA : (Tryz.prog.info? 48).map (·.zero) = some (some (.agg Z)) := by rw [hZ]; exact zeroAddr
  have hZs : Z.size = 16 := by rw [hZ]; rfl
  have hZc : ∀ j, j < 16 → Z[j]? = some (.int .u8 0) := by
    intro j hj
    have h : ∀ j : Fin 16, zero16.getD j.val 0 = 0 := by decide
    rw [hZ, List.getElem?_toArray, bvs_at hj, h ⟨j, hj⟩]; rfl
  have hb1 : Below w.heap.size w (w.alloc (.cells Z 48)) := (Below.refl _ w).alloc (Nat.le_refl _) _
  obtain ⟨us, hus⟩ : ∃ us, us = ung vs := ⟨_, rfl⟩
  have hul : us.length = 16 := by rw [hus, ung_length, hl]
  have hst : Blk w ((w.alloc (.cells Z 48)).alloc (.cells Z 48)) (w.heap.size + 1) 16 (fillF (fun j => .int .u8 (us.getD j 0).toNat) (.int .u8 0) (2 * 0)) := by
    have := Blk.new (n := 16) (f := fillF (fun j => .int .u8 (us.getD j 0).toNat) (.int .u8 0) (2 * 0)) (z := Z) (t := 48) hb1 (fun j hj => (hZc j hj).trans (by unfold fillF; rw [if_neg (by omega)]))
    rwa [World.size_alloc] at this
  have hval : ∀ k, k < 8 → w.cell? ⟨g, k, none⟩ = some (.int .u64 (vs.getD k 0 : Nat)) ∧ vs.getD k 0 < 65536 ∧ us.getD (2 * k) 0 = UInt8.ofNat (vs.getD k 0 / 256) ∧ us.getD (2 * k + 1) 0 = UInt8.ofNat (vs.getD k 0) := fun k hk => by
    refine ⟨hg.cells k (by omega), ?_, ?_⟩
    · rw [List.getD, List.getElem?_eq_getElem (by omega)]; exact hv _ (List.getElem_mem _)
    · rw [hus]; exact ung_at vs k (by omega)
  have hs := sizeBv hul
  have h1 := oneBv us
  have hz : Z.size = (bvs us).toArray.size := by rw [hZs, List.size_toArray, bvs_length, hul]
  have hrc : ∀ wr : World, Blk w wr (w.heap.size + 1) 16 (fillF (fun j => .int .u8 (us.getD j 0).toNat) (.int .u8 0) (2 * 8)) → ∀ j v, (bvs us).toArray.toList[j]? = some v → wr.cell? ((⟨w.heap.size + 1, 0, none⟩ : Addr).add j) = some v := fun wr h j v hj => by
    have hj' : j < 16 := by have := (List.getElem?_eq_some_iff.1 hj).1; simp only [bvs_length, hul] at this; exact this
    rw [Addr.add_lit, Nat.zero_add, h.cells j hj', ← hj]
    unfold fillF
    rw [if_pos (by omega)]
    exact (bvs_at (by omega)).symm
  have hu := Tryz.underlying48
  rw [← hus]
  have ZA := Lib.hid zA
  have ST := Lib.hid hst
  have HV := Lib.hid hval
  have HS := Lib.hid hs
  have H1 := Lib.hid h1
  have HZ := Lib.hid hz
  have HRC := Lib.hid hrc
  have HG := Lib.hid hg
  clear zA hZs hZc hZ hst hval hs h1 hz hrc hus hul hl hv hb1 hg
  revert HS H1 HZ HRC
  generalize (bvs us).toArray = r
  intro HS H1 HZ HRC
  go_enter Tryz.func105, Tryz.ntmps105
  go_wp2_with (first
    | (refine wpList_alloc_z rfl 48 rfl Z ZA.out ?_; go_simp))
  go_loopw [8, 4, 5] (fun i _ _ wr => ∃ k : Nat, k ≤ 8 ∧ i = .int .i64 k ∧ Below (w.alloc (.cells Z 48)).heap.size (w.alloc (.cells Z 48)) wr ∧ Blk w wr (w.heap.size + 1) 16 (fillF (fun j => .int .u8 (us.getD j 0).toNat) (.int .u8 0) (2 * k))) (fun i _ _ _ => 8 - (intOf i).toNat)
  case atStart => exact ⟨0, by decide, rfl, (Below.refl _ _).alloc (Nat.le_refl _) _, ST.out⟩
  case round =>
    obtain ⟨k, hk, rfl, hbw, hat⟩ := hrel
    by_cases hlt : k < 8
    · obtain ⟨v1, v2, v3, v4⟩ := HV.out k hlt
      have c0 := (hat.below.cell (p := ⟨g, k, none⟩) hgl).trans v1
      obtain ⟨f0, ⟨u0, c1⟩, hn1⟩ := hat.fill (show 2 * k < 16 by omega) (Below.refl _ wr)
      have hx1 := hn1 (.int .u8 ((vs.getD k 0 : Nat) / 256 : Int)) (by rw [v3, hi_byte _ v2])
      obtain ⟨f1, ⟨u1, c2⟩, hn2⟩ := hx1.fill (show 2 * k + 1 < 16 by omega) (Below.refl _ _)
      have hx2 := hn2 (.int .u8 ((vs.getD k 0 : Nat) % 256 : Int)) (by rw [v4, lo_byte])
      have HN := Lib.hid hx2
      have HB := Lib.hid hbw
      clear hn1 hn2 hx1 hx2 hat hbw v1 v3 v4
      generalize vs.getD k 0 = x at c0 v2 c2 f1 HN
      go_wp2
      go_roundw
      case rel => exact ⟨k + 1, by omega, by go_num, (HB.out.setCell (p := ⟨w.heap.size + 1, 2 * k, none⟩) (by rw [World.size_alloc]; exact Nat.le_refl _) _).setCell (p := ⟨w.heap.size + 1, 2 * k + 1, none⟩) (by rw [World.size_alloc]; exact Nat.le_refl _) _, by rw [show 2 * (k + 1) = 2 * k + 1 + 1 by omega]; exact HN.out⟩
      case measure => simp [intOf]; omega
    · obtain rfl : k = 8 := by omega
      have hcs := HRC.out wr hat
      have hz0 : wr.heap[w.heap.size]? = some (.cells Z 48 (0, 0)) := by
        rw [hbw.block _ (by rw [World.size_alloc]; exact Nat.lt_succ_self _)]; exact heap_alloc_last w _
      have HB := Lib.hid hat.below
      have HC := Lib.hid hcs
      have H0 := Lib.hid hz0
      clear hat hbw hcs hz0
      go_wp2_with (first
        | (refine wpList_load_agg rfl 48 (.tmp 3) rfl ⟨w.heap.size + 1, 0, none⟩ rfl r _ HC.out hu rfl HS.out ?_; go_simp)
        | (refine wpList_store_blk rfl 48 (.tmp 2) (.tmp 26) rfl w.heap.size Z r 48 H0.out rfl rfl HS.out HZ.out H1.out ?_; intro w3 hg3 hw3 hz3; go_simp))
      exact bodyPost_ret (results_cell_row rfl _ w3 w.heap.size 48 r (0, 0) _ rfl hg3.out hu rfl HS.out) rfl ⟨rfl, HB.out.grown hw3.out HB.out.size (fun k e => by injection e with e; omega)⟩

def uvs (xs : List Nat) : List Value := xs.map fun (r : Nat) => .int .u64 r
theorem infoU64 : (Tryz.prog.info? 125).map (fun i => (i.zero, i.size, i.bytes)) = some (some (.int .u64 0), 1, 8) := by kernel_rfl
theorem uvs_length (xs : List Nat) : (uvs xs).length = xs.length := by unfold uvs; simp
theorem uvs_at {xs : List Nat} {j : Nat} (h : j < xs.length) : (uvs xs)[j]? = some (.int .u64 (xs.getD j 0 : Nat)) := by
  unfold uvs; rw [List.getElem?_map, List.getElem?_eq_getElem h]; simp [List.getD, List.getElem?_eq_getElem h]
theorem uvs_one (xs : List Nat) : ∀ v ∈ uvs xs, v.oneCell' = true := fun v hv => by
  unfold uvs at hv
  obtain ⟨r, _, rfl⟩ := List.mem_map.1 hv
  rfl
theorem uvs_append (a b : List Nat) : uvs (a ++ b) = uvs a ++ uvs b := by unfold uvs; rw [List.map_append]
/-- a list of numbers as it is handed on: none, or a row -/
def Part (w : World) (A : Option Addr) (vs : List Nat) : Prop := (A = none ∧ vs = []) ∨ ∃ g, A = some ⟨g, 0, none⟩ ∧ U64s w g vs
theorem Part.below {w w' : World} {A : Option Addr} {vs : List Nat} (h : Part w A vs) (hb : Below w.heap.size w w') : Part w' A vs := by
  rcases h with h | ⟨g, h1, h2⟩
  · exact .inl h
  · exact .inr ⟨g, h1, h2.below hb⟩
/-- what Grow answers of no row -/
def GrowPost (base : Nat) (w : World) (e : Ending) (w' : World) : Prop := ∃ g cap, e = .returned (.slice (some ⟨g, 0, none⟩) 0 cap) ∧ w'.ownsRow base 125 1 (.slice (some ⟨g, 0, none⟩) 0 cap) 0 (uvs []) ∧ Below base w w'
set_option maxHeartbeats 1000000 in
theorem grow_e (base : Nat) (w : World) (hbase : base ≤ w.heap.size) : Calls Tryz.prog 122 #[.slice none 0 0, .int .i64 8] w (GrowPost base w) := by
  obtain ⟨i0, hi, hz0, hz1, hz2⟩ := info_parts infoU64
  obtain ⟨G, hG⟩ : ∃ G, G = grownCap w 8 0 125 := ⟨_, rfl⟩
  have hGn : 8 ≤ G := by rw [hG]; exact grownCap_ge w _ _ _
  have hGm : G ≤ maxLen := by rw [hG]; exact grownCap_le_maxLen w _ _ _ (by unfold maxLen; omega)
  obtain ⟨ROW, hROW⟩ : ∃ ROW : Array Value, ROW = ([] : List Value).toArray ++ Builtin.zeroCells (Value.int .u64 0).cells 8 ++ Builtin.zeroCells (Value.int .u64 0).cells (G - 8) := ⟨_, rfl⟩
  have hold : (Builtin.firstCells i0.size 0 (.slice none 0 0)).run Tryz.prog w.drew = .ok ([] : List Value).toArray w.drew := by rw [hz1]; rfl
  have hrz : ∀ ty, (Builtin.append_ #[94, 3] ty #[.slice none 0 0, .int .i64 8]).run Tryz.prog w = .ok (.slice (some ⟨w.heap.size, 0, none⟩) 8 G) (w.drew.alloc (.cells ROW 125)) := fun ty => by
    have h := Lib.run_append_grow_zeros w 94 3 ty 125 i0 _ .i64 .i64 Tryz.underlying94 Tryz.underlying3 hi hz0 none 0 0 [] hold 8 (by omega) (by omega) (by omega) (by omega) (by rw [hz2]; omega) (by rw [hz2]; exact growslice_fits (by omega) (by omega))
    rw [hROW, hG]
    exact h
  have hRs : ROW.size = G := by
    rw [hROW]
    simp [Builtin.zeroCells, Value.cells]
    omega
  have hown : (w.drew.alloc (.cells ROW 125)).ownsRow base 125 1 (.slice (some ⟨w.heap.size, 0, none⟩) 0 G) 0 (uvs []) :=
    ⟨rfl, .inr ⟨w.heap.size, G, ROW, rfl, hbase, heap_alloc_last w.drew _, Nat.zero_le _, hGm, by rw [hRs, Nat.mul_one], by simp [uvs]⟩⟩
  have hbel : Below base w (w.drew.alloc (.cells ROW 125)) := (Below.refl _ w).drew.alloc hbase _
  have HO := Lib.hid hown
  have HB := Lib.hid hbel
  have hG8 : (8 : Int) ≤ (G : Int) := by omega
  clear hown hbel hRs hROW hold hi hz0 hz1 hz2 hGm hG
  go_enter Tryz.func122, Tryz.ntmps122
  go_wp2_with (at_builtin; refine Lib.wpList_append_run _ rfl _ _ _ _ rfl _ _ rfl rfl _ _ (hrz _) ?_)
  go_ret
  exact ⟨_, _, rfl, HO.out, HB.out⟩
end Go.Proofs.YtpnlgojbmjfhhaaGreatDoor
namespace Go.Proofs.YtpnlgojbmjfhhaaGreatDoor
open Go.RowKit

/-- how many numbers the first k lists have -/
def upto (ps : List (Option Addr × List Nat)) (k : Nat) : List Nat := ((ps.take k).map (·.2)).flatten
theorem upto_succ {ps : List (Option Addr × List Nat)} {k : Nat} (h : k < ps.length) : upto ps (k + 1) = upto ps k ++ (ps.getD k (none, [])).2 := by
  unfold upto
  rw [List.take_succ_eq_append_getElem h, List.map_append, List.flatten_append]
  simp [List.getD, List.getElem?_eq_getElem h]
theorem upto_le (ps : List (Option Addr × List Nat)) : ∀ {k m : Nat}, k ≤ m → m ≤ ps.length → (upto ps k).length ≤ (upto ps m).length := by
  intro k m h hm
  induction m with
  | zero => rw [show k = 0 by omega]; exact Nat.le_refl _
  | succ m ih =>
    by_cases e : k = m + 1
    · rw [e]; exact Nat.le_refl _
    · rw [upto_succ (show m < ps.length by omega), List.length_append]
      have := ih (by omega) (by omega)
      omega
/-- append of a list of numbers that is none -/
theorem app_nil (g n cap : Nat) (h : n ≤ cap) (ty : TypeId) (W : World) : (Builtin.append_ #[94, 94] ty #[.slice (some ⟨g, 0, none⟩) n cap, .slice none 0 0]).run Tryz.prog W = .ok (.slice (some ⟨g, 0, none⟩) n cap) W := by
  simp [Builtin.append_, go_sem, run_underlying Tryz.underlying94, Builtin.lenOf, Builtin.firstCells, h, storeCells]
theorem row_bound {w : World} {base g cap n : Nat} {xs : List Value} (h : w.ownsRow base 125 1 (.slice (some ⟨g, 0, none⟩) n cap) n xs) : n ≤ cap := by
  rcases h.2 with ⟨e, _⟩ | ⟨g', cap', cur, e, _, _, hc, _⟩
  · cases e
  · injection e with _ _ e
    omega
/-- what Concat answers -/
def CatPost (w : World) (xs : List Nat) (e : Ending) (w' : World) : Prop := ∃ g cap, e = .returned (.slice (some ⟨g, 0, none⟩) xs.length cap) ∧ Below w.heap.size w w' ∧ U64s w' g xs
theorem own_form5 {w : World} {base n : Nat} {v : Value} {xs : List Nat} (h : w.ownsRow base 125 1 v n (uvs xs)) (hn : v ≠ .slice none 0 0) : ∃ g cap, v = .slice (some ⟨g, 0, none⟩) n cap ∧ n ≤ cap ∧ xs.length = n ∧ U64s w g xs := by
  obtain ⟨h1, h2⟩ := h
  rw [uvs_length, Nat.mul_one] at h1
  rcases h2 with ⟨e, _⟩ | ⟨g, cap, cur, e, hb, hg, hc, hm, hs, ht⟩
  · exact absurd e hn
  · refine ⟨g, cap, e, hc, h1, (Array.getElem?_eq_some_iff.1 hg).1, fun j hj => ?_⟩
    rw [cell_of_row w g j cur _ _ hg, ← uvs_at hj, ← ht, Nat.mul_one, List.getElem?_take, if_pos (by omega), Array.getElem?_toList]
theorem own_u64 {w : World} {base g cap n : Nat} {xs : List Nat} (h : w.ownsRow base 125 1 (.slice (some ⟨g, 0, none⟩) n cap) n (uvs xs)) : U64s w g xs := by
  obtain ⟨g', cap', e, _, _, hu⟩ := own_form5 h (by intro e; cases e)
  injection e with e _ _
  injection e with e
  injection e with e _ _
  rw [e]; exact hu
theorem app_own {w : World} {ops : Array Oper} {rest : List Oper} {o : Oper} {a : Act} {Q : Exit → Act → World → Prop} (hgd : o.guard = none) (s x : Operand)
    (ho : o.op = .call { callee := .builtin .append, args := #[s, x], argTypes := #[94, 94] })
    (base g cap n : Nat) (xs : List Nat) (hs : a.eval s = .slice (some ⟨g, 0, none⟩) n cap) (hown : w.ownsRow base 125 1 (.slice (some ⟨g, 0, none⟩) n cap) n (uvs xs))
    (g2 : Nat) (vs : List Nat) (hx : a.eval x = .slice (some ⟨g2, 0, none⟩) vs.length vs.length) (hc : U64s w g2 vs) (hn : n + vs.length ≤ 1000) (hbase : base ≤ w.heap.size)
    (h : ∀ g' cap' w', w'.ownsRow base 125 1 (.slice (some ⟨g', 0, none⟩) (n + vs.length) cap') (n + vs.length) (uvs (xs ++ vs)) → Below base w w' → wpList Tryz.prog ops Q rest (a.put o.dst (.slice (some ⟨g', 0, none⟩) (n + vs.length) cap')) w') : wpList Tryz.prog ops Q (o :: rest) a w := by
  obtain ⟨i0, hi, hz0, hz1, hz2⟩ := info_parts infoU64
  refine wpList_append_own (w := w) hgd s x 94 ho base 125 i0 (.int .u64 0) 1 8 Tryz.underlying94 hi hz0 hz1 hz2 rfl (by decide) _ n (uvs xs) hs hown ⟨g2, 0, none⟩ vs.length vs.length (uvs vs) hx (by rw [uvs_length, Nat.mul_one])
    (fun j u hj => by
      have hj' : j < vs.length := by have := (List.getElem?_eq_some_iff.1 hj).1; rwa [uvs_length] at this
      rw [Addr.add_lit, Nat.zero_add, hc.cells j hj', ← uvs_at hj']; exact hj)
    (uvs_one vs) (by unfold maxLen; omega) (by omega) hbase (fun v' w' h2 h3 h4 => ?_)
  have hne : v' ≠ .slice none 0 0 := fun e => by
    have := (h4.1 e).1
    cases this
  rw [← uvs_append] at h2
  obtain ⟨g', cap', e, _⟩ := own_form5 h2 hne
  subst e
  exact h g' cap' w' h2 ((Below.refl _ _).grown h3 hbase fun k hk => (hown.lt k hk).1)
set_option maxRecDepth 100000 in
set_option maxHeartbeats 2000000 in
theorem concat_e (B c : Nat) (ps : List (Option Addr × List Nat)) (hl : ps.length = 3) (h8 : (upto ps 3).length = 8) (w : World) (hB : B < w.heap.size) (hc : ∀ j, j < 3 → w.cell? ⟨B, j, none⟩ = some (.slice (ps.getD j (none, [])).1 (ps.getD j (none, [])).2.length (ps.getD j (none, [])).2.length))
    (hp : ∀ j, j < 3 → Part w (ps.getD j (none, [])).1 (ps.getD j (none, [])).2) :
    Calls Tryz.prog 106 #[.slice (some ⟨B, 0, none⟩) 3 c] w (CatPost w (upto ps 3)) := by
  have hnext : ∀ k, k < 3 → (upto ps (k + 1)).length = (upto ps k).length + (ps.getD k (none, [])).2.length ∧ upto ps (k + 1) = upto ps k ++ (ps.getD k (none, [])).2 ∧ (upto ps (k + 1)).length ≤ 8 := fun k hk => by
    have := upto_succ (show k < ps.length by omega)
    refine ⟨by rw [this, List.length_append], this, ?_⟩
    rw [← h8]; exact upto_le ps (by omega) (by omega)
  have hg := grow_e w.heap.size
  have HNx := Lib.hid hnext
  have HC := Lib.hid hc
  have HP := Lib.hid hp
  have H8 := Lib.hid h8
  clear hnext hc hp h8
  go_enter Tryz.func106, Tryz.ntmps106
  go_wp2
  go_loopw [11, 3, 5] (fun i s _ wr => ∃ k : Nat, k ≤ 3 ∧ i = .int .i64 k ∧ s = .int .i64 (upto ps k).length ∧ wr = w) (fun i _ _ _ => 3 - (intOf i).toNat)
  case atStart => exact ⟨0, by decide, rfl, rfl, rfl⟩
  case round =>
    obtain ⟨k, hk, rfl, rfl, rfl⟩ := hrel
    by_cases hlt : k < 3
    · have c0 := HC.out k hlt
      have hx := HNx.out k hlt
      obtain ⟨h1, _, h3⟩ := hx
      have hm : (ps.getD k (none, [])).2.length ≤ 8 := by omega
      have hs : (upto ps k).length + (ps.getD k (none, [])).2.length ≤ 8 := by omega
      have H1 := Lib.hid h1
      clear h1 h3
      generalize (ps.getD k (none, [])).2.length = m at c0 hm hs H1
      generalize (upto ps k).length = z at hs H1
      generalize (ps.getD k (none, [])).1 = A at c0
      go_wp2
      exact ⟨⟨k + 1, by omega, by go_num, by rw [H1.out]; go_num, trivial⟩, by simp [intOf]; omega⟩
    · obtain rfl : k = 3 := by omega
      rw [H8.out]
      go_wp2_with fail
      refine (hg wr (Nat.le_refl _)).mono ?_
      rintro e w2 ⟨g0, cap0, rfl, hown, hb2⟩
      have HO := Lib.hid hown
      have HB := Lib.hid hb2
      clear hg hown hb2
      go_wp2
      go_loopw [27, 6, 8] (fun i v _ wq => ∃ k g cap : Nat, k ≤ 3 ∧ i = .int .i64 k ∧ v = .slice (some ⟨g, 0, none⟩) (upto ps k).length cap ∧ wq.ownsRow wr.heap.size 125 1 (.slice (some ⟨g, 0, none⟩) (upto ps k).length cap) (upto ps k).length (uvs (upto ps k)) ∧ Below wr.heap.size wr wq) (fun i _ _ _ => 3 - (intOf i).toNat)
      case atStart => exact ⟨0, g0, cap0, by decide, rfl, rfl, HO.out, HB.out⟩
      case round =>
        rename World => wq
        obtain ⟨k, g, cap, hk, rfl, rfl, hown, hbw⟩ := hrel
        by_cases hlt : k < 3
        · have c0 := (hbw.cell (p := ⟨B, k, none⟩) hB).trans (HC.out k hlt)
          obtain ⟨h1, h2, h3⟩ := HNx.out k hlt
          have hpart := HP.out k hlt
          have hcap := (row_bound hown)
          rw [h1] at h3
          have HX := Lib.hid (show (upto ps (k + 1)) = upto ps k ++ (ps.getD k (none, [])).2 from h2)
          have H1 := Lib.hid h1
          have HBW := Lib.hid hbw
          have hbw' := hbw
          clear h1 h2 hbw
          generalize (ps.getD k (none, [])).1 = pA at c0 hpart
          generalize (ps.getD k (none, [])).2 = pv at c0 hpart HX H1 h3
          rcases hpart with ⟨hA, hv⟩ | ⟨g2, hA, hu⟩
          · rw [hA, hv] at c0
            have hn1 := app_nil g (upto ps k).length cap hcap
            go_wp2_with (at_builtin; refine Lib.wpList_append_run _ rfl _ _ _ _ rfl _ _ rfl rfl _ _ (hn1 _ _) ?_)
            go_roundw
            case rel =>
              have e : upto ps (k + 1) = upto ps k := by rw [HX.out, hv, List.append_nil]
              exact ⟨k + 1, g, cap, by omega, by go_num, by rw [e], by rw [e]; exact hown, HBW.out⟩
            case measure => simp [intOf]; omega
          · have hu2 := hu.below hbw'
            rw [hA] at c0
            have HOw := Lib.hid hown
            have HU2 := Lib.hid hu2
            clear hown hu hu2
            have hbase := HBW.out.size
            go_wp2_with (at_builtin; refine app_own rfl _ _ rfl wr.heap.size g cap _ _ rfl HOw.out g2 _ rfl HU2.out (by omega) hbase ?_; intro g3 cap3 w3 hown3 hb3)
            go_roundw
            case rel => exact ⟨k + 1, g3, cap3, by omega, by go_num, by rw [H1.out], by rw [H1.out, HX.out]; exact hown3, HBW.out.trans hb3⟩
            case measure => simp [intOf]; omega
        · obtain rfl : k = 3 := by omega
          have HU := Lib.hid (own_u64 hown)
          have HBW := Lib.hid hbw
          clear hown hbw
          go_wp2
          go_ret
          exact ⟨g, cap, rfl, HBW.out, HU.out⟩
end Go.Proofs.YtpnlgojbmjfhhaaGreatDoor
namespace Go.Proofs.YtpnlgojbmjfhhaaGreatDoor
open Go.RowKit

theorem rdN_le {b M : Nat} : ∀ {l : List UInt8} {acc v : Nat}, acc ≤ M → rdN b M acc l = some v → v ≤ M
  | [], acc, v, h, e => by rw [rdN] at e; injection e with e; omega
  | c :: l, acc, v, h, e => by
    rw [rdN] at e
    split at e
    · cases e
    · split at e
      · rename_i hc
        exact rdN_le hc.2 e
      · cases e
theorem rdAll_le {b M : Nat} : ∀ {xs : List (List UInt8)} {vs : List Nat}, rdAll b M xs = some vs → ∀ v ∈ vs, v ≤ M
  | [], vs, e => by rw [rdAll] at e; injection e with e; subst e; simp
  | x :: l, vs, e => by
    rw [rdAll] at e
    split at e
    · cases e
    · rename_i v hv
      cases hl : rdAll b M l with
      | none => rw [hl] at e; cases e
      | some us =>
        rw [hl, Option.map_some] at e
        injection e with e
        subst e
        have h1 : v ≤ M := by
          unfold rdT at hv
          split at hv
          · cases hv
          · exact rdN_le (Nat.zero_le _) hv
        intro u hu
        rcases List.mem_cons.1 hu with rfl | hu
        · exact h1
        · exact rdAll_le hl u hu
theorem read16_lt {s : List UInt8} {vs : List Nat} (h : read16 s = some vs) : ∀ v ∈ vs, v < 65536 := by
  unfold read16 at h
  split at h
  · injection h with h; subst h; simp
  · exact fun v hv => by have := rdAll_le h v hv; omega
theorem rdAll_len {b M : Nat} : ∀ {xs : List (List UInt8)} {vs : List Nat}, rdAll b M xs = some vs → vs.length = xs.length
  | [], vs, e => by rw [rdAll] at e; injection e with e; subst e; rfl
  | x :: l, vs, e => by
    rw [rdAll] at e
    split at e
    · cases e
    · cases hl : rdAll b M l with
      | none => rw [hl] at e; cases e
      | some us =>
        rw [hl, Option.map_some] at e
        injection e with e
        subst e
        rw [List.length_cons, List.length_cons, rdAll_len hl]
theorem read16_len {s : List UInt8} {vs : List Nat} (h : read16 s = some vs) : vs.length ≤ s.length + 1 := by
  unfold read16 at h
  split at h
  · injection h with h; subst h; simp
  · rw [rdAll_len h, sq_colons]
    have := List.count_le_length (a := (58 : UInt8)) (l := s)
    omega
/-- what a call that reads an address answers -/
def Rd6Post (r : Option (List UInt8)) (w : World) (e : Ending) (w' : World) : Prop :=
  Below w.heap.size w w' ∧ ((∃ a, r = some a ∧ a.length = 16 ∧ e = .returned (.tuple #[.agg (bvs a).toArray, .bool true])) ∨ (r = none ∧ e = .returned (.tuple #[.agg (bvs zero16).toArray, .bool false])))
theorem res_ct {fn : Func} {p u : Tmp} (h : fn.results = #[.cell p 48, .tmp u]) (tmps : Array Value) (w : World) (g : Nat) (cs : Array Value) (t : TypeId) (fr : Nat × Nat) (v : Value)
    (hp : tmps.getD p undef = .pointer (some ⟨g, 0, none⟩)) (hv : tmps.getD u undef = v) (hg : w.heap[g]? = some (.cells cs t fr)) (hi : (Tryz.prog.info? 48).map (·.size) = some cs.size) :
    (results fn tmps).run Tryz.prog w = .ok (.tuple #[.agg cs, v]) w := by
  rw [results_cell_tmp h, hp, hv]
  simp only [asAddr, Sem.run_pure, Result.andThen_ok]
  rw [run_loadVar_row w g t 48 cs fr _ hg Tryz.underlying48 rfl hi]
  rfl
def r6 (x y : List UInt8) (ct : Bool) : Option (List UInt8) := match read16 x, read16 y with
  | some h, some t => put6 h t ct
  | _, _ => none
theorem part_zero (W : World) (n : Nat) : Part (W.alloc (.cells (madeCells #[.int .u64 0] n) 125)) (some ⟨W.heap.size, 0, none⟩) (List.replicate n 0) :=
  .inr ⟨_, rfl, by rw [World.size_alloc]; omega, fun j hj => by
    rw [List.length_replicate] at hj
    rw [World.cell?_alloc_mark, madeAt _ _ _ hj]
    simp [List.getD, hj]⟩
set_option maxRecDepth 100000 in
set_option maxHeartbeats 2000000 in
theorem read6_e (s : ByteArray) (w : World) (he : AEnv w) (hs : s.size ≤ 1000) :
    Calls Tryz.prog 86 #[.string s] w (Rd6Post (read6 s.data.toList) w) := by
  obtain ⟨Z, hZ⟩ : ∃ Z, Z = (bvs zero16).toArray := ⟨_, rfl⟩
  have zA : (Tryz.prog.info? 48).map (·.zero) = some (some (.agg Z)) := by rw [hZ]; exact zeroAddr
  have zB : Tryz.prog.built 48 [] = some Z := by rw [hZ]; exact builtNone
  have zS : (Tryz.prog.info? 48).map (·.size) = some Z.size := by rw [hZ]; exact sizeBv rfl
  have z1 : Z.all (·.oneCell') = true := by rw [hZ]; exact oneBv _
  have zn : Z.size = 16 := by rw [hZ]; rfl
  have hb0 : Below w.heap.size w (w.alloc (.cells Z 48)) := (Below.refl _ w).alloc (Nat.le_refl _) _
  obtain ⟨m, hm⟩ := he.env.2
  have hm0 : (w.alloc (.cells Z 48)).cell? ⟨1, 0, none⟩ = some (.int .i64 m) := (hb0.cell (cell_lt hm)).trans hm
  have hcut := Tryz.strings_Cut s ⟨#[58, 58]⟩ m (w.alloc (.cells Z 48)) (by omega) hm0
  rw [show (ByteArray.mk #[58, 58]).data.toList = [58, 58] from rfl] at hcut
  have hlen : (Lib.cut s.data.toList [58, 58]).1.length ≤ 1000 ∧ (Lib.cut s.data.toList [58, 58]).2.1.length ≤ 1000 := by
    rw [Lib.size_eq] at hs
    unfold Lib.cut
    split
    · simp only [List.length_take, List.length_drop]; omega
    · simp only [List.length_nil]; omega
  have hrd : read6 s.data.toList = r6 (Lib.cut s.data.toList [58, 58]).1 (Lib.cut s.data.toList [58, 58]).2.1 (Lib.cut s.data.toList [58, 58]).2.2 := rfl
  rw [hrd]
  obtain ⟨x, hx⟩ : ∃ x, x = (Lib.cut s.data.toList [58, 58]).1 := ⟨_, rfl⟩
  obtain ⟨y, hy⟩ : ∃ y, y = (Lib.cut s.data.toList [58, 58]).2.1 := ⟨_, rfl⟩
  obtain ⟨ct, hct⟩ : ∃ ct, ct = (Lib.cut s.data.toList [58, 58]).2.2 := ⟨_, rfl⟩
  rw [← hx, ← hy, ← hct] at hcut ⊢
  rw [← hx, ← hy] at hlen
  obtain ⟨hxl, hyl⟩ := hlen
  have hu := Tryz.underlying48
  have HE := Lib.hid (he.below hb0)
  have ZA := Lib.hid zA
  have ZB := Lib.hid zB
  have ZS := Lib.hid zS
  have Z1 := Lib.hid z1
  have ZN := Lib.hid zn
  have HB0 := Lib.hid hb0
  have HZ := Lib.hid hZ
  have HXL := Lib.hid hxl
  have HYL := Lib.hid hyl
  have hg0 : (w.alloc (.cells Z 48)).heap[w.heap.size]? = some (.cells Z 48 (0, 0)) := heap_alloc_last w _
  have hg1 : w.heap.size < (w.alloc (.cells Z 48)).heap.size := by rw [World.size_alloc]; omega
  have HG0 : Hid (∀ wr, Below (w.alloc (.cells Z 48)).heap.size (w.alloc (.cells Z 48)) wr → wr.heap[w.heap.size]? = some (.cells Z 48 (0, 0)) ∧ Below w.heap.size w wr) := Lib.hid fun wr hb => ⟨by rw [hb.block _ hg1]; exact hg0, hb0.trans (hb.mono hb0.size)⟩
  clear hrd hx hy hct hm0 hm zA zB zS z1 zn hZ he hs hxl hyl hg0 hg1 hb0
  go_enter Tryz.func86, Tryz.ntmps86
  go_wp2_with (first
    | (refine wpList_alloc_z rfl 48 rfl Z ZA.out ?_; go_simp))
  refine hcut.mono ?_
  rintro e w1 ⟨rfl, n1, rfl⟩
  have hb1 : Below (w.alloc (.cells Z 48)).heap.size (w.alloc (.cells Z 48)) ((w.alloc (.cells Z 48)).drewN n1) := Joins.below_draws _ _ n1
  have HB1 := Lib.hid hb1
  clear hb1 hcut
  have C1 := fun W (hW : AEnv W) => read16_e ⟨x.toArray⟩ W hW (by rw [Lib.size_eq]; exact HXL.out)
  have C2 := fun W (hW : AEnv W) => read16_e ⟨y.toArray⟩ W hW (by rw [Lib.size_eq]; exact HYL.out)
  have HC1 := Lib.hid C1
  have HC2 := Lib.hid C2
  clear C1 C2
  go_wp2_with fail
  refine (HC1.out _ (HE.out.below HB1.out)).mono ?_
  rintro e w2 ⟨hb2, h⟩
  have HB2 := Lib.hid (HB1.out.trans (hb2.mono HB1.out.size))
  clear hb2
  rcases h with ⟨vs, A, hv, rfl, hA⟩ | ⟨hv, rfl⟩
  · have HV := Lib.hid (show read16 x = some vs from hv)
    have HA := Lib.hid hA
    clear hv hA
    go_wp2_with fail
    refine (HC2.out _ (HE.out.below HB2.out)).mono ?_
    rintro e w3 ⟨hb3, h⟩
    have HB3 := Lib.hid (HB2.out.trans (hb3.mono HB2.out.size))
    have HA3 := Lib.hid ((show Part w2 A vs from HA.out).below hb3)
    clear hb3
    rcases h with ⟨us, U, hv, rfl, hU⟩ | ⟨hv, rfl⟩
    · have HV2 := Lib.hid (show read16 y = some us from hv)
      have HU := Lib.hid (show Part w3 U us from hU)
      clear hv hU
      have hres : r6 x y ct = put6 vs us ct := by unfold r6; rw [HV.out, HV2.out]
      have HG3 := Lib.hid (HG0.out w3 HB3.out)
      have HG31 := Lib.hid HG3.out.1
      have hvl : (vs.length : Int) ≤ 2000 := by have := read16_len HV.out; have := HXL.out; omega
      have hul : (us.length : Int) ≤ 2000 := by have := read16_len HV2.out; have := HYL.out; omega
      by_cases hov : 8 < vs.length + us.length
      · have hp : put6 vs us ct = none := by unfold put6; rw [if_pos (.inl hov)]
        have HPn := Lib.hid (hres.trans hp)
        have hneg : (8 : Int) - (vs.length : Int) - (us.length : Int) < 0 := by omega
        clear hres hp
        go_wp2_with (first
          | (refine wpList_build_z rfl 48 #[] rfl Z ZB.out ?_; go_simp)
          | (refine wpList_store_blk rfl 48 (.tmp 2) (.tmp 51) rfl w.heap.size Z Z 48 HG31.out rfl rfl ZS.out rfl Z1.out ?_; intro w4 hg4 hw4 hz4; go_simp))
        exact bodyPost_ret (res_ct rfl _ w4 w.heap.size Z 48 (0, 0) (.bool false) rfl rfl hg4.out ZS.out) rfl ⟨HG3.out.2.grown hw4.out (HG3.out.2.size) (fun k e => by injection e with e; omega), .inr ⟨HPn.out, by rw [HZ.out]⟩⟩
      · by_cases hshort : ct = false ∧ vs.length + us.length < 8
        · have hp : put6 vs us ct = none := by unfold put6; rw [if_pos (.inr hshort)]
          have HPn := Lib.hid (hres.trans hp)
          obtain ⟨rfl, hsh⟩ := hshort
          have hneg : ¬ (8 : Int) - (vs.length : Int) - (us.length : Int) < 0 := by omega
          have hpos : 0 < (8 : Int) - (vs.length : Int) - (us.length : Int) := by omega
          clear hres hp
          go_wp2_with (first
            | (refine wpList_build_z rfl 48 #[] rfl Z ZB.out ?_; go_simp)
            | (refine wpList_store_blk rfl 48 (.tmp 2) (.tmp 51) rfl w.heap.size Z Z 48 HG31.out rfl rfl ZS.out rfl Z1.out ?_; intro w4 hg4 hw4 hz4; go_simp))
          exact bodyPost_ret (res_ct rfl _ w4 w.heap.size Z 48 (0, 0) (.bool false) rfl rfl hg4.out ZS.out) rfl ⟨HG3.out.2.grown hw4.out (HG3.out.2.size) (fun k e => by injection e with e; omega), .inr ⟨HPn.out, by rw [HZ.out]⟩⟩
        · obtain ⟨n, hn⟩ : ∃ n, n = 8 - vs.length - us.length := ⟨_, rfl⟩
          have hp : put6 vs us ct = some (ung (vs ++ List.replicate n 0 ++ us)) := by
            unfold put6
            rw [if_neg (by intro h; rcases h with h | h; exact hov h; exact hshort h), hn]
          have hn0 : (8 : Int) - (vs.length : Int) - (us.length : Int) = (n : Int) := by omega
          have hmk : ∀ W : World, (Instr.makeSlice 94 (.int .i64 ((8 : Int) - (vs.length : Int) - (us.length : Int))) (.int .i64 ((8 : Int) - (vs.length : Int) - (us.length : Int)))).run Tryz.prog W = .ok (.slice (some ⟨W.heap.size, 0, none⟩) n n) (W.alloc (.cells (madeCells #[.int .u64 0] n) 125)) := fun W => by
            rw [hn0]; exact mk_u64 n (by omega) W
          have hnn : ¬ (8 : Int) - (vs.length : Int) - (us.length : Int) < 0 := by omega
          have hguard : ct = true ∨ (ct = false ∧ ¬ 0 < (8 : Int) - (vs.length : Int) - (us.length : Int)) := by
            cases ct
            · right; refine ⟨rfl, fun h => hshort ⟨rfl, by omega⟩⟩
            · left; rfl
          have HPn := Lib.hid (hres.trans hp)
          have hl3 : upto [(A, vs), (some ⟨w3.heap.size, 0, none⟩, List.replicate n 0), (U, us)] 3 = vs ++ List.replicate n 0 ++ us := by simp [upto]
          have hlen8 : (vs ++ List.replicate n 0 ++ us).length = 8 := by rw [List.length_append, List.length_append, List.length_replicate]; omega
          have hlt6 : ∀ v ∈ vs ++ List.replicate n 0 ++ us, v < 65536 := fun v hv => by
            rcases List.mem_append.1 hv with hv | hv
            · rcases List.mem_append.1 hv with hv | hv
              · exact read16_lt HV.out v hv
              · rw [(List.mem_replicate.1 hv).2]; decide
            · exact read16_lt HV2.out v hv
          have hwz : Below w3.heap.size w3 (w3.alloc (.cells (madeCells #[.int .u64 0] n) 125)) := (Below.refl _ _).alloc (Nat.le_refl _) _
          have hcat : ∀ (W : World) (B : Nat), W.heap.size = B → Below w3.heap.size w3 W → Part W (some ⟨w3.heap.size, 0, none⟩) (List.replicate n 0) → ∀ c, Calls Tryz.prog 106 #[.slice (some ⟨B, 0, none⟩) 3 c] (W.alloc (.cells #[.slice A vs.length vs.length, .slice (some ⟨w3.heap.size, 0, none⟩) n n, .slice U us.length us.length] 94)) (CatPost (W.alloc (.cells #[.slice A vs.length vs.length, .slice (some ⟨w3.heap.size, 0, none⟩) n n, .slice U us.length us.length] 94)) (vs ++ List.replicate n 0 ++ us)) := fun W B hW hbW hz c => by
            subst hW
            have hbA : Below W.heap.size W (W.alloc (.cells #[.slice A vs.length vs.length, .slice (some ⟨w3.heap.size, 0, none⟩) n n, .slice U us.length us.length] 94)) := (Below.refl _ _).alloc (Nat.le_refl _) _
            have := concat_e W.heap.size c [(A, vs), (some ⟨w3.heap.size, 0, none⟩, List.replicate n 0), (U, us)] rfl (by rw [hl3]; exact hlen8) (W.alloc (.cells #[.slice A vs.length vs.length, .slice (some ⟨w3.heap.size, 0, none⟩) n n, .slice U us.length us.length] 94)) (Nat.lt_of_lt_of_eq (Nat.lt_succ_self _) (World.size_alloc ..).symm) (fun j hj => by
              rw [World.cell?_alloc_mark]
              match j, hj with
              | 0, _ => rfl
              | 1, _ =>
                show some (Value.slice _ n n) = some (Value.slice _ (List.replicate n 0).length (List.replicate n 0).length)
                rw [List.length_replicate]; rfl
              | 2, _ => rfl) (fun j hj => by
              match j, hj with
              | 0, _ => exact (HA3.out.below hbW).below hbA
              | 1, _ => exact hz.below hbA
              | 2, _ => exact (HU.out.below hbW).below hbA)
            rw [hl3] at this
            exact this
          have hjn := fun (g cap : Nat) (W : World) (h : U64s W g (vs ++ List.replicate n 0 ++ us)) => joined_e g cap _ hlen8 hlt6 W h
          have hS := sizeBv (l := ung (vs ++ List.replicate n 0 ++ us)) (by rw [ung_length, hlen8])
          have h1 := oneBv (ung (vs ++ List.replicate n 0 ++ us))
          have hul16 : (ung (vs ++ List.replicate n 0 ++ us)).length = 16 := by rw [ung_length, hlen8]
          have hZr : Z.size = (bvs (ung (vs ++ List.replicate n 0 ++ us))).toArray.size := by rw [ZN.out, List.size_toArray, bvs_length, hul16]
          have HCat := Lib.hid (hcat _ (w3.heap.size + 1) (World.size_alloc ..) hwz (part_zero w3 n))
          have HWZ := Lib.hid (HB3.out.trans (hwz.mono HB3.out.size))
          have HN := Lib.hid hn
          clear hcat hl3 hlt6 hp hres hn0 hn
          revert HCat
          generalize vs ++ List.replicate n 0 ++ us = all at hlen8 hjn hS h1 hul16 hZr HPn
          intro HCat
          have HJ := Lib.hid hjn
          have HS := Lib.hid hS
          have H1 := Lib.hid h1
          have HU16 := Lib.hid hul16
          have HZr := Lib.hid hZr
          have H8 := Lib.hid hlen8
          clear hjn hS h1 hul16 hZr hlen8 hwz
          rcases hguard with rfl | ⟨rfl, hng⟩
          all_goals
            go_wp2_with fail
            refine (HCat.out _).mono ?_
            rintro e w5 ⟨g5, cap5, rfl, hb5, hu5⟩
            have HB5 := Lib.hid (HWZ.out.trans (((Below.refl _ _).alloc (Nat.le_refl _) _ |>.trans (hb5.mono (Nat.le_of_lt (Nat.lt_of_lt_of_eq (Nat.lt_succ_self _) (World.size_alloc ..).symm)))).mono HWZ.out.size))
            have HU5 := Lib.hid hu5
            clear hb5 hu5
            rw [H8.out]
            go_wp2_with fail
            refine (HJ.out g5 _ _ HU5.out).mono ?_
            rintro e w6 ⟨rfl, hb6⟩
            have HB6 := Lib.hid (HB5.out.trans (hb6.mono HB5.out.size))
            have HG6 := Lib.hid (HG0.out w6 HB6.out)
            have HG61 := Lib.hid HG6.out.1
            clear hb6
            revert HS H1 HZr
            generalize hrr : (bvs (ung all)).toArray = r
            intro HS H1 HZr
            have HRR := Lib.hid hrr
            clear hrr
            go_wp2_with (first
              | (refine wpList_store_blk rfl 48 (.tmp 2) (.tmp 58) rfl w.heap.size Z r 48 HG61.out rfl rfl HS.out HZr.out H1.out ?_; intro w7 hg7 hw7 hz7; go_simp))
            exact bodyPost_ret (res_ct rfl _ w7 w.heap.size r 48 (0, 0) (.bool true) rfl rfl hg7.out HS.out) rfl ⟨HG6.out.2.grown hw7.out (HG6.out.2.size) (fun k e => by injection e with e; omega), .inl ⟨ung all, HPn.out, HU16.out, by rw [HRR.out]⟩⟩
    · have HV2 := Lib.hid (show read16 y = none from hv)
      clear hv
      have hres : r6 x y ct = none := by unfold r6; rw [HV.out, HV2.out]
      have HRn := Lib.hid hres
      have HG3 := Lib.hid (HG0.out w3 HB3.out)
      have HG31 := Lib.hid HG3.out.1
      clear hres
      go_wp2_with (first
        | (refine wpList_build_z rfl 48 #[] rfl Z ZB.out ?_; go_simp)
        | (refine wpList_store_blk rfl 48 (.tmp 2) (.tmp 34) rfl w.heap.size Z Z 48 HG31.out rfl rfl ZS.out rfl Z1.out ?_; intro w4 hg4 hw4 hz4; go_simp))
      exact bodyPost_ret (res_ct rfl _ w4 w.heap.size Z 48 (0, 0) (.bool false) rfl rfl hg4.out ZS.out) rfl ⟨HG3.out.2.grown hw4.out (HG3.out.2.size) (fun k e => by injection e with e; omega), .inr ⟨HRn.out, by rw [HZ.out]⟩⟩
  · have HV := Lib.hid (show read16 x = none from hv)
    clear hv
    have hres : r6 x y ct = none := by unfold r6; rw [HV.out]
    have HRn := Lib.hid hres
    clear hres
    go_wp2_with fail
    refine (HC2.out _ (HE.out.below HB2.out)).mono ?_
    rintro e w3 ⟨hb3, h⟩
    have HB3 := Lib.hid (HB2.out.trans (hb3.mono HB2.out.size))
    have HG3 := Lib.hid (HG0.out w3 HB3.out)
    have HG31 := Lib.hid HG3.out.1
    clear hb3
    rcases h with ⟨us, U, _, rfl, _⟩ | ⟨_, rfl⟩
    all_goals
      go_wp2_with (first
        | (refine wpList_build_z rfl 48 #[] rfl Z ZB.out ?_; go_simp)
        | (refine wpList_store_blk rfl 48 (.tmp 2) (.tmp 34) rfl w.heap.size Z Z 48 HG31.out rfl rfl ZS.out rfl Z1.out ?_; intro w4 hg4 hw4 hz4; go_simp))
      exact bodyPost_ret (res_ct rfl _ w4 w.heap.size Z 48 (0, 0) (.bool false) rfl rfl hg4.out ZS.out) rfl ⟨HG3.out.2.grown hw4.out (HG3.out.2.size) (fun k e => by injection e with e; omega), .inr ⟨HRn.out, by rw [HZ.out]⟩⟩
end Go.Proofs.YtpnlgojbmjfhhaaGreatDoor
namespace Go.Proofs.YtpnlgojbmjfhhaaGreatDoor
open Go.RowKit

theorem rdAll_small {xs : List (List UInt8)} {vs : List Nat} (h : rdAll 10 255 xs = some vs) : ∀ v ∈ vs, v < 256 := fun v hv => by have := rdAll_le h v hv; omega
theorem four_of {vs : List Nat} (h : vs.length = 4) : vs = [vs.getD 0 0, vs.getD 1 0, vs.getD 2 0, vs.getD 3 0] := by
  match vs, h with
  | [a, b, c, d], _ => rfl
theorem read4_none {s : List UInt8} {r : Option (List Nat)} (h : rdAll 10 255 (sp s) = r) (hn : ∀ vs, r = some vs → vs.length ≠ 4) : read4 s = none := by
  unfold read4
  rw [h]
  cases r with
  | none => rfl
  | some vs =>
    have := hn vs rfl
    match vs, this with
    | [], _ => rfl
    | [_], _ => rfl
    | [_, _], _ => rfl
    | [_, _, _], _ => rfl
    | [_, _, _, _], h => exact absurd rfl h
    | _ :: _ :: _ :: _ :: _ :: _, _ => rfl
theorem cast8 (v : Nat) (h : v < 256) : ((UInt8.ofNat v).toNat : Int) = (v : Int) := by rw [UInt8.toNat_ofNat']; omega
def quad (a b c d : Nat) : List UInt8 := four12 ++ [UInt8.ofNat a, UInt8.ofNat b, UInt8.ofNat c, UInt8.ofNat d]
theorem quad_len (a b c d : Nat) : (quad a b c d).length = 16 := rfl
theorem v4_n (a b c d : Nat) (ha : a < 256) (hb : b < 256) (hc : c < 256) (hd : d < 256) (W : World) :
    Calls Tryz.prog 20 #[.int .u8 a, .int .u8 b, .int .u8 c, .int .u8 d] W fun e w' => e = .returned (.agg (bvs (quad a b c d)).toArray) ∧ Below W.heap.size W w' := by
  have := v4_e (UInt8.ofNat a) (UInt8.ofNat b) (UInt8.ofNat c) (UInt8.ofNat d) W
  rw [cast8 a ha, cast8 b hb, cast8 c hc, cast8 d hd] at this
  exact this
theorem read4_some {s : List UInt8} {a b c d : Nat} (h : rdAll 10 255 (sp s) = some [a, b, c, d]) : read4 s = some (quad a b c d) := by
  unfold read4
  rw [h]; rfl
set_option maxRecDepth 100000 in
set_option maxHeartbeats 1000000 in
theorem read4_e (s : ByteArray) (w : World) (he : AEnv w) (hs : s.size ≤ 1000) :
    Calls Tryz.prog 84 #[.string s] w (Rd6Post (read4 s.data.toList) w) := by
  obtain ⟨Z, hZ⟩ : ∃ Z, Z = (bvs zero16).toArray := ⟨_, rfl⟩
  have zA : (Tryz.prog.info? 48).map (·.zero) = some (some (.agg Z)) := by rw [hZ]; exact zeroAddr
  have zB : Tryz.prog.built 48 [] = some Z := by rw [hZ]; exact builtNone
  have zS : (Tryz.prog.info? 48).map (·.size) = some Z.size := by rw [hZ]; exact sizeBv rfl
  have z1 : Z.all (·.oneCell') = true := by rw [hZ]; exact oneBv _
  have zn : Z.size = 16 := by rw [hZ]; rfl
  have hb0 : Below w.heap.size w (w.alloc (.cells Z 48)) := (Below.refl _ w).alloc (Nat.le_refl _) _
  have hsp := split_f s (w.alloc (.cells Z 48)) (he.below hb0).env (by omega)
  have hval := fun W B (hW : AEnv W) (hf : StrsF W B (pieces s)) => vals8 (pieces s) B W hW hf (by have := pieces_le s; omega) (fun x hx => by have := pieces_sz s x hx; omega)
  have hpd : (pieces s).map (·.data.toList) = sp s.data.toList := pieces_data s
  have hpl : (pieces s).length ≤ 1002 := by have := pieces_le s; omega
  obtain ⟨r4, hr4⟩ : ∃ r, r = read4 s.data.toList := ⟨_, rfl⟩
  rw [← hr4]
  obtain ⟨xs, hxs⟩ : ∃ xs, xs = pieces s := ⟨_, rfl⟩
  rw [← hxs] at hsp hval hpd hpl
  have hsp' : Calls Tryz.prog 56 #[.string s] (w.alloc (.cells Z 48)) fun e w' => e = .returned (.slice (some ⟨w.heap.size + 1, 0, none⟩) xs.length xs.length) ∧ Below (w.alloc (.cells Z 48)).heap.size (w.alloc (.cells Z 48)) w' ∧ StrsF w' (w.heap.size + 1) xs :=
    hsp.mono fun e w' ⟨h1, h2, h3⟩ => ⟨by rw [h1, World.size_alloc], h2, by rw [World.size_alloc] at h3; exact h3⟩
  clear hsp
  have hg0 : (w.alloc (.cells Z 48)).heap[w.heap.size]? = some (.cells Z 48 (0, 0)) := heap_alloc_last w _
  have hg1 : w.heap.size < (w.alloc (.cells Z 48)).heap.size := by rw [World.size_alloc]; omega
  have HG0 : Hid (∀ wr, Below (w.alloc (.cells Z 48)).heap.size (w.alloc (.cells Z 48)) wr → wr.heap[w.heap.size]? = some (.cells Z 48 (0, 0)) ∧ Below w.heap.size w wr) := Lib.hid fun wr hb => ⟨by rw [hb.block _ hg1]; exact hg0, hb0.trans (hb.mono hb0.size)⟩
  have hu := Tryz.underlying48
  have HE := Lib.hid (he.below hb0)
  have ZA := Lib.hid zA
  have ZB := Lib.hid zB
  have ZS := Lib.hid zS
  have Z1 := Lib.hid z1
  have ZN := Lib.hid zn
  have HZ := Lib.hid hZ
  have HV := Lib.hid hval
  have HPD := Lib.hid hpd
  have HR4 := Lib.hid hr4
  have HPL := Lib.hid hpl
  clear zA zB zS z1 zn hZ he hs hg0 hg1 hb0 hval hpd hr4 hxs hpl
  go_enter Tryz.func84, Tryz.ntmps84
  go_wp2_with (first
    | (refine wpList_alloc_z rfl 48 rfl Z ZA.out ?_; go_simp))
  refine hsp'.mono ?_
  rintro e w1 ⟨rfl, hb1, hs1⟩
  have HB1 := Lib.hid hb1
  have HS1 := Lib.hid hs1
  clear hb1 hs1 hsp'
  go_wp2_with fail
  refine (HV.out w1 (w.heap.size + 1) (HE.out.below HB1.out) HS1.out).mono ?_
  rintro e w2 ⟨hb2, h⟩
  have HB2 := Lib.hid (HB1.out.trans (hb2.mono HB1.out.size))
  have HG2 := Lib.hid (HG0.out w2 HB2.out)
  have HG21 := Lib.hid HG2.out.1
  clear hb2
  rcases h with ⟨vs, g, hv, hl, rfl, hu64⟩ | ⟨hv, rfl⟩
  · rw [HPD.out] at hv
    by_cases h4 : xs.length = 4
    · have hvl : vs.length = 4 := by omega
      obtain ⟨x0, x1, x2, x3, rfl⟩ : ∃ x0 x1 x2 x3, vs = [x0, x1, x2, x3] := ⟨_, _, _, _, four_of hvl⟩
      have hr : r4 = some (quad x0 x1 x2 x3) := by rw [HR4.out]; exact read4_some hv
      have c0 : w2.cell? ⟨g, 0, none⟩ = some (.int .u64 (x0 : Nat)) := hu64.cells 0 (by simp)
      have c1 : w2.cell? ⟨g, 1, none⟩ = some (.int .u64 (x1 : Nat)) := hu64.cells 1 (by simp)
      have c2 : w2.cell? ⟨g, 2, none⟩ = some (.int .u64 (x2 : Nat)) := hu64.cells 2 (by simp)
      have c3 : w2.cell? ⟨g, 3, none⟩ = some (.int .u64 (x3 : Nat)) := hu64.cells 3 (by simp)
      have hsm := rdAll_small hv
      have b0 : x0 < 256 := hsm _ (by simp)
      have b1 : x1 < 256 := hsm _ (by simp)
      have b2 : x2 < 256 := hsm _ (by simp)
      have b3 : x3 < 256 := hsm _ (by simp)
      have HC := Lib.hid (fun W => v4_n x0 x1 x2 x3 b0 b1 b2 b3 W)
      have hlt := hu64.lt
      have HR := Lib.hid hr
      have hsz : (Tryz.prog.info? 48).map (·.size) = some (bvs (quad x0 x1 x2 x3)).length := by rw [sizeAddr, bvs_length, quad_len]
      have hone := bvs_one (quad x0 x1 x2 x3)
      have hcl : (bvs (quad x0 x1 x2 x3)).length = 16 := by rw [bvs_length, quad_len]
      have hgne : g ≠ w.heap.size := fun e => by
        subst e
        rw [cell_of_row w2 _ _ _ _ _ HG21.out, HZ.out] at c0
        cases c0
      clear hr hsm hu64 hv hvl hl
      obtain ⟨cs, hcs⟩ : ∃ cs, cs = bvs (quad x0 x1 x2 x3) := ⟨_, rfl⟩
      rw [← hcs] at HC hsz hone hcl
      have HCS := Lib.hid hcs
      clear hcs
      rw [h4]
      clear h4
      have hth : w2.there w.heap.size 0 16 := fun j hj => by
        have hz : j < Z.size := by rw [ZN.out]; exact hj
        refine ⟨?_, ?_⟩
        · rw [Nat.zero_add, cell_of_row w2 _ _ _ _ _ HG21.out, Array.getElem?_eq_getElem hz]; rfl
        · unfold World.frozen?; rw [HG21.out]; simp
      have hq0 : IntKind.u8.wrap (x0 : Int) = (x0 : Int) := by rw [IntKind.wrap_u8]; omega
      have hq1 : IntKind.u8.wrap (x1 : Int) = (x1 : Int) := by rw [IntKind.wrap_u8]; omega
      have hq2 : IntKind.u8.wrap (x2 : Int) = (x2 : Int) := by rw [IntKind.wrap_u8]; omega
      have hq3 : IntKind.u8.wrap (x3 : Int) = (x3 : Int) := by rw [IntKind.wrap_u8]; omega
      clear hth hgne
      go_wp2_with fail
      go_still_tail 16, (by kernel_rfl)
      change wpList _ _ _ _ _ w2.drew
      have b23 : Below w2.heap.size w2 w2.drew := (Below.refl _ w2).drew
      obtain ⟨wd, hwd⟩ : ∃ wd, wd = w2.drew := ⟨_, rfl⟩
      have c0' : wd.cell? ⟨g, 0, none⟩ = some (.int .u64 (x0 : Nat)) := by rw [hwd]; exact c0
      have c1' : wd.cell? ⟨g, 1, none⟩ = some (.int .u64 (x1 : Nat)) := by rw [hwd]; exact c1
      have c2' : wd.cell? ⟨g, 2, none⟩ = some (.int .u64 (x2 : Nat)) := by rw [hwd]; exact c2
      have c3' : wd.cell? ⟨g, 3, none⟩ = some (.int .u64 (x3 : Nat)) := by rw [hwd]; exact c3
      rw [← hwd] at b23 ⊢
      have HBD := Lib.hid (HB2.out.trans (b23.mono HB2.out.size))
      clear hwd c0 c1 c2 c3 b23
      go_wp2_with fail
      refine (HC.out _).mono ?_
      rintro e w3 ⟨rfl, hb3⟩
      have HB3 := Lib.hid (HBD.out.trans (hb3.mono HBD.out.size))
      have HG3 := Lib.hid (HG0.out w3 HB3.out)
      have HG31 := Lib.hid HG3.out.1
      have hsz' : (Tryz.prog.info? 48).map (·.size) = some cs.toArray.size := by rw [hsz, List.size_toArray]
      have hone' : cs.toArray.all (·.oneCell') = true := by rw [List.all_toArray]; exact List.all_eq_true.2 hone
      have hzr : Z.size = cs.toArray.size := by rw [ZN.out, List.size_toArray, hcl]
      obtain ⟨ca, hca⟩ : ∃ ca, ca = cs.toArray := ⟨_, rfl⟩
      rw [← hca] at hsz' hone' hzr ⊢
      have HS := Lib.hid hsz'
      have H1 := Lib.hid hone'
      have HZR := Lib.hid hzr
      have HCA := Lib.hid hca
      clear hb3 hsz' hone' hzr hsz hone hcl hca c0' c1' c2' c3'
      go_wp2_with (first
        | (refine wpList_store_blk rfl 48 (.tmp 2) (.tmp 36) rfl w.heap.size Z ca 48 HG31.out rfl rfl HS.out HZR.out H1.out ?_; intro w4 hg4 hw4 hz4; go_simp))
      exact bodyPost_ret (res_ct rfl _ w4 w.heap.size ca 48 (0, 0) (.bool true) rfl rfl hg4.out HS.out) rfl ⟨HG3.out.2.grown hw4.out (HG3.out.2.size) (fun k e => by injection e with e; omega), .inl ⟨_, HR.out, quad_len .., by rw [HCA.out, HCS.out]⟩⟩
    · have hr : r4 = none := by
        rw [HR4.out]
        exact read4_none hv (fun us e => by injection e with e; subst e; omega)
      have HR := Lib.hid hr
      have h4' : ¬ (xs.length : Int) = 4 := by omega
      clear hr hv hu64
      go_wp2_with (first
        | (refine wpList_build_z rfl 48 #[] rfl Z ZB.out ?_; go_simp)
        | (refine wpList_store_blk rfl 48 (.tmp 2) (.tmp 19) rfl w.heap.size Z Z 48 HG21.out rfl rfl ZS.out rfl Z1.out ?_; intro w4 hg4 hw4 hz4; go_simp))
      exact bodyPost_ret (res_ct rfl _ w4 w.heap.size Z 48 (0, 0) (.bool false) rfl rfl hg4.out ZS.out) rfl ⟨HG2.out.2.grown hw4.out (HG2.out.2.size) (fun k e => by injection e with e; omega), .inr ⟨HR.out, by rw [HZ.out]⟩⟩
  · rw [HPD.out] at hv
    have hr : r4 = none := by
      rw [HR4.out]
      exact read4_none hv (fun us e => by cases e)
    have HR := Lib.hid hr
    clear hr hv
    go_wp2_with (first
      | (refine wpList_build_z rfl 48 #[] rfl Z ZB.out ?_; go_simp)
      | (refine wpList_store_blk rfl 48 (.tmp 2) (.tmp 19) rfl w.heap.size Z Z 48 HG21.out rfl rfl ZS.out rfl Z1.out ?_; intro w4 hg4 hw4 hz4; go_simp))
    exact bodyPost_ret (res_ct rfl _ w4 w.heap.size Z 48 (0, 0) (.bool false) rfl rfl hg4.out ZS.out) rfl ⟨HG2.out.2.grown hw4.out (HG2.out.2.size) (fun k e => by injection e with e; omega), .inr ⟨HR.out, by rw [HZ.out]⟩⟩
end Go.Proofs.YtpnlgojbmjfhhaaGreatDoor
namespace Go.Proofs.YtpnlgojbmjfhhaaGreatDoor
open Go.RowKit

section
variable {P : Program} {ops : Array Oper} {rest : List Oper} {o : Oper} {a : Act} {Q : Exit → Act → World → Prop}
/-- a whole value is loaded, under a guard that holds -/
theorem wpList_load_g {w : World} (ty : TypeId) (x : Operand) (hw : Region.wanted o (yielded ops a.tmps) = true) (ho : o.op = .load ty x) (g : Nat) (cs : Array Value) (t : TypeId) (fr : Nat × Nat)
    (hx : a.eval x = .pointer (some ⟨g, 0, none⟩)) (hg : w.heap[g]? = some (.cells cs t fr)) (n : Nat) (e : TypeId)
    (hu : P.underlying ty = some (.array n e)) (hi : (P.info? ty).map (·.size) = some cs.size)
    (h : wpList P ops Q rest (a.put o.dst (.agg cs)) w) : wpList P ops Q (o :: rest) a w := by
  unfold wpList
  rw [if_pos hw]
  left
  have hlv := run_load_agg (P := P) (w := w) ty ⟨g, 0, none⟩ cs (.array n e) (fun j v hj => by
    rw [Addr.add_lit, Nat.zero_add, cell_of_row w g j cs t fr hg]; simpa using hj) hu rfl hi
  unfold Oper.wp execOp
  simp only [ho, hx, Instr.loadAt, Instr.sureAddr, Sem.run_bind, Sem.run_pure, Result.andThen_ok, hlv]
  exact h
/-- a value is built of parts, under a guard that holds -/
theorem wpList_build_g {w : World} (t : TypeId) (parts : Array (Nat × Operand)) (hw : Region.wanted o (yielded ops a.tmps) = true) (ho : o.op = .build t parts) (cs : Array Value) (hf : P.built t (parts.toList.map fun (i, x) => (i, a.eval x)) = some cs)
    (h : wpList P ops Q rest (a.put o.dst (.agg cs)) w) : wpList P ops Q (o :: rest) a w := by
  have hf' : P.built t (parts.map fun (i, x) => (i, a.eval x)).toList = some cs := by rw [Array.toList_map]; exact hf
  unfold wpList
  rw [if_pos hw]
  exact .inl (wp_build t parts ho (by rw [hf']; rfl) (by rw [hf']; exact h))
theorem bytes_neq {y s : ByteArray} (h : ¬ y = s) : (y.toList == s.toList) = false := by
  rw [beq_eq_false_iff_ne, Lib.toList_data, Lib.toList_data]
  exact fun e => h (bytes_inj e)
end
/-- what Parse answers -/
def PaPost (s : ByteArray) (w : World) (e : Ending) (w' : World) : Prop :=
  Below w.heap.size w w' ∧ ((∃ a, parseA s.data.toList = some a ∧ a.length = 16 ∧ e = .returned (.tuple #[.agg (bvs a).toArray, .int .i64 0])) ∨ (parseA s.data.toList = none ∧ e = .returned (.tuple #[.agg (bvs zero16).toArray, .int .i64 5])))
theorem contains_iff (l : List UInt8) (c : UInt8) : decide (0 ≤ Lib.indexByte l c) = l.contains c := by
  induction l with
  | nil => rfl
  | cons b l ih =>
    have hge := Lib.indexByte_ge l c
    unfold Lib.indexByte
    by_cases h : b = c
    · subst h; simp
    · have h' : (b == c) = false := by simpa using h
      have h2 : (c == b) = false := by simpa using Ne.symm h
      rw [h', List.contains_cons, h2, Bool.false_or, ← ih]
      simp only [Bool.false_eq_true, if_false]
      by_cases h3 : Lib.indexByte l c = -1
      · rw [if_pos (by simpa using h3), h3]
      · rw [if_neg (by simpa using h3)]
        have : 0 ≤ Lib.indexByte l c := by omega
        rw [decide_eq_true this, decide_eq_true (by omega)]
set_option maxRecDepth 100000 in
set_option maxHeartbeats 1000000 in
theorem parse_e (s : ByteArray) (w : World) (he : AEnv w) (hs : s.size ≤ 1099511627776) :
    Calls Tryz.prog 66 #[.string s] w (PaPost s w) := by
  obtain ⟨Z, hZ⟩ : ∃ Z, Z = (bvs zero16).toArray := ⟨_, rfl⟩
  have zA : (Tryz.prog.info? 48).map (·.zero) = some (some (.agg Z)) := by rw [hZ]; exact zeroAddr
  have zB : Tryz.prog.built 48 [] = some Z := by rw [hZ]; exact builtNone
  have zS : (Tryz.prog.info? 48).map (·.size) = some Z.size := by rw [hZ]; exact sizeBv rfl
  have z1 : Z.all (·.oneCell') = true := by rw [hZ]; exact oneBv _
  have zn : Z.size = 16 := by rw [hZ]; rfl
  have hb0 : Below w.heap.size w (w.alloc (.cells Z 48)) := (Below.refl _ w).alloc (Nat.le_refl _) _
  have hg0 : (w.alloc (.cells Z 48)).heap[w.heap.size]? = some (.cells Z 48 (0, 0)) := heap_alloc_last w _
  have hg1 : w.heap.size < (w.alloc (.cells Z 48)).heap.size := by rw [World.size_alloc]; omega
  have HG0 : Hid (∀ wr, Below (w.alloc (.cells Z 48)).heap.size (w.alloc (.cells Z 48)) wr → wr.heap[w.heap.size]? = some (.cells Z 48 (0, 0)) ∧ Below w.heap.size w wr) := Lib.hid fun wr hb => ⟨by rw [hb.block _ hg1]; exact hg0, hb0.trans (hb.mono hb0.size)⟩
  have hu := Tryz.underlying48
  have HE := Lib.hid (he.below hb0)
  have ZA := Lib.hid zA
  have ZB := Lib.hid zB
  have ZS := Lib.hid zS
  have Z1 := Lib.hid z1
  have ZN := Lib.hid zn
  have HZ := Lib.hid hZ
  have HG00 := Lib.hid hg0
  by_cases hlen : 39 < s.size
  · have hp : parseA s.data.toList = none := by unfold parseA; rw [if_pos (by rw [← Lib.size_eq]; exact hlen)]
    have HP := Lib.hid hp
    have HB0 := Lib.hid hb0
    clear zA zB zS z1 zn hZ he hg0 hg1 hb0 hp
    go_enter Tryz.func66, Tryz.ntmps66
    go_wp2_with (first
      | (refine wpList_alloc_z rfl 48 rfl Z ZA.out ?_; go_simp)
      | (refine wpList_build_z rfl 48 #[] rfl Z ZB.out ?_; go_simp)
      | (refine wpList_store_blk rfl 48 (.tmp 2) (.tmp 10) rfl w.heap.size Z Z 48 HG00.out rfl rfl ZS.out rfl Z1.out ?_; intro w4 hg4 hw4 hz4; go_simp))
    exact bodyPost_ret (res_ct rfl _ w4 w.heap.size Z 48 (0, 0) (.int .i64 5) rfl rfl hg4.out ZS.out) rfl ⟨HB0.out.grown hw4.out HB0.out.size (fun k e => by injection e with e; omega), .inr ⟨HP.out, by rw [HZ.out]⟩⟩
  · have hcon := Tryz.strings_Contains_one s 58 (w.alloc (.cells Z 48))
    rw [contains_iff] at hcon
    have h4 := fun W (hW : AEnv W) => read4_e s W hW (by omega)
    have h6 := fun W (hW : AEnv W) => read6_e s W hW (by omega)
    have hrd : readA s.data.toList = if s.data.toList.contains 58 = true then read6 s.data.toList else read4 s.data.toList := rfl
    have hpa : parseA s.data.toList = match readA s.data.toList with | some a => if txt a = s.data.toList then some a else none | none => none := by
      unfold parseA
      rw [if_neg (by rw [← Lib.size_eq]; exact hlen)]
      rfl
    have H4 := Lib.hid h4
    have H6 := Lib.hid h6
    have HRD := Lib.hid hrd
    have HPA := Lib.hid hpa
    clear h4 h6 hrd hpa zA zB zS z1 zn hZ he hg0 hg1 hb0
    have HPR : Hid (∀ a, readA s.data.toList = some a → (txt a = s.data.toList → parseA s.data.toList = some a) ∧ (txt a ≠ s.data.toList → parseA s.data.toList = none)) := Lib.hid fun a ha => by
      rw [HPA.out, ha]
      exact ⟨fun h => if_pos h, fun h => if_neg h⟩
    have HPN : Hid (readA s.data.toList = none → parseA s.data.toList = none) := Lib.hid fun ha => by rw [HPA.out, ha]
    cases hc : s.data.toList.contains 58
    all_goals
      have HRA := Lib.hid HRD.out
      rw [hc] at hcon HRA
      clear hc
      go_enter Tryz.func66, Tryz.ntmps66
      go_wp2_with (first
        | (refine wpList_alloc_z rfl 48 rfl Z ZA.out ?_; go_simp)
        | (go_at_call 85; refine hcon.mono ?_; rintro e' w1 ⟨rfl, rfl⟩))
      have HCALL : Hid (Calls Tryz.prog 84 #[.string s] (w.alloc (.cells Z 48)) (Rd6Post (read4 s.data.toList) (w.alloc (.cells Z 48))) ∧ Calls Tryz.prog 86 #[.string s] (w.alloc (.cells Z 48)) (Rd6Post (read6 s.data.toList) (w.alloc (.cells Z 48)))) := Lib.hid ⟨H4.out _ HE.out, H6.out _ HE.out⟩
      first
        | refine HCALL.out.1.mono ?_
        | refine HCALL.out.2.mono ?_
      rintro e w1 ⟨hb1, h⟩
      have HB1 := Lib.hid hb1
      clear hb1
      rcases h with ⟨a, hr, hal, rfl⟩ | ⟨hr, rfl⟩
      · obtain ⟨r, hrr⟩ : ∃ r, r = (bvs a).toArray := ⟨_, rfl⟩
        have hS := sizeBv hal
        have h1 := oneBv a
        have hzr : Z.size = (bvs a).toArray.size := by rw [ZN.out, List.size_toArray, bvs_length, hal]
        have hprint := fun W (hW : AEnv W) => print_e a hal W hW
        have hpr := HPR.out a (by rw [HRA.out]; exact hr)
        simp only [← hrr] at hS h1 hzr hprint ⊢
        have HS := Lib.hid hS
        have H1 := Lib.hid h1
        have HZR := Lib.hid hzr
        have HPrint := Lib.hid hprint
        have HRR := Lib.hid hrr
        have HAL := Lib.hid hal
        have hb2 : Below (w.alloc (.cells Z 48)).heap.size (w.alloc (.cells Z 48)) (w1.alloc (.cells r 48)) := HB1.out.alloc HB1.out.size _
        have HB2 := Lib.hid hb2
        have HE2 := Lib.hid (HE.out.below hb2)
        clear hS h1 hzr hprint hrr hal hr hb2
        go_wp2_with (first
          | (refine wpList_alloc_z rfl 48 rfl Z ZA.out ?_; go_simp)
          | (refine wpList_store_new rfl 48 (.tmp 5) (.tmp 17) rfl w1.heap.size rfl Z r 48 rfl rfl HS.out HZR.out H1.out ?_; go_simp)
          | (refine wpList_load_g 48 (.tmp 5) rfl rfl w1.heap.size r 48 (0, 0) rfl (heap_alloc_last w1 _) 16 5 hu HS.out ?_; go_simp))
        refine (HPrint.out _ HE2.out).mono ?_
        rintro e w3 ⟨rfl, hb3⟩
        have HB3 := Lib.hid (HB2.out.trans (hb3.mono HB2.out.size))
        have HG3 := Lib.hid (HG0.out w3 HB3.out)
        have HG31 := Lib.hid HG3.out.1
        have hg5 : w3.heap[w1.heap.size]? = some (.cells r 48 (0, 0)) := by
          rw [hb3.block _ (Nat.lt_of_lt_of_eq (Nat.lt_succ_self _) (World.size_alloc ..).symm)]; exact heap_alloc_last w1 _
        have HG5 := Lib.hid hg5
        clear hb3 hg5
        by_cases htx : tb (txt a) = s
        · have hp := hpr.1 (by rw [← htx]; rfl)
          have HP := Lib.hid hp
          rw [htx]
          clear hp hpr htx
          go_wp2_with (first
            | (refine wpList_load_row rfl 48 (.tmp 5) rfl w1.heap.size rfl 48 r (0, 0) _ HG5.out hu rfl HS.out ?_; go_simp)
            | (refine wpList_store_blk rfl 48 (.tmp 2) (.tmp 28) rfl w.heap.size Z r 48 HG31.out rfl rfl HS.out HZR.out H1.out ?_; intro w4 hg4 hw4 hz4; go_simp))
          exact bodyPost_ret (res_ct rfl _ w4 w.heap.size r 48 (0, 0) (.int .i64 0) rfl rfl hg4.out HS.out) rfl ⟨HG3.out.2.grown hw4.out (HG3.out.2.size) (fun k e => by injection e with e; omega), .inl ⟨a, HP.out, HAL.out, by rw [HRR.out]⟩⟩
        · have hp := hpr.2 (fun e => htx (bytes_inj (by rw [tb_data]; exact e)))
          have HP := Lib.hid hp
          have hne := bytes_neq htx
          clear hp hpr
          generalize tb (txt a) = tx at htx hne
          go_wp2_with (first
            | (refine wpList_build_z rfl 48 #[] rfl Z ZB.out ?_; go_simp)
            | (refine wpList_store_blk rfl 48 (.tmp 2) (.tmp 27) rfl w.heap.size Z Z 48 HG31.out rfl rfl ZS.out rfl Z1.out ?_; intro w4 hg4 hw4 hz4; go_simp))
          exact bodyPost_ret (res_ct rfl _ w4 w.heap.size Z 48 (0, 0) (.int .i64 5) rfl rfl hg4.out ZS.out) rfl ⟨HG3.out.2.grown hw4.out (HG3.out.2.size) (fun k e => by injection e with e; omega), .inr ⟨HP.out, by rw [HZ.out]⟩⟩
      · have hpn := HPN.out (by rw [HRA.out]; exact hr)
        rw [← HZ.out]
        have HPn := Lib.hid hpn
        have hb2 : Below (w.alloc (.cells Z 48)).heap.size (w.alloc (.cells Z 48)) (w1.alloc (.cells Z 48)) := HB1.out.alloc HB1.out.size _
        have HG2 := Lib.hid (HG0.out _ hb2)
        have HG21 := Lib.hid HG2.out.1
        clear hpn hr hb2
        go_wp2_with (first
          | (refine wpList_alloc_z rfl 48 rfl Z ZA.out ?_; go_simp)
          | (refine wpList_store_new rfl 48 (.tmp 5) (.tmp 17) rfl w1.heap.size rfl Z Z 48 rfl rfl ZS.out rfl Z1.out ?_; go_simp)
          | (refine wpList_build_z rfl 48 #[] rfl Z ZB.out ?_; go_simp)
          | (refine wpList_store_blk rfl 48 (.tmp 2) (.tmp 27) rfl w.heap.size Z Z 48 HG21.out rfl rfl ZS.out rfl Z1.out ?_; intro w4 hg4 hw4 hz4; go_simp))
        exact bodyPost_ret (res_ct rfl _ w4 w.heap.size Z 48 (0, 0) (.int .i64 5) rfl rfl hg4.out ZS.out) rfl ⟨HG2.out.2.grown hw4.out (HG2.out.2.size) (fun k e => by injection e with e; omega), .inr ⟨HPn.out, by rw [HZ.out]⟩⟩
end Go.Proofs.YtpnlgojbmjfhhaaGreatDoor
