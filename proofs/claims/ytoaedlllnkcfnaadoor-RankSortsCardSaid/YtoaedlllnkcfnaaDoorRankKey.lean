/-
  The walk of rank.Key: local addresses that lie in memory. Condition: the two tables hold what their initialisers lay.
-/
import Derived.Test.YtoaedlllnkcfnaaDoorRankSrc
namespace Go.Proofs.YtoaedlllnkcfnaaDoor
open Go.RowKit

/-- a world since w4: all blocks as they were, but block g, of eight cells -/
structure KS (w4 : World) (g : Nat) (W : World) : Prop where
  grown : w4.grownBy W (some g)
  row : ∃ c, W.heap[g]? = some (.cells c 38 (0, 0)) ∧ c.size = 8
theorem gtrans {a b c : World} {row : Option Nat} (h : a.grownBy b row) (k : b.grownBy c row) : a.grownBy c row :=
  ⟨k.os.trans h.os, k.tape.trans h.tape, k.output.trans h.output, Nat.le_trans h.size k.size, fun i hi hne => (k.block i (Nat.lt_of_lt_of_le hi h.size) hne).trans (h.block i hi hne)⟩
theorem KS.below {w4 W W' : World} {g : Nat} (h : KS w4 g W) (hb : Below W.heap.size W W') : KS w4 g W' :=
  ⟨gtrans h.grown ⟨hb.os, hb.tape, hb.output, hb.size, fun i hi _ => hb.block i hi⟩, by
    obtain ⟨c, hc, hz⟩ := h.row
    exact ⟨c, (hb.block g (heap_lt hc)).trans hc, hz⟩⟩
theorem KS.set {w4 W : World} {g : Nat} (h : KS w4 g W) {c r : Array Value} (hc : W.heap[g]? = some (.cells c 38 (0, 0))) (hr : r.size = 8) : KS w4 g (W.setRow g r) :=
  ⟨gtrans h.grown ⟨rfl, rfl, rfl, by simp, fun k _ hk => setRow_other W g k r (fun e => hk (by rw [e]))⟩, r, setRow_heap W g c r _ _ hc, hr⟩
theorem KS.drew {w4 W : World} {g : Nat} (h : KS w4 g W) : KS w4 g W.drew := h.below ((Below.refl _ W).drew)
theorem KS.cell {w4 W : World} {g : Nat} (h : KS w4 g W) {p : Addr} (hp : p.block < w4.heap.size) (hne : p.block ≠ g) : W.cell? p = w4.cell? p :=
  World.cell?_of_block (h.grown.block p.block hp (fun e => hne (Option.some.inj e)))
theorem REnv.but {w w' : World} {g : Nat} (h : REnv w) (hb : KS w g w') (hg : 0 ≠ g ∧ 1 ≠ g) : REnv w' :=
  ⟨fun j v hj => (hb.cell (cell_lt (h.pol j v hj)) (by rw [Addr.add_lit]; exact hg.1)).trans (h.pol j v hj), fun j v hj => (hb.cell (cell_lt (h.reg j v hj)) (by rw [Addr.add_lit]; exact hg.2)).trans (h.reg j v hj)⟩
theorem KS.to {w4 W : World} {g B : Nat} (h : KS w4 g W) (hB : B ≤ g) (hz : B ≤ w4.heap.size) : Below B w4 W := (Below.refl B w4).grown h.grown hz (fun k hk => by cases hk; exact hB)
theorem beq_dec (a b : Nat) : ((a : Int) == (b : Int)) = decide (a = b) := by
  rw [Bool.eq_iff_iff, beq_iff_eq, decide_eq_true_iff]; omega
def b2i (b : Bool) : Int := if b = true then 1 else 0
theorem number_b (b : Bool) (w : World) : Calls Tryd.prog 27 #[.bool b] w fun e w' => e = .returned (.int .i64 (b2i b)) ∧ Below w.heap.size w w' := number_e b w
/-- a key -/
def keyA (ls : List LV) (t : List UInt8) : List Int :=
  match srcA ls t with
  | none => [0, 0, 0, 0, 0, PP t, -(scopeR t : Int), 0]
  | some s => [1, b2i (decide (scopeR s.addr = scopeR t)), b2i (!s.dep), b2i s.home, b2i (decide (PL s.addr = PL t)), PP t, -(scopeR t : Int), sh s.addr t]
theorem keyA_len (ls : List LV) (t : List UInt8) : (keyA ls t).length = 8 := by
  unfold keyA; split <;> rfl
def key8 (l : List Int) : Array Value := (l.map (Value.int .i64)).toArray
theorem scopeFrom_le (a : List UInt8) : ∀ g k, scopeFrom a k g ≤ 14
  | 0, k => Nat.le_refl _
  | g + 1, k => by
    rw [scopeFrom]
    split
    · have : ∀ k, (sRow k).scope ≤ 14 := fun k => by
        unfold sRow
        rcases Nat.lt_or_ge k 5 with h | h
        · match k, h with
          | 0, _ | 1, _ | 2, _ | 3, _ | 4, _ => decide
        · rw [List.getD_eq_getElem?_getD, List.getElem?_eq_none (by exact h)]; decide
      exact this k
    · exact scopeFrom_le a g (k + 1)
theorem scopeR_le (a : List UInt8) : scopeR a ≤ 15 := by
  unfold scopeR
  split
  · omega
  · have := scopeFrom_le a 5 0; omega
theorem srcA_len {ls : List LV} {t : List UInt8} (hls : ∀ x ∈ ls, x.addr.length = 16) : ∀ y, srcA ls t = some y → y.addr.length = 16 := by
  unfold srcA
  have : ∀ (l : List LV) (s : Option LV), (∀ x ∈ l, x.addr.length = 16) → (∀ y, s = some y → y.addr.length = 16) → ∀ y, l.foldl (srcStep t) s = some y → y.addr.length = 16 := fun l => by
    induction l with
    | nil => intro s _ hs; exact hs
    | cons x l ih => intro s hl hs; exact ih _ (fun y hy => hl y (List.mem_cons_of_mem _ hy)) (srcStep_len hs (hl x List.mem_cons_self))
  exact this ls none hls (fun y h => by cases h)
theorem kZeroAt : (Tryd.prog.info? 38).map (·.zero) = some (some (.agg (key8 [0, 0, 0, 0, 0, 0, 0, 0]))) := by kernel_rfl
theorem kSizeAt (a b c d e f g h : Int) : (Tryd.prog.info? 38).map (·.size) = some (key8 [a, b, c, d, e, f, g, h]).size := by
  show _ = some 8; kernel_rfl
theorem kOne (l : List Int) : (key8 l).all (·.oneCell') = true := by
  unfold key8
  rw [List.all_toArray]
  refine List.all_eq_true.2 fun v hv => ?_
  obtain ⟨c, _, rfl⟩ := List.mem_map.1 hv
  rfl
set_option maxRecDepth 100000 in
set_option maxHeartbeats 4000000 in
theorem key_e (ls : List LV) (hls : ∀ x ∈ ls, x.addr.length = 16) (A : Option Addr) (cap : Nat) (t0 : List UInt8) (ht : t0.length = 16) (hn : ls.length < 1000000) (w : World) (he : REnv w) (hA : LocsAt w A ls) :
    Calls Tryd.prog 16 #[.slice A ls.length cap, .agg (bvs t0).toArray] w fun e w' => e = .returned (.agg (key8 (keyA ls t0))) ∧ Below w.heap.size w w' := by
  have hSt := sizeBv ht
  rw [List.size_toArray] at hSt
  have hu := Tryd.underlying27
  have cP := fun W (hW : REnv W) => policy_e t0 ht W hW
  have cS := fun W (hW : REnv W) => scope_e t0 ht W hW
  have cSrc := fun W (hW : REnv W) (hAW : LocsAt W A ls) => source_e ls hls A cap t0 ht hn W hW hAW
  have hZL := lZeroAt
  have hZ8 := kZeroAt
  have hz8s : (key8 [0, 0, 0, 0, 0, 0, 0, 0]).size = 8 := rfl
  have hks : keyA ls t0 = match srcA ls t0 with
    | none => [0, 0, 0, 0, 0, PP t0, -(scopeR t0 : Int), 0]
    | some s => [1, b2i (decide (scopeR s.addr = scopeR t0)), b2i (!s.dep), b2i s.home, b2i (decide (PL s.addr = PL t0)), PP t0, -(scopeR t0 : Int), sh s.addr t0] := rfl
  have hst15 := scopeR_le t0
  have hgp : 0 < w.heap.size := cell_lt (he.pol 0 (.int .u8 0) rfl)
  have hgr : 1 < w.heap.size := cell_lt (he.reg 0 (.int .u8 254) rfl)
  have HGP := Lib.hid (And.intro hgp hgr)
  clear hgp hgr
  change ∀ W, REnv W → Calls _ _ _ _ (fun e w' => e = .returned (.tuple #[.int .i64 (PP t0), .int .i64 (PL t0)]) ∧ _) at cP
  have hlen := srcA_len (t := t0) hls
  have cLab := fun (y : LV) (hy : y.addr.length = 16) W (hW : REnv W) => labelled_e y.addr t0 hy ht W hW
  have cSh := fun (y : LV) (hy : y.addr.length = 16) W => shared_e y.addr t0 hy ht W
  obtain ⟨t, htl⟩ : ∃ tl, tl = bvs t0 := ⟨_, rfl⟩
  rw [← htl] at hSt cP cS cSrc ⊢
  simp only [← htl] at cLab cSh
  generalize keyA ls t0 = kk at *
  generalize PP t0 = pp at *
  generalize hstd : scopeR t0 = st at *
  generalize PL t0 = pl at *
  generalize srcA ls t0 = sr at *
  obtain ⟨Z, hZd⟩ : ∃ Z, Z = lvZero.cells.toArray := ⟨_, rfl⟩
  have hZ1 : lvZero.cells.toArray.size = 18 := by rw [List.size_toArray]; exact LV.size rfl
  rw [← hZd] at hZL hZ1
  generalize key8 [0, 0, 0, 0, 0, 0, 0, 0] = Z8 at *
  obtain ⟨w2, hw2⟩ : ∃ w2, w2 = (w.alloc (.cells t.toArray 27)).alloc (.cells Z8 38) := ⟨_, rfl⟩
  have z2 : w2.heap.size = w.heap.size + 2 := by rw [hw2, World.size_alloc, World.size_alloc]
  have b1 : w2.heap[w.heap.size]? = some (.cells t.toArray 27 (0, 0)) := by rw [hw2]; exact heap_alloc2_old _ _ _
  have b2 : w2.heap[w.heap.size + 1]? = some (.cells Z8 38 (0, 0)) := by rw [hw2]; exact heap_alloc2_new _ _ _
  have hb2 : Below w.heap.size w w2 := by rw [hw2]; exact ((Below.refl _ w).alloc (Nat.le_refl _) _).alloc (by rw [World.size_alloc]; omega) _
  have hwneg : IntKind.i64.wrap (-(st : Int)) = -(st : Int) := by rw [IntKind.wrap_i64]; omega
  have B1 := Lib.hid b1
  have B2 := Lib.hid b2
  have HB2 := Lib.hid hb2
  have HE2 := Lib.hid (he.below hb2)
  have HA2 := Lib.hid (hA.below hb2)
  have Z2 := Lib.hid z2
  have CP := Lib.hid cP
  have CS := Lib.hid cS
  have CSrc := Lib.hid cSrc
  have HZL := Lib.hid hZL
  have HZ8 := Lib.hid hZ8
  have HZ1 := Lib.hid hZ1
  have HZ8s := Lib.hid hz8s
  have HK := Lib.hid hks
  have HLen := Lib.hid hlen
  have CLab := Lib.hid cLab
  have CSh := Lib.hid cSh
  have HSt := Lib.hid hSt
  have HStd := Lib.hid hstd
  have HW2 := Lib.hid hw2
  clear hw2
  clear b1 b2 hb2 he hA z2 cP cS cSrc hZL hZ8 hZ1 hz8s hks hlen cLab cSh hls htl hZd ht hstd
  go_enter Tryd.func16, Tryd.ntmps16
  go_wp2_with (first
    | (refine wpList_alloc_z rfl 38 rfl Z8 HZ8.out ?_; go_simp)
    | (rw [← HW2.out]; refine wpList_load_row rfl 27 (.tmp 3) rfl w.heap.size rfl 27 t.toArray (0, 0) _ B1.out Tryd.underlying27 rfl HSt.out ?_; go_simp))
  clear HW2
  refine (CP.out _ HE2.out).mono ?_
  rintro e w3 ⟨rfl, hb3⟩
  have hz2 := Z2.out
  have x1 := (hb3.block w.heap.size (by omega)).trans B1.out
  have x2 := (hb3.block (w.heap.size + 1) (by omega)).trans B2.out
  have C1 := Lib.hid x1
  have C2 := Lib.hid x2
  have HB3 := Lib.hid (HB2.out.trans (hb3.mono HB2.out.size))
  have HE3 := Lib.hid (HE2.out.below hb3)
  have HA3 := Lib.hid (HA2.out.below hb3)
  have Z3 := Lib.hid (show w.heap.size + 2 ≤ w3.heap.size by have := hb3.size; omega)
  clear x1 x2 hb3 hz2 B1 B2 HB2 HE2 HA2 Z2
  go_wp2_with (first
    | (refine wpList_load_row rfl 27 (.tmp 3) rfl w.heap.size rfl 27 t.toArray (0, 0) _ C1.out Tryd.underlying27 rfl HSt.out ?_; go_simp))
  refine (CS.out _ HE3.out).mono ?_
  rintro e w4 ⟨rfl, hb3⟩
  have hz2 := Z3.out
  have x1 := (hb3.block w.heap.size (by omega)).trans C1.out
  have x2 := (hb3.block (w.heap.size + 1) (by omega)).trans C2.out
  have D1 := Lib.hid x1
  have D2 := Lib.hid x2
  have HB4 := Lib.hid (HB3.out.trans (hb3.mono HB3.out.size))
  have HE4 := Lib.hid (HE3.out.below hb3)
  have HA4 := Lib.hid (HA3.out.below hb3)
  have Z4 := Lib.hid (show w.heap.size + 2 ≤ w4.heap.size by have := hb3.size; omega)
  clear x1 x2 hb3 hz2 C1 C2 HB3 HE3 HA3 Z3
  go_wp2_with (first
    | (refine wpList_load_row rfl 27 (.tmp 3) rfl w.heap.size rfl 27 t.toArray (0, 0) _ D1.out Tryd.underlying27 rfl HSt.out ?_; go_simp))
  refine (CSrc.out _ HE4.out HA4.out).mono ?_
  rintro e w5 ⟨rfl, hb3⟩
  have hz2 := Z4.out
  have x1 := (hb3.block w.heap.size (by omega)).trans D1.out
  have x2 := (hb3.block (w.heap.size + 1) (by omega)).trans D2.out
  have hb5 := HB4.out.trans (hb3.mono HB4.out.size)
  have he5 := HE4.out.below hb3
  have hz5 : w.heap.size + 2 ≤ w5.heap.size := by have := hb3.size; omega
  clear hb3 hz2 D1 D2 HB4 HE4 HA4 Z4
  have hrl : (sr.getD lvZero).addr.length = 16 := by
    cases sr with
    | none => rfl
    | some y => exact HLen.out y rfl
  have hrs := lSize hrl
  have hro := LV.one (sr.getD lvZero)
  have hrz : Z.size = (sr.getD lvZero).cells.toArray.size := by rw [HZ1.out, List.size_toArray, LV.size hrl]
  obtain ⟨rc, hrc⟩ : ∃ rc, rc = (sr.getD lvZero).cells.toArray := ⟨_, rfl⟩
  obtain ⟨fb, hfb⟩ : ∃ fb, fb = sr.isSome := ⟨_, rfl⟩
  rw [← hrc] at hrs hro hrz ⊢
  rw [← hfb]
  obtain ⟨w6, hw6⟩ : ∃ w6, w6 = w5.alloc (.cells rc 42) := ⟨_, rfl⟩
  obtain ⟨G, hG⟩ : ∃ G, G = w5.heap.size := ⟨_, rfl⟩
  have z6 : w6.heap.size = G + 1 := by rw [hw6, World.size_alloc, hG]
  have y1 : w6.heap[w.heap.size]? = some (.cells t.toArray 27 (0, 0)) := by rw [hw6, heap_alloc_old' _ _ (by omega)]; exact x1
  have y2 : w6.heap[w.heap.size + 1]? = some (.cells Z8 38 (0, 0)) := by rw [hw6, heap_alloc_old' _ _ (by omega)]; exact x2
  have y3 : w6.heap[G]? = some (.cells rc 42 (0, 0)) := by rw [hw6, hG]; exact heap_alloc_last _ _
  have hb6 : Below w.heap.size w w6 := by rw [hw6]; exact hb5.alloc hb5.size _
  have he6 : REnv w6 := he5.below (by rw [hw6]; exact (Below.refl _ w5).alloc (Nat.le_refl _) _)
  have hG2 : w.heap.size + 1 < G := by omega
  have Y1 := Lib.hid y1
  have Y2 := Lib.hid y2
  have Y3 := Lib.hid y3
  have HB6 := Lib.hid hb6
  have HE6 := Lib.hid he6
  have Z6 := Lib.hid z6
  have HRs := Lib.hid hrs
  have HRo := Lib.hid hro
  have HRz := Lib.hid hrz
  have HFb := Lib.hid hfb
  have HRc := Lib.hid hrc
  have HRl := Lib.hid hrl
  have HG2 := Lib.hid hG2
  have HW6 := Lib.hid hw6
  have HG6 := Lib.hid hG
  clear hw6 hG
  clear x1 x2 hb5 he5 hz5 hrs hro hrz y1 y2 y3 hb6 he6 z6 hfb hrc hrl hG2
  cases sr with
  | none =>
    obtain rfl : fb = false := HFb.out
    have hk := HK.out
    simp only at hk
    have hbz : (Tryd.prog.info? 38).map (·.size) = some (#[.int .i64 0, .int .i64 0, .int .i64 0, .int .i64 0, .int .i64 0, .int .i64 pp, .int .i64 (-(st : Int)), .int .i64 0] : Array Value).size := by kernel_rfl
    have hbo : (#[.int .i64 0, .int .i64 0, .int .i64 0, .int .i64 0, .int .i64 0, .int .i64 pp, .int .i64 (-(st : Int)), .int .i64 0] : Array Value).all (·.oneCell') = true := by simp [Value.oneCell']
    have hbs : Z8.size = (#[.int .i64 0, .int .i64 0, .int .i64 0, .int .i64 0, .int .i64 0, .int .i64 pp, .int .i64 (-(st : Int)), .int .i64 0] : Array Value).size := by rw [HZ8s.out]; rfl
    have HBz := Lib.hid hbz
    have HBo := Lib.hid hbo
    have HBs := Lib.hid hbs
    have HKK := Lib.hid hk
    clear hbz hbo hbs hk
    go_wp2_with (first
      | (refine wpList_alloc_z rfl 42 rfl Z HZL.out ?_; go_simp)
      | (refine wpList_store_new rfl 42 (.tmp 8) (.tmp 21) rfl w5.heap.size rfl Z rc 42 rfl rfl HRs.out HRz.out HRo.out ?_; go_simp)
      | (rw [← HW6.out]; refine wpList_store_blk rfl 38 (.tmp 4) (.tmp 28) rfl (w.heap.size + 1) Z8 #[.int .i64 0, .int .i64 0, .int .i64 0, .int .i64 0, .int .i64 0, .int .i64 pp, .int .i64 (-(st : Int)), .int .i64 0] 38 Y2.out rfl rfl HBz.out HBs.out HBo.out ?_; intro w7 h7 hg7 hz7; go_simp))
    refine bodyPost_ret (results_cell_row rfl _ _ (w.heap.size + 1) 38 #[.int .i64 0, .int .i64 0, .int .i64 0, .int .i64 0, .int .i64 0, .int .i64 pp, .int .i64 (-(st : Int)), .int .i64 0] (0, 0) _ rfl h7.out Tryd.underlying38 rfl HBz.out) rfl ⟨by rw [HKK.out]; rfl, HB6.out.grown hg7.out (by have := HB6.out.size; omega) (fun j hj => by cases hj; omega)⟩
  | some y =>
    obtain rfl : fb = true := HFb.out
    have hk := HK.out
    simp only at hk
    have hyl := HLen.out y rfl
    have hSx := sizeBv hyl
    rw [List.size_toArray] at hSx
    obtain ⟨hx1, hx2, hx3⟩ := LV.has hyl
    have hrc2 : rc = y.cells.toArray := HRc.out
    have RX := Lib.hid (fun (W : World) (hb : KS w6 (w.heap.size + 1) W) => (fun j v hj => by rw [Nat.zero_add, hb.cell (p := ⟨G, j, none⟩) (by show G < _; have := Z6.out; omega) (by show G ≠ _; have := HG2.out; omega), cell_of_row _ _ _ _ _ _ Y3.out, hrc2, List.getElem?_toArray]; exact hx1 j v hj : W.rangeAt G 0 (bvs y.addr)))
    have RT := Lib.hid (fun (W : World) (hb : KS w6 (w.heap.size + 1) W) => (fun j v hj => by rw [Nat.zero_add, hb.cell (p := ⟨w.heap.size, j, none⟩) (by show w.heap.size < _; have := Z6.out; have := HG2.out; omega) (by show w.heap.size ≠ _; omega), cell_of_row _ _ _ _ _ _ Y1.out, List.getElem?_toArray]; exact hj : W.rangeAt w.heap.size 0 t))
    have DX := Lib.hid (fun (W : World) (hb : KS w6 (w.heap.size + 1) W) => (by rw [hb.cell (p := ⟨G, 16, none⟩) (by show G < _; have := Z6.out; omega) (by show G ≠ _; have := HG2.out; omega), cell_of_row _ _ _ _ _ _ Y3.out, hrc2, List.getElem?_toArray]; exact hx2 : W.cell? ⟨G, 16, none⟩ = some (.bool y.dep)))
    have HX := Lib.hid (fun (W : World) (hb : KS w6 (w.heap.size + 1) W) => (by rw [hb.cell (p := ⟨G, 17, none⟩) (by show G < _; have := Z6.out; omega) (by show G ≠ _; have := HG2.out; omega), cell_of_row _ _ _ _ _ _ Y3.out, hrc2, List.getElem?_toArray]; exact hx3 : W.cell? ⟨G, 17, none⟩ = some (.bool y.home)))
    have hE := fun (W : World) (hb : KS w6 (w.heap.size + 1) W) => (HE6.out.but hb ⟨by have := HGP.out.1; omega, by have := HGP.out.2; omega⟩ : REnv W)
    have SX := Lib.hid (fun (W : World) (hb : KS w6 (w.heap.size + 1) W) => scope_e y.addr hyl W (hE W hb))
    have LX := Lib.hid (fun (W : World) (hb : KS w6 (w.heap.size + 1) W) => CLab.out y hyl W (hE W hb))
    have SH := Lib.hid (fun (W : World) => CSh.out y hyl W)
    have h0 : KS w6 (w.heap.size + 1) w6 := ⟨⟨rfl, rfl, rfl, Nat.le_refl _, fun _ _ _ => rfl⟩, Z8, Y2.out, HZ8s.out⟩
    generalize scopeR y.addr = sx at *
    generalize decide (PL y.addr = pl) = lb at *
    generalize sh y.addr t0 = sh0 at *
    generalize y.dep = xd at *
    generalize y.home = xh at *
    generalize bvs y.addr = x at *
    have HR8s := Lib.hid (show (Tryd.prog.info? 38).map (·.size) = some (#[.int .i64 1, .int .i64 (b2i (decide (sx = st))), .int .i64 (b2i (!xd)), .int .i64 (b2i xh), .int .i64 (b2i lb), .int .i64 pp, .int .i64 (-(st : Int)), .int .i64 sh0] : Array Value).size by kernel_rfl)
    have HR8o := Lib.hid (show (#[.int .i64 1, .int .i64 (b2i (decide (sx = st))), .int .i64 (b2i (!xd)), .int .i64 (b2i xh), .int .i64 (b2i lb), .int .i64 pp, .int .i64 (-(st : Int)), .int .i64 sh0] : Array Value).all (·.oneCell') = true by simp [Value.oneCell'])
    have HR8z := Lib.hid (show (#[.int .i64 1, .int .i64 (b2i (decide (sx = st))), .int .i64 (b2i (!xd)), .int .i64 (b2i xh), .int .i64 (b2i lb), .int .i64 pp, .int .i64 (-(st : Int)), .int .i64 sh0] : Array Value).size = 8 from rfl)
    have HKK := Lib.hid hk
    clear hk hyl hx1 hx2 hx3 hrc2 hE
    have hSt := HSt.out
    go_wp2_with (first
      | (refine wpList_alloc_z rfl 42 rfl Z HZL.out ?_; go_simp)
      | (refine wpList_store_new rfl 42 (.tmp 8) (.tmp 21) rfl w5.heap.size rfl Z rc 42 rfl rfl HRs.out HRz.out HRo.out ?_; go_simp))
    rw [← HW6.out, ← HG6.out]
    clear HW6 HG6
    refine wp_region_held_drew (S := (fun W : World => KS w6 (w.heap.size + 1) W)) (by kernel_rfl) h0.drew (fun hHeld => ?_)
    refine wpAnyH_take (i := 0) (oi := ({ dst := some 29, op := Go.Op.fieldAddr 42 (Go.Operand.tmp 8) 0, type := 0, pos := "rank.go:143", after := #[], guard := none } : Oper)) (v := .pointer (some ⟨G, 0, none⟩)) rfl (by kernel_rfl) (by kernel_rfl) (by kernel_rfl) (fun _ _ _ h => h) (Or.inl ⟨by rfl, fun w' _ => ?_⟩) hHeld ?_
    · go_simp
    simp only [Act.put, List.setIfInBounds_toArray, List.set_cons_zero, List.set_cons_succ]
    refine wpAnyH_take (i := 1) (oi := ({ dst := some 30, op := Go.Op.load 27 (Go.Operand.tmp 29), type := 27, pos := "rank.go:143", after := #[{ on := 0, ground := Go.Ground.data }], guard := none } : Oper)) (v := .agg (x).toArray) rfl (by kernel_rfl) (by kernel_rfl) (by kernel_rfl) (fun _ _ _ h => h) (yieldsIf_load_mid (by rfl) _ _ rfl _ _ rfl _ _ (fun W h => RX.out W h) hu rfl hSx) hHeld ?_
    simp only [Act.put, List.setIfInBounds_toArray, List.set_cons_zero, List.set_cons_succ]
    refine wpAnyH_take (i := 3) (oi := ({ dst := some 32, op := Go.Op.move (Go.Operand.tmp 7), type := 3, pos := "rank.go:143", after := #[], guard := none } : Oper)) (v := .int .i64 st) rfl (by kernel_rfl) (by kernel_rfl) (by kernel_rfl) (fun _ _ _ h => h) (Or.inl ⟨by rfl, fun w' _ => ?_⟩) hHeld ?_
    · go_simp
    simp only [Act.put, List.setIfInBounds_toArray, List.set_cons_zero, List.set_cons_succ]
    refine wpAnyH_take (i := 6) (oi := ({ dst := some 35, op := Go.Op.fieldAddr 42 (Go.Operand.tmp 8) 1, type := 0, pos := "rank.go:143", after := #[], guard := none } : Oper)) (v := .pointer (some ⟨G, 16, none⟩)) rfl (by kernel_rfl) (by kernel_rfl) (by kernel_rfl) (fun _ _ _ h => h) (Or.inl ⟨by rfl, fun w' _ => ?_⟩) hHeld ?_
    · go_simp
    simp only [Act.put, List.setIfInBounds_toArray, List.set_cons_zero, List.set_cons_succ]
    refine wpAnyH_take (i := 7) (oi := ({ dst := some 36, op := Go.Op.load 4 (Go.Operand.tmp 35), type := 4, pos := "rank.go:143", after := #[{ on := 6, ground := Go.Ground.data }], guard := none } : Oper)) (v := .bool xd) rfl (by kernel_rfl) (by kernel_rfl) (by kernel_rfl) (fun _ _ _ h => h) (Or.inl ⟨by rfl, fun w' hS' => ?_⟩) hHeld ?_
    · have hcell := DX.out _ hS'
      go_simp
    simp only [Act.put, List.setIfInBounds_toArray, List.set_cons_zero, List.set_cons_succ]
    refine wpAnyH_take (i := 8) (oi := ({ dst := some 37, op := Go.Op.unOp Go.UnOp.not 4 (Go.Operand.tmp 36), type := 4, pos := "rank.go:143", after := #[{ on := 7, ground := Go.Ground.data }], guard := none } : Oper)) (v := .bool (!xd)) rfl (by kernel_rfl) (by kernel_rfl) (by kernel_rfl) (fun _ _ _ h => h) (Or.inl ⟨by rfl, fun w' _ => ?_⟩) hHeld ?_
    · go_simp
    simp only [Act.put, List.setIfInBounds_toArray, List.set_cons_zero, List.set_cons_succ]
    refine wpAnyH_take (i := 10) (oi := ({ dst := some 39, op := Go.Op.fieldAddr 42 (Go.Operand.tmp 8) 2, type := 0, pos := "rank.go:143", after := #[], guard := none } : Oper)) (v := .pointer (some ⟨G, 17, none⟩)) rfl (by kernel_rfl) (by kernel_rfl) (by kernel_rfl) (fun _ _ _ h => h) (Or.inl ⟨by rfl, fun w' _ => ?_⟩) hHeld ?_
    · go_simp
    simp only [Act.put, List.setIfInBounds_toArray, List.set_cons_zero, List.set_cons_succ]
    refine wpAnyH_take (i := 11) (oi := ({ dst := some 40, op := Go.Op.load 4 (Go.Operand.tmp 39), type := 4, pos := "rank.go:143", after := #[{ on := 10, ground := Go.Ground.data }], guard := none } : Oper)) (v := .bool xh) rfl (by kernel_rfl) (by kernel_rfl) (by kernel_rfl) (fun _ _ _ h => h) (Or.inl ⟨by rfl, fun w' hS' => ?_⟩) hHeld ?_
    · have hcell := HX.out _ hS'
      go_simp
    simp only [Act.put, List.setIfInBounds_toArray, List.set_cons_zero, List.set_cons_succ]
    refine wpAnyH_take (i := 13) (oi := ({ dst := some 42, op := Go.Op.fieldAddr 42 (Go.Operand.tmp 8) 0, type := 0, pos := "rank.go:143", after := #[], guard := none } : Oper)) (v := .pointer (some ⟨G, 0, none⟩)) rfl (by kernel_rfl) (by kernel_rfl) (by kernel_rfl) (fun _ _ _ h => h) (Or.inl ⟨by rfl, fun w' _ => ?_⟩) hHeld ?_
    · go_simp
    simp only [Act.put, List.setIfInBounds_toArray, List.set_cons_zero, List.set_cons_succ]
    refine wpAnyH_take (i := 14) (oi := ({ dst := some 43, op := Go.Op.load 27 (Go.Operand.tmp 42), type := 27, pos := "rank.go:143", after := #[{ on := 13, ground := Go.Ground.data }], guard := none } : Oper)) (v := .agg (x).toArray) rfl (by kernel_rfl) (by kernel_rfl) (by kernel_rfl) (fun _ _ _ h => h) (yieldsIf_load_mid (by rfl) _ _ rfl _ _ rfl _ _ (fun W h => RX.out W h) hu rfl hSx) hHeld ?_
    simp only [Act.put, List.setIfInBounds_toArray, List.set_cons_zero, List.set_cons_succ]
    refine wpAnyH_take (i := 15) (oi := ({ dst := some 44, op := Go.Op.load 27 (Go.Operand.tmp 3), type := 27, pos := "rank.go:143", after := #[], guard := none } : Oper)) (v := .agg (t).toArray) rfl (by kernel_rfl) (by kernel_rfl) (by kernel_rfl) (fun _ _ _ h => h) (yieldsIf_load_mid (by rfl) _ _ rfl _ _ rfl _ _ (fun W h => RT.out W h) hu rfl hSt) hHeld ?_
    simp only [Act.put, List.setIfInBounds_toArray, List.set_cons_zero, List.set_cons_succ]
    refine wpAnyH_take (i := 18) (oi := ({ dst := some 47, op := Go.Op.move (Go.Operand.tmp 5), type := 3, pos := "rank.go:143", after := #[], guard := none } : Oper)) (v := .int .i64 pp) rfl (by kernel_rfl) (by kernel_rfl) (by kernel_rfl) (fun _ _ _ h => h) (Or.inl ⟨by rfl, fun w' _ => ?_⟩) hHeld ?_
    · go_simp
    simp only [Act.put, List.setIfInBounds_toArray, List.set_cons_zero, List.set_cons_succ]
    refine wpAnyH_take (i := 19) (oi := ({ dst := some 48, op := Go.Op.move (Go.Operand.tmp 7), type := 3, pos := "rank.go:143", after := #[], guard := none } : Oper)) (v := .int .i64 st) rfl (by kernel_rfl) (by kernel_rfl) (by kernel_rfl) (fun _ _ _ h => h) (Or.inl ⟨by rfl, fun w' _ => ?_⟩) hHeld ?_
    · go_simp
    simp only [Act.put, List.setIfInBounds_toArray, List.set_cons_zero, List.set_cons_succ]
    refine wpAnyH_take (i := 20) (oi := ({ dst := some 49, op := Go.Op.unOp Go.UnOp.neg 3 (Go.Operand.tmp 48), type := 3, pos := "rank.go:143", after := #[{ on := 19, ground := Go.Ground.data }], guard := none } : Oper)) (v := .int .i64 (-(st : Int))) rfl (by kernel_rfl) (by kernel_rfl) (by kernel_rfl) (fun _ _ _ h => h) (Or.inl ⟨by rfl, fun w' _ => ?_⟩) hHeld ?_
    · go_simp
    simp only [Act.put, List.setIfInBounds_toArray, List.set_cons_zero, List.set_cons_succ]
    refine wpAnyH_take (i := 21) (oi := ({ dst := some 50, op := Go.Op.fieldAddr 42 (Go.Operand.tmp 8) 0, type := 0, pos := "rank.go:143", after := #[], guard := none } : Oper)) (v := .pointer (some ⟨G, 0, none⟩)) rfl (by kernel_rfl) (by kernel_rfl) (by kernel_rfl) (fun _ _ _ h => h) (Or.inl ⟨by rfl, fun w' _ => ?_⟩) hHeld ?_
    · go_simp
    simp only [Act.put, List.setIfInBounds_toArray, List.set_cons_zero, List.set_cons_succ]
    refine wpAnyH_take (i := 22) (oi := ({ dst := some 51, op := Go.Op.load 27 (Go.Operand.tmp 50), type := 27, pos := "rank.go:143", after := #[{ on := 21, ground := Go.Ground.data }], guard := none } : Oper)) (v := .agg (x).toArray) rfl (by kernel_rfl) (by kernel_rfl) (by kernel_rfl) (fun _ _ _ h => h) (yieldsIf_load_mid (by rfl) _ _ rfl _ _ rfl _ _ (fun W h => RX.out W h) hu rfl hSx) hHeld ?_
    simp only [Act.put, List.setIfInBounds_toArray, List.set_cons_zero, List.set_cons_succ]
    refine wpAnyH_take (i := 23) (oi := ({ dst := some 52, op := Go.Op.load 27 (Go.Operand.tmp 3), type := 27, pos := "rank.go:143", after := #[], guard := none } : Oper)) (v := .agg (t).toArray) rfl (by kernel_rfl) (by kernel_rfl) (by kernel_rfl) (fun _ _ _ h => h) (yieldsIf_load_mid (by rfl) _ _ rfl _ _ rfl _ _ (fun W h => RT.out W h) hu rfl hSt) hHeld ?_
    simp only [Act.put, List.setIfInBounds_toArray, List.set_cons_zero, List.set_cons_succ]
    refine wpAnyH_ready (rs := [2]) (by kernel_rfl) (by simp) ?_
    refine AllReadyH.cons (o := ({ dst := some 31, op := Go.Op.call { callee := Go.Callee.value (Go.Operand.func 14), args := #[Go.Operand.tmp 30], argTypes := #[27] }, type := 3, pos := "rank.go:145", after := #[{ on := 1, ground := Go.Ground.data }], guard := none } : Oper)) rfl (fun K hK => ?_) AllReadyH.nil
    go_simp
    go_at_call 14
    refine (SX.out _ hHeld).mono ?_
    rintro e' wc ⟨rfl, hbc⟩
    refine hK.out _ _ (KS.below hHeld hbc) (fun hHeld' => ?_)
    clear hK K hbc
    try clear hHeld
    try simp only [Act.put, List.setIfInBounds_toArray, List.set_cons_zero, List.set_cons_succ]
    refine wpAnyH_take (i := 4) (oi := ({ dst := some 33, op := Go.Op.binOp Go.BinOp.eql 3 (Go.Operand.tmp 31) (Go.Operand.tmp 32) 3, type := 4, pos := "rank.go:143", after := #[{ on := 2, ground := Go.Ground.data }, { on := 3, ground := Go.Ground.data }], guard := none } : Oper)) (v := .bool (decide (sx = st))) rfl (by kernel_rfl) (by kernel_rfl) (by kernel_rfl) (fun _ _ _ h => h) (Or.inl ⟨by rfl, fun w' _ => ?_⟩) hHeld' ?_
    · (go_simp; exact beq_dec _ _)
    simp only [Act.put, List.setIfInBounds_toArray, List.set_cons_zero, List.set_cons_succ]
    refine wpAnyH_ready (rs := [5]) (by kernel_rfl) (by simp) ?_
    refine AllReadyH.cons (o := ({ dst := some 34, op := Go.Op.call { callee := Go.Callee.value (Go.Operand.func 27), args := #[Go.Operand.tmp 33], argTypes := #[4] }, type := 3, pos := "rank.go:145", after := #[{ on := 4, ground := Go.Ground.data }, { on := 2, ground := Go.Ground.chain }], guard := none } : Oper)) rfl (fun K hK => ?_) AllReadyH.nil
    go_simp
    go_at_call 27
    refine (number_b _ _).mono ?_
    rintro e' wc ⟨rfl, hbc⟩
    refine hK.out _ _ (KS.below hHeld' hbc) (fun hHeld'' => ?_)
    clear hK K hbc
    try clear hHeld'
    try simp only [Act.put, List.setIfInBounds_toArray, List.set_cons_zero, List.set_cons_succ]
    refine wpAnyH_ready (rs := [9]) (by kernel_rfl) (by simp) ?_
    refine AllReadyH.cons (o := ({ dst := some 38, op := Go.Op.call { callee := Go.Callee.value (Go.Operand.func 27), args := #[Go.Operand.tmp 37], argTypes := #[4] }, type := 3, pos := "rank.go:146", after := #[{ on := 8, ground := Go.Ground.data }, { on := 5, ground := Go.Ground.chain }], guard := none } : Oper)) rfl (fun K hK => ?_) AllReadyH.nil
    go_simp
    go_at_call 27
    refine (number_b _ _).mono ?_
    rintro e' wc ⟨rfl, hbc⟩
    refine hK.out _ _ (KS.below hHeld'' hbc) (fun hHeld''' => ?_)
    clear hK K hbc
    try clear hHeld''
    try simp only [Act.put, List.setIfInBounds_toArray, List.set_cons_zero, List.set_cons_succ]
    refine wpAnyH_ready (rs := [12]) (by kernel_rfl) (by simp) ?_
    refine AllReadyH.cons (o := ({ dst := some 41, op := Go.Op.call { callee := Go.Callee.value (Go.Operand.func 27), args := #[Go.Operand.tmp 40], argTypes := #[4] }, type := 3, pos := "rank.go:147", after := #[{ on := 11, ground := Go.Ground.data }, { on := 9, ground := Go.Ground.chain }], guard := none } : Oper)) rfl (fun K hK => ?_) AllReadyH.nil
    go_simp
    go_at_call 27
    refine (number_b _ _).mono ?_
    rintro e' wc ⟨rfl, hbc⟩
    refine hK.out _ _ (KS.below hHeld''' hbc) (fun hHeld'''' => ?_)
    clear hK K hbc
    try clear hHeld'''
    try simp only [Act.put, List.setIfInBounds_toArray, List.set_cons_zero, List.set_cons_succ]
    refine wpAnyH_ready (rs := [16]) (by kernel_rfl) (by simp) ?_
    refine AllReadyH.cons (o := ({ dst := some 45, op := Go.Op.call { callee := Go.Callee.value (Go.Operand.func 28), args := #[Go.Operand.tmp 43, Go.Operand.tmp 44], argTypes := #[27, 27] }, type := 4, pos := "rank.go:148", after := #[{ on := 14, ground := Go.Ground.data }, { on := 15, ground := Go.Ground.data }, { on := 12, ground := Go.Ground.chain }], guard := none } : Oper)) rfl (fun K hK => ?_) AllReadyH.nil
    go_simp
    go_at_call 28
    refine (LX.out _ hHeld'''').mono ?_
    rintro e' wc ⟨rfl, hbc⟩
    refine hK.out _ _ (KS.below hHeld'''' hbc) (fun hHeld''''' => ?_)
    clear hK K hbc
    try clear hHeld''''
    try simp only [Act.put, List.setIfInBounds_toArray, List.set_cons_zero, List.set_cons_succ]
    refine wpAnyH_ready (rs := [17]) (by kernel_rfl) (by simp) ?_
    refine AllReadyH.cons (o := ({ dst := some 46, op := Go.Op.call { callee := Go.Callee.value (Go.Operand.func 27), args := #[Go.Operand.tmp 45], argTypes := #[4] }, type := 3, pos := "rank.go:148", after := #[{ on := 16, ground := Go.Ground.data }, { on := 16, ground := Go.Ground.chain }], guard := none } : Oper)) rfl (fun K hK => ?_) AllReadyH.nil
    go_simp
    go_at_call 27
    refine (number_b _ _).mono ?_
    rintro e' wc ⟨rfl, hbc⟩
    refine hK.out _ _ (KS.below hHeld''''' hbc) (fun hHeld'''''' => ?_)
    clear hK K hbc
    try clear hHeld'''''
    try simp only [Act.put, List.setIfInBounds_toArray, List.set_cons_zero, List.set_cons_succ]
    refine wpAnyH_ready (rs := [24]) (by kernel_rfl) (by simp) ?_
    refine AllReadyH.cons (o := ({ dst := some 53, op := Go.Op.call { callee := Go.Callee.value (Go.Operand.func 29), args := #[Go.Operand.tmp 51, Go.Operand.tmp 52], argTypes := #[27, 27] }, type := 3, pos := "rank.go:151", after := #[{ on := 22, ground := Go.Ground.data }, { on := 23, ground := Go.Ground.data }, { on := 17, ground := Go.Ground.chain }], guard := none } : Oper)) rfl (fun K hK => ?_) AllReadyH.nil
    go_simp
    go_at_call 29
    refine (SH.out _).mono ?_
    rintro e' wc ⟨rfl, hbc⟩
    refine hK.out _ _ (KS.below hHeld'''''' hbc) (fun hHeld''''''' => ?_)
    clear hK K hbc
    try clear hHeld''''''
    try simp only [Act.put, List.setIfInBounds_toArray, List.set_cons_zero, List.set_cons_succ]
    refine wpAnyH_take (i := 25) (oi := ({ dst := some 54, op := Go.Op.build 38 #[(0, Go.Operand.const (Go.Value.int Go.IntKind.i64 1)), (1, Go.Operand.tmp 34), (2, Go.Operand.tmp 38), (3, Go.Operand.tmp 41), (4, Go.Operand.tmp 46), (5, Go.Operand.tmp 47), (6, Go.Operand.tmp 49), (7, Go.Operand.tmp 53)], type := 38, pos := "rank.go:143", after := #[{ on := 5, ground := Go.Ground.data }, { on := 9, ground := Go.Ground.data }, { on := 12, ground := Go.Ground.data }, { on := 17, ground := Go.Ground.data }, { on := 18, ground := Go.Ground.data }, { on := 20, ground := Go.Ground.data }, { on := 24, ground := Go.Ground.data }], guard := none } : Oper)) (v := .agg #[.int .i64 1, .int .i64 (b2i (decide (sx = st))), .int .i64 (b2i (!xd)), .int .i64 (b2i xh), .int .i64 (b2i lb), .int .i64 pp, .int .i64 (-(st : Int)), .int .i64 sh0]) rfl (by kernel_rfl) (by kernel_rfl) (by kernel_rfl) (fun _ _ _ h => h) (Or.inl ⟨by rfl, fun w' _ => ?_⟩) hHeld''''''' ?_
    · go_simp
    simp only [Act.put, List.setIfInBounds_toArray, List.set_cons_zero, List.set_cons_succ]
    refine wpAnyH_ready (rs := [26]) (by kernel_rfl) (by simp) ?_
    refine AllReadyH.cons (o := ({ dst := none, op := Go.Op.store 38 (Go.Operand.tmp 4) (Go.Operand.tmp 54), type := 0, pos := "rank.go:143", after := #[{ on := 25, ground := Go.Ground.data }, { on := 24, ground := Go.Ground.chain }, { on := 0, ground := Go.Ground.phase }, { on := 1, ground := Go.Ground.phase }, { on := 2, ground := Go.Ground.phase }, { on := 3, ground := Go.Ground.phase }, { on := 4, ground := Go.Ground.phase }, { on := 5, ground := Go.Ground.phase }, { on := 6, ground := Go.Ground.phase }, { on := 7, ground := Go.Ground.phase }, { on := 8, ground := Go.Ground.phase }, { on := 9, ground := Go.Ground.phase }, { on := 10, ground := Go.Ground.phase }, { on := 11, ground := Go.Ground.phase }, { on := 12, ground := Go.Ground.phase }, { on := 13, ground := Go.Ground.phase }, { on := 14, ground := Go.Ground.phase }, { on := 15, ground := Go.Ground.phase }, { on := 16, ground := Go.Ground.phase }, { on := 17, ground := Go.Ground.phase }, { on := 18, ground := Go.Ground.phase }, { on := 19, ground := Go.Ground.phase }, { on := 20, ground := Go.Ground.phase }, { on := 21, ground := Go.Ground.phase }, { on := 22, ground := Go.Ground.phase }, { on := 23, ground := Go.Ground.phase }, { on := 24, ground := Go.Ground.phase }, { on := 25, ground := Go.Ground.phase }], guard := none } : Oper)) rfl (fun K hK => ?_) AllReadyH.nil
    obtain ⟨cz, hz, hzs⟩ := (hHeld''''''').row
    refine wp_store_row 38 (.tmp 4) (.tmp 54) rfl (w.heap.size + 1) #[.int .i64 1, .int .i64 (b2i (decide (sx = st))), .int .i64 (b2i (!xd)), .int .i64 (b2i xh), .int .i64 (b2i lb), .int .i64 pp, .int .i64 (-(st : Int)), .int .i64 sh0] rfl rfl 38 cz hz HR8s.out (hzs.trans HR8z.out.symm) HR8o.out ?_
    refine hK.out _ _ (KS.set hHeld''''''' hz HR8z.out) (fun hHeldZ => ?_)
    have hfin := setRow_heap _ _ _ #[.int .i64 1, .int .i64 (b2i (decide (sx = st))), .int .i64 (b2i (!xd)), .int .i64 (b2i xh), .int .i64 (b2i lb), .int .i64 pp, .int .i64 (-(st : Int)), .int .i64 sh0] _ _ hz
    clear hK K
    try simp only [Act.put]
    refine wpAnyH_done (by kernel_rfl) ?_ _
    go_wp2
    refine bodyPost_ret (results_cell_row rfl _ _ (w.heap.size + 1) 38 #[.int .i64 1, .int .i64 (b2i (decide (sx = st))), .int .i64 (b2i (!xd)), .int .i64 (b2i xh), .int .i64 (b2i lb), .int .i64 pp, .int .i64 (-(st : Int)), .int .i64 sh0] (0, 0) _ rfl hfin Tryd.underlying38 rfl HR8s.out) rfl ⟨by rw [HKK.out]; rfl, HB6.out.trans (KS.to hHeldZ (by omega) HB6.out.size)⟩
end Go.Proofs.YtoaedlllnkcfnaaDoor
