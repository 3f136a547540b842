/-
  The walk of the document's own answer Ahead: local addresses that lie in memory. Condition: sixteen bytes.
-/
import Derived.Test.YtoaedlllnkcfnaaDoorRankRSrc
import Derived.Test.YtoaedlllnkcfnaaDoorRankOrd
import Derived.Deep.CutRange
namespace Go.Proofs.YtoaedlllnkcfnaaDoor
open Go.RowKit

def aheadT (ok : Bool) (qa qb sa sb : Nat) (h : Bool) : Bool := if qa ≠ qb then decide (qb < qa) else if sa ≠ sb then decide (sa < sb) else (ok && h)
/-- does a come ahead of b? -/
def aheadB (ls : List LV) (a b : List UInt8) : Bool :=
  let x := (srcA ls a).getD lvZero
  let y := (srcA ls b).getD lvZero
  let T := aheadT (srcA ls a).isSome (polA a).1 (polA b).1 (scA a) (scA b) (decide (sh y.addr b < sh x.addr a))
  if (!((srcA ls a).isSome == (srcA ls b).isSome)) = true then (srcA ls a).isSome
  else if (srcA ls a).isSome = true then
    (if (!(decide (scA x.addr = scA a) == decide (scA y.addr = scA b))) = true then decide (scA x.addr = scA a)
    else if (!(x.dep == y.dep)) = true then y.dep
    else if (!(x.home == y.home)) = true then x.home
    else if (!((((polA x.addr).2 : Int) == ((polA a).2 : Int)) == (((polA y.addr).2 : Int) == ((polA b).2 : Int)))) = true then (((polA x.addr).2 : Int) == ((polA a).2 : Int))
    else T)
  else T
theorem eq_decI (a b : Nat) : ((a : Int) == (b : Int)) = decide (a = b) := by
  rw [Bool.eq_iff_iff, beq_iff_eq, decide_eq_true_iff]; omega
theorem ne_dec (a b : Nat) : ((a : Int) != (b : Int)) = !decide (a = b) := by
  rw [bne, eq_decI]
set_option maxRecDepth 100000 in
set_option maxHeartbeats 16000000 in
theorem refAhead_e (ls : List LV) (hls : ∀ x ∈ ls, x.addr.length = 16) (A : Option Addr) (cap : Nat) (a0 b0 : List UInt8) (ha : a0.length = 16) (hb : b0.length = 16) (hn : ls.length < 1000000) (w : World) (hA : LocsAt w A ls) :
    Calls Tryd.prog 11 #[.slice A ls.length cap, .agg (bvs a0).toArray, .agg (bvs b0).toArray] w fun e w' => e = .returned (.bool (aheadB ls a0 b0)) ∧ Below w.heap.size w w' := by
  have hSa := sizeBv ha
  have hSb := sizeBv hb
  rw [List.size_toArray] at hSa hSb
  have hu := Tryd.underlying27
  have hZ := lZeroAt
  have hxl : ((srcA ls a0).getD lvZero).addr.length = 16 := by
    cases h : srcA ls a0 with
    | none => rfl
    | some y => exact srcA_len hls y h
  have hyl : ((srcA ls b0).getD lvZero).addr.length = 16 := by
    cases h : srcA ls b0 with
    | none => rfl
    | some y => exact srcA_len hls y h
  have sA := fun W (h : LocsAt W A ls) => refSource_e ls hls A cap a0 ha hn W h
  have sB := fun W (h : LocsAt W A ls) => refSource_e ls hls A cap b0 hb hn W h
  have cA := fun W => refScope_e a0 ha W
  have cB := fun W => refScope_e b0 hb W
  have pA := fun W => refPolicy_e a0 ha W
  have pB := fun W => refPolicy_e b0 hb W
  have hR0 : aheadB ls a0 b0 = if (!((srcA ls a0).isSome == (srcA ls b0).isSome)) = true then (srcA ls a0).isSome
    else if (srcA ls a0).isSome = true then
      (if (!(decide (scA ((srcA ls a0).getD lvZero).addr = scA a0) == decide (scA ((srcA ls b0).getD lvZero).addr = scA b0))) = true then decide (scA ((srcA ls a0).getD lvZero).addr = scA a0)
      else if (!(((srcA ls a0).getD lvZero).dep == ((srcA ls b0).getD lvZero).dep)) = true then ((srcA ls b0).getD lvZero).dep
      else if (!(((srcA ls a0).getD lvZero).home == ((srcA ls b0).getD lvZero).home)) = true then ((srcA ls a0).getD lvZero).home
      else if (!((((polA ((srcA ls a0).getD lvZero).addr).2 : Int) == ((polA a0).2 : Int)) == (((polA ((srcA ls b0).getD lvZero).addr).2 : Int) == ((polA b0).2 : Int)))) = true then (((polA ((srcA ls a0).getD lvZero).addr).2 : Int) == ((polA a0).2 : Int))
      else aheadT (srcA ls a0).isSome (polA a0).1 (polA b0).1 (scA a0) (scA b0) (decide (sh ((srcA ls b0).getD lvZero).addr b0 < sh ((srcA ls a0).getD lvZero).addr a0)))
    else aheadT (srcA ls a0).isSome (polA a0).1 (polA b0).1 (scA a0) (scA b0) (decide (sh ((srcA ls b0).getD lvZero).addr b0 < sh ((srcA ls a0).getD lvZero).addr a0)) := rfl
  generalize aheadB ls a0 b0 = R at *
  generalize (srcA ls a0).isSome = o1 at *
  generalize (srcA ls b0).isSome = o2 at *
  generalize (srcA ls a0).getD lvZero = x0 at *
  generalize (srcA ls b0).getD lvZero = y0 at *
  have cX := fun W => refScope_e x0.addr hxl W
  have cY := fun W => refScope_e y0.addr hyl W
  have pX := fun W => refPolicy_e x0.addr hxl W
  have pY := fun W => refPolicy_e y0.addr hyl W
  have sX := fun W => refShared_e x0.addr a0 hxl ha W
  have sY := fun W => refShared_e y0.addr b0 hyl hb W
  have hSx := sizeBv hxl
  have hSy := sizeBv hyl
  rw [List.size_toArray] at hSx hSy
  obtain ⟨kx, kxd, kxh⟩ := LV.has hxl
  obtain ⟨ky, kyd, kyh⟩ := LV.has hyl
  have hxs := lSize hxl
  have hys := lSize hyl
  have hxo := LV.one x0
  have hyo := LV.one y0
  have hZ1 : lvZero.cells.toArray.size = 18 := by rw [List.size_toArray]; exact LV.size rfl
  have hxz : lvZero.cells.toArray.size = x0.cells.toArray.size := by rw [hZ1, List.size_toArray, LV.size hxl]
  have hyz : lvZero.cells.toArray.size = y0.cells.toArray.size := by rw [hZ1, List.size_toArray, LV.size hyl]
  clear hZ1
  generalize lvZero.cells.toArray = Z at hZ hxz hyz
  generalize scA x0.addr = sx at *
  generalize scA y0.addr = sy at *
  generalize scA a0 = sa at *
  generalize scA b0 = sb at *
  generalize (polA x0.addr).1 = qx at *
  generalize (polA y0.addr).1 = qy at *
  generalize (polA a0).1 = qa at *
  generalize (polA b0).1 = qb at *
  generalize (polA x0.addr).2 = lx at *
  generalize (polA y0.addr).2 = ly at *
  generalize (polA a0).2 = la at *
  generalize (polA b0).2 = lb at *
  generalize sh x0.addr a0 = px at *
  generalize sh y0.addr b0 = py at *
  generalize x0.dep = xd at *
  generalize x0.home = xh at *
  generalize y0.dep = yd at *
  generalize y0.home = yh at *
  generalize bvs x0.addr = xa at *
  generalize bvs y0.addr = ya at *
  generalize bvs a0 = ta at *
  generalize bvs b0 = tb at *
  obtain ⟨xc, hxc⟩ : ∃ xc, xc = x0.cells.toArray := ⟨_, rfl⟩
  obtain ⟨yc, hyc⟩ : ∃ yc, yc = y0.cells.toArray := ⟨_, rfl⟩
  have kx' : ∀ (j : Nat) (v : Value), xa[j]? = some v → xc[j]? = some v := fun j v h => by rw [hxc, List.getElem?_toArray]; exact kx j v h
  have ky' : ∀ (j : Nat) (v : Value), ya[j]? = some v → yc[j]? = some v := fun j v h => by rw [hyc, List.getElem?_toArray]; exact ky j v h
  have kxd' : xc[16]? = some (.bool xd) := by rw [hxc, List.getElem?_toArray]; exact kxd
  have kxh' : xc[17]? = some (.bool xh) := by rw [hxc, List.getElem?_toArray]; exact kxh
  have kyd' : yc[16]? = some (.bool yd) := by rw [hyc, List.getElem?_toArray]; exact kyd
  have kyh' : yc[17]? = some (.bool yh) := by rw [hyc, List.getElem?_toArray]; exact kyh
  rw [← hxc] at hxs hxo hxz
  rw [← hyc] at hys hyo hyz
  simp only [← hxc] at sA
  simp only [← hyc] at sB
  clear hxc hyc kx ky kxd kxh kyd kyh hxl hyl ha hb hls hn
  obtain ⟨w2, hw2⟩ : ∃ w2, w2 = ((w.alloc (.cells ta.toArray 27)).alloc (.cells tb.toArray 27)) := ⟨_, rfl⟩
  have hz2 : w2.heap.size = w.heap.size + 2 := by rw [hw2, World.size_alloc, World.size_alloc]
  have b1 : w2.heap[w.heap.size]? = some (.cells ta.toArray 27 (0, 0)) := by rw [hw2]; exact heap_alloc2_old _ _ _
  have b2 : w2.heap[w.heap.size + 1]? = some (.cells tb.toArray 27 (0, 0)) := by rw [hw2]; exact heap_alloc2_new _ _ _
  have hb2 : Below w.heap.size w w2 := by
    rw [hw2]
    exact ((Below.refl _ w).alloc (Nat.le_refl _) _).alloc (by rw [World.size_alloc]; omega) _
  have hA2 : LocsAt w2 A ls := RowsAt.below hA hb2
  have B1 := Lib.hid b1
  have B2 := Lib.hid b2
  have HB2 := Lib.hid hb2
  have HA2 := Lib.hid hA2
  have Z2 := Lib.hid hz2
  have SA := Lib.hid sA
  have SB := Lib.hid sB
  have CA := Lib.hid cA
  have CB := Lib.hid cB
  have CX := Lib.hid cX
  have CY := Lib.hid cY
  have QA := Lib.hid pA
  have QB := Lib.hid pB
  have QX := Lib.hid pX
  have QY := Lib.hid pY
  have SX := Lib.hid sX
  have SY := Lib.hid sY
  have HSa := Lib.hid hSa
  have HSb := Lib.hid hSb
  have HSx := Lib.hid hSx
  have HSy := Lib.hid hSy
  have HR00 := Lib.hid hR0
  have HZ := Lib.hid hZ
  have HXs := Lib.hid hxs
  have HYs := Lib.hid hys
  have HXo := Lib.hid hxo
  have HYo := Lib.hid hyo
  have HXz := Lib.hid hxz
  have HYz := Lib.hid hyz
  have KX := Lib.hid (And.intro kx' (And.intro kxd' kxh'))
  have KY := Lib.hid (And.intro ky' (And.intro kyd' kyh'))
  have HW2 := Lib.hid hw2
  clear b1 b2 hb2 hA2 hz2 sA sB cA cB cX cY pA pB pX pY sX sY hSa hSb hSx hSy hR0 hZ hxs hys hxo hyo hxz hyz kx' kxd' kxh' ky' kyd' kyh' hw2 hA
  go_enter Tryd.func11, Tryd.ntmps11
  go_wp2_with (rw [← HW2.out]; refine wpList_load_row rfl 27 (.tmp 4) rfl w.heap.size rfl 27 ta.toArray (0, 0) _ B1.out Tryd.underlying27 rfl HSa.out ?_; go_simp)
  clear HW2
  refine (SA.out _ HA2.out).mono ?_
  rintro e w3 ⟨rfl, hb3⟩
  have hz2 := Z2.out
  have C1 := Lib.hid ((hb3.block w.heap.size (by omega)).trans B1.out)
  have C2 := Lib.hid ((hb3.block (w.heap.size + 1) (by omega)).trans B2.out)
  have HB3 := Lib.hid (HB2.out.trans (hb3.mono HB2.out.size))
  have HA3 := Lib.hid (RowsAt.below HA2.out hb3)
  have hz3 : w.heap.size + 2 ≤ w3.heap.size := by have := hb3.size; omega
  obtain ⟨w4, hw4⟩ : ∃ w4, w4 = w3.alloc (.cells xc 42) := ⟨_, rfl⟩
  obtain ⟨GX, hGX⟩ : ∃ G, G = w3.heap.size := ⟨_, rfl⟩
  have D1 := Lib.hid (show w4.heap[w.heap.size]? = some (.cells ta.toArray 27 (0, 0)) by rw [hw4, heap_alloc_old' _ _ (by omega)]; exact C1.out)
  have D2 := Lib.hid (show w4.heap[w.heap.size + 1]? = some (.cells tb.toArray 27 (0, 0)) by rw [hw4, heap_alloc_old' _ _ (by omega)]; exact C2.out)
  have D3 := Lib.hid (show w4.heap[GX]? = some (.cells xc 42 (0, 0)) by rw [hw4, hGX]; exact heap_alloc_last _ _)
  have HB4 := Lib.hid (show Below w.heap.size w w4 by rw [hw4]; exact HB3.out.alloc HB3.out.size _)
  have HA4 := Lib.hid (show LocsAt w4 A ls from RowsAt.below HA3.out (by rw [hw4]; exact (Below.refl _ w3).alloc (Nat.le_refl _) _))
  have Z4 := Lib.hid (show w4.heap.size = GX + 1 by rw [hw4, World.size_alloc, hGX])
  have ZX := Lib.hid (show w.heap.size + 2 ≤ GX by rw [hGX]; exact hz3)
  have HW4 := Lib.hid hw4
  have HGX := Lib.hid hGX
  clear hb3 hz2 hz3 hw4 hGX B1 B2 C1 C2 HB2 HB3 HA2 HA3 Z2
  go_wp2_with (first
    | (refine wpList_alloc_z rfl 42 rfl Z HZ.out ?_; go_simp)
    | (refine wpList_store_new rfl 42 (.tmp 7) (.tmp 25) rfl w3.heap.size rfl Z xc 42 rfl rfl HXs.out HXz.out HXo.out ?_; go_simp)
    | (rw [← HW4.out, ← HGX.out]; refine wpList_load_row rfl 27 (.tmp 5) rfl (w.heap.size + 1) rfl 27 tb.toArray (0, 0) _ D2.out Tryd.underlying27 rfl HSb.out ?_; go_simp))
  clear HW4 HGX
  refine (SB.out _ HA4.out).mono ?_
  rintro e w5 ⟨rfl, hb3⟩
  have hz4 := Z4.out
  have hzx := ZX.out
  have e1 := (hb3.block w.heap.size (by omega)).trans D1.out
  have e2 := (hb3.block (w.heap.size + 1) (by omega)).trans D2.out
  have e3 := (hb3.block GX (by omega)).trans D3.out
  have hb5 : Below w.heap.size w w5 := HB4.out.trans (hb3.mono HB4.out.size)
  have hz5 : GX + 1 ≤ w5.heap.size := by have := hb3.size; omega
  obtain ⟨w9, hw9⟩ : ∃ w9, w9 = w5.alloc (.cells yc 42) := ⟨_, rfl⟩
  obtain ⟨GY, hGY⟩ : ∃ G, G = w5.heap.size := ⟨_, rfl⟩
  have f1 : w9.heap[w.heap.size]? = some (.cells ta.toArray 27 (0, 0)) := by rw [hw9, heap_alloc_old' _ _ (by omega)]; exact e1
  have f2 : w9.heap[w.heap.size + 1]? = some (.cells tb.toArray 27 (0, 0)) := by rw [hw9, heap_alloc_old' _ _ (by omega)]; exact e2
  have f3 : w9.heap[GX]? = some (.cells xc 42 (0, 0)) := by rw [hw9, heap_alloc_old' _ _ (by omega)]; exact e3
  have f4 : w9.heap[GY]? = some (.cells yc 42 (0, 0)) := by rw [hw9, hGY]; exact heap_alloc_last _ _
  have HB9 := Lib.hid (show Below w.heap.size w w9 by rw [hw9]; exact hb5.alloc hb5.size _)
  have hz9 : w9.heap.size = GY + 1 := by rw [hw9, World.size_alloc, hGY]
  have hxy : GX + 1 ≤ GY := by rw [hGY]; exact hz5
  have cellA : ∀ W, Below w9.heap.size w9 W → ∀ j v, ta[j]? = some v → W.cell? ⟨w.heap.size, j, none⟩ = some v := fun W hb j v hj => by
    rw [hb.cell (p := ⟨w.heap.size, j, none⟩) (by show w.heap.size < _; omega), cell_of_row _ _ _ _ _ _ f1, List.getElem?_toArray]; exact hj
  have cellB : ∀ W, Below w9.heap.size w9 W → ∀ j v, tb[j]? = some v → W.cell? ⟨w.heap.size + 1, j, none⟩ = some v := fun W hb j v hj => by
    rw [hb.cell (p := ⟨w.heap.size + 1, j, none⟩) (by show w.heap.size + 1 < _; omega), cell_of_row _ _ _ _ _ _ f2, List.getElem?_toArray]; exact hj
  have cellX : ∀ W, Below w9.heap.size w9 W → ∀ j v, xc[j]? = some v → W.cell? ⟨GX, j, none⟩ = some v := fun W hb j v hj => by
    rw [hb.cell (p := ⟨GX, j, none⟩) (by show GX < _; omega), cell_of_row _ _ _ _ _ _ f3]; exact hj
  have cellY : ∀ W, Below w9.heap.size w9 W → ∀ j v, yc[j]? = some v → W.cell? ⟨GY, j, none⟩ = some v := fun W hb j v hj => by
    rw [hb.cell (p := ⟨GY, j, none⟩) (by show GY < _; omega), cell_of_row _ _ _ _ _ _ f4]; exact hj
  have LA := Lib.hid (fun (W : World) (hb : Below w9.heap.size w9 W) (j : Nat) (v : Value) (hj : ta.toArray.toList[j]? = some v) => (by rw [Addr.add_lit, Nat.zero_add]; exact cellA W hb j v hj : W.cell? ((⟨w.heap.size, 0, none⟩ : Addr).add j) = some v))
  have LB := Lib.hid (fun (W : World) (hb : Below w9.heap.size w9 W) (j : Nat) (v : Value) (hj : tb.toArray.toList[j]? = some v) => (by rw [Addr.add_lit, Nat.zero_add]; exact cellB W hb j v hj : W.cell? ((⟨w.heap.size + 1, 0, none⟩ : Addr).add j) = some v))
  have LX := Lib.hid (fun (W : World) (hb : Below w9.heap.size w9 W) (j : Nat) (v : Value) (hj : xa.toArray.toList[j]? = some v) => (by rw [Addr.add_lit, Nat.zero_add]; exact cellX W hb j v (KX.out.1 j v hj) : W.cell? ((⟨GX, 0, none⟩ : Addr).add j) = some v))
  have LY := Lib.hid (fun (W : World) (hb : Below w9.heap.size w9 W) (j : Nat) (v : Value) (hj : ya.toArray.toList[j]? = some v) => (by rw [Addr.add_lit, Nat.zero_add]; exact cellY W hb j v (KY.out.1 j v hj) : W.cell? ((⟨GY, 0, none⟩ : Addr).add j) = some v))
  have RA := Lib.hid (fun (W : World) (hb : Below w9.heap.size w9 W) => (fun j v hj => by rw [Nat.zero_add]; exact cellA W hb j v hj : W.rangeAt w.heap.size 0 ta))
  have RB := Lib.hid (fun (W : World) (hb : Below w9.heap.size w9 W) => (fun j v hj => by rw [Nat.zero_add]; exact cellB W hb j v hj : W.rangeAt (w.heap.size + 1) 0 tb))
  have RX := Lib.hid (fun (W : World) (hb : Below w9.heap.size w9 W) => (fun j v hj => by rw [Nat.zero_add]; exact cellX W hb j v (KX.out.1 j v hj) : W.rangeAt GX 0 xa))
  have RY := Lib.hid (fun (W : World) (hb : Below w9.heap.size w9 W) => (fun j v hj => by rw [Nat.zero_add]; exact cellY W hb j v (KY.out.1 j v hj) : W.rangeAt GY 0 ya))
  have DX := Lib.hid (fun (W : World) (hb : Below w9.heap.size w9 W) => cellX W hb 16 _ KX.out.2.1)
  have DY := Lib.hid (fun (W : World) (hb : Below w9.heap.size w9 W) => cellY W hb 16 _ KY.out.2.1)
  have HHX := Lib.hid (fun (W : World) (hb : Below w9.heap.size w9 W) => cellX W hb 17 _ KX.out.2.2)
  have HHY := Lib.hid (fun (W : World) (hb : Below w9.heap.size w9 W) => cellY W hb 17 _ KY.out.2.2)
  have HQ0 := Lib.hid (Below.refl w9.heap.size w9)
  have HW9 := Lib.hid hw9
  have HGY := Lib.hid hGY
  clear hb3 hz4 hzx e1 e2 e3 hb5 hz5 hw9 hGY f1 f2 f3 f4 hz9 hxy cellA cellB cellX cellY D1 D2 D3 HB4 HA4 Z4 ZX KX KY SA SB
  by_cases ho : (!(o1 == o2)) = true
  · have HR := Lib.hid (show R = o1 by rw [HR00.out, if_pos ho])
    clear HR00
    go_wp2_with (first
      | (refine wpList_alloc_z rfl 42 rfl Z HZ.out ?_; go_simp)
      | (refine wpList_store_new rfl 42 (.tmp 9) (.tmp 31) rfl w5.heap.size rfl Z yc 42 rfl rfl HYs.out HYz.out HYo.out ?_; go_simp))
    rw [← HW9.out]
    go_ret
    refine ⟨?_, HB9.out.trans (HQ0.out.mono HB9.out.size)⟩
    rw [HR.out]
    first | rfl | (simp; done) | (congr 2; simp)
  have HR01 := Lib.hid (show R = _ by rw [HR00.out, if_neg ho])
  clear HR00
  go_upto_region 5 with (first
    | (refine wpList_alloc_z rfl 42 rfl Z HZ.out ?_; go_simp)
    | (refine wpList_store_new rfl 42 (.tmp 9) (.tmp 31) rfl w5.heap.size rfl Z yc 42 rfl rfl HYs.out HYz.out HYo.out ?_; go_simp))
  rw [← HW9.out, ← HGY.out]
  clear HW9 HGY
  go_wp2_with (refine wpList_load_agg rfl 27 (.tmp 4) rfl ⟨w.heap.size, 0, none⟩ rfl ta.toArray _ (LA.out _ HQ0.out) Tryd.underlying27 rfl HSa.out ?_; go_simp)
  refine (QA.out _).mono ?_
  rintro e w10 ⟨rfl, hbn⟩
  have HQ1 := Lib.hid (HQ0.out.trans (hbn.mono HQ0.out.size))
  clear hbn
  go_wp2_with (refine wpList_load_agg rfl 27 (.tmp 5) rfl ⟨w.heap.size + 1, 0, none⟩ rfl tb.toArray _ (LB.out _ HQ1.out) Tryd.underlying27 rfl HSb.out ?_; go_simp)
  refine (QB.out _).mono ?_
  rintro e w11 ⟨rfl, hbn⟩
  have HQ2 := Lib.hid (HQ1.out.trans (hbn.mono HQ1.out.size))
  clear hbn
  cases o1 with
  | false =>
    have HR0 := Lib.hid (show R = aheadT false qa qb sa sb (decide (py < px)) by rw [HR01.out, if_neg (by decide)])
    clear HR01
    by_cases hc7 : (qa : Int) = (qb : Int)
    case neg =>
      have HR := Lib.hid (show R = decide ((qb : Int) < (qa : Int)) by rw [HR0.out]; unfold aheadT; rw [if_pos (by omega)]; rw [Bool.eq_iff_iff, decide_eq_true_iff, decide_eq_true_iff]; omega)
      clear HR0
      go_wp2_with fail
      go_ret
      refine ⟨?_, HB9.out.trans (HQ2.out.mono HB9.out.size)⟩
      rw [HR.out]
      first | rfl | (simp; done) | (congr 2; simp)
    case pos =>
      have HR1 := Lib.hid (show R = (if sa ≠ sb then decide (sa < sb) else (false && decide (py < px))) by rw [HR0.out]; unfold aheadT; rw [if_neg (by omega)])
      clear HR0
      go_upto_region 22 with fail
      refine wp_region_held_drew (S := (fun W : World => Below w9.heap.size w9 W)) (by kernel_rfl) HQ2.out.drew (fun hHeld => ?_)
      refine wpAnyH_take (i := 0) (oi := ({ dst := some 106, op := Go.Op.load 27 (Go.Operand.tmp 4), type := 27, pos := "ref.go:149", after := #[], guard := none } : Oper)) (v := .agg (ta).toArray) rfl (by kernel_rfl) (by kernel_rfl) (by kernel_rfl) (fun _ _ _ h => h) (yieldsIf_load_mid (by rfl) _ _ rfl _ _ rfl _ _ (fun W h => RA.out W h) hu rfl HSa.out) hHeld ?_
      simp only [Act.put, List.setIfInBounds_toArray, List.set_cons_zero, List.set_cons_succ]
      refine wpAnyH_take (i := 2) (oi := ({ dst := some 108, op := Go.Op.load 27 (Go.Operand.tmp 5), type := 27, pos := "ref.go:149", after := #[], guard := none } : Oper)) (v := .agg (tb).toArray) rfl (by kernel_rfl) (by kernel_rfl) (by kernel_rfl) (fun _ _ _ h => h) (yieldsIf_load_mid (by rfl) _ _ rfl _ _ rfl _ _ (fun W h => RB.out W h) hu rfl HSb.out) hHeld ?_
      simp only [Act.put, List.setIfInBounds_toArray, List.set_cons_zero, List.set_cons_succ]
      refine wpAnyH_ready (rs := [1]) (by kernel_rfl) (by simp) ?_
      refine AllReadyH.cons (o := ({ dst := some 107, op := Go.Op.call { callee := Go.Callee.value (Go.Operand.func 15), args := #[Go.Operand.tmp 106], argTypes := #[27] }, type := 3, pos := "ref.go:149", after := #[{ on := 0, ground := Go.Ground.data }], guard := none } : Oper)) rfl (fun K hK => ?_) AllReadyH.nil
      go_simp
      go_at_call 15
      refine (CA.out _).mono ?_
      rintro e' wc ⟨rfl, hbc⟩
      refine hK.out _ _ (Below.trans hHeld (Below.mono hbc (Below.size hHeld))) (fun hHeld' => ?_)
      clear hK K hbc
      try clear hHeld
      try simp only [Act.put, List.setIfInBounds_toArray, List.set_cons_zero, List.set_cons_succ]
      refine wpAnyH_ready (rs := [3]) (by kernel_rfl) (by simp) ?_
      refine AllReadyH.cons (o := ({ dst := some 109, op := Go.Op.call { callee := Go.Callee.value (Go.Operand.func 15), args := #[Go.Operand.tmp 108], argTypes := #[27] }, type := 3, pos := "ref.go:149", after := #[{ on := 2, ground := Go.Ground.data }, { on := 1, ground := Go.Ground.chain }], guard := none } : Oper)) rfl (fun K hK => ?_) AllReadyH.nil
      go_simp
      go_at_call 15
      refine (CB.out _).mono ?_
      rintro e' wc ⟨rfl, hbc⟩
      refine hK.out _ _ (Below.trans hHeld' (Below.mono hbc (Below.size hHeld'))) (fun hHeld'' => ?_)
      clear hK K hbc
      try clear hHeld'
      try simp only [Act.put, List.setIfInBounds_toArray, List.set_cons_zero, List.set_cons_succ]
      refine wpAnyH_take (i := 4) (oi := ({ dst := some 110, op := Go.Op.binOp Go.BinOp.neq 3 (Go.Operand.tmp 107) (Go.Operand.tmp 109) 3, type := 4, pos := "ref.go:149", after := #[{ on := 1, ground := Go.Ground.data }, { on := 3, ground := Go.Ground.data }], guard := none } : Oper)) (v := .bool (decide (sa ≠ sb))) rfl (by kernel_rfl) (by kernel_rfl) (by kernel_rfl) (fun _ _ _ h => h) (Or.inl ⟨by rfl, fun w' _ => ?_⟩) hHeld'' ?_
      · (go_simp; exact ne_dec _ _)
      simp only [Act.put, List.setIfInBounds_toArray, List.set_cons_zero, List.set_cons_succ]
      refine wpAnyH_done (by kernel_rfl) ?_ _
      have T1_0 := Lib.hid hHeld''
      clear hHeld''
      by_cases hc8 : sa = sb
      case neg =>
        have HR := Lib.hid (show R = decide (sa < sb) by rw [HR1.out, if_pos hc8])
        have hq8 : decide (sa ≠ sb) = true := decide_eq_true hc8
        rw [hq8]
        clear HR1 hq8
        go_upto_region 23 with fail
        refine wp_region_held_drew (S := (fun W : World => Below w9.heap.size w9 W)) (by kernel_rfl) T1_0.out.drew (fun hHeld => ?_)
        refine wpAnyH_take (i := 0) (oi := ({ dst := some 111, op := Go.Op.load 27 (Go.Operand.tmp 4), type := 27, pos := "ref.go:150", after := #[], guard := none } : Oper)) (v := .agg (ta).toArray) rfl (by kernel_rfl) (by kernel_rfl) (by kernel_rfl) (fun _ _ _ h => h) (yieldsIf_load_mid (by rfl) _ _ rfl _ _ rfl _ _ (fun W h => RA.out W h) hu rfl HSa.out) hHeld ?_
        simp only [Act.put, List.setIfInBounds_toArray, List.set_cons_zero, List.set_cons_succ]
        refine wpAnyH_take (i := 2) (oi := ({ dst := some 113, op := Go.Op.load 27 (Go.Operand.tmp 5), type := 27, pos := "ref.go:150", after := #[], guard := none } : Oper)) (v := .agg (tb).toArray) rfl (by kernel_rfl) (by kernel_rfl) (by kernel_rfl) (fun _ _ _ h => h) (yieldsIf_load_mid (by rfl) _ _ rfl _ _ rfl _ _ (fun W h => RB.out W h) hu rfl HSb.out) hHeld ?_
        simp only [Act.put, List.setIfInBounds_toArray, List.set_cons_zero, List.set_cons_succ]
        refine wpAnyH_ready (rs := [1]) (by kernel_rfl) (by simp) ?_
        refine AllReadyH.cons (o := ({ dst := some 112, op := Go.Op.call { callee := Go.Callee.value (Go.Operand.func 15), args := #[Go.Operand.tmp 111], argTypes := #[27] }, type := 3, pos := "ref.go:150", after := #[{ on := 0, ground := Go.Ground.data }], guard := none } : Oper)) rfl (fun K hK => ?_) AllReadyH.nil
        go_simp
        go_at_call 15
        refine (CA.out _).mono ?_
        rintro e' wc ⟨rfl, hbc⟩
        refine hK.out _ _ (Below.trans hHeld (Below.mono hbc (Below.size hHeld))) (fun hHeld' => ?_)
        clear hK K hbc
        try clear hHeld
        try simp only [Act.put, List.setIfInBounds_toArray, List.set_cons_zero, List.set_cons_succ]
        refine wpAnyH_ready (rs := [3]) (by kernel_rfl) (by simp) ?_
        refine AllReadyH.cons (o := ({ dst := some 114, op := Go.Op.call { callee := Go.Callee.value (Go.Operand.func 15), args := #[Go.Operand.tmp 113], argTypes := #[27] }, type := 3, pos := "ref.go:150", after := #[{ on := 2, ground := Go.Ground.data }, { on := 1, ground := Go.Ground.chain }], guard := none } : Oper)) rfl (fun K hK => ?_) AllReadyH.nil
        go_simp
        go_at_call 15
        refine (CB.out _).mono ?_
        rintro e' wc ⟨rfl, hbc⟩
        refine hK.out _ _ (Below.trans hHeld' (Below.mono hbc (Below.size hHeld'))) (fun hHeld'' => ?_)
        clear hK K hbc
        try clear hHeld'
        try simp only [Act.put, List.setIfInBounds_toArray, List.set_cons_zero, List.set_cons_succ]
        refine wpAnyH_take (i := 4) (oi := ({ dst := some 115, op := Go.Op.binOp Go.BinOp.lss 3 (Go.Operand.tmp 112) (Go.Operand.tmp 114) 3, type := 4, pos := "ref.go:150", after := #[{ on := 1, ground := Go.Ground.data }, { on := 3, ground := Go.Ground.data }], guard := none } : Oper)) (v := .bool (decide (sa < sb))) rfl (by kernel_rfl) (by kernel_rfl) (by kernel_rfl) (fun _ _ _ h => h) (Or.inl ⟨by rfl, fun w' _ => ?_⟩) hHeld'' ?_
        · go_simp
        simp only [Act.put, List.setIfInBounds_toArray, List.set_cons_zero, List.set_cons_succ]
        refine wpAnyH_take (i := 5) (oi := ({ dst := some 6, op := Go.Op.assign (Go.Operand.tmp 115), type := 4, pos := "ref.go:150", after := #[{ on := 4, ground := Go.Ground.data }, { on := 3, ground := Go.Ground.chain }, { on := 0, ground := Go.Ground.phase }, { on := 1, ground := Go.Ground.phase }, { on := 2, ground := Go.Ground.phase }, { on := 3, ground := Go.Ground.phase }, { on := 4, ground := Go.Ground.phase }], guard := none } : Oper)) (v := .bool (decide (sa < sb))) rfl (by kernel_rfl) (by kernel_rfl) (by kernel_rfl) (fun _ _ _ h => h) (Or.inl ⟨by rfl, fun w' _ => ?_⟩) hHeld'' ?_
        · go_simp
        simp only [Act.put, List.setIfInBounds_toArray, List.set_cons_zero, List.set_cons_succ]
        refine wpAnyH_done (by kernel_rfl) ?_ _
        have T2_0 := Lib.hid hHeld''
        clear hHeld''
        go_wp2_with fail
        go_ret
        refine ⟨?_, HB9.out.trans (T2_0.out.mono HB9.out.size)⟩
        rw [HR.out]
        first | rfl | (simp; done) | (congr 2; simp)
      case pos =>
        have HR := Lib.hid (show R = (false && decide (py < px)) by rw [HR1.out, if_neg (fun h => h hc8)])
        have hq8 : decide (sa ≠ sb) = false := decide_eq_false (fun h => h hc8)
        rw [hq8]
        clear HR1 hq8
        go_upto_region 24 with fail
        go_quiet (fail)
        have hT3 := HB9.out.trans (T1_0.out.mono HB9.out.size)
        go_wp2_with fail
        go_ret
        refine ⟨?_, ⟨hT3.os, hT3.tape, hT3.output, hT3.size, hT3.block⟩⟩
        rw [HR.out]
        first | rfl | (simp; done) | (congr 2; simp)
  | true =>
    have HR02 := Lib.hid (show R = _ by rw [HR01.out, if_pos rfl])
    clear HR01
    go_upto_region 8 with fail
    refine wp_region_held_drew (S := (fun W : World => Below w9.heap.size w9 W)) (by kernel_rfl) HQ2.out.drew (fun hHeld => ?_)
    refine wpAnyH_take (i := 0) (oi := ({ dst := some 48, op := Go.Op.fieldAddr 42 (Go.Operand.tmp 7) 0, type := 0, pos := "ref.go:129", after := #[], guard := none } : Oper)) (v := .pointer (some ⟨GX, 0, none⟩)) rfl (by kernel_rfl) (by kernel_rfl) (by kernel_rfl) (fun _ _ _ h => h) (Or.inl ⟨by rfl, fun w' _ => ?_⟩) hHeld ?_
    · go_simp
    simp only [Act.put, List.setIfInBounds_toArray, List.set_cons_zero, List.set_cons_succ]
    refine wpAnyH_take (i := 1) (oi := ({ dst := some 49, op := Go.Op.load 27 (Go.Operand.tmp 48), type := 27, pos := "ref.go:129", after := #[{ on := 0, ground := Go.Ground.data }], guard := none } : Oper)) (v := .agg (xa).toArray) rfl (by kernel_rfl) (by kernel_rfl) (by kernel_rfl) (fun _ _ _ h => h) (yieldsIf_load_mid (by rfl) _ _ rfl _ _ rfl _ _ (fun W h => RX.out W h) hu rfl HSx.out) hHeld ?_
    simp only [Act.put, List.setIfInBounds_toArray, List.set_cons_zero, List.set_cons_succ]
    refine wpAnyH_take (i := 3) (oi := ({ dst := some 51, op := Go.Op.load 27 (Go.Operand.tmp 4), type := 27, pos := "ref.go:129", after := #[], guard := none } : Oper)) (v := .agg (ta).toArray) rfl (by kernel_rfl) (by kernel_rfl) (by kernel_rfl) (fun _ _ _ h => h) (yieldsIf_load_mid (by rfl) _ _ rfl _ _ rfl _ _ (fun W h => RA.out W h) hu rfl HSa.out) hHeld ?_
    simp only [Act.put, List.setIfInBounds_toArray, List.set_cons_zero, List.set_cons_succ]
    refine wpAnyH_ready (rs := [2]) (by kernel_rfl) (by simp) ?_
    refine AllReadyH.cons (o := ({ dst := some 50, op := Go.Op.call { callee := Go.Callee.value (Go.Operand.func 15), args := #[Go.Operand.tmp 49], argTypes := #[27] }, type := 3, pos := "ref.go:129", after := #[{ on := 1, ground := Go.Ground.data }], guard := none } : Oper)) rfl (fun K hK => ?_) AllReadyH.nil
    go_simp
    go_at_call 15
    refine (CX.out _).mono ?_
    rintro e' wc ⟨rfl, hbc⟩
    refine hK.out _ _ (Below.trans hHeld (Below.mono hbc (Below.size hHeld))) (fun hHeld' => ?_)
    clear hK K hbc
    try clear hHeld
    try simp only [Act.put, List.setIfInBounds_toArray, List.set_cons_zero, List.set_cons_succ]
    refine wpAnyH_ready (rs := [4]) (by kernel_rfl) (by simp) ?_
    refine AllReadyH.cons (o := ({ dst := some 52, op := Go.Op.call { callee := Go.Callee.value (Go.Operand.func 15), args := #[Go.Operand.tmp 51], argTypes := #[27] }, type := 3, pos := "ref.go:129", after := #[{ on := 3, ground := Go.Ground.data }, { on := 2, ground := Go.Ground.chain }], guard := none } : Oper)) rfl (fun K hK => ?_) AllReadyH.nil
    go_simp
    go_at_call 15
    refine (CA.out _).mono ?_
    rintro e' wc ⟨rfl, hbc⟩
    refine hK.out _ _ (Below.trans hHeld' (Below.mono hbc (Below.size hHeld'))) (fun hHeld'' => ?_)
    clear hK K hbc
    try clear hHeld'
    try simp only [Act.put, List.setIfInBounds_toArray, List.set_cons_zero, List.set_cons_succ]
    refine wpAnyH_take (i := 5) (oi := ({ dst := some 53, op := Go.Op.binOp Go.BinOp.eql 3 (Go.Operand.tmp 50) (Go.Operand.tmp 52) 3, type := 4, pos := "ref.go:129", after := #[{ on := 2, ground := Go.Ground.data }, { on := 4, ground := Go.Ground.data }], guard := none } : Oper)) (v := .bool (decide (sx = sa))) rfl (by kernel_rfl) (by kernel_rfl) (by kernel_rfl) (fun _ _ _ h => h) (Or.inl ⟨by rfl, fun w' _ => ?_⟩) hHeld'' ?_
    · (go_simp; exact eq_decI _ _)
    simp only [Act.put, List.setIfInBounds_toArray, List.set_cons_zero, List.set_cons_succ]
    refine wpAnyH_take (i := 6) (oi := ({ dst := some 15, op := Go.Op.assign (Go.Operand.tmp 53), type := 4, pos := "ref.go:129", after := #[{ on := 5, ground := Go.Ground.data }, { on := 4, ground := Go.Ground.chain }, { on := 0, ground := Go.Ground.phase }, { on := 1, ground := Go.Ground.phase }, { on := 2, ground := Go.Ground.phase }, { on := 3, ground := Go.Ground.phase }, { on := 4, ground := Go.Ground.phase }, { on := 5, ground := Go.Ground.phase }], guard := none } : Oper)) (v := .bool (decide (sx = sa))) rfl (by kernel_rfl) (by kernel_rfl) (by kernel_rfl) (fun _ _ _ h => h) (Or.inl ⟨by rfl, fun w' _ => ?_⟩) hHeld'' ?_
    · go_simp
    simp only [Act.put, List.setIfInBounds_toArray, List.set_cons_zero, List.set_cons_succ]
    refine wpAnyH_done (by kernel_rfl) ?_ _
    have HQ3 := Lib.hid hHeld''
    clear hHeld''
    go_upto_region 9 with fail
    refine wp_region_held_drew (S := (fun W : World => Below w9.heap.size w9 W)) (by kernel_rfl) HQ3.out.drew (fun hHeld => ?_)
    refine wpAnyH_take (i := 0) (oi := ({ dst := some 54, op := Go.Op.fieldAddr 42 (Go.Operand.tmp 9) 0, type := 0, pos := "ref.go:130", after := #[], guard := none } : Oper)) (v := .pointer (some ⟨GY, 0, none⟩)) rfl (by kernel_rfl) (by kernel_rfl) (by kernel_rfl) (fun _ _ _ h => h) (Or.inl ⟨by rfl, fun w' _ => ?_⟩) hHeld ?_
    · go_simp
    simp only [Act.put, List.setIfInBounds_toArray, List.set_cons_zero, List.set_cons_succ]
    refine wpAnyH_take (i := 1) (oi := ({ dst := some 55, op := Go.Op.load 27 (Go.Operand.tmp 54), type := 27, pos := "ref.go:130", after := #[{ on := 0, ground := Go.Ground.data }], guard := none } : Oper)) (v := .agg (ya).toArray) rfl (by kernel_rfl) (by kernel_rfl) (by kernel_rfl) (fun _ _ _ h => h) (yieldsIf_load_mid (by rfl) _ _ rfl _ _ rfl _ _ (fun W h => RY.out W h) hu rfl HSy.out) hHeld ?_
    simp only [Act.put, List.setIfInBounds_toArray, List.set_cons_zero, List.set_cons_succ]
    refine wpAnyH_take (i := 3) (oi := ({ dst := some 57, op := Go.Op.load 27 (Go.Operand.tmp 5), type := 27, pos := "ref.go:130", after := #[], guard := none } : Oper)) (v := .agg (tb).toArray) rfl (by kernel_rfl) (by kernel_rfl) (by kernel_rfl) (fun _ _ _ h => h) (yieldsIf_load_mid (by rfl) _ _ rfl _ _ rfl _ _ (fun W h => RB.out W h) hu rfl HSb.out) hHeld ?_
    simp only [Act.put, List.setIfInBounds_toArray, List.set_cons_zero, List.set_cons_succ]
    refine wpAnyH_ready (rs := [2]) (by kernel_rfl) (by simp) ?_
    refine AllReadyH.cons (o := ({ dst := some 56, op := Go.Op.call { callee := Go.Callee.value (Go.Operand.func 15), args := #[Go.Operand.tmp 55], argTypes := #[27] }, type := 3, pos := "ref.go:130", after := #[{ on := 1, ground := Go.Ground.data }], guard := none } : Oper)) rfl (fun K hK => ?_) AllReadyH.nil
    go_simp
    go_at_call 15
    refine (CY.out _).mono ?_
    rintro e' wc ⟨rfl, hbc⟩
    refine hK.out _ _ (Below.trans hHeld (Below.mono hbc (Below.size hHeld))) (fun hHeld' => ?_)
    clear hK K hbc
    try clear hHeld
    try simp only [Act.put, List.setIfInBounds_toArray, List.set_cons_zero, List.set_cons_succ]
    refine wpAnyH_ready (rs := [4]) (by kernel_rfl) (by simp) ?_
    refine AllReadyH.cons (o := ({ dst := some 58, op := Go.Op.call { callee := Go.Callee.value (Go.Operand.func 15), args := #[Go.Operand.tmp 57], argTypes := #[27] }, type := 3, pos := "ref.go:130", after := #[{ on := 3, ground := Go.Ground.data }, { on := 2, ground := Go.Ground.chain }], guard := none } : Oper)) rfl (fun K hK => ?_) AllReadyH.nil
    go_simp
    go_at_call 15
    refine (CB.out _).mono ?_
    rintro e' wc ⟨rfl, hbc⟩
    refine hK.out _ _ (Below.trans hHeld' (Below.mono hbc (Below.size hHeld'))) (fun hHeld'' => ?_)
    clear hK K hbc
    try clear hHeld'
    try simp only [Act.put, List.setIfInBounds_toArray, List.set_cons_zero, List.set_cons_succ]
    refine wpAnyH_take (i := 5) (oi := ({ dst := some 59, op := Go.Op.binOp Go.BinOp.eql 3 (Go.Operand.tmp 56) (Go.Operand.tmp 58) 3, type := 4, pos := "ref.go:130", after := #[{ on := 2, ground := Go.Ground.data }, { on := 4, ground := Go.Ground.data }], guard := none } : Oper)) (v := .bool (decide (sy = sb))) rfl (by kernel_rfl) (by kernel_rfl) (by kernel_rfl) (fun _ _ _ h => h) (Or.inl ⟨by rfl, fun w' _ => ?_⟩) hHeld'' ?_
    · (go_simp; exact eq_decI _ _)
    simp only [Act.put, List.setIfInBounds_toArray, List.set_cons_zero, List.set_cons_succ]
    refine wpAnyH_take (i := 6) (oi := ({ dst := some 16, op := Go.Op.assign (Go.Operand.tmp 59), type := 4, pos := "ref.go:130", after := #[{ on := 5, ground := Go.Ground.data }, { on := 4, ground := Go.Ground.chain }, { on := 0, ground := Go.Ground.phase }, { on := 1, ground := Go.Ground.phase }, { on := 2, ground := Go.Ground.phase }, { on := 3, ground := Go.Ground.phase }, { on := 4, ground := Go.Ground.phase }, { on := 5, ground := Go.Ground.phase }], guard := none } : Oper)) (v := .bool (decide (sy = sb))) rfl (by kernel_rfl) (by kernel_rfl) (by kernel_rfl) (fun _ _ _ h => h) (Or.inl ⟨by rfl, fun w' _ => ?_⟩) hHeld'' ?_
    · go_simp
    simp only [Act.put, List.setIfInBounds_toArray, List.set_cons_zero, List.set_cons_succ]
    refine wpAnyH_done (by kernel_rfl) ?_ _
    have HQ4 := Lib.hid hHeld''
    clear hHeld''
    generalize decide (sx = sa) = s1 at *
    generalize decide (sy = sb) = s2 at *
    have d1 := DX.out _ HQ4.out
    have d2 := DY.out _ HQ4.out
    have d3 := HHX.out _ HQ4.out
    have d4 := HHY.out _ HQ4.out
    by_cases hc1 : (!(s1 == s2)) = true
    · have HR := Lib.hid (show R = s1 by rw [HR02.out, if_pos hc1])
      clear HR02
      go_wp2_with fail
      go_ret
      refine ⟨?_, HB9.out.trans (HQ4.out.mono HB9.out.size)⟩
      rw [HR.out]
      first | rfl | (simp; done) | (congr 2; simp)
    have HR03 := Lib.hid (show R = _ by rw [HR02.out, if_neg hc1])
    clear HR02
    by_cases hc2 : (!(xd == yd)) = true
    · have HR := Lib.hid (show R = yd by rw [HR03.out, if_pos hc2])
      clear HR03
      go_wp2_with fail
      go_ret
      refine ⟨?_, HB9.out.trans (HQ4.out.mono HB9.out.size)⟩
      rw [HR.out]
      first | rfl | (simp; done) | (congr 2; simp)
    have HR04 := Lib.hid (show R = _ by rw [HR03.out, if_neg hc2])
    clear HR03
    by_cases hc3 : (!(xh == yh)) = true
    · have HR := Lib.hid (show R = xh by rw [HR04.out, if_pos hc3])
      clear HR04
      go_wp2_with fail
      go_ret
      refine ⟨?_, HB9.out.trans (HQ4.out.mono HB9.out.size)⟩
      rw [HR.out]
      first | rfl | (simp; done) | (congr 2; simp)
    have HR05 := Lib.hid (show R = _ by rw [HR04.out, if_neg hc3])
    clear HR04
    go_wp2_with (refine wpList_load_agg rfl 27 (.tmp 79) rfl ⟨GX, 0, none⟩ rfl xa.toArray _ (LX.out _ HQ4.out) Tryd.underlying27 rfl HSx.out ?_; go_simp)
    refine (QX.out _).mono ?_
    rintro e w12 ⟨rfl, hbn⟩
    have HQ5 := Lib.hid (HQ4.out.trans (hbn.mono HQ4.out.size))
    clear hbn
    go_wp2_with (refine wpList_load_agg rfl 27 (.tmp 85) rfl ⟨GY, 0, none⟩ rfl ya.toArray _ (LY.out _ HQ5.out) Tryd.underlying27 rfl HSy.out ?_; go_simp)
    refine (QY.out _).mono ?_
    rintro e w13 ⟨rfl, hbn⟩
    have HQ6 := Lib.hid (HQ5.out.trans (hbn.mono HQ5.out.size))
    clear hbn
    clear d1 d2 d3 d4
    by_cases hc4 : (!((lx : Int) == (la : Int)) == ((ly : Int) == (lb : Int))) = true
    · have HR := Lib.hid (show R = ((lx : Int) == (la : Int)) by rw [HR05.out, if_pos hc4])
      clear HR05
      go_wp2_with fail
      go_ret
      refine ⟨?_, HB9.out.trans (HQ6.out.mono HB9.out.size)⟩
      rw [HR.out]
      first | rfl | (simp; done) | (congr 2; simp)
    have HR0 := Lib.hid (show R = aheadT true qa qb sa sb (decide (py < px)) by rw [HR05.out, if_neg hc4])
    clear HR05
    by_cases hc7 : (qa : Int) = (qb : Int)
    case neg =>
      have HR := Lib.hid (show R = decide ((qb : Int) < (qa : Int)) by rw [HR0.out]; unfold aheadT; rw [if_pos (by omega)]; rw [Bool.eq_iff_iff, decide_eq_true_iff, decide_eq_true_iff]; omega)
      clear HR0
      go_wp2_with fail
      go_ret
      refine ⟨?_, HB9.out.trans (HQ6.out.mono HB9.out.size)⟩
      rw [HR.out]
      first | rfl | (simp; done) | (congr 2; simp)
    case pos =>
      have HR1 := Lib.hid (show R = (if sa ≠ sb then decide (sa < sb) else (true && decide (py < px))) by rw [HR0.out]; unfold aheadT; rw [if_neg (by omega)])
      clear HR0
      go_upto_region 22 with fail
      refine wp_region_held_drew (S := (fun W : World => Below w9.heap.size w9 W)) (by kernel_rfl) HQ6.out.drew (fun hHeld => ?_)
      refine wpAnyH_take (i := 0) (oi := ({ dst := some 106, op := Go.Op.load 27 (Go.Operand.tmp 4), type := 27, pos := "ref.go:149", after := #[], guard := none } : Oper)) (v := .agg (ta).toArray) rfl (by kernel_rfl) (by kernel_rfl) (by kernel_rfl) (fun _ _ _ h => h) (yieldsIf_load_mid (by rfl) _ _ rfl _ _ rfl _ _ (fun W h => RA.out W h) hu rfl HSa.out) hHeld ?_
      simp only [Act.put, List.setIfInBounds_toArray, List.set_cons_zero, List.set_cons_succ]
      refine wpAnyH_take (i := 2) (oi := ({ dst := some 108, op := Go.Op.load 27 (Go.Operand.tmp 5), type := 27, pos := "ref.go:149", after := #[], guard := none } : Oper)) (v := .agg (tb).toArray) rfl (by kernel_rfl) (by kernel_rfl) (by kernel_rfl) (fun _ _ _ h => h) (yieldsIf_load_mid (by rfl) _ _ rfl _ _ rfl _ _ (fun W h => RB.out W h) hu rfl HSb.out) hHeld ?_
      simp only [Act.put, List.setIfInBounds_toArray, List.set_cons_zero, List.set_cons_succ]
      refine wpAnyH_ready (rs := [1]) (by kernel_rfl) (by simp) ?_
      refine AllReadyH.cons (o := ({ dst := some 107, op := Go.Op.call { callee := Go.Callee.value (Go.Operand.func 15), args := #[Go.Operand.tmp 106], argTypes := #[27] }, type := 3, pos := "ref.go:149", after := #[{ on := 0, ground := Go.Ground.data }], guard := none } : Oper)) rfl (fun K hK => ?_) AllReadyH.nil
      go_simp
      go_at_call 15
      refine (CA.out _).mono ?_
      rintro e' wc ⟨rfl, hbc⟩
      refine hK.out _ _ (Below.trans hHeld (Below.mono hbc (Below.size hHeld))) (fun hHeld' => ?_)
      clear hK K hbc
      try clear hHeld
      try simp only [Act.put, List.setIfInBounds_toArray, List.set_cons_zero, List.set_cons_succ]
      refine wpAnyH_ready (rs := [3]) (by kernel_rfl) (by simp) ?_
      refine AllReadyH.cons (o := ({ dst := some 109, op := Go.Op.call { callee := Go.Callee.value (Go.Operand.func 15), args := #[Go.Operand.tmp 108], argTypes := #[27] }, type := 3, pos := "ref.go:149", after := #[{ on := 2, ground := Go.Ground.data }, { on := 1, ground := Go.Ground.chain }], guard := none } : Oper)) rfl (fun K hK => ?_) AllReadyH.nil
      go_simp
      go_at_call 15
      refine (CB.out _).mono ?_
      rintro e' wc ⟨rfl, hbc⟩
      refine hK.out _ _ (Below.trans hHeld' (Below.mono hbc (Below.size hHeld'))) (fun hHeld'' => ?_)
      clear hK K hbc
      try clear hHeld'
      try simp only [Act.put, List.setIfInBounds_toArray, List.set_cons_zero, List.set_cons_succ]
      refine wpAnyH_take (i := 4) (oi := ({ dst := some 110, op := Go.Op.binOp Go.BinOp.neq 3 (Go.Operand.tmp 107) (Go.Operand.tmp 109) 3, type := 4, pos := "ref.go:149", after := #[{ on := 1, ground := Go.Ground.data }, { on := 3, ground := Go.Ground.data }], guard := none } : Oper)) (v := .bool (decide (sa ≠ sb))) rfl (by kernel_rfl) (by kernel_rfl) (by kernel_rfl) (fun _ _ _ h => h) (Or.inl ⟨by rfl, fun w' _ => ?_⟩) hHeld'' ?_
      · (go_simp; exact ne_dec _ _)
      simp only [Act.put, List.setIfInBounds_toArray, List.set_cons_zero, List.set_cons_succ]
      refine wpAnyH_done (by kernel_rfl) ?_ _
      have T1_1 := Lib.hid hHeld''
      clear hHeld''
      by_cases hc8 : sa = sb
      case neg =>
        have HR := Lib.hid (show R = decide (sa < sb) by rw [HR1.out, if_pos hc8])
        have hq8 : decide (sa ≠ sb) = true := decide_eq_true hc8
        rw [hq8]
        clear HR1 hq8
        go_upto_region 23 with fail
        refine wp_region_held_drew (S := (fun W : World => Below w9.heap.size w9 W)) (by kernel_rfl) T1_1.out.drew (fun hHeld => ?_)
        refine wpAnyH_take (i := 0) (oi := ({ dst := some 111, op := Go.Op.load 27 (Go.Operand.tmp 4), type := 27, pos := "ref.go:150", after := #[], guard := none } : Oper)) (v := .agg (ta).toArray) rfl (by kernel_rfl) (by kernel_rfl) (by kernel_rfl) (fun _ _ _ h => h) (yieldsIf_load_mid (by rfl) _ _ rfl _ _ rfl _ _ (fun W h => RA.out W h) hu rfl HSa.out) hHeld ?_
        simp only [Act.put, List.setIfInBounds_toArray, List.set_cons_zero, List.set_cons_succ]
        refine wpAnyH_take (i := 2) (oi := ({ dst := some 113, op := Go.Op.load 27 (Go.Operand.tmp 5), type := 27, pos := "ref.go:150", after := #[], guard := none } : Oper)) (v := .agg (tb).toArray) rfl (by kernel_rfl) (by kernel_rfl) (by kernel_rfl) (fun _ _ _ h => h) (yieldsIf_load_mid (by rfl) _ _ rfl _ _ rfl _ _ (fun W h => RB.out W h) hu rfl HSb.out) hHeld ?_
        simp only [Act.put, List.setIfInBounds_toArray, List.set_cons_zero, List.set_cons_succ]
        refine wpAnyH_ready (rs := [1]) (by kernel_rfl) (by simp) ?_
        refine AllReadyH.cons (o := ({ dst := some 112, op := Go.Op.call { callee := Go.Callee.value (Go.Operand.func 15), args := #[Go.Operand.tmp 111], argTypes := #[27] }, type := 3, pos := "ref.go:150", after := #[{ on := 0, ground := Go.Ground.data }], guard := none } : Oper)) rfl (fun K hK => ?_) AllReadyH.nil
        go_simp
        go_at_call 15
        refine (CA.out _).mono ?_
        rintro e' wc ⟨rfl, hbc⟩
        refine hK.out _ _ (Below.trans hHeld (Below.mono hbc (Below.size hHeld))) (fun hHeld' => ?_)
        clear hK K hbc
        try clear hHeld
        try simp only [Act.put, List.setIfInBounds_toArray, List.set_cons_zero, List.set_cons_succ]
        refine wpAnyH_ready (rs := [3]) (by kernel_rfl) (by simp) ?_
        refine AllReadyH.cons (o := ({ dst := some 114, op := Go.Op.call { callee := Go.Callee.value (Go.Operand.func 15), args := #[Go.Operand.tmp 113], argTypes := #[27] }, type := 3, pos := "ref.go:150", after := #[{ on := 2, ground := Go.Ground.data }, { on := 1, ground := Go.Ground.chain }], guard := none } : Oper)) rfl (fun K hK => ?_) AllReadyH.nil
        go_simp
        go_at_call 15
        refine (CB.out _).mono ?_
        rintro e' wc ⟨rfl, hbc⟩
        refine hK.out _ _ (Below.trans hHeld' (Below.mono hbc (Below.size hHeld'))) (fun hHeld'' => ?_)
        clear hK K hbc
        try clear hHeld'
        try simp only [Act.put, List.setIfInBounds_toArray, List.set_cons_zero, List.set_cons_succ]
        refine wpAnyH_take (i := 4) (oi := ({ dst := some 115, op := Go.Op.binOp Go.BinOp.lss 3 (Go.Operand.tmp 112) (Go.Operand.tmp 114) 3, type := 4, pos := "ref.go:150", after := #[{ on := 1, ground := Go.Ground.data }, { on := 3, ground := Go.Ground.data }], guard := none } : Oper)) (v := .bool (decide (sa < sb))) rfl (by kernel_rfl) (by kernel_rfl) (by kernel_rfl) (fun _ _ _ h => h) (Or.inl ⟨by rfl, fun w' _ => ?_⟩) hHeld'' ?_
        · go_simp
        simp only [Act.put, List.setIfInBounds_toArray, List.set_cons_zero, List.set_cons_succ]
        refine wpAnyH_take (i := 5) (oi := ({ dst := some 6, op := Go.Op.assign (Go.Operand.tmp 115), type := 4, pos := "ref.go:150", after := #[{ on := 4, ground := Go.Ground.data }, { on := 3, ground := Go.Ground.chain }, { on := 0, ground := Go.Ground.phase }, { on := 1, ground := Go.Ground.phase }, { on := 2, ground := Go.Ground.phase }, { on := 3, ground := Go.Ground.phase }, { on := 4, ground := Go.Ground.phase }], guard := none } : Oper)) (v := .bool (decide (sa < sb))) rfl (by kernel_rfl) (by kernel_rfl) (by kernel_rfl) (fun _ _ _ h => h) (Or.inl ⟨by rfl, fun w' _ => ?_⟩) hHeld'' ?_
        · go_simp
        simp only [Act.put, List.setIfInBounds_toArray, List.set_cons_zero, List.set_cons_succ]
        refine wpAnyH_done (by kernel_rfl) ?_ _
        have T2_1 := Lib.hid hHeld''
        clear hHeld''
        go_wp2_with fail
        go_ret
        refine ⟨?_, HB9.out.trans (T2_1.out.mono HB9.out.size)⟩
        rw [HR.out]
        first | rfl | (simp; done) | (congr 2; simp)
      case pos =>
        have HR := Lib.hid (show R = (true && decide (py < px)) by rw [HR1.out, if_neg (fun h => h hc8)])
        have hq8 : decide (sa ≠ sb) = false := decide_eq_false (fun h => h hc8)
        rw [hq8]
        clear HR1 hq8
        go_upto_region 24 with fail
        refine wp_region_held_drew (S := (fun W : World => Below w9.heap.size w9 W)) (by kernel_rfl) T1_1.out.drew (fun hHeld => ?_)
        refine wpAnyH_take (i := 0) (oi := ({ dst := some 116, op := Go.Op.move (Go.Operand.tmp 8), type := 4, pos := "ref.go:152", after := #[], guard := none } : Oper)) (v := .bool true) rfl (by kernel_rfl) (by kernel_rfl) (by kernel_rfl) (fun _ _ _ h => h) (Or.inl ⟨by rfl, fun w' _ => ?_⟩) hHeld ?_
        · go_simp
        simp only [Act.put, List.setIfInBounds_toArray, List.set_cons_zero, List.set_cons_succ]
        refine wpAnyH_take (i := 1) (oi := ({ dst := some 117, op := Go.Op.move (Go.Operand.tmp 116), type := 4, pos := "ref.go:152", after := #[{ on := 0, ground := Go.Ground.data }], guard := none } : Oper)) (v := .bool true) rfl (by kernel_rfl) (by kernel_rfl) (by kernel_rfl) (fun _ _ _ h => h) (Or.inl ⟨by rfl, fun w' _ => ?_⟩) hHeld ?_
        · go_simp
        simp only [Act.put, List.setIfInBounds_toArray, List.set_cons_zero, List.set_cons_succ]
        refine wpAnyH_take (i := 2) (oi := ({ dst := some 118, op := Go.Op.fieldAddr 42 (Go.Operand.tmp 7) 0, type := 0, pos := "ref.go:152", after := #[{ on := 1, ground := Go.Ground.guard }], guard := some (1, true) } : Oper)) (v := .pointer (some ⟨GX, 0, none⟩)) rfl (by kernel_rfl) (by kernel_rfl) (by kernel_rfl) (fun _ _ _ h => h) (Or.inl ⟨by kernel_rfl, fun w' _ => ?_⟩) hHeld ?_
        · go_simp
        simp only [Act.put, List.setIfInBounds_toArray, List.set_cons_zero, List.set_cons_succ]
        refine wpAnyH_take (i := 3) (oi := ({ dst := some 119, op := Go.Op.load 27 (Go.Operand.tmp 118), type := 27, pos := "ref.go:152", after := #[{ on := 2, ground := Go.Ground.data }, { on := 1, ground := Go.Ground.guard }], guard := some (1, true) } : Oper)) (v := .agg (xa).toArray) rfl (by kernel_rfl) (by kernel_rfl) (by kernel_rfl) (fun _ _ _ h => h) (yieldsIf_load_mid (by kernel_rfl) _ _ rfl _ _ rfl _ _ (fun W h => RX.out W h) hu rfl HSx.out) hHeld ?_
        simp only [Act.put, List.setIfInBounds_toArray, List.set_cons_zero, List.set_cons_succ]
        refine wpAnyH_take (i := 4) (oi := ({ dst := some 120, op := Go.Op.load 27 (Go.Operand.tmp 4), type := 27, pos := "ref.go:152", after := #[{ on := 1, ground := Go.Ground.guard }], guard := some (1, true) } : Oper)) (v := .agg (ta).toArray) rfl (by kernel_rfl) (by kernel_rfl) (by kernel_rfl) (fun _ _ _ h => h) (yieldsIf_load_mid (by kernel_rfl) _ _ rfl _ _ rfl _ _ (fun W h => RA.out W h) hu rfl HSa.out) hHeld ?_
        simp only [Act.put, List.setIfInBounds_toArray, List.set_cons_zero, List.set_cons_succ]
        refine wpAnyH_take (i := 6) (oi := ({ dst := some 122, op := Go.Op.fieldAddr 42 (Go.Operand.tmp 9) 0, type := 0, pos := "ref.go:152", after := #[{ on := 1, ground := Go.Ground.guard }], guard := some (1, true) } : Oper)) (v := .pointer (some ⟨GY, 0, none⟩)) rfl (by kernel_rfl) (by kernel_rfl) (by kernel_rfl) (fun _ _ _ h => h) (Or.inl ⟨by kernel_rfl, fun w' _ => ?_⟩) hHeld ?_
        · go_simp
        simp only [Act.put, List.setIfInBounds_toArray, List.set_cons_zero, List.set_cons_succ]
        refine wpAnyH_take (i := 7) (oi := ({ dst := some 123, op := Go.Op.load 27 (Go.Operand.tmp 122), type := 27, pos := "ref.go:152", after := #[{ on := 6, ground := Go.Ground.data }, { on := 1, ground := Go.Ground.guard }], guard := some (1, true) } : Oper)) (v := .agg (ya).toArray) rfl (by kernel_rfl) (by kernel_rfl) (by kernel_rfl) (fun _ _ _ h => h) (yieldsIf_load_mid (by kernel_rfl) _ _ rfl _ _ rfl _ _ (fun W h => RY.out W h) hu rfl HSy.out) hHeld ?_
        simp only [Act.put, List.setIfInBounds_toArray, List.set_cons_zero, List.set_cons_succ]
        refine wpAnyH_take (i := 8) (oi := ({ dst := some 124, op := Go.Op.load 27 (Go.Operand.tmp 5), type := 27, pos := "ref.go:152", after := #[{ on := 1, ground := Go.Ground.guard }], guard := some (1, true) } : Oper)) (v := .agg (tb).toArray) rfl (by kernel_rfl) (by kernel_rfl) (by kernel_rfl) (fun _ _ _ h => h) (yieldsIf_load_mid (by kernel_rfl) _ _ rfl _ _ rfl _ _ (fun W h => RB.out W h) hu rfl HSb.out) hHeld ?_
        simp only [Act.put, List.setIfInBounds_toArray, List.set_cons_zero, List.set_cons_succ]
        refine wpAnyH_ready (rs := [5]) (by kernel_rfl) (by simp) ?_
        refine AllReadyH.cons (o := ({ dst := some 121, op := Go.Op.call { callee := Go.Callee.value (Go.Operand.func 24), args := #[Go.Operand.tmp 119, Go.Operand.tmp 120], argTypes := #[27, 27] }, type := 3, pos := "ref.go:152", after := #[{ on := 3, ground := Go.Ground.data }, { on := 4, ground := Go.Ground.data }, { on := 1, ground := Go.Ground.chain }, { on := 1, ground := Go.Ground.guard }], guard := some (1, true) } : Oper)) rfl (fun K hK => ?_) AllReadyH.nil
        rw [if_pos (by kernel_rfl)]
        go_simp
        go_at_call 24
        refine (SX.out _).mono ?_
        rintro e' wc ⟨rfl, hbc⟩
        refine hK.out _ _ (Below.trans hHeld (Below.mono hbc (Below.size hHeld))) (fun hHeld' => ?_)
        clear hK K hbc
        try clear hHeld
        try simp only [Act.put, List.setIfInBounds_toArray, List.set_cons_zero, List.set_cons_succ]
        refine wpAnyH_ready (rs := [9]) (by kernel_rfl) (by simp) ?_
        refine AllReadyH.cons (o := ({ dst := some 125, op := Go.Op.call { callee := Go.Callee.value (Go.Operand.func 24), args := #[Go.Operand.tmp 123, Go.Operand.tmp 124], argTypes := #[27, 27] }, type := 3, pos := "ref.go:152", after := #[{ on := 7, ground := Go.Ground.data }, { on := 8, ground := Go.Ground.data }, { on := 5, ground := Go.Ground.chain }, { on := 1, ground := Go.Ground.guard }], guard := some (1, true) } : Oper)) rfl (fun K hK => ?_) AllReadyH.nil
        rw [if_pos (by kernel_rfl)]
        go_simp
        go_at_call 24
        refine (SY.out _).mono ?_
        rintro e' wc ⟨rfl, hbc⟩
        refine hK.out _ _ (Below.trans hHeld' (Below.mono hbc (Below.size hHeld'))) (fun hHeld'' => ?_)
        clear hK K hbc
        try clear hHeld'
        try simp only [Act.put, List.setIfInBounds_toArray, List.set_cons_zero, List.set_cons_succ]
        refine wpAnyH_take (i := 10) (oi := ({ dst := some 126, op := Go.Op.binOp Go.BinOp.gtr 3 (Go.Operand.tmp 121) (Go.Operand.tmp 125) 3, type := 4, pos := "ref.go:152", after := #[{ on := 5, ground := Go.Ground.data }, { on := 9, ground := Go.Ground.data }, { on := 1, ground := Go.Ground.guard }], guard := some (1, true) } : Oper)) (v := .bool (decide (py < px))) rfl (by kernel_rfl) (by kernel_rfl) (by kernel_rfl) (fun _ _ _ h => h) (Or.inl ⟨by kernel_rfl, fun w' _ => ?_⟩) hHeld'' ?_
        · go_simp
        simp only [Act.put, List.setIfInBounds_toArray, List.set_cons_zero, List.set_cons_succ]
        refine wpAnyH_take (i := 11) (oi := ({ dst := some 127, op := Go.Op.pick (Go.Operand.tmp 117) (Go.Operand.tmp 126) (Go.Operand.const (Go.Value.bool false)), type := 4, pos := "ref.go:152", after := #[{ on := 1, ground := Go.Ground.data }, { on := 10, ground := Go.Ground.data }], guard := none } : Oper)) (v := .bool (decide (py < px))) rfl (by kernel_rfl) (by kernel_rfl) (by kernel_rfl) (fun _ _ _ h => h) (Or.inl ⟨by rfl, fun w' _ => ?_⟩) hHeld'' ?_
        · go_simp
        simp only [Act.put, List.setIfInBounds_toArray, List.set_cons_zero, List.set_cons_succ]
        refine wpAnyH_take (i := 12) (oi := ({ dst := some 6, op := Go.Op.assign (Go.Operand.tmp 127), type := 4, pos := "ref.go:152", after := #[{ on := 11, ground := Go.Ground.data }, { on := 9, ground := Go.Ground.chain }, { on := 0, ground := Go.Ground.phase }, { on := 1, ground := Go.Ground.phase }, { on := 2, ground := Go.Ground.phase }, { on := 3, ground := Go.Ground.phase }, { on := 4, ground := Go.Ground.phase }, { on := 5, ground := Go.Ground.phase }, { on := 6, ground := Go.Ground.phase }, { on := 7, ground := Go.Ground.phase }, { on := 8, ground := Go.Ground.phase }, { on := 9, ground := Go.Ground.phase }, { on := 10, ground := Go.Ground.phase }, { on := 11, ground := Go.Ground.phase }], guard := none } : Oper)) (v := .bool (decide (py < px))) rfl (by kernel_rfl) (by kernel_rfl) (by kernel_rfl) (fun _ _ _ h => h) (Or.inl ⟨by rfl, fun w' _ => ?_⟩) hHeld'' ?_
        · go_simp
        simp only [Act.put, List.setIfInBounds_toArray, List.set_cons_zero, List.set_cons_succ]
        refine wpAnyH_done (by kernel_rfl) ?_ _
        have T3_1 := Lib.hid hHeld''
        clear hHeld''
        go_wp2_with fail
        go_ret
        refine ⟨?_, HB9.out.trans (T3_1.out.mono HB9.out.size)⟩
        rw [HR.out]
        first | rfl | (simp; done) | (congr 2; simp)
end Go.Proofs.YtoaedlllnkcfnaaDoor
