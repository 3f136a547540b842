/-
  The walks of addr.V4, addr.Is4 and llmnr.family: what they answer. No condition but sixteen bytes.
-/
import Derived.Test.YtakfokdjdljjjaaDoorMsgV4
import Derived.Deep.RegionHeld3
import Derived.Deep.RegionLaw
namespace Go.Proofs.YtakfokdjdljjjaaDoor
open Go.RowKit

def isV4 (x : List UInt8) : Bool := x == pre4 ++ x.drop 12
theorem builtNone : Tryd.prog.built 40 [] = some (bvs zero16).toArray := by kernel_rfl
theorem builtAll (a b c d : Int) : Tryd.prog.built 40 [(10, .int .u8 255), (11, .int .u8 255), (12, .int .u8 a), (13, .int .u8 b), (14, .int .u8 c), (15, .int .u8 d)] = some #[.int .u8 0, .int .u8 0, .int .u8 0, .int .u8 0, .int .u8 0, .int .u8 0, .int .u8 0, .int .u8 0, .int .u8 0, .int .u8 0, .int .u8 255, .int .u8 255, .int .u8 a, .int .u8 b, .int .u8 c, .int .u8 d] := by
  kernel_rfl
theorem builtV4 (x y z u : UInt8) : Tryd.prog.built 40 [(10, .int .u8 255), (11, .int .u8 255), (12, .int .u8 x.toNat), (13, .int .u8 y.toNat), (14, .int .u8 z.toNat), (15, .int .u8 u.toNat)] = some (bvs (pre4 ++ [x, y, z, u])).toArray := builtAll _ _ _ _
set_option maxRecDepth 100000 in
set_option maxHeartbeats 1000000 in
theorem v4a_e (x y z u : UInt8) (w : World) :
    Calls Tryd.prog 13 #[.int .u8 x.toNat, .int .u8 y.toNat, .int .u8 z.toNat, .int .u8 u.toNat] w fun e w' => e = .returned (.agg (bvs (pre4 ++ [x, y, z, u])).toArray) ∧ Below w.heap.size w w' := by
  have hl : (pre4 ++ [x, y, z, u]).length = 16 := rfl
  have hs := sizeBv hl
  have h1 := oneBv (pre4 ++ [x, y, z, u])
  have hz : (bvs zero16).toArray.size = (bvs (pre4 ++ [x, y, z, u])).toArray.size := rfl
  have zA := zeroAddr
  have hb := builtV4 x y z u
  revert hs h1 hz zA hb
  generalize (bvs (pre4 ++ [x, y, z, u])).toArray = r
  generalize (bvs zero16).toArray = zz
  intro hs h1 hz zA hb
  have HS := Lib.hid hs
  have H1 := Lib.hid h1
  have HZ := Lib.hid hz
  have ZA := Lib.hid zA
  have HB := Lib.hid hb
  clear hs h1 hz zA hb hl
  go_enter Tryd.func13, Tryd.ntmps13
  go_wp2_with (first
    | (refine wpList_alloc_z rfl 40 rfl zz ZA.out ?_; go_simp)
    | (refine wpList_build_z rfl 40 #[(10, .const (.int .u8 255)), (11, .const (.int .u8 255)), (12, .tmp 9), (13, .tmp 10), (14, .tmp 11), (15, .tmp 12)] rfl r HB.out ?_; go_simp)
    | (refine wpList_store_new rfl 40 (.tmp 8) (.tmp 13) rfl w.heap.size rfl zz r 40 rfl rfl HS.out HZ.out H1.out ?_; go_simp))
  exact bodyPost_ret (results_cell_row rfl _ _ w.heap.size 40 r (0, 0) _ rfl (heap_alloc_last w _) Tryd.underlying40 rfl HS.out) rfl ⟨rfl, (Below.refl _ w).alloc (Nat.le_refl _) _⟩

theorem drop12 {x : List UInt8} (h : x.length = 16) : pre4 ++ x.drop 12 = pre4 ++ [x.getD 12 0, x.getD 13 0, x.getD 14 0, x.getD 15 0] := by
  obtain ⟨a, b, c, d, e, f, g, i, j, k, l, m, n, o, p, q, rfl⟩ := list16 h
  rfl
set_option maxRecDepth 100000 in
set_option maxHeartbeats 1000000 in
theorem is4a_e (x : List UInt8) (hx : x.length = 16) (w : World) :
    Calls Tryd.prog 11 #[.agg (bvs x).toArray] w fun e w' => e = .returned (.bool (isV4 x)) ∧ Below w.heap.size w w' := by
  have hq : ∀ W : World, (Op.equalIn 10000 40 (.agg (bvs x).toArray) (.agg (bvs (pre4 ++ [x.getD 12 0, x.getD 13 0, x.getD 14 0, x.getD 15 0])).toArray)).run Tryd.prog W = .ok (isV4 x) W := fun W => by
    have := eq_addr 9998 W hx (y := pre4 ++ [x.getD 12 0, x.getD 13 0, x.getD 14 0, x.getD 15 0]) rfl
    unfold isV4
    rw [drop12 hx]; exact this
  have C := fun W => v4a_e (x.getD 12 0) (x.getD 13 0) (x.getD 14 0) (x.getD 15 0) W
  have hsz : (Tryd.prog.info? 40).map (·.size) = some (bvs x).length := by rw [sizeAddr, bvs_length, hx]
  have hu := Tryd.underlying40
  have hat : ∀ j, j < 16 → (bvs x)[j]? = some (.int .u8 (x.getD j 0).toNat) := fun j hj => bvs_at (by omega)
  have h12 := hat 12 (by decide)
  have h13 := hat 13 (by decide)
  have h14 := hat 14 (by decide)
  have h15 := hat 15 (by decide)
  have HC := Lib.hid C
  clear C hat
  revert HC hq h12 h13 h14 h15 hsz
  generalize (bvs (pre4 ++ [x.getD 12 0, x.getD 13 0, x.getD 14 0, x.getD 15 0])).toArray = r
  generalize isV4 x = res
  generalize bvs x = cs
  generalize Value.int .u8 (x.getD 12 0).toNat = x12
  generalize Value.int .u8 (x.getD 13 0).toNat = x13
  generalize Value.int .u8 (x.getD 14 0).toNat = x14
  generalize Value.int .u8 (x.getD 15 0).toNat = x15
  intro hq hsz h12 h13 h14 h15 HC
  clear hx
  have hr : (w.alloc (.cells cs.toArray 40)).rangeAt w.heap.size 0 cs := fun j v hj => by
    rw [Nat.zero_add, World.cell?_alloc_mark]; simpa using hj
  have hlt : w.heap.size < (w.alloc (.cells cs.toArray 40)).heap.size := by rw [World.size_alloc]; omega
  have d12 := hr 12 _ h12
  have d13 := hr 13 _ h13
  have d14 := hr 14 _ h14
  have d15 := hr 15 _ h15
  rw [Nat.zero_add] at d12 d13 d14 d15
  go_enter Tryd.func11, Tryd.ntmps11
  go_wp2_with fail
  go_region_held3 (fun w' => w'.rangeAt w.heap.size 0 cs ∧ w'.cell? ⟨w.heap.size, 12, none⟩ = some x12 ∧ w'.cell? ⟨w.heap.size, 13, none⟩ = some x13 ∧ w'.cell? ⟨w.heap.size, 14, none⟩ = some x14 ∧ w'.cell? ⟨w.heap.size, 15, none⟩ = some x15)
    (first
      | go_keep
      | exact ⟨hr, d12, d13, d14, d15⟩
      | exact ⟨er, e12, e13, e14, e15⟩)
    (first
      | (go_at_call 13; refine (HC.out _).mono ?_; rintro e' w1 ⟨rfl, hb1⟩; have er : w1.rangeAt w.heap.size 0 cs := (fun j v hj => (hb1.cell (p := ⟨w.heap.size, 0 + j, none⟩) hlt).trans (hr j v hj)); have e12 := (hb1.cell (p := ⟨w.heap.size, 12, none⟩) hlt).trans d12; have e13 := (hb1.cell (p := ⟨w.heap.size, 13, none⟩) hlt).trans d13; have e14 := (hb1.cell (p := ⟨w.heap.size, 14, none⟩) hlt).trans d14; have e15 := (hb1.cell (p := ⟨w.heap.size, 15, none⟩) hlt).trans d15; have HB := Lib.hid hb1; clear hb1))
  all_goals go_wp2_with fail
  all_goals go_ret
  all_goals exact ⟨rfl, ((Below.refl _ w).alloc (Nat.le_refl _) _).drew.trans (HB.out.mono (Nat.le_of_lt hlt))⟩
/-- the type of the records that tell an address -/
def famT (x : List UInt8) : Int := if isV4 x then 1 else 28
set_option maxRecDepth 100000 in
set_option maxHeartbeats 1000000 in
theorem family_e (x : List UInt8) (hx : x.length = 16) (w : World) :
    Calls Tryd.prog 23 #[.agg (bvs x).toArray] w fun e w' => e = .returned (.int .i64 (famT x)) ∧ Below w.heap.size w w' := by
  have HC := Lib.hid (fun W => is4a_e x hx W)
  have HS := Lib.hid (sizeBv hx)
  unfold famT
  clear hx
  revert HC HS
  generalize (bvs x).toArray = X
  generalize isV4 x = q
  intro HC HS
  have HB0 : Hid (Below w.heap.size w (w.alloc (.cells X 40))) := Lib.hid ((Below.refl _ w).alloc (Nat.le_refl _) _)
  have HX := Lib.hid (heap_alloc_last w (.cells X 40))
  go_enter Tryd.func23, Tryd.ntmps23
  go_wp2_with (first
    | (refine wpList_load_row rfl 40 (.tmp 1) rfl w.heap.size rfl 40 X (0, 0) _ HX.out Tryd.underlying40 rfl HS.out ?_; go_simp))
  refine (HC.out _).mono ?_
  rintro e w1 ⟨rfl, hb1⟩
  have HB1 := Lib.hid (HB0.out.trans (hb1.mono HB0.out.size))
  clear hb1
  cases q with
  | true =>
    go_wp2_with fail
    go_ret
    exact ⟨rfl, HB1.out⟩
  | false =>
    go_wp2_with fail
    go_ret
    exact ⟨rfl, HB1.out⟩
end Go.Proofs.YtakfokdjdljjjaaDoor
