/-
  The walks of addr.V4 and addr.Is4: what they answer. No condition but sixteen bytes.
-/
import Derived.Test.YtpnlgojbmjfhhaaGreatDoorAddrMem
import Derived.Deep.RegionHeld3
import Derived.Deep.RegionLaw
namespace Go.Proofs.YtpnlgojbmjfhhaaGreatDoor
open Go.RowKit

theorem sizeBv {l : List UInt8} (h : l.length = 16) : (Tryz.prog.info? 48).map (·.size) = some (bvs l).toArray.size := by
  rw [sizeAddr, List.size_toArray, bvs_length, h]
theorem oneBv (l : List UInt8) : (bvs l).toArray.all (·.oneCell') = true := by
  rw [List.all_toArray]; exact List.all_eq_true.2 (bvs_one l)
def zero16 : List UInt8 := [0, 0, 0, 0, 0, 0, 0, 0, 0, 0, 0, 0, 0, 0, 0, 0]
theorem zeroAddr : (Tryz.prog.info? 48).map (·.zero) = some (some (.agg (bvs zero16).toArray)) := by kernel_rfl
theorem builtNone : Tryz.prog.built 48 [] = some (bvs zero16).toArray := by kernel_rfl
theorem builtAll (a b c d : Int) : Tryz.prog.built 48 [(10, .int .u8 255), (11, .int .u8 255), (12, .int .u8 a), (13, .int .u8 b), (14, .int .u8 c), (15, .int .u8 d)] = some #[.int .u8 0, .int .u8 0, .int .u8 0, .int .u8 0, .int .u8 0, .int .u8 0, .int .u8 0, .int .u8 0, .int .u8 0, .int .u8 0, .int .u8 255, .int .u8 255, .int .u8 a, .int .u8 b, .int .u8 c, .int .u8 d] := by
  kernel_rfl
theorem builtV4 (x y z u : UInt8) : Tryz.prog.built 48 [(10, .int .u8 255), (11, .int .u8 255), (12, .int .u8 x.toNat), (13, .int .u8 y.toNat), (14, .int .u8 z.toNat), (15, .int .u8 u.toNat)] = some (bvs (four12 ++ [x, y, z, u])).toArray := builtAll _ _ _ _
theorem heap_lt {w : World} {g : Nat} {o : Obj} (h : w.heap[g]? = some o) : g < w.heap.size := (Array.getElem?_eq_some_iff.1 h).1
set_option maxRecDepth 100000 in
set_option maxHeartbeats 1000000 in
theorem v4_e (x y z u : UInt8) (w : World) :
    Calls Tryz.prog 20 #[.int .u8 x.toNat, .int .u8 y.toNat, .int .u8 z.toNat, .int .u8 u.toNat] w fun e w' => e = .returned (.agg (bvs (four12 ++ [x, y, z, u])).toArray) ∧ Below w.heap.size w w' := by
  have hl : (four12 ++ [x, y, z, u]).length = 16 := rfl
  have hs := sizeBv hl
  have h1 := oneBv (four12 ++ [x, y, z, u])
  have hz : (bvs zero16).toArray.size = (bvs (four12 ++ [x, y, z, u])).toArray.size := rfl
  have zA := zeroAddr
  have hb := builtV4 x y z u
  revert hs h1 hz zA hb
  generalize (bvs (four12 ++ [x, y, z, u])).toArray = r
  generalize (bvs zero16).toArray = zz
  intro hs h1 hz zA hb
  have HS := Lib.hid hs
  have H1 := Lib.hid h1
  have HZ := Lib.hid hz
  have ZA := Lib.hid zA
  have HB := Lib.hid hb
  clear hs h1 hz zA hb hl
  go_enter Tryz.func20, Tryz.ntmps20
  go_wp2_with (first
    | (refine wpList_alloc_z rfl 48 rfl zz ZA.out ?_; go_simp)
    | (refine wpList_build_z rfl 48 #[(10, .const (.int .u8 255)), (11, .const (.int .u8 255)), (12, .tmp 9), (13, .tmp 10), (14, .tmp 11), (15, .tmp 12)] rfl r HB.out ?_; go_simp)
    | (refine wpList_store_new rfl 48 (.tmp 8) (.tmp 13) rfl w.heap.size rfl zz r 48 rfl rfl HS.out HZ.out H1.out ?_; go_simp))
  exact bodyPost_ret (results_cell_row rfl _ _ w.heap.size 48 r (0, 0) _ rfl (heap_alloc_last w _) Tryz.underlying48 rfl HS.out) rfl ⟨rfl, (Below.refl _ w).alloc (Nat.le_refl _) _⟩

theorem eqGuardAddr : Tryz.prog.eqGuardType Tryz.prog.depth 48 = false := by kernel_rfl
theorem bcell {W w1 : World} (hb : Below W.heap.size W w1) : ∀ b o, b < W.heap.size → w1.cell? ⟨b, o, none⟩ = W.cell? ⟨b, o, none⟩ := fun b o h => hb.cell (p := ⟨b, o, none⟩) h
theorem list16 {x : List UInt8} (h : x.length = 16) : ∃ a b c d e f g i j k l m n o p q, x = [a, b, c, d, e, f, g, i, j, k, l, m, n, o, p, q] := by
  match x, h with
  | [a, b, c, d, e, f, g, i, j, k, l, m, n, o, p, q], _ => exact ⟨a, b, c, d, e, f, g, i, j, k, l, m, n, o, p, q, rfl⟩
theorem drop12 {x : List UInt8} (h : x.length = 16) : four12 ++ x.drop 12 = four12 ++ [x.getD 12 0, x.getD 13 0, x.getD 14 0, x.getD 15 0] := by
  obtain ⟨a, b, c, d, e, f, g, i, j, k, l, m, n, o, p, q, rfl⟩ := list16 h
  rfl
set_option maxRecDepth 100000 in
set_option maxHeartbeats 1000000 in
theorem is4_e (x : List UInt8) (hx : x.length = 16) (w : World) :
    Calls Tryz.prog 22 #[.agg (bvs x).toArray] w fun e w' => e = .returned (.bool (isV4 x)) ∧ Below w.heap.size w w' := by
  have hq : ∀ W : World, (Op.equalIn 10000 48 (.agg (bvs x).toArray) (.agg (bvs (four12 ++ [x.getD 12 0, x.getD 13 0, x.getD 14 0, x.getD 15 0])).toArray)).run Tryz.prog W = .ok (isV4 x) W := fun W => by
    have := eq_addr 9998 W hx (y := four12 ++ [x.getD 12 0, x.getD 13 0, x.getD 14 0, x.getD 15 0]) rfl
    unfold isV4
    rw [drop12 hx]; exact this
  have C := fun W => v4_e (x.getD 12 0) (x.getD 13 0) (x.getD 14 0) (x.getD 15 0) W
  have hsz : (Tryz.prog.info? 48).map (·.size) = some (bvs x).length := by rw [sizeAddr, bvs_length, hx]
  have hu := Tryz.underlying48
  have hat : ∀ j, j < 16 → (bvs x)[j]? = some (.int .u8 (x.getD j 0).toNat) := fun j hj => bvs_at (by omega)
  have h12 := hat 12 (by decide)
  have h13 := hat 13 (by decide)
  have h14 := hat 14 (by decide)
  have h15 := hat 15 (by decide)
  have HC := Lib.hid C
  clear C hat
  revert HC hq h12 h13 h14 h15 hsz
  generalize (bvs (four12 ++ [x.getD 12 0, x.getD 13 0, x.getD 14 0, x.getD 15 0])).toArray = r
  generalize isV4 x = res
  generalize bvs x = cs
  generalize Value.int .u8 (x.getD 12 0).toNat = x12
  generalize Value.int .u8 (x.getD 13 0).toNat = x13
  generalize Value.int .u8 (x.getD 14 0).toNat = x14
  generalize Value.int .u8 (x.getD 15 0).toNat = x15
  intro hq hsz h12 h13 h14 h15 HC
  clear hx
  have hr : (w.alloc (.cells cs.toArray 48)).rangeAt w.heap.size 0 cs := fun j v hj => by
    rw [Nat.zero_add, World.cell?_alloc_mark]; simpa using hj
  have hlt : w.heap.size < (w.alloc (.cells cs.toArray 48)).heap.size := by rw [World.size_alloc]; omega
  have d12 := hr 12 _ h12
  have d13 := hr 13 _ h13
  have d14 := hr 14 _ h14
  have d15 := hr 15 _ h15
  rw [Nat.zero_add] at d12 d13 d14 d15
  go_enter Tryz.func22, Tryz.ntmps22
  go_wp2_with fail
  go_region_held3 (fun w' => w'.rangeAt w.heap.size 0 cs ∧ w'.cell? ⟨w.heap.size, 12, none⟩ = some x12 ∧ w'.cell? ⟨w.heap.size, 13, none⟩ = some x13 ∧ w'.cell? ⟨w.heap.size, 14, none⟩ = some x14 ∧ w'.cell? ⟨w.heap.size, 15, none⟩ = some x15)
    (first
      | go_keep
      | exact ⟨hr, d12, d13, d14, d15⟩
      | exact ⟨er, e12, e13, e14, e15⟩)
    (first
      | (go_at_call 20; refine (HC.out _).mono ?_; rintro e' w1 ⟨rfl, hb1⟩; have er : w1.rangeAt w.heap.size 0 cs := (fun j v hj => (hb1.cell (p := ⟨w.heap.size, 0 + j, none⟩) hlt).trans (hr j v hj)); have e12 := (hb1.cell (p := ⟨w.heap.size, 12, none⟩) hlt).trans d12; have e13 := (hb1.cell (p := ⟨w.heap.size, 13, none⟩) hlt).trans d13; have e14 := (hb1.cell (p := ⟨w.heap.size, 14, none⟩) hlt).trans d14; have e15 := (hb1.cell (p := ⟨w.heap.size, 15, none⟩) hlt).trans d15; have HB := Lib.hid hb1; clear hb1))
  all_goals go_wp2_with fail
  all_goals go_ret
  all_goals exact ⟨rfl, ((Below.refl _ w).alloc (Nat.le_refl _) _).drew.trans (HB.out.mono (Nat.le_of_lt hlt))⟩
end Go.Proofs.YtpnlgojbmjfhhaaGreatDoor
