/-
  The walk of addr.V4, and what it stands on. No condition.
-/
import Derived.Test.YtgbijhinihchgaaChBase
import Derived.Lib.Split
import Derived.Lib.IndexBytes
import Derived.WalkKit
import Derived.ProofKit
import Derived.Outline
import Derived.WalkLawsBesides
import Derived.WalkSpells
import Derived.Lib.Hide
import Derived.Laws.IdiomStrings
import Derived.Lib.SlBytesRow
import Derived.Lib.Join
import Derived.BigQuiet
import Derived.Laws.CopyOwn
import Derived.Deep.WholeRow
import Derived.Stop.BytesEq
import Derived.Laws.OwnMore
import Derived.Deep.RegionHeld3
import Derived.Deep.RegionLaw
import Derived.Laws.BitsAllLaws
import Derived.Deep.QuietTactic
import Derived.Laws.AppendOwnNone
import Derived.OwnWalk
import Derived.Maps.Own
import Derived.Maps.OwnSet
import Derived.StillTailTactics
import Derived.Lib.AppendStr
import Derived.RegionTactic
import Derived.Lib.OwnKind
import Derived.Deep.Heap
import Derived.Deep.MidRow
import Derived.Great.BuildSlice
namespace Go.Proofs.Ytgbijhinihchgaa
open Go.RowKit
theorem sizeAddr : (Try.prog.info? 23).map (·.size) = some 16 := by kernel_rfl
section
variable {P : Program} {ops : Array Oper} {rest : List Oper} {o : Oper} {a : Act} {Q : Exit → Act → World → Prop}
/-- a value built of parts, under a name -/
theorem wpList_build_z {w : World} (hgd : o.guard = none) (t : TypeId) (parts : Array (Nat × Operand)) (ho : o.op = .build t parts) (cs : Array Value) (hf : P.built t (parts.toList.map fun (i, x) => (i, a.eval x)) = some cs)
    (h : wpList P ops Q rest (a.put o.dst (.agg cs)) w) : wpList P ops Q (o :: rest) a w := by
  have hf' : P.built t (parts.map fun (i, x) => (i, a.eval x)).toList = some cs := by rw [Array.toList_map]; exact hf
  exact wpList_build hgd t parts ho (by rw [hf']; rfl) (by rw [hf']; exact h)
end
end Go.Proofs.Ytgbijhinihchgaa
namespace Go.Proofs.Ytgbijhinihchgaa
open Go.RowKit
theorem sizeBv {l : List UInt8} (h : l.length = 16) : (Try.prog.info? 23).map (·.size) = some (bvs l).toArray.size := by
  rw [sizeAddr, List.size_toArray, bvs_length, h]
theorem oneBv (l : List UInt8) : (bvs l).toArray.all (·.oneCell') = true := by
  rw [List.all_toArray]; exact List.all_eq_true.2 (bvs_one l)
theorem zeroAddr : (Try.prog.info? 23).map (·.zero) = some (some (.agg (bvs zero16).toArray)) := by kernel_rfl
end Go.Proofs.Ytgbijhinihchgaa
namespace Go.Proofs.Ytgbijhinihchgaa
open Go.RowKit
theorem builtAll (a b c d : Int) : Try.prog.built 23 [(10, .int .u8 255), (11, .int .u8 255), (12, .int .u8 a), (13, .int .u8 b), (14, .int .u8 c), (15, .int .u8 d)] = some #[.int .u8 0, .int .u8 0, .int .u8 0, .int .u8 0, .int .u8 0, .int .u8 0, .int .u8 0, .int .u8 0, .int .u8 0, .int .u8 0, .int .u8 255, .int .u8 255, .int .u8 a, .int .u8 b, .int .u8 c, .int .u8 d] := by
  kernel_rfl
theorem builtV4 (x y z u : UInt8) : Try.prog.built 23 [(10, .int .u8 255), (11, .int .u8 255), (12, .int .u8 x.toNat), (13, .int .u8 y.toNat), (14, .int .u8 z.toNat), (15, .int .u8 u.toNat)] = some (bvs (pre4 ++ [x, y, z, u])).toArray := builtAll _ _ _ _
set_option maxRecDepth 100000 in
set_option maxHeartbeats 1000000 in
theorem v4a_e (x y z u : UInt8) (w : World) :
    Calls Try.prog 16 #[.int .u8 x.toNat, .int .u8 y.toNat, .int .u8 z.toNat, .int .u8 u.toNat] w fun e w' => e = .returned (.agg (bvs (pre4 ++ [x, y, z, u])).toArray) ∧ Below w.heap.size w w' := by
  have hl : (pre4 ++ [x, y, z, u]).length = 16 := rfl
  have hs := sizeBv hl
  have h1 := oneBv (pre4 ++ [x, y, z, u])
  have hz : (bvs zero16).toArray.size = (bvs (pre4 ++ [x, y, z, u])).toArray.size := rfl
  have zA := zeroAddr
  have hb := builtV4 x y z u
  revert hs h1 hz zA hb
  generalize (bvs (pre4 ++ [x, y, z, u])).toArray = r
  generalize (bvs zero16).toArray = zz
  intro hs h1 hz zA hb
  have HS := Lib.hid hs
  have H1 := Lib.hid h1
  have HZ := Lib.hid hz
  have ZA := Lib.hid zA
  have HB := Lib.hid hb
  clear hs h1 hz zA hb hl
  go_enter Try.func16, Try.ntmps16
  go_wp2_with (first
    | (refine wpList_alloc_z rfl 23 rfl zz ZA.out ?_; go_simp)
    | (refine wpList_build_z rfl 23 #[(10, .const (.int .u8 255)), (11, .const (.int .u8 255)), (12, .tmp 9), (13, .tmp 10), (14, .tmp 11), (15, .tmp 12)] rfl r HB.out ?_; go_simp)
    | (refine wpList_store_new rfl 23 (.tmp 8) (.tmp 13) rfl w.heap.size rfl zz r 23 rfl rfl HS.out HZ.out H1.out ?_; go_simp))
  exact bodyPost_ret (results_cell_row rfl _ _ w.heap.size 23 r (0, 0) _ rfl (heap_alloc_last w _) Try.underlying23 rfl HS.out) rfl ⟨rfl, (Below.refl _ w).alloc (Nat.le_refl _) _⟩
end Go.Proofs.Ytgbijhinihchgaa
namespace Go.Proofs.Ytgbijhinihchgaa
open Go.RowKit
/-- a value built of parts, under a name, the parts' values told apart -/
theorem wpList_build_v {P : Program} {ops : Array Oper} {rest : List Oper} {o : Oper} {a : Act} {Q : Exit → Act → World → Prop} {w : World} (hgd : o.guard = none) (t : TypeId) (parts : Array (Nat × Operand)) (ho : o.op = .build t parts)
    (vals : List (Nat × Value)) (cs : Array Value) (hf : P.built t vals = some cs) (hv : parts.toList.map (fun (i, x) => (i, a.eval x)) = vals)
    (h : wpList P ops Q rest (a.put o.dst (.agg cs)) w) : wpList P ops Q (o :: rest) a w := by
  subst hv
  exact wpList_build_z hgd t parts ho cs hf h
section
variable {nm tx da : ByteArray} {ty ttl : Int} {ad : List UInt8} {w : World}
end
end Go.Proofs.Ytgbijhinihchgaa
