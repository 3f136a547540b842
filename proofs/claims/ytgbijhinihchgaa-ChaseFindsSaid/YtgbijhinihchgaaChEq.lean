/-
  Records held against one another. Condition: addresses of sixteen bytes.
-/
import Derived.Test.YtgbijhinihchgaaChAt
import Derived.Test.YtgbijhinihchgaaChMg
import Derived.Lib.Split
import Derived.Lib.IndexBytes
import Derived.WalkKit
import Derived.ProofKit
import Derived.Outline
import Derived.WalkLawsBesides
import Derived.WalkSpells
import Derived.Lib.Hide
import Derived.Laws.IdiomStrings
import Derived.Lib.SlBytesRow
import Derived.Lib.Join
import Derived.BigQuiet
import Derived.Laws.CopyOwn
import Derived.Deep.WholeRow
import Derived.Stop.BytesEq
import Derived.Laws.OwnMore
import Derived.Laws.AppendOwnNone
import Derived.OwnWalk
import Derived.Maps.Own
import Derived.Maps.OwnSet
import Derived.Laws.BitsAllLaws
import Derived.StillTailTactics
import Derived.Lib.AppendStr
import Derived.Deep.RegionLaw
import Derived.Deep.QuietTactic
import Derived.RegionTactic
import Derived.Deep.RegionHeld3
import Derived.Lib.OwnKind
import Derived.Deep.Heap
import Derived.Deep.MidRow
import Derived.Great.BuildSlice
namespace Go.Proofs.Ytgbijhinihchgaa
open Go.RowKit
theorem RV.c20 {r : RV} (h : r.ad.length = 16) : r.cells[20]? = some (.string r.da) := by
  unfold RV.cells
  simp only [List.getElem?_toArray, List.getElem?_cons_succ]
  rw [List.getElem?_append_right (by rw [bvs_length, h]; omega), bvs_length, h]; rfl
section
variable {P : Program} {ops : Array Oper} {rest : List Oper} {o : Oper} {a : Act} {Q : Exit → Act → World → Prop}
end
theorem sizeOfU8 (w : World) : (sizeOf 5).run Try.prog w = .ok 1 w := by kernel_rfl
theorem eq_addr (d : Nat) (w : World) {x y : List UInt8} (hx : x.length = 16) (hy : y.length = 16) : (Op.equalIn (d + 2) 23 (.agg (bvs x).toArray) (.agg (bvs y).toArray)).run Try.prog w = .ok (x == y) w :=
  run_equalIn_bytes w d 23 5 16 Try.underlying23 Try.underlying5 sizeOfU8 x y hx hy
theorem ext_addr {r : RV} (h : r.ad.length = 16) : r.cells.extract 3 (3 + 16) = (bvs r.ad).toArray := by
  unfold RV.cells
  simp only [List.extract_toArray, List.extract_eq_take_drop]
  congr 1
  simp only [List.drop_succ_cons, List.drop_zero]
  rw [List.take_append_of_le_length (by rw [bvs_length, h]; omega), List.take_of_length_le (by rw [bvs_length, h]; omega)]
theorem eqf_str {f : Field} {fs : List Field} (d : Nat) (w : World) {xs ys : Array Value} {a b : ByteArray} (hn : f.name ≠ "_") (ht : f.type = 9) (hx : xs[f.offset]? = some (.string a)) (hy : ys[f.offset]? = some (.string b)) :
    (Op.eqFields (d + 1) xs ys (f :: fs)).run Try.prog w = if (a.toList == b.toList) = true then (Op.eqFields (d + 1) xs ys fs).run Try.prog w else .ok false w := by
  have p1 : (part f.type xs f.offset).run Try.prog w = .ok (.string a) w := by rw [ht]; simp [part, isAgg, run_underlying Try.underlying9, hx]
  have p2 : (part f.type ys f.offset).run Try.prog w = .ok (.string b) w := by rw [ht]; simp [part, isAgg, run_underlying Try.underlying9, hy]
  have p3 : (Op.equalIn (d + 1) f.type (.string a) (.string b)).run Try.prog w = .ok (a.toList == b.toList) w := by rw [ht]; exact run_equalIn_string w d _ a b Try.underlying9
  simp only [Op.eqFields, if_pos hn, Sem.run_bind, p1, p2, p3, Result.andThen_ok]
  cases (a.toList == b.toList) <;> simp
theorem eqf_int {f : Field} {fs : List Field} (d : Nat) (w : World) {xs ys : Array Value} {a b : Int} (hn : f.name ≠ "_") (ht : f.type = 3) (hx : xs[f.offset]? = some (.int .i64 a)) (hy : ys[f.offset]? = some (.int .i64 b)) :
    (Op.eqFields (d + 1) xs ys (f :: fs)).run Try.prog w = if (a == b) = true then (Op.eqFields (d + 1) xs ys fs).run Try.prog w else .ok false w := by
  have p1 : (part f.type xs f.offset).run Try.prog w = .ok (.int .i64 a) w := by rw [ht]; simp [part, isAgg, run_underlying Try.underlying3, hx]
  have p2 : (part f.type ys f.offset).run Try.prog w = .ok (.int .i64 b) w := by rw [ht]; simp [part, isAgg, run_underlying Try.underlying3, hy]
  have p3 : (Op.equalIn (d + 1) f.type (.int .i64 a) (.int .i64 b)).run Try.prog w = .ok (a == b) w := by rw [ht]; exact run_equalIn_int w d _ _ _ a b Try.underlying3
  simp only [Op.eqFields, if_pos hn, Sem.run_bind, p1, p2, p3, Result.andThen_ok]
  cases (a == b) <;> simp
theorem sizeOfAddr (w : World) : (sizeOf 23).run Try.prog w = .ok 16 w := by kernel_rfl
theorem eqf_addr {f : Field} {fs : List Field} (d : Nat) (w : World) {xs ys : Array Value} {x y : List UInt8} (hn : f.name ≠ "_") (ht : f.type = 23) (hx : xs.extract f.offset (f.offset + 16) = (bvs x).toArray) (hy : ys.extract f.offset (f.offset + 16) = (bvs y).toArray) (h1 : x.length = 16) (h2 : y.length = 16) :
    (Op.eqFields (d + 2) xs ys (f :: fs)).run Try.prog w = if (x == y) = true then (Op.eqFields (d + 2) xs ys fs).run Try.prog w else .ok false w := by
  have p1 : (part f.type xs f.offset).run Try.prog w = .ok (.agg (bvs x).toArray) w := by rw [ht]; simp only [part, isAgg, Sem.run_bind, run_underlying Try.underlying23, Result.andThen_ok, Sem.run_pure, if_true, sizeOfAddr, hx]
  have p2 : (part f.type ys f.offset).run Try.prog w = .ok (.agg (bvs y).toArray) w := by rw [ht]; simp only [part, isAgg, Sem.run_bind, run_underlying Try.underlying23, Result.andThen_ok, Sem.run_pure, if_true, sizeOfAddr, hy]
  have p3 : (Op.equalIn (d + 2) f.type (.agg (bvs x).toArray) (.agg (bvs y).toArray)).run Try.prog w = .ok (x == y) w := by rw [ht]; exact eq_addr d w h1 h2
  simp only [Op.eqFields, if_pos hn, Sem.run_bind, p1, p2, p3, Result.andThen_ok]
  cases (x == y) <;> simp
theorem eq_recs (w : World) {r s : RV} (hr : r.ad.length = 16) (hs : s.ad.length = 16) : (Op.equalIn 10000 41 (.agg r.cells) (.agg s.cells)).run Try.prog w = .ok (r.eqB s) w := by
  have hf : Try.prog.underlying 41 = some (.struct (Try.prog.fieldsOf 41)) := by kernel_rfl
  rw [show 10000 = 9999 + 1 from rfl, run_equalIn_agg w 9999 41 r.cells s.cells hf (by kernel_rfl)]
  have hfs : (Try.prog.fieldsOf 41).toList.map (fun f => (f.name != "_", f.type, f.offset)) = [(true, 9, 0), (true, 3, 1), (true, 3, 2), (true, 23, 3), (true, 9, 19), (true, 9, 20)] := by kernel_rfl
  generalize (Try.prog.fieldsOf 41).toList = fs at hfs ⊢
  have hl : fs.length = 6 := by simpa using congrArg List.length hfs
  revert hfs
  match fs, hl with
  | [f0, f1, f2, f3, f4, f5], _ =>
    intro hfs
    simp only [List.map_cons, List.map_nil, List.cons.injEq, Prod.mk.injEq, bne_iff_ne, and_true] at hfs
    obtain ⟨⟨n0, t0, o0⟩, ⟨n1, t1, o1⟩, ⟨n2, t2, o2⟩, ⟨n3, t3, o3⟩, ⟨n4, t4, o4⟩, ⟨n5, t5, o5⟩⟩ := hfs
    rw [show 9999 = 9998 + 1 from rfl, eqf_str 9998 w n0 t0 (by rw [o0]; exact r.c0) (by rw [o0]; exact s.c0), eqf_int 9998 w n1 t1 (by rw [o1]; exact r.c1) (by rw [o1]; exact s.c1),
      eqf_int 9998 w n2 t2 (by rw [o2]; exact r.c2) (by rw [o2]; exact s.c2), show 9998 + 1 = 9997 + 2 from rfl, eqf_addr 9997 w n3 t3 (by rw [o3]; exact ext_addr hr) (by rw [o3]; exact ext_addr hs) hr hs,
      show 9997 + 2 = 9998 + 1 from rfl, eqf_str 9998 w n4 t4 (by rw [o4]; exact RV.c19 hr) (by rw [o4]; exact RV.c19 hs), eqf_str 9998 w n5 t5 (by rw [o5]; exact RV.c20 hr) (by rw [o5]; exact RV.c20 hs)]
    unfold RV.eqB
    simp only [Op.eqFields, Sem.run_pure]
    generalize (r.nm.toList == s.nm.toList) = b0
    generalize (r.ty == s.ty) = b1
    generalize (r.ttl == s.ttl) = b2
    generalize (r.ad == s.ad) = b3
    generalize (r.tx.toList == s.tx.toList) = b4
    generalize (r.da.toList == s.da.toList) = b5
    cases b0 <;> cases b1 <;> cases b2 <;> cases b3 <;> cases b4 <;> cases b5 <;> rfl
end Go.Proofs.Ytgbijhinihchgaa
namespace Go.Proofs.Ytgbijhinihchgaa
open Go.RowKit
theorem eqGuardRec : Try.prog.eqGuardType Try.prog.depth 41 = false := by kernel_rfl
end Go.Proofs.Ytgbijhinihchgaa
namespace Go.Proofs.Ytgbijhinihchgaa
open Go.RowKit
section
variable {b s t : List UInt8} {p : Nat}
end
end Go.Proofs.Ytgbijhinihchgaa
namespace Go.Proofs.Ytgbijhinihchgaa
open Go.RowKit
end Go.Proofs.Ytgbijhinihchgaa
namespace Go.Proofs.Ytgbijhinihchgaa
open Go.RowKit
theorem RV.eqB_self (r : RV) : r.eqB r = true := by unfold RV.eqB; simp
end Go.Proofs.Ytgbijhinihchgaa
