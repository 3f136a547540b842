/-
  The walk of the test question: it answers true. Condition: the library's variable MaxLen holds some number.
-/
import Derived.Test.YtakfokdjdljjjaaDoorMsgDec0
import Derived.Test.YtakfokdjdljjjaaDoorMsgEnc
import Derived.Test.YtakfokdjdljjjaaDoorMsgPl
namespace Go.Proofs.YtakfokdjdljjjaaDoor
open Go.RowKit

theorem own_cells4 {w : World} {base n size : Nat} {e : TypeId} {A : Option Addr} {c : Nat} {xs : List Value} (h : w.ownsRow base e size (.slice A n c) n xs) (h0 : 0 < n) : ∃ g, A = some ⟨g, 0, none⟩ ∧ n ≤ c ∧ g < w.heap.size ∧ ∀ k u, xs[k]? = some u → w.cell? ⟨g, k, none⟩ = some u := by
  rcases h.2 with ⟨_, h1⟩ | ⟨g, cap, cur, hv, hb, hg, hc, hm, hs, ht⟩
  · omega
  · injection hv with h1 h2 h3
    subst h3
    refine ⟨g, h1, hc, (Array.getElem?_eq_some_iff.1 hg).1, fun k u hk => ?_⟩
    rw [cell_of_row w g k cur _ (0, 0) hg, ← Array.getElem?_toList]
    rw [← ht] at hk
    have hkl := (List.getElem?_eq_some_iff.1 hk).1
    rw [List.length_take] at hkl
    rwa [List.getElem?_take_of_lt (by omega)] at hk
theorem enc_inB {w : World} {base gb cap : Nat} {b : List UInt8} (h : w.ownsRow base 5 1 (.slice (some ⟨gb, 0, none⟩) b.length cap) b.length (bvs b)) (h0 : 0 < b.length) : gb < w.heap.size ∧ b.length ≤ cap ∧ InB w w.heap.size (some ⟨gb, 0, none⟩) b ∧ ∀ j, j < b.length → w.cell? ⟨gb, j, none⟩ = some (.int .u8 (b.getD j 0).toNat) := by
  obtain ⟨g, hA, hc, hl, hcell⟩ := own_cells4 h h0
  injection hA with hA
  injection hA with hA
  subst hA
  have hc2 : ∀ j, j < b.length → w.cell? ⟨gb, j, none⟩ = some (.int .u8 (b.getD j 0).toNat) := fun j hj => hcell j _ (bvs_at hj)
  exact ⟨hl, hc, fun _ => ⟨gb, 0, rfl, hl, fun j hj => by rw [Nat.zero_add]; exact hc2 j hj⟩, hc2⟩
section
variable {P : Program} {ops : Array Oper} {rest : List Oper} {o : Oper} {a : Act} {Q : Exit → Act → World → Prop}
theorem wpList_load_agg_gh {w : World} (hw : Region.wanted o (yielded ops a.tmps) = true) (ty : TypeId) (x : Operand) (ho : o.op = .load ty x) (p : Addr) (hx : a.eval x = .pointer (some p)) (cs : Array Value) (d : TypeDesc)
    (hc : ∀ j v, cs.toList[j]? = some v → w.cell? (p.add j) = some v)
    (hu : P.underlying ty = some d) (hd : (match d with | .struct _ | .array _ _ => true | _ => false) = true) (hi : (P.info? ty).map (·.size) = some cs.size)
    (h : wpList P ops Q rest (a.put o.dst (.agg cs)) w) : wpList P ops Q (o :: rest) a w := by
  unfold wpList
  rw [if_pos hw]
  left
  unfold Oper.wp execOp
  simp only [ho, hx, Instr.loadAt, Instr.sureAddr, Sem.run_bind, Sem.run_pure, Result.andThen_ok, run_load_agg ty p cs d hc hu hd hi]
  exact h
theorem wpList_eql_agg_gh {w : World} (hw : Region.wanted o (yielded ops a.tmps) = true) (t : TypeId) (x y : Operand) (s : TypeId) (ho : o.op = .binOp .eql t x y s) (xs ys : Array Value) (b : Bool) (hx : a.eval x = .agg xs) (hy : a.eval y = .agg ys)
    (hm : P.eqGuardType P.depth t = false) (hr : (Op.equalIn 10000 t (.agg xs) (.agg ys)).run P w = .ok b w)
    (h : wpList P ops Q rest (a.put o.dst (.bool b)) w) : wpList P ops Q (o :: rest) a w := by
  unfold wpList
  rw [if_pos hw]
  left
  have h1 := run_eqGuard_agg (P := P) w .eql t x y xs ys hm
  have h2 := run_eql_struct (P := P) w t xs ys
  rw [hr] at h2
  unfold Oper.wp execOp
  simp only [ho, hx, hy, Sem.run_bind, h1, h2, Result.andThen_ok]
  exact h
end
def fitV : Array Value := dMsg 258 ⟨#[97]⟩ 1
def fitM : MV := ⟨258, false, false, false, 0, ⟨#[97]⟩, 1, none, 0, [], none, 0, []⟩
def qV : Array Value := #[.string ⟨#[97]⟩, .int .i64 1]
theorem builtF : Tryd.prog.built 31 [(0, .int .i64 258), (5, .agg #[.string ⟨#[97]⟩, .int .i64 1])] = some fitV := by kernel_rfl
theorem sizeQ4 : (Tryd.prog.info? 28).map (·.size) = some qV.size := by kernel_rfl
theorem eq_q4 (w : World) : (Op.equalIn 10000 28 (.agg qV) (.agg qV)).run Tryd.prog w = .ok true w := by kernel_rfl
theorem eqg_q4 : Tryd.prog.eqGuardType Tryd.prog.depth 28 = false := by kernel_rfl
theorem q_in (W : World) (g : Nat) (h : W.heap[g]? = some (.cells fitV 31 (0, 0))) : ∀ j v, qV.toList[j]? = some v → W.cell? ((⟨g, 5, none⟩ : Addr).add j) = some v := fun j v hj => by
  have hl : j < 2 := (List.getElem?_eq_some_iff.1 hj).1
  rw [Addr.add_lit]
  refine (cell_of_row W g (5 + j) _ _ _ h).trans ?_
  rcases (show j = 0 ∨ j = 1 by omega) with rfl | rfl
  · exact hj
  · exact hj
theorem fitM_ok : mvOk fitM = true := by decide +kernel
theorem fit_r : rightB ⟨#[97]⟩ = true := by decide +kernel
end Go.Proofs.YtakfokdjdljjjaaDoor
