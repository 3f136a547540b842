/-
  Facts for the walk of LinkGens: what is kept while a cache, or a row of domains that is no link's own, is written; the append of a link's domains to none. Conditions: each states its own.
-/
import Derived.Test.YtgopjgbcnjkblaaGreatDoorLinkPut
import Derived.Test.YtgopjgbcnjkblaaGreatDoorLinkShort
import Derived.Laws.AppendOwnNone
namespace Go.Proofs.YtgopjgbcnjkblaaGreatDoor
open Go.RowKit

theorem box7 {W : World} {B : Nat} {s : Sl} (h : W.heap[B]? = some (.cells s.lk.toArray 31 (0, 0))) :
    W.cell? ⟨B, 0, none⟩ = some (.bool s.live) ∧ W.cell? ⟨B, 1, none⟩ = some (.int .i64 s.gen) ∧ W.cell? ⟨B, 2, none⟩ = some (.slice s.dA s.ds.length s.dc) ∧ W.cell? ⟨B, 3, none⟩ = some (.bool s.df) ∧ W.cell? ⟨B, 4, none⟩ = some (.bool s.ll) ∧ W.cell? ⟨B, 5, none⟩ = some (.slice s.sA s.ns s.sc) ∧ W.cell? ⟨B, 6, none⟩ = some (.slice s.lA s.nl s.lc) ∧ W.frozen? ⟨B, 5, none⟩ = false := by
  refine ⟨?_, ?_, ?_, ?_, ?_, ?_, ?_, frozen_of_row W B 5 _ _ h⟩
  all_goals rw [cell_of_row W B _ _ _ _ h]; rfl
theorem and3 (n : Int) : ∃ m : Nat, m < 4 ∧ bits BinOp.and IntKind.i64 n 3 = (m : Int) := by
  have hle : (BitVec.ofInt 64 n &&& BitVec.ofInt 64 (3 : Nat)).toNat ≤ 3 := by
    rw [BitVec.toNat_and]
    refine Nat.le_trans Nat.and_le_right ?_
    rw [BitVec.ofInt_natCast, BitVec.toNat_ofNat]
    exact Nat.mod_le _ _
  refine ⟨(BitVec.ofInt 64 n &&& BitVec.ofInt 64 (3 : Nat)).toNat, by omega, ?_⟩
  show IntKind.i64.wrap ((BitVec.ofInt 64 n &&& BitVec.ofInt 64 (3 : Nat)).toNat : Int) = _
  exact IntWalk.i64_in _ (by omega)
theorem SlOk.otherT {base g : Nat} {U : TypeId} {w w' : World} {s : Sl} {cs : Array Value} (h : SlOk base w s) (hg : w.heap[g]? = some (.cells cs U (0, 0))) (h1 : 9 ≠ U) (h2 : 83 ≠ U) (h3 : 94 ≠ U) (hw : w.grownBy w' (some g)) : SlOk base w' s :=
  ⟨own_other h.dom hg h1 hw, own_other h.srv hg h2 hw, own_other h.loc hg h3 hw, h.nd, h.nsl, h.nll, h.sz, h.ones, h.one, h.dead, fun hl => by
    obtain ⟨C, h1, h2, h3⟩ := h.alive hl
    exact ⟨C, h1, h2, Nat.lt_of_lt_of_le h3 hw.size⟩⟩
theorem TAt.ne {base T last g : Nat} {U : TypeId} {w : World} {ss : List Sl} {cs : Array Value} (h : TAt base w T ss last) (hg : w.heap[g]? = some (.cells cs U (0, 0))) (h0 : 59 ≠ U) : some T ≠ some g := fun e => by
  injection e with e
  subst e
  have := h.obj.symm.trans hg
  injection this with this
  injection this with _ this
  exact absurd this h0
/-- a cache is written: the table is as it was -/
theorem TAt.otherC {base T last g : Nat} {w w' : World} {ss : List Sl} {cs : Array Value} (h : TAt base w T ss last) (hg : w.heap[g]? = some (.cells cs 67 (0, 0))) (hw : w.grownBy w' (some g)) : TAt base w' T ss last :=
  ⟨h.ge, Nat.le_trans h.hb hw.size, (hw.block T h.lt (h.ne hg (by decide))).trans h.obj, h.four, fun s hs => (h.oks s hs).otherT hg (by decide) (by decide) (by decide) hw, h.few⟩
/-- a row of domains that is no link's own is written -/
theorem TAt.otherD {base T last g : Nat} {w w' : World} {ss : List Sl} {cs : Array Value} (h : TAt base w T ss last) (hg : w.heap[g]? = some (.cells cs 9 (0, 0))) (hsep : ∀ s ∈ ss, s.dv.ownBlock ≠ some g) (hw : w.grownBy w' (some g)) : TAt base w' T ss last := by
  refine ⟨h.ge, Nat.le_trans h.hb hw.size, (hw.block T h.lt (h.ne hg (by decide))).trans h.obj, h.four, fun s hs => ?_, h.few⟩
  have k := h.oks s hs
  exact ⟨k.dom.kept hw (.inr (fun e => hsep s hs e)), own_other k.srv hg (by decide) hw, own_other k.loc hg (by decide) hw, k.nd, k.nsl, k.nll, k.sz, k.ones, k.one, k.dead, fun hl => by
    obtain ⟨C, h1, h2, h3⟩ := k.alive hl
    exact ⟨C, h1, h2, Nat.lt_of_lt_of_le h3 hw.size⟩⟩
theorem right_as {s s' : Sl} (h : rightL s = true) (h1 : s'.ds = s.ds ∨ s'.ds = []) (h2 : s'.nl = s.nl) (h3 : s'.ns = s.ns) : rightL s' = true := by
  unfold rightL at h ⊢
  simp only [Bool.and_eq_true, decide_eq_true_eq] at h ⊢
  rw [h2, h3]
  rcases h1 with h1 | h1
  · rw [h1]; exact h
  · rw [h1]; exact ⟨⟨⟨Nat.zero_le _, h.1.1.2⟩, h.1.2⟩, by simp⟩
theorem wpList_app0 {ops : Array Oper} {rest : List Oper} {o : Oper} {a : Act} {Q : Exit → Act → World → Prop} {w : World} (hgd : o.guard = none) (s x : Operand) (hop : o.op = .call { callee := .builtin .append, args := #[s, x], argTypes := #[27, 27] })
    {A : Option Addr} {n c : Nat} {xs : List Value} (hs : a.eval s = .slice none 0 0) (hx : a.eval x = .slice A n c) (h : RowIn 1 w (.slice A n c) n xs) (hn : n ≤ 1000)
    (hK : ∀ A1 c1 w1, w1.ownsRow w.heap.size 9 1 (.slice A1 n c1) n xs → Below w.heap.size w w1 → wpList Tryz.prog ops Q rest (a.put o.dst (.slice A1 n c1)) w1) : wpList Tryz.prog ops Q (o :: rest) a w := by
  obtain ⟨i0, z, hi, hz, hzc, hsz, hby⟩ := info_str
  obtain ⟨hl, h1, h0 | ⟨ad, c', e, hc0, hc⟩⟩ := h
  · obtain ⟨e, rfl⟩ := h0
    injection e with e1 e2 e3
    subst e1 e3
    obtain rfl : xs = [] := List.length_eq_zero_iff.1 (by omega)
    exact wpList_append_own_none hgd s x 27 hop w.heap.size 9 i0 1 Tryz.underlying27 hi (.slice none 0 0) 0 [] hs (World.ownsRow_nil _ _ _ _) hx (hK none 0 w (World.ownsRow_nil _ _ _ _) (Below.refl _ _))
  · injection e with e1 e2 e3
    subst e1
    refine wpList_append_own w hgd s x 27 hop w.heap.size 9 i0 z 1 16 Tryz.underlying27 hi hz hsz hby hzc (by decide) (.slice none 0 0) 0 [] hs (World.ownsRow_nil _ _ _ _) ad n c xs hx hl hc h1 (by unfold maxLen; omega) (by omega) (Nat.le_refl _) ?_
    intro v1 w1 ho hg _
    rw [Nat.zero_add, List.nil_append] at ho
    obtain ⟨A1, c1, rfl⟩ := own_fm ho
    exact hK A1 c1 w1 ho ⟨hg.os, hg.tape, hg.output, hg.size, fun k hk => hg.block k hk (by simp [Value.ownBlock])⟩
/-- zzz.zzz -/
def zzz : ByteArray := ⟨#[122, 122, 122, 46, 122, 122, 122]⟩
theorem zzz_list {x : ByteArray} (h : x ≠ zzz) : (x.toList == [122, 122, 122, 46, 122, 122, 122]) = false :=
  beq_eq_false_iff_ne.2 fun e => h (by
    rw [Lib.toList_data] at e
    cases x
    unfold zzz
    congr 1
    exact Array.toList_inj.1 e)
/-- a row of domains that is no link's own, or none, is written -/
theorem TAt.row {base T last : Nat} {row : Option Nat} {w w' : World} {ss : List Sl} (h : TAt base w T ss last) (hw : w.grownBy w' row) (hr : ∀ g, row = some g → (∃ cs, w.heap[g]? = some (.cells cs 9 (0, 0))) ∧ ∀ s ∈ ss, s.dv.ownBlock ≠ some g) : TAt base w' T ss last := by
  cases row with
  | none => exact h.below ⟨hw.os, hw.tape, hw.output, hw.size, fun k hk => hw.block k hk (by simp)⟩
  | some g =>
    obtain ⟨⟨cs, hg⟩, hs⟩ := hr g rfl
    exact h.otherD hg hs hw
/-- where a row of the call's own lies -/
theorem row_at {w : World} {b n c : Nat} {A : Option Addr} {xs : List Value} (h : w.ownsRow b 9 1 (.slice A n c) n xs) : n = 0 ∨ ∃ (g : Nat) (cs : Array Value), A = some ⟨g, 0, none⟩ ∧ b ≤ g ∧ w.heap[g]? = some (.cells cs 9 (0, 0)) ∧ n ≤ cs.size := by
  rcases h.2 with ⟨e, _⟩ | ⟨g, cap, cur, e, hb, hg, _⟩
  · injection e with _ e2 _
    exact .inl e2
  · injection e with e1 _ _
    subst e1
    refine .inr ⟨g, cur, rfl, hb, hg, ?_⟩
    cases n with
    | zero => exact Nat.zero_le _
    | succ n =>
      have hl : n < xs.length := by have := h.1; omega
      have h1 := h.cells (g := g) rfl n _ (List.getElem?_eq_getElem hl)
      rw [Addr.add_lit, Nat.zero_add, cell_of_row w g n _ _ _ hg] at h1
      have := (Array.getElem?_eq_some_iff.1 h1).1
      omega
theorem free2 {W : World} {B : Nat} {s : Sl} (h : W.heap[B]? = some (.cells s.lk.toArray 31 (0, 0))) : W.frozen? ⟨B, 2, none⟩ = false := frozen_of_row W B 2 _ _ h
end Go.Proofs.YtgopjgbcnjkblaaGreatDoor
