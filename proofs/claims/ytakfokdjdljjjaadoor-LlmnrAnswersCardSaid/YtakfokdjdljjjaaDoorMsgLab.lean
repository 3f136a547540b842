/-
  What a reader's bytes are as a text, and append of a text to a list of texts of the call's own. Conditions: each states its own.
-/
import Derived.Test.YtakfokdjdljjjaaDoorMsgJoin0
namespace Go.Proofs.YtakfokdjdljjjaaDoor
open Go.RowKit

theorem infoStr : (Tryd.prog.info? 9).map (fun i => (i.zero, i.size, i.bytes)) = some (some (.string ⟨#[]⟩), 1, 16) := by kernel_rfl
theorem conv_in {w : World} {base n c : Nat} {A : Option Addr} {d : List UInt8} (h : InB w base A d) (hn : d.length = n) (h0 : 0 < n) : (convert 32 9 (.slice A n c)).run Tryd.prog w = .ok (.string (bs d)) w := by
  subst hn
  obtain ⟨bb, o, rfl, _, hc⟩ := h h0
  exact run_convert_bytes_back (P := Tryd.prog) w 32 9 5 ⟨bb, o, none⟩ c d Tryd.underlying32 Tryd.underlying5 Tryd.underlying9 (fun j hj => by
    rw [Addr.add_lit, hc j hj]
    simp [List.getD, List.getElem?_eq_getElem hj])
theorem conv_nil (w : World) : (convert 32 9 (.slice none 0 0)).run Tryd.prog w = .ok (.string ⟨#[]⟩) w := by
  simp [convert, go_sem, run_underlying Tryd.underlying32, run_underlying Tryd.underlying9, run_underlying Tryd.underlying5, Conv.bytesToString]
  rfl
theorem svs_append (a : List (List UInt8)) (x : List UInt8) : svs (a ++ [x]) = svs a ++ [.string (bs x)] := by unfold svs; simp
/-- append of one text to a row of the call's own -/
theorem wpList_append_s {w : World} {ops : Array Oper} {rest : List Oper} {o : Oper} {a : Act} {Q : Exit → Act → World → Prop} (hgd : o.guard = none) (s x : Operand)
    (ho : o.op = .call { callee := .builtin .append, args := #[s, x], argTypes := #[52, 52] })
    (base : Nat) (v : Value) (xs : List (List UInt8)) (hs : a.eval s = v) (hown : w.ownsRow base 9 1 v xs.length (svs xs))
    (ad : Addr) (y : List UInt8) (hx : a.eval x = .slice (some ad) 1 1) (hc : w.cell? ad = some (.string (bs y))) (hn : xs.length ≤ 100000) (hbase : base ≤ w.heap.size)
    (h : ∀ gb cap w', w'.ownsRow base 9 1 (.slice (some ⟨gb, 0, none⟩) (xs.length + 1) cap) (xs ++ [y]).length (svs (xs ++ [y])) → w.grownBy w' v.ownBlock → wpList Tryd.prog ops Q rest (a.put o.dst (.slice (some ⟨gb, 0, none⟩) (xs.length + 1) cap)) w') : wpList Tryd.prog ops Q (o :: rest) a w := by
  obtain ⟨i0, hi, hz0, hz1, hz2⟩ := info_parts infoStr
  refine wpList_append_own (w := w) hgd s x 52 ho base 9 i0 (.string ⟨#[]⟩) 1 16 Tryd.underlying52 hi hz0 hz1 hz2 rfl (by decide) v xs.length (svs xs) hs hown ad 1 1 [.string (bs y)] hx (by simp)
    (fun j u hj => by
      cases j with
      | zero =>
        simp only [List.getElem?_cons_zero, Option.some.injEq] at hj
        subst hj
        obtain ⟨b, o, sp⟩ := ad
        have e : (⟨b, o, sp⟩ : Addr).add 0 = ⟨b, o, sp⟩ := by unfold Addr.add; split <;> simp_all
        rw [e]; exact hc
      | succ j => simp at hj)
    (fun u hu => by rw [List.mem_singleton.1 hu]; rfl) (by unfold maxLen; omega) (by omega) hbase (fun v' w' h2 h3 _ => ?_)
  obtain ⟨gb, cap, rfl⟩ : ∃ gb cap, v' = .slice (some ⟨gb, 0, none⟩) (xs.length + 1) cap := by
    rcases h2.2 with ⟨_, h0⟩ | ⟨gb, cap, _, hv, _⟩
    · omega
    · exact ⟨gb, cap, hv⟩
  exact h gb cap w' (by rw [svs_append, List.length_append]; exact h2) h3
theorem RIs.setB {base g c at_ : Nat} {w : World} {A : Option Addr} {b : List UInt8} {wr : Bool} (h : RIs base w g A c b at_ wr) (v : Bool) (hv : v = false → at_ ≤ b.length) : RIs base (w.setCell ⟨g, 2, none⟩ (.bool v)) g A c b at_ v :=
  ⟨by rw [heap_setCell_same w g 2 _ _ _ h.blk]; rfl, h.inb.below ((Below.refl base w).setCell h.hg _), h.hg, h.cap, h.len, h.low, hv, h.nil⟩
theorem RIs.grownBy {base g c at_ : Nat} {w w' : World} {A : Option Addr} {b : List UInt8} {wr : Bool} (h : RIs base w g A c b at_ wr) {row : Option Nat} (hg : w.grownBy w' row) (hne : row ≠ some g) (hr : ∀ k, row = some k → base ≤ k) : RIs base w' g A c b at_ wr :=
  ⟨(hg.block g h.lt (fun e => hne e.symm)).trans h.blk, h.inb.below ((Below.refl base w).grown hg (Nat.le_trans h.hg (Nat.le_of_lt h.lt)) hr), h.hg, h.cap, h.len, h.low, h.ok, h.nil⟩
theorem nstep_lab {b : List UInt8} {at_ sg td bh : Nat} {acc : List (List UInt8)} {y : UInt8} (h : b[at_]? = some y) (h0 : y.toNat ≠ 0) (h63 : y.toNat ≤ 63) (h1 : at_ + 1 + y.toNat ≤ b.length) (h2 : Rt (low (cutB b (at_ + 1) y.toNat)) = true) (h3 : sg + y.toNat + 1 ≤ 254) :
    nstep b ⟨at_, acc, sg, td, bh⟩ = .inr ⟨at_ + 1 + y.toNat, acc ++ [low (cutB b (at_ + 1) y.toNat)], sg + y.toNat + 1, td, bh⟩ := by
  unfold nstep; simp only; rw [h]; simp only; rw [if_neg h0, if_pos h63, if_pos ⟨h1, h2, h3⟩]
theorem nstep_lab_no {b : List UInt8} {at_ sg td bh : Nat} {acc : List (List UInt8)} {y : UInt8} (h : b[at_]? = some y) (h0 : y.toNat ≠ 0) (h63 : y.toNat ≤ 63) (hn : ¬ (at_ + 1 + y.toNat ≤ b.length ∧ Rt (low (cutB b (at_ + 1) y.toNat)) = true ∧ sg + y.toNat + 1 ≤ 254)) :
    nstep b ⟨at_, acc, sg, td, bh⟩ = .inl none := by
  unfold nstep; simp only; rw [h]; simp only; rw [if_neg h0, if_pos h63, if_neg hn]
theorem nstep_ptr {b : List UInt8} {at_ sg td bh : Nat} {acc : List (List UInt8)} {y z : UInt8} (h : b[at_]? = some y) (h192 : 192 ≤ y.toNat) (hz : b[at_ + 1]? = some z) (h1 : td + 1 ≤ 16) (h2 : (y.toNat - 192) * 256 + z.toNat < at_) :
    nstep b ⟨at_, acc, sg, td, bh⟩ = .inr ⟨(y.toNat - 192) * 256 + z.toNat, acc, sg, td + 1, if td = 0 then at_ + 2 else bh⟩ := by
  unfold nstep; simp only; rw [h]; simp only; rw [if_neg (by omega), if_neg (by omega), if_pos h192, hz]; simp only; rw [if_pos ⟨h1, h2⟩]
theorem nstep_ptr_no {b : List UInt8} {at_ sg td bh : Nat} {acc : List (List UInt8)} {y z : UInt8} (h : b[at_]? = some y) (h192 : 192 ≤ y.toNat) (hz : b[at_ + 1]? = some z) (hn : ¬ (td + 1 ≤ 16 ∧ (y.toNat - 192) * 256 + z.toNat < at_)) : nstep b ⟨at_, acc, sg, td, bh⟩ = .inl none := by
  unfold nstep; simp only; rw [h]; simp only; rw [if_neg (by omega), if_neg (by omega), if_pos h192, hz]; simp only; rw [if_neg hn]
theorem nstep_ptr_end {b : List UInt8} {at_ sg td bh : Nat} {acc : List (List UInt8)} {y : UInt8} (h : b[at_]? = some y) (h192 : 192 ≤ y.toNat) (hz : b.length < at_ + 1 + 1) : nstep b ⟨at_, acc, sg, td, bh⟩ = .inl none := by
  unfold nstep; simp only; rw [h]; simp only; rw [if_neg (by omega), if_neg (by omega), if_pos h192, List.getElem?_eq_none (by omega)]
theorem nstep_oth {b : List UInt8} {at_ sg td bh : Nat} {acc : List (List UInt8)} {y : UInt8} (h : b[at_]? = some y) (h63 : 63 < y.toNat) (h192 : y.toNat < 192) : nstep b ⟨at_, acc, sg, td, bh⟩ = .inl none := by
  unfold nstep; simp only; rw [h]; simp only; rw [if_neg (by omega), if_neg (by omega), if_neg (by omega)]
theorem jn_snoc (acc : List (List UInt8)) (x : List UInt8) : (jn (acc ++ [x])).length ≤ (jn acc).length + x.length + 1 := by
  cases acc with
  | nil => simp [jn]
  | cons a t =>
    rw [jn_append (by simp) (by simp), List.length_append, List.length_cons]
    simp only [jn]
    omega
end Go.Proofs.YtakfokdjdljjjaaDoor
