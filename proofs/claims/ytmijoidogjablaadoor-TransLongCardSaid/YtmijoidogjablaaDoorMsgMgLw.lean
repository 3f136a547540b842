/-
  What the walks of MsgBack, MsgMore and TransLong stand on: light, seeds behind the first one, a message that comes back. Conditions: each states its own.
-/
import Derived.Test.YtmijoidogjablaaDoorMsgMg
import Derived.Test.YtmijoidogjablaaDoorTrAll
namespace Go.Proofs.YtmijoidogjablaaDoor
open Go.RowKit

theorem light_anyM (A : Option Addr) (c : Nat) (l : List SV) (w : World) (h : SeedsAt w A l) (hf : ∀ s ∈ l, s.Fits) :
    Calls Tryd.prog 12 #[.slice A l.length c] w fun e w' => e = .returned (.bool (lightB l)) ∧ Below w.heap.size w w' := by
  by_cases h60 : l.length ≤ 60
  · exact light_e A c l w h hf (by omega)
  · have h60' : (60 : Int) < (l.length : Int) := by omega
    clear h hf
    go_enter Tryd.func12, Tryd.ntmps12
    go_wp2_with fail
    go_ret
    refine ⟨?_, Below.refl _ _⟩
    unfold lightB
    rw [decide_eq_false (by omega)]
    rfl
/-- append of bytes that came in to a row of the call's own -/
theorem wpList_append_optM {w : World} {ops : Array Oper} {rest : List Oper} {o : Oper} {a : Act} {Q : Exit → Act → World → Prop} (hgd : o.guard = none) (s x : Operand)
    (ho : o.op = .call { callee := .builtin .append, args := #[s, x], argTypes := #[38, 38] })
    (base : Nat) (v : Value) (xs : List UInt8) (n : Nat) (hs : a.eval s = v) (hown : w.ownsRow base 5 1 v n (bvs xs))
    (A : Option Addr) (mc : Nat) (cs : List UInt8) (hx : a.eval x = .slice A cs.length mc) (hA : A = none → mc = 0 ∧ cs = []) (hin : InB w w.heap.size A cs) (hn : n ≤ 100000000000) (hn2 : cs.length ≤ 100000000000) (hbase : base ≤ w.heap.size)
    (h : ∀ v' w', w'.ownsRow base 5 1 v' (n + cs.length) (bvs (xs ++ cs)) → w.grownBy w' v.ownBlock → wpList Tryd.prog ops Q rest (a.put o.dst v') w') : wpList Tryd.prog ops Q (o :: rest) a w := by
  cases A with
  | none =>
    obtain ⟨rfl, rfl⟩ := hA rfl
    obtain ⟨i0, hi, hz0, hz1, hz2⟩ := info_parts infoU8
    exact wpList_append_own_none hgd s x 38 ho base 5 i0 1 Tryd.underlying38 hi v n (bvs xs) hs hown hx (by
      have := h v w (by rw [List.append_nil]; exact hown) ⟨rfl, rfl, rfl, Nat.le_refl _, fun _ _ _ => rfl⟩
      subst hs; exact this)
  | some ad =>
    refine wpList_append_bs hgd s x ho base v xs n hs hown ad cs.length mc cs rfl hx (fun j u hu => ?_) hn hn2 hbase h
    have hj : j < cs.length := by
      have := (List.getElem?_eq_some_iff.1 hu).1
      rwa [bvs_length] at this
    obtain ⟨bb, o', e, _, hc⟩ := hin (by omega)
    injection e with e
    subst e
    rw [Addr.add_lit, hc j hj, ← bvs_at hj]
    exact hu
theorem own_inBM {w : World} {base n : Nat} {v : Value} {b : List UInt8} (h : w.ownsRow base 5 1 v n (bvs b)) (hn : n = b.length) (h0 : 0 < n) : ∃ gb cap, v = .slice (some ⟨gb, 0, none⟩) n cap ∧ n ≤ cap ∧ gb < w.heap.size ∧ InB w w.heap.size (some ⟨gb, 0, none⟩) b := by
  subst hn
  rcases h.2 with ⟨_, h1⟩ | ⟨g, cap, cur, rfl, _⟩
  · omega
  · obtain ⟨h1, h2, h3, _⟩ := enc_inB h h0
    exact ⟨g, cap, rfl, h2, h1, h3⟩
theorem SeedsAt.tail {w : World} {b o : Nat} {s : SV} {l : List SV} (h : SeedsAt w (some ⟨b, o, none⟩) (s :: l)) : SeedsAt w (some ⟨b, o + 20, none⟩) l := fun h0 => by
  obtain ⟨b', o', e, hb, hc⟩ := h (by simp)
  injection e with e
  injection e with e1 e2
  subst e1 e2
  refine ⟨b, o + 20, rfl, hb, fun k x hx j v hv => ?_⟩
  have h1 := hc (k + 1) x (by simpa using hx) j v hv
  rw [Addr.add_lit] at h1 ⊢
  rw [show o + 20 + k * 20 + j = o + (k + 1) * 20 + j by omega]
  exact h1
theorem SeedsAt.nil {w : World} {A : Option Addr} : SeedsAt w A [] := fun h => absurd h (by simp)
theorem again_of {m M : MV} (h : M.Again) (e : m.nrm = M.nrm) : m.Again := by
  obtain ⟨id, rp, tr, rc, code, qn, qt, A, c, an, U, k, au⟩ := m
  obtain ⟨id', rp', tr', rc', code', qn', qt', A', c', an', U', k', au'⟩ := M
  unfold MV.nrm at e
  simp only [MV.mk.injEq] at e
  obtain ⟨rfl, rfl, rfl, rfl, rfl, rfl, rfl, _, _, rfl, _, _, rfl⟩ := e
  exact ⟨h.ok, ⟨h.fits.qn, h.fits.an, h.fits.au, h.fits.la, h.fits.lu⟩, h.qn, h.an, h.au⟩
theorem mgM_nrm (id fl : Int) (q : SV) (l : List SV) : (mgM id fl q l).nrm = mgM id fl q l := rfl
/-- Message, as a region's call -/
theorem message_r (id fl : Int) {s : SV} (hf : s.Fits) (A : Option Addr) (ca : Nat) (l : List SV) (hl : ∀ x ∈ l, x.Fits) (w : World) (hA : SeedsAt w A l) (hlen : l.length ≤ 100000) :
    Calls Tryd.prog 13 #[.int .i64 id, .int .i64 fl, .agg s.cells, .slice A l.length ca] w fun e w' => ∃ C, e = .returned (.agg C) ∧ Below w.heap.size w w' ∧ MtR true (some (mgM id fl s l)) C w' := by
  refine (message_e id fl s hf A ca l hl w hA hlen).mono ?_
  rintro e w' ⟨hb, m, hm, hli, rfl⟩
  have ha := again_of (mgM_again id fl (q := s) hl) (hm.trans (mgM_nrm id fl s l).symm)
  exact ⟨_, rfl, hb, .inr ⟨rfl, m, by rw [hm], ha.fits, hli, rfl⟩⟩
theorem light_len {l : List SV} (h : lightB l = true) : l.length ≤ 60 := by
  unfold lightB at h
  simp only [Bool.and_eq_true, decide_eq_true_eq] at h
  exact h.1
end Go.Proofs.YtmijoidogjablaaDoor
