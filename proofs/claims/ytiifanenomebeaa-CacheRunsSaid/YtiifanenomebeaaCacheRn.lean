/-
  What CacheRuns keeps beside the cache: its own entries, as they lie, and the walk of its function that drops those that count no more. Conditions: each states its own.
-/
import Derived.Test.YtiifanenomebeaaCacheTtl
import Derived.BigQuiet
namespace Go.Proofs.Ytiifanenomebeaa
open Go.RowKit Go.Lib

theorem below_drewR {B : Nat} {a w : World} (h : Below B a w) (q : Nat) : Below B a (w.drewN q) := ⟨h.os, h.tape, h.output, h.size, h.block⟩
/-- an entry's cells, as the statement keeps it -/
def mE (p : PE) : List Value := [.string p.nm, .int .i64 p.ty, .int .i64 p.ttl, .int .i64 (p.frm + p.ttl : Nat), .int .i64 p.frm]
def mC (l : List PE) : List Value := l.flatMap mE
theorem mC_nil : mC [] = [] := rfl
theorem mC_cons (p : PE) (l : List PE) : mC (p :: l) = mE p ++ mC l := rfl
theorem mC_append (a b : List PE) : mC (a ++ b) = mC a ++ mC b := by simp [mC]
theorem mC_one (p : PE) : mC [p] = mE p := by simp [mC]
theorem mC_len : ∀ l : List PE, (mC l).length = l.length * 5
  | [] => rfl
  | p :: l => by rw [mC_cons, List.length_append, mC_len l, show (mE p).length = 5 from rfl, List.length_cons]; omega
theorem mC_at : ∀ (l : List PE) (k j : Nat) (p : PE) (v : Value), l[k]? = some p → (mE p)[j]? = some v → (mC l)[k * 5 + j]? = some v
  | [], k, j, p, v, h, _ => by simp at h
  | x :: l, 0, j, p, v, h, hj => by
    simp only [List.getElem?_cons_zero, Option.some.injEq] at h
    subst h
    have hlt : j < 5 := (List.getElem?_eq_some_iff.1 hj).1
    rw [mC_cons, List.getElem?_append_left (by show _ < 5; omega), Nat.zero_mul, Nat.zero_add]
    exact hj
  | x :: l, k + 1, j, p, v, h, hj => by
    rw [mC_cons, List.getElem?_append_right (by show 5 ≤ _; omega), show (mE x).length = 5 from rfl, show (k + 1) * 5 + j - 5 = k * 5 + j by omega]
    exact mC_at l k j p v (by simpa using h) hj
theorem mE_one (p : PE) : ∀ u ∈ mE p, u.oneCell' = true := by
  intro u hu
  simp only [mE, List.mem_cons, List.not_mem_nil, or_false] at hu
  rcases hu with rfl | rfl | rfl | rfl | rfl <;> rfl
/-- the cells of one of them -/
theorem m_cells {w : World} {base g cap n : Nat} {l : List PE} {k : Nat} {p : PE} (h : w.ownsRow base 34 5 (.slice (some ⟨g, 0, none⟩) n cap) n (mC l)) (hp : l[k]? = some p) :
    w.cell? ⟨g, k * 5, none⟩ = some (.string p.nm) ∧ w.cell? ⟨g, k * 5 + 1, none⟩ = some (.int .i64 p.ty) ∧ w.cell? ⟨g, k * 5 + 2, none⟩ = some (.int .i64 p.ttl) ∧ w.cell? ⟨g, k * 5 + 3, none⟩ = some (.int .i64 (p.frm + p.ttl : Nat)) ∧ w.cell? ⟨g, k * 5 + 4, none⟩ = some (.int .i64 p.frm) := by
  have hc : ∀ j v, (mE p)[j]? = some v → w.cell? ⟨g, k * 5 + j, none⟩ = some v := fun j v hj => by
    have := h.cells (g := g) rfl (k * 5 + j) v (mC_at l k j p v hp hj)
    rwa [Addr.add_lit, Nat.zero_add] at this
  exact ⟨hc 0 _ rfl, hc 1 _ rfl, hc 2 _ rfl, hc 3 _ rfl, hc 4 _ rfl⟩
theorem m_form {w : World} {base n : Nat} {v : Value} {xs : List Value} {e s : Nat} (h : w.ownsRow base e s v n xs) (hn : 0 < n) : ∃ g cap, v = .slice (some ⟨g, 0, none⟩) n cap ∧ base ≤ g ∧ g < w.heap.size := by
  rcases h.2 with ⟨rfl, h0⟩ | ⟨g, cap, cur, rfl, hb, hg, _⟩
  · omega
  · exact ⟨g, cap, rfl, hb, heap_lt hg⟩
theorem info_mE : ∃ (i : TypeInfo) (z : Value), Try.prog.info? 34 = some i ∧ i.zero = some z ∧ z.cells.size = 5 ∧ i.size = 5 ∧ i.bytes = 48 := by
  have h : (Try.prog.info? 34).map (fun i => (i.zero.map (·.cells.size), i.size, i.bytes)) = some (some 5, 5, 48) := by kernel_rfl
  cases hq : Try.prog.info? 34 with
  | none => rw [hq] at h; cases h
  | some i0 =>
    rw [hq] at h
    simp only [Option.map_some, Option.some.injEq, Prod.mk.injEq] at h
    cases hz : i0.zero with
    | none => rw [hz] at h; cases h.1
    | some z =>
      rw [hz] at h
      have h1 := h.1
      injection h1 with h1
      exact ⟨i0, z, rfl, hz, h1, h.2.1, h.2.2⟩
/-- what lies behind the statement's function -/
def LiveP (g6 : Nat) (ps : List PE) (w : World) (e : Ending) (w' : World) : Prop :=
  ∃ v, e = .returned (.tuple #[]) ∧ w'.heap[g6]? = some (.cells #[v] 26 (0, 0)) ∧ w'.ownsRow w.heap.size 34 5 v ps.length (mC ps) ∧ w.grownBy w' (some g6)
set_option maxRecDepth 100000 in
set_option maxHeartbeats 4000000 in
theorem live_e (w : World) (B g6 g7 now : Nat) (ps : List PE) (vm : Value) (h6 : w.heap[g6]? = some (.cells #[vm] 26 (0, 0))) (h7 : w.heap[g7]? = some (.cells #[.int .i64 now] 3 (0, 0)))
    (hrow : w.ownsRow B 34 5 vm ps.length (mC ps)) (hl : ps.length ≤ 16) :
    Calls Try.prog 11 #[.pointer (some ⟨g6, 0, none⟩), .pointer (some ⟨g7, 0, none⟩)] w fun e w' => LiveP g6 (ps.filter (cntP now)) w e w' := by
  obtain ⟨i0, z, hi, hz, hzc, hs, hb⟩ := info_mE
  have HI := Lib.hid hi
  have HZ := Lib.hid hz
  have HZC := Lib.hid hzc
  have HS := Lib.hid hs
  have HBY := Lib.hid hb
  have H6 := Lib.hid h6
  have H7 := Lib.hid h7
  have HROW := Lib.hid hrow
  obtain ⟨Am, cm, rfl⟩ := own_sl hrow
  have c6 := cell_of_row w g6 0 _ _ _ h6
  simp only [List.getElem?_toArray, List.getElem?_cons_zero] at c6
  obtain ⟨n, hn⟩ : ∃ n, n = ps.length := ⟨_, rfl⟩
  rw [← hn] at hl HROW c6 H6
  have HN := Lib.hid hn
  clear hi hz hzc hs hb h6 h7 hrow hn
  go_enter Try.func11, Try.ntmps11
  go_wp2_with fail
  go_loopw [7, 2] (fun vi v wr => ∃ (k q : Nat) (Ar : Option Addr) (cr : Nat), k ≤ n ∧ vi = .int .i64 k ∧ v = .slice Ar q cr ∧ q ≤ k ∧ q = ((ps.take k).filter (cntP now)).length ∧ Hid (wr.ownsRow w.heap.size 34 5 (.slice Ar q cr) q (mC ((ps.take k).filter (cntP now)))) ∧ Hid (Below w.heap.size w wr)) (fun i _ _ => n - (intOf i).toNat)
  case atStart => exact ⟨0, 0, none, 0, by omega, rfl, rfl, by omega, rfl, Lib.hid (World.ownsRow_nil _ _ _ _), Lib.hid (Below.refl _ _)⟩
  case round =>
    obtain ⟨k, q, Ar, cr, hk, rfl, rfl, hqk, hq, HR, HB⟩ := hrel
    have HQ := Lib.hid hq
    clear hq
    by_cases hkT : k < n
    · have hkI : (k : Int) < (n : Int) := by omega
      obtain ⟨p, hp⟩ : ∃ p, ps[k]? = some p := ⟨_, List.getElem?_eq_getElem (by rw [← HN.out]; exact hkT)⟩
      obtain ⟨gm, cm', hv, _, hgl⟩ := m_form HROW.out (by omega)
      injection hv with hv _ hcc
      subst hv hcc
      have hrw := own_below HROW.out HB.out
      obtain ⟨c0, c1, c2, c3, c4⟩ := m_cells hrw hp
      have htk : ps.take (k + 1) = ps.take k ++ [p] := by rw [List.take_add_one, hp]; rfl
      obtain ⟨U, hU⟩ : ∃ U, p.frm + p.ttl = U := ⟨_, rfl⟩
      have hc0 : cntP now p = decide (now < U) := by unfold cntP; rw [hU]
      have hE : mE p = [.string p.nm, .int .i64 p.ty, .int .i64 p.ttl, .int .i64 U, .int .i64 p.frm] := by unfold mE; rw [← hU]
      rw [hU] at c3
      have HP1 : Hid (mC [p] = mE p) := Lib.hid (mC_one p)
      rw [hE] at HP1
      have HFP : Hid (∀ l, (l ++ [p]).filter (cntP now) = l.filter (cntP now) ++ if now < U then [p] else []) := Lib.hid (fun l => by
        rw [List.filter_append]
        by_cases h : now < U
        · have h2 : [p].filter (cntP now) = [p] := List.filter_eq_self.2 (fun a ha => by rw [List.mem_singleton.1 ha, hc0]; exact decide_eq_true h)
          rw [if_pos h, h2]
        · have h2 : [p].filter (cntP now) = [] := List.filter_eq_nil_iff.2 (fun a ha => by rw [List.mem_singleton.1 ha, hc0]; simp; omega)
          rw [if_neg h, h2])
      have HTK := Lib.hid htk
      clear hU hE hc0 htk hp hrw
      generalize p.nm = nm at *
      generalize p.ty = ty at *
      generalize p.ttl = ttl at *
      generalize p.frm = frm at *
      have hbc : Below wr.heap.size wr (wr.alloc (.cells #[.string nm, .int .i64 ty, .int .i64 ttl, .int .i64 U, .int .i64 frm] 34)) := (Below.refl _ wr).alloc (Nat.le_refl _) _
      have hsz : (wr.alloc (.cells #[.string nm, .int .i64 ty, .int .i64 ttl, .int .i64 U, .int .i64 frm] 34)).heap.size = wr.heap.size + 1 := World.size_alloc _ _
      have h7w := (hbc.block g7 (by have := heap_lt H7.out; have := HB.out.size; omega)).trans ((HB.out.block g7 (heap_lt H7.out)).trans H7.out)
      have c7 := cell_of_row _ g7 0 _ _ _ h7w
      simp only [List.getElem?_toArray, List.getElem?_cons_zero] at c7
      by_cases hc : now < U
      · have hcI : (now : Int) < (U : Int) := by omega
        have HF : Hid ((ps.take (k + 1)).filter (cntP now) = (ps.take k).filter (cntP now) ++ [p]) := Lib.hid (by rw [HTK.out, HFP.out, if_pos hc])
        have hbd : Below wr.heap.size wr ((wr.alloc (.cells #[.string nm, .int .i64 ty, .int .i64 ttl, .int .i64 U, .int .i64 frm] 34)).alloc (.cells #[.string nm, .int .i64 ty, .int .i64 ttl, .int .i64 U, .int .i64 frm] 34)) := hbc.alloc (by rw [hsz]; omega) _
        have HR2 := Lib.hid (own_below HR.out hbd)
        have HB2 := Lib.hid (HB.out.trans (hbd.mono HB.out.size))
        have hg2 := heap_alloc_last (wr.alloc (.cells #[.string nm, .int .i64 ty, .int .i64 ttl, .int .i64 U, .int .i64 frm] 34)) (.cells #[.string nm, .int .i64 ty, .int .i64 ttl, .int .i64 U, .int .i64 frm] 34)
        rw [hsz] at hg2
        have HCL : Hid (∀ (j : Nat) (u : Value), ([.string nm, .int .i64 ty, .int .i64 ttl, .int .i64 U, .int .i64 frm] : List Value)[j]? = some u → ((wr.alloc (.cells #[.string nm, .int .i64 ty, .int .i64 ttl, .int .i64 U, .int .i64 frm] 34)).alloc (.cells #[.string nm, .int .i64 ty, .int .i64 ttl, .int .i64 U, .int .i64 frm] 34)).cell? ((⟨wr.heap.size + 1, 0, none⟩ : Addr).add j) = some u) := Lib.hid (fun j u hj => by
          rw [Addr.add_lit, Nat.zero_add, cell_of_row _ (wr.heap.size + 1) j _ _ _ hg2]; simpa using hj)
        have H1 : Hid (∀ u ∈ ([.string nm, .int .i64 ty, .int .i64 ttl, .int .i64 U, .int .i64 frm] : List Value), u.oneCell' = true) := Lib.hid (fun u hu => by
          simp only [List.mem_cons, List.not_mem_nil, or_false] at hu
          rcases hu with rfl | rfl | rfl | rfl | rfl <;> rfl)
        have HQ1 : Hid (q + 1 = ((ps.take (k + 1)).filter (cntP now)).length) := Lib.hid (by rw [HF.out, List.length_append, ← HQ.out]; rfl)
        have HM : Hid (mC ((ps.take (k + 1)).filter (cntP now)) = mC ((ps.take k).filter (cntP now)) ++ [.string nm, .int .i64 ty, .int .i64 ttl, .int .i64 U, .int .i64 frm]) := Lib.hid (by rw [HF.out, mC_append, HP1.out])
        have HLn : Hid (([.string nm, .int .i64 ty, .int .i64 ttl, .int .i64 U, .int .i64 frm] : List Value).length = 1 * 5) := Lib.hid rfl
        clear hgl hc hbc hbd hg2 hsz h7w HF HQ HR HB HFP HP1
        generalize mC ((ps.take k).filter (cntP now)) = xs at HR2 HM
        go_wp2_with (first
          | (at_builtin; refine wpList_append_own (w := (wr.alloc (.cells #[.string nm, .int .i64 ty, .int .i64 ttl, .int .i64 U, .int .i64 frm] 34)).alloc (.cells #[.string nm, .int .i64 ty, .int .i64 ttl, .int .i64 U, .int .i64 frm] 34)) rfl (.tmp 15) (.tmp 17) 26 rfl w.heap.size 34 i0 z 5 48 Try.underlying26 HI.out HZ.out HS.out HBY.out HZC.out (by decide) (.slice Ar q cr) q xs rfl HR2.out ⟨wr.heap.size + 1, 0, none⟩ 1 1 [.string nm, .int .i64 ty, .int .i64 ttl, .int .i64 U, .int .i64 frm] rfl HLn.out HCL.out H1.out (by unfold maxLen; omega) (by omega) HB2.out.size ?_; intro v1 w6 ho1 hg1 hnil; clear hnil; obtain ⟨A1, c1, rfl⟩ := own_sl ho1; rw [← HM.out] at ho1; have HO1 := Lib.hid ho1; have HB6 := Lib.hid (HB2.out.grown hg1 HB2.out.size (fun j e => (HR2.out.lt j e).1)); clear ho1 hg1; go_simp))
        go_roundw
        case rel => exact ⟨k + 1, q + 1, A1, c1, by omega, by first | rfl | go_num, by first | rfl | go_num, by omega, HQ1.out, HO1, HB6⟩
        case measure => simp [intOf]; omega
      · have hcI : ¬ (now : Int) < (U : Int) := by omega
        have HF : Hid ((ps.take (k + 1)).filter (cntP now) = (ps.take k).filter (cntP now)) := Lib.hid (by rw [HTK.out, HFP.out, if_neg hc, List.append_nil])
        have HR2 : Hid ((wr.alloc (.cells #[.string nm, .int .i64 ty, .int .i64 ttl, .int .i64 U, .int .i64 frm] 34)).ownsRow w.heap.size 34 5 (.slice Ar q cr) q (mC ((ps.take (k + 1)).filter (cntP now)))) := Lib.hid (by rw [HF.out]; exact own_below HR.out hbc)
        have HQ1 : Hid (q = ((ps.take (k + 1)).filter (cntP now)).length) := Lib.hid (by rw [HF.out]; exact HQ.out)
        have HB2 := Lib.hid (HB.out.trans (hbc.mono HB.out.size))
        clear hgl hc hbc hsz h7w HF HQ HR HB HFP HP1
        go_wp2_with fail
        go_roundw
        case rel => exact ⟨k + 1, q, Ar, cr, by omega, by first | rfl | go_num, rfl, by omega, HQ1.out, HR2, HB2⟩
        case measure => simp [intOf]; omega
    · obtain rfl : k = n := by omega
      have hkI : ¬ (k : Int) < (k : Int) := by omega
      have h6w := (HB.out.block g6 (heap_lt H6.out)).trans H6.out
      have d6 := cell_of_row _ g6 0 _ _ _ h6w
      have f6 := frozen_of_row _ g6 0 _ _ h6w
      simp only [List.getElem?_toArray, List.getElem?_cons_zero] at d6
      have HW : Hid ((wr.setCell ⟨g6, 0, none⟩ (.slice Ar q cr)).heap[g6]? = some (.cells #[.slice Ar q cr] 26 (0, 0))) := Lib.hid (by simpa using heap_setCell_same wr g6 0 _ _ (.slice Ar q cr) h6w)
      have HG : Hid (w.grownBy (wr.setCell ⟨g6, 0, none⟩ (.slice Ar q cr)) (some g6)) := Lib.hid ⟨HB.out.os, HB.out.tape, HB.out.output, by simpa using HB.out.size, fun j hj hne => (Below.heap_setCell _ _ _ _ (fun e => hne (by rw [e]))).trans (HB.out.block j hj)⟩
      have HO : Hid ((wr.setCell ⟨g6, 0, none⟩ (.slice Ar q cr)).ownsRow w.heap.size 34 5 (.slice Ar q cr) q (mC ((ps.take k).filter (cntP now)))) := Lib.hid (HR.out.kept ⟨rfl, rfl, rfl, by simp, fun j _ hne => Below.heap_setCell _ _ _ _ (fun e => hne (by rw [e]))⟩ (.inr (fun e => by have := (HR.out.lt g6 e).1; have := heap_lt H6.out; omega)))
      clear h6w HB HR
      go_wp2_with fail
      go_end0
      have ht : ps.take k = ps := List.take_of_length_le (by rw [HN.out]; exact Nat.le_refl _)
      rw [ht] at HO
      rw [ht] at HQ
      refine ⟨_, rfl, HW.out, ?_, HG.out⟩
      rw [← HQ.out]
      exact HO.out
end Go.Proofs.Ytiifanenomebeaa
