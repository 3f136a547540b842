/-
  The walk of the statements' own example, and records as a slice's literal. Conditions: none.
-/
import Derived.Test.YtiifanenomebeaaCacheM
namespace Go.Proofs.Ytiifanenomebeaa
open Go.RowKit Go.Lib

def zr : List Value := zRec.toList.drop 3
/-- a record of which only name, type and TTL are told -/
def recA (a : ByteArray) (b : Int) (t : Nat) : Rc := ⟨a, b, t, zr⟩
theorem recA_ok (a : ByteArray) (b : Int) (t : Nat) (h : t ≤ big) : (recA a b t).Ok := by
  refine ⟨rfl, h, ?_⟩
  intro u hu
  have : (zr.all (·.oneCell')) = true := by decide
  rw [List.all_eq_true] at this
  exact this u hu
/-- a slice's literal of one record -/
theorem RecsIn.lit (w : World) {r : Rc} (h : r.Ok) : RecsIn (w.alloc (.cells r.cells.toArray 40)) (.slice (some ⟨w.heap.size, 0, none⟩) 1 1) [r].length (recsC [r]) := by
  have hg := heap_alloc_last w (.cells r.cells.toArray 40)
  have hr : recsC [r] = r.cells := by simp [recsC]
  refine ⟨by rw [hr, Rc.clen h]; rfl, by rw [hr]; exact Rc.cone h, .inr ⟨w.heap.size, 0, 1, _, _, rfl, hg, fun j u hj => ?_⟩⟩
  rw [hr] at hj
  rw [Addr.add_lit, Nat.zero_add, cell_of_row _ w.heap.size j _ _ _ hg]
  simpa using hj
theorem put_empty {size now : Nat} {p : PE} {ps' : List PE} (h0 : 0 < size) (h : PutR size now [] p ps') : ps' = [p] := by
  obtain ⟨l, rfl, h | h⟩ := h
  · exact h.2
  · exact absurd h.1 (by simp; omega)
theorem getO_one (now : Nat) (qn : ByteArray) (qt out : Int) (rs : List Rc) (frm T : Nat) : getO now qn qt [⟨qn, qt, out, rs, frm, T⟩] = if now < frm + T then some ⟨qn, qt, out, rs, frm, T⟩ else none := by
  unfold getO
  have h : isP qn qt ⟨qn, qt, out, rs, frm, T⟩ = true := decide_eq_true ⟨rfl, rfl⟩
  rw [List.find?_cons_of_pos h, Option.filter_some]
  unfold cntP
  simp
theorem getO_here {now : Nat} {qn : ByteArray} {qt out : Int} {rs : List Rc} {frm T : Nat} (h : now < frm + T) : getO now qn qt [⟨qn, qt, out, rs, frm, T⟩] = some ⟨qn, qt, out, rs, frm, T⟩ := by rw [getO_one, if_pos h]
theorem getO_gone {now : Nat} {qn : ByteArray} {qt out : Int} {rs : List Rc} {frm T : Nat} (h : frm + T ≤ now) : getO now qn qt [⟨qn, qt, out, rs, frm, T⟩] = none := by rw [getO_one, if_neg (by omega)]
/-- what Get tells when it is known which entry is told -/
theorem GetM.some {p : PE} {now : Nat} {w w' : World} {e : Ending} {o : Option PE} (h : GetM o now w e w') (ho : o = some p) : ∃ lv : Value, e = .returned (.tuple #[.int .i64 p.out, lv]) ∧ w'.ownsRow w.heap.size 40 21 lv p.rs.length (recsC (aged (now - p.frm) p.rs)) ∧ (∀ r ∈ aged (now - p.frm) p.rs, r.Ok) ∧ Below w.heap.size w w' := by
  rcases h with ⟨h0, _⟩ | ⟨q, lv, h0, r⟩
  · rw [ho] at h0; cases h0
  · rw [ho] at h0; injection h0 with h0; subst h0; exact ⟨lv, r⟩
theorem GetM.none {now : Nat} {w w' : World} {e : Ending} {o : Option PE} (h : GetM o now w e w') (ho : o = none) : e = .returned (.tuple #[.int .i64 0, .slice none 0 0]) ∧ Below w.heap.size w w' := by
  rcases h with ⟨h0, r⟩ | ⟨q, lv, h0, r⟩
  · exact r
  · rw [ho] at h0; cases h0
/-- the cells of a row that came back -/
theorem own_form {w : World} {base n : Nat} {lv : Value} {l : List Rc} (h : w.ownsRow base 40 21 lv n (recsC l)) (hn : 0 < n) : ∃ g cap, lv = .slice (some ⟨g, 0, none⟩) n cap ∧ base ≤ g ∧ g < w.heap.size ∧ ∀ k u, (recsC l)[k]? = some u → w.cell? ⟨g, k, none⟩ = some u := by
  rcases h.2 with ⟨rfl, h0⟩ | ⟨g, cap, cur, rfl, hb, hg, _⟩
  · omega
  · refine ⟨g, cap, rfl, hb, heap_lt hg, fun k u hu => ?_⟩
    have := h.cells (g := g) rfl k u hu
    rwa [Addr.add_lit, Nat.zero_add] at this
set_option maxRecDepth 100000 in
set_option maxHeartbeats 1000000 in
theorem fit9_e (w : World) : Calls Try.prog 9 #[] w fun e w' => e = .returned (.bool true) ∧ Below w.heap.size w w' := by
  have hN := new_m 4 w
  go_enter Try.func9, Try.ntmps9
  go_wp2_with fail
  refine hN.mono ?_
  rintro e w1 ⟨C, hC, rfl, hc1, hb1⟩
  have HC1 : Hid (CM w.heap.size w1 C 4 []) := Lib.hid hc1
  have HB1 := Lib.hid hb1
  clear hN hc1 hb1 hC
  go_wp2_with fail
  have hba : Below w1.heap.size w1 (w1.alloc (.cells #[.string ⟨#[97]⟩, .int .i64 1] 32)) := (Below.refl _ w1).alloc (Nat.le_refl _) _
  have hQ := heap_alloc_last w1 (.cells #[.string ⟨#[97]⟩, .int .i64 1] 32)
  have hRI := RecsIn.lit (w1.alloc (.cells #[.string ⟨#[97]⟩, .int .i64 1] 32)) (recA_ok ⟨#[97]⟩ 1 10 (by decide))
  have hsz : (w1.alloc (.cells #[.string ⟨#[97]⟩, .int .i64 1] 32)).heap.size = w1.heap.size + 1 := World.size_alloc _ _
  rw [hsz] at hRI
  have hbb := (Below.refl _ (w1.alloc (.cells #[.string ⟨#[97]⟩, .int .i64 1] 32))).alloc (Nat.le_refl _) (.cells (recA ⟨#[97]⟩ 1 10).cells.toArray 40)
  have hQ2 := (hbb.block w1.heap.size (by rw [hsz]; omega)).trans hQ
  have hB2 := hba.trans (hbb.mono (by rw [hsz]; omega))
  change Calls _ _ _ ((w1.alloc (.cells #[.string ⟨#[97]⟩, .int .i64 1] 32)).alloc (.cells (recA ⟨#[97]⟩ 1 10).cells.toArray 40)) _
  generalize ((w1.alloc (.cells #[.string ⟨#[97]⟩, .int .i64 1] 32)).alloc (.cells (recA ⟨#[97]⟩ 1 10).cells.toArray 40)) = w2 at *
  have hP := put_m (HC1.out.below hB2) 5 (by decide) ⟨#[97]⟩ 1 1 hRI (fun r hr => by rw [List.mem_singleton.1 hr]; exact recA_ok _ _ _ (by decide)) (by decide) 10 10 (by decide) (by decide) (by decide)
  have HB2 := Lib.hid (HB1.out.trans (hB2.mono HB1.out.size))
  have HQ2 := Lib.hid hQ2
  obtain ⟨g, hg⟩ : ∃ g, g = w1.heap.size := ⟨_, rfl⟩
  rw [← hg] at HQ2 hP ⊢
  clear hba hQ hRI hsz hbb hQ2 hB2 hg
  refine hP.mono ?_
  rintro e w3 ⟨ps', rfl, hc3, hr3, hs3⟩
  obtain rfl := put_empty (by decide) hr3
  have HC3 := Lib.hid hc3
  have HB3 := Lib.hid (HB2.out.trans (hs3.below.mono (Nat.le_refl _)))
  have HQ3 := Lib.hid (hs3.keep g _ HQ2.out (other_cells (by decide) (by decide)))
  have q0 := cell_of_row w3 g 0 _ _ _ HQ3.out
  have q1 := cell_of_row w3 g 1 _ _ _ HQ3.out
  simp only [List.getElem?_toArray, List.getElem?_cons_succ, List.getElem?_cons_zero] at q0 q1
  have hG : Calls _ _ _ _ _ := get_m hc3 14 (by decide) ⟨#[97]⟩ 1 (fun p hp => by rw [List.mem_singleton.1 hp]; show 5 ≤ 14; omega)
  clear hP hr3 hs3 hc3 HC1
  go_wp2_with fail
  refine hG.mono ?_
  rintro e w4 hgm
  obtain ⟨lv, rfl, ho, hok, hb4⟩ := hgm.some (getO_here (by decide))
  clear hgm
  obtain ⟨gl, cl, rfl, _, hgl, hcl⟩ := own_form ho (by decide)
  have t0 : w4.cell? ⟨gl, 2, none⟩ = some (.int .i64 1) := hcl 2 _ rfl
  have HT0 := Lib.hid t0
  have HB4 := Lib.hid (HB3.out.trans (hb4.mono HB3.out.size))
  have HQ4 := Lib.hid ((hb4.block g (heap_lt HQ3.out)).trans HQ3.out)
  have p0 := cell_of_row w4 g 0 _ _ _ HQ4.out
  have p1 := cell_of_row w4 g 1 _ _ _ HQ4.out
  simp only [List.getElem?_toArray, List.getElem?_cons_succ, List.getElem?_cons_zero] at p0 p1
  have hG2 : Calls _ _ _ _ _ := get_m (HC3.out.below hb4) 15 (by decide) ⟨#[97]⟩ 1 (fun p hp => by rw [List.mem_singleton.1 hp]; show 5 ≤ 15; omega)
  clear hG hb4 ho hok hcl t0 q0 q1
  go_wp2_with fail
  refine hG2.mono ?_
  rintro e w5 hgm
  obtain ⟨rfl, hb5⟩ := hgm.none (getO_gone (by decide))
  clear hgm
  have t5 := (hb5.cell (p := ⟨gl, 2, none⟩) hgl).trans HT0.out
  have HB5 := Lib.hid (HB4.out.trans (hb5.mono HB4.out.size))
  clear hG2 hb5 p0 p1
  go_wp2_with fail
  go_ret
  exact ⟨rfl, HB5.out⟩
end Go.Proofs.Ytiifanenomebeaa
