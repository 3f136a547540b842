/-
  The walk of CacheTwo: a question of another type, or name, has nothing to do with one; what is put anew is in the place of what was. Condition: none.
-/
import Derived.Test.YtkaeamdjoejfdaaCacheLib
import Derived.RegionTactic
import Derived.ChangeAlike
import Derived.BigRegion
namespace Go.Proofs.Ytkaeamdjoejfdaa
open Go.RowKit Go.Lib

theorem two_blocks (w : World) (A B : Obj) : ((w.alloc A).alloc B).drew.heap[w.heap.size]? = some A ∧ ((w.alloc A).alloc B).drew.heap[w.heap.size + 1]? = some B ∧ Below w.heap.size w ((w.alloc A).alloc B).drew := by
  have hs : (w.alloc A).heap.size = w.heap.size + 1 := World.size_alloc _ _
  have b1 : Below w.heap.size w (w.alloc A) := (Below.refl _ w).alloc (Nat.le_refl _) _
  have b2 : Below (w.alloc A).heap.size (w.alloc A) ((w.alloc A).alloc B) := (Below.refl _ _).alloc (Nat.le_refl _) _
  refine ⟨?_, ?_, (b1.trans (b2.mono b1.size)).drew⟩
  · exact (b2.block w.heap.size (by omega)).trans (heap_alloc_last w A)
  · have := heap_alloc_last (w.alloc A) B
    rw [hs] at this
    exact this
theorem getO_skip {now : Nat} {qn : ByteArray} {qt : Int} {p : PE} {l : List PE} (h : isP qn qt p = false) : getO now qn qt (p :: l) = getO now qn qt l := by
  unfold getO
  rw [List.find?_cons_of_neg (by rw [h]; simp)]
theorem getO_hd {now : Nat} {qn : ByteArray} {qt out : Int} {rs : List Rc} {frm T : Nat} {l : List PE} (h : now < frm + T) : getO now qn qt (⟨qn, qt, out, rs, frm, T⟩ :: l) = some ⟨qn, qt, out, rs, frm, T⟩ := by
  unfold getO
  have h1 : isP qn qt ⟨qn, qt, out, rs, frm, T⟩ = true := decide_eq_true ⟨rfl, rfl⟩
  rw [List.find?_cons_of_pos h1, Option.filter_some]
  unfold cntP
  simp [h]
theorem two_frm {a b : ByteArray} {x y o u : Int} {rs : List Rc} {T : Nat} {p : PE} (h : p ∈ [(⟨a, x, o, rs, 0, T⟩ : PE), ⟨b, y, u, [], 1, T⟩]) : p.frm ≤ 1 := by
  rcases List.mem_cons.1 h with h | h
  · rw [h]; exact Nat.zero_le _
  · rw [List.mem_singleton.1 h]; exact Nat.le_refl _
theorem two_same {qn : ByteArray} {qt o1 o2 : Int} {rs : List Rc} {T : Nat} {ps' : List PE} (hT : 2 ≤ T) (h : PutR 4 1 [⟨qn, qt, o1, rs, 0, T⟩] ⟨qn, qt, o2, [], 1, T⟩ ps') : ps' = [⟨qn, qt, o2, [], 1, T⟩] := by
  obtain ⟨l, rfl, h⟩ := h
  have h1 : isP qn qt ⟨qn, qt, o1, rs, 0, T⟩ = true := decide_eq_true ⟨rfl, rfl⟩
  have e : ([⟨qn, qt, o1, rs, 0, T⟩].filter (cntP 1)).eraseP (isP qn qt) = [] := by
    rw [List.filter_eq_self.2 (fun a ha => by rw [List.mem_singleton.1 ha]; exact decide_eq_true (by show 1 < 0 + T; omega)), List.eraseP_cons_of_pos h1]
  rw [e] at h
  rcases h with h | h
  · exact h.2
  · exact absurd h.1 (by simp)
theorem two_apart {p q : PE} {ps' : List PE} (hp : 1 < p.frm + p.ttl) (hq : isP q.nm q.ty p = false) (h : PutR 4 1 [p] q ps') : ps' = [p, q] := by
  have hm := put_more h (fun x hx => by rw [List.mem_singleton.1 hx]; exact decide_eq_true hp) (fun x hx => by rw [List.mem_singleton.1 hx]; exact hq)
  rcases hm with h | h
  · exact h.2
  · exact absurd h.1 (by simp)
set_option maxRecDepth 100000 in
set_option maxHeartbeats 4000000 in
theorem cacheTwo_walk (a0 b0 t0 : Int) (w : World) : Calls Try.prog 6 #[.int .i64 a0, .int .i64 b0, .int .i64 t0] w fun e w' => e = .returned (.bool true) ∧ Below w.heap.size w w' := by
  obtain ⟨m, hm, hmB⟩ := and_n t0 255 (by omega)
  have hmB : bits BinOp.and IntKind.i64 t0 255 = (m : Int) := hmB
  obtain ⟨i, hi, hiB⟩ := and_n a0 1 (by omega)
  have hiB : bits BinOp.and IntKind.i64 a0 1 = (i : Int) := hiB
  obtain ⟨j, hj, hjB⟩ := and_n b0 1 (by omega)
  have hjB : bits BinOp.and IntKind.i64 b0 1 = (j : Int) := hjB
  obtain ⟨k, hk, hkB⟩ := and_n (b0 / 2) 1 (by omega)
  have hkB : bits BinOp.and IntKind.i64 (b0 / 2) 1 = (k : Int) := hkB
  obtain ⟨P, hP⟩ : ∃ P : Nat, 1 + (i : Int) = (P : Int) := ⟨1 + i, by omega⟩
  obtain ⟨Qt, hQt⟩ : ∃ Qt : Nat, 1 + (k : Int) = (Qt : Int) := ⟨1 + k, by omega⟩
  obtain ⟨T, hT⟩ : ∃ T : Nat, (m : Int) + 2 = (T : Int) := ⟨m + 2, by omega⟩
  have HFit := Lib.hid (fit9_e w)
  have HNew := Lib.hid (fun W => new_m 4 W)
  rw [show (min (max (4 : Int) 0) 16).toNat = 4 from rfl] at HNew
  go_enter Try.func6, Try.ntmps6
  go_wp2_with fail
  refine HFit.out.mono ?_
  rintro e w1 ⟨rfl, hb1⟩
  have HB1 := Lib.hid hb1
  clear hb1
  go_wp2_with fail
  refine (HNew.out w1).mono ?_
  rintro e w2 ⟨C, hC, rfl, hc2, hb2⟩
  obtain ⟨base, hbase⟩ : ∃ base, base = w1.heap.size := ⟨_, rfl⟩
  rw [← hbase] at hc2
  have HBA : Hid (w.heap.size ≤ base) := Lib.hid (by rw [hbase]; exact HB1.out.size)
  have HC2 := Lib.hid hc2
  have HB2 := Lib.hid (HB1.out.trans (hb2.mono HB1.out.size))
  clear hb2 hc2 hC HFit HNew hbase HB1
  go_wp2_with fail
  go_region
  rotate_left
  · have htb := two_blocks w2 (.cells #[.string ((⟨#[97, 98]⟩ : ByteArray).extract 0 (1 + j)), .int .i64 Qt] 32) (.cells #[.string ⟨#[97]⟩, .int .i64 P] 32)
    generalize ((w2.alloc (.cells #[.string ((⟨#[97, 98]⟩ : ByteArray).extract 0 (1 + j)), .int .i64 Qt] 32)).alloc (.cells #[.string ⟨#[97]⟩, .int .i64 P] 32)).drew = w3 at htb ⊢
    obtain ⟨hgq, hgp, hb3⟩ := htb
    generalize (⟨#[97, 98]⟩ : ByteArray).extract 0 (1 + j) = S at hgq ⊢
    have HB3 := Lib.hid (HB2.out.trans (hb3.mono HB2.out.size))
    have HC3 := Lib.hid (HC2.out.below hb3)
    have HP3 := Lib.hid hgp
    have HQ3 := Lib.hid hgq
    clear hb3 HB2 HC2 hgp hgq
    generalize w2.heap.size + 1 = gp at HP3 ⊢
    generalize w2.heap.size = gq at HQ3 ⊢
    by_cases hsm : (⟨#[97]⟩ : ByteArray) = S ∧ (P : Int) = (Qt : Int)
    · obtain ⟨rfl, hPQ⟩ := hsm
      obtain rfl : P = Qt := by omega
      have p0 := cell_of_row w3 gp 0 _ _ _ HP3.out
      have p1 := cell_of_row w3 gp 1 _ _ _ HP3.out
      simp only [List.getElem?_toArray, List.getElem?_cons_succ, List.getElem?_cons_zero] at p0 p1
      have hRI := RecsIn.lit w3 (recA_ok ⟨#[97]⟩ 0 5 (by decide))
      have hba : Below w3.heap.size w3 (w3.alloc (.cells (recA ⟨#[97]⟩ 0 5).cells.toArray 40)) := (Below.refl _ w3).alloc (Nat.le_refl _) _
      have HC4 := Lib.hid (HC3.out.below hba)
      have HB4 := Lib.hid (HB3.out.trans (hba.mono HB3.out.size))
      have HP4 := Lib.hid ((hba.block gp (heap_lt HP3.out)).trans HP3.out)
      have HQ4 := Lib.hid ((hba.block gq (heap_lt HQ3.out)).trans HQ3.out)
      have HRI := Lib.hid hRI
      clear hba hRI
      go_wp2_with fail
      change Calls _ _ _ (w3.alloc (.cells (recA ⟨#[97]⟩ 0 5).cells.toArray 40)) _
      generalize hw4 : (w3.alloc (.cells (recA ⟨#[97]⟩ 0 5).cells.toArray 40)) = w4 at *
      generalize w3.heap.size = gr at *
      clear hw4 HP3 HQ3 HC3 HB3 p0 p1
      refine (put_m HC4.out 0 (by decide) ⟨#[97]⟩ P 1 HRI.out (fun r hr => by rw [List.mem_singleton.1 hr]; exact recA_ok _ _ _ (by decide)) (by decide) T T (by omega) (by omega) (by decide)).mono ?_
      rintro e w5 ⟨ps', rfl, hc5, hr5, hs5⟩
      obtain rfl := put_empty (by decide) hr5
      have HB5 := Lib.hid (HB4.out.trans (hs5.below.mono HBA.out))
      have HP5 := Lib.hid (hs5.keep gp _ HP4.out (other_cells (by decide) (by decide)))
      have HQ5 := Lib.hid (hs5.keep gq _ HQ4.out (other_cells (by decide) (by decide)))
      have q0 := cell_of_row w5 gq 0 _ _ _ HQ5.out
      have q1 := cell_of_row w5 gq 1 _ _ _ HQ5.out
      simp only [List.getElem?_toArray, List.getElem?_cons_succ, List.getElem?_cons_zero] at q0 q1
      have HC5 := Lib.hid hc5
      clear hr5 hs5 hc5 HC4 HRI HB4 HP4 HQ4
      go_wp2_with fail
      refine (get_m HC5.out 1 (by decide) ⟨#[97]⟩ P (fun p hp => by rw [List.mem_singleton.1 hp]; exact Nat.zero_le _)).mono ?_
      rintro e w6 hgm
      obtain ⟨lv, rfl, ho, hok, hb6⟩ := hgm.some (getO_here (by omega))
      obtain ⟨Al, cl, rfl⟩ := own_sl ho
      clear ho hok
      have HB6 := Lib.hid (HB5.out.trans (hb6.mono HB5.out.size))
      have HC6 := Lib.hid (HC5.out.below hb6)
      have HP6 := Lib.hid ((hb6.block gp (heap_lt HP5.out)).trans HP5.out)
      have HQ6 := Lib.hid ((hb6.block gq (heap_lt HQ5.out)).trans HQ5.out)
      have s0 := cell_of_row w6 gq 0 _ _ _ HQ6.out
      have s1 := cell_of_row w6 gq 1 _ _ _ HQ6.out
      simp only [List.getElem?_toArray, List.getElem?_cons_succ, List.getElem?_cons_zero] at s0 s1
      clear hgm hb6 q0 q1 HC5 HB5 HP5 HQ5
      go_wp2_with fail
      refine (put_m HC6.out 1 (by decide) ⟨#[97]⟩ P 2 (l := .slice none 0 0) (rs := []) (RecsIn.nil _) (fun r hr => by cases hr) (by decide) T T (by omega) (by omega) (by decide)).mono ?_
      rintro e w7 ⟨ps', rfl, hc7, hr7, hs7⟩
      obtain rfl := two_same (by omega) hr7
      have HB7 := Lib.hid (HB6.out.trans (hs7.below.mono HBA.out))
      have HP7 := Lib.hid (hs7.keep gp _ HP6.out (other_cells (by decide) (by decide)))
      have HQ7 := Lib.hid (hs7.keep gq _ HQ6.out (other_cells (by decide) (by decide)))
      have q0 := cell_of_row w7 gp 0 _ _ _ HP7.out
      have q1 := cell_of_row w7 gp 1 _ _ _ HP7.out
      simp only [List.getElem?_toArray, List.getElem?_cons_succ, List.getElem?_cons_zero] at q0 q1
      have HC7 := Lib.hid hc7
      clear hr7 hs7 hc7 HC6 HB6 HP6 HQ6 s0 s1
      go_wp2_with fail
      refine (get_m HC7.out 1 (by decide) ⟨#[97]⟩ P (fun p hp => by rw [List.mem_singleton.1 hp]; exact Nat.le_refl _)).mono ?_
      rintro e w8 hgm
      obtain ⟨lv, rfl, ho, hok, hb8⟩ := hgm.some (getO_here (by omega))
      obtain ⟨Al8, cl8, rfl⟩ := own_sl ho
      clear ho hok
      have HB8 := Lib.hid (HB7.out.trans (hb8.mono HB7.out.size))
      have HC8 := Lib.hid (HC7.out.below hb8)
      have HP8 := Lib.hid ((hb8.block gp (heap_lt HP7.out)).trans HP7.out)
      have HQ8 := Lib.hid ((hb8.block gq (heap_lt HQ7.out)).trans HQ7.out)
      have s0 := cell_of_row w8 gq 0 _ _ _ HQ8.out
      have s1 := cell_of_row w8 gq 1 _ _ _ HQ8.out
      simp only [List.getElem?_toArray, List.getElem?_cons_succ, List.getElem?_cons_zero] at s0 s1
      clear hgm hb8 q0 q1 HC7 HB7 HP7 HQ7
      go_wp2_with fail
      refine (get_m HC8.out 1 (by decide) ⟨#[97]⟩ P (fun p hp => by rw [List.mem_singleton.1 hp]; exact Nat.le_refl _)).mono ?_
      rintro e w9 hgm
      obtain ⟨lv, rfl, ho, hok, hb9⟩ := hgm.some (getO_here (by omega))
      obtain ⟨Al9, cl9, rfl⟩ := own_sl ho
      clear ho hok
      have HB9 := Lib.hid (HB8.out.trans (hb9.mono HB8.out.size))
      have HC9 := Lib.hid (HC8.out.below hb9)
      have HP9 := Lib.hid ((hb9.block gp (heap_lt HP8.out)).trans HP8.out)
      have HQ9 := Lib.hid ((hb9.block gq (heap_lt HQ8.out)).trans HQ8.out)
      have q0 := cell_of_row w9 gq 0 _ _ _ HQ9.out
      have q1 := cell_of_row w9 gq 1 _ _ _ HQ9.out
      have q2 := cell_of_row w9 gp 0 _ _ _ HP9.out
      have q3 := cell_of_row w9 gp 1 _ _ _ HP9.out
      simp only [List.getElem?_toArray, List.getElem?_cons_succ, List.getElem?_cons_zero] at q0 q1 q2 q3
      have HEQ : Hid ((Op.equalIn 10000 32 (.agg #[.string ⟨#[97]⟩, .int .i64 P]) (.agg #[.string ⟨#[97]⟩, .int .i64 P])).run Try.prog w9 = .ok true w9) := Lib.hid (by rw [eqQ]; simp)
      have HG : Hid (Try.prog.eqGuardType Try.prog.depth 32 = false) := Lib.hid (by kernel_rfl)
      clear hgm hb9 s0 s1 HC8 HB8 HP8 HQ8
      go_wp2_with (first
        | (refine wpList_eql_agg rfl 32 (.tmp 63) (.tmp 64) 32 rfl #[.string ⟨#[97]⟩, .int .i64 P] #[.string ⟨#[97]⟩, .int .i64 P] true rfl rfl HG.out HEQ.out ?_; go_simp)
        | (go_at_call 15; refine (len_m HC9.out).mono ?_; rintro e w10 ⟨rfl, rfl⟩; go_simp))
      go_ret
      exact ⟨rfl, HB9.out⟩
    · have HNQ := Lib.hid hsm
      have HNE : Hid (isP S Qt (⟨⟨#[97]⟩, P, 1, [recA ⟨#[97]⟩ 0 5], 0, T⟩ : PE) = false) := Lib.hid (decide_eq_false hsm)
      clear hsm
      have p0 := cell_of_row w3 gp 0 _ _ _ HP3.out
      have p1 := cell_of_row w3 gp 1 _ _ _ HP3.out
      simp only [List.getElem?_toArray, List.getElem?_cons_succ, List.getElem?_cons_zero] at p0 p1
      have hRI := RecsIn.lit w3 (recA_ok ⟨#[97]⟩ 0 5 (by decide))
      have hba : Below w3.heap.size w3 (w3.alloc (.cells (recA ⟨#[97]⟩ 0 5).cells.toArray 40)) := (Below.refl _ w3).alloc (Nat.le_refl _) _
      have HC4 := Lib.hid (HC3.out.below hba)
      have HB4 := Lib.hid (HB3.out.trans (hba.mono HB3.out.size))
      have HP4 := Lib.hid ((hba.block gp (heap_lt HP3.out)).trans HP3.out)
      have HQ4 := Lib.hid ((hba.block gq (heap_lt HQ3.out)).trans HQ3.out)
      have HRI := Lib.hid hRI
      clear hba hRI
      go_wp2_with fail
      change Calls _ _ _ (w3.alloc (.cells (recA ⟨#[97]⟩ 0 5).cells.toArray 40)) _
      generalize hw4 : (w3.alloc (.cells (recA ⟨#[97]⟩ 0 5).cells.toArray 40)) = w4 at *
      generalize w3.heap.size = gr at *
      clear hw4 HP3 HQ3 HC3 HB3 p0 p1
      refine (put_m HC4.out 0 (by decide) ⟨#[97]⟩ P 1 HRI.out (fun r hr => by rw [List.mem_singleton.1 hr]; exact recA_ok _ _ _ (by decide)) (by decide) T T (by omega) (by omega) (by decide)).mono ?_
      rintro e w5 ⟨ps', rfl, hc5, hr5, hs5⟩
      obtain rfl := put_empty (by decide) hr5
      have HB5 := Lib.hid (HB4.out.trans (hs5.below.mono HBA.out))
      have HP5 := Lib.hid (hs5.keep gp _ HP4.out (other_cells (by decide) (by decide)))
      have HQ5 := Lib.hid (hs5.keep gq _ HQ4.out (other_cells (by decide) (by decide)))
      have q0 := cell_of_row w5 gq 0 _ _ _ HQ5.out
      have q1 := cell_of_row w5 gq 1 _ _ _ HQ5.out
      simp only [List.getElem?_toArray, List.getElem?_cons_succ, List.getElem?_cons_zero] at q0 q1
      have HC5 := Lib.hid hc5
      clear hr5 hs5 hc5 HC4 HRI HB4 HP4 HQ4
      go_wp2_with fail
      refine (get_m HC5.out 1 (by decide) S Qt (fun p hp => by rw [List.mem_singleton.1 hp]; exact Nat.zero_le _)).mono ?_
      rintro e w6 hgm
      obtain ⟨rfl, hb6⟩ := hgm.none ((getO_skip HNE.out).trans rfl)
      have HB6 := Lib.hid (HB5.out.trans (hb6.mono HB5.out.size))
      have HC6 := Lib.hid (HC5.out.below hb6)
      have HP6 := Lib.hid ((hb6.block gp (heap_lt HP5.out)).trans HP5.out)
      have HQ6 := Lib.hid ((hb6.block gq (heap_lt HQ5.out)).trans HQ5.out)
      have s0 := cell_of_row w6 gq 0 _ _ _ HQ6.out
      have s1 := cell_of_row w6 gq 1 _ _ _ HQ6.out
      simp only [List.getElem?_toArray, List.getElem?_cons_succ, List.getElem?_cons_zero] at s0 s1
      clear hgm hb6 q0 q1 HC5 HB5 HP5 HQ5
      go_wp2_with fail
      refine (put_m HC6.out 1 (by decide) S Qt 2 (l := .slice none 0 0) (rs := []) (RecsIn.nil _) (fun r hr => by cases hr) (by decide) T T (by omega) (by omega) (by decide)).mono ?_
      rintro e w7 ⟨ps', rfl, hc7, hr7, hs7⟩
      obtain rfl := two_apart (by show 1 < 0 + T; omega) HNE.out hr7
      have HB7 := Lib.hid (HB6.out.trans (hs7.below.mono HBA.out))
      have HP7 := Lib.hid (hs7.keep gp _ HP6.out (other_cells (by decide) (by decide)))
      have HQ7 := Lib.hid (hs7.keep gq _ HQ6.out (other_cells (by decide) (by decide)))
      have q0 := cell_of_row w7 gp 0 _ _ _ HP7.out
      have q1 := cell_of_row w7 gp 1 _ _ _ HP7.out
      simp only [List.getElem?_toArray, List.getElem?_cons_succ, List.getElem?_cons_zero] at q0 q1
      have HC7 := Lib.hid hc7
      clear hr7 hs7 hc7 HC6 HB6 HP6 HQ6 s0 s1
      go_wp2_with fail
      refine (get_m HC7.out 1 (by decide) ⟨#[97]⟩ P (fun p hp => two_frm hp)).mono ?_
      rintro e w8 hgm
      obtain ⟨lv, rfl, ho, hok, hb8⟩ := hgm.some (getO_hd (by omega))
      obtain ⟨Al8, cl8, rfl⟩ := own_sl ho
      clear ho hok
      have HB8 := Lib.hid (HB7.out.trans (hb8.mono HB7.out.size))
      have HC8 := Lib.hid (HC7.out.below hb8)
      have HP8 := Lib.hid ((hb8.block gp (heap_lt HP7.out)).trans HP7.out)
      have HQ8 := Lib.hid ((hb8.block gq (heap_lt HQ7.out)).trans HQ7.out)
      have s0 := cell_of_row w8 gq 0 _ _ _ HQ8.out
      have s1 := cell_of_row w8 gq 1 _ _ _ HQ8.out
      simp only [List.getElem?_toArray, List.getElem?_cons_succ, List.getElem?_cons_zero] at s0 s1
      clear hgm hb8 q0 q1 HC7 HB7 HP7 HQ7
      go_wp2_with fail
      refine (get_m HC8.out 1 (by decide) S Qt (fun p hp => two_frm hp)).mono ?_
      rintro e w9 hgm
      obtain ⟨lv, rfl, ho, hok, hb9⟩ := hgm.some ((getO_skip HNE.out).trans (getO_here (by omega)))
      obtain ⟨Al9, cl9, rfl⟩ := own_sl ho
      clear ho hok
      have HB9 := Lib.hid (HB8.out.trans (hb9.mono HB8.out.size))
      have HC9 := Lib.hid (HC8.out.below hb9)
      have HP9 := Lib.hid ((hb9.block gp (heap_lt HP8.out)).trans HP8.out)
      have HQ9 := Lib.hid ((hb9.block gq (heap_lt HQ8.out)).trans HQ8.out)
      have q0 := cell_of_row w9 gq 0 _ _ _ HQ9.out
      have q1 := cell_of_row w9 gq 1 _ _ _ HQ9.out
      have q2 := cell_of_row w9 gp 0 _ _ _ HP9.out
      have q3 := cell_of_row w9 gp 1 _ _ _ HP9.out
      simp only [List.getElem?_toArray, List.getElem?_cons_succ, List.getElem?_cons_zero] at q0 q1 q2 q3
      have HEQ : Hid ((Op.equalIn 10000 32 (.agg #[.string ⟨#[97]⟩, .int .i64 P]) (.agg #[.string S, .int .i64 Qt])).run Try.prog w9 = .ok false w9) := Lib.hid (by rw [eqQ]; rw [decide_eq_false HNQ.out])
      have HG : Hid (Try.prog.eqGuardType Try.prog.depth 32 = false) := Lib.hid (by kernel_rfl)
      clear hgm hb9 s0 s1 HC8 HB8 HP8 HQ8
      go_wp2_with (first
        | (refine wpList_eql_agg rfl 32 (.tmp 63) (.tmp 64) 32 rfl #[.string ⟨#[97]⟩, .int .i64 P] #[.string S, .int .i64 Qt] false rfl rfl HG.out HEQ.out ?_; go_simp)
        | (go_at_call 15; refine (len_m HC9.out).mono ?_; rintro e w10 ⟨rfl, rfl⟩; go_simp))
      go_ret
      exact ⟨rfl, HB9.out⟩
  · have htb := two_blocks w2 (.cells #[.string ⟨#[97]⟩, .int .i64 P] 32) (.cells #[.string ((⟨#[97, 98]⟩ : ByteArray).extract 0 (1 + j)), .int .i64 Qt] 32)
    generalize ((w2.alloc (.cells #[.string ⟨#[97]⟩, .int .i64 P] 32)).alloc (.cells #[.string ((⟨#[97, 98]⟩ : ByteArray).extract 0 (1 + j)), .int .i64 Qt] 32)).drew = w3 at htb ⊢
    obtain ⟨hgp, hgq, hb3⟩ := htb
    generalize (⟨#[97, 98]⟩ : ByteArray).extract 0 (1 + j) = S at hgq ⊢
    have HB3 := Lib.hid (HB2.out.trans (hb3.mono HB2.out.size))
    have HC3 := Lib.hid (HC2.out.below hb3)
    have HP3 := Lib.hid hgp
    have HQ3 := Lib.hid hgq
    clear hb3 HB2 HC2 hgp hgq
    generalize w2.heap.size + 1 = gq at HQ3 ⊢
    generalize w2.heap.size = gp at HP3 ⊢
    by_cases hsm : (⟨#[97]⟩ : ByteArray) = S ∧ (P : Int) = (Qt : Int)
    · obtain ⟨rfl, hPQ⟩ := hsm
      obtain rfl : P = Qt := by omega
      have p0 := cell_of_row w3 gp 0 _ _ _ HP3.out
      have p1 := cell_of_row w3 gp 1 _ _ _ HP3.out
      simp only [List.getElem?_toArray, List.getElem?_cons_succ, List.getElem?_cons_zero] at p0 p1
      have hRI := RecsIn.lit w3 (recA_ok ⟨#[97]⟩ 0 5 (by decide))
      have hba : Below w3.heap.size w3 (w3.alloc (.cells (recA ⟨#[97]⟩ 0 5).cells.toArray 40)) := (Below.refl _ w3).alloc (Nat.le_refl _) _
      have HC4 := Lib.hid (HC3.out.below hba)
      have HB4 := Lib.hid (HB3.out.trans (hba.mono HB3.out.size))
      have HP4 := Lib.hid ((hba.block gp (heap_lt HP3.out)).trans HP3.out)
      have HQ4 := Lib.hid ((hba.block gq (heap_lt HQ3.out)).trans HQ3.out)
      have HRI := Lib.hid hRI
      clear hba hRI
      go_wp2_with fail
      change Calls _ _ _ (w3.alloc (.cells (recA ⟨#[97]⟩ 0 5).cells.toArray 40)) _
      generalize hw4 : (w3.alloc (.cells (recA ⟨#[97]⟩ 0 5).cells.toArray 40)) = w4 at *
      generalize w3.heap.size = gr at *
      clear hw4 HP3 HQ3 HC3 HB3 p0 p1
      refine (put_m HC4.out 0 (by decide) ⟨#[97]⟩ P 1 HRI.out (fun r hr => by rw [List.mem_singleton.1 hr]; exact recA_ok _ _ _ (by decide)) (by decide) T T (by omega) (by omega) (by decide)).mono ?_
      rintro e w5 ⟨ps', rfl, hc5, hr5, hs5⟩
      obtain rfl := put_empty (by decide) hr5
      have HB5 := Lib.hid (HB4.out.trans (hs5.below.mono HBA.out))
      have HP5 := Lib.hid (hs5.keep gp _ HP4.out (other_cells (by decide) (by decide)))
      have HQ5 := Lib.hid (hs5.keep gq _ HQ4.out (other_cells (by decide) (by decide)))
      have q0 := cell_of_row w5 gq 0 _ _ _ HQ5.out
      have q1 := cell_of_row w5 gq 1 _ _ _ HQ5.out
      simp only [List.getElem?_toArray, List.getElem?_cons_succ, List.getElem?_cons_zero] at q0 q1
      have HC5 := Lib.hid hc5
      clear hr5 hs5 hc5 HC4 HRI HB4 HP4 HQ4
      go_wp2_with fail
      refine (get_m HC5.out 1 (by decide) ⟨#[97]⟩ P (fun p hp => by rw [List.mem_singleton.1 hp]; exact Nat.zero_le _)).mono ?_
      rintro e w6 hgm
      obtain ⟨lv, rfl, ho, hok, hb6⟩ := hgm.some (getO_here (by omega))
      obtain ⟨Al, cl, rfl⟩ := own_sl ho
      clear ho hok
      have HB6 := Lib.hid (HB5.out.trans (hb6.mono HB5.out.size))
      have HC6 := Lib.hid (HC5.out.below hb6)
      have HP6 := Lib.hid ((hb6.block gp (heap_lt HP5.out)).trans HP5.out)
      have HQ6 := Lib.hid ((hb6.block gq (heap_lt HQ5.out)).trans HQ5.out)
      have s0 := cell_of_row w6 gq 0 _ _ _ HQ6.out
      have s1 := cell_of_row w6 gq 1 _ _ _ HQ6.out
      simp only [List.getElem?_toArray, List.getElem?_cons_succ, List.getElem?_cons_zero] at s0 s1
      clear hgm hb6 q0 q1 HC5 HB5 HP5 HQ5
      go_wp2_with fail
      refine (put_m HC6.out 1 (by decide) ⟨#[97]⟩ P 2 (l := .slice none 0 0) (rs := []) (RecsIn.nil _) (fun r hr => by cases hr) (by decide) T T (by omega) (by omega) (by decide)).mono ?_
      rintro e w7 ⟨ps', rfl, hc7, hr7, hs7⟩
      obtain rfl := two_same (by omega) hr7
      have HB7 := Lib.hid (HB6.out.trans (hs7.below.mono HBA.out))
      have HP7 := Lib.hid (hs7.keep gp _ HP6.out (other_cells (by decide) (by decide)))
      have HQ7 := Lib.hid (hs7.keep gq _ HQ6.out (other_cells (by decide) (by decide)))
      have q0 := cell_of_row w7 gp 0 _ _ _ HP7.out
      have q1 := cell_of_row w7 gp 1 _ _ _ HP7.out
      simp only [List.getElem?_toArray, List.getElem?_cons_succ, List.getElem?_cons_zero] at q0 q1
      have HC7 := Lib.hid hc7
      clear hr7 hs7 hc7 HC6 HB6 HP6 HQ6 s0 s1
      go_wp2_with fail
      refine (get_m HC7.out 1 (by decide) ⟨#[97]⟩ P (fun p hp => by rw [List.mem_singleton.1 hp]; exact Nat.le_refl _)).mono ?_
      rintro e w8 hgm
      obtain ⟨lv, rfl, ho, hok, hb8⟩ := hgm.some (getO_here (by omega))
      obtain ⟨Al8, cl8, rfl⟩ := own_sl ho
      clear ho hok
      have HB8 := Lib.hid (HB7.out.trans (hb8.mono HB7.out.size))
      have HC8 := Lib.hid (HC7.out.below hb8)
      have HP8 := Lib.hid ((hb8.block gp (heap_lt HP7.out)).trans HP7.out)
      have HQ8 := Lib.hid ((hb8.block gq (heap_lt HQ7.out)).trans HQ7.out)
      have s0 := cell_of_row w8 gq 0 _ _ _ HQ8.out
      have s1 := cell_of_row w8 gq 1 _ _ _ HQ8.out
      simp only [List.getElem?_toArray, List.getElem?_cons_succ, List.getElem?_cons_zero] at s0 s1
      clear hgm hb8 q0 q1 HC7 HB7 HP7 HQ7
      go_wp2_with fail
      refine (get_m HC8.out 1 (by decide) ⟨#[97]⟩ P (fun p hp => by rw [List.mem_singleton.1 hp]; exact Nat.le_refl _)).mono ?_
      rintro e w9 hgm
      obtain ⟨lv, rfl, ho, hok, hb9⟩ := hgm.some (getO_here (by omega))
      obtain ⟨Al9, cl9, rfl⟩ := own_sl ho
      clear ho hok
      have HB9 := Lib.hid (HB8.out.trans (hb9.mono HB8.out.size))
      have HC9 := Lib.hid (HC8.out.below hb9)
      have HP9 := Lib.hid ((hb9.block gp (heap_lt HP8.out)).trans HP8.out)
      have HQ9 := Lib.hid ((hb9.block gq (heap_lt HQ8.out)).trans HQ8.out)
      have q0 := cell_of_row w9 gq 0 _ _ _ HQ9.out
      have q1 := cell_of_row w9 gq 1 _ _ _ HQ9.out
      have q2 := cell_of_row w9 gp 0 _ _ _ HP9.out
      have q3 := cell_of_row w9 gp 1 _ _ _ HP9.out
      simp only [List.getElem?_toArray, List.getElem?_cons_succ, List.getElem?_cons_zero] at q0 q1 q2 q3
      have HEQ : Hid ((Op.equalIn 10000 32 (.agg #[.string ⟨#[97]⟩, .int .i64 P]) (.agg #[.string ⟨#[97]⟩, .int .i64 P])).run Try.prog w9 = .ok true w9) := Lib.hid (by rw [eqQ]; simp)
      have HG : Hid (Try.prog.eqGuardType Try.prog.depth 32 = false) := Lib.hid (by kernel_rfl)
      clear hgm hb9 s0 s1 HC8 HB8 HP8 HQ8
      go_wp2_with (first
        | (refine wpList_eql_agg rfl 32 (.tmp 63) (.tmp 64) 32 rfl #[.string ⟨#[97]⟩, .int .i64 P] #[.string ⟨#[97]⟩, .int .i64 P] true rfl rfl HG.out HEQ.out ?_; go_simp)
        | (go_at_call 15; refine (len_m HC9.out).mono ?_; rintro e w10 ⟨rfl, rfl⟩; go_simp))
      go_ret
      exact ⟨rfl, HB9.out⟩
    · have HNQ := Lib.hid hsm
      have HNE : Hid (isP S Qt (⟨⟨#[97]⟩, P, 1, [recA ⟨#[97]⟩ 0 5], 0, T⟩ : PE) = false) := Lib.hid (decide_eq_false hsm)
      clear hsm
      have p0 := cell_of_row w3 gp 0 _ _ _ HP3.out
      have p1 := cell_of_row w3 gp 1 _ _ _ HP3.out
      simp only [List.getElem?_toArray, List.getElem?_cons_succ, List.getElem?_cons_zero] at p0 p1
      have hRI := RecsIn.lit w3 (recA_ok ⟨#[97]⟩ 0 5 (by decide))
      have hba : Below w3.heap.size w3 (w3.alloc (.cells (recA ⟨#[97]⟩ 0 5).cells.toArray 40)) := (Below.refl _ w3).alloc (Nat.le_refl _) _
      have HC4 := Lib.hid (HC3.out.below hba)
      have HB4 := Lib.hid (HB3.out.trans (hba.mono HB3.out.size))
      have HP4 := Lib.hid ((hba.block gp (heap_lt HP3.out)).trans HP3.out)
      have HQ4 := Lib.hid ((hba.block gq (heap_lt HQ3.out)).trans HQ3.out)
      have HRI := Lib.hid hRI
      clear hba hRI
      go_wp2_with fail
      change Calls _ _ _ (w3.alloc (.cells (recA ⟨#[97]⟩ 0 5).cells.toArray 40)) _
      generalize hw4 : (w3.alloc (.cells (recA ⟨#[97]⟩ 0 5).cells.toArray 40)) = w4 at *
      generalize w3.heap.size = gr at *
      clear hw4 HP3 HQ3 HC3 HB3 p0 p1
      refine (put_m HC4.out 0 (by decide) ⟨#[97]⟩ P 1 HRI.out (fun r hr => by rw [List.mem_singleton.1 hr]; exact recA_ok _ _ _ (by decide)) (by decide) T T (by omega) (by omega) (by decide)).mono ?_
      rintro e w5 ⟨ps', rfl, hc5, hr5, hs5⟩
      obtain rfl := put_empty (by decide) hr5
      have HB5 := Lib.hid (HB4.out.trans (hs5.below.mono HBA.out))
      have HP5 := Lib.hid (hs5.keep gp _ HP4.out (other_cells (by decide) (by decide)))
      have HQ5 := Lib.hid (hs5.keep gq _ HQ4.out (other_cells (by decide) (by decide)))
      have q0 := cell_of_row w5 gq 0 _ _ _ HQ5.out
      have q1 := cell_of_row w5 gq 1 _ _ _ HQ5.out
      simp only [List.getElem?_toArray, List.getElem?_cons_succ, List.getElem?_cons_zero] at q0 q1
      have HC5 := Lib.hid hc5
      clear hr5 hs5 hc5 HC4 HRI HB4 HP4 HQ4
      go_wp2_with fail
      refine (get_m HC5.out 1 (by decide) S Qt (fun p hp => by rw [List.mem_singleton.1 hp]; exact Nat.zero_le _)).mono ?_
      rintro e w6 hgm
      obtain ⟨rfl, hb6⟩ := hgm.none ((getO_skip HNE.out).trans rfl)
      have HB6 := Lib.hid (HB5.out.trans (hb6.mono HB5.out.size))
      have HC6 := Lib.hid (HC5.out.below hb6)
      have HP6 := Lib.hid ((hb6.block gp (heap_lt HP5.out)).trans HP5.out)
      have HQ6 := Lib.hid ((hb6.block gq (heap_lt HQ5.out)).trans HQ5.out)
      have s0 := cell_of_row w6 gq 0 _ _ _ HQ6.out
      have s1 := cell_of_row w6 gq 1 _ _ _ HQ6.out
      simp only [List.getElem?_toArray, List.getElem?_cons_succ, List.getElem?_cons_zero] at s0 s1
      clear hgm hb6 q0 q1 HC5 HB5 HP5 HQ5
      go_wp2_with fail
      refine (put_m HC6.out 1 (by decide) S Qt 2 (l := .slice none 0 0) (rs := []) (RecsIn.nil _) (fun r hr => by cases hr) (by decide) T T (by omega) (by omega) (by decide)).mono ?_
      rintro e w7 ⟨ps', rfl, hc7, hr7, hs7⟩
      obtain rfl := two_apart (by show 1 < 0 + T; omega) HNE.out hr7
      have HB7 := Lib.hid (HB6.out.trans (hs7.below.mono HBA.out))
      have HP7 := Lib.hid (hs7.keep gp _ HP6.out (other_cells (by decide) (by decide)))
      have HQ7 := Lib.hid (hs7.keep gq _ HQ6.out (other_cells (by decide) (by decide)))
      have q0 := cell_of_row w7 gp 0 _ _ _ HP7.out
      have q1 := cell_of_row w7 gp 1 _ _ _ HP7.out
      simp only [List.getElem?_toArray, List.getElem?_cons_succ, List.getElem?_cons_zero] at q0 q1
      have HC7 := Lib.hid hc7
      clear hr7 hs7 hc7 HC6 HB6 HP6 HQ6 s0 s1
      go_wp2_with fail
      refine (get_m HC7.out 1 (by decide) ⟨#[97]⟩ P (fun p hp => two_frm hp)).mono ?_
      rintro e w8 hgm
      obtain ⟨lv, rfl, ho, hok, hb8⟩ := hgm.some (getO_hd (by omega))
      obtain ⟨Al8, cl8, rfl⟩ := own_sl ho
      clear ho hok
      have HB8 := Lib.hid (HB7.out.trans (hb8.mono HB7.out.size))
      have HC8 := Lib.hid (HC7.out.below hb8)
      have HP8 := Lib.hid ((hb8.block gp (heap_lt HP7.out)).trans HP7.out)
      have HQ8 := Lib.hid ((hb8.block gq (heap_lt HQ7.out)).trans HQ7.out)
      have s0 := cell_of_row w8 gq 0 _ _ _ HQ8.out
      have s1 := cell_of_row w8 gq 1 _ _ _ HQ8.out
      simp only [List.getElem?_toArray, List.getElem?_cons_succ, List.getElem?_cons_zero] at s0 s1
      clear hgm hb8 q0 q1 HC7 HB7 HP7 HQ7
      go_wp2_with fail
      refine (get_m HC8.out 1 (by decide) S Qt (fun p hp => two_frm hp)).mono ?_
      rintro e w9 hgm
      obtain ⟨lv, rfl, ho, hok, hb9⟩ := hgm.some ((getO_skip HNE.out).trans (getO_here (by omega)))
      obtain ⟨Al9, cl9, rfl⟩ := own_sl ho
      clear ho hok
      have HB9 := Lib.hid (HB8.out.trans (hb9.mono HB8.out.size))
      have HC9 := Lib.hid (HC8.out.below hb9)
      have HP9 := Lib.hid ((hb9.block gp (heap_lt HP8.out)).trans HP8.out)
      have HQ9 := Lib.hid ((hb9.block gq (heap_lt HQ8.out)).trans HQ8.out)
      have q0 := cell_of_row w9 gq 0 _ _ _ HQ9.out
      have q1 := cell_of_row w9 gq 1 _ _ _ HQ9.out
      have q2 := cell_of_row w9 gp 0 _ _ _ HP9.out
      have q3 := cell_of_row w9 gp 1 _ _ _ HP9.out
      simp only [List.getElem?_toArray, List.getElem?_cons_succ, List.getElem?_cons_zero] at q0 q1 q2 q3
      have HEQ : Hid ((Op.equalIn 10000 32 (.agg #[.string ⟨#[97]⟩, .int .i64 P]) (.agg #[.string S, .int .i64 Qt])).run Try.prog w9 = .ok false w9) := Lib.hid (by rw [eqQ]; rw [decide_eq_false HNQ.out])
      have HG : Hid (Try.prog.eqGuardType Try.prog.depth 32 = false) := Lib.hid (by kernel_rfl)
      clear hgm hb9 s0 s1 HC8 HB8 HP8 HQ8
      go_wp2_with (first
        | (refine wpList_eql_agg rfl 32 (.tmp 63) (.tmp 64) 32 rfl #[.string ⟨#[97]⟩, .int .i64 P] #[.string S, .int .i64 Qt] false rfl rfl HG.out HEQ.out ?_; go_simp)
        | (go_at_call 15; refine (len_m HC9.out).mono ?_; rintro e w10 ⟨rfl, rfl⟩; go_simp))
      go_ret
      exact ⟨rfl, HB9.out⟩
end Go.Proofs.Ytkaeamdjoejfdaa
