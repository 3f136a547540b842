/-
  The walks of the statements' own calls fit and same. Conditions: the library's variable MaxLen holds some number; what each states.
-/
import Derived.Test.YtpgkopnnfhlhbaaDoorOrdPrint
import Derived.Test.YtpgkopnnfhlhbaaDoorOrdTexts
import Derived.ChangeKeysEq
import Derived.Laws.StructEq
namespace Go.Proofs.YtpgkopnnfhlhbaaDoor
open Go.RowKit

theorem SlS.form {w : World} {v : Value} {l : List Src} (h : SlS w v l) (hl : l ≠ []) : ∃ b cap, v = .slice (some ⟨b, 0, none⟩) l.length cap ∧ b < w.heap.size ∧ ∀ k u, (svs l)[k]? = some u → w.cell? ⟨b, k, none⟩ = some u := by
  obtain ⟨A, cap, rfl, hA⟩ := h
  obtain ⟨b, rfl, h1, h2⟩ := hA hl
  exact ⟨b, cap, rfl, h1, h2⟩
set_option maxRecDepth 100000 in
set_option maxHeartbeats 1000000 in
theorem fit8_e (w : World) (he : Env w) : Calls Tryd.prog 9 #[] w fun e w' => e = .returned (.bool true) ∧ Below w.heap.size w w' := by
  have hp := parse_e (tb fitT) w he (by decide)
  unfold PsPost at hp
  rw [tb_data, fit_parse] at hp
  have HE := Lib.hid he
  have hp2 : Calls Tryd.prog 10 #[.string ⟨#[102, 105, 108, 101, 115, 32, 100, 110, 115, 32, 91, 78, 79, 84, 70, 79, 85, 78, 68, 61, 114, 101, 116, 117, 114, 110, 93]⟩] w _ := hp
  clear hp he
  go_enter Tryd.func9, Tryd.ntmps9
  go_wp2_with fail
  refine hp2.mono ?_
  rintro e w1 ⟨hb1, v, rfl, hsl⟩
  obtain ⟨b, cap, rfl, hbl, hc⟩ := hsl.form (by simp)
  have c9 : w1.cell? ⟨b, 9, none⟩ = some (.bool true) := hc 9 _ rfl
  have c3 : w1.cell? ⟨b, 3, none⟩ = some (.bool false) := hc 3 _ rfl
  have hw := words_e ⟨#[97]⟩ w1 (HE.out.below hb1) (by decide)
  have HB1 := Lib.hid hb1
  clear hp2 hb1 hsl hbl hc
  have hw2 : Calls Tryd.prog 14 #[.string ⟨#[97]⟩] w1 fun e w2 => ∃ g : Nat, e = .returned (.slice (some ⟨g, 0, none⟩) 1 1) ∧ Below w1.heap.size w1 w2 := hw.mono (by
    rintro e w2 ⟨g, xs, hx, rfl, _, hb2⟩
    have hl : xs.length = 1 := by simpa using congrArg List.length (hx.trans fit_words)
    rw [hl]
    exact ⟨g, rfl, hb2⟩)
  clear hw
  go_wp2_with (first
    | (go_at_call 14; refine hw2.mono ?_; rintro e w2 ⟨g, rfl, hb2⟩; have HB2 := Lib.hid (HB1.out.trans (hb2.mono HB1.out.size)); clear hb2))
  go_ret
  exact ⟨rfl, HB2.out⟩
theorem srcV_inj {s t : Src} (h : srcV s = srcV t) : s = t := by
  obtain ⟨k, a, b, c, d⟩ := s
  obtain ⟨k', a', b', c', d'⟩ := t
  unfold srcV at h
  simp only [Array.mk.injEq, List.cons.injEq, Value.int.injEq, Value.bool.injEq, true_and, and_true] at h
  obtain ⟨h1, h2, h3, h4, h5⟩ := h
  have : k = k' := by omega
  subst this h2 h3 h4 h5
  rfl
theorem eqf_int {f : Field} {fs : List Field} (d : Nat) (w : World) {xs ys : Array Value} {a b : Int} (hn : f.name ≠ "_") (ht : f.type = 3) (hx : xs[f.offset]? = some (.int .i64 a)) (hy : ys[f.offset]? = some (.int .i64 b)) :
    (Op.eqFields (d + 1) xs ys (f :: fs)).run Tryd.prog w = if (a == b) = true then (Op.eqFields (d + 1) xs ys fs).run Tryd.prog w else .ok false w := by
  have p1 : (part f.type xs f.offset).run Tryd.prog w = .ok (.int .i64 a) w := by rw [ht]; simp [part, isAgg, run_underlying Tryd.underlying3, hx]
  have p2 : (part f.type ys f.offset).run Tryd.prog w = .ok (.int .i64 b) w := by rw [ht]; simp [part, isAgg, run_underlying Tryd.underlying3, hy]
  have p3 : (Op.equalIn (d + 1) f.type (.int .i64 a) (.int .i64 b)).run Tryd.prog w = .ok (a == b) w := by rw [ht]; exact run_equalIn_int w d _ _ _ a b Tryd.underlying3
  simp only [Op.eqFields, if_pos hn, Sem.run_bind, p1, p2, p3, Result.andThen_ok]
  cases (a == b) <;> simp
theorem sizeOfRet (w : World) : (sizeOf 28).run Tryd.prog w = .ok 5 w := by kernel_rfl
theorem sizeOfB (w : World) : (sizeOf 4).run Tryd.prog w = .ok 1 w := by kernel_rfl
theorem eq_ret (d : Nat) (w : World) (r q : Ret) : (Op.equalIn (d + 2) 28 (.agg (retV r)) (.agg (retV q))).run Tryd.prog w = .ok (decide (r = q)) w := by
  obtain ⟨a, b, c, e⟩ := r
  obtain ⟨a', b', c', e'⟩ := q
  obtain ⟨i0, hi⟩ : ∃ i, Tryd.prog.info? 4 = some i := ⟨_, rfl⟩
  rw [show d + 2 = (d + 1) + 1 from rfl, run_equalIn_array w (d + 1) _ _ Tryd.underlying28 hi]
  have hc : Tryd.prog.cellsOf 4 = 1 := by kernel_rfl
  rw [hc]
  have pp : ∀ (xs : Array Value) (j : Nat) (u : Bool), xs[j]? = some (.bool u) → (part 4 xs j).run Tryd.prog w = .ok (.bool u) w := fun xs j u h => by simp [part, isAgg, run_underlying Tryd.underlying4, h]
  have pe : ∀ u v : Bool, (Op.equalIn (d + 1) 4 (.bool u) (.bool v)).run Tryd.prog w = .ok (u == v) w := fun u v => run_equalIn_bool w d 4 u v Tryd.underlying4
  have st : ∀ (xs ys : Array Value) (j : Nat) (js : List Nat) (u v : Bool), xs[j * 1]? = some (.bool u) → ys[j * 1]? = some (.bool v) → (Op.eqItems (d + 1) 4 1 xs ys (j :: js)).run Tryd.prog w = if (u == v) = true then (Op.eqItems (d + 1) 4 1 xs ys js).run Tryd.prog w else .ok false w := fun xs ys j js u v hx hy => by
    simp only [Op.eqItems, Sem.run_bind, pp xs _ u hx, pp ys _ v hy, pe u v, Result.andThen_ok]
    cases (u == v) <;> simp
  rw [show List.range 5 = [0, 1, 2, 3, 4] from rfl, st _ _ 0 _ false false rfl rfl, st _ _ 1 _ a a' rfl rfl, st _ _ 2 _ b b' rfl rfl, st _ _ 3 _ c c' rfl rfl, st _ _ 4 _ e e' rfl rfl]
  simp only [Op.eqItems, Sem.run_pure]
  cases a <;> cases b <;> cases c <;> cases e <;> cases a' <;> cases b' <;> cases c' <;> cases e' <;> rfl
theorem eqf_ret {f : Field} (d : Nat) (w : World) {xs ys : Array Value} {r q : Ret} (hn : f.name ≠ "_") (ht : f.type = 28) (hx : xs.extract f.offset (f.offset + 5) = retV r) (hy : ys.extract f.offset (f.offset + 5) = retV q) :
    (Op.eqFields (d + 2) xs ys [f]).run Tryd.prog w = .ok (decide (r = q)) w := by
  have p1 : (part f.type xs f.offset).run Tryd.prog w = .ok (.agg (retV r)) w := by rw [ht]; simp only [part, isAgg, Sem.run_bind, run_underlying Tryd.underlying28, Result.andThen_ok, Sem.run_pure, if_true, sizeOfRet, hx]
  have p2 : (part f.type ys f.offset).run Tryd.prog w = .ok (.agg (retV q)) w := by rw [ht]; simp only [part, isAgg, Sem.run_bind, run_underlying Tryd.underlying28, Result.andThen_ok, Sem.run_pure, if_true, sizeOfRet, hy]
  have p3 : (Op.equalIn (d + 2) f.type (.agg (retV r)) (.agg (retV q))).run Tryd.prog w = .ok (decide (r = q)) w := by rw [ht]; exact eq_ret d w r q
  simp only [Op.eqFields, if_pos hn, Sem.run_bind, p1, p2, p3, Result.andThen_ok]
  cases (decide (r = q)) <;> simp
theorem eq_src (w : World) (s t : Src) : (Op.equalIn 10000 30 (.agg (srcV s)) (.agg (srcV t))).run Tryd.prog w = .ok (decide (s = t)) w := by
  have hf : Tryd.prog.underlying 30 = some (.struct (Tryd.prog.fieldsOf 30)) := by kernel_rfl
  rw [show 10000 = 9999 + 1 from rfl, run_equalIn_agg w 9999 30 (srcV s) (srcV t) hf (by kernel_rfl)]
  have hfs : (Tryd.prog.fieldsOf 30).toList.map (fun f => (f.name != "_", f.type, f.offset)) = [(true, 3, 0), (true, 28, 1)] := by kernel_rfl
  generalize (Tryd.prog.fieldsOf 30).toList = fs at hfs ⊢
  have hl : fs.length = 2 := by simpa using congrArg List.length hfs
  revert hfs
  match fs, hl with
  | [f0, f1], _ =>
    intro hfs
    simp only [List.map_cons, List.map_nil, List.cons.injEq, Prod.mk.injEq, bne_iff_ne, and_true] at hfs
    obtain ⟨⟨n0, t0, o0⟩, ⟨n1, t1, o1⟩⟩ := hfs
    rw [show 9999 = 9998 + 1 from rfl, eqf_int 9998 w n0 t0 (a := s.1) (b := t.1) (by rw [o0]; rfl) (by rw [o0]; rfl), show 9998 + 1 = 9997 + 2 from rfl, eqf_ret 9997 w (r := s.2) (q := t.2) n1 t1 (by rw [o1]; rfl) (by rw [o1]; rfl)]
    obtain ⟨k, r⟩ := s
    obtain ⟨k', r'⟩ := t
    simp only
    by_cases hk : k = k'
    · subst hk
      simp
    · have : ¬ (k : Int) = (k' : Int) := by omega
      simp [hk, this]
theorem six_cells {W : World} {b k : Nat} {l : List Src} {s : Src} (h : ∀ k u, (svs l)[k]? = some u → W.cell? ⟨b, k, none⟩ = some u) (hs : l[k]? = some s) :
    W.cell? ⟨b, k * 6, none⟩ = some (.int .i64 s.1) ∧ W.cell? ⟨b, k * 6 + 1, none⟩ = some (.bool false) ∧ W.cell? ⟨b, k * 6 + 2, none⟩ = some (.bool s.2.1) ∧ W.cell? ⟨b, k * 6 + 3, none⟩ = some (.bool s.2.2.1) ∧ W.cell? ⟨b, k * 6 + 4, none⟩ = some (.bool s.2.2.2.1) ∧ W.cell? ⟨b, k * 6 + 5, none⟩ = some (.bool s.2.2.2.2) :=
  ⟨h _ _ (svs_at hs (j := 0) (by omega)), h _ _ (svs_at hs (j := 1) (by omega)), h _ _ (svs_at hs (j := 2) (by omega)), h _ _ (svs_at hs (j := 3) (by omega)), h _ _ (svs_at hs (j := 4) (by omega)), h _ _ (svs_at hs (j := 5) (by omega))⟩
theorem neq_src (W : World) (s t : Src) : (binOp .neq 30 (.agg (srcV s)) (.agg (srcV t))).run Tryd.prog W = .ok (.bool (!decide (s = t))) W := by
  have h := eq_src W s t
  rw [run_neq_struct, h]
  simp
set_option maxRecDepth 100000 in
set_option maxHeartbeats 1000000 in
theorem same8_e (n c m c' : Nat) (A B : Option Addr) (l r : List Src) (w : World) (hl : SlS w (.slice A n c) l) (hr : SlS w (.slice B m c') r) (hln : l.length = n) (hrm : r.length = m) (hn : n ≤ 1000) (hm : m ≤ 1000) :
    Calls Tryd.prog 12 #[.slice A n c, .slice B m c'] w fun e w' => e = .returned (.bool (decide (l = r))) ∧ Below w.heap.size w w' := by
  by_cases hnm : n = m
  rotate_left
  · have hd : decide (l = r) = false := decide_eq_false fun e => hnm (by rw [← hln, ← hrm, e])
    have hI : ¬ (n : Int) = (m : Int) := by omega
    have hB : ((n : Int) == (m : Int)) = false := by simp; omega
    have HD := Lib.hid hd
    clear hd hl hr hnm
    go_enter Tryd.func12, Tryd.ntmps12
    go_wp2
    go_ret
    exact ⟨by rw [HD.out]; rfl, Below.refl _ _⟩
  subst hnm
  have HL := Lib.hid hl
  have HR := Lib.hid hr
  have HLN := Lib.hid hln
  have HRN := Lib.hid hrm
  clear hl hr hln hrm
  go_enter Tryd.func12, Tryd.ntmps12
  go_wp2_with fail
  go_loopg [13, 5] n (fun gk i _ wr => ∃ k : Nat, i = .int .i64 k ∧ k + gk = n ∧ Hid (Below w.heap.size w wr) ∧ Hid (l.take k = r.take k))
  case atStart => exact ⟨0, rfl, by omega, Lib.hid (Below.refl _ _), Lib.hid rfl⟩
  case round =>
    obtain ⟨k, rfl, hkg, HB, HE⟩ := hrel
    by_cases hkn : k < n
    · obtain ⟨g2, rfl⟩ : ∃ g2, gk = g2 + 1 := ⟨gk - 1, by omega⟩
      have hkI : (k : Int) < (n : Int) := by omega
      have hk0 : (0 : Int) ≤ (k : Int) := by omega
      obtain ⟨s, hs⟩ : ∃ s, l[k]? = some s := ⟨_, List.getElem?_eq_getElem (by rw [HLN.out]; exact hkn)⟩
      obtain ⟨t, ht⟩ : ∃ t, r[k]? = some t := ⟨_, List.getElem?_eq_getElem (by rw [HRN.out]; exact hkn)⟩
      obtain ⟨b, cb, e1, hb1, hc1⟩ := (HL.out.below HB.out).form (by intro e; rw [e] at hs; cases hs)
      obtain ⟨b2, cb2, e2, hb2, hc2⟩ := (HR.out.below HB.out).form (by intro e; rw [e] at ht; cases ht)
      injection e1 with e1 _ _
      injection e2 with e2 _ _
      subst e1
      subst e2
      have hq := fun W => neq_src W s t
      obtain ⟨p0, p1, p2, p3, p4, p5⟩ := six_cells hc1 hs
      obtain ⟨q0, q1, q2, q3, q4, q5⟩ := six_cells hc2 ht
      have hq2 : ∀ W : World, (binOp .neq 30 (.agg #[.int .i64 s.1, .bool false, .bool s.2.1, .bool s.2.2.1, .bool s.2.2.2.1, .bool s.2.2.2.2]) (.agg #[.int .i64 t.1, .bool false, .bool t.2.1, .bool t.2.2.1, .bool t.2.2.2.1, .bool t.2.2.2.2])).run Tryd.prog W = .ok (.bool (!decide (s = t))) W := hq
      generalize hd : decide (s = t) = d at hq2
      generalize s.1 = s1 at p0 hq2
      generalize s.2.1 = s2 at p2 hq2
      generalize s.2.2.1 = s3 at p3 hq2
      generalize s.2.2.2.1 = s4 at p4 hq2
      generalize s.2.2.2.2 = s5 at p5 hq2
      generalize t.1 = t1 at q0 hq2
      generalize t.2.1 = t2 at q2 hq2
      generalize t.2.2.1 = t3 at q3 hq2
      generalize t.2.2.2.1 = t4 at q4 hq2
      generalize t.2.2.2.2 = t5 at q5 hq2
      clear hq hb1 hc1 hb2 hc2
      have HD := Lib.hid hd
      have HS := Lib.hid hs
      have HT := Lib.hid ht
      clear hd hs ht
      rcases (show d = true ∨ d = false by cases d <;> simp) with rfl | rfl
      · have hst : s = t := of_decide_eq_true HD.out
        have HE2 : Hid (l.take (k + 1) = r.take (k + 1)) := Lib.hid (by rw [List.take_add_one, List.take_add_one, HE.out, HS.out, HT.out, hst])
        clear hst
        go_wp2_with fail
        go_quiet (fail)
        go_wp2_with fail
        have HB2 := Lib.hid (below_drewQ HB.out nq)
        go_roundg g2
        case measure => omega
        case rel => exact ⟨k + 1, by go_num, by omega, HB2, HE2⟩
      · have hst : ¬ s = t := of_decide_eq_false HD.out
        have HN : Hid (decide (l = r) = false) := Lib.hid (decide_eq_false fun e => hst (by
          have h1 := HS.out
          rw [e, HT.out] at h1
          injection h1 with h1
          exact h1.symm))
        clear hst
        go_wp2_with fail
        go_quiet (fail)
        go_wp2_with fail
        have HB2 := Lib.hid (below_drewQ HB.out nq)
        go_ret
        exact ⟨by rw [HN.out]; rfl, HB2.out⟩
    · obtain rfl : k = n := by omega
      have HY : Hid (decide (l = r) = true) := Lib.hid (decide_eq_true (by
        have := HE.out
        rwa [List.take_of_length_le (by rw [HLN.out]; exact Nat.le_refl _), List.take_of_length_le (by rw [HRN.out]; exact Nat.le_refl _)] at this))
      have hkI : ¬ (k : Int) < (k : Int) := by omega
      go_wp2_with fail
      go_ret
      exact ⟨by rw [HY.out]; rfl, HB.out⟩
end Go.Proofs.YtpgkopnnfhlhbaaDoor
