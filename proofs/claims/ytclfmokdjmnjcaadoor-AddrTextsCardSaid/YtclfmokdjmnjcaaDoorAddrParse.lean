/-
  The walk of addr.Parse: the address whose text it is, or an error. Conditions: the text is no longer than a text that comes in may be; the library's variables hold what their initialisers lay.
-/
import Derived.Test.YtclfmokdjmnjcaaDoorAddrFour
import Derived.Lib.IndexBytes
namespace Go.Proofs.YtclfmokdjmnjcaaDoor
open Go.RowKit

section
variable {P : Program} {ops : Array Oper} {rest : List Oper} {o : Oper} {a : Act} {Q : Exit → Act → World → Prop}
/-- a whole value is loaded, under a guard that holds -/
theorem wpList_load_g {w : World} (ty : TypeId) (x : Operand) (hw : Region.wanted o (yielded ops a.tmps) = true) (ho : o.op = .load ty x) (g : Nat) (cs : Array Value) (t : TypeId) (fr : Nat × Nat)
    (hx : a.eval x = .pointer (some ⟨g, 0, none⟩)) (hg : w.heap[g]? = some (.cells cs t fr)) (n : Nat) (e : TypeId)
    (hu : P.underlying ty = some (.array n e)) (hi : (P.info? ty).map (·.size) = some cs.size)
    (h : wpList P ops Q rest (a.put o.dst (.agg cs)) w) : wpList P ops Q (o :: rest) a w := by
  unfold wpList
  rw [if_pos hw]
  left
  have hlv := run_load_agg (P := P) (w := w) ty ⟨g, 0, none⟩ cs (.array n e) (fun j v hj => by
    rw [Addr.add_lit, Nat.zero_add, cell_of_row w g j cs t fr hg]; simpa using hj) hu rfl hi
  unfold Oper.wp execOp
  simp only [ho, hx, Instr.loadAt, Instr.sureAddr, Sem.run_bind, Sem.run_pure, Result.andThen_ok, hlv]
  exact h
/-- a value is built of parts, under a guard that holds -/
theorem wpList_build_g {w : World} (t : TypeId) (parts : Array (Nat × Operand)) (hw : Region.wanted o (yielded ops a.tmps) = true) (ho : o.op = .build t parts) (cs : Array Value) (hf : P.built t (parts.toList.map fun (i, x) => (i, a.eval x)) = some cs)
    (h : wpList P ops Q rest (a.put o.dst (.agg cs)) w) : wpList P ops Q (o :: rest) a w := by
  have hf' : P.built t (parts.map fun (i, x) => (i, a.eval x)).toList = some cs := by rw [Array.toList_map]; exact hf
  unfold wpList
  rw [if_pos hw]
  exact .inl (wp_build t parts ho (by rw [hf']; rfl) (by rw [hf']; exact h))
theorem bytes_neq {y s : ByteArray} (h : ¬ y = s) : (y.toList == s.toList) = false := by
  rw [beq_eq_false_iff_ne, Lib.toList_data, Lib.toList_data]
  exact fun e => h (bytes_inj e)
end
/-- what Parse answers -/
def PaPost (s : ByteArray) (w : World) (e : Ending) (w' : World) : Prop :=
  Below w.heap.size w w' ∧ ((∃ a, parseA s.data.toList = some a ∧ a.length = 16 ∧ e = .returned (.tuple #[.agg (bvs a).toArray, .int .i64 0])) ∨ (parseA s.data.toList = none ∧ e = .returned (.tuple #[.agg (bvs zero16).toArray, .int .i64 5])))
theorem contains_iff (l : List UInt8) (c : UInt8) : decide (0 ≤ Lib.indexByte l c) = l.contains c := by
  induction l with
  | nil => rfl
  | cons b l ih =>
    have hge := Lib.indexByte_ge l c
    unfold Lib.indexByte
    by_cases h : b = c
    · subst h; simp
    · have h' : (b == c) = false := by simpa using h
      have h2 : (c == b) = false := by simpa using Ne.symm h
      rw [h', List.contains_cons, h2, Bool.false_or, ← ih]
      simp only [Bool.false_eq_true, if_false]
      by_cases h3 : Lib.indexByte l c = -1
      · rw [if_pos (by simpa using h3), h3]
      · rw [if_neg (by simpa using h3)]
        have : 0 ≤ Lib.indexByte l c := by omega
        rw [decide_eq_true this, decide_eq_true (by omega)]
set_option maxRecDepth 100000 in
set_option maxHeartbeats 1000000 in
theorem parse_e (s : ByteArray) (w : World) (he : AEnv w) (hs : s.size ≤ 1099511627776) :
    Calls Tryd.prog 13 #[.string s] w (PaPost s w) := by
  obtain ⟨Z, hZ⟩ : ∃ Z, Z = (bvs zero16).toArray := ⟨_, rfl⟩
  have zA : (Tryd.prog.info? 23).map (·.zero) = some (some (.agg Z)) := by rw [hZ]; exact zeroAddr
  have zB : Tryd.prog.built 23 [] = some Z := by rw [hZ]; exact builtNone
  have zS : (Tryd.prog.info? 23).map (·.size) = some Z.size := by rw [hZ]; exact sizeBv rfl
  have z1 : Z.all (·.oneCell') = true := by rw [hZ]; exact oneBv _
  have zn : Z.size = 16 := by rw [hZ]; rfl
  have hb0 : Below w.heap.size w (w.alloc (.cells Z 23)) := (Below.refl _ w).alloc (Nat.le_refl _) _
  have hg0 : (w.alloc (.cells Z 23)).heap[w.heap.size]? = some (.cells Z 23 (0, 0)) := heap_alloc_last w _
  have hg1 : w.heap.size < (w.alloc (.cells Z 23)).heap.size := by rw [World.size_alloc]; omega
  have HG0 : Hid (∀ wr, Below (w.alloc (.cells Z 23)).heap.size (w.alloc (.cells Z 23)) wr → wr.heap[w.heap.size]? = some (.cells Z 23 (0, 0)) ∧ Below w.heap.size w wr) := Lib.hid fun wr hb => ⟨by rw [hb.block _ hg1]; exact hg0, hb0.trans (hb.mono hb0.size)⟩
  have hu := Tryd.underlying23
  have HE := Lib.hid (he.below hb0)
  have ZA := Lib.hid zA
  have ZB := Lib.hid zB
  have ZS := Lib.hid zS
  have Z1 := Lib.hid z1
  have ZN := Lib.hid zn
  have HZ := Lib.hid hZ
  have HG00 := Lib.hid hg0
  by_cases hlen : 39 < s.size
  · have hp : parseA s.data.toList = none := by unfold parseA; rw [if_pos (by rw [← Lib.size_eq]; exact hlen)]
    have HP := Lib.hid hp
    have HB0 := Lib.hid hb0
    clear zA zB zS z1 zn hZ he hg0 hg1 hb0 hp
    go_enter Tryd.func13, Tryd.ntmps13
    go_wp2_with (first
      | (refine wpList_alloc_z rfl 23 rfl Z ZA.out ?_; go_simp)
      | (refine wpList_build_z rfl 23 #[] rfl Z ZB.out ?_; go_simp)
      | (refine wpList_store_blk rfl 23 (.tmp 2) (.tmp 10) rfl w.heap.size Z Z 23 HG00.out rfl rfl ZS.out rfl Z1.out ?_; intro w4 hg4 hw4 hz4; go_simp))
    exact bodyPost_ret (res_ct rfl _ w4 w.heap.size Z 23 (0, 0) (.int .i64 5) rfl rfl hg4.out ZS.out) rfl ⟨HB0.out.grown hw4.out HB0.out.size (fun k e => by injection e with e; omega), .inr ⟨HP.out, by rw [HZ.out]⟩⟩
  · have hcon := Tryd.strings_Contains_one s 58 (w.alloc (.cells Z 23))
    rw [contains_iff] at hcon
    have h4 := fun W (hW : AEnv W) => read4_e s W hW (by omega)
    have h6 := fun W (hW : AEnv W) => read6_e s W hW (by omega)
    have hrd : readA s.data.toList = if s.data.toList.contains 58 = true then read6 s.data.toList else read4 s.data.toList := rfl
    have hpa : parseA s.data.toList = match readA s.data.toList with | some a => if txt a = s.data.toList then some a else none | none => none := by
      unfold parseA
      rw [if_neg (by rw [← Lib.size_eq]; exact hlen)]
      rfl
    have H4 := Lib.hid h4
    have H6 := Lib.hid h6
    have HRD := Lib.hid hrd
    have HPA := Lib.hid hpa
    clear h4 h6 hrd hpa zA zB zS z1 zn hZ he hg0 hg1 hb0
    have HPR : Hid (∀ a, readA s.data.toList = some a → (txt a = s.data.toList → parseA s.data.toList = some a) ∧ (txt a ≠ s.data.toList → parseA s.data.toList = none)) := Lib.hid fun a ha => by
      rw [HPA.out, ha]
      exact ⟨fun h => if_pos h, fun h => if_neg h⟩
    have HPN : Hid (readA s.data.toList = none → parseA s.data.toList = none) := Lib.hid fun ha => by rw [HPA.out, ha]
    cases hc : s.data.toList.contains 58
    all_goals
      have HRA := Lib.hid HRD.out
      rw [hc] at hcon HRA
      clear hc
      go_enter Tryd.func13, Tryd.ntmps13
      go_wp2_with (first
        | (refine wpList_alloc_z rfl 23 rfl Z ZA.out ?_; go_simp)
        | (go_at_call 24; refine hcon.mono ?_; rintro e' w1 ⟨rfl, rfl⟩))
      have HCALL : Hid (Calls Tryd.prog 23 #[.string s] (w.alloc (.cells Z 23)) (Rd6Post (read4 s.data.toList) (w.alloc (.cells Z 23))) ∧ Calls Tryd.prog 25 #[.string s] (w.alloc (.cells Z 23)) (Rd6Post (read6 s.data.toList) (w.alloc (.cells Z 23)))) := Lib.hid ⟨H4.out _ HE.out, H6.out _ HE.out⟩
      first
        | refine HCALL.out.1.mono ?_
        | refine HCALL.out.2.mono ?_
      rintro e w1 ⟨hb1, h⟩
      have HB1 := Lib.hid hb1
      clear hb1
      rcases h with ⟨a, hr, hal, rfl⟩ | ⟨hr, rfl⟩
      · obtain ⟨r, hrr⟩ : ∃ r, r = (bvs a).toArray := ⟨_, rfl⟩
        have hS := sizeBv hal
        have h1 := oneBv a
        have hzr : Z.size = (bvs a).toArray.size := by rw [ZN.out, List.size_toArray, bvs_length, hal]
        have hprint := fun W (hW : AEnv W) => print_e a hal W hW
        have hpr := HPR.out a (by rw [HRA.out]; exact hr)
        simp only [← hrr] at hS h1 hzr hprint ⊢
        have HS := Lib.hid hS
        have H1 := Lib.hid h1
        have HZR := Lib.hid hzr
        have HPrint := Lib.hid hprint
        have HRR := Lib.hid hrr
        have HAL := Lib.hid hal
        have hb2 : Below (w.alloc (.cells Z 23)).heap.size (w.alloc (.cells Z 23)) (w1.alloc (.cells r 23)) := HB1.out.alloc HB1.out.size _
        have HB2 := Lib.hid hb2
        have HE2 := Lib.hid (HE.out.below hb2)
        clear hS h1 hzr hprint hrr hal hr hb2
        go_wp2_with (first
          | (refine wpList_alloc_z rfl 23 rfl Z ZA.out ?_; go_simp)
          | (refine wpList_store_new rfl 23 (.tmp 5) (.tmp 17) rfl w1.heap.size rfl Z r 23 rfl rfl HS.out HZR.out H1.out ?_; go_simp)
          | (refine wpList_load_g 23 (.tmp 5) rfl rfl w1.heap.size r 23 (0, 0) rfl (heap_alloc_last w1 _) 16 5 hu HS.out ?_; go_simp))
        refine (HPrint.out _ HE2.out).mono ?_
        rintro e w3 ⟨rfl, hb3⟩
        have HB3 := Lib.hid (HB2.out.trans (hb3.mono HB2.out.size))
        have HG3 := Lib.hid (HG0.out w3 HB3.out)
        have HG31 := Lib.hid HG3.out.1
        have hg5 : w3.heap[w1.heap.size]? = some (.cells r 23 (0, 0)) := by
          rw [hb3.block _ (Nat.lt_of_lt_of_eq (Nat.lt_succ_self _) (World.size_alloc ..).symm)]; exact heap_alloc_last w1 _
        have HG5 := Lib.hid hg5
        clear hb3 hg5
        by_cases htx : tb (txt a) = s
        · have hp := hpr.1 (by rw [← htx]; rfl)
          have HP := Lib.hid hp
          rw [htx]
          clear hp hpr htx
          go_wp2_with (first
            | (refine wpList_load_row rfl 23 (.tmp 5) rfl w1.heap.size rfl 23 r (0, 0) _ HG5.out hu rfl HS.out ?_; go_simp)
            | (refine wpList_store_blk rfl 23 (.tmp 2) (.tmp 28) rfl w.heap.size Z r 23 HG31.out rfl rfl HS.out HZR.out H1.out ?_; intro w4 hg4 hw4 hz4; go_simp))
          exact bodyPost_ret (res_ct rfl _ w4 w.heap.size r 23 (0, 0) (.int .i64 0) rfl rfl hg4.out HS.out) rfl ⟨HG3.out.2.grown hw4.out (HG3.out.2.size) (fun k e => by injection e with e; omega), .inl ⟨a, HP.out, HAL.out, by rw [HRR.out]⟩⟩
        · have hp := hpr.2 (fun e => htx (bytes_inj (by rw [tb_data]; exact e)))
          have HP := Lib.hid hp
          have hne := bytes_neq htx
          clear hp hpr
          generalize tb (txt a) = tx at htx hne
          go_wp2_with (first
            | (refine wpList_build_z rfl 23 #[] rfl Z ZB.out ?_; go_simp)
            | (refine wpList_store_blk rfl 23 (.tmp 2) (.tmp 27) rfl w.heap.size Z Z 23 HG31.out rfl rfl ZS.out rfl Z1.out ?_; intro w4 hg4 hw4 hz4; go_simp))
          exact bodyPost_ret (res_ct rfl _ w4 w.heap.size Z 23 (0, 0) (.int .i64 5) rfl rfl hg4.out ZS.out) rfl ⟨HG3.out.2.grown hw4.out (HG3.out.2.size) (fun k e => by injection e with e; omega), .inr ⟨HP.out, by rw [HZ.out]⟩⟩
      · have hpn := HPN.out (by rw [HRA.out]; exact hr)
        rw [← HZ.out]
        have HPn := Lib.hid hpn
        have hb2 : Below (w.alloc (.cells Z 23)).heap.size (w.alloc (.cells Z 23)) (w1.alloc (.cells Z 23)) := HB1.out.alloc HB1.out.size _
        have HG2 := Lib.hid (HG0.out _ hb2)
        have HG21 := Lib.hid HG2.out.1
        clear hpn hr hb2
        go_wp2_with (first
          | (refine wpList_alloc_z rfl 23 rfl Z ZA.out ?_; go_simp)
          | (refine wpList_store_new rfl 23 (.tmp 5) (.tmp 17) rfl w1.heap.size rfl Z Z 23 rfl rfl ZS.out rfl Z1.out ?_; go_simp)
          | (refine wpList_build_z rfl 23 #[] rfl Z ZB.out ?_; go_simp)
          | (refine wpList_store_blk rfl 23 (.tmp 2) (.tmp 27) rfl w.heap.size Z Z 23 HG21.out rfl rfl ZS.out rfl Z1.out ?_; intro w4 hg4 hw4 hz4; go_simp))
        exact bodyPost_ret (res_ct rfl _ w4 w.heap.size Z 23 (0, 0) (.int .i64 5) rfl rfl hg4.out ZS.out) rfl ⟨HG2.out.2.grown hw4.out (HG2.out.2.size) (fun k e => by injection e with e; omega), .inr ⟨HPn.out, by rw [HZ.out]⟩⟩
end Go.Proofs.YtclfmokdjmnjcaaDoor
