/-
  Entries as they lie in memory, the two functions that are handed to slices, and the walk of slices.IndexFunc over entries. Conditions: each states its own.
-/
import Derived.Test.YtiifanenomebeaaCacheEn
import Derived.Shelf.Abstract
import Derived.Lib.SliceRun
namespace Go.Proofs.Ytiifanenomebeaa
open Go.RowKit

theorem heap_lt {w : World} {g : Nat} {o : Obj} (h : w.heap[g]? = some o) : g < w.heap.size := (Array.getElem?_eq_some_iff.1 h).1
def flatE (l : List En) : List Value := l.flatMap En.cells
theorem flatE_nil : flatE [] = [] := rfl
theorem flatE_cons (e : En) (l : List En) : flatE (e :: l) = e.cells ++ flatE l := rfl
theorem flatE_append (a b : List En) : flatE (a ++ b) = flatE a ++ flatE b := by simp [flatE]
theorem flatE_len : ∀ l : List En, (flatE l).length = l.length * 6
  | [] => rfl
  | e :: l => by rw [flatE_cons, List.length_append, flatE_len l, En.len, List.length_cons]; omega
theorem flatE_at : ∀ (l : List En) (k j : Nat) (e : En) (v : Value), l[k]? = some e → e.cells[j]? = some v → (flatE l)[k * 6 + j]? = some v
  | [], k, j, e, v, h, _ => by simp at h
  | x :: l, 0, j, e, v, h, hj => by
    simp only [List.getElem?_cons_zero, Option.some.injEq] at h
    subst h
    have hlt : j < 6 := by have := (List.getElem?_eq_some_iff.1 hj).1; rwa [En.len] at this
    rw [flatE_cons, List.getElem?_append_left (by rw [En.len]; omega), Nat.zero_mul, Nat.zero_add]
    exact hj
  | x :: l, k + 1, j, e, v, h, hj => by
    rw [flatE_cons, List.getElem?_append_right (by rw [En.len]; omega), En.len, show (k + 1) * 6 + j - 6 = k * 6 + j by omega]
    exact flatE_at l k j e v (by simpa using h) hj
/-- the slice at A holds these entries -/
def EntsAt (w : World) (A : Option Addr) (es : List En) : Prop :=
  0 < es.length → ∃ g, A = some ⟨g, 0, none⟩ ∧ g < w.heap.size ∧ ∀ k e, es[k]? = some e → ∀ j v, e.cells[j]? = some v → w.cell? ((⟨g, k * 6, none⟩ : Addr).add j) = some v
theorem EntsAt.below {w w' : World} {A : Option Addr} {es : List En} (h : EntsAt w A es) (hb : Below w.heap.size w w') : EntsAt w' A es := fun h0 => by
  obtain ⟨g, rfl, hlt, hc⟩ := h h0
  exact ⟨g, rfl, Nat.lt_of_lt_of_le hlt hb.size, fun k e he j v hv => (hb.cell (p := (⟨g, k * 6, none⟩ : Addr).add j) (by rw [Addr.add_lit]; exact hlt)).trans (hc k e he j v hv)⟩
theorem EntsAt.of_row {w : World} {g : Nat} {es : List En} {tail : List Value} {T : TypeId} (h : w.heap[g]? = some (.cells (flatE es ++ tail).toArray T (0, 0))) : EntsAt w (some ⟨g, 0, none⟩) es := fun _ => by
  refine ⟨g, rfl, heap_lt h, fun k e he j v hv => ?_⟩
  have hk : k < es.length := (List.getElem?_eq_some_iff.1 he).1
  have hj : j < 6 := by have := (List.getElem?_eq_some_iff.1 hv).1; rwa [En.len] at this
  rw [Addr.add_lit, cell_of_row w g (k * 6 + j) _ _ _ h, List.getElem?_toArray, List.getElem?_append_left (by rw [flatE_len]; omega)]
  exact flatE_at es k j e v he hv
theorem sizeEn (e : En) : (Try.prog.info? 58).map (·.size) = some e.cells.toArray.size := (by kernel_rfl : (Try.prog.info? 58).map (·.size) = some 6)
theorem zeroEn : (Try.prog.info? 58).map (·.zero) = some (some (.agg zE.cells.toArray)) := by kernel_rfl
theorem sizeQ (a : ByteArray) (x : Int) : (Try.prog.info? 32).map (·.size) = some (#[Value.string a, .int .i64 x]).size := (by kernel_rfl : (Try.prog.info? 32).map (·.size) = some 2)

section
variable {P : Program} {ops : Array Oper} {rest : List Oper} {o : Oper} {a : Act} {Q : Exit → Act → World → Prop}
/-- a whole value of several cells, from wherever -/
theorem wpList_load_agg {w : World} (hgd : o.guard = none) (ty : TypeId) (x : Operand) (ho : o.op = .load ty x) (p : Addr) (hx : a.eval x = .pointer (some p)) (cs : Array Value) (d : TypeDesc)
    (hc : ∀ j v, cs.toList[j]? = some v → w.cell? (p.add j) = some v)
    (hu : P.underlying ty = some d) (hd : (match d with | .struct _ | .array _ _ => true | _ => false) = true) (hi : (P.info? ty).map (·.size) = some cs.size)
    (h : wpList P ops Q rest (a.put o.dst (.agg cs)) w) : wpList P ops Q (o :: rest) a w :=
  wpList_plain hgd fun _ hK => by
    have hl := run_loadCells_list (P := P) w p cs.toList hc
    cases hq : P.info? ty with
    | none => simp [hq] at hi
    | some i =>
      have hs : i.size = cs.size := by simpa [hq] using hi
      have hagg : (isAgg ty).run P w = .ok true w := by
        unfold isAgg
        rw [Sem.run_bind, run_underlying hu w]
        cases d <;> simp_all
      have hlv : (loadVar ty p).run P w = .ok (.agg cs) w := by
        simp only [Array.length_toList, Array.toArray_toList] at hl
        simp [loadVar, Sem.run_bind, hagg, sizeOf, typeInfo, hq, hs, hl]
      unfold Oper.wp execOp
      simp only [ho, hx, Instr.loadAt, Instr.sureAddr, Sem.run_bind, Sem.run_pure, Result.andThen_ok, hlv]
      exact hK _ _ h
/-- two values of several cells held against one another -/
theorem wpList_eql_agg {w : World} (hgd : o.guard = none) (t : TypeId) (x y : Operand) (s : TypeId) (ho : o.op = .binOp .eql t x y s) (xs ys : Array Value) (b : Bool) (hx : a.eval x = .agg xs) (hy : a.eval y = .agg ys)
    (hm : P.eqGuardType P.depth t = false) (hr : (Op.equalIn 10000 t (.agg xs) (.agg ys)).run P w = .ok b w)
    (h : wpList P ops Q rest (a.put o.dst (.bool b)) w) : wpList P ops Q (o :: rest) a w :=
  wpList_plain hgd fun _ hK => by
    have h1 := run_eqGuard_agg (P := P) w .eql t x y xs ys hm
    have h2 := run_eql_struct (P := P) w t xs ys
    rw [hr] at h2
    unfold Oper.wp execOp
    simp only [ho, hx, hy, Sem.run_bind, h1, h2, Result.andThen_ok]
    exact hK _ _ h
end
theorem toList_inj (a b : ByteArray) : (a.toList == b.toList) = decide (a = b) := by
  rw [Bool.eq_iff_iff, beq_iff_eq, decide_eq_true_eq]
  constructor
  · intro h
    rw [Lib.toList_data, Lib.toList_data] at h
    exact ByteArray.ext (Array.toList_inj.1 h)
  · rintro rfl; rfl
theorem eqQ (a b : ByteArray) (x y : Int) (w : World) : (Op.equalIn 10000 32 (.agg #[.string a, .int .i64 x]) (.agg #[.string b, .int .i64 y])).run Try.prog w = .ok (decide (a = b ∧ x = y)) w := by
  have hS : Try.prog.underlying 32 = some (.struct (Try.prog.fieldsOf 32)) := by kernel_rfl
  have hp : Try.prog.stoodInHeld 32 = false := by kernel_rfl
  have u1 := Try.underlying9
  have u2 := Try.underlying3
  rw [show (10000 : Nat) = 9999 + 1 from rfl, run_equalIn_struct w 9999 32 _ _ hS hp]
  simp only [Program.fieldsOf, Try.underlying32]
  have e := toList_inj a b
  by_cases h1 : a = b <;> by_cases h2 : x = y
  all_goals
    simp only [h1, decide_true, decide_false] at e
    go_simp
/-- what closures answer of entries -/
def PredB (g : Nat) (lb : Array Value) (p : En → Bool) (w : World) (es : List En) : Prop :=
  ∀ (W : World) (x : En), x ∈ es → Below w.heap.size w W → Calls Try.prog g (#[.agg x.cells.toArray] ++ lb) W fun e w' => e = .returned (.bool (p x)) ∧ Below W.heap.size W w'
def IdxP (p : En → Bool) (es : List En) (r : Int) : Prop := (r = -1 ∧ ∀ e ∈ es, p e = false) ∨ ∃ (k : Nat) (e : En), r = k ∧ es[k]? = some e ∧ p e = true ∧ ∀ j e', j < k → es[j]? = some e' → p e' = false
def IdxPost (p : En → Bool) (es : List En) (w : World) (e : Ending) (w' : World) : Prop := ∃ r : Int, e = .returned (.int .i64 r) ∧ IdxP p es r ∧ Below w.heap.size w w'
set_option maxRecDepth 100000 in
set_option maxHeartbeats 2000000 in
theorem indexFunc_e (A : Option Addr) (c : Nat) (es : List En) (hl : es.length ≤ 1000) (g : Nat) (lb : Array Value) (eg : ∀ args w, (callFunc g args).run Try.prog w = .ok (.enter g args) w) (p : En → Bool) (w : World) (h : EntsAt w A es) (hp : PredB g lb p w es) :
    Calls Try.prog 27 #[.slice A es.length c, .func (.func g) #[] lb] w fun e w' => IdxPost p es w e w' := by
  have HR := Lib.hid h
  have HP := Lib.hid hp
  clear h hp
  go_enter Try.func27, Try.ntmps27
  go_wp2_with fail
  go_loopw [8, 5] (fun i _ wr => ∃ k : Nat, k ≤ es.length ∧ i = .int .i64 k ∧ Hid (Below w.heap.size w wr) ∧ Hid (∀ j e', j < k → es[j]? = some e' → p e' = false)) (fun i _ _ => es.length - (intOf i).toNat)
  case atStart => exact ⟨0, Nat.zero_le _, rfl, Lib.hid (Below.refl _ _), Lib.hid (fun j e' hj => absurd hj (Nat.not_lt_zero _))⟩
  case round =>
    obtain ⟨k, hk, rfl, HB, HA⟩ := hrel
    by_cases hlt : k < es.length
    · obtain ⟨b, rfl, hbl, hc⟩ := (HR.out.below HB.out) (by omega)
      obtain ⟨r, hr⟩ : ∃ r, es[k]? = some r := ⟨_, List.getElem?_eq_getElem hlt⟩
      have HC : Hid (∀ j v, r.cells.toArray.toList[j]? = some v → wr.cell? ((⟨b, k * 6, none⟩ : Addr).add j) = some v) := Lib.hid (hc k r hr)
      have Z := Lib.hid (sizeEn r)
      have C := HP.out wr r (List.mem_of_getElem? hr) HB.out
      have HT : Hid (p r = false → ∀ j e', j < k + 1 → es[j]? = some e' → p e' = false) := Lib.hid (fun e j e' hj he => by
        rcases Nat.lt_or_ge j k with hjk | hjk
        · exact HA.out j e' hjk he
        · obtain rfl : j = k := by omega
          rw [hr] at he; injection he with he; rw [← he]; exact e)
      have HL : Hid (p r = true → IdxP p es k) := Lib.hid (fun e => .inr ⟨k, r, rfl, hr, e, HA.out⟩)
      clear hc hr hbl
      revert HC Z C HT HL
      generalize p r = bb
      generalize r.cells.toArray = cs
      intro HC Z C HT HL
      cases bb with
      | false =>
        go_wp2_with (first
          | (refine wpList_load_agg rfl 58 (.tmp 14) rfl ⟨b, k * 6, none⟩ rfl cs _ HC.out Try.underlying58 rfl Z.out ?_; go_simp)
          | (go_at_fn g; refine C.mono ?_; rintro e w2 ⟨rfl, hb2⟩; have HB2 := Lib.hid (HB.out.trans (hb2.mono HB.out.size)); clear hb2 C; go_simp))
        go_roundw
        case rel => exact ⟨k + 1, by omega, by go_num, HB2, Lib.hid (HT.out rfl)⟩
        case measure => simp [intOf]; omega
      | true =>
        go_wp2_with (first
          | (refine wpList_load_agg rfl 58 (.tmp 14) rfl ⟨b, k * 6, none⟩ rfl cs _ HC.out Try.underlying58 rfl Z.out ?_; go_simp)
          | (go_at_fn g; refine C.mono ?_; rintro e w2 ⟨rfl, hb2⟩; have HB2 := Lib.hid (HB.out.trans (hb2.mono HB.out.size)); clear hb2 C; go_simp))
        go_ret
        exact ⟨k, rfl, HL.out (by simp), HB2.out⟩
    · obtain rfl : k = es.length := by omega
      go_wp2_with fail
      go_ret
      exact ⟨-1, rfl, .inl ⟨rfl, fun e he => by
        obtain ⟨j, hj, hje⟩ := List.getElem_of_mem he
        exact HA.out j e hj (by rw [List.getElem?_eq_getElem hj, hje])⟩, HB.out⟩
def nC (now : Nat) (e : En) : Bool := !cnt now e
def isQ (qn : ByteArray) (qt : Int) (e : En) : Bool := decide (e.nm = qn ∧ e.ty = qt)
set_option maxRecDepth 100000 in
theorem expire1_e (B now : Nat) (x : En) (hx : x.Fits) (hn : now ≤ big) (w : World) (hB : w.cell? ⟨B, 0, none⟩ = some (.int .i64 now)) :
    Calls Try.prog 20 #[.agg x.cells.toArray, .pointer (some ⟨B, 0, none⟩)] w fun e w' => e = .returned (.bool (nC now x)) ∧ Below w.heap.size w w' := by
  have C := counts_e x.nm x.ty x.out x.rv x.frm x.ttl now (w.alloc (.cells x.cells.toArray 58)) hx.frm hx.ttl hn
  have C' : Calls Try.prog 21 #[.agg x.cells.toArray, .int .i64 now] (w.alloc (.cells x.cells.toArray 58)) _ := C
  have Z := Lib.hid (sizeEn x)
  have hB' := Lib.cell?_alloc_some (.cells x.cells.toArray 58) hB
  have HR : Hid ((!decide (now < x.frm + x.ttl)) = nC now x) := Lib.hid rfl
  clear hx hn C hB
  revert C' Z hB' HR
  generalize nC now x = r
  generalize decide (now < x.frm + x.ttl) = b
  generalize x.cells.toArray = cs
  intro C Z hB HR
  go_enter Try.func20, Try.ntmps20
  go_wp2_with (first
    | (refine wpList_load_row rfl 58 (.tmp 2) rfl w.heap.size rfl 58 cs (0, 0) _ (heap_alloc_last w _) Try.underlying58 rfl Z.out ?_; go_simp)
    | (go_at_call 21; refine C.mono ?_; rintro e w1 ⟨rfl, hb1⟩; have HB := Lib.hid (((Below.refl _ w).alloc (Nat.le_refl _) (.cells cs 58)).trans (hb1.mono (by simp))); clear hb1 C; go_simp))
  go_ret
  exact ⟨ret_bool HR.out, HB.out⟩
set_option maxRecDepth 100000 in
theorem find1_e (B : Nat) (qn : ByteArray) (qt : Int) (x : En) (w : World) (hB0 : w.cell? ⟨B, 0, none⟩ = some (.string qn)) (hB1 : w.cell? ⟨B, 1, none⟩ = some (.int .i64 qt)) :
    Calls Try.prog 28 #[.agg x.cells.toArray, .pointer (some ⟨B, 0, none⟩)] w fun e w' => e = .returned (.bool (isQ qn qt x)) ∧ Below w.heap.size w w' := by
  obtain ⟨nm, ty, out, rv, rn, recs, frm, ttl⟩ := x
  have h0 := Lib.cell?_alloc_some (.cells #[.string nm, .int .i64 ty, .int .i64 out, rv, .int .i64 frm, .int .i64 ttl] 58) hB0
  have h1 := Lib.cell?_alloc_some (.cells #[.string nm, .int .i64 ty, .int .i64 out, rv, .int .i64 frm, .int .i64 ttl] 58) hB1
  have HQ := Lib.hid (fun W => eqQ nm qn ty qt W)
  have HG : Hid (Try.prog.eqGuardType Try.prog.depth 32 = false) := Lib.hid (by kernel_rfl)
  have HB : Hid (Below w.heap.size w (w.alloc (.cells #[.string nm, .int .i64 ty, .int .i64 out, rv, .int .i64 frm, .int .i64 ttl] 58))) := Lib.hid ((Below.refl _ w).alloc (Nat.le_refl _) _)
  have HR : Hid (isQ qn qt ⟨nm, ty, out, rv, rn, recs, frm, ttl⟩ = decide (nm = qn ∧ ty = qt)) := Lib.hid rfl
  show Calls _ _ #[.agg #[.string nm, .int .i64 ty, .int .i64 out, rv, .int .i64 frm, .int .i64 ttl], .pointer (some ⟨B, 0, none⟩)] w _
  clear hB0 hB1
  revert HR HQ
  generalize isQ qn qt ⟨nm, ty, out, rv, rn, recs, frm, ttl⟩ = r
  generalize decide (nm = qn ∧ ty = qt) = b
  intro HQ HR
  go_enter Try.func28, Try.ntmps28
  go_wp2_with (first
    | (refine wpList_eql_agg rfl 32 (.tmp 5) (.tmp 6) 32 rfl #[.string nm, .int .i64 ty] #[.string qn, .int .i64 qt] b rfl rfl HG.out (HQ.out _) ?_; go_simp))
  go_ret
  exact ⟨ret_bool HR.out.symm, HB.out⟩
end Go.Proofs.Ytiifanenomebeaa
