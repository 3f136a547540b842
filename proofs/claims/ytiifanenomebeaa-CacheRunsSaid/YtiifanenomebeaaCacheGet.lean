/-
  The walk of Get. Conditions: each states its own.
-/
import Derived.Test.YtiifanenomebeaaCacheRec
namespace Go.Proofs.Ytiifanenomebeaa
open Go.RowKit Go.Lib

theorem idx_find {p : En → Bool} : ∀ {es : List En} {r : Int}, IdxP p es r → (r = -1 ∧ es.find? p = none) ∨ ∃ (k : Nat) (x : En), r = k ∧ es[k]? = some x ∧ es.find? p = some x := by
  intro es r h
  rcases h with ⟨h1, h2⟩ | ⟨k, e, h1, h2, h3, h4⟩
  · exact .inl ⟨h1, by rw [List.find?_eq_none]; intro x hx; rw [h2 x hx]; simp⟩
  · refine .inr ⟨k, e, h1, h2, ?_⟩
    clear h1
    induction es generalizing k with
    | nil => simp at h2
    | cons a l ih =>
      cases k with
      | zero =>
        simp only [List.getElem?_cons_zero, Option.some.injEq] at h2
        subst h2
        rw [List.find?_cons_of_pos h3]
      | succ k =>
        have ha : p a = false := h4 0 a (Nat.succ_pos k) rfl
        rw [List.find?_cons_of_neg (by rw [ha]; simp)]
        exact ih k (by simpa using h2) (fun j e' hj he => h4 (j + 1) e' (by omega) (by simpa using he))
def GetPost (qn : ByteArray) (qt : Int) (now : Nat) (es : List En) (w : World) (e : Ending) (w' : World) : Prop :=
  (e = .returned (.tuple #[.int .i64 0, .slice none 0 0]) ∧ Below w.heap.size w w' ∧ ∀ x, es.find? (isQ qn qt) = some x → cnt now x = false) ∨
  ∃ (x : En) (rs : List Rc) (lv : Value), es.find? (isQ qn qt) = some x ∧ cnt now x = true ∧ x.recs = recsC rs ∧ (∀ r ∈ rs, r.Ok) ∧ e = .returned (.tuple #[.int .i64 x.out, lv]) ∧ w'.ownsRow w.heap.size 40 21 lv rs.length (recsC (aged (now - x.frm) rs)) ∧ Below w.heap.size w w'
theorem get_nil (w : World) (now : Int) (qn : ByteArray) (qt : Int) :
    Calls Try.prog 16 #[.pointer none, .int .i64 now, .agg #[.string qn, .int .i64 qt]] w fun e w' => e = .returned (.tuple #[.int .i64 0, .slice none 0 0]) ∧ Below w.heap.size w w' := by
  have HB : Hid (Below w.heap.size w (w.alloc (.cells #[.string qn, .int .i64 qt] 32))) := Lib.hid ((Below.refl _ w).alloc (Nat.le_refl _) _)
  go_enter Try.func16, Try.ntmps16
  go_wp2_with fail
  go_ret2
  exact ⟨rfl, HB.out⟩
theorem less_n (t d : Nat) (w : World) (h1 : t ≤ big) (h2 : d ≤ big) : Calls Try.prog 26 #[.int .i64 t, .int .i64 d] w fun e w' => e = .returned (.int .i64 ((t - d : Nat) : Int)) ∧ w = w' := by
  have h := less_e t d w (by omega) (by exact_mod_cast h1) h2
  rw [show max 0 ((t : Int) - (d : Int)) = ((t - d : Nat) : Int) by omega] at h
  exact h
section
variable {P : Program} {ops : Array Oper} {rest : List Oper} {o : Oper} {a : Act} {Q : Exit → Act → World → Prop}
theorem wpList_load_agg_gh {w : World} (hw : Region.wanted o (yielded ops a.tmps) = true) (ty : TypeId) (x : Operand) (ho : o.op = .load ty x) (p : Addr) (hx : a.eval x = .pointer (some p)) (cs : Array Value) (d : TypeDesc)
    (hc : ∀ j v, cs.toList[j]? = some v → w.cell? (p.add j) = some v)
    (hu : P.underlying ty = some d) (hd : (match d with | .struct _ | .array _ _ => true | _ => false) = true) (hi : (P.info? ty).map (·.size) = some cs.size)
    (h : wpList P ops Q rest (a.put o.dst (.agg cs)) w) : wpList P ops Q (o :: rest) a w := by
  unfold wpList
  rw [if_pos hw]
  left
  have hl := run_loadCells_list (P := P) w p cs.toList hc
  cases hq : P.info? ty with
  | none => simp [hq] at hi
  | some i =>
    have hs : i.size = cs.size := by simpa [hq] using hi
    have hagg : (isAgg ty).run P w = .ok true w := by
      unfold isAgg
      rw [Sem.run_bind, run_underlying hu w]
      cases d <;> simp_all
    have hlv : (loadVar ty p).run P w = .ok (.agg cs) w := by
      simp only [Array.length_toList, Array.toArray_toList] at hl
      simp [loadVar, Sem.run_bind, hagg, sizeOf, typeInfo, hq, hs, hl]
    unfold Oper.wp execOp
    simp only [ho, hx, Instr.loadAt, Instr.sureAddr, Sem.run_bind, Sem.run_pure, Result.andThen_ok, hlv]
    exact h
end
def zRec : Array Value := #[.string ⟨#[]⟩, .int .i64 0, .int .i64 0, .int .u8 0, .int .u8 0, .int .u8 0, .int .u8 0, .int .u8 0, .int .u8 0, .int .u8 0, .int .u8 0, .int .u8 0, .int .u8 0, .int .u8 0, .int .u8 0, .int .u8 0, .int .u8 0, .int .u8 0, .int .u8 0, .string ⟨#[]⟩, .string ⟨#[]⟩]
theorem zeroRec : (Try.prog.info? 40).map (·.zero) = some (some (.agg zRec)) := by kernel_rfl
theorem sizeRec {x : Rc} (h : x.Ok) : (Try.prog.info? 40).map (·.size) = some x.cells.toArray.size := by
  rw [List.size_toArray, Rc.clen h]
  kernel_rfl
/-- the world within Get's loop -/
structure GAt (w wr : World) (E : Nat) (cs : Array Value) (lv : Value) (n : Nat) (l : List Rc) : Prop where
  own : wr.ownsRow w.heap.size 40 21 lv n (recsC l)
  ent : wr.heap[E]? = some (.cells cs 58 (0, 0))
  below : Below w.heap.size w wr
theorem GAt.step {w wr w2 : World} {E n : Nat} {cs : Array Value} {lv : Value} {l : List Rc} (h : GAt w wr E cs lv n l) (hb : Below wr.heap.size wr w2) : GAt w w2 E cs lv n l :=
  ⟨own_below h.own hb, (hb.block E (heap_lt h.ent)).trans h.ent, h.below.trans (hb.mono h.below.size)⟩
set_option maxRecDepth 100000 in
set_option maxHeartbeats 8000000 in
theorem get_e {base C size : Nat} {w : World} {v : Value} {es : List En} (h : CAt base w C size v es) (now : Nat) (hn : now ≤ big) (qn : ByteArray) (qt : Int) (hfr : ∀ x ∈ es, x.frm ≤ now) (hrs : ∀ x ∈ es, ∃ rs, x.recs = recsC rs ∧ x.rn = rs.length ∧ rs.length ≤ 1000 ∧ ∀ r ∈ rs, r.Ok) :
    Calls Try.prog 16 #[.pointer (some ⟨C, 0, none⟩), .int .i64 now, .agg #[.string qn, .int .i64 qt]] w fun e w' => GetPost qn qt now es w e w' := by
  have hb : Below w.heap.size w (w.alloc (.cells #[.string qn, .int .i64 qt] 32)) := (Below.refl _ w).alloc (Nat.le_refl _) _
  have hA := h.below hb
  have hF := find_e hA qn qt
  have HA := Lib.hid hA
  have HBW := Lib.hid hb
  have HFR := Lib.hid hfr
  have HRS := Lib.hid hrs
  have HN := Lib.hid hn
  clear h hb hA hfr hrs hn
  go_enter Try.func16, Try.ntmps16
  go_wp2_with fail
  refine hF.mono ?_
  rintro e w1 ⟨r, rfl, hI, hb1⟩
  have HB1 := Lib.hid (HBW.out.trans (hb1.mono HBW.out.size))
  have HC1 := Lib.hid (HA.out.below hb1)
  have hx := idx_find hI
  clear hF hI hb1 HA HBW
  rcases hx with ⟨rfl, hnone⟩ | ⟨k, x, rfl, hk, hfind⟩
  · have HNO := Lib.hid hnone
    clear hnone
    go_wp2_with fail
    go_ret2
    exact .inl ⟨rfl, HB1.out, fun x hx => by rw [HNO.out] at hx; cases hx⟩
  · have hkl : k < es.length := (List.getElem?_eq_some_iff.1 hk).1
    rcases HC1.out.row with ⟨_, hnil⟩ | ⟨g, cap, tail, hv, hbg, hg, hnc, hcm, hs⟩
    · subst hnil; simp at hkl
    subst hv
    have c1 := cell_of_row w1 C 1 _ _ _ HC1.out.obj
    simp only [List.getElem?_toArray, List.getElem?_cons_succ, List.getElem?_cons_zero] at c1
    obtain ⟨g', hg', hgl, hcell⟩ := (EntsAt.of_row hg) (by omega)
    obtain rfl : g = g' := by injection hg' with h; injection h
    have HCE : Hid (∀ j v, x.cells.toArray.toList[j]? = some v → w1.cell? ((⟨g, k * 6, none⟩ : Addr).add j) = some v) := Lib.hid (hcell k x hk)
    have hmx := List.mem_of_getElem? hk
    have hfx := HC1.out.fits x hmx
    have hcnt : Calls Try.prog 21 #[.agg x.cells.toArray, .int .i64 now] w1 fun e w' => e = .returned (.bool (cnt now x)) ∧ Below w1.heap.size w1 w' := counts_e x.nm x.ty x.out x.rv x.frm x.ttl now w1 hfx.frm hfx.ttl HN.out
    have Z := Lib.hid (sizeEn x)
    have ZS : Hid (zE.cells.toArray.size = x.cells.toArray.size) := Lib.hid rfl
    have O1 := Lib.hid (one_cells (HC1.out.one x hmx))
    have HZE := Lib.hid zeroEn
    have HFI := Lib.hid hfind
    have HG := Lib.hid hg
    have HMX := Lib.hid hmx
    have X2 : Hid (x.cells.toArray[2]? = some (.int .i64 x.out)) := Lib.hid rfl
    have X3 : Hid (x.cells.toArray[3]? = some x.rv) := Lib.hid rfl
    have X4 : Hid (x.cells.toArray[4]? = some (.int .i64 x.frm)) := Lib.hid rfl
    clear hs hg hbg hcell hgl hg' hk hfind hmx hfx
    cases hc : cnt now x with
    | false =>
      rw [hc] at hcnt
      have HCN := Lib.hid hc
      clear hc
      generalize x.cells.toArray = cs at *
      go_wp2_with (first
        | (refine wpList_load_agg_gh (by kernel_rfl) 58 (.tmp 26) rfl ⟨g, k * 6, none⟩ rfl cs _ HCE.out Try.underlying58 rfl Z.out ?_; go_simp)
        | (go_at_call 21; refine hcnt.mono ?_; rintro e w2 ⟨rfl, hb2⟩; have HB2 := Lib.hid (HB1.out.trans (hb2.mono HB1.out.size)); clear hb2 hcnt; go_simp))
      go_ret2
      exact .inl ⟨rfl, HB2.out, fun y hy => by rw [HFI.out] at hy; injection hy with hy; rw [← hy]; exact HCN.out⟩
    | true =>
      rw [hc] at hcnt
      have HCN := Lib.hid hc
      clear hc
      obtain ⟨rs, hr1, hr2, hr3, hr4⟩ := HRS.out x HMX.out
      have hrec := HC1.out.recs x HMX.out
      obtain ⟨Ax, cx, hvx⟩ := own_sl hrec
      rw [hr1, hr2] at hrec
      rw [hvx, hr2] at X3 hrec
      have HREC := Lib.hid hrec
      have HR1 := Lib.hid hr1
      have HR4 := Lib.hid hr4
      have HXF := Lib.hid (HFR.out x HMX.out)
      clear hr1 hr2 hr4 hrec hvx
      obtain ⟨d, hd⟩ : ∃ d, now = x.frm + d := ⟨now - x.frm, by have := HXF.out; omega⟩
      have hdd : (now : Int) - (x.frm : Int) = (d : Int) := by omega
      have HD := Lib.hid hd
      have hdb : d ≤ 1099511627776 := by have := HN.out; unfold big at this; omega
      clear hd
      generalize hcs : x.cells.toArray = cs at *
      have HCS := Lib.hid hcs
      clear hcs
      go_wp2_with (first
        | (refine wpList_load_agg_gh (by kernel_rfl) 58 (.tmp 26) rfl ⟨g, k * 6, none⟩ rfl cs _ HCE.out Try.underlying58 rfl Z.out ?_; go_simp))
      refine hcnt.mono ?_
      rintro e w2 ⟨rfl, hb2⟩
      have HB2 := Lib.hid (HB1.out.trans (hb2.mono HB1.out.size))
      have HC2 := Lib.hid (HC1.out.below hb2)
      have HCE2 : Hid (∀ j v, cs.toList[j]? = some v → w2.cell? ((⟨g, k * 6, none⟩ : Addr).add j) = some v) := Lib.hid (fun j v hj => (hb2.cell (p := (⟨g, k * 6, none⟩ : Addr).add j) (by rw [Addr.add_lit]; exact heap_lt HG.out)).trans (HCE.out j v hj))
      have HREC2 := Lib.hid (own_below HREC.out hb2)
      clear hb2 hcnt HCE c1 HREC HC1 HB1 HG
      have c1 := cell_of_row w2 C 1 _ _ _ HC2.out.obj
      simp only [List.getElem?_toArray, List.getElem?_cons_succ, List.getElem?_cons_zero] at c1
      have hba : Below w2.heap.size w2 (w2.alloc (.cells cs 58)) := (Below.refl _ w2).alloc (Nat.le_refl _) _
      have hE : (w2.alloc (.cells cs 58)).heap[w2.heap.size]? = some (.cells cs 58 (0, 0)) := heap_alloc_last w2 _
      have e3 := (cell_of_row _ w2.heap.size 3 _ _ _ hE).trans X3.out
      have hCl := clone_e (RecsIn.of_own (own_below HREC2.out hba) (recsC_one HR4.out)) hr3
      have HE0 := Lib.hid hE
      have HBA := Lib.hid (HB2.out.trans (hba.mono HB2.out.size))
      clear hba hE
      go_wp2_with (first
        | (refine wpList_load_agg rfl 58 (.tmp 37) rfl ⟨g, k * 6, none⟩ rfl cs _ HCE2.out Try.underlying58 rfl Z.out ?_; go_simp)
        | (refine wpList_alloc_z rfl 58 rfl zE.cells.toArray HZE.out ?_; go_simp)
        | (refine wpList_store_new rfl 58 (.tmp 9) (.tmp 38) rfl w2.heap.size rfl zE.cells.toArray cs 58 rfl rfl Z.out ZS.out O1.out ?_; go_simp))
      refine hCl.mono ?_
      rintro e w3 ⟨lv, rfl, ho3, hb3⟩
      obtain ⟨E, hEE⟩ : ∃ E, E = w2.heap.size := ⟨_, rfl⟩
      rw [← hEE] at HE0 ⊢
      have HG3 : Hid (GAt w w3 E cs lv rs.length rs) := Lib.hid ⟨own_base ho3 (by have := HBA.out.size; exact this), (hb3.block E (heap_lt HE0.out)).trans HE0.out, HBA.out.trans (hb3.mono HBA.out.size)⟩
      obtain ⟨AL, cl, rfl⟩ := own_sl ho3
      clear ho3 hb3 hEE HE0 HBA HB2 hCl e3 HREC2 c1 HC2 HCE2
      have HZR := Lib.hid zeroRec
      go_wp2_with fail
      go_loopw [44, 11, 12] (fun i _ _ wr => ∃ j : Nat, j ≤ rs.length ∧ i = .int .i64 j ∧ Hid (GAt w wr E cs (.slice AL rs.length cl) rs.length (aged d (rs.take j) ++ rs.drop j))) (fun i _ _ _ => rs.length - (intOf i).toNat)
      case atStart => exact ⟨0, Nat.zero_le _, rfl, by simpa [aged] using HG3⟩
      case round =>
        obtain ⟨j, hj, rfl, HW⟩ := hrel
        by_cases hlt : j < rs.length
        · obtain ⟨r, hr⟩ : ∃ r, rs[j]? = some r := ⟨_, List.getElem?_eq_getElem hlt⟩
          have hok := HR4.out r (List.mem_of_getElem? hr)
          have hLo : ∀ y ∈ aged d (rs.take j) ++ rs.drop j, y.Ok := fun y hy => by
            rcases List.mem_append.1 hy with hy | hy
            · obtain ⟨z, hz, rfl⟩ := List.mem_map.1 hy
              exact age_ok (HR4.out z (List.mem_of_mem_take hz))
            · exact HR4.out y (List.mem_of_mem_drop hy)
          have hal : (aged d (rs.take j)).length = j := by unfold aged; rw [List.length_map, List.length_take]; omega
          have hLj : (aged d (rs.take j) ++ rs.drop j)[j]? = some r := by
            rw [List.getElem?_append_right (by omega), hal, Nat.sub_self, List.getElem?_drop, Nat.add_zero]; exact hr
          have hset : (aged d (rs.take j) ++ rs.drop j).set j (age d r) = aged d (rs.take (j + 1)) ++ rs.drop (j + 1) := by
            rw [List.set_append_right _ _ (by omega), hal, Nat.sub_self, List.drop_eq_getElem_cons hlt, List.set_cons_zero, List.take_succ_eq_append_getElem hlt]
            have e : rs[j] = r := by rw [List.getElem?_eq_getElem hlt] at hr; injection hr
            unfold aged
            rw [e]
            simp
          obtain ⟨g2, hg2⟩ : ∃ g2, AL = some ⟨g2, 0, none⟩ := by
            rcases HW.out.own.2 with ⟨_, h0⟩ | ⟨g', _, _, hv, _⟩
            · omega
            · injection hv with hv
              exact ⟨g', hv⟩
          subst hg2
          obtain ⟨hat, hbg2, cur2, hcur2⟩ := own_at HW.out.own
          have hcr : ∀ t v, r.cells[t]? = some v → wr.cell? ⟨g2, j * 21 + t, none⟩ = some v := fun t v hv => (hat _ _ (recsC_at _ j t r v hLo hLj hv)).1
          have HCR : Hid (∀ t v, r.cells.toArray.toList[t]? = some v → wr.cell? ((⟨g2, j * 21, none⟩ : Addr).add t) = some v) := Lib.hid (fun t v hv => by rw [Addr.add_lit]; exact hcr t v hv)
          have ZR := Lib.hid (sizeRec hok)
          have ZZ : Hid (zRec.size = r.cells.toArray.size) := Lib.hid (by show zRec.size = r.cells.length; rw [Rc.clen hok]; rfl)
          have OR : Hid (r.cells.toArray.all (·.oneCell') = true) := Lib.hid (by rw [List.all_toArray, List.all_eq_true]; exact Rc.cone hok)
          have hba : Below wr.heap.size wr (wr.alloc (.cells r.cells.toArray 40)) := (Below.refl _ wr).alloc (Nat.le_refl _) _
          have HW1 := Lib.hid (HW.out.step hba)
          have r2 : (wr.alloc (.cells r.cells.toArray 40)).cell? ⟨wr.heap.size, 2, none⟩ = some (.int .i64 r.t) := by rw [cell_of_row _ wr.heap.size 2 _ _ _ (heap_alloc_last wr _)]; rfl
          have e4 := (cell_of_row _ E 4 _ _ _ HW1.out.ent).trans X4.out
          have g4 : (wr.alloc (.cells r.cells.toArray 40)).cell? ⟨g2, j * 21 + 2, none⟩ = some (.int .i64 r.t) := (hba.cell (p := ⟨g2, j * 21 + 2, none⟩) (heap_lt hcur2)).trans (hcr 2 _ rfl)
          have f4 : (wr.alloc (.cells r.cells.toArray 40)).frozen? ⟨g2, j * 21 + 2, none⟩ = false := (hba.frozen (p := ⟨g2, j * 21 + 2, none⟩) (heap_lt hcur2)).trans (hat _ _ (recsC_at _ j 2 r _ hLo hLj rfl)).2
          have HNX : Hid (GAt w ((wr.alloc (.cells r.cells.toArray 40)).setCell ⟨g2, j * 21 + 2, none⟩ (.int .i64 ((r.t - d : Nat) : Int))) E cs (.slice (some ⟨g2, 0, none⟩) rs.length cl) rs.length (aged d (rs.take (j + 1)) ++ rs.drop (j + 1))) := Lib.hid (by
            have ho := own_set HW1.out.own (j * 21 + 2) (.int .i64 ((r.t - d : Nat) : Int))
            rw [recsC_set _ j 2 r (age d r) (.int .i64 ((r.t - d : Nat) : Int)) hLo hLj (by omega) rfl, hset] at ho
            have hne : E ≠ g2 := by
              rintro rfl
              have := HW.out.ent
              rw [hcur2] at this
              injection this with this
              injection this with _ this
              exact absurd this (by decide)
            exact ⟨ho, (heap_setCell_other _ _ _ _ hne).trans HW1.out.ent, HW1.out.below.setCell hbg2 _⟩)
          have HLS := Lib.hid (fun W => less_n r.t d W hok.small (by have := HN.out; have := HD.out; omega))
          clear hr hok hLo hal hLj hset hat hbg2 hcur2 hcr hba HW HW1
          generalize r.cells.toArray = rc at *
          go_wp2_with (first
            | (refine wpList_load_agg rfl 40 (.tmp 47) rfl ⟨g2, j * 21, none⟩ rfl rc _ HCR.out Try.underlying40 rfl ZR.out ?_; go_simp)
            | (refine wpList_alloc_z rfl 40 rfl zRec HZR.out ?_; go_simp)
            | (refine wpList_store_new rfl 40 (.tmp 12) (.tmp 48) rfl wr.heap.size rfl zRec rc 40 rfl rfl ZR.out ZZ.out OR.out ?_; go_simp))
          refine (HLS.out _).mono ?_
          rintro e w' ⟨rfl, rfl⟩
          go_wp2_with fail
          go_roundw
          case rel => exact ⟨j + 1, by omega, by go_num, HNX⟩
          case measure => simp [intOf]; omega
        · obtain rfl : j = rs.length := by omega
          have HO := Lib.hid HW.out.own
          have HBF := Lib.hid HW.out.below
          have e2 := (cell_of_row _ E 2 _ _ _ HW.out.ent).trans X2.out
          go_wp2_with fail
          go_ret2
          refine .inr ⟨x, rs, _, HFI.out, HCN.out, HR1.out, HR4.out, rfl, ?_, HBF.out⟩
          have := HO.out
          rw [List.take_length, List.drop_length, List.append_nil] at this
          rw [show now - x.frm = d by have := HD.out; omega]
          exact this
end Go.Proofs.Ytiifanenomebeaa
