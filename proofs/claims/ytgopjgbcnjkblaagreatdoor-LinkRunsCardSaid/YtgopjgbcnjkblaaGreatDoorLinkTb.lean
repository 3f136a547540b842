/-
  The walks of New, Remove and Get of a table, of cache.New at 1 and 16, and of Len of a new cache. Conditions: the table is of the call's own.
-/
import Derived.Test.YtgopjgbcnjkblaaGreatDoorLinkFn
namespace Go.Proofs.YtgopjgbcnjkblaaGreatDoor
open Go.RowKit

theorem Sl.clen (s : Sl) : s.cells.length = 8 := rfl
theorem tcells_at : ∀ {ss : List Sl} {k j : Nat} {s : Sl} {v : Value} (n : Int), ss[k]? = some s → s.cells[j]? = some v → (tcells ss n)[k * 8 + j]? = some v
  | [], k, j, s, v, n, h, _ => by simp at h
  | t :: l, 0, j, s, v, n, h, hv => by
    obtain rfl : t = s := by simpa using h
    have hj : j < t.cells.length := (List.getElem?_eq_some_iff.1 hv).1
    rw [show 0 * 8 + j = j by omega]
    unfold tcells
    rw [List.getElem?_append_left hj]; exact hv
  | t :: l, k + 1, j, s, v, n, h, hv => by
    have h' : l[k]? = some s := by simpa using h
    have := tcells_at n h' hv
    unfold tcells
    rw [List.getElem?_append_right (by rw [Sl.clen]; omega), Sl.clen, show (k + 1) * 8 + j - 8 = k * 8 + j by omega]
    exact this
theorem tcells_set {a b c d s : Sl} {k : Nat} (hk : k < 4) (n : Int) : (((tcells [a, b, c, d] n).toArray.toList.take (k * 8)) ++ s.cells.toArray.toList ++ ((tcells [a, b, c, d] n).toArray.toList.drop (k * 8 + s.cells.toArray.size))).toArray = (tcells (([a, b, c, d] : List Sl).set k s) n).toArray := by
  match k, hk with
  | 0, _ => rfl
  | 1, _ => rfl
  | 2, _ => rfl
  | 3, _ => rfl
theorem tcells_len {ss : List Sl} (n : Int) : (tcells ss n).length = ss.length * 8 + 1 := by
  induction ss with
  | nil => rfl
  | cons s l ih => unfold tcells; rw [List.length_append, ih, Sl.clen, List.length_cons]; omega
theorem oneCl (s : Sl) : s.cells.toArray.all (·.oneCell') = true := by simp [Sl.cells, Sl.lk, Value.oneCell']
theorem TAt.slot {base T last k : Nat} {w : World} {ss : List Sl} {s : Sl} (h : TAt base w T ss last) (hs : ss[k]? = some s) {j : Nat} {v : Value} (hv : s.cells[j]? = some v) : w.cell? ⟨T, k * 8 + j, none⟩ = some v := h.cell (tcells_at last hs hv)
theorem TAt.link {base T last k : Nat} {w : World} {ss : List Sl} {s : Sl} (h : TAt base w T ss last) (hs : ss[k]? = some s) : ∀ j v, s.lk.toArray.toList[j]? = some v → w.cell? ((⟨T, k * 8, none⟩ : Addr).add j) = some v := fun j v hj => by
  rw [Addr.add_lit]
  have hj' : s.lk[j]? = some v := by simpa using hj
  refine h.slot hs ?_
  unfold Sl.cells
  rw [List.getElem?_append_left (List.getElem?_eq_some_iff.1 hj').1]
  exact hj'
/-- a slot is written anew -/
theorem TAt.put {base T last k : Nat} {w w' : World} {ss : List Sl} {s : Sl} {last' : Nat} (h : TAt base w T ss last) (hw : w.grownBy w' (some T)) (ho : w'.heap[T]? = some (.cells (tcells (ss.set k s) last').toArray 59 (0, 0))) (hs : SlOk base w' s) (hl : last' ≤ 4611686018427387904) : TAt base w' T (ss.set k s) last' :=
  ⟨h.ge, Nat.le_trans h.hb hw.size, ho, by rw [List.length_set]; exact h.four, fun x hx => by
    rcases List.mem_or_eq_of_mem_set hx with h1 | h1
    · exact (h.oks x h1).kept h.obj hw
    · rw [h1]; exact hs, hl⟩
def NewT (w : World) (e : Ending) (w' : World) : Prop := ∃ T, e = .returned (.pointer (some ⟨T, 0, none⟩)) ∧ TAt w.heap.size w' T [zSl, zSl, zSl, zSl] 0 ∧ Below w.heap.size w w'
set_option maxRecDepth 100000 in
theorem newT_e (w : World) : Calls Tryz.prog 7 #[] w fun e w' => NewT w e w' := by
  have HT : Hid (TAt w.heap.size (w.alloc (.cells (tcells [zSl, zSl, zSl, zSl] 0).toArray 59)) w.heap.size [zSl, zSl, zSl, zSl] 0) := Lib.hid ⟨Nat.le_refl _, by simp, heap_alloc_last w _, rfl, fun s hs => by
    simp only [List.mem_cons, List.not_mem_nil, or_false, or_self] at hs
    subst hs; exact zSl_ok _ _, by decide⟩
  have HB : Hid (Below w.heap.size w (w.alloc (.cells (tcells [zSl, zSl, zSl, zSl] 0).toArray 59))) := Lib.hid ((Below.refl _ w).alloc (Nat.le_refl _) _)
  go_enter Tryz.func7, Tryz.ntmps7
  go_wp2
  go_ret
  exact ⟨_, rfl, HT.out, HB.out⟩
theorem zeroLk : Tryz.prog.built 56 [] = some zSl.cells.toArray := by kernel_rfl
theorem sizeCl (s : Sl) : (Tryz.prog.info? 56).map (·.size) = some s.cells.toArray.size := by kernel_rfl
def RemPost (base T last k : Nat) (ss : List Sl) (w : World) (e : Ending) (w' : World) : Prop := e = .returned (.int .i64 0) ∧ TAt base w' T (ss.set k zSl) last ∧ w.grownBy w' (some T)
theorem remove_no (T : Nat) (i : Int) (w : World) (h : Calls Tryz.prog 28 #[.pointer (some ⟨T, 0, none⟩), .int .i64 i] w fun e w' => e = .returned (.bool false) ∧ w = w') :
    Calls Tryz.prog 11 #[.pointer (some ⟨T, 0, none⟩), .int .i64 i] w fun e w' => e = .returned (.int .i64 12) ∧ w = w' := by
  go_enter Tryz.func11, Tryz.ntmps11
  go_wp2_with fail
  refine h.mono ?_; rintro e w1 ⟨rfl, rfl⟩
  go_wp2
  go_ret
  exact ⟨rfl, rfl⟩
set_option maxRecDepth 100000 in
theorem remove_yes {base T last k : Nat} {w : World} {ss : List Sl} {s : Sl} (h : TAt base w T ss last) (hk : ss[k]? = some s) (hl : s.live = true) :
    Calls Tryz.prog 11 #[.pointer (some ⟨T, 0, none⟩), .int .i64 k] w fun e w' => RemPost base T last k ss w e w' := by
  have hk4 : k < 4 := by have := (List.getElem?_eq_some_iff.1 hk).1; rw [h.four] at this; exact this
  have hlv := lives_in T k true w hk4 (by have := h.slot hk (j := 0) (v := .bool s.live) rfl; rw [hl] at this; exact this)
  have HT := Lib.hid h
  have HP : Hid (∀ w', w'.heap[T]? = some (.cells (tcells (ss.set k zSl) last).toArray 59 (0, 0)) → w.grownBy w' (some T) → TAt base w' T (ss.set k zSl) last) := Lib.hid (fun w' h1 h2 => h.put h2 h1 (zSl_ok _ _) h.few)
  obtain ⟨a, b, c, d, rfl⟩ := h.abcd
  have HO := Lib.hid h.obj
  have HE := Lib.hid (tcells_set (a := a) (b := b) (c := c) (d := d) (s := zSl) hk4 last)
  have HS := Lib.hid (sizeCl zSl)
  have H1 := Lib.hid (oneCl zSl)
  have HZ := Lib.hid zeroLk
  have HX : Hid (k * 8 + zSl.cells.toArray.size ≤ (tcells [a, b, c, d] last).toArray.size) := Lib.hid (by simp only [List.size_toArray]; rw [tcells_len, Sl.clen]; simp only [List.length_cons, List.length_nil]; omega)
  clear h hk hl
  revert HP HO HE HS H1 HZ HX
  generalize zSl.cells.toArray = Z
  generalize (tcells [a, b, c, d] last).toArray = C0
  generalize (tcells (([a, b, c, d] : List Sl).set k zSl) last).toArray = C1
  intro HP HO HE HS H1 HZ HX
  go_enter Tryz.func11, Tryz.ntmps11
  go_wp2_with fail
  refine hlv.mono ?_; rintro e w1 ⟨rfl, rfl⟩
  clear hlv
  go_wp2_with (first
    | (refine wpList_build_z rfl 56 _ rfl Z HZ.out ?_; go_simp)
    | (refine wpList_store_sub rfl 56 _ _ rfl T (k * 8) C0 Z C1 _ HO.out rfl rfl HS.out HX.out H1.out HE.out ?_; intro w2 hg2 hw2 hs2; go_simp))
  go_ret
  exact ⟨rfl, HP.out _ hg2.out hw2.out, hw2.out⟩
theorem results_ct {P : Program} {fn : Func} {p q : Tmp} {ty : TypeId} (h : fn.results = #[.cell p ty, .tmp q]) (tmps : Array Value) (w : World) (g : Nat) (t : TypeId) (cs : Array Value) (fr : Nat × Nat) (d : TypeDesc)
    (hp : tmps.getD p undef = .pointer (some ⟨g, 0, none⟩)) (hg : w.heap[g]? = some (.cells cs t fr))
    (hu : P.underlying ty = some d) (hd : (match d with | .struct _ | .array _ _ => true | _ => false) = true) (hi : (P.info? ty).map (·.size) = some cs.size) :
    (results fn tmps).run P w = .ok (.tuple #[.agg cs, tmps.getD q undef]) w := by
  have hp' : tmps[p]?.getD undef = .pointer (some ⟨g, 0, none⟩) := by simpa using hp
  simp [results, h, hp', asAddr, run_loadVar_row w g t ty cs fr d hg hu hd hi]
theorem zeroLink : (Tryz.prog.info? 31).map (·.zero) = some (some (.agg zSl.lk.toArray)) := by kernel_rfl
theorem builtLink : Tryz.prog.built 31 [] = some zSl.lk.toArray := by kernel_rfl
set_option maxRecDepth 100000 in
theorem get_no (T : Nat) (i : Int) (w : World) (h : Calls Tryz.prog 28 #[.pointer (some ⟨T, 0, none⟩), .int .i64 i] (w.alloc (.cells zSl.lk.toArray 31)) fun e w' => e = .returned (.bool false) ∧ (w.alloc (.cells zSl.lk.toArray 31)) = w') :
    Calls Tryz.prog 12 #[.pointer (some ⟨T, 0, none⟩), .int .i64 i] w fun e w' => e = .returned (.tuple #[.agg zSl.lk.toArray, .bool false]) ∧ Below w.heap.size w w' := by
  have HB := Lib.hid (((Below.refl _ w).alloc (Nat.le_refl _) (.cells zSl.lk.toArray 31)))
  have HO := Lib.hid (heap_alloc_last w (.cells zSl.lk.toArray 31))
  have HC := Lib.hid h
  have HZ := Lib.hid zeroLink
  have HBT := Lib.hid builtLink
  have HS := Lib.hid (sizeLk zSl)
  have H1 := Lib.hid (oneLk zSl)
  clear h
  revert HB HO HC HZ HBT HS H1
  generalize zSl.lk.toArray = Z
  intro HB HO HC HZ HBT HS H1
  go_enter Tryz.func12, Tryz.ntmps12
  go_wp2_with (first
    | (refine wpList_alloc_z rfl 31 rfl Z HZ.out ?_; go_simp))
  refine HC.out.mono ?_; rintro e w1 ⟨rfl, rfl⟩
  clear HC
  go_wp2_with (first
    | (refine wpList_build_z rfl 31 _ rfl Z HBT.out ?_; go_simp)
    | (refine wpList_store_blk rfl 31 _ _ rfl w.heap.size _ _ _ HO.out rfl rfl HS.out rfl H1.out ?_; intro w2 hg2 hw2 hs2; go_simp))
  exact bodyPost_ret (results_ct rfl _ w2 w.heap.size 31 _ (0, 0) _ rfl hg2.out Tryz.underlying31 rfl HS.out) rfl ⟨rfl, HB.out.grown hw2.out HB.out.size (fun k e => by injection e with e; omega)⟩
def GetPost (s : Sl) (w : World) (e : Ending) (w' : World) : Prop := ∃ dA dc sA sc lA lc, e = .returned (.tuple #[.agg (s.at dA dc sA sc lA lc).lk.toArray, .bool true]) ∧ OwnL w.heap.size w' (s.at dA dc sA sc lA lc) ∧ Below w.heap.size w w'
theorem SlOk.inok {base : Nat} {w : World} {s : Sl} (h : SlOk base w s) : InOk w s :=
  ⟨RowIn.of_own h.dom (fun u hu => by obtain ⟨d, _, rfl⟩ := List.mem_map.1 hu; rfl), RowIn.of_own h.srv h.ones, RowIn.of_own h.loc h.one, by have := h.nd; omega, by have := h.nsl; omega, by have := h.nll; omega⟩
set_option maxRecDepth 100000 in
theorem get_yes {base T last k : Nat} {w : World} {ss : List Sl} {s : Sl} (h0 : TAt base w T ss last) (hk : ss[k]? = some s) (hl : s.live = true) :
    Calls Tryz.prog 12 #[.pointer (some ⟨T, 0, none⟩), .int .i64 k] w fun e w' => GetPost s w e w' := by
  have hb := ((Below.refl _ w).alloc (Nat.le_refl _) (.cells zSl.lk.toArray 31))
  have h := h0.below hb
  have hk4 : k < 4 := by have := (List.getElem?_eq_some_iff.1 hk).1; rw [h.four] at this; exact this
  have hlv := lives_in T k true _ hk4 (by have := h.slot hk (j := 0) (v := .bool s.live) rfl; rw [hl] at this; exact this)
  have HLK := Lib.hid (h.link hk)
  have HIN := Lib.hid ((h.oks s (List.mem_of_getElem? hk)).inok)
  have HB := Lib.hid hb
  have HO := Lib.hid (heap_alloc_last w (.cells zSl.lk.toArray 31))
  have HZ := Lib.hid zeroLink
  have HS := Lib.hid (sizeLk s)
  have HC := Lib.hid (fun (h : InOk (w.alloc (.cells zSl.lk.toArray 31)) s) => copied_e h)
  clear h0 h hb hk hl
  have hzl : zSl.lk.toArray.size = 7 := rfl
  have hsl : s.lk.toArray.size = 7 := rfl
  go_enter Tryz.func12, Tryz.ntmps12
  go_wp2_with (first
    | (refine wpList_alloc_z rfl 31 rfl zSl.lk.toArray HZ.out ?_; go_simp))
  refine hlv.mono ?_; rintro e w1 ⟨rfl, rfl⟩
  clear hlv
  go_wp2_with (first
    | (refine wpList_load_agg rfl 31 _ rfl ⟨T, k * 8, none⟩ rfl s.lk.toArray _ HLK.out Tryz.underlying31 rfl HS.out ?_; go_simp))
  refine (HC.out HIN.out).mono ?_
  rintro e w1 ⟨dA, dc, sA, sc, lA, lc, rfl, hown, hb1⟩
  have HO1 := Lib.hid ((hb1.block w.heap.size (heap_ltk HO.out)).trans HO.out)
  have HB1 := Lib.hid (HB.out.trans (hb1.mono HB.out.size))
  have HW1 := Lib.hid hown
  have HBS := Lib.hid HB.out.size
  have HS2 := Lib.hid (sizeLk (s.at dA dc sA sc lA lc))
  have H12 := Lib.hid (oneLk (s.at dA dc sA sc lA lc))
  clear hb1 hown HLK HIN HC HO HB HS
  have hal : (s.at dA dc sA sc lA lc).lk.toArray.size = 7 := rfl
  revert HS2 H12 hal
  generalize hS3 : (s.at dA dc sA sc lA lc).lk.toArray = S3
  intro HS2 H12 hal
  have HQ := Lib.hid hS3
  clear hS3
  go_wp2_with (first
    | (refine wpList_store_blk rfl 31 _ _ rfl w.heap.size _ _ _ HO1.out rfl rfl HS2.out (hzl.trans hal.symm) H12.out ?_; intro w2 hg2 hw2 hs2; go_simp))
  refine bodyPost_ret (results_ct rfl _ w2 w.heap.size 31 _ (0, 0) _ rfl hg2.out Tryz.underlying31 rfl HS2.out) rfl ⟨dA, dc, sA, sc, lA, lc, by rw [HQ.out]; rfl, ?_, HB1.out.grown hw2.out HB1.out.size (fun k e => by injection e with e; omega)⟩
  have h7 := HW1.out.kept HO1.out (by decide) (by decide) (by decide) hw2.out
  exact ⟨own_down h7.dom HBS.out, own_down h7.srv HBS.out, own_down h7.loc HBS.out⟩
theorem get_dead {base T last k : Nat} {w : World} {ss : List Sl} {s : Sl} (h0 : TAt base w T ss last) (hk : ss[k]? = some s) (hl : s.live = false) :
    Calls Tryz.prog 12 #[.pointer (some ⟨T, 0, none⟩), .int .i64 k] w fun e w' => e = .returned (.tuple #[.agg zSl.lk.toArray, .bool false]) ∧ Below w.heap.size w w' := by
  have h := h0.below ((Below.refl _ w).alloc (Nat.le_refl _) (.cells zSl.lk.toArray 31))
  have hk4 : k < 4 := by have := (List.getElem?_eq_some_iff.1 hk).1; rw [h.four] at this; exact this
  exact get_no T k w (lives_in T k false _ hk4 (by have := h.slot hk (j := 0) (v := .bool s.live) rfl; rw [hl] at this; exact this))
theorem get_out (T : Nat) (i : Int) (w : World) (h : ¬ (0 ≤ i ∧ i < 4)) : Calls Tryz.prog 12 #[.pointer (some ⟨T, 0, none⟩), .int .i64 i] w fun e w' => e = .returned (.tuple #[.agg zSl.lk.toArray, .bool false]) ∧ Below w.heap.size w w' :=
  get_no T i w (lives_out T i _ h)
end Go.Proofs.YtgopjgbcnjkblaaGreatDoor
