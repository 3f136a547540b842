/-
  The walk of LlmnrTypes: an answer has only addresses of the type that is asked for, in their order. Condition: the library's variable MaxLen holds some number.
-/
import Derived.Test.YtakfokdjdljjjaaDoorLlFit
namespace Go.Proofs.YtakfokdjdljjjaaDoor
open Go.RowKit

section
variable {P : Program} {ops : Array Oper} {o : Oper} {a : Act}
theorem yieldsIf_neq {S : World → Prop} (hw : Region.wanted o (yielded ops a.tmps) = true) (t : TypeId) (x y : Operand) (s : TypeId) (ho : o.op = .binOp .neq t x y s) (xs ys : Array Value) (b : Bool) (hx : a.eval x = .agg xs) (hy : a.eval y = .agg ys)
    (hm : P.eqGuardType P.depth t = false) (hr : ∀ w, S w → (Op.equalIn 10000 t (.agg xs) (.agg ys)).run P w = .ok b w) : YieldsIf P ops S o (.bool (!b)) a :=
  .inl ⟨hw, fun w hS => by
    have h1 := run_eqGuard_agg (P := P) w .neq t x y xs ys hm
    have h2 := run_neq_struct (P := P) w t xs ys
    rw [hr w hS] at h2
    unfold execOp
    simp only [ho, hx, hy, Sem.run_bind, h1, h2, Result.andThen_ok, Sem.run_pure]⟩
end
/-- an element of a value of several -/
theorem wpList_index {P : Program} {ops : Array Oper} {rest : List Oper} {o : Oper} {a : Act} {Q : Exit → Act → World → Prop} {w : World} (hgd : o.guard = none) (ty : TypeId) (x y : Operand) (ho : o.op = .index ty x y) (v : Value)
    (hr : (Instr.index ty (a.eval x) (a.eval y)).run P w = .ok v w) (h : wpList P ops Q rest (a.put o.dst v) w) : wpList P ops Q (o :: rest) a w :=
  wpList_plain hgd fun _ hK => by
    unfold Oper.wp execOp
    simp only [ho, Sem.run_bind, hr, Result.andThen_ok, Sem.run_pure]
    exact hK _ _ h
def lv (x : List UInt8) : LV := ⟨x, false, false⟩
theorem builtLv {x : List UInt8} (h : x.length = 16) : Tryd.prog.built 42 [(0, .agg (bvs x).toArray)] = some (lv x).cells.toArray := by
  obtain ⟨a, b, c, d, e, f, g, i, j, k, l, m, n, o, p, q, rfl⟩ := list16 h
  kernel_rfl
theorem fill36 {cs ds : List Value} {z : Value} (h : cs.length = 18) (h2 : ds.length = 18) : Instr.fill (fun i => some (i * 18, 18)) ((Array.range (2 * 18)).map (z.cells[· % z.cells.size]!)) [(0, .agg cs.toArray), (1, .agg ds.toArray)] = some (cs ++ ds).toArray := by
  have := Great.fill_whole (s := 18) (by decide) [Value.agg cs.toArray, Value.agg ds.toArray] ((Array.range (2 * 18)).map (z.cells[· % z.cells.size]!)) (by simp [Value.cells, h, h2]) (by simp)
  simpa [Value.cells] using this
theorem builtAB {x y : List UInt8} (hx : x.length = 16) (hy : y.length = 16) : Tryd.prog.built 49 [(0, .agg (bvs x).toArray), (1, .agg (bvs y).toArray)] = some (bvs x ++ bvs y).toArray := by
  obtain ⟨a, b, c, d, e, f, g, i, j, k, l, m, n, o, p, q, rfl⟩ := list16 hx
  obtain ⟨a, b, c, d, e, f, g, i, j, k, l, m, n, o, p, q, rfl⟩ := list16 hy
  kernel_rfl
theorem index0 {x y : List UInt8} (hx : x.length = 16) (hy : y.length = 16) (W : World) : (Instr.index 49 (.agg (bvs x ++ bvs y).toArray) (.int .i64 0)).run Tryd.prog W = .ok (.agg (bvs x).toArray) W := by
  obtain ⟨a, b, c, d, e, f, g, i, j, k, l, m, n, o, p, q, rfl⟩ := list16 hx
  obtain ⟨a, b, c, d, e, f, g, i, j, k, l, m, n, o, p, q, rfl⟩ := list16 hy
  kernel_rfl
theorem index1 {x y : List UInt8} (hx : x.length = 16) (hy : y.length = 16) (W : World) : (Instr.index 49 (.agg (bvs x ++ bvs y).toArray) (.int .i64 1)).run Tryd.prog W = .ok (.agg (bvs y).toArray) W := by
  obtain ⟨a, b, c, d, e, f, g, i, j, k, l, m, n, o, p, q, rfl⟩ := list16 hx
  obtain ⟨a, b, c, d, e, f, g, i, j, k, l, m, n, o, p, q, rfl⟩ := list16 hy
  kernel_rfl
theorem ansL_at {S : ByteArray} {ty : Int} {ls : List LV} {k : Nat} {x : LV} (h : ls[k]? = some x) (hq : (famT x.addr == ty) = true) : (ansL S ty ls)[(ansL S ty (ls.take k)).length]? = some (lrec S ty x) := by
  have hs := ansL_snoc (S := S) (ty := ty) h
  rw [if_pos hq] at hs
  have e : ansL S ty ls = ansL S ty (ls.take (k + 1)) ++ ansL S ty (ls.drop (k + 1)) := by
    unfold ansL
    rw [← List.map_append, ← List.filter_append, List.take_append_drop]
  rw [e, hs, List.append_assoc, List.getElem?_append_right (by omega), Nat.sub_self]
  rfl
theorem ansL_tk (S : ByteArray) (ty : Int) (ls : List LV) (k : Nat) : (ansL S ty (ls.take k)).length ≤ (ansL S ty ls).length := by
  have e : ansL S ty ls = ansL S ty (ls.take k) ++ ansL S ty (ls.drop k) := by
    unfold ansL
    rw [← List.map_append, ← List.filter_append, List.take_append_drop]
  rw [e, List.length_append]
  omega
def nmH : ByteArray := ⟨#[104]⟩
theorem nmH_ok : gosB nmH = true := by decide +kernel
theorem nmH_16 : lb16 nmH := by unfold lb16; decide +kernel
/-- what the loop keeps -/
structure TyAt (w wr : World) (gm : Nat) (MC : Array Value) (A : Option Addr) (rs : List RV) : Prop where
  below : Below w.heap.size w wr
  m : wr.heap[gm]? = some (.cells MC 31 (0, 0))
  rs : RecsAt wr A rs
theorem TyAt.to {w wr wr' : World} {gm : Nat} {MC : Array Value} {A : Option Addr} {rs : List RV} (h : TyAt w wr gm MC A rs) (hb : Below wr.heap.size wr wr') : TyAt w wr' gm MC A rs :=
  ⟨h.below.trans (hb.mono h.below.size), (hb.block _ (heap_lt h.m)).trans h.m, h.rs.below hb⟩
set_option maxRecDepth 100000 in
set_option maxHeartbeats 8000000 in
theorem llmnrTypes_walk (x y : List UInt8) (hx : x.length = 16) (hy : y.length = 16) (six : Bool) (w : World) (he : Env w) :
    Calls Tryd.prog 5 #[.agg (bvs x).toArray, .agg (bvs y).toArray, .bool six] w fun e w' => e = .returned (.bool true) ∧ Below w.heap.size w w' := by
  have HE := Lib.hid he
  have HFit := Lib.hid fit14_e
  obtain ⟨ty, hty⟩ : ∃ ty : Int, ty = if six then 28 else 1 := ⟨_, rfl⟩
  have hty2 : 1 ≤ ty ∧ ty ≤ 65535 := by rw [hty]; cases six <;> simp
  have hqa : (qMV 1 false false nmH ty).Again := qM_again nmH_ok (by decide) nmH_16 (by omega) hty2
  obtain ⟨ls, hls⟩ : ∃ ls, ls = [lv x, lv y] := ⟨_, rfl⟩
  have hl16 : ∀ z ∈ ls, z.addr.length = 16 := fun z hz => by
    rw [hls] at hz
    rcases List.mem_cons.1 hz with rfl | hz
    · exact hx
    · rw [List.mem_singleton.1 hz]; exact hy
  have hl2 : ls.length = 2 := by rw [hls]; rfl
  have HBm : Hid (Tryd.prog.built 31 [(0, .int .i64 1), (5, .agg #[.string ⟨#[104]⟩, .int .i64 ty])] = some (qMV 1 false false nmH ty).cells) := Lib.hid (builtQm 1 nmH ty)
  have HEn := Lib.hid (fun W hW => encode_again _ hqa W hW (qMV_lies _ _ _ _ _ _))
  have HAn := Lib.hid (fun g (u : World) gb cap hcap hin W hb hW hA => ask_e nmH nmH_16 ls hl16 (some ⟨g, 0, none⟩) 2 (by omega) _ hqa gb cap u hcap hin W hb hW hA)
  have HRp : Hid (repO nmH ls (some (qMV 1 false false nmH ty).nrm) = some (rpM (qMV 1 false false nmH ty) ls)) := Lib.hid (repO_yes rfl rfl)
  have HDe := Lib.hid (fun (hm : (rpM (qMV 1 false false nmH ty) ls).Again) (gb cap : Nat) (u : World) hcap hin W hb hW => dec_e (rpM (qMV 1 false false nmH ty) ls) hm gb cap u hcap hin W hb hW)
  have HLr : Hid (∀ (W : World) (g : Nat), W.heap[g]? = some (.cells ((lv x).cells ++ (lv y).cells).toArray 42 (0, 0)) → LocsAt W (some ⟨g, 0, none⟩) ls) := Lib.hid (fun W g h => locs_row hl16 (by rw [hls]; simpa using h))
  have HBx := Lib.hid (builtLv hx)
  have HBy := Lib.hid (builtLv hy)
  have HBab := Lib.hid (builtAB hx hy)
  have HLx : Hid ((lv x).cells.length = 18) := Lib.hid (LV.size hx)
  have HLy : Hid ((lv y).cells.length = 18) := Lib.hid (LV.size hy)
  have HIx : Hid (∀ (k : Nat) (z : LV), ls[k]? = some z → ∀ W, (Instr.index 49 (.agg (bvs x ++ bvs y).toArray) (.int .i64 (k : Int))).run Tryd.prog W = .ok (.agg (bvs z.addr).toArray) W) := Lib.hid (fun k z hk W => by
    have hk2 := (List.getElem?_eq_some_iff.1 hk).1
    rw [hl2] at hk2
    rw [hls] at hk
    rcases (show k = 0 ∨ k = 1 by omega) with rfl | rfl
    · simp only [List.getElem?_cons_zero, Option.some.injEq] at hk
      subst hk
      exact index0 hx hy W
    · simp only [List.getElem?_cons_succ, List.getElem?_cons_zero, Option.some.injEq] at hk
      subst hk
      exact index1 hx hy W)
  obtain ⟨nk, hnk⟩ : ∃ nk : Nat → Nat, ∀ k, nk k = (ansL nmH ty (ls.take k)).length := ⟨_, fun _ => rfl⟩
  have HN0 : Hid (nk 0 = 0) := Lib.hid (by rw [hnk]; rfl)
  have HN2 : Hid (nk ls.length = (ansL nmH ty ls).length) := Lib.hid (by rw [hnk, List.take_length])
  have HNl : Hid ((ansL nmH ty ls).length ≤ 2) := Lib.hid (by have := ansL_len nmH ty ls; omega)
  have HNs : Hid (∀ (k : Nat) (z : LV), ls[k]? = some z → (isV4 z.addr = six → nk (k + 1) = nk k) ∧ (isV4 z.addr ≠ six → nk (k + 1) = nk k + 1 ∧ (ansL nmH ty ls)[nk k]? = some (lrec nmH ty z))) := Lib.hid (fun k z hk => by
    have hs := ansL_snoc (S := nmH) (ty := ty) hk
    have hft : (famT z.addr == ty) = (isV4 z.addr != six) := by
      rw [hty]; unfold famT
      cases isV4 z.addr <;> cases six <;> decide
    constructor
    · intro hq
      have h0 : (famT z.addr == ty) = false := by rw [hft, hq]; simp
      rw [h0] at hs
      rw [hnk, hnk, hs]; rfl
    · intro hq
      have h0 : (famT z.addr == ty) = true := by rw [hft]; simpa using hq
      rw [if_pos h0] at hs
      refine ⟨by rw [hnk, hnk, hs, List.length_append]; rfl, ?_⟩
      rw [hnk]; exact ansL_at hk h0)
  have HL16 := Lib.hid hl16
  have hl2I : (ls.length : Int) = 2 := by omega
  have HL2 := Lib.hid hl2
  obtain ⟨i0, hi, hz0, hz1⟩ := info_loc
  have HI := Lib.hid hi
  have HZ0 := Lib.hid hz0
  have HZ1 := Lib.hid hz1
  have ZM := Lib.hid zeroM
  have ZA := Lib.hid zeroAddr
  have HNm : Hid (∀ W, Calls Tryd.prog 7 #[.int .i64 1] W fun e w' => e = .returned (.string ⟨#[98, 46, 97]⟩) ∧ Below W.heap.size W w') := Lib.hid (fun W => name4_e 1 1 (by omega) (by decide) W)
  have SAx := Lib.hid (sizeBv hx)
  have SAy := Lib.hid (sizeBv hy)
  have HTy : Hid (ty = if six then 28 else 1) := Lib.hid hty
  have HRan : Hid ((rpM (qMV 1 false false nmH ty) ls).an = ansL nmH ty ls) := Lib.hid rfl
  have HCel : Hid (∀ A c U k, (dcM (rpM (qMV 1 false false nmH ty) ls) A c U k).cells[7]? = some (.slice A (ansL nmH ty ls).length c)) := Lib.hid (fun _ _ _ _ => rfl)
  clear he hty hty2 hqa hls hl16 hl2 hnk hi hz0 hz1
  revert HRp HDe HRan HCel
  generalize rpM (qMV 1 false false nmH ty) ls = R
  intro HRp HDe HRan HCel
  revert HN2 HNl HNs HRan HCel
  generalize ansL nmH ty ls = rs
  intro HN2 HNl HNs HRan HCel
  revert HBm HEn HAn HRp
  generalize qMV 1 false false nmH ty = QM
  intro HBm HEn HAn HRp
  generalize QM.cells = QC at HBm HEn
  revert HBx HBy HBab HIx SAx SAy
  generalize (bvs x ++ bvs y).toArray = AB
  generalize (bvs x).toArray = X
  generalize (bvs y).toArray = Y
  intro HBx HBy HBab HIx SAx SAy
  generalize (lv x).cells = lx at HBx HLx HLr
  generalize (lv y).cells = ly at HBy HLy HLr
  clear hx hy
  have HBW : Hid (Below w.heap.size w ((w.alloc (.cells X 40)).alloc (.cells Y 40))) := Lib.hid (((Below.refl _ w).alloc (Nat.le_refl _) _).alloc (by simp) _)
  have HGX := Lib.hid (heap_two w (.cells X 40) (.cells Y 40))
  have HGY : Hid (((w.alloc (.cells X 40)).alloc (.cells Y 40)).heap[w.heap.size + 1]? = some (.cells Y 40 (0, 0))) := Lib.hid (by
    have := heap_alloc_last (w.alloc (.cells X 40)) (.cells Y 40)
    rwa [World.size_alloc] at this)
  go_enter Tryd.func5, Tryd.ntmps5
  go_wp2_with fail
  refine (HFit.out _ (HE.out.below HBW.out)).mono ?_
  rintro e w1 ⟨rfl, hb1⟩
  have HB1 := Lib.hid (HBW.out.trans (hb1.mono HBW.out.size))
  have HX1 := Lib.hid ((hb1.block _ (heap_lt HGX.out)).trans HGX.out)
  have HY1 := Lib.hid ((hb1.block _ (heap_lt HGY.out)).trans HGY.out)
  clear hb1 HBW HGX HGY
  go_upto_if 18 with fail
  go_cut [7] from 19 to 20 (fun t7 wx => w1 = wx ∧ t7 = .int .i64 ty)
  case first =>
    have hty := HTy.out
    clear HTy
    cases six with
    | false =>
      go_wp2_with fail
      go_meet
      case rel => exact ⟨rfl, by rw [hty]; rfl⟩
    | true =>
      go_wp2_with fail
      go_meet
      case rel => exact ⟨rfl, by rw [hty]; rfl⟩
  case rest =>
  obtain ⟨rfl, rfl⟩ := hcut
  go_wp2_with (first
    | (refine wpList_build_v rfl 31 #[(0, .const (.int .i64 1)), (5, .tmp 20)] rfl _ QC HBm.out rfl ?_; go_simp))
  refine (HEn.out _ (HE.out.below HB1.out)).mono ?_
  rintro e w3 ⟨gb, cap, rfl, hen⟩
  have HB3 := Lib.hid (HB1.out.trans (hen.below.mono HB1.out.size))
  have HX3 := Lib.hid ((hen.below.block _ (heap_lt HX1.out)).trans HX1.out)
  have HY3 := Lib.hid ((hen.below.block _ (heap_lt HY1.out)).trans HY1.out)
  have HB4 : Hid (Below w.heap.size w (w3.alloc (.cells (lx ++ ly).toArray 42))) := Lib.hid (HB3.out.alloc HB3.out.size _)
  have HG4 := Lib.hid (heap_alloc_last w3 (.cells (lx ++ ly).toArray 42))
  have HAn4 := Lib.hid (HAn.out w3.heap.size w3 gb cap hen.le hen.inB _ ((Below.refl _ w3).alloc (Nat.le_refl _) (.cells (lx ++ ly).toArray 42)) (HE.out.below HB4.out) (HLr.out _ _ HG4.out))
  rw [HRp.out, HL2.out] at HAn4
  have HX4 : Hid ((w3.alloc (.cells (lx ++ ly).toArray 42)).heap[w.heap.size]? = some (.cells X 40 (0, 0))) := Lib.hid ((Below.heap_alloc _ _ _ (heap_lt HX3.out)).trans HX3.out)
  have HY4 : Hid ((w3.alloc (.cells (lx ++ ly).toArray 42)).heap[w.heap.size + 1]? = some (.cells Y 40 (0, 0))) := Lib.hid ((Below.heap_alloc _ _ _ (heap_lt HY3.out)).trans HY3.out)
  clear hen HAn HEn HB1 HX1 HY1 HB3 HG4
  generalize (enc QM.msg).length = LQ at HAn4 ⊢
  go_wp2_with (first
    | (refine wpList_load_row rfl 40 (.tmp 3) rfl w.heap.size rfl 40 X (0, 0) _ HX3.out Tryd.underlying40 rfl SAx.out ?_; go_simp)
    | (refine wpList_load_row rfl 40 (.tmp 4) rfl (w.heap.size + 1) rfl 40 Y (0, 0) _ HY3.out Tryd.underlying40 rfl SAy.out ?_; go_simp)
    | (refine wpList_build_v rfl 42 #[(0, .tmp 24)] rfl _ lx.toArray HBx.out rfl ?_; go_simp)
    | (refine wpList_build_v rfl 42 #[(0, .tmp 26)] rfl _ ly.toArray HBy.out rfl ?_; go_simp)
    | (refine wpList_buildSlice rfl 22 42 2 #[(0, .tmp 25), (1, .tmp 27)] rfl (lx ++ ly).toArray i0 _ Tryd.underlying22 HI.out HZ0.out (by rw [HZ1.out]; decide) (by rw [HZ1.out]; decide) (by rw [HZ1.out]; refine (congrArg _ (?_ : _ = [(0, Value.agg lx.toArray), (1, Value.agg ly.toArray)])).trans (fill36 HLx.out HLy.out); rw [Array.toList_map]; rfl) ?_; go_simp))
  clear HX3 HY3
  generalize w3.alloc (.cells (lx ++ ly).toArray 42) = w4 at HB4 HAn4 HX4 HY4 ⊢
  generalize w3.heap.size = g4 at HAn4 ⊢
  refine HAn4.out.mono ?_
  rintro e w5 ⟨hb5, ⟨h0, _⟩ | ⟨R', gb2, cap2, hR, hRa, rfl, hcap2, hin2, h12⟩⟩
  · cases h0
  injection hR with hR
  subst hR
  have HB5 := Lib.hid (HB4.out.trans (hb5.mono HB4.out.size))
  have HX5 := Lib.hid ((hb5.block _ (heap_lt HX4.out)).trans HX4.out)
  have HY5 := Lib.hid ((hb5.block _ (heap_lt HY4.out)).trans HY4.out)
  have HD5 := Lib.hid (HDe.out hRa gb2 cap2 w5 hcap2 hin2 w5 (Below.refl _ _) (HE.out.below HB5.out))
  clear hb5 hRa hcap2 hin2 h12 HAn4 HDe HX4 HY4 HB4
  generalize (enc R.msg).length = LR at HD5 ⊢
  go_wp2_with fail
  refine HD5.out.mono ?_
  rintro e w6 ⟨hb6, A, c, U, k, rfl, hli⟩
  have SM : Hid ((Tryd.prog.info? 31).map (·.size) = some (dcM R A c U k).cells.size) := Lib.hid sizeM
  have ZC : Hid (zMsg.size = (dcM R A c U k).cells.size) := Lib.hid rfl
  have OM := Lib.hid (MV.one (dcM R A c U k))
  have HM7 := Lib.hid (HCel.out A c U k)
  have HRs6 : Hid (RecsAt w6 A rs) := Lib.hid (by rw [← HRan.out]; exact hli.an)
  have HB6 := Lib.hid (HB5.out.trans (hb6.mono HB5.out.size))
  have HX6 := Lib.hid ((hb6.block _ (heap_lt HX5.out)).trans HX5.out)
  have HY6 := Lib.hid ((hb6.block _ (heap_lt HY5.out)).trans HY5.out)
  clear hb6 hli HD5 HX5 HY5 HB5 HCel
  generalize (dcM R A c U k).cells = MC at *
  have HT0 : Hid (TyAt w (w6.alloc (.cells MC 31)) w6.heap.size MC A rs) := Lib.hid ⟨HB6.out.alloc HB6.out.size _, heap_alloc_last w6 _, HRs6.out.below ((Below.refl _ w6).alloc (Nat.le_refl _) _)⟩
  have HX7 : Hid ((w6.alloc (.cells MC 31)).heap[w.heap.size]? = some (.cells X 40 (0, 0))) := Lib.hid ((Below.heap_alloc _ _ _ (heap_lt HX6.out)).trans HX6.out)
  have HY7 : Hid ((w6.alloc (.cells MC 31)).heap[w.heap.size + 1]? = some (.cells Y 40 (0, 0))) := Lib.hid ((Below.heap_alloc _ _ _ (heap_lt HY6.out)).trans HY6.out)
  clear HX6 HY6 HB6 HRs6
  go_wp2_with (first
    | (refine wpList_alloc_z rfl 31 rfl zMsg ZM.out ?_; go_simp)
    | (refine wpList_store_new rfl 31 (.tmp 11) (.tmp 36) rfl w6.heap.size rfl zMsg MC 31 rfl rfl SM.out ZC.out OM.out ?_; go_simp)
    | (refine wpList_load_row rfl 40 (.tmp 3) rfl w.heap.size rfl 40 X (0, 0) _ HX7.out Tryd.underlying40 rfl SAx.out ?_; go_simp)
    | (refine wpList_load_row rfl 40 (.tmp 4) rfl (w.heap.size + 1) rfl 40 Y (0, 0) _ HY7.out Tryd.underlying40 rfl SAy.out ?_; go_simp)
    | (refine wpList_build_v rfl 49 #[(0, .tmp 38), (1, .tmp 39)] rfl _ AB HBab.out rfl ?_; go_simp))
  generalize w6.alloc (.cells MC 31) = w7 at HT0 ⊢
  generalize w6.heap.size = gm at HT0 ⊢
  clear HX7 HY7 SM ZC OM ZM SAx SAy HBab HBx HBy HLx HLy HLr HBm HI HZ0 HZ1
  go_loopw [41, 13] (fun i n wr => ∃ k : Nat, k ≤ ls.length ∧ i = .int .i64 k ∧ n = .int .i64 (nk k : Nat) ∧ Hid (TyAt w wr gm MC A rs)) (fun i _ _ => 2 - (intOf i).toNat)
  case atStart => exact ⟨0, by omega, rfl, by rw [HN0.out]; rfl, HT0⟩
  case round =>
    obtain ⟨k, hk, rfl, rfl, HP⟩ := hrel
    by_cases hlt : k < ls.length
    · have hkI : (k : Int) < 2 := by omega
      obtain ⟨z, hz⟩ : ∃ z, ls[k]? = some z := ⟨_, List.getElem?_eq_getElem hlt⟩
      have hz16 := HL16.out z (List.mem_of_getElem? hz)
      have HIk := Lib.hid (fun W => HIx.out k z hz W)
      have HSt := HNs.out k z hz
      have HS0 := Lib.hid HSt.1
      have HS1 := Lib.hid HSt.2
      have HIs := Lib.hid (fun W => is4a_e z.addr hz16 W)
      have HSa := Lib.hid (sizeBv hz16)
      have HSx : Hid ((Tryd.prog.info? 40).map (·.size) = some (bvs z.addr).length) := Lib.hid (by rw [sizeAddr, bvs_length, hz16])
      have HOa := Lib.hid (oneBv z.addr)
      have HZa : Hid ((bvs zero16).toArray.size = (bvs z.addr).toArray.size) := Lib.hid (by rw [List.size_toArray, List.size_toArray, bvs_length, bvs_length, hz16]; rfl)
      have HEQ : Hid (∀ W, (Op.equalIn 10000 40 (.agg (bvs z.addr).toArray) (.agg (bvs z.addr).toArray)).run Tryd.prog W = .ok true W) := Lib.hid (fun W => (eq_addr 9998 W hz16 hz16).trans (by simp))
      have HEG := Lib.hid eqGuardAddr
      have HLad : Hid ((lrec nmH ty z).ad = z.addr ∧ z.addr.length = 16) := Lib.hid ⟨rfl, hz16⟩
      have HP1 := Lib.hid (HP.out.to ((Below.refl _ wr).alloc (Nat.le_refl _) (.cells (bvs z.addr).toArray 40)))
      have HG1 := Lib.hid (heap_alloc_last wr (.cells (bvs z.addr).toArray 40))
      generalize isV4 z.addr = q at HS0 HS1 HIs
      clear hz hz16 HSt HP HIx HNs HL16
      obtain ⟨xl, hxl⟩ : ∃ xl, xl = bvs z.addr := ⟨_, rfl⟩
      have HXl := Lib.hid hxl
      rw [← hxl] at HIk HIs HSa HSx HOa HZa HEQ HP1 HG1
      clear hxl
      generalize (bvs zero16).toArray = ZZ at ZA HZa
      go_wp2_with (first
        | (refine wpList_index rfl 49 (.tmp 40) (.tmp 41) rfl _ (HIk.out _) ?_; go_simp)
        | (refine wpList_alloc_z rfl 40 rfl ZZ ZA.out ?_; go_simp)
        | (refine wpList_store_new rfl 40 (.tmp 15) (.tmp 43) rfl wr.heap.size rfl ZZ xl.toArray 40 rfl rfl HSa.out HZa.out HOa.out ?_; go_simp)
        | (refine wpList_load_row rfl 40 (.tmp 15) rfl wr.heap.size rfl 40 xl.toArray (0, 0) _ HG1.out Tryd.underlying40 rfl HSa.out ?_; go_simp))
      refine (HIs.out _).mono ?_
      rintro e w8 ⟨rfl, hb8⟩
      have HP8 := Lib.hid (HP1.out.to hb8)
      have HG8 := Lib.hid ((hb8.block _ (heap_lt HG1.out)).trans HG1.out)
      clear hb8 HP1 HG1 HIs HIk
      by_cases hqs : q = six
      · have HNk := HS0.out hqs
        have hqs2 : (q == six) = true := by rw [hqs]; simp
        have HNx : Hid (nk (k + 1) = nk k) := Lib.hid HNk
        clear HNk hqs HS0 HS1
        go_wp2_with fail
        go_roundw
        case rel => exact ⟨k + 1, by omega, by first | rfl | go_num, by rw [HNx.out], HP8⟩
        case measure => simp [intOf]; omega
      · obtain ⟨HNk, hat⟩ := HS1.out hqs
        have hqs2 : (q == six) = false := by simpa using hqs
        have hlt3 := (List.getElem?_eq_some_iff.1 hat).1
        obtain ⟨b, o, rfl, hbl, had, _⟩ := rec_addr HP8.out.rs hat HLad.out.2
        have hnl := HNl.out
        have HNx : Hid (nk (k + 1) = nk k + 1) := Lib.hid HNk
        have HLt : Hid (nk k < rs.length) := Lib.hid hlt3
        have HAd : Hid (∀ j v, xl[j]? = some v → w8.cell? ⟨b, o + nk k * 21 + 3 + j, none⟩ = some v) := Lib.hid (fun j v hj => by
          have h := had j v (by rw [HLad.out.1, ← HXl.out]; simpa using hj)
          rw [Addr.add_lit] at h
          exact h)
        have HBl := Lib.hid hbl
        clear HNk hqs HS0 HS1 hat hlt3 had hbl
        generalize rs.length = L at HM7 HLt HN2 hnl
        have hnkI : (nk k : Int) ≤ 2 := by have := HLt.out; omega
        go_upto_region 14 with fail
        have HLt2 : Hid ((nk k : Int) < (L : Int)) := Lib.hid (by have := HLt.out; omega)
        have D7 : Hid (∀ W, Below w8.heap.size w8 W → W.cell? ⟨gm, 7, none⟩ = some (.slice (some ⟨b, o, none⟩) L c)) := Lib.hid (fun W hb => (cell_of_row W _ 7 _ _ _ ((hb.block _ (heap_lt HP8.out.m)).trans HP8.out.m)).trans HM7.out)
        have RX : Hid (∀ W, Below w8.heap.size w8 W → W.rangeAt wr.heap.size 0 xl) := Lib.hid (fun W hb j v hj => by
          rw [cell_of_row W _ _ _ _ _ ((hb.block _ (heap_lt HG8.out)).trans HG8.out), Nat.zero_add]
          simpa using hj)
        have RA : Hid (∀ W, Below w8.heap.size w8 W → W.rangeAt b (o + nk k * 21 + 3) xl) := Lib.hid (fun W hb j v hj => (hb.cell (p := ⟨b, o + nk k * 21 + 3 + j, none⟩) HBl.out).trans (HAd.out j v hj))
        refine wp_region_held_drew (S := (fun W : World => Below w8.heap.size w8 W)) (by kernel_rfl) (Below.refl _ w8).drew (fun hHeld => ?_)
        refine wpAnyH_take (i := 0) (oi := ({ dst := some 48, op := Go.Op.move (Go.Operand.tmp 13), type := 3, pos := "law.go:108", after := #[], guard := none } : Oper)) (v := .int .i64 (nk k : Nat)) rfl (by kernel_rfl) (by kernel_rfl) (by kernel_rfl) (fun _ _ _ h => h) (Or.inl ⟨by rfl, fun w' _ => ?_⟩) hHeld ?_
        · go_simp
        simp only [Act.put, List.setIfInBounds_toArray, List.set_cons_zero, List.set_cons_succ]
        refine wpAnyH_take (i := 1) (oi := ({ dst := some 49, op := Go.Op.fieldAddr 31 (Go.Operand.tmp 11) 6, type := 0, pos := "law.go:108", after := #[], guard := none } : Oper)) (v := .pointer (some ⟨gm, 7, none⟩)) rfl (by kernel_rfl) (by kernel_rfl) (by kernel_rfl) (fun _ _ _ h => h) (Or.inl ⟨by rfl, fun w' _ => ?_⟩) hHeld ?_
        · go_simp
        simp only [Act.put, List.setIfInBounds_toArray, List.set_cons_zero, List.set_cons_succ]
        refine wpAnyH_take (i := 2) (oi := ({ dst := some 50, op := Go.Op.load 29 (Go.Operand.tmp 49), type := 29, pos := "law.go:108", after := #[{ on := 1, ground := Go.Ground.data }], guard := none } : Oper)) (v := .slice (some ⟨b, o, none⟩) L c) rfl (by kernel_rfl) (by kernel_rfl) (by kernel_rfl) (fun _ _ _ h => h) (Or.inl ⟨by rfl, fun w' hS' => ?_⟩) hHeld ?_
        · have hcell := D7.out _ hS'
          go_simp
        simp only [Act.put, List.setIfInBounds_toArray, List.set_cons_zero, List.set_cons_succ]
        refine wpAnyH_take (i := 3) (oi := ({ dst := some 51, op := Go.Op.call { callee := Go.Callee.builtin Go.Builtin.len, args := #[Go.Operand.tmp 50], argTypes := #[29] }, type := 3, pos := "law.go:108", after := #[{ on := 2, ground := Go.Ground.data }], guard := none } : Oper)) (v := .int .i64 (L : Nat)) rfl (by kernel_rfl) (by kernel_rfl) (by kernel_rfl) (fun _ _ _ h => h) (Or.inl ⟨by rfl, fun w' _ => ?_⟩) hHeld ?_
        · go_simp
        simp only [Act.put, List.setIfInBounds_toArray, List.set_cons_zero, List.set_cons_succ]
        refine wpAnyH_take (i := 4) (oi := ({ dst := some 52, op := Go.Op.binOp Go.BinOp.geq 3 (Go.Operand.tmp 48) (Go.Operand.tmp 51) 3, type := 4, pos := "law.go:108", after := #[{ on := 0, ground := Go.Ground.data }, { on := 3, ground := Go.Ground.data }], guard := none } : Oper)) (v := .bool false) rfl (by kernel_rfl) (by kernel_rfl) (by kernel_rfl) (fun _ _ _ h => h) (Or.inl ⟨by rfl, fun w' _ => ?_⟩) hHeld ?_
        · (go_simp; exact HLt.out)
        simp only [Act.put, List.setIfInBounds_toArray, List.set_cons_zero, List.set_cons_succ]
        refine wpAnyH_take (i := 5) (oi := ({ dst := some 53, op := Go.Op.move (Go.Operand.tmp 52), type := 4, pos := "law.go:108", after := #[{ on := 4, ground := Go.Ground.data }], guard := none } : Oper)) (v := .bool false) rfl (by kernel_rfl) (by kernel_rfl) (by kernel_rfl) (fun _ _ _ h => h) (Or.inl ⟨by rfl, fun w' _ => ?_⟩) hHeld ?_
        · go_simp
        simp only [Act.put, List.setIfInBounds_toArray, List.set_cons_zero, List.set_cons_succ]
        refine wpAnyH_take (i := 6) (oi := ({ dst := some 54, op := Go.Op.fieldAddr 31 (Go.Operand.tmp 11) 6, type := 0, pos := "law.go:108", after := #[{ on := 5, ground := Go.Ground.guard }], guard := some (5, false) } : Oper)) (v := .pointer (some ⟨gm, 7, none⟩)) rfl (by kernel_rfl) (by kernel_rfl) (by kernel_rfl) (fun _ _ _ h => h) (Or.inl ⟨by kernel_rfl, fun w' _ => ?_⟩) hHeld ?_
        · go_simp
        simp only [Act.put, List.setIfInBounds_toArray, List.set_cons_zero, List.set_cons_succ]
        refine wpAnyH_take (i := 7) (oi := ({ dst := some 55, op := Go.Op.load 29 (Go.Operand.tmp 54), type := 29, pos := "law.go:108", after := #[{ on := 6, ground := Go.Ground.data }, { on := 5, ground := Go.Ground.guard }], guard := some (5, false) } : Oper)) (v := .slice (some ⟨b, o, none⟩) L c) rfl (by kernel_rfl) (by kernel_rfl) (by kernel_rfl) (fun _ _ _ h => h) (Or.inl ⟨by kernel_rfl, fun w' hS' => ?_⟩) hHeld ?_
        · have hcell := D7.out _ hS'
          go_simp
        simp only [Act.put, List.setIfInBounds_toArray, List.set_cons_zero, List.set_cons_succ]
        refine wpAnyH_take (i := 8) (oi := ({ dst := some 56, op := Go.Op.move (Go.Operand.tmp 13), type := 3, pos := "law.go:108", after := #[{ on := 5, ground := Go.Ground.guard }], guard := some (5, false) } : Oper)) (v := .int .i64 (nk k : Nat)) rfl (by kernel_rfl) (by kernel_rfl) (by kernel_rfl) (fun _ _ _ h => h) (Or.inl ⟨by kernel_rfl, fun w' _ => ?_⟩) hHeld ?_
        · go_simp
        simp only [Act.put, List.setIfInBounds_toArray, List.set_cons_zero, List.set_cons_succ]
        refine wpAnyH_take (i := 9) (oi := ({ dst := some 57, op := Go.Op.indexAddr 29 (Go.Operand.tmp 55) (Go.Operand.tmp 56), type := 0, pos := "law.go:108", after := #[{ on := 7, ground := Go.Ground.data }, { on := 8, ground := Go.Ground.data }, { on := 5, ground := Go.Ground.guard }], guard := some (5, false) } : Oper)) (v := .pointer (some ⟨b, o + nk k * 21, none⟩)) rfl (by kernel_rfl) (by kernel_rfl) (by kernel_rfl) (fun _ _ _ h => h) (Or.inl ⟨by kernel_rfl, fun w' _ => ?_⟩) hHeld ?_
        · (have hlt := HLt.out; have hlt2 := HLt2.out; go_simp)
        simp only [Act.put, List.setIfInBounds_toArray, List.set_cons_zero, List.set_cons_succ]
        refine wpAnyH_take (i := 10) (oi := ({ dst := some 58, op := Go.Op.fieldAddr 45 (Go.Operand.tmp 57) 3, type := 0, pos := "law.go:108", after := #[{ on := 9, ground := Go.Ground.data }, { on := 5, ground := Go.Ground.guard }], guard := some (5, false) } : Oper)) (v := .pointer (some ⟨b, o + nk k * 21 + 3, none⟩)) rfl (by kernel_rfl) (by kernel_rfl) (by kernel_rfl) (fun _ _ _ h => h) (Or.inl ⟨by kernel_rfl, fun w' _ => ?_⟩) hHeld ?_
        · go_simp
        simp only [Act.put, List.setIfInBounds_toArray, List.set_cons_zero, List.set_cons_succ]
        refine wpAnyH_take (i := 11) (oi := ({ dst := some 59, op := Go.Op.load 40 (Go.Operand.tmp 58), type := 40, pos := "law.go:108", after := #[{ on := 10, ground := Go.Ground.data }, { on := 5, ground := Go.Ground.guard }], guard := some (5, false) } : Oper)) (v := .agg (xl).toArray) rfl (by kernel_rfl) (by kernel_rfl) (by kernel_rfl) (fun _ _ _ h => h) (yieldsIf_load_mid (by kernel_rfl) _ _ rfl _ _ rfl _ _ (fun W h => RA.out W h) Tryd.underlying40 rfl HSx.out) hHeld ?_
        simp only [Act.put, List.setIfInBounds_toArray, List.set_cons_zero, List.set_cons_succ]
        refine wpAnyH_take (i := 12) (oi := ({ dst := some 60, op := Go.Op.load 40 (Go.Operand.tmp 15), type := 40, pos := "law.go:108", after := #[{ on := 5, ground := Go.Ground.guard }], guard := some (5, false) } : Oper)) (v := .agg (xl).toArray) rfl (by kernel_rfl) (by kernel_rfl) (by kernel_rfl) (fun _ _ _ h => h) (yieldsIf_load_mid (by kernel_rfl) _ _ rfl _ _ rfl _ _ (fun W h => RX.out W h) Tryd.underlying40 rfl HSx.out) hHeld ?_
        simp only [Act.put, List.setIfInBounds_toArray, List.set_cons_zero, List.set_cons_succ]
        refine wpAnyH_take (i := 13) (oi := ({ dst := some 61, op := Go.Op.binOp Go.BinOp.neq 40 (Go.Operand.tmp 59) (Go.Operand.tmp 60) 40, type := 4, pos := "law.go:108", after := #[{ on := 11, ground := Go.Ground.data }, { on := 12, ground := Go.Ground.data }, { on := 5, ground := Go.Ground.guard }], guard := some (5, false) } : Oper)) (v := .bool false) rfl (by kernel_rfl) (by kernel_rfl) (by kernel_rfl) (fun _ _ _ h => h) (yieldsIf_neq (by kernel_rfl) 40 (.tmp 59) (.tmp 60) _ rfl xl.toArray xl.toArray true rfl rfl HEG.out (fun W _ => HEQ.out W)) hHeld ?_
        simp only [Act.put, List.setIfInBounds_toArray, List.set_cons_zero, List.set_cons_succ]
        refine wpAnyH_take (i := 14) (oi := ({ dst := some 62, op := Go.Op.pick (Go.Operand.tmp 53) (Go.Operand.const (Go.Value.bool true)) (Go.Operand.tmp 61), type := 4, pos := "law.go:108", after := #[{ on := 5, ground := Go.Ground.data }, { on := 13, ground := Go.Ground.data }], guard := none } : Oper)) (v := .bool false) rfl (by kernel_rfl) (by kernel_rfl) (by kernel_rfl) (fun _ _ _ h => h) (Or.inl ⟨by rfl, fun w' _ => ?_⟩) hHeld ?_
        · go_simp
        simp only [Act.put, List.setIfInBounds_toArray, List.set_cons_zero, List.set_cons_succ]
        refine wpAnyH_done (by kernel_rfl) ?_ _
        have HP9 := Lib.hid (HP8.out.to hHeld)
        clear hHeld D7 RX RA HAd HP8 HG8
        go_wp2_with fail
        go_roundw
        case rel => exact ⟨k + 1, by omega, by first | rfl | go_num, by rw [HNx.out]; first | rfl | go_num, HP9⟩
        case measure => simp [intOf]; omega
    · have hkI : ¬ (k : Int) < 2 := by omega
      obtain rfl : k = ls.length := by omega
      have e7 := (cell_of_row wr gm 7 _ _ _ HP.out.m).trans HM7.out
      rw [HN2.out]
      have HB := Lib.hid HP.out.below
      clear HP HIx HNs HL16 HT0
      go_wp2_with (first
        | (go_at_call 7; refine (HNm.out _).mono ?_; rintro e w9 ⟨rfl, hb9⟩; have HB9 := Lib.hid (HB.out.trans (hb9.mono HB.out.size)); clear hb9; go_simp))
      go_ret
      exact ⟨rfl, HB9.out⟩
end Go.Proofs.YtakfokdjdljjjaaDoor
