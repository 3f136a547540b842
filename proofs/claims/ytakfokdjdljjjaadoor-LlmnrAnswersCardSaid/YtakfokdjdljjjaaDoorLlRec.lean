/-
  The walk of llmnr.records: the records that answer a question, one for each local address of its type. Condition: the local addresses lie in memory.
-/
import Derived.Test.YtakfokdjdljjjaaDoorLlAddr
import Derived.Test.YtakfokdjdljjjaaDoorMsgRecs
import Derived.Test.YtakfokdjdljjjaaDoorMsgFits
namespace Go.Proofs.YtakfokdjdljjjaaDoor
open Go.RowKit

structure LV where
  addr : List UInt8
  dep : Bool
  home : Bool
def LV.cells (l : LV) : List Value := bvs l.addr ++ [Value.bool l.dep, Value.bool l.home]
theorem LV.one (r : LV) : r.cells.toArray.all (·.oneCell') = true := by
  rw [List.all_toArray]
  refine List.all_eq_true.2 fun v hv => ?_
  unfold LV.cells at hv
  rcases List.mem_append.1 hv with h | h
  · exact bvs_one _ v h
  · simp only [List.mem_cons, List.not_mem_nil, or_false] at h
    rcases h with rfl | rfl <;> rfl
theorem LV.size {r : LV} (h : r.addr.length = 16) : r.cells.length = 18 := by
  unfold LV.cells; simp [bvs_length, h]
theorem lSize {r : LV} (h : r.addr.length = 16) : (Tryd.prog.info? 42).map (·.size) = some r.cells.toArray.size := by
  rw [List.size_toArray, LV.size h]; kernel_rfl
theorem LV.has {r : LV} (h : r.addr.length = 16) : (∀ (j : Nat) (v : Value), (bvs r.addr)[j]? = some v → r.cells[j]? = some v) ∧ r.cells[16]? = some (.bool r.dep) ∧ r.cells[17]? = some (.bool r.home) := by
  have hl : (bvs r.addr).length = 16 := by rw [bvs_length, h]
  unfold LV.cells
  refine ⟨fun j v hj => ?_, ?_, ?_⟩
  · rw [List.getElem?_append_left (List.getElem?_eq_some_iff.1 hj).1]; exact hj
  all_goals rw [List.getElem?_append_right (by omega), hl]; rfl
/-- values of n cells each, one behind the other -/
def RowsAt (n : Nat) (w : World) (A : Option Addr) (l : List (List Value)) : Prop :=
  0 < l.length → ∃ b o, A = some ⟨b, o, none⟩ ∧ b < w.heap.size ∧ ∀ k c, l[k]? = some c → ∀ j v, c[j]? = some v → w.cell? ⟨b, o + k * n + j, none⟩ = some v
theorem RowsAt.below {n : Nat} {w w' : World} {A : Option Addr} {l : List (List Value)} (h : RowsAt n w A l) (hb : Below w.heap.size w w') : RowsAt n w' A l := fun h0 => by
  obtain ⟨b, o, rfl, hlt, hc⟩ := h h0
  exact ⟨b, o, rfl, Nat.lt_of_lt_of_le hlt hb.size, fun k c hk j v hv => (hb.cell (p := ⟨b, o + k * n + j, none⟩) hlt).trans (hc k c hk j v hv)⟩
def LocsAt (w : World) (A : Option Addr) (ls : List LV) : Prop := RowsAt 18 w A (ls.map LV.cells)
def lvZero : LV := ⟨zero16, false, false⟩
theorem own_recs {W : World} {base c : Nat} {A : Option Addr} {rs : List RV} (h : W.ownsRow base 45 21 (.slice A rs.length c) rs.length (rcs rs)) (had : ∀ r ∈ rs, r.ad.length = 16) : RecsAt W A rs := fun h0 => by
  rcases h.2 with ⟨_, h1⟩ | ⟨g, cap, cur, hv, hb, hg, _⟩
  · omega
  · injection hv with h1 h2 h3
    subst h1
    exact recs_part (a := 0) (fun i u hu => by
      have := h.cells (g := g) rfl i u hu
      rwa [Addr.add_lit, Nat.zero_add] at this) (heap_lt hg) had rs (fun i r hr => by rw [Nat.zero_add]; exact hr) rfl h0
theorem lZeroAt : (Tryd.prog.info? 42).map (·.zero) = some (some (.agg lvZero.cells.toArray)) := by kernel_rfl
/-- the record of a local address -/
def lrec (S : ByteArray) (ty : Int) (x : LV) : RV := ⟨S, ty, 30, x.addr, emp, emp⟩
/-- the records that answer -/
def ansL (S : ByteArray) (ty : Int) (ls : List LV) : List RV := (ls.filter fun x => famT x.addr == ty).map (lrec S ty)
theorem ansL_snoc {S : ByteArray} {ty : Int} {ls : List LV} {k : Nat} {x : LV} (h : ls[k]? = some x) : ansL S ty (ls.take (k + 1)) = if famT x.addr == ty then ansL S ty (ls.take k) ++ [lrec S ty x] else ansL S ty (ls.take k) := by
  unfold ansL
  rw [List.take_add_one, h, List.filter_append, List.map_append]
  cases hq : famT x.addr == ty <;> simp [hq]
theorem ansL_len (S : ByteArray) (ty : Int) (ls : List LV) : (ansL S ty ls).length ≤ ls.length := by
  unfold ansL; rw [List.length_map]; exact List.length_filter_le _ _
theorem ansL_mem {S : ByteArray} {ty : Int} {ls : List LV} {r : RV} (h : r ∈ ansL S ty ls) : ∃ x ∈ ls, famT x.addr = ty ∧ r = lrec S ty x := by
  unfold ansL at h
  obtain ⟨x, hx, rfl⟩ := List.mem_map.1 h
  obtain ⟨h1, h2⟩ := List.mem_filter.1 hx
  exact ⟨x, h1, by simpa using h2, rfl⟩
theorem builtR (S : ByteArray) (ty : Int) {x : List UInt8} (h : x.length = 16) : Tryd.prog.built 45 [(0, .string S), (1, .int .i64 ty), (2, .int .i64 30), (3, .agg (bvs x).toArray)] = some (RV.cells ⟨S, ty, 30, x, emp, emp⟩) := by
  obtain ⟨a, b, c, d, e, f, g, i, j, k, l, m, n, o, p, q, rfl⟩ := list16 h
  kernel_rfl
/-- the records so far -/
structure LrAt (w wr : World) (S : ByteArray) (ty : Int) (rs : List RV) (v : Value) : Prop where
  q : wr.heap[w.heap.size]? = some (.cells #[.string S, .int .i64 ty] 28 (0, 0))
  own : wr.ownsRow (w.heap.size + 1) 45 21 v rs.length (rcs rs)
  below : Below w.heap.size w wr
  hb : w.heap.size + 1 ≤ wr.heap.size
theorem LrAt.to {w wr wr' : World} {S : ByteArray} {ty : Int} {rs : List RV} {v : Value} (h : LrAt w wr S ty rs v) (hb : Below wr.heap.size wr wr') : LrAt w wr' S ty rs v :=
  ⟨(hb.block _ (heap_lt h.q)).trans h.q, h.own.kept (show wr.grownBy wr' none from ⟨hb.os, hb.tape, hb.output, hb.size, fun k hk _ => hb.block k hk⟩) (Classical.em _), h.below.trans (hb.mono h.below.size), Nat.le_trans h.hb hb.size⟩
theorem LrAt.app {w wr w1 : World} {S : ByteArray} {ty : Int} {rs : List RV} {v v1 : Value} {r : RV} (h : LrAt w wr S ty rs v) (ho : w1.ownsRow (w.heap.size + 1) 45 21 v1 (rs.length + 1) (rcs rs ++ r.cells.toList)) (hg : wr.grownBy w1 v.ownBlock) : LrAt w w1 S ty (rs ++ [r]) v1 :=
  ⟨(hg.block _ (heap_lt h.q) (fun e => by have := (h.own.lt _ e.symm).1; omega)).trans h.q, by rw [List.length_append, rcs_snoc]; exact ho, h.below.grown hg h.below.size (fun j hj => by have := (h.own.lt j hj).1; omega), Nat.le_trans h.hb hg.size⟩
/-- what records answers -/
def RcPost (w : World) (rs : List RV) (e : Ending) (w' : World) : Prop := ∃ A c, e = .returned (.slice A rs.length c) ∧ Below w.heap.size w w' ∧ RecsAt w' A rs
set_option maxRecDepth 100000 in
set_option maxHeartbeats 4000000 in
theorem records_e (S : ByteArray) (ty : Int) (ls : List LV) (hls : ∀ x ∈ ls, x.addr.length = 16) (A : Option Addr) (cap : Nat) (hn : ls.length ≤ 1000) (w : World) (hA : LocsAt w A ls) :
    Calls Tryd.prog 14 #[.agg #[.string S, .int .i64 ty], .slice A ls.length cap] w (RcPost w (ansL S ty ls)) := by
  have HA := Lib.hid hA
  have HLs := Lib.hid hls
  have HZ := Lib.hid lZeroAt
  have HQ0 := heap_alloc_last w (.cells #[.string S, .int .i64 ty] 28)
  have HL0 : Hid (LrAt w (w.alloc (.cells #[.string S, .int .i64 ty] 28)) S ty (ansL S ty (ls.take 0)) (.slice none 0 0)) := Lib.hid ⟨HQ0, World.ownsRow_nil _ _ _ _, (Below.refl _ w).alloc (Nat.le_refl _) _, by simp⟩
  obtain ⟨i0, hi, hz0, hz1, hz2⟩ := info_rec
  have HI := Lib.hid hi
  have HZ0 := Lib.hid hz0
  have HZ1 := Lib.hid hz1
  have HZ2 := Lib.hid hz2
  have hnI : (ls.length : Int) ≤ 1000 := by omega
  clear hA hls HQ0 hi hz0 hz1 hz2
  revert HZ
  generalize hZd : lvZero.cells.toArray = Z
  intro HZ
  have HZs : Hid (Z.size = 18) := Lib.hid (by rw [← hZd, List.size_toArray]; exact LV.size rfl)
  clear hZd
  go_enter Tryd.func14, Tryd.ntmps14
  go_wp2_with fail
  go_loopw [10, 5] (fun i v wr => ∃ (k : Nat) (v' : Value), k ≤ ls.length ∧ i = .int .i64 k ∧ v' = v ∧ Hid (LrAt w wr S ty (ansL S ty (ls.take k)) v')) (fun i _ _ => ls.length - (intOf i).toNat)
  case atStart => exact ⟨0, _, by omega, rfl, rfl, HL0⟩
  case round =>
    obtain ⟨k, v, hk, rfl, rfl, HP⟩ := hrel
    by_cases hlt : k < ls.length
    · have hkI : (k : Int) < (ls.length : Int) := by omega
      obtain ⟨y, hy⟩ : ∃ y, ls[k]? = some y := ⟨_, List.getElem?_eq_getElem hlt⟩
      have hyl := HLs.out y (List.mem_of_getElem? hy)
      obtain ⟨b, o, rfl, hbl, hcells⟩ := HA.out (by rw [List.length_map]; omega)
      have HYC : Hid (∀ j v, y.cells.toArray.toList[j]? = some v → wr.cell? ((⟨b, o + k * 18, none⟩ : Addr).add j) = some v) := Lib.hid (fun j v hj => by
        rw [Addr.add_lit, HP.out.below.cell (p := ⟨b, o + k * 18 + j, none⟩) hbl]
        exact hcells k y.cells (by rw [List.getElem?_map, hy]; rfl) j v hj)
      have HYS := Lib.hid (lSize hyl)
      have HYO := Lib.hid (LV.one y)
      have HYZ : Hid (Z.size = y.cells.toArray.size) := Lib.hid (by rw [HZs.out, List.size_toArray, LV.size hyl])
      have HP1 := Lib.hid (HP.out.to ((Below.refl _ wr).alloc (Nat.le_refl _) (.cells y.cells.toArray 42)))
      have HG1 := Lib.hid (heap_alloc_last wr (.cells y.cells.toArray 42))
      have HFa := Lib.hid (fun W => family_e y.addr hyl W)
      have HSn := Lib.hid (ansL_snoc (S := S) (ty := ty) hy)
      have HSx : Hid ((Tryd.prog.info? 40).map (·.size) = some (bvs y.addr).length) := Lib.hid (by rw [sizeAddr, bvs_length, hyl])
      have HBu := Lib.hid (builtR S ty hyl)
      have HAn : Hid (∀ j v, (bvs y.addr)[j]? = some v → y.cells.toArray[j]? = some v) := Lib.hid (fun j v hj => by
        unfold LV.cells
        rw [List.getElem?_toArray, List.getElem?_append_left (List.getElem?_eq_some_iff.1 hj).1]
        exact hj)
      have HRs : Hid ((RV.cells ⟨S, ty, 30, y.addr, emp, emp⟩).size = 21) := Lib.hid (RV.size hyl)
      have HRo : Hid ((RV.cells ⟨S, ty, 30, y.addr, emp, emp⟩).all (·.oneCell') = true) := Lib.hid (RV.one _)
      have HRe : Hid ((lrec S ty y).cells = RV.cells ⟨S, ty, 30, y.addr, emp, emp⟩) := Lib.hid rfl
      have hlen := ansL_len S ty (ls.take k)
      rw [List.length_take] at hlen
      have hlen2 : (ansL S ty (ls.take k)).length ≤ 1000 := by omega
      obtain ⟨fb, hfb⟩ : ∃ fb, fb = (famT y.addr == ty) := ⟨_, rfl⟩
      rw [← hfb] at HSn
      have HFb := Lib.hid hfb.symm
      generalize famT y.addr = ft at HFa HFb
      generalize RV.cells ⟨S, ty, 30, y.addr, emp, emp⟩ = RC at HBu HRs HRo HRe
      generalize bvs y.addr = xl at HFa HSx HBu HAn
      clear hcells hbl hy hyl hfb hlen
      generalize y.cells.toArray = yc at HYC HYS HYO HYZ HP1 HG1 HAn
      obtain ⟨w5, hw5⟩ : ∃ w5, w5 = wr.alloc (.cells yc 42) := ⟨_, rfl⟩
      have hz5 : w5.heap.size = wr.heap.size + 1 := by rw [hw5, World.size_alloc]
      go_wp2_with (first
        | (refine wpList_load_agg rfl 42 (.tmp 12) rfl ⟨b, o + k * 18, none⟩ rfl yc _ HYC.out Tryd.underlying42 rfl HYS.out ?_; go_simp)
        | (refine wpList_alloc_z rfl 42 rfl Z HZ.out ?_; go_simp)
        | (refine wpList_store_new rfl 42 (.tmp 7) (.tmp 13) rfl wr.heap.size rfl Z yc 42 rfl rfl HYS.out HYZ.out HYO.out ?_; go_simp))
      rw [← hw5] at HP1 HG1 ⊢
      clear hw5
      have HTy : Hid (∀ W, Below w5.heap.size w5 W → W.cell? ⟨w.heap.size, 1, none⟩ = some (.int .i64 ty)) := Lib.hid (fun W hb => cell_of_row W _ 1 _ _ _ ((hb.block _ (heap_lt HP1.out.q)).trans HP1.out.q))
      have RX : Hid (∀ W, Below w5.heap.size w5 W → W.rangeAt wr.heap.size 0 xl) := Lib.hid (fun W hb j v hj => by
        rw [cell_of_row W _ _ _ _ _ ((hb.block _ (heap_lt HG1.out)).trans HG1.out), Nat.zero_add]
        exact HAn.out j v hj)
      refine wp_region_held_drew (S := (fun W : World => Below w5.heap.size w5 W)) (by kernel_rfl) (Below.refl _ w5).drew (fun hHeld => ?_)
      refine wpAnyH_take (i := 0) (oi := ({ dst := some 14, op := Go.Op.fieldAddr 42 (Go.Operand.tmp 7) 0, type := 0, pos := "llmnr.go:33", after := #[], guard := none } : Oper)) (v := .pointer (some ⟨wr.heap.size, 0, none⟩)) rfl (by kernel_rfl) (by kernel_rfl) (by kernel_rfl) (fun _ _ _ h => h) (Or.inl ⟨by rfl, fun w' _ => ?_⟩) hHeld ?_
      · go_simp
      simp only [Act.put, List.setIfInBounds_toArray, List.set_cons_zero, List.set_cons_succ]
      refine wpAnyH_take (i := 1) (oi := ({ dst := some 15, op := Go.Op.load 40 (Go.Operand.tmp 14), type := 40, pos := "llmnr.go:33", after := #[{ on := 0, ground := Go.Ground.data }], guard := none } : Oper)) (v := .agg (xl).toArray) rfl (by kernel_rfl) (by kernel_rfl) (by kernel_rfl) (fun _ _ _ h => h) (yieldsIf_load_mid (by rfl) _ _ rfl _ _ rfl _ _ (fun W h => RX.out W h) Tryd.underlying40 rfl HSx.out) hHeld ?_
      simp only [Act.put, List.setIfInBounds_toArray, List.set_cons_zero, List.set_cons_succ]
      refine wpAnyH_take (i := 3) (oi := ({ dst := some 17, op := Go.Op.fieldAddr 28 (Go.Operand.tmp 2) 1, type := 0, pos := "llmnr.go:33", after := #[], guard := none } : Oper)) (v := .pointer (some ⟨w.heap.size, 1, none⟩)) rfl (by kernel_rfl) (by kernel_rfl) (by kernel_rfl) (fun _ _ _ h => h) (Or.inl ⟨by rfl, fun w' _ => ?_⟩) hHeld ?_
      · go_simp
      simp only [Act.put, List.setIfInBounds_toArray, List.set_cons_zero, List.set_cons_succ]
      refine wpAnyH_take (i := 4) (oi := ({ dst := some 18, op := Go.Op.load 3 (Go.Operand.tmp 17), type := 3, pos := "llmnr.go:33", after := #[{ on := 3, ground := Go.Ground.data }], guard := none } : Oper)) (v := .int .i64 ty) rfl (by kernel_rfl) (by kernel_rfl) (by kernel_rfl) (fun _ _ _ h => h) (Or.inl ⟨by rfl, fun w' hS' => ?_⟩) hHeld ?_
      · have hcell := HTy.out _ hS'
        go_simp
      simp only [Act.put, List.setIfInBounds_toArray, List.set_cons_zero, List.set_cons_succ]
      refine wpAnyH_ready (rs := [2]) (by kernel_rfl) (by simp) ?_
      refine AllReadyH.cons (o := ({ dst := some 16, op := Go.Op.call { callee := Go.Callee.value (Go.Operand.func 23), args := #[Go.Operand.tmp 15], argTypes := #[40] }, type := 3, pos := "llmnr.go:33", after := #[{ on := 1, ground := Go.Ground.data }], guard := none } : Oper)) rfl (fun K hK => ?_) AllReadyH.nil
      go_simp
      go_at_call 23
      refine (HFa.out _).mono ?_
      rintro e' wc ⟨rfl, hbc⟩
      refine hK.out _ _ (Below.trans hHeld (Below.mono hbc (Below.size hHeld))) (fun hHeld' => ?_)
      clear hK K hbc
      try clear hHeld
      try simp only [Act.put, List.setIfInBounds_toArray, List.set_cons_zero, List.set_cons_succ]
      refine wpAnyH_take (i := 5) (oi := ({ dst := some 19, op := Go.Op.binOp Go.BinOp.eql 3 (Go.Operand.tmp 16) (Go.Operand.tmp 18) 3, type := 4, pos := "llmnr.go:33", after := #[{ on := 2, ground := Go.Ground.data }, { on := 4, ground := Go.Ground.data }], guard := none } : Oper)) (v := .bool fb) rfl (by kernel_rfl) (by kernel_rfl) (by kernel_rfl) (fun _ _ _ h => h) (Or.inl ⟨by rfl, fun w' _ => ?_⟩) hHeld' ?_
      · (have hfb := HFb.out; go_simp)
      simp only [Act.put, List.setIfInBounds_toArray, List.set_cons_zero, List.set_cons_succ]
      refine wpAnyH_done (by kernel_rfl) ?_ _
      have HP2 := Lib.hid (HP1.out.to hHeld')
      have HG2 := Lib.hid ((hHeld'.block _ (heap_lt HG1.out)).trans HG1.out)
      have hz2 := hHeld'.size
      have HX2 : Hid (∀ j v, xl.toArray.toList[j]? = some v → wc.cell? ((⟨wr.heap.size, 0, none⟩ : Addr).add j) = some v) := Lib.hid (fun j v hj => by
        rw [Addr.add_lit, Nat.zero_add, cell_of_row wc _ _ _ _ _ HG2.out]
        exact HAn.out j v (by simpa using hj))
      clear hHeld' HP1 HG1 RX HTy HYC HYS HYO HYZ HP HFa
      have dS := (cell_of_row wc w.heap.size 0 _ _ _ HP2.out.q).trans (rfl : _ = some (Value.string S))
      have dT := (cell_of_row wc w.heap.size 1 _ _ _ HP2.out.q).trans (rfl : _ = some (Value.int .i64 ty))
      cases fb with
      | false =>
        have HN : Hid (LrAt w wc S ty (ansL S ty (ls.take (k + 1))) v) := Lib.hid (by rw [HSn.out]; exact HP2.out)
        clear HP2 HG2 HSn
        go_wp2_with fail
        go_roundw
        case rel => exact ⟨k + 1, _, by omega, by first | rfl | go_num, rfl, HN⟩
        case measure => simp [intOf]; omega
      | true =>
        obtain ⟨rl, hrl⟩ : ∃ rl : List Value, RC = rl.toArray := ⟨RC.toList, by rw [Array.toArray_toList]⟩
        have HCL : Hid (rl.length = 21) := Lib.hid (by have h := HRs.out; rw [hrl] at h; simpa using h)
        have HC1 : Hid (∀ u ∈ rl, u.oneCell' = true) := Lib.hid (fun u hu => by
          have h := HRo.out
          rw [Array.all_eq_true'] at h
          exact h u (by rw [hrl]; simpa using hu))
        have HSx2 : Hid ((Tryd.prog.info? 40).map (·.size) = some xl.toArray.size) := Lib.hid (by rw [List.size_toArray]; exact HSx.out)
        have HRl : Hid ((lrec S ty y).cells.toList = rl) := Lib.hid (by rw [HRe.out, hrl])
        rw [hrl] at HBu
        have HO6 : Hid ((wc.alloc (.cells rl.toArray 45)).ownsRow (w.heap.size + 1) 45 21 v (ansL S ty (ls.take k)).length (rcs (ansL S ty (ls.take k)))) := Lib.hid (HP2.out.to ((Below.refl _ wc).alloc (Nat.le_refl _) _)).own
        have HB6 : Hid (w.heap.size + 1 ≤ (wc.alloc (.cells rl.toArray 45)).heap.size) := Lib.hid (HP2.out.to ((Below.refl _ wc).alloc (Nat.le_refl _) _)).hb
        have HN : Hid (∀ v1 w1, w1.ownsRow (w.heap.size + 1) 45 21 v1 ((ansL S ty (ls.take k)).length + 1) (rcs (ansL S ty (ls.take k)) ++ rl) → (wc.alloc (.cells rl.toArray 45)).grownBy w1 v.ownBlock → LrAt w w1 S ty (ansL S ty (ls.take (k + 1))) v1) := Lib.hid (fun v1 w1 h1 h2 => by
          rw [HSn.out, if_pos rfl]
          rw [← HRl.out] at h1
          exact (HP2.out.to ((Below.refl _ wc).alloc (Nat.le_refl _) _)).app h1 h2)
        clear HP2 hrl HRs HRo HRe HRl HSn HG2
        generalize rcs (ansL S ty (ls.take k)) = rcs0 at HO6 HN
        generalize (ansL S ty (ls.take k)).length = nrs at HO6 HN hlen2
        have hnrs : (nrs : Int) ≤ 1000 := by omega
        go_wp2_with (first
          | (refine wpList_load_agg rfl 40 (.tmp 25) rfl ⟨wr.heap.size, 0, none⟩ rfl xl.toArray _ HX2.out Tryd.underlying40 rfl HSx2.out ?_; go_simp)
          | (refine wpList_build_v rfl 45 #[(0, .tmp 22), (1, .tmp 24), (2, .const (.int .i64 30)), (3, .tmp 26)] rfl _ rl.toArray HBu.out rfl ?_; go_simp)
          | (refine wpList_buildSlice rfl 29 45 1 #[(0, .tmp 27)] rfl rl.toArray i0 _ Tryd.underlying29 HI.out HZ0.out (by rw [HZ1.out]; decide) (by rw [HZ1.out]; decide) (by rw [HZ1.out]; refine (congrArg _ (?_ : _ = [(0, Value.agg rl.toArray)])).trans (fill21r HCL.out); rw [Array.toList_map]; rfl) ?_; go_simp)
          | (at_builtin; refine wpList_append_own (w := wc.alloc (.cells rl.toArray 45)) rfl (.tmp 20) (.tmp 28) 29 rfl (w.heap.size + 1) 45 i0 _ 21 80 Tryd.underlying29 HI.out HZ0.out HZ1.out HZ2.out rfl (by decide) v nrs rcs0 rfl HO6.out ⟨wc.heap.size, 0, none⟩ 1 1 rl rfl (by rw [HCL.out]) (fun j u hj => by rw [Addr.add_lit, Nat.zero_add, World.cell?_alloc_mark, List.getElem?_toArray]; exact hj) HC1.out (by unfold maxLen; omega) (by omega) HB6.out ?_; intro v1 w9 ho1 hg1 hnil; clear hnil; have HNX := Lib.hid (HN.out v1 w9 ho1 hg1); clear ho1 hg1; go_simp))
        go_roundw
        case rel => exact ⟨k + 1, _, by omega, by first | rfl | go_num, rfl, HNX⟩
        case measure => simp [intOf]; omega
    · have hkI : ¬ (k : Int) < (ls.length : Int) := by omega
      obtain rfl : k = ls.length := by omega
      rw [List.take_length] at HP
      obtain ⟨Av, cv, rfl⟩ := own_sl4 HP.out.own
      go_wp2_with fail
      go_ret
      refine ⟨_, _, rfl, HP.out.below, own_recs HP.out.own (fun r hr => by obtain ⟨x, hx, _, rfl⟩ := ansL_mem hr; exact HLs.out x hx)⟩
end Go.Proofs.YtakfokdjdljjjaaDoor
