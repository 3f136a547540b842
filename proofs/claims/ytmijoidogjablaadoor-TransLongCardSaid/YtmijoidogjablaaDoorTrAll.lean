/-
  The walk of trans.Draw: a number's lowest 16 bits, and a port of its higher ones. No condition.
  The walks of trans's comes and answeredBy: what they answer. No condition but that addresses have 16 bytes.
  The walk of trans.Match: the message that bytes answer a question by, or none. Condition: what Decode answers for these bytes, as a hypothesis.
  The walk of build: a question on its way, of numbers. Condition: the numbers' bits, told.
  Encode of a message that comes back, and Match by what it tells. Conditions: the library's variable MaxLen holds some number; the message's lists lie in memory.
-/
import Derived.Test.YtmijoidogjablaaDoorMsgMem
import Derived.Test.YtmijoidogjablaaDoorMsgFit
import Derived.Test.YtmijoidogjablaaDoorMsgAgain
import Derived.Test.YtmijoidogjablaaDoorMsgPlLib
namespace Go.Proofs.YtmijoidogjablaaDoor
open Go.RowKit

def drP (n : Int) : Nat := 1024 + ((IntKind.u64.wrap n).toNat / 65536) % 64512
theorem drP_le (n : Int) : 1024 ≤ drP n ∧ drP n ≤ 65535 := by unfold drP; omega
theorem draw_e (n : Int) (D : Nat) (hD : bits BinOp.and IntKind.i64 n 65535 = (D : Int)) (w : World) :
    Calls Tryd.prog 22 #[.int .i64 n] w fun e w' => e = .returned (.tuple #[.int .i64 (D : Nat), .int .i64 (drP n : Nat)]) ∧ w = w' := by
  obtain ⟨U, hU⟩ : ∃ U : Nat, IntKind.u64.wrap n = (U : Int) := ⟨(IntKind.u64.wrap n).toNat, by
    have : 0 ≤ IntKind.u64.wrap n := by show 0 ≤ n % 18446744073709551616; omega
    omega⟩
  have hP : drP n = 1024 + (U / 65536) % 64512 := by unfold drP; rw [hU]; rfl
  rw [hP]
  clear hP
  go_enter Tryd.func22, Tryd.ntmps22
  go_wp2_with fail
  go_ret2
  exact ⟨rfl, rfl⟩
end Go.Proofs.YtmijoidogjablaaDoor
namespace Go.Proofs.YtmijoidogjablaaDoor
open Go.RowKit

/-- a question on its way, as it lies in memory -/
def trC (S : ByteArray) (ty lk gn : Int) (x : List UInt8) (D P : Int) (st gr : Bool) (un : Int) : Array Value :=
  (.string S :: .int .i64 ty :: .int .i64 lk :: .int .i64 gn :: (bvs x ++ [.int .i64 D, .int .i64 P, .bool st, .bool gr, .int .i64 un])).toArray
structure TrOk (T : Array Value) (S : ByteArray) (ty lk gn : Int) (x : List UInt8) (D P : Int) (st gr : Bool) : Prop where
  size : T.size = 25
  one : T.all (·.oneCell') = true
  c0 : T[0]? = some (.string S)
  c1 : T[1]? = some (.int .i64 ty)
  c2 : T[2]? = some (.int .i64 lk)
  c3 : T[3]? = some (.int .i64 gn)
  ad : ∀ j v, (bvs x).toArray.toList[j]? = some v → T[4 + j]? = some v
  c20 : T[20]? = some (.int .i64 D)
  c21 : T[21]? = some (.int .i64 P)
  c22 : T[22]? = some (.bool st)
  c23 : T[23]? = some (.bool gr)
theorem trC_at {S : ByteArray} {ty lk gn : Int} {x : List UInt8} {D P : Int} {st gr : Bool} {un : Int} (h : x.length = 16) (j : Nat) : (trC S ty lk gn x D P st gr un)[20 + j]? = [Value.int .i64 D, .int .i64 P, .bool st, .bool gr, .int .i64 un][j]? := by
  unfold trC
  rw [List.getElem?_toArray, show 20 + j = ((((16 + j) + 1) + 1) + 1) + 1 by omega]
  simp only [List.getElem?_cons_succ]
  rw [List.getElem?_append_right (by rw [bvs_length, h]; omega), bvs_length, h, Nat.add_sub_cancel_left]
theorem trC_ok (S : ByteArray) (ty lk gn : Int) (x : List UInt8) (D P : Int) (st gr : Bool) (un : Int) (h : x.length = 16) : TrOk (trC S ty lk gn x D P st gr un) S ty lk gn x D P st gr := by
  refine ⟨by unfold trC; simp [bvs_length, h], ?_, rfl, rfl, rfl, rfl, fun j v hj => ?_, trC_at h 0, trC_at h 1, trC_at h 2, trC_at h 3⟩
  · unfold trC
    rw [List.all_toArray, List.all_eq_true]
    intro v hv
    simp only [List.mem_cons, List.mem_append, List.not_mem_nil, or_false] at hv
    rcases hv with rfl | rfl | rfl | rfl | hv | rfl | rfl | rfl | rfl | rfl
    · rfl
    · rfl
    · rfl
    · rfl
    · exact bvs_one x v hv
    all_goals rfl
  · unfold trC
    rw [List.getElem?_toArray]
    have hl : j < (bvs x).length := (List.getElem?_eq_some_iff.1 hj).1
    rw [show 4 + j = (((j + 1) + 1) + 1) + 1 by omega]
    simp only [List.getElem?_cons_succ]
    rw [List.getElem?_append_left hl]
    exact hj
theorem sizeT : (Tryd.prog.info? 46).map (·.size) = some 25 := by kernel_rfl
def comB (lk gn : Int) (x : List UInt8) (P : Int) (gr : Bool) (lk' gn' : Int) (y : List UInt8) (P' : Int) : Bool := (((lk' == lk) && (gn' == gn)) && (P' == P)) && (gr || (y == x))
set_option maxRecDepth 100000 in
set_option maxHeartbeats 4000000 in
theorem comes_e (T : Array Value) (S : ByteArray) (ty lk gn : Int) (x : List UInt8) (D P : Int) (st gr : Bool) (hT : TrOk T S ty lk gn x D P st gr) (hx : x.length = 16) (lk' gn' P' : Int) (y : List UInt8) (hy : y.length = 16) (w : World) :
    Calls Tryd.prog 37 #[.agg T, .int .i64 lk', .int .i64 gn', .agg (bvs y).toArray, .int .i64 P'] w fun e w' => e = .returned (.bool (comB lk gn x P gr lk' gn' y P')) ∧ Below w.heap.size w w' := by
  have hG : ((w.alloc (.cells T 46)).alloc (.cells (bvs y).toArray 32)).heap[w.heap.size]? = some (.cells T 46 (0, 0)) := heap_two w _ _
  have hY : ((w.alloc (.cells T 46)).alloc (.cells (bvs y).toArray 32)).heap[w.heap.size + 1]? = some (.cells (bvs y).toArray 32 (0, 0)) := by
    have := heap_alloc_last (w.alloc (.cells T 46)) (.cells (bvs y).toArray 32)
    rwa [World.size_alloc] at this
  have hB : Below w.heap.size w ((w.alloc (.cells T 46)).alloc (.cells (bvs y).toArray 32)) := ((Below.refl _ w).alloc (Nat.le_refl _) _).alloc (by simp) _
  have d2 := (cell_of_row _ w.heap.size 2 _ _ _ hG).trans hT.c2
  have d3 := (cell_of_row _ w.heap.size 3 _ _ _ hG).trans hT.c3
  have d21 := (cell_of_row _ w.heap.size 21 _ _ _ hG).trans hT.c21
  have d23 := (cell_of_row _ w.heap.size 23 _ _ _ hG).trans hT.c23
  have HX := Lib.hid (cells_sub hG hT.ad)
  have HY := Lib.hid hY
  have HB := Lib.hid hB
  have SX := Lib.hid (sizeBv hx)
  have SY := Lib.hid (sizeBv hy)
  have HQ := Lib.hid (fun W => eq_addr 9998 W hy hx)
  have GQ := Lib.hid eqGuardAddr
  unfold comB
  clear hY hB hG hT hx hy
  revert HX HY HB SX SY HQ d2 d3 d21 d23
  generalize (bvs x).toArray = X
  generalize (bvs y).toArray = Y
  generalize (y == x) = q
  intro d2 d3 d21 d23 HX HY HB SX SY HQ
  by_cases h1 : lk' = lk
  · by_cases h2 : gn' = gn
    · by_cases h3 : P' = P
      · cases gr with
        | false =>
          have e1 : (lk' == lk) = true := by simp [h1]
          have e2 : (gn' == gn) = true := by simp [h2]
          have e3 : (P' == P) = true := by simp [h3]
          go_enter Tryd.func37, Tryd.ntmps37
          go_wp2_with (first
            | (refine wpList_row_gh 32 (.tmp 8) (by kernel_rfl) rfl (w.heap.size + 1) rfl 32 Y (0, 0) _ HY.out Tryd.underlying32 rfl SY.out ?_; go_simp)
            | (refine wpList_load_agg_gh (by kernel_rfl) 32 (.tmp 32) rfl ⟨w.heap.size, 4, none⟩ rfl X _ HX.out Tryd.underlying32 rfl SX.out ?_; go_simp)
            | (refine wpList_eql_agg_gh (by kernel_rfl) 32 (.tmp 31) (.tmp 33) 32 rfl Y X q rfl rfl GQ.out (HQ.out _) ?_; go_simp))
          go_ret
          exact ⟨by simp [h1, h2, h3], HB.out⟩
        | true =>
          have e1 : (lk' == lk) = true := by simp [h1]
          have e2 : (gn' == gn) = true := by simp [h2]
          have e3 : (P' == P) = true := by simp [h3]
          go_enter Tryd.func37, Tryd.ntmps37
          go_wp2_with fail
          go_ret
          exact ⟨by simp [h1, h2, h3], HB.out⟩
      · have e1 : (lk' == lk) = true := by simp [h1]
        have e2 : (gn' == gn) = true := by simp [h2]
        have e3 : (P' == P) = false := by simp [h3]
        go_enter Tryd.func37, Tryd.ntmps37
        go_wp2_with fail
        go_ret
        exact ⟨by simp [h1, h2, h3], HB.out⟩
    · have e1 : (lk' == lk) = true := by simp [h1]
      have e2 : (gn' == gn) = false := by simp [h2]
      go_enter Tryd.func37, Tryd.ntmps37
      go_wp2_with fail
      go_ret
      exact ⟨by simp [h1, h2], HB.out⟩
  · have e1 : (lk' == lk) = false := by simp [h1]
    go_enter Tryd.func37, Tryd.ntmps37
    go_wp2_with fail
    go_ret
    exact ⟨by simp [h1], HB.out⟩
def ansB (S : ByteArray) (ty D : Int) (rp : Bool) (id : Int) (qn : ByteArray) (qt : Int) : Bool := (rp && (id == D)) && ((qn.toList == S.toList) && (qt == ty))
theorem eq_q (a b : ByteArray) (x y : Int) (w : World) : (Op.equalIn 10000 26 (.agg #[.string a, .int .i64 x]) (.agg #[.string b, .int .i64 y])).run Tryd.prog w = .ok ((a.toList == b.toList) && (x == y)) w := by
  have hf : Tryd.prog.underlying 26 = some (.struct (Tryd.prog.fieldsOf 26)) := by kernel_rfl
  rw [show 10000 = 9999 + 1 from rfl, run_equalIn_agg w 9999 26 _ _ hf (by kernel_rfl)]
  have hfs : (Tryd.prog.fieldsOf 26).toList.map (fun f => (f.name != "_", f.type, f.offset)) = [(true, 9, 0), (true, 3, 1)] := by kernel_rfl
  generalize (Tryd.prog.fieldsOf 26).toList = fs at hfs ⊢
  have hl : fs.length = 2 := by simpa using congrArg List.length hfs
  revert hfs
  match fs, hl with
  | [f0, f1], _ =>
    intro hfs
    simp only [List.map_cons, List.map_nil, List.cons.injEq, Prod.mk.injEq, bne_iff_ne, and_true] at hfs
    obtain ⟨⟨n0, t0, o0⟩, ⟨n1, t1, o1⟩⟩ := hfs
    rw [show 9999 = 9998 + 1 from rfl, eqf_str 9998 w n0 t0 (by rw [o0]; rfl) (by rw [o0]; rfl), eqf_int 9998 w n1 t1 (by rw [o1]; rfl) (by rw [o1]; rfl)]
    simp only [Op.eqFields, Sem.run_pure]
    generalize (a.toList == b.toList) = b0
    generalize (x == y) = b1
    cases b0 <;> cases b1 <;> rfl
theorem q_cells {W : World} {g off : Nat} {C : Array Value} {t : TypeId} {S : ByteArray} {ty : Int} (h : W.heap[g]? = some (.cells C t (0, 0))) (h0 : C[off]? = some (.string S)) (h1 : C[off + 1]? = some (.int .i64 ty)) :
    ∀ j v, (#[Value.string S, .int .i64 ty] : Array Value).toList[j]? = some v → W.cell? ((⟨g, off, none⟩ : Addr).add j) = some v := fun j v hj => by
  have hl : j < 2 := (List.getElem?_eq_some_iff.1 hj).1
  rw [Addr.add_lit]
  refine (cell_of_row W g (off + j) _ _ _ h).trans ?_
  rcases (show j = 0 ∨ j = 1 by omega) with rfl | rfl
  · exact h0.trans hj
  · exact h1.trans hj
set_option maxRecDepth 100000 in
set_option maxHeartbeats 4000000 in
theorem answered_e (T : Array Value) (S : ByteArray) (ty lk gn : Int) (x : List UInt8) (D P : Int) (st gr : Bool) (hT : TrOk T S ty lk gn x D P st gr) (m : MV) (w : World) :
    Calls Tryd.prog 38 #[.agg T, .agg m.cells] w fun e w' => e = .returned (.bool (ansB S ty D m.rp m.id m.qn m.qt)) ∧ Below w.heap.size w w' := by
  have hG : ((w.alloc (.cells T 46)).alloc (.cells m.cells 29)).heap[w.heap.size]? = some (.cells T 46 (0, 0)) := heap_two w _ _
  have hY : ((w.alloc (.cells T 46)).alloc (.cells m.cells 29)).heap[w.heap.size + 1]? = some (.cells m.cells 29 (0, 0)) := by
    have := heap_alloc_last (w.alloc (.cells T 46)) (.cells m.cells 29)
    rwa [World.size_alloc] at this
  have HB : Hid (Below w.heap.size w ((w.alloc (.cells T 46)).alloc (.cells m.cells 29))) := Lib.hid (((Below.refl _ w).alloc (Nat.le_refl _) _).alloc (by simp) _)
  have d20 := (cell_of_row _ w.heap.size 20 _ _ _ hG).trans hT.c20
  have e0 : _ = some (Value.int .i64 m.id) := (cell_of_row _ (w.heap.size + 1) 0 _ _ _ hY).trans rfl
  have e1 : _ = some (Value.bool m.rp) := (cell_of_row _ (w.heap.size + 1) 1 _ _ _ hY).trans rfl
  have HX := Lib.hid (q_cells (off := 0) hG hT.c0 hT.c1)
  have HY := Lib.hid (q_cells (off := 5) (S := m.qn) (ty := m.qt) hY rfl rfl)
  have HQ := Lib.hid (fun W => eq_q m.qn S m.qt ty W)
  have HEQ := Lib.hid eqg_q4
  have SQ := Lib.hid sizeQ
  unfold ansB
  clear hY hG hT
  revert d20 e0 e1 HB HX HY HQ
  generalize ((m.qn.toList == S.toList) && (m.qt == ty)) = q
  generalize m.cells = MC
  generalize m.id = id
  generalize m.rp = rp
  intro HB d20 e0 e1 HX HY HQ
  cases rp with
  | false =>
    go_enter Tryd.func38, Tryd.ntmps38
    go_wp2_with fail
    go_ret
    exact ⟨by simp, HB.out⟩
  | true =>
    by_cases h1 : id = D
    · have f1 : (id == D) = true := by simp [h1]
      go_enter Tryd.func38, Tryd.ntmps38
      go_wp2_with (first
        | (refine wpList_load_agg_gh (by kernel_rfl) 26 (.tmp 15) rfl ⟨w.heap.size + 1, 5, none⟩ rfl #[.string m.qn, .int .i64 m.qt] _ HY.out Tryd.underlying26 rfl SQ.out ?_; go_simp)
        | (refine wpList_load_agg_gh (by kernel_rfl) 26 (.tmp 17) rfl ⟨w.heap.size, 0, none⟩ rfl #[.string S, .int .i64 ty] _ HX.out Tryd.underlying26 rfl SQ.out ?_; go_simp)
        | (refine wpList_eql_agg_gh (by kernel_rfl) 26 (.tmp 16) (.tmp 18) 26 rfl #[.string m.qn, .int .i64 m.qt] #[.string S, .int .i64 ty] q rfl rfl HEQ.out (HQ.out _) ?_; go_simp))
      go_ret
      exact ⟨by simp, HB.out⟩
    · have f1 : (id == D) = false := by simp [h1]
      go_enter Tryd.func38, Tryd.ntmps38
      go_wp2_with fail
      go_ret
      exact ⟨by simp, HB.out⟩
end Go.Proofs.YtmijoidogjablaaDoor
namespace Go.Proofs.YtmijoidogjablaaDoor
open Go.RowKit

theorem wpList_build_ghd {P : Program} {ops : Array Oper} {rest : List Oper} {o : Oper} {a : Act} {Q : Exit → Act → World → Prop} {w : World} (hw : Region.wanted o (yielded ops a.tmps) = true) (t : TypeId) (parts : Array (Nat × Operand)) (ho : o.op = .build t parts)
    (vals : List (Nat × Value)) (cs : Array Value) (hf : P.built t vals = some cs) (hv : parts.toList.map (fun (i, x) => (i, a.eval x)) = vals)
    (h : wpList P ops Q rest (a.put o.dst (.agg cs)) w) : wpList P ops Q (o :: rest) a w := by
  subst hv
  unfold wpList
  rw [if_pos hw]
  left
  have e : (P.built t (parts.map fun (i, x) => (i, a.eval x)).toList) = some cs := by rw [Array.toList_map]; exact hf
  refine wp_build t parts ho (by rw [e]; rfl) ?_
  rw [e]
  exact h
theorem RecsAt.past {w w' : World} {A : Option Addr} {rs : List RV} {g : Nat} (h : RecsAt w A rs) (hz : w.heap[g]? = some (.cells zMsg 29 (0, 0))) (hg : w.grownBy w' (some g)) : RecsAt w' A rs := fun h0 => by
  obtain ⟨b, o, rfl, hlt, hc⟩ := h h0
  have hne : b ≠ g := by
    rintro rfl
    obtain ⟨r, hr⟩ : ∃ r, rs[0]? = some r := ⟨_, List.getElem?_eq_getElem h0⟩
    have c0 := hc 0 r hr 0 _ (by rw [Array.getElem?_toList]; exact r.c0)
    have c2 := hc 0 r hr 2 _ (by rw [Array.getElem?_toList]; exact r.c2)
    rw [Addr.add_lit, cell_of_row w b _ _ _ _ hz] at c0 c2
    simp only [Nat.zero_mul, Nat.add_zero] at c0 c2
    have hl : o < 9 := (Array.getElem?_eq_some_iff.1 c0).1
    rcases (show o = 0 ∨ o = 1 ∨ o = 2 ∨ o = 3 ∨ o = 4 ∨ o = 5 ∨ o = 6 ∨ o = 7 ∨ o = 8 by omega) with rfl | rfl | rfl | rfl | rfl | rfl | rfl | rfl | rfl
    all_goals first
      | (have c : some _ = some (Value.string r.nm) := c0; injection c with c; cases c; done)
      | (have c : some _ = some (Value.int .i64 r.ttl) := c2; injection c with c; cases c)
  refine ⟨b, o, rfl, Nat.lt_of_lt_of_le hlt hg.size, fun k r hr j v hv => ?_⟩
  have h1 := hc k r hr j v hv
  rw [Addr.add_lit] at h1 ⊢
  exact (World.cell?_of_block (a := ⟨b, o + k * 21 + j, none⟩) (hg.block b hlt (fun e => by injection e with e; exact hne e))).trans h1
theorem MV.Lies.past {w w' : World} {m : MV} {g : Nat} (h : m.Lies w) (hz : w.heap[g]? = some (.cells zMsg 29 (0, 0))) (hg : w.grownBy w' (some g)) : m.Lies w' := ⟨h.an.past hz hg, h.au.past hz hg⟩
def okM (cm : Bool) (S : ByteArray) (ty D : Int) : Option MV → Bool
  | none => false
  | some m => cm && ansB S ty D m.rp m.id m.qn m.qt
/-- what Match answers -/
def MatP (w : World) (b : Bool) (o : Option MV) (e : Ending) (w' : World) : Prop :=
  Below w.heap.size w w' ∧ ((b = false ∧ e = .returned (.tuple #[.agg zMsg, .bool false])) ∨ (b = true ∧ ∃ m : MV, o = some m.nrm ∧ m.Fits ∧ m.Lies w' ∧ e = .returned (.tuple #[.agg m.cells, .bool true])))
/-- the blocks that Match makes, as they stand -/
structure MtAt (w W : World) (T Y : Array Value) : Prop where
  t : W.heap[w.heap.size]? = some (.cells T 46 (0, 0))
  y : W.heap[w.heap.size + 1]? = some (.cells Y 32 (0, 0))
  z : W.heap[w.heap.size + 2]? = some (.cells zMsg 29 (0, 0))
  below : Below w.heap.size w W
theorem MtAt.to {w W W' : World} {T Y : Array Value} (h : MtAt w W T Y) (hb : Below W.heap.size W W') : MtAt w W' T Y :=
  ⟨(hb.block _ (heap_lt h.t)).trans h.t, (hb.block _ (heap_lt h.y)).trans h.y, (hb.block _ (heap_lt h.z)).trans h.z, h.below.trans (hb.mono h.below.size)⟩
set_option maxRecDepth 100000 in
set_option maxHeartbeats 8000000 in
theorem match_e (T : Array Value) (S : ByteArray) (ty lk gn : Int) (x : List UInt8) (D P : Int) (st gr : Bool) (hT : TrOk T S ty lk gn x D P st gr) (hx : x.length = 16) (lk' gn' P' : Int) (y : List UInt8) (hy : y.length = 16) (A : Option Addr) (n c : Nat) (o : Option MV) (w : World)
    (HD : ∀ W, Below w.heap.size w W → Calls Tryd.prog 14 #[.slice A n c] W (DecN o W)) :
    Calls Tryd.prog 20 #[.agg T, .int .i64 lk', .int .i64 gn', .agg (bvs y).toArray, .int .i64 P', .slice A n c] w (MatP w (okM (comB lk gn x P gr lk' gn' y P') S ty D o) o) := by
  have HCo := Lib.hid (fun W => comes_e T S ty lk gn x D P st gr hT hx lk' gn' P' y hy W)
  have HAn := Lib.hid (fun m W => answered_e T S ty lk gn x D P st gr hT m W)
  have HDe := Lib.hid HD
  have ST : Hid ((Tryd.prog.info? 46).map (·.size) = some T.size) := Lib.hid (by rw [hT.size]; exact sizeT)
  have SY := Lib.hid (sizeBv hy)
  have ZM := Lib.hid zeroM
  have BZ := Lib.hid zeroBuilt
  have OZ := Lib.hid oneZ
  have SZ : Hid ((Tryd.prog.info? 29).map (·.size) = some zMsg.size) := Lib.hid sizeM
  clear HD hT hx hy
  revert HCo SY
  generalize (bvs y).toArray = Y
  generalize comB lk gn x P gr lk' gn' y P' = cm
  intro HCo SY
  have HM0 : Hid (MtAt w (((w.alloc (.cells T 46)).alloc (.cells Y 32)).alloc (.cells zMsg 29)) T Y) := Lib.hid (by
    refine ⟨(Below.heap_alloc _ _ _ (by simp; omega)).trans (heap_two w _ _), (Below.heap_alloc _ _ _ (by simp)).trans ?_, ?_, (((Below.refl _ w).alloc (Nat.le_refl _) _).alloc (by simp) _).alloc (by simp; omega) _⟩
    · have := heap_alloc_last (w.alloc (.cells T 46)) (.cells Y 32)
      rwa [World.size_alloc] at this
    · have := heap_alloc_last ((w.alloc (.cells T 46)).alloc (.cells Y 32)) (.cells zMsg 29)
      rwa [World.size_alloc, World.size_alloc] at this)
  go_enter Tryd.func20, Tryd.ntmps20
  go_wp2_with (first
    | (refine wpList_alloc_z rfl 29 rfl zMsg ZM.out ?_; go_simp)
    | (refine wpList_load_row rfl 46 (.tmp 6) rfl w.heap.size rfl 46 T (0, 0) _ HM0.out.t Tryd.underlying46 rfl ST.out ?_; go_simp)
    | (refine wpList_load_row rfl 32 (.tmp 9) rfl (w.heap.size + 1) rfl 32 Y (0, 0) _ HM0.out.y Tryd.underlying32 rfl SY.out ?_; go_simp))
  refine (HCo.out _).mono ?_
  rintro e w1 ⟨rfl, hb1⟩
  have HM1 := Lib.hid (HM0.out.to hb1)
  clear hb1 HM0
  cases cm with
  | false =>
    go_wp2_with (first
      | (refine wpList_build_ghd rfl 29 #[] rfl [] zMsg BZ.out rfl ?_; go_simp)
      | (refine wpList_store_blk rfl 29 (.tmp 12) (.tmp 23) rfl (w.heap.size + 2) zMsg zMsg 29 HM1.out.z rfl rfl SZ.out rfl OZ.out ?_; intro w2 hg2 hw2 hz2; go_simp))
    exact bodyPost_ret (results_cell_tmp rfl _ w2 (w.heap.size + 2) 29 zMsg (0, 0) _ rfl hg2.out Tryd.underlying29 rfl SZ.out) rfl ⟨HM1.out.below.grown hw2.out HM1.out.below.size (fun k e => by injection e with e; omega), .inl ⟨by cases o <;> rfl, rfl⟩⟩
  | true =>
    go_wp2_with fail
    refine (HDe.out w1 HM1.out.below).mono ?_
    rintro e w2 ⟨hb2, ⟨rfl, rfl⟩ | ⟨m, rfl, hok, hfit, hlie, rfl⟩⟩
    · have HM2 := Lib.hid (HM1.out.to hb2)
      have HM3 : Hid (MtAt w (w2.alloc (.cells zMsg 29)) T Y) := Lib.hid (HM2.out.to ((Below.refl _ w2).alloc (Nat.le_refl _) _))
      clear hb2 HM1
      go_wp2_with (first
        | (refine wpList_alloc_z rfl 29 rfl zMsg ZM.out ?_; go_simp)
        | (refine wpList_store_new rfl 29 (.tmp 14) (.tmp 27) rfl w2.heap.size rfl zMsg zMsg 29 rfl rfl SZ.out rfl OZ.out ?_; go_simp)
        | (refine wpList_build_ghd rfl 29 #[] rfl [] zMsg BZ.out rfl ?_; go_simp)
        | (refine wpList_store_blk rfl 29 (.tmp 12) (.tmp 37) rfl (w.heap.size + 2) zMsg zMsg 29 HM3.out.z rfl rfl SZ.out rfl OZ.out ?_; intro w4 hg4 hw4 hz4; go_simp))
      exact bodyPost_ret (results_cell_tmp rfl _ w4 (w.heap.size + 2) 29 zMsg (0, 0) _ rfl hg4.out Tryd.underlying29 rfl SZ.out) rfl ⟨HM3.out.below.grown hw4.out HM3.out.below.size (fun k e => by injection e with e; omega), .inl ⟨rfl, rfl⟩⟩
    · have HM2 := Lib.hid (HM1.out.to hb2)
      have HM3 : Hid (MtAt w (w2.alloc (.cells m.cells 29)) T Y) := Lib.hid (HM2.out.to ((Below.refl _ w2).alloc (Nat.le_refl _) _))
      have HL3 : Hid (m.Lies (w2.alloc (.cells m.cells 29))) := Lib.hid (hlie.below ((Below.refl _ w2).alloc (Nat.le_refl _) _))
      have HG3 := Lib.hid (heap_alloc_last w2 (.cells m.cells 29))
      have HF := Lib.hid hfit
      have SM : Hid ((Tryd.prog.info? 29).map (·.size) = some m.cells.size) := Lib.hid sizeM
      have ZC : Hid (zMsg.size = m.cells.size) := Lib.hid rfl
      have OM := Lib.hid (MV.one m)
      have HAm := Lib.hid (HAn.out m)
      have HEqB : Hid (okM true S ty D (some m.nrm) = ansB S ty D m.rp m.id m.qn m.qt) := Lib.hid (Bool.true_and _)
      have HLg := Lib.hid (fun (W W' : World) (h : m.Lies W) (hz : W.heap[w.heap.size + 2]? = some (.cells zMsg 29 (0, 0))) (hg : W.grownBy W' (some (w.heap.size + 2))) => h.past hz hg)
      clear hb2 HM1 hok hfit hlie
      revert HEqB HAm
      generalize ansB S ty D m.rp m.id m.qn m.qt = q
      intro HAm HEqB
      revert HM3 HL3 HG3 SM ZC OM HAm
      generalize hmc : m.cells = MC
      intro HM3 HL3 HG3 SM ZC OM HAm
      have HMC := Lib.hid hmc
      clear hmc
      go_wp2_with (first
        | (refine wpList_alloc_z rfl 29 rfl zMsg ZM.out ?_; go_simp)
        | (refine wpList_store_new rfl 29 (.tmp 14) (.tmp 27) rfl w2.heap.size rfl zMsg MC 29 rfl rfl SM.out ZC.out OM.out ?_; go_simp)
        | (refine wpList_row_gh 46 (.tmp 6) (by kernel_rfl) rfl w.heap.size rfl 46 T (0, 0) _ HM3.out.t Tryd.underlying46 rfl ST.out ?_; go_simp)
        | (refine wpList_row_gh 29 (.tmp 14) (by kernel_rfl) rfl w2.heap.size rfl 29 MC (0, 0) _ HG3.out Tryd.underlying29 rfl SM.out ?_; go_simp))
      refine (HAm.out _).mono ?_
      rintro e w4 ⟨rfl, hb4⟩
      have HM4 := Lib.hid (HM3.out.to hb4)
      have HL4 := Lib.hid (HL3.out.below hb4)
      have HG4 := Lib.hid ((hb4.block _ (heap_lt HG3.out)).trans HG3.out)
      clear hb4 HM3 HL3 HG3
      cases q with
      | false =>
        go_wp2_with (first
          | (refine wpList_build_ghd rfl 29 #[] rfl [] zMsg BZ.out rfl ?_; go_simp)
          | (refine wpList_store_blk rfl 29 (.tmp 12) (.tmp 37) rfl (w.heap.size + 2) zMsg zMsg 29 HM4.out.z rfl rfl SZ.out rfl OZ.out ?_; intro w5 hg5 hw5 hz5; go_simp))
        exact bodyPost_ret (results_cell_tmp rfl _ w5 (w.heap.size + 2) 29 zMsg (0, 0) _ rfl hg5.out Tryd.underlying29 rfl SZ.out) rfl ⟨HM4.out.below.grown hw5.out HM4.out.below.size (fun k e => by injection e with e; omega), .inl ⟨HEqB.out, rfl⟩⟩
      | true =>
        go_wp2_with (first
          | (refine wpList_load_row rfl 29 (.tmp 14) rfl w2.heap.size rfl 29 MC (0, 0) _ HG4.out Tryd.underlying29 rfl SM.out ?_; go_simp)
          | (refine wpList_store_blk rfl 29 (.tmp 12) (.tmp 38) rfl (w.heap.size + 2) zMsg MC 29 HM4.out.z rfl rfl SM.out ZC.out OM.out ?_; intro w5 hg5 hw5 hz5; go_simp))
        exact bodyPost_ret (results_cell_tmp rfl _ w5 (w.heap.size + 2) 29 MC (0, 0) _ rfl hg5.out Tryd.underlying29 rfl SM.out) rfl ⟨HM4.out.below.grown hw5.out HM4.out.below.size (fun k e => by injection e with e; omega), .inr ⟨HEqB.out, m, rfl, HF.out, HLg.out w4 w5 HL4.out HM4.out.z hw5.out, by rw [HMC.out]; rfl⟩⟩
end Go.Proofs.YtmijoidogjablaaDoor
namespace Go.Proofs.YtmijoidogjablaaDoor
open Go.RowKit

def ad15 (x : UInt8) : List UInt8 := [0, 0, 0, 0, 0, 0, 0, 0, 0, 0, 0, 0, 0, 0, 0, x]
theorem zeroT : (Tryd.prog.info? 46).map (·.zero) = some (some (.agg (trC emp 0 0 0 zero16 0 0 false false 0))) := by kernel_rfl
theorem builtA (k : Int) : Tryd.prog.built 32 [(15, .int .u8 k)] = some #[.int .u8 0, .int .u8 0, .int .u8 0, .int .u8 0, .int .u8 0, .int .u8 0, .int .u8 0, .int .u8 0, .int .u8 0, .int .u8 0, .int .u8 0, .int .u8 0, .int .u8 0, .int .u8 0, .int .u8 0, .int .u8 k] := by kernel_rfl
theorem builtT (S : ByteArray) (ty lk gn D P : Int) (gr : Bool) (x : UInt8) : Tryd.prog.built 46 [(0, .agg #[.string S, .int .i64 ty]), (1, .int .i64 lk), (2, .int .i64 gn), (3, .agg (bvs (ad15 x)).toArray), (4, .int .i64 D), (5, .int .i64 P), (7, .bool gr)] = some (trC S ty lk gn (ad15 x) D P false gr 0) := by kernel_rfl
set_option maxRecDepth 100000 in
set_option maxHeartbeats 4000000 in
theorem build_e (n : Int) (group : Bool) (i t lk gn D : Nat) (x : UInt8) (hi : i ≤ 7) (hiB : bits BinOp.and IntKind.i64 n 7 = (i : Int)) (ht : t ≤ 1) (htB : bits BinOp.and IntKind.i64 (n / 8) 1 = (t : Int)) (hlB : bits BinOp.and IntKind.i64 n 3 = (lk : Int)) (hgB : bits BinOp.and IntKind.i64 (n / 4) 3 = (gn : Int))
    (hxB : IntKind.u8.wrap n = (x.toNat : Int)) (hDB : bits BinOp.and IntKind.i64 n 65535 = (D : Int)) (w : World) :
    Calls Tryd.prog 19 #[.int .i64 n, .bool group] w fun e w' => e = .returned (.agg (trC (bs (plN i)) (1 + (t : Int)) lk gn (ad15 x) D (drP n : Nat) false group 0)) ∧ Below w.heap.size w w' := by
  have HN := Lib.hid (fun W => name4_e n i hi hiB W)
  have HDr := Lib.hid (fun W => draw_e n D hDB W)
  have ZT := Lib.hid zeroT
  have BT := Lib.hid (builtT (bs (plN i)) (1 + (t : Int)) lk gn D (drP n : Nat) group x)
  have BA := Lib.hid (show Tryd.prog.built 32 [(15, .int .u8 (x.toNat : Int))] = some (bvs (ad15 x)).toArray from builtA _)
  have OK := trC_ok (bs (plN i)) (1 + (t : Int)) lk gn (ad15 x) D (drP n : Nat) false group 0 rfl
  have SX : Hid ((Tryd.prog.info? 46).map (·.size) = some (trC (bs (plN i)) (1 + (t : Int)) lk gn (ad15 x) D (drP n : Nat) false group 0).size) := Lib.hid (by rw [OK.size]; exact sizeT)
  have OX := Lib.hid OK.one
  have ZX : Hid ((trC emp 0 0 0 zero16 0 0 false false 0).size = (trC (bs (plN i)) (1 + (t : Int)) lk gn (ad15 x) D (drP n : Nat) false group 0).size) := Lib.hid (by rw [OK.size]; rfl)
  clear OK hDB hiB hi
  generalize bs (plN i) = S at HN BT SX OX ZX ⊢
  generalize drP n = P at HDr BT SX OX ZX ⊢
  generalize trC S (1 + (t : Int)) lk gn (ad15 x) D (P : Nat) false group 0 = R at BT SX OX ZX ⊢
  generalize trC emp 0 0 0 zero16 0 0 false false 0 = Z at ZT ZX
  generalize (bvs (ad15 x)).toArray = AX at BT BA
  go_enter Tryd.func19, Tryd.ntmps19
  go_wp2_with (first
    | (refine wpList_alloc_z rfl 46 rfl Z ZT.out ?_; go_simp)
    | (go_at_call 22; refine (HDr.out _).mono ?_; rintro e w1 ⟨rfl, rfl⟩; go_simp))
  go_wp2_with (first
    | (go_at_call 25; refine (HN.out _).mono ?_; rintro e w1 ⟨rfl, hb1⟩; have HB1 : Hid (Below w.heap.size w w1) := Lib.hid (((Below.refl _ w).alloc (Nat.le_refl _) _).trans (hb1.mono (by simp))); have HZ1 := Lib.hid ((hb1.block w.heap.size (by simp)).trans (heap_alloc_last w _)); clear hb1; go_simp)
    | (refine wpList_build_v rfl 32 #[(15, .tmp 25)] rfl _ AX BA.out rfl ?_; go_simp)
    | (refine wpList_build_v rfl 46 #[(0, .tmp 18), (1, .tmp 20), (2, .tmp 23), (3, .tmp 26), (4, .tmp 27), (5, .tmp 28), (7, .tmp 29)] rfl _ R BT.out rfl ?_; go_simp)
    | (refine wpList_store_blk rfl 46 (.tmp 4) (.tmp 30) rfl w.heap.size Z R 46 HZ1.out rfl rfl SX.out ZX.out OX.out ?_; intro w2 hg2 hw2 hz2; go_simp))
  exact bodyPost_ret (results_cell_row rfl _ w2 w.heap.size 46 R (0, 0) _ rfl hg2.out Tryd.underlying46 rfl SX.out) rfl ⟨rfl, HB1.out.grown hw2.out HB1.out.size (fun k e => by injection e with e; omega)⟩
end Go.Proofs.YtmijoidogjablaaDoor
namespace Go.Proofs.YtmijoidogjablaaDoor
open Go.RowKit

theorem encRs_len : ∀ (l : List RV) (pos : Nat) (st : St), (∀ r ∈ l, ROk r) → (encRs pos st (l.map RV.rec_)).1.length ≤ 600 * l.length
  | [], _, _, _ => by simp [encRs]
  | r :: l, pos, st, h => by
    have hr := h r (by simp)
    have h1 := recR_len hr pos st
    rw [recR_enc hr.d.ty] at h1
    rw [List.map_cons]
    unfold encRs
    have h2 := encRs_len l (pos + (encR pos st r.rec_).1.length) (encR pos st r.rec_).2 (fun x hx => h x (List.mem_cons_of_mem _ hx))
    rw [List.length_append, List.length_cons]
    omega
theorem enc_len {m : MV} (h : mvOk m = true) (hf : m.Fits) : (enc m.msg).length ≤ 40000 ∧ 12 ≤ (enc m.msg).length := by
  have p := mv_parts h
  have h1 := encRs_len m.an (12 + (encA m.msg).1.length) (encA m.msg).2 (fun r hr => rOk_of (hf.an r hr).ad (p.an r hr))
  have h2 := encRs_len m.au (12 + (encA m.msg).1.length + (encB m.msg).1.length) (encB m.msg).2 (fun r hr => rOk_of (hf.au r hr).ad (p.au r hr))
  have h3 : (encA m.msg).1.length ≤ 260 := encQ_len (s := m.qn) p.qn 12 _ _
  have e1 : (encB m.msg).1.length ≤ 600 * m.an.length := h1
  have e2 : (encC m.msg).1.length ≤ 600 * m.au.length := h2
  have la := p.la
  have lu := p.lu
  unfold enc
  rw [List.length_append, List.length_append, List.length_append, head_len]
  omega
/-- what Encode answers: bytes of its own -/
structure EncIs (W w' : World) (m : MV) (gb cap : Nat) : Prop where
  le : (enc m.msg).length ≤ cap
  hb : W.heap.size ≤ gb
  lt : gb < w'.heap.size
  inB : InB w' w'.heap.size (some ⟨gb, 0, none⟩) (enc m.msg)
  own : w'.ownsRow W.heap.size 5 1 (.slice (some ⟨gb, 0, none⟩) (enc m.msg).length cap) (enc m.msg).length (bvs (enc m.msg))
  below : Below W.heap.size W w'
theorem encode_again (m : MV) (h : m.Again) (W : World) (hW : Env W) (hl : m.Lies W) : Calls Tryd.prog 15 #[.agg m.cells] W fun e w' => ∃ gb cap, e = .returned (.slice (some ⟨gb, 0, none⟩) (enc m.msg).length cap) ∧ EncIs W w' m gb cap := by
  refine (encode_any m h.fits W hW hl h.ok).mono ?_
  rintro e w' ⟨gb, cap, rfl, h2, h3⟩
  obtain ⟨_, h12⟩ := enc_len h.ok h.fits
  obtain ⟨hl, hcap, hin, _⟩ := enc_inB h2 (by omega)
  exact ⟨gb, cap, rfl, hcap, (h2.lt gb rfl).1, hl, hin, h2, h3⟩
theorem InB.to {w w1 : World} {A : Option Addr} {b : List UInt8} (h : InB w w.heap.size A b) (hb : Below w.heap.size w w1) : InB w1 w1.heap.size A b := fun h0 => by
  obtain ⟨bb, o, e, hlt, hc⟩ := h.below hb h0
  exact ⟨bb, o, e, Nat.lt_of_lt_of_le hlt hb.size, hc⟩
theorem decode_again (m : MV) (h : m.Again) (gb cap : Nat) (u : World) (hcap : (enc m.msg).length ≤ cap) (hin : InB u u.heap.size (some ⟨gb, 0, none⟩) (enc m.msg)) (W : World) (hb : Below u.heap.size u W) (hW : Env W) :
    Calls Tryd.prog 14 #[.slice (some ⟨gb, 0, none⟩) (enc m.msg).length cap] W (DecN (some m.nrm) W) := by
  obtain ⟨hl, _⟩ := enc_len h.ok h.fits
  refine (decode_enc m h [] gb cap (enc m.msg).length (by rw [List.append_nil]) W hW hcap (by omega) (by rw [List.append_nil]; exact hin.to hb)).mono ?_
  rintro e w' ⟨hb', m', hm, hf, hli, rfl⟩
  exact ⟨hb', .inr ⟨m', by rw [hm], (nrm_ok hm).trans h.ok, hf, hli, rfl⟩⟩
theorem match_again (T : Array Value) (S : ByteArray) (ty lk gn : Int) (x : List UInt8) (D P : Int) (st gr : Bool) (hT : TrOk T S ty lk gn x D P st gr) (hx : x.length = 16) (lk' gn' P' : Int) (y : List UInt8) (hy : y.length = 16)
    (m : MV) (h : m.Again) (gb cap : Nat) (u : World) (hcap : (enc m.msg).length ≤ cap) (hin : InB u u.heap.size (some ⟨gb, 0, none⟩) (enc m.msg)) (hu : Env u) (W : World) (hb : Below u.heap.size u W) :
    Calls Tryd.prog 20 #[.agg T, .int .i64 lk', .int .i64 gn', .agg (bvs y).toArray, .int .i64 P', .slice (some ⟨gb, 0, none⟩) (enc m.msg).length cap] W (MatP W (comB lk gn x P gr lk' gn' y P' && ansB S ty D m.rp m.id m.qn m.qt) (some m.nrm)) :=
  match_e T S ty lk gn x D P st gr hT hx lk' gn' P' y hy _ _ _ (some m.nrm) W (fun W' hb' => decode_again m h gb cap u hcap hin W' (hb.trans (hb'.mono hb.size)) ((hu.below hb).below hb'))
/-- a question's message -/
def qMV (D : Int) (rp rc : Bool) (S : ByteArray) (t : Int) : MV := ⟨D, rp, false, rc, 0, S, t, none, 0, [], none, 0, []⟩
theorem pl_gos : ∀ i : Fin 8, gosB (bs (plN i.val)) = true ∧ (sp (plN i.val)).length ≤ 16 := by decide +kernel
theorem qMV_again {D : Int} {rp rc : Bool} {i : Nat} {t : Int} (hD : 0 ≤ D ∧ D ≤ 65535) (hi : i ≤ 7) (ht : 1 ≤ t ∧ t ≤ 65535) : (qMV D rp rc (bs (plN i)) t).Again := by
  have h16 := (pl_ok ⟨i, by omega⟩).2.2.2.2.2
  have hg := pl_gos ⟨i, by omega⟩
  simp only at h16 hg
  refine ⟨?_, ⟨(by show (bs (plN i)).size ≤ _; rw [bs_size]; unfold maxLen; omega), (fun r hr => by cases hr), (fun r hr => by cases hr), (by show 0 ≤ _; omega), (by show 0 ≤ _; omega)⟩, hg.2, (fun r hr => by cases hr), (fun r hr => by cases hr)⟩
  unfold mvOk qMV
  simp only
  rw [hg.1, show btw 0 D 65535 = true from decide_eq_true hD, show btw 1 t 65535 = true from decide_eq_true ht]
  rfl
theorem qMV_lies (D : Int) (rp rc : Bool) (S : ByteArray) (t : Int) (W : World) : (qMV D rp rc S t).Lies W := ⟨fun h => absurd h (by show ¬ 0 < 0; omega), fun h => absurd h (by show ¬ 0 < 0; omega)⟩
theorem step_store_tr {P : Program} {ops : Array Oper} {o : Oper} {a : Act} {Q : Exit → Act → World → Prop} {w : World} {K : Act → World → Prop} {E : Prop} (hgd : o.guard = none) (ty : TypeId) (x y : Operand) (ho : o.op = .store ty x y) (g : Nat) (z cells : Array Value) (t : TypeId) (hg : w.heap[g]? = some (.cells z t (0, 0)))
    (hx : a.eval x = .pointer (some ⟨g, 0, none⟩)) (hy : a.eval y = .agg cells) (hi : (P.info? ty).map (·.size) = some cells.size) (hz : z.size = cells.size) (h1 : cells.all (·.oneCell') = true)
    (h : ∀ w', Hid (w'.heap[g]? = some (.cells cells t (0, 0))) → Hid (w.grownBy w' (some g)) → w'.heap.size = w.heap.size → K (a.put o.dst undef) w') : if Region.wanted o (yielded ops a.tmps) = true then Oper.wp P o a w K Q else E := by
  have hw : Region.wanted o (yielded ops a.tmps) = true := by simp [Region.wanted, hgd]
  rw [if_pos hw]
  exact wp_store_row ty x y ho g cells hx hy t z hg hi hz h1 (h _ (setRow_heap w g z cells t _ hg) ⟨rfl, rfl, rfl, by simp, fun k _ hk => setRow_other w g k cells (fun e => hk (by rw [e]))⟩ (by simp))
/-- what Match answers, by its message's cells -/
def MtR (b : Bool) (o : Option MV) (C : Array Value) (u : World) : Prop := (b = false ∧ C = zMsg) ∨ (b = true ∧ ∃ m : MV, o = some m.nrm ∧ m.Fits ∧ m.Lies u ∧ C = m.cells)
theorem MtR.to {b : Bool} {o : Option MV} {C : Array Value} {u u' : World} (h : MtR b o C u) (hb : Below u.heap.size u u') : MtR b o C u' := by
  rcases h with h | ⟨h, m, h1, h2, h3, h4⟩
  · exact .inl h
  · exact .inr ⟨h, m, h1, h2, h3.below hb, h4⟩
theorem MtR.past {b : Bool} {o : Option MV} {C : Array Value} {u u' : World} {g : Nat} (h : MtR b o C u) (hz : u.heap[g]? = some (.cells zMsg 29 (0, 0))) (hg : u.grownBy u' (some g)) : MtR b o C u' := by
  rcases h with h | ⟨h, m, h1, h2, h3, h4⟩
  · exact .inl h
  · exact .inr ⟨h, m, h1, h2, h3.past hz hg, h4⟩
theorem MtR.size {b : Bool} {o : Option MV} {C : Array Value} {u : World} (h : MtR b o C u) : C.size = 9 ∧ C.all (·.oneCell') = true := by
  rcases h with ⟨_, rfl⟩ | ⟨_, m, _, _, _, rfl⟩
  · exact ⟨rfl, oneZ⟩
  · exact ⟨rfl, MV.one m⟩
theorem MatP.flat {w w' : World} {b : Bool} {o : Option MV} {e : Ending} (h : MatP w b o e w') : ∃ C, e = .returned (.tuple #[.agg C, .bool b]) ∧ Below w.heap.size w w' ∧ MtR b o C w' := by
  obtain ⟨hb, ⟨rfl, rfl⟩ | ⟨rfl, m, h1, h2, h3, rfl⟩⟩ := h
  · exact ⟨_, rfl, hb, .inl ⟨rfl, rfl⟩⟩
  · exact ⟨_, rfl, hb, .inr ⟨rfl, m, h1, h2, h3, rfl⟩⟩
/-- what is made while an answer is told and matched: the bytes, the block that holds what is matched -/
structure EmAt (b : Bool) (o : Option MV) (W0 u : World) (e : Option World) (a : Option Nat) (c : Option (Array Value)) : Prop where
  below : Below W0.heap.size W0 u
  e : ∀ v, e = some v → Below v.heap.size v u
  a : ∀ g, a = some g → u.heap[g]? = some (.cells zMsg 29 (0, 0)) ∧ W0.heap.size ≤ g
  c : ∀ C, c = some C → MtR b o C u
section
variable {b : Bool} {o : Option MV} {W0 u u' : World} {e : Option World} {a : Option Nat} {c : Option (Array Value)}
theorem EmAt.to (h : EmAt b o W0 u e a c) (hb : Below u.heap.size u u') : EmAt b o W0 u' e a c :=
  ⟨h.below.trans (hb.mono h.below.size), fun v hv => (h.e v hv).trans (hb.mono (h.e v hv).size), fun g hg => ⟨(hb.block g (heap_lt (h.a g hg).1)).trans (h.a g hg).1, (h.a g hg).2⟩, fun x hx => (h.c x hx).to hb⟩
theorem EmAt.withE (h : EmAt b o W0 u none a c) : EmAt b o W0 u (some u) a c :=
  ⟨h.below, fun v hv => by injection hv with hv; subst hv; exact Below.refl _ _, h.a, h.c⟩
theorem EmAt.withA (h : EmAt b o W0 u e none c) : EmAt b o W0 (u.alloc (.cells zMsg 29)) e (some u.heap.size) c := by
  have h2 := h.to ((Below.refl _ u).alloc (Nat.le_refl _) (.cells zMsg 29))
  refine ⟨h2.below, h2.e, fun g hg => ?_, h2.c⟩
  injection hg with hg
  subst hg
  exact ⟨heap_alloc_last u _, h.below.size⟩
theorem EmAt.withM {C : Array Value} (h : EmAt b o W0 u e a none) (hl : MtR b o C u) : EmAt b o W0 u e a (some C) :=
  ⟨h.below, h.e, h.a, fun y hy => by injection hy with hy; subst hy; exact hl⟩
/-- all is made and stored -/
structure EmFin (b : Bool) (o : Option MV) (W0 wx : World) (g : Nat) (C : Array Value) : Prop where
  below : Below W0.heap.size W0 wx
  blk : wx.heap[g]? = some (.cells C 29 (0, 0))
  hg : W0.heap.size ≤ g
  r : MtR b o C wx
theorem EmAt.fin {C : Array Value} {g : Nat} (h : EmAt b o W0 u e (some g) (some C)) (hg : u'.heap[g]? = some (.cells C 29 (0, 0))) (hw : u.grownBy u' (some g)) : EmFin b o W0 u' g C :=
  ⟨h.below.grown hw h.below.size (fun k e => by injection e with e; have := (h.a g rfl).2; omega), hg, (h.a g rfl).2, (h.c C rfl).past (h.a g rfl).1 hw⟩
end
end Go.Proofs.YtmijoidogjablaaDoor
