/-
  The walk of trans.Send: the datagram of a question. Condition: the library's variable MaxLen holds some number.
-/
import Derived.Test.YtmijoidogjablaaDoorTrTm
namespace Go.Proofs.YtmijoidogjablaaDoor
open Go.RowKit

def seC (lk : Int) (x : List UInt8) (P : Int) (st : Bool) (v : Value) : Array Value := (.int .i64 lk :: (bvs x ++ [.int .i64 P, .bool st, v])).toArray
theorem sizeSe : (Tryd.prog.info? 52).map (·.size) = some 20 := by kernel_rfl
theorem zeroSe : (Tryd.prog.info? 52).map (·.zero) = some (some (.agg (seC 0 zero16 0 false (.slice none 0 0)))) := by kernel_rfl
theorem builtSe (lk P : Int) (x0 x1 x2 x3 x4 x5 x6 x7 x8 x9 xa xb xc xd xe xf : UInt8) (st : Bool) (A : Option Addr) (n c : Nat) : Tryd.prog.built 52 [(0, .int .i64 lk), (1, .agg (bvs [x0, x1, x2, x3, x4, x5, x6, x7, x8, x9, xa, xb, xc, xd, xe, xf]).toArray), (2, .int .i64 P), (3, .bool st), (4, .slice A n c)] = some (seC lk [x0, x1, x2, x3, x4, x5, x6, x7, x8, x9, xa, xb, xc, xd, xe, xf] P st (.slice A n c)) := by kernel_rfl
theorem builtSe' (lk P : Int) {x : List UInt8} (hx : x.length = 16) (st : Bool) (A : Option Addr) (n c : Nat) : Tryd.prog.built 52 [(0, .int .i64 lk), (1, .agg (bvs x).toArray), (2, .int .i64 P), (3, .bool st), (4, .slice A n c)] = some (seC lk x P st (.slice A n c)) := by
  obtain ⟨a, b, c, d, e, f, g, i, j, k, l, m, n, o, p, q, rfl⟩ := list16 hx
  exact builtSe ..
theorem builtSm (D : Int) (rc : Bool) (S : ByteArray) (t : Int) : Tryd.prog.built 29 [(0, .int .i64 D), (3, .bool rc), (5, .agg #[.string S, .int .i64 t])] = some (qMV D false rc S t).cells := by kernel_rfl
theorem seC_size {lk : Int} {x : List UInt8} (hx : x.length = 16) {P : Int} {st : Bool} {A : Option Addr} {n c : Nat} : (seC lk x P st (.slice A n c)).size = 20 := by unfold seC; simp [bvs_length, hx]
theorem seC_one {lk : Int} {x : List UInt8} {P : Int} {st : Bool} {A : Option Addr} {n c : Nat} : (seC lk x P st (.slice A n c)).all (·.oneCell') = true := by
  unfold seC
  rw [List.all_toArray, List.all_eq_true]
  intro v hv
  simp only [List.mem_cons, List.mem_append, List.not_mem_nil, or_false] at hv
  rcases hv with rfl | hv | rfl | rfl | rfl
  · rfl
  · exact bvs_one x v hv
  all_goals rfl
theorem seC_at {lk : Int} {x : List UInt8} (h : x.length = 16) {P : Int} {st : Bool} {v : Value} (j : Nat) : (seC lk x P st v)[17 + j]? = [Value.int .i64 P, .bool st, v][j]? := by
  unfold seC
  rw [List.getElem?_toArray, show 17 + j = (16 + j) + 1 by omega]
  simp only [List.getElem?_cons_succ]
  rw [List.getElem?_append_right (by rw [bvs_length, h]; omega), bvs_length, h, Nat.add_sub_cancel_left]
theorem seC_ad {lk : Int} {x : List UInt8} {P : Int} {st : Bool} {v : Value} : ∀ j u, (bvs x).toArray.toList[j]? = some u → (seC lk x P st v)[1 + j]? = some u := fun j u hj => by
  unfold seC
  rw [List.getElem?_toArray, Nat.add_comm]
  simp only [List.getElem?_cons_succ]
  rw [List.getElem?_append_left (List.getElem?_eq_some_iff.1 hj).1]
  exact hj
theorem InB.past {w w' : World} {gb g : Nat} {b : List UInt8} (h : InB w w.heap.size (some ⟨gb, 0, none⟩) b) (hg : w.grownBy w' (some g)) (hne : gb ≠ g) : InB w' w'.heap.size (some ⟨gb, 0, none⟩) b := fun h0 => by
  obtain ⟨bb, o, e, hlt, hc⟩ := h h0
  injection e with e
  injection e with e1 e2
  subst e1 e2
  exact ⟨gb, 0, rfl, Nat.lt_of_lt_of_le hlt hg.size, fun j hj => (World.cell?_of_block (a := ⟨gb, 0 + j, none⟩) (hg.block gb hlt (fun e => by injection e with e; exact hne e))).trans (hc j hj)⟩
section
variable {P : Program} {ops : Array Oper} {o : Oper} {a : Act} {Q : Exit → Act → World → Prop}
theorem yieldsIf_build {S : World → Prop} (hw : Region.wanted o (yielded ops a.tmps) = true) (t : TypeId) (parts : Array (Nat × Operand)) (ho : o.op = .build t parts) (vals : List (Nat × Value)) (cs : Array Value)
    (hv : (parts.toList.map fun (i, x) => (i, a.eval x)) = vals) (hf : P.built t vals = some cs) : YieldsIf P ops S o (.agg cs) a :=
  .inl ⟨hw, fun w _ => by
    rw [← hv, ← Array.toList_map] at hf
    unfold execOp
    simp only [ho, Sem.run_bind, run_build w t _ cs hf, Result.andThen_ok, Sem.run_pure]⟩
end
theorem range_adr {W : World} {g : Nat} {TC : Array Value} {x : List UInt8} {t : TypeId} (h : W.heap[g]? = some (.cells TC t (0, 0))) (hs : ∀ j v, (bvs x).toArray.toList[j]? = some v → TC[4 + j]? = some v) : W.rangeAt g 4 (bvs x).toArray.toList := fun j v hv =>
  (cell_of_row W g (4 + j) _ _ _ h).trans (hs j v hv)
structure SdAt (w W : World) (T MC : Array Value) : Prop where
  t : W.heap[w.heap.size]? = some (.cells T 46 (0, 0))
  m : W.heap[w.heap.size + 2]? = some (.cells MC 29 (0, 0))
  below : Below w.heap.size w W
theorem SdAt.to {w W W' : World} {T MC : Array Value} (h : SdAt w W T MC) (hb : Below W.heap.size W W') : SdAt w W' T MC := ⟨(hb.block _ (heap_lt h.t)).trans h.t, (hb.block _ (heap_lt h.m)).trans h.m, h.below.trans (hb.mono h.below.size)⟩
/-- what Send answers -/
def SendP (w : World) (lk : Int) (x : List UInt8) (P : Int) (st : Bool) (b : List UInt8) (e : Ending) (w' : World) : Prop :=
  ∃ gb cap, e = .returned (.agg (seC lk x P st (.slice (some ⟨gb, 0, none⟩) b.length cap))) ∧ b.length ≤ cap ∧ InB w' w'.heap.size (some ⟨gb, 0, none⟩) b ∧ Below w.heap.size w w'
set_option maxRecDepth 100000 in
set_option maxHeartbeats 8000000 in
theorem send_e (T : Array Value) (S : ByteArray) (ty lk gn : Int) (x : List UInt8) (D P : Int) (st gr : Bool) (hT : TrOk T S ty lk gn x D P st gr) (hx : x.length = 16) (hag : (qMV D false (!gr) S ty).Again) (w : World) (he : Env w) :
    Calls Tryd.prog 21 #[.agg T] w (SendP w lk x P st (enc (qMV D false (!gr) S ty).msg)) := by
  have HEg := Lib.hid (fun W hW => encode_again (qMV D false (!gr) S ty) hag W hW (qMV_lies _ _ _ _ _ W))
  have HE := Lib.hid he
  have ZM := Lib.hid zeroM
  have ZS := Lib.hid zeroSe
  have BM := Lib.hid (builtSm D (!gr) S ty)
  have SM : Hid ((Tryd.prog.info? 29).map (·.size) = some (qMV D false (!gr) S ty).cells.size) := Lib.hid sizeM9
  have SMl : Hid ((Tryd.prog.info? 29).map (·.size) = some (qMV D false (!gr) S ty).cells.toList.length) := Lib.hid sizeM9
  have OM := Lib.hid (MV.one (qMV D false (!gr) S ty))
  have ZC : Hid (zMsg.size = (qMV D false (!gr) S ty).cells.size) := Lib.hid rfl
  have BSe := Lib.hid (fun A n c => builtSe' lk P hx st A n c)
  have SSe : Hid (∀ (A : Option Addr) (n c : Nat), (Tryd.prog.info? 52).map (·.size) = some (seC lk x P st (.slice A n c)).size) := Lib.hid (fun A n c => by rw [seC_size hx]; exact sizeSe)
  have OSe : Hid (∀ (A : Option Addr) (n c : Nat), (seC lk x P st (.slice A n c)).all (·.oneCell') = true) := Lib.hid (fun A n c => seC_one)
  have ZSe : Hid (∀ (A : Option Addr) (n c : Nat), (seC 0 zero16 0 false (.slice none 0 0)).size = (seC lk x P st (.slice A n c)).size) := Lib.hid (fun A n c => by rw [seC_size hx]; rfl)
  have SAl : Hid ((Tryd.prog.info? 32).map (·.size) = some (bvs x).toArray.toList.length) := Lib.hid (by rw [Array.length_toList]; exact sizeBv hx)
  have SQ := Lib.hid sizeQ
  have hG : ((w.alloc (.cells T 46)).alloc (.cells (seC 0 zero16 0 false (.slice none 0 0)) 52)).heap[w.heap.size]? = some (.cells T 46 (0, 0)) := heap_two w _ _
  have hR : ((w.alloc (.cells T 46)).alloc (.cells (seC 0 zero16 0 false (.slice none 0 0)) 52)).heap[w.heap.size + 1]? = some (.cells (seC 0 zero16 0 false (.slice none 0 0)) 52 (0, 0)) := by
    have := heap_alloc_last (w.alloc (.cells T 46)) (.cells (seC 0 zero16 0 false (.slice none 0 0)) 52)
    rwa [World.size_alloc] at this
  have hB : Below w.heap.size w ((w.alloc (.cells T 46)).alloc (.cells (seC 0 zero16 0 false (.slice none 0 0)) 52)) := ((Below.refl _ w).alloc (Nat.le_refl _) _).alloc (by simp) _
  have d20 := (cell_of_row _ w.heap.size 20 _ _ _ hG).trans hT.c20
  have d23 := (cell_of_row _ w.heap.size 23 _ _ _ hG).trans hT.c23
  have HXQ := Lib.hid (q_cells (off := 0) hG hT.c0 hT.c1)
  have HTo := Lib.hid hT
  have HG := Lib.hid hG
  have HR := Lib.hid hR
  have HB := Lib.hid hB
  clear hG hR hB hT hx hag he
  generalize hL : (enc (qMV D false (!gr) S ty).msg).length = LE at *
  have HL := Lib.hid hL
  clear hL
  have HEq : Hid (∀ (W w' : World) (gb cap : Nat), EncIs W w' (qMV D false (!gr) S ty) gb cap → LE ≤ cap ∧ W.heap.size ≤ gb ∧ gb < w'.heap.size ∧ InB w' w'.heap.size (some ⟨gb, 0, none⟩) (enc (qMV D false (!gr) S ty).msg) ∧ Below W.heap.size W w') := Lib.hid (fun W w' gb cap h => ⟨by rw [← HL.out]; exact h.le, h.hb, h.lt, h.inB, h.below⟩)
  generalize (qMV D false (!gr) S ty).cells = MC at HEg BM SM SMl OM ZC
  generalize hZ : seC 0 zero16 0 false (.slice none 0 0) = Z at ZS ZSe HG HR HB d20 d23 HXQ
  clear hZ
  go_enter Tryd.func21, Tryd.ntmps21
  go_upto_region 2 with (first
    | (refine wpList_alloc_z rfl 52 rfl Z ZS.out ?_; go_simp)
    | (refine wpList_load_agg rfl 26 (.tmp 9) rfl ⟨w.heap.size, 0, none⟩ rfl #[.string S, .int .i64 ty] _ HXQ.out Tryd.underlying26 rfl SQ.out ?_; go_simp)
    | (refine wpList_build_v rfl 29 #[(0, .tmp 5), (3, .tmp 8), (5, .tmp 10)] rfl _ MC BM.out rfl ?_; go_simp)
    | (refine wpList_alloc_z rfl 29 rfl zMsg ZM.out ?_; go_simp)
    | (refine wpList_store_new rfl 29 (.tmp 3) (.tmp 11) rfl (w.heap.size + 2) (by simp) zMsg MC 29 rfl rfl SM.out ZC.out OM.out ?_; go_simp))
  have HR0 : Hid ((((w.alloc (.cells T 46)).alloc (.cells Z 52)).alloc (.cells MC 29)).heap[w.heap.size + 1]? = some (.cells Z 52 (0, 0))) := Lib.hid ((Below.heap_alloc _ _ _ (heap_lt HR.out)).trans HR.out)
  have HS0 : Hid (SdAt w (((w.alloc (.cells T 46)).alloc (.cells Z 52)).alloc (.cells MC 29)) T MC) := Lib.hid ⟨(Below.heap_alloc _ _ _ (heap_lt HG.out)).trans HG.out, (by
    have := heap_alloc_last ((w.alloc (.cells T 46)).alloc (.cells Z 52)) (.cells MC 29)
    rwa [World.size_alloc, World.size_alloc] at this), HB.out.alloc HB.out.size _⟩
  clear HB HG HR d20 d23 HXQ
  generalize ((w.alloc (.cells T 46)).alloc (.cells Z 52)).alloc (.cells MC 29) = W0 at HR0 HS0 ⊢
  have hlr := heap_lt HR0.out
  have HC2 := Lib.hid (fun W (h : SdAt w W T MC) => (cell_of_row W _ 2 _ _ _ h.t).trans HTo.out.c2)
  have HC21 := Lib.hid (fun W (h : SdAt w W T MC) => (cell_of_row W _ 21 _ _ _ h.t).trans HTo.out.c21)
  have HC22 := Lib.hid (fun W (h : SdAt w W T MC) => (cell_of_row W _ 22 _ _ _ h.t).trans HTo.out.c22)
  have HXA : Hid (∀ W, SdAt w W T MC → W.rangeAt w.heap.size 4 (bvs x).toArray.toList) := Lib.hid (fun W h => range_adr h.t HTo.out.ad)
  have HXM : Hid (∀ W, SdAt w W T MC → W.rangeAt (w.heap.size + 2) 0 MC.toList) := Lib.hid (fun W h => range_row h.m)
  generalize (bvs x).toArray = XA at BSe SAl HXA
  generalize hse : seC lk x P st = SE at BSe SSe OSe ZSe
  have HSE := Lib.hid hse
  clear hse
  have HEe := Lib.hid (HE.out.below HS0.out.below)
  refine wp_region_held_drew (S := (fun W : World => SdAt w W T MC)) (by kernel_rfl) ⟨HS0.out.t, HS0.out.m, HS0.out.below.drew⟩ (fun hHeld => ?_)
  have HV0 : Hid (SdAt w W0.drew T MC) := Lib.hid ⟨HS0.out.t, HS0.out.m, HS0.out.below.drew⟩
  have HVr : Hid (W0.drew.heap[w.heap.size + 1]? = some (.cells Z 52 (0, 0))) := Lib.hid HR0.out
  generalize W0.drew = V0 at HV0 HVr hHeld ⊢
  refine wpAnyH_take (i := 0) (oi := ({ dst := some 12, op := Go.Op.fieldAddr 46 (Go.Operand.tmp 1) 1, type := 0, pos := "trans.go:38", after := #[], guard := none } : Oper)) (v := .pointer (some ⟨w.heap.size, 2, none⟩)) rfl (by kernel_rfl) (by kernel_rfl) (by kernel_rfl) (fun _ _ _ h => h) (Or.inl ⟨by rfl, fun w' hS' => ?_⟩) hHeld ?_
  · go_simp
  try simp only [Act.put, List.setIfInBounds_toArray, List.set_cons_zero, List.set_cons_succ]
  refine wpAnyH_take (i := 1) (oi := ({ dst := some 13, op := Go.Op.load 3 (Go.Operand.tmp 12), type := 3, pos := "trans.go:38", after := #[{ on := 0, ground := Go.Ground.data }], guard := none } : Oper)) (v := .int .i64 lk) rfl (by kernel_rfl) (by kernel_rfl) (by kernel_rfl) (fun _ _ _ h => h) (Or.inl ⟨by rfl, fun w' hS' => ?_⟩) hHeld ?_
  · have d := HC2.out w' hS'; go_simp
  try simp only [Act.put, List.setIfInBounds_toArray, List.set_cons_zero, List.set_cons_succ]
  refine wpAnyH_take (i := 2) (oi := ({ dst := some 14, op := Go.Op.fieldAddr 46 (Go.Operand.tmp 1) 3, type := 0, pos := "trans.go:38", after := #[], guard := none } : Oper)) (v := .pointer (some ⟨w.heap.size, 4, none⟩)) rfl (by kernel_rfl) (by kernel_rfl) (by kernel_rfl) (fun _ _ _ h => h) (Or.inl ⟨by rfl, fun w' hS' => ?_⟩) hHeld ?_
  · go_simp
  try simp only [Act.put, List.setIfInBounds_toArray, List.set_cons_zero, List.set_cons_succ]
  refine wpAnyH_take (i := 3) (oi := ({ dst := some 15, op := Go.Op.load 32 (Go.Operand.tmp 14), type := 32, pos := "trans.go:38", after := #[{ on := 2, ground := Go.Ground.data }], guard := none } : Oper)) (v := .agg XA.toList.toArray) rfl (by kernel_rfl) (by kernel_rfl) (by kernel_rfl) (fun _ _ _ h => h) (yieldsIf_load_mid (by rfl) _ _ rfl _ _ rfl _ _ (fun W h => HXA.out W h) Tryd.underlying32 rfl SAl.out) hHeld ?_
  try simp only [Act.put, List.setIfInBounds_toArray, List.set_cons_zero, List.set_cons_succ]
  refine wpAnyH_take (i := 4) (oi := ({ dst := some 16, op := Go.Op.fieldAddr 46 (Go.Operand.tmp 1) 5, type := 0, pos := "trans.go:38", after := #[], guard := none } : Oper)) (v := .pointer (some ⟨w.heap.size, 21, none⟩)) rfl (by kernel_rfl) (by kernel_rfl) (by kernel_rfl) (fun _ _ _ h => h) (Or.inl ⟨by rfl, fun w' hS' => ?_⟩) hHeld ?_
  · go_simp
  try simp only [Act.put, List.setIfInBounds_toArray, List.set_cons_zero, List.set_cons_succ]
  refine wpAnyH_take (i := 5) (oi := ({ dst := some 17, op := Go.Op.load 3 (Go.Operand.tmp 16), type := 3, pos := "trans.go:38", after := #[{ on := 4, ground := Go.Ground.data }], guard := none } : Oper)) (v := .int .i64 P) rfl (by kernel_rfl) (by kernel_rfl) (by kernel_rfl) (fun _ _ _ h => h) (Or.inl ⟨by rfl, fun w' hS' => ?_⟩) hHeld ?_
  · have d := HC21.out w' hS'; go_simp
  try simp only [Act.put, List.setIfInBounds_toArray, List.set_cons_zero, List.set_cons_succ]
  refine wpAnyH_take (i := 6) (oi := ({ dst := some 18, op := Go.Op.fieldAddr 46 (Go.Operand.tmp 1) 6, type := 0, pos := "trans.go:38", after := #[], guard := none } : Oper)) (v := .pointer (some ⟨w.heap.size, 22, none⟩)) rfl (by kernel_rfl) (by kernel_rfl) (by kernel_rfl) (fun _ _ _ h => h) (Or.inl ⟨by rfl, fun w' hS' => ?_⟩) hHeld ?_
  · go_simp
  try simp only [Act.put, List.setIfInBounds_toArray, List.set_cons_zero, List.set_cons_succ]
  refine wpAnyH_take (i := 7) (oi := ({ dst := some 19, op := Go.Op.load 4 (Go.Operand.tmp 18), type := 4, pos := "trans.go:38", after := #[{ on := 6, ground := Go.Ground.data }], guard := none } : Oper)) (v := .bool st) rfl (by kernel_rfl) (by kernel_rfl) (by kernel_rfl) (fun _ _ _ h => h) (Or.inl ⟨by rfl, fun w' hS' => ?_⟩) hHeld ?_
  · have d := HC22.out w' hS'; go_simp
  try simp only [Act.put, List.setIfInBounds_toArray, List.set_cons_zero, List.set_cons_succ]
  refine wpAnyH_take (i := 8) (oi := ({ dst := some 20, op := Go.Op.load 29 (Go.Operand.tmp 3), type := 29, pos := "trans.go:38", after := #[], guard := none } : Oper)) (v := .agg MC.toList.toArray) rfl (by kernel_rfl) (by kernel_rfl) (by kernel_rfl) (fun _ _ _ h => h) (yieldsIf_load_mid (by rfl) _ _ rfl _ _ rfl _ _ (fun W h => HXM.out W h) Tryd.underlying29 rfl SMl.out) hHeld ?_
  try simp only [Act.put, List.setIfInBounds_toArray, List.set_cons_zero, List.set_cons_succ]
  refine wpAnyH_ready (rs := [9]) (by kernel_rfl) (by simp) ?_
  refine AllReadyH.cons (o := ({ dst := some 21, op := Go.Op.call { callee := Go.Callee.value (Go.Operand.func 15), args := #[Go.Operand.tmp 20], argTypes := #[29] }, type := 38, pos := "trans.go:38", after := #[{ on := 8, ground := Go.Ground.data }], guard := none } : Oper)) rfl (fun K hK => ?_) AllReadyH.nil
  go_simp
  go_at_call 15
  refine (HEg.out _ (HE.out.below HV0.out.below)).mono ?_
  rintro e' u1 ⟨gb, cap, rfl, hen⟩
  obtain ⟨e1, e2, e3, e4, e5⟩ := HEq.out _ _ _ _ hen
  have HU1 := Lib.hid (HV0.out.to e5)
  have HI := Lib.hid e4
  have HUr := Lib.hid ((e5.block _ (heap_lt HVr.out)).trans HVr.out)
  have hgb : w.heap.size + 1 < gb := Nat.lt_of_lt_of_le (heap_lt HVr.out) e2
  refine hK.out _ _ HU1.out (fun hHeld => ?_)
  clear hK K hen e4 e5 e3 e2
  try simp only [Act.put, List.setIfInBounds_toArray, List.set_cons_zero, List.set_cons_succ]
  refine wpAnyH_take (i := 10) (oi := ({ dst := some 22, op := Go.Op.build 52 #[(0, Go.Operand.tmp 13), (1, Go.Operand.tmp 15), (2, Go.Operand.tmp 17), (3, Go.Operand.tmp 19), (4, Go.Operand.tmp 21)], type := 52, pos := "trans.go:38", after := #[{ on := 1, ground := Go.Ground.data }, { on := 3, ground := Go.Ground.data }, { on := 5, ground := Go.Ground.data }, { on := 7, ground := Go.Ground.data }, { on := 9, ground := Go.Ground.data }], guard := none } : Oper)) (v := .agg (SE (.slice (some ⟨gb, 0, none⟩) LE cap))) rfl (by kernel_rfl) (by kernel_rfl) (by kernel_rfl) (fun _ _ _ h => h) (yieldsIf_build (by rfl) 52 #[(0, .tmp 13), (1, .tmp 15), (2, .tmp 17), (3, .tmp 19), (4, .tmp 21)] rfl [(0, .int .i64 lk), (1, .agg XA.toList.toArray), (2, .int .i64 P), (3, .bool st), (4, .slice (some ⟨gb, 0, none⟩) LE cap)] _ rfl (BSe.out _ _ _)) hHeld ?_
  try simp only [Act.put, List.setIfInBounds_toArray, List.set_cons_zero, List.set_cons_succ]
  refine wpAnyH_ready (rs := [11]) (by kernel_rfl) (by simp) ?_
  refine AllReadyH.cons (o := ({ dst := none, op := Go.Op.store 52 (Go.Operand.tmp 2) (Go.Operand.tmp 22), type := 0, pos := "trans.go:38", after := #[{ on := 10, ground := Go.Ground.data }, { on := 9, ground := Go.Ground.chain }, { on := 0, ground := Go.Ground.phase }, { on := 1, ground := Go.Ground.phase }, { on := 2, ground := Go.Ground.phase }, { on := 3, ground := Go.Ground.phase }, { on := 4, ground := Go.Ground.phase }, { on := 5, ground := Go.Ground.phase }, { on := 6, ground := Go.Ground.phase }, { on := 7, ground := Go.Ground.phase }, { on := 8, ground := Go.Ground.phase }, { on := 9, ground := Go.Ground.phase }, { on := 10, ground := Go.Ground.phase }], guard := none } : Oper)) rfl (fun K hK => ?_) AllReadyH.nil
  refine step_store_tr rfl 52 (.tmp 2) (.tmp 22) rfl (w.heap.size + 1) Z (SE (.slice (some ⟨gb, 0, none⟩) LE cap)) 52 HUr.out rfl rfl (SSe.out _ _ _) (ZSe.out _ _ _) (OSe.out _ _ _) (fun w4 hg4 hw4 hs4 => ?_)
  have hB4 : Below w.heap.size w w4 := HU1.out.below.grown hw4.out HU1.out.below.size (fun k e => by injection e with e; omega)
  have HS4 : Hid (SdAt w w4 T MC) := Lib.hid ⟨(hw4.out.block _ (heap_lt HU1.out.t) (fun e => by injection e with e; omega)).trans HU1.out.t, (hw4.out.block _ (heap_lt HU1.out.m) (fun e => by injection e with e; omega)).trans HU1.out.m, hB4⟩
  have HI4 := Lib.hid (HI.out.past hw4.out (by omega))
  have HG4 := Lib.hid hg4.out
  clear hB4
  refine hK.out _ _ HS4.out (fun hHeld => ?_)
  clear hK K
  refine wpAnyH_done (by kernel_rfl) ?_ _
  try (go_wp2_with fail)
  exact bodyPost_ret (results_cell_row rfl _ w4 (w.heap.size + 1) 52 (SE (.slice (some ⟨gb, 0, none⟩) LE cap)) (0, 0) _ rfl HG4.out Tryd.underlying52 rfl (SSe.out _ _ _)) rfl ⟨gb, cap, by rw [HSE.out, HL.out], by rw [HL.out]; exact e1, HI4.out, HS4.out.below⟩
end Go.Proofs.YtmijoidogjablaaDoor
