/-
  The walk of the test question: it answers true. Condition: the library's variable MaxLen holds some number.
-/
import Derived.Test.YtmijoidogjablaaDoorMsgDec0
import Derived.Test.YtmijoidogjablaaDoorMsgEnc
import Derived.Test.YtmijoidogjablaaDoorMsgPl
namespace Go.Proofs.YtmijoidogjablaaDoor
open Go.RowKit

theorem own_cells4 {w : World} {base n size : Nat} {e : TypeId} {A : Option Addr} {c : Nat} {xs : List Value} (h : w.ownsRow base e size (.slice A n c) n xs) (h0 : 0 < n) : ∃ g, A = some ⟨g, 0, none⟩ ∧ n ≤ c ∧ g < w.heap.size ∧ ∀ k u, xs[k]? = some u → w.cell? ⟨g, k, none⟩ = some u := by
  rcases h.2 with ⟨_, h1⟩ | ⟨g, cap, cur, hv, hb, hg, hc, hm, hs, ht⟩
  · omega
  · injection hv with h1 h2 h3
    subst h3
    refine ⟨g, h1, hc, (Array.getElem?_eq_some_iff.1 hg).1, fun k u hk => ?_⟩
    rw [cell_of_row w g k cur _ (0, 0) hg, ← Array.getElem?_toList]
    rw [← ht] at hk
    have hkl := (List.getElem?_eq_some_iff.1 hk).1
    rw [List.length_take] at hkl
    rwa [List.getElem?_take_of_lt (by omega)] at hk
theorem enc_inB {w : World} {base gb cap : Nat} {b : List UInt8} (h : w.ownsRow base 5 1 (.slice (some ⟨gb, 0, none⟩) b.length cap) b.length (bvs b)) (h0 : 0 < b.length) : gb < w.heap.size ∧ b.length ≤ cap ∧ InB w w.heap.size (some ⟨gb, 0, none⟩) b ∧ ∀ j, j < b.length → w.cell? ⟨gb, j, none⟩ = some (.int .u8 (b.getD j 0).toNat) := by
  obtain ⟨g, hA, hc, hl, hcell⟩ := own_cells4 h h0
  injection hA with hA
  injection hA with hA
  subst hA
  have hc2 : ∀ j, j < b.length → w.cell? ⟨gb, j, none⟩ = some (.int .u8 (b.getD j 0).toNat) := fun j hj => hcell j _ (bvs_at hj)
  exact ⟨hl, hc, fun _ => ⟨gb, 0, rfl, hl, fun j hj => by rw [Nat.zero_add]; exact hc2 j hj⟩, hc2⟩
theorem dots4_any (s : ByteArray) (w : World) :
    Calls Tryd.prog 24 #[.string s] w fun e w' => e = .returned (.int .i64 (s.data.toList.count 46 : Nat)) ∧ w = w' := by
  have C := Tryd.strings_Count_one s 46 w
  have hc : Lib.countByte s.data.toList 46 = s.data.toList.count 46 := rfl
  rw [hc] at C
  have hle : s.data.toList.count 46 ≤ s.size := by rw [Lib.size_eq]; exact List.count_le_length
  revert C hle
  generalize s.data.toList.count 46 = c
  intro C hle
  go_enter Tryd.func24, Tryd.ntmps24
  go_wp2_with (go_at_call 40; refine C.mono ?_; rintro e w' ⟨rfl, rfl⟩)
  go_ret
  exact ⟨rfl, rfl⟩
section
variable {P : Program} {ops : Array Oper} {rest : List Oper} {o : Oper} {a : Act} {Q : Exit → Act → World → Prop}
theorem wpList_load_agg_gh {w : World} (hw : Region.wanted o (yielded ops a.tmps) = true) (ty : TypeId) (x : Operand) (ho : o.op = .load ty x) (p : Addr) (hx : a.eval x = .pointer (some p)) (cs : Array Value) (d : TypeDesc)
    (hc : ∀ j v, cs.toList[j]? = some v → w.cell? (p.add j) = some v)
    (hu : P.underlying ty = some d) (hd : (match d with | .struct _ | .array _ _ => true | _ => false) = true) (hi : (P.info? ty).map (·.size) = some cs.size)
    (h : wpList P ops Q rest (a.put o.dst (.agg cs)) w) : wpList P ops Q (o :: rest) a w := by
  unfold wpList
  rw [if_pos hw]
  left
  unfold Oper.wp execOp
  simp only [ho, hx, Instr.loadAt, Instr.sureAddr, Sem.run_bind, Sem.run_pure, Result.andThen_ok, run_load_agg ty p cs d hc hu hd hi]
  exact h
theorem wpList_eql_agg_gh {w : World} (hw : Region.wanted o (yielded ops a.tmps) = true) (t : TypeId) (x y : Operand) (s : TypeId) (ho : o.op = .binOp .eql t x y s) (xs ys : Array Value) (b : Bool) (hx : a.eval x = .agg xs) (hy : a.eval y = .agg ys)
    (hm : P.eqGuardType P.depth t = false) (hr : (Op.equalIn 10000 t (.agg xs) (.agg ys)).run P w = .ok b w)
    (h : wpList P ops Q rest (a.put o.dst (.bool b)) w) : wpList P ops Q (o :: rest) a w := by
  unfold wpList
  rw [if_pos hw]
  left
  have h1 := run_eqGuard_agg (P := P) w .eql t x y xs ys hm
  have h2 := run_eql_struct (P := P) w t xs ys
  rw [hr] at h2
  unfold Oper.wp execOp
  simp only [ho, hx, hy, Sem.run_bind, h1, h2, Result.andThen_ok]
  exact h
end
def fitV : Array Value := dMsg 258 ⟨#[97]⟩ 1
def fitM : MV := ⟨258, false, false, false, 0, ⟨#[97]⟩, 1, none, 0, [], none, 0, []⟩
def qV : Array Value := #[.string ⟨#[97]⟩, .int .i64 1]
theorem builtF : Tryd.prog.built 29 [(0, .int .i64 258), (5, .agg #[.string ⟨#[97]⟩, .int .i64 1])] = some fitV := by kernel_rfl
theorem sizeQ4 : (Tryd.prog.info? 26).map (·.size) = some qV.size := by kernel_rfl
theorem eq_q4 (w : World) : (Op.equalIn 10000 26 (.agg qV) (.agg qV)).run Tryd.prog w = .ok true w := by kernel_rfl
theorem eqg_q4 : Tryd.prog.eqGuardType Tryd.prog.depth 26 = false := by kernel_rfl
theorem q_in (W : World) (g : Nat) (h : W.heap[g]? = some (.cells fitV 29 (0, 0))) : ∀ j v, qV.toList[j]? = some v → W.cell? ((⟨g, 5, none⟩ : Addr).add j) = some v := fun j v hj => by
  have hl : j < 2 := (List.getElem?_eq_some_iff.1 hj).1
  rw [Addr.add_lit]
  refine (cell_of_row W g (5 + j) _ _ _ h).trans ?_
  rcases (show j = 0 ∨ j = 1 by omega) with rfl | rfl
  · exact hj
  · exact hj
theorem fitM_ok : mvOk fitM = true := by decide +kernel
theorem fit_r : rightB ⟨#[97]⟩ = true := by decide +kernel
set_option maxRecDepth 100000 in
set_option maxHeartbeats 4000000 in
theorem fit4_e (w : World) (he : Env w) : Calls Tryd.prog 11 #[] w fun e w' => e = .returned (.bool true) ∧ Below w.heap.size w w' := by
  have CE : ∀ W, Env W → Calls Tryd.prog 15 #[.agg fitV] W fun e w' => EncPost W.heap.size W fitB e w' := fun W hW => by
    have h := encode_any fitM ⟨by decide, (fun r hr => by cases hr), (fun r hr => by cases hr), by decide, by decide⟩ W hW ⟨fun h => absurd h (by decide), fun h => absurd h (by decide)⟩ fitM_ok
    have e1 : enc fitM.msg = fitB := enc_fit
    rw [e1] at h
    exact h
  have CD : ∀ (W : World) (gb c : Nat), Env W → InB W W.heap.size (some ⟨gb, 0, none⟩) fitB → 19 ≤ c → Calls Tryd.prog 14 #[.slice (some ⟨gb, 0, none⟩) 19 c] W fun e w' => e = .returned (.tuple #[.agg fitV, .int .i64 0]) ∧ Below W.heap.size W w' := fun W gb c hW hin hc => by
    obtain ⟨h0, h1, h2, h3, h4, h5⟩ := fit_nums
    exact decode0 (some ⟨gb, 0, none⟩) c fitB 258 0 1 19 [97] W hW hin hc (by decide) (fun e => by cases e) (by omega) (by omega) h0 h1 h2 h3 h4 h5 fit_q (fun W hW => by
      have h := all_mv fitM ⟨by decide, (fun r hr => by cases hr), (fun r hr => by cases hr), by decide, by decide⟩ W hW ⟨fun h => absurd h (by decide), fun h => absurd h (by decide)⟩
      rw [fitM_ok] at h
      exact h.mono fun e w' ⟨h1, h2, _⟩ => ⟨h1, h2⟩)
  have HCE := Lib.hid CE
  have HCD := Lib.hid CD
  have HE := Lib.hid he
  have BF := Lib.hid builtF
  have ZM := Lib.hid zeroM
  have SM : Hid ((Tryd.prog.info? 29).map (·.size) = some fitV.size) := Lib.hid sizeM
  have OM : Hid (fitV.all (·.oneCell') = true) := Lib.hid (oneM 258 ⟨#[97]⟩ 1)
  have ZD : Hid (zMsg.size = fitV.size) := Lib.hid rfl
  have HQI := Lib.hid q_in
  have HQE := Lib.hid eq_q4
  have SQ := Lib.hid sizeQ4
  revert HCE HCD BF SM OM ZD HQI HQE SQ
  generalize fitV = F
  generalize qV = qv
  intro HCE HCD BF SM OM ZD HQI HQE SQ
  clear CE CD he
  go_enter Tryd.func11, Tryd.ntmps11
  go_wp2_with (first
    | (refine wpList_build_v rfl 29 #[(0, .const (.int .i64 258)), (5, .tmp 5)] rfl _ F BF.out rfl ?_; go_simp)
    | (refine wpList_alloc_z rfl 29 rfl zMsg ZM.out ?_; go_simp)
    | (refine wpList_store_new rfl 29 (.tmp 1) (.tmp 6) rfl w.heap.size rfl zMsg F 29 rfl rfl SM.out ZD.out OM.out ?_; go_simp)
    | (refine wpList_load_row rfl 29 (.tmp 1) rfl w.heap.size rfl 29 F (0, 0) _ (heap_alloc_last w _) Tryd.underlying29 rfl SM.out ?_; go_simp))
  refine (HCE.out _ (HE.out.below ((Below.refl _ w).alloc (Nat.le_refl _) _))).mono ?_
  rintro e w1 ⟨gb, cap, rfl, hrow, hb1⟩
  have hrow' : w1.ownsRow (w.alloc (.cells F 29)).heap.size 5 1 (.slice (some ⟨gb, 0, none⟩) fitB.length cap) fitB.length (bvs fitB) := hrow
  obtain ⟨hgb, hcap, hin, hcell⟩ := enc_inB hrow' (by decide)
  have c0 : w1.cell? ⟨gb, 0, none⟩ = some (.int .u8 1) := hcell 0 (by decide)
  have c1 : w1.cell? ⟨gb, 1, none⟩ = some (.int .u8 2) := hcell 1 (by decide)
  have hg1 : w1.heap[w.heap.size]? = some (.cells F 29 (0, 0)) := (hb1.block w.heap.size (by simp)).trans (heap_alloc_last w _)
  have hB1 : Below w.heap.size w w1 := ((Below.refl _ w).alloc (Nat.le_refl _) _).trans (hb1.mono (by simp))
  have hl1 : w.heap.size < w1.heap.size := heap_lt hg1
  have C2 := HCD.out w1 gb cap (HE.out.below hB1) hin hcap
  have HC0 := Lib.hid c0
  have HC1 := Lib.hid c1
  have HG1 := Lib.hid hg1
  have HB1 := Lib.hid hB1
  have HD := Lib.hid dots4_any
  have HRt := Lib.hid (right_any ⟨#[97]⟩)
  have HEQ := Lib.hid eqg_q4
  rw [show fitB.length = 19 from rfl]
  clear hrow hrow' hin hcell c0 c1 hg1 hB1 hb1 hcap
  go_wp2_with fail
  refine C2.mono ?_
  rintro e w2 ⟨rfl, hb2⟩
  have hB2 := HB1.out.trans (hb2.mono HB1.out.size)
  have c0 : (w2.alloc (.cells F 29)).cell? ⟨gb, 0, none⟩ = some (.int .u8 1) := (World.cell?_alloc_lt _ _ _ (by show gb < _; exact Nat.lt_of_lt_of_le hgb hb2.size)).trans ((hb2.cell (p := ⟨gb, 0, none⟩) hgb).trans HC0.out)
  have c1 : (w2.alloc (.cells F 29)).cell? ⟨gb, 1, none⟩ = some (.int .u8 2) := (World.cell?_alloc_lt _ _ _ (by show gb < _; exact Nat.lt_of_lt_of_le hgb hb2.size)).trans ((hb2.cell (p := ⟨gb, 1, none⟩) hgb).trans HC1.out)
  have H3 := Lib.hid (heap_alloc_last w2 (.cells F 29))
  have H1 : Hid ((w2.alloc (.cells F 29)).heap[w.heap.size]? = some (.cells F 29 (0, 0))) := Lib.hid ((Below.heap_alloc w2 _ _ (Nat.lt_of_lt_of_le hl1 hb2.size)).trans ((hb2.block _ hl1).trans HG1.out))
  have HB3 : Hid (Below w.heap.size w (w2.alloc (.cells F 29))) := Lib.hid (hB2.alloc hB2.size _)
  clear hb2 hB2 HC0 HC1 HG1 HB1 C2 HCE HCD
  go_wp2_with (first
    | (refine wpList_alloc_z rfl 29 rfl zMsg ZM.out ?_; go_simp)
    | (refine wpList_store_new rfl 29 (.tmp 3) (.tmp 12) rfl w2.heap.size rfl zMsg F 29 rfl rfl SM.out ZD.out OM.out ?_; go_simp)
    | (refine wpList_load_agg_gh (by kernel_rfl) 26 (.tmp 34) rfl ⟨w2.heap.size, 5, none⟩ rfl qv _ (HQI.out _ _ H3.out) Tryd.underlying26 rfl SQ.out ?_; go_simp)
    | (refine wpList_load_agg_gh (by kernel_rfl) 26 (.tmp 36) rfl ⟨w.heap.size, 5, none⟩ rfl qv _ (HQI.out _ _ H1.out) Tryd.underlying26 rfl SQ.out ?_; go_simp)
    | (refine wpList_eql_agg_gh (by kernel_rfl) 26 (.tmp 35) (.tmp 37) 26 rfl qv qv true rfl rfl HEQ.out (HQE.out _) ?_; go_simp)
    | (go_at_call 23; refine (HRt.out _ (by decide)).mono ?_; rintro e w3 ⟨rfl, rfl⟩; rw [fit_r])
    | (go_at_call 24; refine (HD.out _ _).mono ?_; rintro e w4 ⟨rfl, rfl⟩))
  go_ret
  exact ⟨rfl, HB3.out⟩
end Go.Proofs.YtmijoidogjablaaDoor
