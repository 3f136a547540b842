/-
  The walk of llmnr.Answer: what it answers. Conditions: the library's variable MaxLen holds some number; the local addresses lie in memory; what Decode answers for these bytes, as a hypothesis; the own name has at most 16 labels.
-/
import Derived.Test.YtakfokdjdljjjaaDoorLlEnc
import Derived.Test.YtakfokdjdljjjaaDoorLlRec
namespace Go.Proofs.YtakfokdjdljjjaaDoor
open Go.RowKit

section
variable {P : Program} {ops : Array Oper} {o : Oper} {a : Act}
theorem yieldsIf_build {S : World → Prop} (hw : Region.wanted o (yielded ops a.tmps) = true) (t : TypeId) (parts : Array (Nat × Operand)) (ho : o.op = .build t parts) (vals : List (Nat × Value)) (cs : Array Value)
    (hv : (parts.toList.map fun (i, x) => (i, a.eval x)) = vals) (hf : P.built t vals = some cs) : YieldsIf P ops S o (.agg cs) a :=
  .inl ⟨hw, fun w _ => by
    rw [← hv, ← Array.toList_map] at hf
    unfold execOp
    simp only [ho, Sem.run_bind, run_build w t _ cs hf, Result.andThen_ok, Sem.run_pure]⟩
end
/-- the reply to a question -/
def rpM (m : MV) (ls : List LV) : MV := ⟨m.id, true, false, false, 0, m.qn, m.qt, none, 0, ansL m.qn m.qt ls, none, 0, []⟩
theorem famT_v4 {x : List UInt8} (h : famT x = 1) : (x == pre4 ++ x.drop 12) = true := by
  unfold famT isV4 at h
  cases hq : x == pre4 ++ x.drop 12 with
  | true => rfl
  | false => rw [hq] at h; simp at h
theorem famT_two (x : List UInt8) : famT x = 1 ∨ famT x = 28 := by
  unfold famT; cases isV4 x <;> simp
theorem lrec_ok {S : ByteArray} {ty : Int} {x : LV} (hx : famT x.addr = ty) (hS : gosB S = true) : rvOk (lrec S ty x) = true := by
  have hb : btw 0 (30 : Int) 1048576 = true := by decide
  have he : (lrec S ty x).eqB ⟨S, ty, 30, x.addr, emp, emp⟩ = true := RV.eqB_self (lrec S ty x)
  unfold rvOk
  show (gosB S && btw 1 ty 65535 && btw 0 30 1048576 && (if ty = 1 then (x.addr == pre4 ++ x.addr.drop 12) && (lrec S ty x).eqB ⟨S, ty, 30, x.addr, emp, emp⟩ else if ty = 28 then (lrec S ty x).eqB ⟨S, ty, 30, x.addr, emp, emp⟩ else _)) = true
  rw [hS, hb, he]
  rcases famT_two x.addr with h | h
  · obtain rfl : ty = 1 := by omega
    rw [if_pos rfl, famT_v4 hx]
    decide
  · obtain rfl : ty = 28 := by omega
    rw [if_neg (by omega), if_pos rfl]
    decide
theorem rpM_again {m : MV} {ls : List LV} (hok : mvOk m = true) (hf : m.Fits) (h16 : lb16 m.qn) (hl : ls.length ≤ 32) (had : ∀ x ∈ ls, x.addr.length = 16) : (rpM m ls).Again := by
  have p := mv_parts hok
  have hlen := ansL_len m.qn m.qt ls
  have hem : emp.size ≤ maxLen := by decide
  have hl0 : lb16 emp := by unfold lb16; decide
  have hfit : ∀ r ∈ ansL m.qn m.qt ls, r.Fits ∧ rvOk r = true ∧ lb16 r.nm ∧ lb16 r.tx := fun r hr => by
    obtain ⟨x, hx, hq, rfl⟩ := ansL_mem hr
    exact ⟨⟨had x hx, hf.qn, hem, hem⟩, lrec_ok hq p.qn, h16, hl0⟩
  refine ⟨?_, ⟨hf.qn, fun r hr => (hfit r hr).1, fun r hr => (by cases hr), ?_, ?_⟩, h16, fun r hr => (hfit r hr).2.2, fun r hr => (by cases hr)⟩
  · unfold mvOk
    show (btw 0 m.id 65535 && (btw 0 0 15 && (gosB m.qn && (btw 1 m.qt 65535 && (allB (ansL m.qn m.qt ls) && allB []))))) = true
    have ha : allB (ansL m.qn m.qt ls) = true := by
      unfold allB
      simp only [Bool.and_eq_true, decide_eq_true_eq, List.all_eq_true]
      exact ⟨by omega, fun r hr => (hfit r hr).2.1⟩
    rw [p.qn, ha, show btw 0 m.id 65535 = true from decide_eq_true ⟨p.id0, p.id1⟩, show btw 1 m.qt 65535 = true from decide_eq_true ⟨p.q0, p.q1⟩]
    decide
  · show (ansL m.qn m.qt ls).length ≤ _; omega
  · show 0 ≤ _; omega
/-- the reply, if it is a question for the own name -/
def repO (own : ByteArray) (ls : List LV) : Option MV → Option MV
  | none => none
  | some m => if (!m.rp && (m.qn.toList == own.toList)) = true then some (rpM m ls) else none
/-- what Answer answers -/
def AnPost (w : World) (r : Option MV) (e : Ending) (w' : World) : Prop :=
  Below w.heap.size w w' ∧ ((r = none ∧ e = .returned (.tuple #[.slice none 0 0, .bool false])) ∨ ∃ (m : MV) (gb cap : Nat), r = some m ∧ m.Again ∧ e = .returned (.tuple #[.slice (some ⟨gb, 0, none⟩) (enc m.msg).length cap, .bool true]) ∧ (enc m.msg).length ≤ cap ∧ InB w' w'.heap.size (some ⟨gb, 0, none⟩) (enc m.msg) ∧ 12 ≤ (enc m.msg).length)
def RpC (id : Int) (S : ByteArray) (ty : Int) (A : Option Addr) (n c : Nat) : Array Value := #[.int .i64 id, .bool true, .bool false, .bool false, .int .i64 0, .string S, .int .i64 ty, .slice A n c, .slice none 0 0]
theorem RpC_one (id : Int) (S : ByteArray) (ty : Int) (A : Option Addr) (n c : Nat) : (RpC id S ty A n c).all (·.oneCell') = true := by simp [RpC, Value.oneCell']
theorem builtRp (id : Int) (S : ByteArray) (ty : Int) (A : Option Addr) (n c : Nat) : Tryd.prog.built 31 [(0, .int .i64 id), (1, .bool true), (5, .agg #[.string S, .int .i64 ty]), (6, .slice A n c)] = some (RpC id S ty A n c) := by kernel_rfl
theorem sizeM9 : (Tryd.prog.info? 31).map (·.size) = some 9 := sizeM
theorem sizeQl : (Tryd.prog.info? 28).map (·.size) = some 2 := by kernel_rfl
/-- what is made while the reply is built: the block that holds it, its records -/
structure ApAt (rs : List RV) (W0 u : World) (a : Option Nat) (r : Option (Option Addr)) : Prop where
  below : Below W0.heap.size W0 u
  a : ∀ g, a = some g → u.heap[g]? = some (.cells zMsg 31 (0, 0)) ∧ W0.heap.size ≤ g
  r : ∀ A, r = some A → RecsAt u A rs
section
variable {rs : List RV} {W0 u u' : World} {a : Option Nat} {r : Option (Option Addr)}
theorem ApAt.to (h : ApAt rs W0 u a r) (hb : Below u.heap.size u u') : ApAt rs W0 u' a r :=
  ⟨h.below.trans (hb.mono h.below.size), fun g hg => ⟨(hb.block g (heap_lt (h.a g hg).1)).trans (h.a g hg).1, (h.a g hg).2⟩, fun x hx => (h.r x hx).below hb⟩
theorem ApAt.withA (h : ApAt rs W0 u none r) : ApAt rs W0 (u.alloc (.cells zMsg 31)) (some u.heap.size) r := by
  have h2 := h.to ((Below.refl _ u).alloc (Nat.le_refl _) (.cells zMsg 31))
  refine ⟨h2.below, fun g hg => ?_, h2.r⟩
  injection hg with hg
  subst hg
  exact ⟨heap_alloc_last u _, h.below.size⟩
theorem ApAt.withR {A : Option Addr} (h : ApAt rs W0 u a none) (hl : RecsAt u A rs) : ApAt rs W0 u a (some A) :=
  ⟨h.below, h.a, fun y hy => by injection hy with hy; subst hy; exact hl⟩
/-- all is made and stored -/
structure ApFin (rs : List RV) (W0 wx : World) (g : Nat) (C : Array Value) (A : Option Addr) : Prop where
  below : Below W0.heap.size W0 wx
  blk : wx.heap[g]? = some (.cells C 31 (0, 0))
  r : RecsAt wx A rs
theorem RecsAt.past9 {w w' : World} {A : Option Addr} {g : Nat} (h : RecsAt w A rs) (hz : w.heap[g]? = some (.cells zMsg 31 (0, 0))) (hg : w.grownBy w' (some g)) : RecsAt w' A rs := fun h0 => by
  obtain ⟨b, o, rfl, hlt, hc⟩ := h h0
  have hne : b ≠ g := by
    rintro rfl
    obtain ⟨r, hr⟩ : ∃ r, rs[0]? = some r := ⟨_, List.getElem?_eq_getElem h0⟩
    have c0 := hc 0 r hr 0 _ (by rw [Array.getElem?_toList]; exact r.c0)
    have c2 := hc 0 r hr 2 _ (by rw [Array.getElem?_toList]; exact r.c2)
    rw [Addr.add_lit, cell_of_row w b _ _ _ _ hz] at c0 c2
    simp only [Nat.zero_mul, Nat.add_zero] at c0 c2
    have hl : o < 9 := (Array.getElem?_eq_some_iff.1 c0).1
    rcases (show o = 0 ∨ o = 1 ∨ o = 2 ∨ o = 3 ∨ o = 4 ∨ o = 5 ∨ o = 6 ∨ o = 7 ∨ o = 8 by omega) with rfl | rfl | rfl | rfl | rfl | rfl | rfl | rfl | rfl
    all_goals first
      | (have c : some _ = some (Value.string r.nm) := c0; injection c with c; cases c; done)
      | (have c : some _ = some (Value.int .i64 r.ttl) := c2; injection c with c; cases c)
  refine ⟨b, o, rfl, Nat.lt_of_lt_of_le hlt hg.size, fun k r hr j v hv => ?_⟩
  have h1 := hc k r hr j v hv
  rw [Addr.add_lit] at h1 ⊢
  exact (World.cell?_of_block (a := ⟨b, o + k * 21 + j, none⟩) (hg.block b hlt (fun e => by injection e with e; exact hne e))).trans h1
theorem ApAt.fin {A : Option Addr} {C : Array Value} {g : Nat} (h : ApAt rs W0 u (some g) (some A)) (hg : u'.heap[g]? = some (.cells C 31 (0, 0))) (hw : u.grownBy u' (some g)) : ApFin rs W0 u' g C A :=
  ⟨h.below.grown hw h.below.size (fun k e => by injection e with e; have := (h.a g rfl).2; omega), hg, (h.r A rfl).past9 (h.a g rfl).1 hw⟩
end
set_option maxRecDepth 100000 in
set_option maxHeartbeats 4000000 in
theorem answer_e (own : ByteArray) (h16 : lb16 own) (ls : List LV) (hls : ∀ x ∈ ls, x.addr.length = 16) (AL : Option Addr) (cl : Nat) (hn : ls.length ≤ 32) (A : Option Addr) (n c : Nat) (o : Option MV) (w : World) (he : Env w) (hA : LocsAt w AL ls)
    (HD : ∀ W, Below w.heap.size w W → Env W → Calls Tryd.prog 10 #[.slice A n c] W (DecN o W)) :
    Calls Tryd.prog 8 #[.string own, .slice AL ls.length cl, .slice A n c] w (AnPost w (repO own ls o)) := by
  have HDe := Lib.hid HD
  have HE := Lib.hid he
  have HA := Lib.hid hA
  have HLs := Lib.hid hls
  have H16 := Lib.hid h16
  have HN := Lib.hid hn
  have ZM := Lib.hid zeroM
  have OZ := Lib.hid oneZ
  have SZ : Hid ((Tryd.prog.info? 31).map (·.size) = some zMsg.size) := Lib.hid sizeM
  have HRcs := Lib.hid (fun S ty W (hW : LocsAt W AL ls) => records_e S ty ls hls AL cl (by omega) W hW)
  clear HD he hA hls h16 hn
  go_enter Tryd.func8, Tryd.ntmps8
  go_wp2_with fail
  refine (HDe.out w (Below.refl _ _) HE.out).mono ?_
  rintro e w1 ⟨hb1, ⟨rfl, rfl⟩ | ⟨m, rfl, hok, hfit, hlie, rfl⟩⟩
  · have HB1 : Hid (Below w.heap.size w (w1.alloc (.cells zMsg 31))) := Lib.hid (hb1.alloc hb1.size _)
    clear hb1
    go_wp2_with (first
      | (refine wpList_alloc_z rfl 31 rfl zMsg ZM.out ?_; go_simp)
      | (refine wpList_store_new rfl 31 (.tmp 8) (.tmp 14) rfl w1.heap.size rfl zMsg zMsg 31 rfl rfl SZ.out rfl OZ.out ?_; go_simp))
    go_ret2
    exact ⟨HB1.out, .inl ⟨rfl, rfl⟩⟩
  · have HB1 : Hid (Below w.heap.size w (w1.alloc (.cells m.cells 31))) := Lib.hid (hb1.alloc hb1.size _)
    have HOk := Lib.hid hok
    have HFi := Lib.hid hfit
    have SM : Hid ((Tryd.prog.info? 31).map (·.size) = some m.cells.size) := Lib.hid sizeM
    have ZC : Hid (zMsg.size = m.cells.size) := Lib.hid rfl
    have OM := Lib.hid (MV.one m)
    have HG1 := heap_alloc_last w1 (.cells m.cells 31)
    have e1 : _ = some (Value.bool m.rp) := (cell_of_row _ w1.heap.size 1 _ _ _ HG1).trans rfl
    have e5 : _ = some (Value.string m.qn) := (cell_of_row _ w1.heap.size 5 _ _ _ HG1).trans rfl
    have HGb := Lib.hid HG1
    have HRep : Hid (repO own ls (some m.nrm) = if (!m.rp && (m.qn.toList == own.toList)) = true then some (rpM m ls) else none) := Lib.hid rfl
    have HAg : Hid ((m.qn.toList == own.toList) = true → (rpM m ls).Again) := Lib.hid (fun hq => by
      have hd : m.qn.data.toList = own.data.toList := by
        rw [Lib.toList_data, Lib.toList_data] at hq
        exact eq_of_beq hq
      exact rpM_again HOk.out HFi.out (by unfold lb16; rw [hd]; exact H16.out) HN.out HLs.out)
    have HM0c : Hid (m.cells[0]? = some (.int .i64 m.id)) := Lib.hid rfl
    have HM5c : Hid (m.cells[5]? = some (.string m.qn)) := Lib.hid rfl
    have HM6c : Hid (m.cells[6]? = some (.int .i64 m.qt)) := Lib.hid rfl
    have HRpM : Hid (rpM m ls = ⟨m.id, true, false, false, 0, m.qn, m.qt, none, 0, ansL m.qn m.qt ls, none, 0, []⟩) := Lib.hid rfl
    clear hb1 hok hfit hlie HG1 HOk HFi H16
    revert HB1 SM ZC OM HGb HM0c HM5c HM6c e1 e5
    generalize m.cells = MC
    intro HB1 SM ZC OM e1 e5 HGb HM0c HM5c HM6c
    revert HAg HRep HRpM
    generalize rpM m ls = R
    intro HRep HAg HRpM
    generalize m.id = id at HM0c HRpM
    generalize m.rp = rp at e1 HRep
    generalize m.qt = ty at HM6c HRpM
    generalize m.qn = S at e5 HRep HAg HM5c HRpM
    cases rp with
    | true =>
      have HR0 : Hid (repO own ls (some m.nrm) = none) := Lib.hid (by rw [HRep.out]; rfl)
      clear HRep HAg HRpM
      go_wp2_with (first
        | (refine wpList_alloc_z rfl 31 rfl zMsg ZM.out ?_; go_simp)
        | (refine wpList_store_new rfl 31 (.tmp 8) (.tmp 14) rfl w1.heap.size rfl zMsg MC 31 rfl rfl SM.out ZC.out OM.out ?_; go_simp))
      go_ret2
      exact ⟨HB1.out, .inl ⟨HR0.out, rfl⟩⟩
    | false =>
      cases hq : (S.toList == own.toList) with
      | false =>
        have HR0 : Hid (repO own ls (some m.nrm) = none) := Lib.hid (by rw [HRep.out, hq]; rfl)
        clear HRep HAg HRpM
        go_wp2_with (first
          | (refine wpList_alloc_z rfl 31 rfl zMsg ZM.out ?_; go_simp)
          | (refine wpList_store_new rfl 31 (.tmp 8) (.tmp 14) rfl w1.heap.size rfl zMsg MC 31 rfl rfl SM.out ZC.out OM.out ?_; go_simp))
        go_ret2
        exact ⟨HB1.out, .inl ⟨HR0.out, rfl⟩⟩
      | true =>
        have HR0 : Hid (repO own ls (some m.nrm) = some R) := Lib.hid (by rw [HRep.out, hq]; rfl)
        have HAgn := Lib.hid (HAg.out hq)
        clear HRep HAg
        go_upto_region 4 with (first
          | (refine wpList_alloc_z rfl 31 rfl zMsg ZM.out ?_; go_simp)
          | (refine wpList_store_new rfl 31 (.tmp 8) (.tmp 14) rfl w1.heap.size rfl zMsg MC 31 rfl rfl SM.out ZC.out OM.out ?_; go_simp))
        clear hq e1 e5
        have HRs : Hid (∀ W, LocsAt W AL ls → Calls Tryd.prog 14 #[.agg #[.string S, .int .i64 ty], .slice AL ls.length cl] W (RcPost W (ansL S ty ls))) := Lib.hid (fun W hW => HRcs.out S ty W hW)
        generalize ansL S ty ls = rs at HRpM HRs
        have HW0A : Hid (LocsAt (w1.alloc (.cells MC 31)) AL ls) := Lib.hid (HA.out.below HB1.out)
        generalize w1.heap.size = g at HGb ⊢
        generalize w1.alloc (.cells MC 31) = W0 at HB1 HGb HW0A ⊢
        have HRc : Hid (∀ W, Below W0.heap.size W0 W → Calls Tryd.prog 14 #[.agg #[.string S, .int .i64 ty], .slice AL ls.length cl] W (RcPost W rs)) := Lib.hid (fun W hb => HRs.out W (RowsAt.below HW0A.out hb))
        clear HRcs HRs
        go_cut [10] from 29 to 37 (fun t10 wx => ∃ g' A' c', t10 = .pointer (some ⟨g', 0, none⟩) ∧ Hid (ApFin rs W0 wx g' (RpC id S ty A' rs.length c') A'))
        case first =>
          have D0 : Hid (∀ W, Below W0.heap.size W0 W → W.cell? ⟨g, 0, none⟩ = some (.int .i64 id)) := Lib.hid (fun W hb => (cell_of_row W _ 0 _ _ _ ((hb.block _ (heap_lt HGb.out)).trans HGb.out)).trans HM0c.out)
          have RQ : Hid (∀ W, Below W0.heap.size W0 W → W.rangeAt g 5 [Value.string S, .int .i64 ty]) := Lib.hid (fun W hb j v hj => by
            rw [cell_of_row W _ _ _ _ _ ((hb.block _ (heap_lt HGb.out)).trans HGb.out)]
            have hj2 : j < 2 := (List.getElem?_eq_some_iff.1 hj).1
            rcases (show j = 0 ∨ j = 1 by omega) with rfl | rfl
            · exact HM5c.out.trans hj
            · exact HM6c.out.trans hj)
          have SQl : Hid ((Tryd.prog.info? 28).map (·.size) = some [Value.string S, .int .i64 ty].length) := Lib.hid sizeQl
          have BT : Hid (∀ (A' : Option Addr) (c' : Nat), Tryd.prog.built 31 [(0, .int .i64 id), (1, .bool true), (5, .agg [Value.string S, .int .i64 ty].toArray), (6, .slice A' rs.length c')] = some (RpC id S ty A' rs.length c')) := Lib.hid (fun A' c' => builtRp id S ty A' rs.length c')
          refine wp_region_held_drew (S := (fun W : World => Below W0.heap.size W0 W)) (by kernel_rfl) (Below.refl _ W0).drew (fun hHeld => ?_)
          have HM0 : Hid (ApAt rs W0 W0.drew none none) := Lib.hid ⟨(Below.refl _ W0).drew, (fun g h => by cases h), (fun g h => by cases h)⟩
          generalize W0.drew = V0 at HM0 hHeld ⊢
          refine wpAnyH_take (i := 0) (oi := ({ dst := some 29, op := Go.Op.fieldAddr 31 (Go.Operand.tmp 8) 0, type := 0, pos := "llmnr.go:25", after := #[], guard := none } : Oper)) (v := .pointer (some ⟨g, 0, none⟩)) rfl (by kernel_rfl) (by kernel_rfl) (by kernel_rfl) (fun _ _ _ h => h) (Or.inl ⟨by rfl, fun w' hS' => ?_⟩) hHeld ?_
          · go_simp
          try simp only [Act.put, List.setIfInBounds_toArray, List.set_cons_zero, List.set_cons_succ]
          refine wpAnyH_take (i := 1) (oi := ({ dst := some 30, op := Go.Op.load 3 (Go.Operand.tmp 29), type := 3, pos := "llmnr.go:25", after := #[{ on := 0, ground := Go.Ground.data }], guard := none } : Oper)) (v := .int .i64 id) rfl (by kernel_rfl) (by kernel_rfl) (by kernel_rfl) (fun _ _ _ h => h) (Or.inl ⟨by rfl, fun w' hS' => ?_⟩) hHeld ?_
          · have d := D0.out w' hS'; go_simp
          try simp only [Act.put, List.setIfInBounds_toArray, List.set_cons_zero, List.set_cons_succ]
          refine wpAnyH_take (i := 2) (oi := ({ dst := some 31, op := Go.Op.fieldAddr 31 (Go.Operand.tmp 8) 5, type := 0, pos := "llmnr.go:25", after := #[], guard := none } : Oper)) (v := .pointer (some ⟨g, 5, none⟩)) rfl (by kernel_rfl) (by kernel_rfl) (by kernel_rfl) (fun _ _ _ h => h) (Or.inl ⟨by rfl, fun w' hS' => ?_⟩) hHeld ?_
          · go_simp
          try simp only [Act.put, List.setIfInBounds_toArray, List.set_cons_zero, List.set_cons_succ]
          refine wpAnyH_take (i := 3) (oi := ({ dst := some 32, op := Go.Op.load 28 (Go.Operand.tmp 31), type := 28, pos := "llmnr.go:25", after := #[{ on := 2, ground := Go.Ground.data }], guard := none } : Oper)) (v := .agg [Value.string S, .int .i64 ty].toArray) rfl (by kernel_rfl) (by kernel_rfl) (by kernel_rfl) (fun _ _ _ h => h) (yieldsIf_load_mid (by rfl) _ _ rfl _ _ rfl _ _ (fun W h => RQ.out W h) Tryd.underlying28 rfl SQl.out) hHeld ?_
          try simp only [Act.put, List.setIfInBounds_toArray, List.set_cons_zero, List.set_cons_succ]
          refine wpAnyH_take (i := 4) (oi := ({ dst := some 33, op := Go.Op.fieldAddr 31 (Go.Operand.tmp 8) 5, type := 0, pos := "llmnr.go:25", after := #[], guard := none } : Oper)) (v := .pointer (some ⟨g, 5, none⟩)) rfl (by kernel_rfl) (by kernel_rfl) (by kernel_rfl) (fun _ _ _ h => h) (Or.inl ⟨by rfl, fun w' hS' => ?_⟩) hHeld ?_
          · go_simp
          try simp only [Act.put, List.setIfInBounds_toArray, List.set_cons_zero, List.set_cons_succ]
          refine wpAnyH_take (i := 5) (oi := ({ dst := some 34, op := Go.Op.load 28 (Go.Operand.tmp 33), type := 28, pos := "llmnr.go:25", after := #[{ on := 4, ground := Go.Ground.data }], guard := none } : Oper)) (v := .agg [Value.string S, .int .i64 ty].toArray) rfl (by kernel_rfl) (by kernel_rfl) (by kernel_rfl) (fun _ _ _ h => h) (yieldsIf_load_mid (by rfl) _ _ rfl _ _ rfl _ _ (fun W h => RQ.out W h) Tryd.underlying28 rfl SQl.out) hHeld ?_
          try simp only [Act.put, List.setIfInBounds_toArray, List.set_cons_zero, List.set_cons_succ]
          refine wpAnyH_take (i := 6) (oi := ({ dst := some 35, op := Go.Op.move (Go.Operand.tmp 1), type := 22, pos := "llmnr.go:25", after := #[], guard := none } : Oper)) (v := .slice AL ls.length cl) rfl (by kernel_rfl) (by kernel_rfl) (by kernel_rfl) (fun _ _ _ h => h) (Or.inl ⟨by rfl, fun w' hS' => ?_⟩) hHeld ?_
          · go_simp
          try simp only [Act.put, List.setIfInBounds_toArray, List.set_cons_zero, List.set_cons_succ]
          refine wpAnyH_ready (rs := [7, 9]) (by kernel_rfl) (by simp) ?_
          refine (AllReadyH.cons (o := ({ dst := some 36, op := Go.Op.call { callee := Go.Callee.value (Go.Operand.func 14), args := #[Go.Operand.tmp 34, Go.Operand.tmp 35], argTypes := #[28, 22] }, type := 29, pos := "llmnr.go:25", after := #[{ on := 5, ground := Go.Ground.data }, { on := 6, ground := Go.Ground.data }], guard := none } : Oper)) rfl (fun K hK => ?_) (AllReadyH.cons (o := ({ dst := some 10, op := Go.Op.alloc 31, type := 0, pos := "llmnr.go:25", after := #[], guard := none } : Oper)) rfl (fun K hK => ?_) AllReadyH.nil))
          · go_simp
            go_at_call 14
            refine (HRc.out _ HM0.out.below).mono ?_
            rintro e' u1 ⟨A', c', rfl, hbm, hmr⟩
            have HM2 := Lib.hid ((HM0.out.to hbm).withR hmr)
            refine hK.out _ _ HM2.out.below (fun hHeld => ?_)
            clear hK K hbm hmr
            try simp only [Act.put, List.setIfInBounds_toArray, List.set_cons_zero, List.set_cons_succ]
            refine wpAnyH_take (i := 8) (oi := ({ dst := some 37, op := Go.Op.build 31 #[(0, Go.Operand.tmp 30), (1, Go.Operand.const (Go.Value.bool true)), (5, Go.Operand.tmp 32), (6, Go.Operand.tmp 36)], type := 31, pos := "llmnr.go:25", after := #[{ on := 1, ground := Go.Ground.data }, { on := 3, ground := Go.Ground.data }, { on := 7, ground := Go.Ground.data }], guard := none } : Oper)) (v := .agg (RpC id S ty A' rs.length c')) rfl (by kernel_rfl) (by kernel_rfl) (by kernel_rfl) (fun _ _ _ h => h) (yieldsIf_build (by rfl) 31 #[(0, .tmp 30), (1, .const (.bool true)), (5, .tmp 32), (6, .tmp 36)] rfl [(0, .int .i64 id), (1, .bool true), (5, .agg [Value.string S, .int .i64 ty].toArray), (6, .slice A' rs.length c')] (RpC id S ty A' rs.length c') rfl (BT.out A' c')) hHeld ?_
            try simp only [Act.put, List.setIfInBounds_toArray, List.set_cons_zero, List.set_cons_succ]
            refine wpAnyH_ready (rs := [9]) (by kernel_rfl) (by simp) ?_
            refine (AllReadyH.cons (o := ({ dst := some 10, op := Go.Op.alloc 31, type := 0, pos := "llmnr.go:25", after := #[], guard := none } : Oper)) rfl (fun K hK => ?_) AllReadyH.nil)
            go_simp
            refine hK.out _ _ (HM2.out.below.alloc HM2.out.below.size _) (fun hHeld => ?_)
            clear hK K
            try simp only [Act.put, List.setIfInBounds_toArray, List.set_cons_zero, List.set_cons_succ]
            have HM4 := Lib.hid (HM2.out.withA)
            unfold zMsg at HM4
            generalize u1.alloc (.cells #[.int .i64 0, .bool false, .bool false, .bool false, .int .i64 0, .string ⟨#[]⟩, .int .i64 0, .slice none 0 0, .slice none 0 0] 31) = u3 at HM4 hHeld ⊢
            refine wpAnyH_ready (rs := [10]) (by kernel_rfl) (by simp) ?_
            refine (AllReadyH.cons (o := ({ dst := none, op := Go.Op.store 31 (Go.Operand.tmp 10) (Go.Operand.tmp 37), type := 0, pos := "llmnr.go:25", after := #[{ on := 9, ground := Go.Ground.data }, { on := 8, ground := Go.Ground.data }, { on := 7, ground := Go.Ground.chain }, { on := 0, ground := Go.Ground.phase }, { on := 1, ground := Go.Ground.phase }, { on := 2, ground := Go.Ground.phase }, { on := 3, ground := Go.Ground.phase }, { on := 4, ground := Go.Ground.phase }, { on := 5, ground := Go.Ground.phase }, { on := 6, ground := Go.Ground.phase }, { on := 7, ground := Go.Ground.phase }, { on := 8, ground := Go.Ground.phase }, { on := 9, ground := Go.Ground.phase }], guard := none } : Oper)) rfl (fun K hK => ?_) AllReadyH.nil)
            refine step_store_tr rfl 31 (.tmp 10) (.tmp 37) rfl (u1.heap.size) zMsg (RpC id S ty A' rs.length c') 31 (HM4.out.a _ rfl).1 rfl rfl sizeM9 rfl (RpC_one _ _ _ _ _ _) (fun w4 hg4 hw4 hs4 => ?_)
            have HFn := Lib.hid (HM4.out.fin hg4.out hw4.out)
            refine hK.out _ _ HFn.out.below (fun hHeld => ?_)
            clear hK K
            refine wpAnyH_done (by kernel_rfl) ?_ _
            try (go_wp2_with fail)
            go_meet
            case rel => exact ⟨_, A', c', rfl, HFn⟩
          · go_simp
            refine hK.out _ _ (HM0.out.below.alloc HM0.out.below.size _) (fun hHeld => ?_)
            clear hK K
            try simp only [Act.put, List.setIfInBounds_toArray, List.set_cons_zero, List.set_cons_succ]
            have HM6 := Lib.hid (HM0.out.withA)
            unfold zMsg at HM6
            generalize V0.alloc (.cells #[.int .i64 0, .bool false, .bool false, .bool false, .int .i64 0, .string ⟨#[]⟩, .int .i64 0, .slice none 0 0, .slice none 0 0] 31) = u5 at HM6 hHeld ⊢
            refine wpAnyH_ready (rs := [7]) (by kernel_rfl) (by simp) ?_
            refine (AllReadyH.cons (o := ({ dst := some 36, op := Go.Op.call { callee := Go.Callee.value (Go.Operand.func 14), args := #[Go.Operand.tmp 34, Go.Operand.tmp 35], argTypes := #[28, 22] }, type := 29, pos := "llmnr.go:25", after := #[{ on := 5, ground := Go.Ground.data }, { on := 6, ground := Go.Ground.data }], guard := none } : Oper)) rfl (fun K hK => ?_) AllReadyH.nil)
            go_simp
            go_at_call 14
            refine (HRc.out _ HM6.out.below).mono ?_
            rintro e' u7 ⟨A', c', rfl, hbm, hmr⟩
            have HM8 := Lib.hid ((HM6.out.to hbm).withR hmr)
            refine hK.out _ _ HM8.out.below (fun hHeld => ?_)
            clear hK K hbm hmr
            try simp only [Act.put, List.setIfInBounds_toArray, List.set_cons_zero, List.set_cons_succ]
            refine wpAnyH_take (i := 8) (oi := ({ dst := some 37, op := Go.Op.build 31 #[(0, Go.Operand.tmp 30), (1, Go.Operand.const (Go.Value.bool true)), (5, Go.Operand.tmp 32), (6, Go.Operand.tmp 36)], type := 31, pos := "llmnr.go:25", after := #[{ on := 1, ground := Go.Ground.data }, { on := 3, ground := Go.Ground.data }, { on := 7, ground := Go.Ground.data }], guard := none } : Oper)) (v := .agg (RpC id S ty A' rs.length c')) rfl (by kernel_rfl) (by kernel_rfl) (by kernel_rfl) (fun _ _ _ h => h) (yieldsIf_build (by rfl) 31 #[(0, .tmp 30), (1, .const (.bool true)), (5, .tmp 32), (6, .tmp 36)] rfl [(0, .int .i64 id), (1, .bool true), (5, .agg [Value.string S, .int .i64 ty].toArray), (6, .slice A' rs.length c')] (RpC id S ty A' rs.length c') rfl (BT.out A' c')) hHeld ?_
            try simp only [Act.put, List.setIfInBounds_toArray, List.set_cons_zero, List.set_cons_succ]
            refine wpAnyH_ready (rs := [10]) (by kernel_rfl) (by simp) ?_
            refine (AllReadyH.cons (o := ({ dst := none, op := Go.Op.store 31 (Go.Operand.tmp 10) (Go.Operand.tmp 37), type := 0, pos := "llmnr.go:25", after := #[{ on := 9, ground := Go.Ground.data }, { on := 8, ground := Go.Ground.data }, { on := 7, ground := Go.Ground.chain }, { on := 0, ground := Go.Ground.phase }, { on := 1, ground := Go.Ground.phase }, { on := 2, ground := Go.Ground.phase }, { on := 3, ground := Go.Ground.phase }, { on := 4, ground := Go.Ground.phase }, { on := 5, ground := Go.Ground.phase }, { on := 6, ground := Go.Ground.phase }, { on := 7, ground := Go.Ground.phase }, { on := 8, ground := Go.Ground.phase }, { on := 9, ground := Go.Ground.phase }], guard := none } : Oper)) rfl (fun K hK => ?_) AllReadyH.nil)
            refine step_store_tr rfl 31 (.tmp 10) (.tmp 37) rfl (V0.heap.size) zMsg (RpC id S ty A' rs.length c') 31 (HM8.out.a _ rfl).1 rfl rfl sizeM9 rfl (RpC_one _ _ _ _ _ _) (fun w4 hg4 hw4 hs4 => ?_)
            have HFn := Lib.hid (HM8.out.fin hg4.out hw4.out)
            refine hK.out _ _ HFn.out.below (fun hHeld => ?_)
            clear hK K
            refine wpAnyH_done (by kernel_rfl) ?_ _
            try (go_wp2_with fail)
            go_meet
            case rel => exact ⟨_, A', c', rfl, HFn⟩
        case rest =>
          obtain ⟨g', A', c', rfl, HF⟩ := hcut
          have HB2 := Lib.hid (HB1.out.trans (HF.out.below.mono HB1.out.size))
          have SR : Hid ((Tryd.prog.info? 31).map (·.size) = some (RpC id S ty A' rs.length c').size) := Lib.hid sizeM
          obtain ⟨M', hM'⟩ : ∃ M' : MV, M' = ⟨id, true, false, false, 0, S, ty, A', c', rs, none, 0, []⟩ := ⟨_, rfl⟩
          have hMn : M'.nrm = R := by rw [HRpM.out, hM']; rfl
          have hMc : RpC id S ty A' rs.length c' = M'.cells := by rw [hM']; rfl
          have hMa : M'.Again := by
            have h := HAgn.out
            rw [HRpM.out] at h
            rw [hM']
            exact ⟨h.ok, ⟨h.fits.qn, h.fits.an, h.fits.au, h.fits.la, h.fits.lu⟩, h.qn, h.an, h.au⟩
          have hMe : enc M'.msg = enc R.msg := by rw [HRpM.out, hM']; rfl
          have hMl : M'.Lies wc := by rw [hM']; exact ⟨HF.out.r, fun h => absurd h (by show ¬ 0 < 0; omega)⟩
          have HEn := Lib.hid (encode_again M' hMa wc (HE.out.below HB2.out) hMl)
          have HBk := Lib.hid HF.out.blk
          rw [← hMc] at HEn
          rw [hMe] at HEn
          have HLen : Hid (12 ≤ (enc R.msg).length) := Lib.hid (by rw [← hMe]; exact (enc_len hMa.ok hMa.fits).2)
          have HEnL : Hid (∀ gb cap w', EncIs wc w' M' gb cap → Below wc.heap.size wc w' ∧ (enc R.msg).length ≤ cap ∧ InB w' w'.heap.size (some ⟨gb, 0, none⟩) (enc R.msg)) := Lib.hid (fun gb cap w' h => ⟨h.below, by rw [← hMe]; exact h.le, by rw [← hMe]; exact h.inB⟩)
          clear hM' hMn hMc hMa hMe hMl HF
          generalize RpC id S ty A' rs.length c' = RC at HEn HBk SR
          go_wp2_with (first
            | (refine wpList_load_row rfl 31 (.tmp 10) rfl g' rfl 31 RC (0, 0) _ HBk.out Tryd.underlying31 rfl SR.out ?_; go_simp))
          refine HEn.out.mono ?_
          rintro e w3 ⟨gb, cap, rfl, hen⟩
          obtain ⟨h1, h2, h3⟩ := HEnL.out gb cap w3 hen
          have HX : Hid (Below w.heap.size w w3) := Lib.hid (HB2.out.trans (h1.mono HB2.out.size))
          have H2 := Lib.hid h2
          have H3 := Lib.hid h3
          clear hen h1 h2 h3
          go_wp2_with fail
          go_ret2
          exact ⟨HX.out, .inr ⟨R, gb, cap, HR0.out, HAgn.out, rfl, H2.out, H3.out, HLen.out⟩⟩
end Go.Proofs.YtakfokdjdljjjaaDoor
