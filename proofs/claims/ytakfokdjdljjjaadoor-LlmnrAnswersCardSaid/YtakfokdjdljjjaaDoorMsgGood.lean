/-
  The walk of msg.Decode for bytes whose head, question and records are read. Condition: the library's variable MaxLen holds some number; the bytes lie in memory.
-/
import Derived.Test.YtakfokdjdljjjaaDoorMsgFits
import Derived.Test.YtakfokdjdljjjaaDoorMsgEnc
namespace Go.Proofs.YtakfokdjdljjjaaDoor
open Go.RowKit

/-- what Decode answers where all is read: the message, if it may be -/
def GdPost (w : World) (b : List UInt8) (q : (List UInt8 × Nat) × Nat) (l : List Rec × Nat) (e : Ending) (w' : World) : Prop :=
  Below w.heap.size w w' ∧ ∃ m : MV, m.id = (hd b 0 : Nat) ∧ m.qn = bs q.1.1 ∧ m.qt = (q.1.2 : Nat) ∧ m.an = (l.1.take (hd b 3)).map RV.ofRec ∧ m.au = (l.1.drop (hd b 3)).map RV.ofRec ∧ m.Fits ∧
    m.rp = (bits BinOp.and .i64 (hd b 1 : Nat) 32768 != 0) ∧ m.tr = (bits BinOp.and .i64 (hd b 1 : Nat) 512 != 0) ∧ m.rc = (bits BinOp.and .i64 (hd b 1 : Nat) 256 != 0) ∧ m.code = bits BinOp.and .i64 (hd b 1 : Nat) 15 ∧
    ((mvOk m = true ∧ e = .returned (.tuple #[.agg m.cells, .int .i64 0]) ∧ m.Lies w') ∨ (mvOk m = false ∧ e = .returned (.tuple #[.agg zMsg, .int .i64 4])))
theorem RecsAt.move {w w' : World} {A : Option Addr} {rs : List RV} {base : Nat} (h : RecsAt w A rs) (hA : ∀ k o, A = some ⟨k, o, none⟩ → k ≠ base) (hk : ∀ k, k < w.heap.size → k ≠ base → w'.heap[k]? = w.heap[k]?) (hs : w.heap.size ≤ w'.heap.size) : RecsAt w' A rs := fun h0 => by
  obtain ⟨q, o, rfl, hlt, hc⟩ := h h0
  refine ⟨q, o, rfl, Nat.lt_of_lt_of_le hlt hs, fun k r hr j v hv => ?_⟩
  have h1 := hc k r hr j v hv
  rw [Addr.add_lit] at h1 ⊢
  exact (World.cell?_of_block (a := ⟨q, o + k * 21 + j, none⟩) (hk q hlt (hA q o rfl))).trans h1
/-- the message as it stands in memory ahead of the last test -/
structure GAt (base g gm : Nat) (w W : World) (m : MV) : Prop where
  z : W.heap[base]? = some (.cells zMsg 31 (0, 0))
  below : Below base w W
  wrong : W.cell? ⟨g, 2, none⟩ = some (.bool false)
  ms : W.heap[gm]? = some (.cells m.cells 31 (0, 0))
  lies : m.Lies W
  aNe : ∀ k o, m.A = some ⟨k, o, none⟩ → k ≠ base
  uNe : ∀ k o, m.U = some ⟨k, o, none⟩ → k ≠ base
theorem GAt.sets {base g gm c p : Nat} {w w6 : World} {A : Option Addr} {b : List UInt8} (X Y : Value) (m : MV) (G : Array Value) (hr : RIs base w6 g A c b p false) (hm : w6.heap[base]? = some (.cells zMsg 31 (0, 0))) (hb : Below base w w6) (h1 : base < g) (h2 : g < gm)
    (hG : w6.heap[gm]? = some (.cells G 31 (0, 0))) (hset : (G.setIfInBounds 7 X).setIfInBounds 8 Y = m.cells) (hl : m.Lies w6) (hA : ∀ k o, m.A = some ⟨k, o, none⟩ → gm < k) (hU : ∀ k o, m.U = some ⟨k, o, none⟩ → gm < k) :
    GAt base g gm w ((w6.setCell ⟨gm, 7, none⟩ X).setCell ⟨gm, 8, none⟩ Y).drew m := by
  have hk : ∀ k, k ≠ gm → ((w6.setCell ⟨gm, 7, none⟩ X).setCell ⟨gm, 8, none⟩ Y).drew.heap[k]? = w6.heap[k]? := fun k hne => (Below.heap_setCell (w6.setCell ⟨gm, 7, none⟩ X) ⟨gm, 8, none⟩ Y k hne).trans (Below.heap_setCell w6 ⟨gm, 7, none⟩ X k hne)
  have hs : w6.heap.size ≤ ((w6.setCell ⟨gm, 7, none⟩ X).setCell ⟨gm, 8, none⟩ Y).drew.heap.size := by
    show _ ≤ ((w6.setCell ⟨gm, 7, none⟩ X).setCell ⟨gm, 8, none⟩ Y).heap.size
    rw [World.size_setCell, World.size_setCell]; exact Nat.le_refl _
  refine ⟨(hk base (by omega)).trans hm, ((hb.setCell (p := ⟨gm, 7, none⟩) (by show base ≤ gm; omega) _).setCell (p := ⟨gm, 8, none⟩) (by show base ≤ gm; omega) _).drew, ?_, ?_, ⟨?_, ?_⟩, fun k o e => by have := hA k o e; omega, fun k o e => by have := hU k o e; omega⟩
  · exact cell_of_row _ g 2 _ _ _ ((hk g (by omega)).trans hr.blk)
  · rw [← hset]
    exact heap_setCell_same (w6.setCell ⟨gm, 7, none⟩ X) gm 8 _ _ _ (heap_setCell_same w6 gm 7 _ _ _ hG)
  · exact hl.an.move (base := gm) (fun k o e => by have := hA k o e; omega) (fun k _ hne => hk k hne) hs
  · exact hl.au.move (base := gm) (fun k o e => by have := hU k o e; omega) (fun k _ hne => hk k hne) hs
theorem GAt.later {base g gm : Nat} {w W W8 : World} {m : MV} (h : GAt base g gm w W m) (hg : g < W.heap.size) (hb : Below W.heap.size W W8) (h0 : base ≤ W.heap.size) : GAt base g gm w W8 m :=
  ⟨(hb.block base (heap_lt h.z)).trans h.z, h.below.trans (hb.mono h0), (hb.cell (p := ⟨g, 2, none⟩) hg).trans h.wrong, (hb.block gm (heap_lt h.ms)).trans h.ms, h.lies.below hb, h.aNe, h.uNe⟩
theorem GAt.fin {base g gm : Nat} {w W W8 : World} {m : MV} (h : GAt base g gm w W m) (hg : W.grownBy W8 (some base)) : m.Lies W8 :=
  ⟨h.lies.an.move (base := base) h.aNe (fun k hk hne => hg.block k hk (fun e => by injection e with e; exact hne e)) hg.size, h.lies.au.move (base := base) h.uNe (fun k hk hne => hg.block k hk (fun e => by injection e with e; exact hne e)) hg.size⟩
theorem MV.one (m : MV) : m.cells.all (·.oneCell') = true := by simp [MV.cells, Value.oneCell']
set_option maxRecDepth 100000 in
set_option maxHeartbeats 32000000 in
theorem decode_good (A : Option Addr) (c : Nat) (b : List UInt8) (w : World) (he : Env w) (hin : InB w w.heap.size A b) (hc : b.length ≤ c) (hl : b.length ≤ 140737488351232) (hn : A = none → c = 0)
    (h12 : 12 ≤ b.length) (hop : bits BinOp.and .i64 (hd b 1 : Nat) 30720 = 0) (hq1 : hd b 2 = 1) (hmx : max (hd b 3) (hd b 4) ≤ 32)
    (hrec : ∀ (W : World) (base g : Nat) (o' : Option Nat), Env W → 0 < base → RSt base W g A c b o' → Calls Tryd.prog 31 #[.pointer (some ⟨g, 0, none⟩)] W fun e w' => RecP base W g A c b (o'.bind (recF b)) e w')
    {q0 : (List UInt8 × Nat) × Nat} {l0 : List Rec × Nat} (hq0 : qF b 12 = some q0) (hl0 : recsF b q0.2 (hd b 3 + hd b 4) = some l0) :
    Calls Tryd.prog 10 #[.slice A b.length c] w (GdPost w b q0 l0) := by
  have HQ0 := Lib.hid hq0
  have HL0 := Lib.hid hl0
  have HFit := Lib.hid (recsF_fits hl hl0)
  have HREC := Lib.hid hrec
  have HOP := Lib.hid hop
  have HQ1 := Lib.hid hq1
  have HMX := Lib.hid hmx
  have HMax : Hid (0 < w.heap.size) := Lib.hid he.1
  have HE := Lib.hid he
  have HR0 : Hid (RIs w.heap.size (((w.alloc (.cells zMsg 31)).alloc (.cells #[.slice A b.length c, .int .i64 0, .bool false] 67)).alloc (.cells (hdC []) 61)) (w.heap.size + 1) A c b 0 false) := Lib.hid (by
    refine ⟨?_, ?_, by omega, hc, hl, by omega, fun _ => by omega, hn⟩
    · exact (Below.heap_alloc _ _ _ (by simp)).trans (by
        have := heap_alloc_last (w.alloc (.cells zMsg 31)) (.cells #[.slice A b.length c, .int .i64 0, .bool false] 67)
        rwa [World.size_alloc] at this)
    · exact hin.below ((((Below.refl _ w).alloc (Nat.le_refl _) _).alloc (by simp) _).alloc (by simp; omega) _))
  have HD0 : Hid (HAt w.heap.size w (((w.alloc (.cells zMsg 31)).alloc (.cells #[.slice A b.length c, .int .i64 0, .bool false] 67)).alloc (.cells (hdC []) 61)) (w.heap.size + 1) (w.heap.size + 2) A c b []) := Lib.hid ⟨⟨some 0, HR0.out, .inl ⟨rfl, fun j hj => absurd hj (by simp)⟩⟩, (fun x hx => by cases hx), by
      have := heap_alloc_last ((w.alloc (.cells zMsg 31)).alloc (.cells #[.slice A b.length c, .int .i64 0, .bool false] 67)) (.cells (hdC []) 61)
      rwa [World.size_alloc, World.size_alloc] at this,
    (Below.heap_alloc _ _ _ (by simp; omega)).trans ((Below.heap_alloc _ _ _ (by simp)).trans (heap_alloc_last w _)),
    (((Below.refl _ w).alloc (Nat.le_refl _) _).alloc (by simp) _).alloc (by simp; omega) _⟩
  clear HR0 hin hq0 hl0 he hrec hop hq1 hmx
  unfold hdC zMsg at HD0
  go_enter Tryd.func10, Tryd.ntmps10
  go_wp2_with fail
  obtain ⟨w0, hw0⟩ : ∃ w0, w0 = (((w.alloc (.cells #[.int .i64 0, .bool false, .bool false, .bool false, .int .i64 0, .string ⟨#[]⟩, .int .i64 0, .slice none 0 0, .slice none 0 0] 31)).alloc (.cells #[.slice A b.length c, .int .i64 0, .bool false] 67)).alloc (.cells #[.int .i64 0, .int .i64 0, .int .i64 0, .int .i64 0, .int .i64 0, .int .i64 0] 61)) := ⟨_, rfl⟩
  have HD1 : Hid (HAt w.heap.size w w0 (w.heap.size + 1) (w.heap.size + 2) A c b []) := Lib.hid (by rw [hw0]; exact HD0.out)
  try simp only [World.size_alloc]
  rw [← hw0]
  clear hw0 HD0
  go_loopw [17, 6] (fun i _ wr => ∃ xs : List Nat, xs.length ≤ 6 ∧ i = .int .i64 xs.length ∧ Hid (HAt w.heap.size w wr (w.heap.size + 1) (w.heap.size + 2) A c b xs)) (fun i _ _ => 6 - (intOf i).toNat)
  case atStart => exact ⟨[], by simp, rfl, HD1⟩
  case round =>
    obtain ⟨xs, hk, rfl, HD⟩ := hrel
    have hlt := heap_lt HD.out.hd
    obtain ⟨o, hst, ho⟩ := HD.out.r
    by_cases hk6 : xs.length < 6
    · have C := numberP w.heap.size (w.heap.size + 1) c 2 A b o wr hst (by omega)
      obtain ⟨v, hv⟩ : ∃ v, ((o.bind fun p => numF b p 2).map (·.1)).getD 0 = v := ⟨_, rfl⟩
      have hvb : v ≤ 65535 := by
        rw [← hv]
        have := numv_lt (b := b) (o := o) rfl
        omega
      unfold NumP at C
      rw [hv] at C
      have HNx : Hid (∀ w3, RSt w.heap.size w3 (w.heap.size + 1) A c b ((o.bind fun p => numF b p 2).map (·.2)) → wr.grownBy w3 (some (w.heap.size + 1)) → HAt w.heap.size w (w3.setCell ⟨w.heap.size + 2, xs.length, none⟩ (.int .i64 (v : Nat))) (w.heap.size + 1) (w.heap.size + 2) A c b (xs ++ [v])) := Lib.hid (fun w3 hr hg => HD.out.next hk6 (by omega) (by omega) hlt ho hr hg hv)
      have HC := fun (w3 : World) (hg : wr.grownBy w3 (some (w.heap.size + 1))) => (cell_of_row w3 (w.heap.size + 2) xs.length _ _ _ ((hg.block _ hlt (fun e => by injection e with e; omega)).trans HD.out.hd)).trans (hdC_at hk6)
      have HF := fun (w3 : World) (hg : wr.grownBy w3 (some (w.heap.size + 1))) => frozen_of_row w3 (w.heap.size + 2) xs.length _ _ ((hg.block _ hlt (fun e => by injection e with e; omega)).trans HD.out.hd)
      have HXL : Hid ((xs ++ [v]).length = xs.length + 1) := Lib.hid (by rw [List.length_append]; rfl)
      clear hv hk hst ho HD
      obtain ⟨k, hkx⟩ : ∃ k, k = xs.length := ⟨_, rfl⟩
      rw [← hkx] at HC HF HNx HXL hk6 ⊢
      clear hkx
      rcases (show k = 0 ∨ k = 1 ∨ k = 2 ∨ k = 3 ∨ k = 4 ∨ k = 5 by omega) with rfl | rfl | rfl | rfl | rfl | rfl
      all_goals
        go_wp2_with fail
        refine C.mono ?_
        rintro e w3 ⟨rfl, hr3, hg3⟩
        have d := HC w3 hg3
        have f := HF w3 hg3
        have HN3 := Lib.hid (HNx.out w3 hr3 hg3)
        have hs3 : w.heap.size + 2 < w3.heap.size := Nat.lt_of_lt_of_le hlt hg3.size
        clear HC HF hr3 hg3 C
        go_wp2_with fail
        go_roundw
        case rel => exact ⟨xs ++ [v], by rw [HXL.out]; omega, by rw [HXL.out]; first | rfl | go_num, HN3⟩
        case measure => simp [intOf]
    · obtain ⟨a0, a1, a2, a3, a4, a5, rfl⟩ := six (show xs.length = 6 by omega)
      have hh : wr.heap[w.heap.size + 2]? = some (.cells #[.int .i64 (a0 : Nat), .int .i64 (a1 : Nat), .int .i64 (a2 : Nat), .int .i64 (a3 : Nat), .int .i64 (a4 : Nat), .int .i64 (a5 : Nat)] 61 (0, 0)) := HD.out.hd
      have d0 := cell_of_row wr (w.heap.size + 2) 0 _ _ _ hh
      have d1 := cell_of_row wr (w.heap.size + 2) 1 _ _ _ hh
      have d2 := cell_of_row wr (w.heap.size + 2) 2 _ _ _ hh
      have d3 := cell_of_row wr (w.heap.size + 2) 3 _ _ _ hh
      have d4 := cell_of_row wr (w.heap.size + 2) 4 _ _ _ hh
      obtain ⟨p, hp⟩ := hst.blk
      have r2 := cell_of_row wr (w.heap.size + 1) 2 _ _ _ hp.blk
      simp only [List.getElem?_toArray, List.getElem?_cons_succ, List.getElem?_cons_zero] at d0 d1 d2 d3 d4 r2
      have HM := Lib.hid HD.out.ms
      have HB := Lib.hid HD.out.below
      have h1 := HD.out.lt a1 (by simp)
      have h3 := HD.out.lt a3 (by simp)
      have h4 := HD.out.lt a4 (by simp)
      have ho12 : o = some 12 := by
        cases o with
        | none => rcases ho with ⟨h, _⟩ | ⟨_, h⟩
                  · cases h
                  · omega
        | some p => rw [ho.six.1]
      subst ho12
      obtain ⟨_, _, e0, e1, e2, e3, e4⟩ := ho.six
      have hq := HOP.out
      rw [e1] at hq
      have e2' := HQ1.out
      rw [e2] at e2'
      subst e2'
      have hmx := HMX.out
      rw [e3, e4] at hmx
      have hb := HL0.out
      rw [e3, e4] at hb
      have HBD := Lib.hid hb
      have hlen := HFit.out.2
      rw [e3, e4] at hlen
      have HE0 := Lib.hid e0
      have HE1 := Lib.hid e1
      have HE3 := Lib.hid e3
      have HE4 := Lib.hid e4
      have h3' : a3 ≤ 32 := by omega
      have h4' : a4 ≤ 32 := by omega
      have hm32 : ¬ (32 : Int) < max (a3 : Int) (a4 : Int) := by omega
      have r2 : wr.cell? ⟨w.heap.size + 1, 2, none⟩ = some (.bool false) := r2
      have HRR := Lib.hid (show RIs w.heap.size wr (w.heap.size + 1) A c b 12 false from hst)
      clear hst ho hp hh HD hk hk6 HOP HQ1 HMX hmx hb e0 e1 e2 e3 e4 h1 h3 h4
      go_wp2_with fail
      go_quiet (fail)
      have HR2 : Hid (RIs w.heap.size (wr.drewN nq) (w.heap.size + 1) A c b 12 false) := Lib.hid (HRR.out.drewN _)
      have HM2 : Hid ((wr.drewN nq).heap[w.heap.size]? = some (.cells zMsg 31 (0, 0))) := Lib.hid HM.out
      have HB2 : Hid (Below w.heap.size w (wr.drewN nq)) := Lib.hid (HB.out.grown (grown_drewN wr nq (w.heap.size + 1)) (by omega) (fun k e => by injection e with e; omega))
      have hlt2 : w.heap.size + 2 < (wr.drewN nq).heap.size := hlt
      clear HRR HM HB d0 d1 d2 d3 d4 r2 hlt
      revert HR2 HM2 HB2 hlt2
      generalize wr.drewN nq = W
      intro HR2 HM2 HB2 hlt2
      have r2 := cell_of_row W (w.heap.size + 1) 2 _ _ _ HR2.out.blk
      simp only [List.getElem?_toArray, List.getElem?_cons_succ, List.getElem?_cons_zero] at r2
      have C := questionP w.heap.size (w.heap.size + 1) c A b (some 12) W (HE.out.base HB2.out HMax.out) HMax.out HR2.out
      rw [Option.bind_some] at C
      rw [HQ0.out] at C
      have ZM := Lib.hid zeroM
      have SG := Lib.hid sizeG
      have OG := Lib.hid oneG
      have ZG := Lib.hid zG
      have BG := Lib.hid builtG
      go_wp2_with fail
      refine C.mono ?_
      rintro e w4 ⟨s, t, rfl, ht, hst, hr4, hg4⟩
      obtain ⟨hs, htt⟩ := hst _ rfl
      have HSQ := Lib.hid hs
      have HTQ := Lib.hid htt
      have HR4 := Lib.hid hr4
      have HG4 := Lib.hid hg4
      obtain ⟨p4, hp4⟩ := hr4.blk
      have hglt : w.heap.size + 1 < w4.heap.size := hp4.lt
      have HB4 : Hid (Below w.heap.size w w4) := Lib.hid (HB2.out.grown HG4.out (by omega) (fun k e => by injection e with e; omega))
      clear C hst hr4 hg4 r2 hp4 hs htt
      have HCR : Hid (∀ (cs : Array Value), Calls Tryd.prog 22 #[.pointer (some ⟨w.heap.size + 1, 0, none⟩), .int .i64 ((a3 : Int) + (a4 : Int))] (w4.alloc (.cells cs 31)) fun e w' => RecsP w.heap.size (w4.alloc (.cells cs 31)) (w.heap.size + 1) A c b (recsF b q0.2 (a3 + a4)) (a3 + a4) e w') := Lib.hid (fun cs => by
        have h := recordsP w.heap.size (w.heap.size + 1) c (a3 + a4) A b (some q0.2) (w4.alloc (.cells cs 31)) (HE.out.base (HB4.out.alloc (by omega) _) HMax.out) HMax.out (HR4.out.grown ((Below.refl _ w4).alloc (Nat.le_refl _) _)) (by omega) (fun W o' hW hr => HREC.out W _ _ o' hW HMax.out hr)
        rw [Int.natCast_add] at h
        exact h)
      go_wp2_with (first
        | (refine wpList_build_v rfl 31 #[(0, .tmp 56), (1, .tmp 59), (2, .tmp 62), (3, .tmp 65), (4, .tmp 67), (5, .tmp 69)] rfl _ _ (BG.out _ _ _ _ _ _ _) rfl ?_; go_simp)
        | (refine wpList_alloc_z rfl 31 rfl zMsg ZM.out ?_; go_simp)
        | (refine wpList_store_new rfl 31 (.tmp 12) (.tmp 70) rfl w4.heap.size rfl zMsg _ 31 rfl rfl (SG.out _ _ _ _ _ _ _) (ZG.out _ _ _ _ _ _ _) (OG.out _ _ _ _ _ _ _) ?_; go_simp))
      refine (HCR.out _).mono ?_
      rintro e w6 ⟨v, rs, rfl, hrl, had, hown, hrs, hr6, hg6⟩
      rw [HBD.out] at hr6 hrs
      have hrs := hrs _ rfl
      have hr6 : RIs w.heap.size w6 (w.heap.size + 1) A c b l0.2 false := hr6
      have hgm := (hg6.block w4.heap.size (by simp) (fun e => by injection e with e; omega)).trans (heap_alloc_last w4 _)
      have hs6 := hg6.size
      rw [World.size_alloc] at hs6 hown
      have HM6 : Hid (w6.heap[w.heap.size]? = some (.cells zMsg 31 (0, 0))) := Lib.hid ((hg6.block w.heap.size (by simp; omega) (fun e => by injection e with e; omega)).trans ((Below.heap_alloc w4 _ _ (by omega)).trans ((HG4.out.block w.heap.size (by omega) (fun e => by injection e with e; omega)).trans HM2.out)))
      have HB6 : Hid (Below w.heap.size w w6) := Lib.hid ((HB4.out.alloc (by omega) _).grown hg6 (by simp; omega) (fun k e => by injection e with e; omega))
      have HR6 := Lib.hid hr6
      have d7 := cell_of_row w6 w4.heap.size 7 _ _ _ hgm
      have f7 := frozen_of_row w6 w4.heap.size 7 _ _ hgm
      have d8 := cell_of_row w6 w4.heap.size 8 _ _ _ hgm
      have f8 := frozen_of_row w6 w4.heap.size 8 _ _ hgm
      unfold gMsg at d7 d8
      simp only [List.getElem?_toArray, List.getElem?_cons_succ, List.getElem?_cons_zero] at d7 d8
      have HOWN := Lib.hid hown
      have hv : (v = .slice none 0 0 ∧ a3 + a4 = 0) ∨ ∃ g2 cap, v = .slice (some ⟨g2, 0, none⟩) (a3 + a4) cap ∧ a3 + a4 ≤ cap ∧ cap ≤ maxLen ∧ w4.heap.size < g2 ∧ g2 < w6.heap.size ∧ ∀ i u, (rcs rs)[i]? = some u → w6.cell? ⟨g2, i, none⟩ = some u := by
        rcases hown.2 with h | ⟨g2, cap, cur, hv, hb2, hg2, h1, h2, h3⟩
        · exact .inl h
        · refine .inr ⟨g2, cap, hv, h1, h2, by omega, heap_lt hg2, fun i u hu => ?_⟩
          have := hown.cells (g := g2) (by rw [hv]; rfl) i u hu
          rwa [Addr.add_lit, Nat.zero_add] at this
      have HRF : Hid (∀ r ∈ rs, r.Fits) := Lib.hid (by rw [hrs]; exact HFit.out.1)
      have HRS := Lib.hid hrs
      have HAD := Lib.hid had
      have HRL := Lib.hid hrl
      clear hr6 hg6 hown hrl had hrs HCR HR4 HG4 HB4 HM2 HB2 HR2 BG ZG OG SG HREC HBD HFit
      revert hgm d7 f7 d8 f8
      generalize hx : (bits BinOp.and IntKind.i64 (a1 : Nat) 32768 != 0) = x
      generalize hy : (bits BinOp.and IntKind.i64 (a1 : Nat) 512 != 0) = y
      generalize hz : (bits BinOp.and IntKind.i64 (a1 : Nat) 256 != 0) = z
      generalize hdd : bits BinOp.and IntKind.i64 (a1 : Nat) 15 = d
      have HX := Lib.hid hx
      have HY := Lib.hid hy
      have HZ := Lib.hid hz
      have HDd := Lib.hid hdd
      clear hx hy hz hdd
      generalize hG : gMsg a0 x y z d s t = G
      have HGe := Lib.hid hG.symm
      clear hG
      generalize w4.heap.size = gm at hglt hs6 hv ⊢
      intro hgm d7 f7 d8 f8
      have HGM := Lib.hid hgm
      have BZ := Lib.hid zeroBuilt
      have OZ := Lib.hid oneZ
      have SZ : Hid ((Tryd.prog.info? 31).map (·.size) = some zMsg.size) := Lib.hid sizeM
      clear hgm
      rcases hv with ⟨rfl, h0⟩ | ⟨g2, cap, rfl, hcap, hcm, hg2m, hg2l, hcells⟩
      · obtain ⟨rfl, rfl⟩ : a3 = 0 ∧ a4 = 0 := by omega
        obtain ⟨m, hm⟩ : ∃ m : MV, m = ⟨(a0 : Nat), x, y, z, d, s, (t : Nat), none, 0, [], none, 0, []⟩ := ⟨_, rfl⟩
        have HM0 : Hid (m.id = (hd b 0 : Nat) ∧ m.qn = bs q0.1.1 ∧ m.qt = (q0.1.2 : Nat) ∧ m.an = (l0.1.take (hd b 3)).map RV.ofRec ∧ m.au = (l0.1.drop (hd b 3)).map RV.ofRec ∧
            m.rp = (bits BinOp.and .i64 (hd b 1 : Nat) 32768 != 0) ∧ m.tr = (bits BinOp.and .i64 (hd b 1 : Nat) 512 != 0) ∧ m.rc = (bits BinOp.and .i64 (hd b 1 : Nat) 256 != 0) ∧ m.code = bits BinOp.and .i64 (hd b 1 : Nat) 15) := Lib.hid (by
          rw [hm, HE0.out, HE1.out, HE3.out, List.map_take, List.map_drop, ← HRS.out]
          exact ⟨rfl, HSQ.out, by rw [HTQ.out], by rw [List.length_eq_zero_iff.1 (HRL.out.trans h0)]; rfl, by rw [List.length_eq_zero_iff.1 (HRL.out.trans h0)]; rfl, HX.out.symm, HY.out.symm, HZ.out.symm, HDd.out.symm⟩)
        have HFm : Hid m.Fits := Lib.hid (by
          rw [hm]
          exact ⟨by show s.size ≤ _; rw [HSQ.out, bs_size]; have := qF_len HQ0.out; unfold maxLen; omega, fun r hr => HRF.out r (by cases hr), fun r hr => HRF.out r (by cases hr), Nat.zero_le _, Nat.zero_le _⟩)
        have HMc : Hid (GAt w.heap.size (w.heap.size + 1) gm w ((w6.setCell ⟨gm, 7, none⟩ (.slice none 0 0)).setCell ⟨gm, 8, none⟩ (.slice none 0 0)).drew m) := Lib.hid (by
          refine GAt.sets (.slice none 0 0) (.slice none 0 0) m G HR6.out HM6.out HB6.out (by omega) (by omega) HGM.out ?_ ?_ ?_ ?_
          · rw [hm, HGe.out]
            unfold gMsg MV.cells; simp only []; rfl
          · rw [hm]
            exact ⟨fun h => absurd h (by simp), fun h => absurd h (by simp)⟩
          · rw [hm]
            intro k o e
            cases e
          · rw [hm]
            intro k o e
            cases e)
        clear hm
        go_wp2_with fail
        go_region
        revert HMc
        generalize ((w6.setCell ⟨gm, 7, none⟩ (.slice none 0 0)).setCell ⟨gm, 8, none⟩ (.slice none 0 0)).drew = W7
        intro HK
        have k3 := HK.out.wrong
        have hgW := heap_lt HK.out.ms
        have hbW : w.heap.size < W7.heap.size := heap_lt HK.out.z
        have HAll := Lib.hid (all_mv m HFm.out W7 (HE.out.base HK.out.below HMax.out) HK.out.lies)
        obtain ⟨C, hC⟩ : ∃ C, C = m.cells := ⟨_, rfl⟩
        have HCe := Lib.hid hC
        have SC : Hid ((Tryd.prog.info? 31).map (·.size) = some C.size) := Lib.hid (by rw [hC]; exact sizeM)
        have ZC : Hid (zMsg.size = C.size) := Lib.hid (by rw [hC]; rfl)
        have OC : Hid (C.all (·.oneCell') = true) := Lib.hid (by rw [hC]; exact MV.one m)
        have HMS : Hid (W7.heap[gm]? = some (.cells C 31 (0, 0))) := Lib.hid (by rw [hC]; exact HK.out.ms)
        rw [← hC] at HAll
        clear hC d7 f7 d8 f8
        cases hok : mvOk m with
        | true =>
          rw [hok] at HAll
          have HOK := Lib.hid hok
          clear hok
          go_wp2_with (first
            | (refine wpList_row_gh 31 (.tmp 12) (by kernel_rfl) rfl gm rfl 31 C (0, 0) _ HMS.out Tryd.underlying31 rfl SC.out ?_; go_simp))
          refine HAll.out.mono ?_
          rintro e w8 ⟨rfl, hb8, _⟩
          have HK8 := Lib.hid (HK.out.later (by omega) hb8 (by omega))
          clear hb8 k3
          go_wp2_with (first
            | (refine wpList_load_row rfl 31 (.tmp 12) rfl gm rfl 31 C (0, 0) _ (by rw [HCe.out]; exact HK8.out.ms) Tryd.underlying31 rfl SC.out ?_; go_simp)
            | (refine wpList_store_blk rfl 31 (.tmp 2) (.tmp 95) rfl w.heap.size zMsg C 31 HK8.out.z rfl rfl SC.out ZC.out OC.out ?_; intro w9 hg9 hw9 hz9; go_simp))
          exact bodyPost_ret (results_cell_tmp rfl _ w9 w.heap.size 31 C (0, 0) _ rfl hg9.out Tryd.underlying31 rfl SC.out) rfl ⟨HK8.out.below.grown hw9.out HK8.out.below.size (fun k e => by injection e with e; omega), m, HM0.out.1, HM0.out.2.1, HM0.out.2.2.1, HM0.out.2.2.2.1, HM0.out.2.2.2.2.1, HFm.out, HM0.out.2.2.2.2.2.1, HM0.out.2.2.2.2.2.2.1, HM0.out.2.2.2.2.2.2.2.1, HM0.out.2.2.2.2.2.2.2.2, .inl ⟨HOK.out, by rw [← HCe.out]; rfl, HK8.out.fin hw9.out⟩⟩
        | false =>
          rw [hok] at HAll
          have HOK := Lib.hid hok
          clear hok
          go_wp2_with (first
            | (refine wpList_row_gh 31 (.tmp 12) (by kernel_rfl) rfl gm rfl 31 C (0, 0) _ HMS.out Tryd.underlying31 rfl SC.out ?_; go_simp))
          refine HAll.out.mono ?_
          rintro e w8 ⟨rfl, hb8, _⟩
          have HK8 := Lib.hid (HK.out.later (by omega) hb8 (by omega))
          clear hb8 k3
          go_wp2_with (first
            | (refine wpList_build_v rfl 31 #[] rfl [] zMsg BZ.out rfl ?_; go_simp)
            | (refine wpList_store_blk rfl 31 (.tmp 2) (.tmp 94) rfl w.heap.size zMsg zMsg 31 HK8.out.z rfl rfl SZ.out rfl OZ.out ?_; intro w9 hg9 hw9 hz9; go_simp))
          exact bodyPost_ret (results_cell_tmp rfl _ w9 w.heap.size 31 zMsg (0, 0) _ rfl hg9.out Tryd.underlying31 rfl SZ.out) rfl ⟨HK8.out.below.grown hw9.out HK8.out.below.size (fun k e => by injection e with e; omega), m, HM0.out.1, HM0.out.2.1, HM0.out.2.2.1, HM0.out.2.2.2.1, HM0.out.2.2.2.2.1, HFm.out, HM0.out.2.2.2.2.2.1, HM0.out.2.2.2.2.2.2.1, HM0.out.2.2.2.2.2.2.2.1, HM0.out.2.2.2.2.2.2.2.2, .inr ⟨HOK.out, rfl⟩⟩
      · unfold maxLen at hcm
        have HCC := Lib.hid hcells
        clear hcells
        by_cases hc3 : cap = a3
        · subst hc3
          obtain rfl : a4 = 0 := by omega
          obtain ⟨m, hm⟩ : ∃ m : MV, m = ⟨(a0 : Nat), x, y, z, d, s, (t : Nat), some ⟨g2, 0, none⟩, cap, rs, some ⟨g2, 0, none⟩, 0, []⟩ := ⟨_, rfl⟩
          have HM0 : Hid (m.id = (hd b 0 : Nat) ∧ m.qn = bs q0.1.1 ∧ m.qt = (q0.1.2 : Nat) ∧ m.an = (l0.1.take (hd b 3)).map RV.ofRec ∧ m.au = (l0.1.drop (hd b 3)).map RV.ofRec ∧
              m.rp = (bits BinOp.and .i64 (hd b 1 : Nat) 32768 != 0) ∧ m.tr = (bits BinOp.and .i64 (hd b 1 : Nat) 512 != 0) ∧ m.rc = (bits BinOp.and .i64 (hd b 1 : Nat) 256 != 0) ∧ m.code = bits BinOp.and .i64 (hd b 1 : Nat) 15) := Lib.hid (by
            rw [hm, HE0.out, HE1.out, HE3.out, List.map_take, List.map_drop, ← HRS.out]
            exact ⟨rfl, HSQ.out, by rw [HTQ.out], (List.take_of_length_le (by rw [HRL.out]; omega)).symm, (List.drop_eq_nil_of_le (by rw [HRL.out]; omega)).symm, HX.out.symm, HY.out.symm, HZ.out.symm, HDd.out.symm⟩)
          have HFm : Hid m.Fits := Lib.hid (by
            rw [hm]
            exact ⟨by show s.size ≤ _; rw [HSQ.out, bs_size]; have := qF_len HQ0.out; unfold maxLen; omega, fun r hr => HRF.out r (hr), fun r hr => HRF.out r (by cases hr), by show rs.length ≤ _; rw [HRL.out]; omega, Nat.zero_le _⟩)
          have HMc : Hid (GAt w.heap.size (w.heap.size + 1) gm w ((w6.setCell ⟨gm, 7, none⟩ (.slice (some ⟨g2, 0, none⟩) cap cap)).setCell ⟨gm, 8, none⟩ (.slice (some ⟨g2, 0, none⟩) 0 0)).drew m) := Lib.hid (by
            refine GAt.sets (.slice (some ⟨g2, 0, none⟩) cap cap) (.slice (some ⟨g2, 0, none⟩) 0 0) m G HR6.out HM6.out HB6.out (by omega) (by omega) HGM.out ?_ ?_ ?_ ?_
            · rw [hm, HGe.out]
              unfold gMsg MV.cells; simp only []; rw [HRL.out]; rfl
            · rw [hm]
              exact ⟨recs_part HCC.out hg2l HAD.out 0 rs (fun i r h => by rw [Nat.zero_add]; exact h) rfl, fun h => absurd h (by simp)⟩
            · rw [hm]
              intro k o e
              injection e with e; injection e with e _ _; omega
            · rw [hm]
              intro k o e
              injection e with e; injection e with e _ _; omega)
          clear hm
          go_wp2_with fail
          go_region
          revert HMc
          generalize ((w6.setCell ⟨gm, 7, none⟩ (.slice (some ⟨g2, 0, none⟩) cap cap)).setCell ⟨gm, 8, none⟩ (.slice (some ⟨g2, 0, none⟩) 0 0)).drew = W7
          intro HK
          have k3 := HK.out.wrong
          have hgW := heap_lt HK.out.ms
          have hbW : w.heap.size < W7.heap.size := heap_lt HK.out.z
          have HAll := Lib.hid (all_mv m HFm.out W7 (HE.out.base HK.out.below HMax.out) HK.out.lies)
          obtain ⟨C, hC⟩ : ∃ C, C = m.cells := ⟨_, rfl⟩
          have HCe := Lib.hid hC
          have SC : Hid ((Tryd.prog.info? 31).map (·.size) = some C.size) := Lib.hid (by rw [hC]; exact sizeM)
          have ZC : Hid (zMsg.size = C.size) := Lib.hid (by rw [hC]; rfl)
          have OC : Hid (C.all (·.oneCell') = true) := Lib.hid (by rw [hC]; exact MV.one m)
          have HMS : Hid (W7.heap[gm]? = some (.cells C 31 (0, 0))) := Lib.hid (by rw [hC]; exact HK.out.ms)
          rw [← hC] at HAll
          clear hC d7 f7 d8 f8
          cases hok : mvOk m with
          | true =>
            rw [hok] at HAll
            have HOK := Lib.hid hok
            clear hok
            go_wp2_with (first
              | (refine wpList_row_gh 31 (.tmp 12) (by kernel_rfl) rfl gm rfl 31 C (0, 0) _ HMS.out Tryd.underlying31 rfl SC.out ?_; go_simp))
            refine HAll.out.mono ?_
            rintro e w8 ⟨rfl, hb8, _⟩
            have HK8 := Lib.hid (HK.out.later (by omega) hb8 (by omega))
            clear hb8 k3
            go_wp2_with (first
              | (refine wpList_load_row rfl 31 (.tmp 12) rfl gm rfl 31 C (0, 0) _ (by rw [HCe.out]; exact HK8.out.ms) Tryd.underlying31 rfl SC.out ?_; go_simp)
              | (refine wpList_store_blk rfl 31 (.tmp 2) (.tmp 95) rfl w.heap.size zMsg C 31 HK8.out.z rfl rfl SC.out ZC.out OC.out ?_; intro w9 hg9 hw9 hz9; go_simp))
            exact bodyPost_ret (results_cell_tmp rfl _ w9 w.heap.size 31 C (0, 0) _ rfl hg9.out Tryd.underlying31 rfl SC.out) rfl ⟨HK8.out.below.grown hw9.out HK8.out.below.size (fun k e => by injection e with e; omega), m, HM0.out.1, HM0.out.2.1, HM0.out.2.2.1, HM0.out.2.2.2.1, HM0.out.2.2.2.2.1, HFm.out, HM0.out.2.2.2.2.2.1, HM0.out.2.2.2.2.2.2.1, HM0.out.2.2.2.2.2.2.2.1, HM0.out.2.2.2.2.2.2.2.2, .inl ⟨HOK.out, by rw [← HCe.out]; rfl, HK8.out.fin hw9.out⟩⟩
          | false =>
            rw [hok] at HAll
            have HOK := Lib.hid hok
            clear hok
            go_wp2_with (first
              | (refine wpList_row_gh 31 (.tmp 12) (by kernel_rfl) rfl gm rfl 31 C (0, 0) _ HMS.out Tryd.underlying31 rfl SC.out ?_; go_simp))
            refine HAll.out.mono ?_
            rintro e w8 ⟨rfl, hb8, _⟩
            have HK8 := Lib.hid (HK.out.later (by omega) hb8 (by omega))
            clear hb8 k3
            go_wp2_with (first
              | (refine wpList_build_v rfl 31 #[] rfl [] zMsg BZ.out rfl ?_; go_simp)
              | (refine wpList_store_blk rfl 31 (.tmp 2) (.tmp 94) rfl w.heap.size zMsg zMsg 31 HK8.out.z rfl rfl SZ.out rfl OZ.out ?_; intro w9 hg9 hw9 hz9; go_simp))
            exact bodyPost_ret (results_cell_tmp rfl _ w9 w.heap.size 31 zMsg (0, 0) _ rfl hg9.out Tryd.underlying31 rfl SZ.out) rfl ⟨HK8.out.below.grown hw9.out HK8.out.below.size (fun k e => by injection e with e; omega), m, HM0.out.1, HM0.out.2.1, HM0.out.2.2.1, HM0.out.2.2.2.1, HM0.out.2.2.2.2.1, HFm.out, HM0.out.2.2.2.2.2.1, HM0.out.2.2.2.2.2.2.1, HM0.out.2.2.2.2.2.2.2.1, HM0.out.2.2.2.2.2.2.2.2, .inr ⟨HOK.out, rfl⟩⟩
        · have hc3' : ¬ (cap : Int) = (a3 : Int) := by omega
          obtain ⟨m, hm⟩ : ∃ m : MV, m = ⟨(a0 : Nat), x, y, z, d, s, (t : Nat), some ⟨g2, 0, none⟩, a3, rs.take a3, some ⟨g2, a3 * 21, none⟩, cap - a3, rs.drop a3⟩ := ⟨_, rfl⟩
          have HM0 : Hid (m.id = (hd b 0 : Nat) ∧ m.qn = bs q0.1.1 ∧ m.qt = (q0.1.2 : Nat) ∧ m.an = (l0.1.take (hd b 3)).map RV.ofRec ∧ m.au = (l0.1.drop (hd b 3)).map RV.ofRec ∧
              m.rp = (bits BinOp.and .i64 (hd b 1 : Nat) 32768 != 0) ∧ m.tr = (bits BinOp.and .i64 (hd b 1 : Nat) 512 != 0) ∧ m.rc = (bits BinOp.and .i64 (hd b 1 : Nat) 256 != 0) ∧ m.code = bits BinOp.and .i64 (hd b 1 : Nat) 15) := Lib.hid (by
            rw [hm, HE0.out, HE1.out, HE3.out, List.map_take, List.map_drop, ← HRS.out]
            exact ⟨rfl, HSQ.out, by rw [HTQ.out], rfl, rfl, HX.out.symm, HY.out.symm, HZ.out.symm, HDd.out.symm⟩)
          have HFm : Hid m.Fits := Lib.hid (by
            rw [hm]
            exact ⟨by show s.size ≤ _; rw [HSQ.out, bs_size]; have := qF_len HQ0.out; unfold maxLen; omega, fun r hr => HRF.out r (List.mem_of_mem_take hr), fun r hr => HRF.out r (List.mem_of_mem_drop hr), by show (rs.take a3).length ≤ _; rw [List.length_take]; omega, by show (rs.drop a3).length ≤ _; rw [List.length_drop, HRL.out]; omega⟩)
          have HMc : Hid (GAt w.heap.size (w.heap.size + 1) gm w ((w6.setCell ⟨gm, 7, none⟩ (.slice (some ⟨g2, 0, none⟩) a3 a3)).setCell ⟨gm, 8, none⟩ (.slice (some ⟨g2, a3 * 21, none⟩) a4 (cap - a3))).drew m) := Lib.hid (by
            refine GAt.sets (.slice (some ⟨g2, 0, none⟩) a3 a3) (.slice (some ⟨g2, a3 * 21, none⟩) a4 (cap - a3)) m G HR6.out HM6.out HB6.out (by omega) (by omega) HGM.out ?_ ?_ ?_ ?_
            · rw [hm, HGe.out]
              unfold gMsg MV.cells; simp only []; rw [List.length_take, List.length_drop, HRL.out, Nat.min_eq_left (by omega), Nat.add_sub_cancel_left]; rfl
            · rw [hm]
              exact ⟨recs_part HCC.out hg2l HAD.out 0 (rs.take a3) (fun i r h => by rw [Nat.zero_add]; rw [List.getElem?_take] at h; split at h; exact h; cases h) rfl, recs_part HCC.out hg2l HAD.out a3 (rs.drop a3) (fun i r h => by rw [List.getElem?_drop] at h; exact h) rfl⟩
            · rw [hm]
              intro k o e
              injection e with e; injection e with e _ _; omega
            · rw [hm]
              intro k o e
              injection e with e; injection e with e _ _; omega)
          clear hm
          go_wp2_with fail
          go_region
          revert HMc
          generalize ((w6.setCell ⟨gm, 7, none⟩ (.slice (some ⟨g2, 0, none⟩) a3 a3)).setCell ⟨gm, 8, none⟩ (.slice (some ⟨g2, a3 * 21, none⟩) a4 (cap - a3))).drew = W7
          intro HK
          have k3 := HK.out.wrong
          have hgW := heap_lt HK.out.ms
          have hbW : w.heap.size < W7.heap.size := heap_lt HK.out.z
          have HAll := Lib.hid (all_mv m HFm.out W7 (HE.out.base HK.out.below HMax.out) HK.out.lies)
          obtain ⟨C, hC⟩ : ∃ C, C = m.cells := ⟨_, rfl⟩
          have HCe := Lib.hid hC
          have SC : Hid ((Tryd.prog.info? 31).map (·.size) = some C.size) := Lib.hid (by rw [hC]; exact sizeM)
          have ZC : Hid (zMsg.size = C.size) := Lib.hid (by rw [hC]; rfl)
          have OC : Hid (C.all (·.oneCell') = true) := Lib.hid (by rw [hC]; exact MV.one m)
          have HMS : Hid (W7.heap[gm]? = some (.cells C 31 (0, 0))) := Lib.hid (by rw [hC]; exact HK.out.ms)
          rw [← hC] at HAll
          clear hC d7 f7 d8 f8
          cases hok : mvOk m with
          | true =>
            rw [hok] at HAll
            have HOK := Lib.hid hok
            clear hok
            go_wp2_with (first
              | (refine wpList_row_gh 31 (.tmp 12) (by kernel_rfl) rfl gm rfl 31 C (0, 0) _ HMS.out Tryd.underlying31 rfl SC.out ?_; go_simp))
            refine HAll.out.mono ?_
            rintro e w8 ⟨rfl, hb8, _⟩
            have HK8 := Lib.hid (HK.out.later (by omega) hb8 (by omega))
            clear hb8 k3
            go_wp2_with (first
              | (refine wpList_load_row rfl 31 (.tmp 12) rfl gm rfl 31 C (0, 0) _ (by rw [HCe.out]; exact HK8.out.ms) Tryd.underlying31 rfl SC.out ?_; go_simp)
              | (refine wpList_store_blk rfl 31 (.tmp 2) (.tmp 95) rfl w.heap.size zMsg C 31 HK8.out.z rfl rfl SC.out ZC.out OC.out ?_; intro w9 hg9 hw9 hz9; go_simp))
            exact bodyPost_ret (results_cell_tmp rfl _ w9 w.heap.size 31 C (0, 0) _ rfl hg9.out Tryd.underlying31 rfl SC.out) rfl ⟨HK8.out.below.grown hw9.out HK8.out.below.size (fun k e => by injection e with e; omega), m, HM0.out.1, HM0.out.2.1, HM0.out.2.2.1, HM0.out.2.2.2.1, HM0.out.2.2.2.2.1, HFm.out, HM0.out.2.2.2.2.2.1, HM0.out.2.2.2.2.2.2.1, HM0.out.2.2.2.2.2.2.2.1, HM0.out.2.2.2.2.2.2.2.2, .inl ⟨HOK.out, by rw [← HCe.out]; rfl, HK8.out.fin hw9.out⟩⟩
          | false =>
            rw [hok] at HAll
            have HOK := Lib.hid hok
            clear hok
            go_wp2_with (first
              | (refine wpList_row_gh 31 (.tmp 12) (by kernel_rfl) rfl gm rfl 31 C (0, 0) _ HMS.out Tryd.underlying31 rfl SC.out ?_; go_simp))
            refine HAll.out.mono ?_
            rintro e w8 ⟨rfl, hb8, _⟩
            have HK8 := Lib.hid (HK.out.later (by omega) hb8 (by omega))
            clear hb8 k3
            go_wp2_with (first
              | (refine wpList_build_v rfl 31 #[] rfl [] zMsg BZ.out rfl ?_; go_simp)
              | (refine wpList_store_blk rfl 31 (.tmp 2) (.tmp 94) rfl w.heap.size zMsg zMsg 31 HK8.out.z rfl rfl SZ.out rfl OZ.out ?_; intro w9 hg9 hw9 hz9; go_simp))
            exact bodyPost_ret (results_cell_tmp rfl _ w9 w.heap.size 31 zMsg (0, 0) _ rfl hg9.out Tryd.underlying31 rfl SZ.out) rfl ⟨HK8.out.below.grown hw9.out HK8.out.below.size (fun k e => by injection e with e; omega), m, HM0.out.1, HM0.out.2.1, HM0.out.2.2.1, HM0.out.2.2.2.1, HM0.out.2.2.2.2.1, HFm.out, HM0.out.2.2.2.2.2.1, HM0.out.2.2.2.2.2.2.1, HM0.out.2.2.2.2.2.2.2.1, HM0.out.2.2.2.2.2.2.2.2, .inr ⟨HOK.out, rfl⟩⟩
end Go.Proofs.YtakfokdjdljjjaaDoor
