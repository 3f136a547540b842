/-
  The walk of msg.Decode for bytes that hold a question and no records. Condition: the library's variable MaxLen holds some number; the bytes lie in memory.
-/
import Derived.Test.YtakfokdjdljjjaaDoorMsgRQ
namespace Go.Proofs.YtakfokdjdljjjaaDoor
open Go.RowKit

def hdCells (V : List Nat) (k : Nat) : Array Value := ((V.take k).map (fun n => Value.int .i64 (n : Nat)) ++ List.replicate (6 - k) (Value.int .i64 0)).toArray
def zMsg : Array Value := #[.int .i64 0, .bool false, .bool false, .bool false, .int .i64 0, .string ⟨#[]⟩, .int .i64 0, .slice none 0 0, .slice none 0 0]
def dMsg (id : Nat) (s : ByteArray) (t : Nat) : Array Value := #[.int .i64 (id : Nat), .bool false, .bool false, .bool false, .int .i64 0, .string s, .int .i64 (t : Nat), .slice none 0 0, .slice none 0 0]
/-- the head's numbers as far as they are read -/
structure DAt (base : Nat) (w wr : World) (g gh : Nat) (A : Option Addr) (c : Nat) (b : List UInt8) (V : List Nat) (k : Nat) : Prop where
  r : RSt base wr g A c b (some (2 * k))
  hd : wr.heap[gh]? = some (.cells (hdCells V k) 61 (0, 0))
  ms : wr.heap[base]? = some (.cells zMsg 31 (0, 0))
  below : Below base w wr
theorem hdCells_set (a0 a1 a2 a3 a4 a5 k : Nat) (hk : k < 6) : (hdCells [a0, a1, a2, a3, a4, a5] k).setIfInBounds k (.int .i64 (([a0, a1, a2, a3, a4, a5].getD k 0 : Nat) : Int)) = hdCells [a0, a1, a2, a3, a4, a5] (k + 1) := by
  rcases (show k = 0 ∨ k = 1 ∨ k = 2 ∨ k = 3 ∨ k = 4 ∨ k = 5 by omega) with rfl | rfl | rfl | rfl | rfl | rfl <;> rfl
theorem hdCells_at (a0 a1 a2 a3 a4 a5 k : Nat) (hk : k < 6) : (hdCells [a0, a1, a2, a3, a4, a5] k)[k]? = some (.int .i64 0) := by
  rcases (show k = 0 ∨ k = 1 ∨ k = 2 ∨ k = 3 ∨ k = 4 ∨ k = 5 by omega) with rfl | rfl | rfl | rfl | rfl | rfl <;> rfl
theorem DAt.next {base g gh c k a0 a1 a2 a3 a4 a5 : Nat} {w wr w3 : World} {A : Option Addr} {b : List UInt8} (h : DAt base w wr g gh A c b [a0, a1, a2, a3, a4, a5] k) (hk : k < 6) (hg : base < g) (hgh : g < gh) (hlt : gh < wr.heap.size)
    (hr : RSt base w3 g A c b (some (2 * (k + 1)))) (hgr : wr.grownBy w3 (some g)) (v : Nat) (hv : [a0, a1, a2, a3, a4, a5].getD k 0 = v) : DAt base w (w3.setCell ⟨gh, k, none⟩ (.int .i64 (v : Nat))) g gh A c b [a0, a1, a2, a3, a4, a5] (k + 1) := by
  subst hv
  refine ⟨hr.kept ((Below.refl base w3).setCell (p := ⟨gh, k, none⟩) (by show base ≤ gh; omega) _) (Below.heap_setCell w3 ⟨gh, k, none⟩ _ g (by show g ≠ gh; omega)), ?_, ?_, ?_⟩
  · rw [heap_setCell_same w3 gh k _ _ _ ((hgr.block gh hlt (fun e => by injection e with e; omega)).trans h.hd), hdCells_set _ _ _ _ _ _ k hk]
  · exact (Below.heap_setCell w3 ⟨gh, k, none⟩ _ base (by show base ≠ gh; omega)).trans ((hgr.block base (by omega) (fun e => by injection e with e; omega)).trans h.ms)
  · exact (h.below.grown hgr (by omega) (fun k e => by injection e with e; omega)).setCell (p := ⟨gh, k, none⟩) (by show base ≤ gh; omega) _
theorem records0 (v : Value) (w : World) : Calls Tryd.prog 22 #[v, .int .i64 0] w fun e w' => e = .returned (.slice none 0 0) ∧ w = w' := by
  go_enter Tryd.func22, Tryd.ntmps22
  go_wp2_with fail
  go_loopw [7, 5] (fun i l wr => i = .int .i64 0 ∧ l = .slice none 0 0 ∧ wr = w) (fun _ _ _ => 0)
  case atStart => exact ⟨rfl, rfl, rfl⟩
  case round =>
    obtain ⟨rfl, rfl, rfl⟩ := hrel
    go_wp2_with fail
    go_ret
    exact ⟨rfl, rfl⟩
theorem wpList_row_gh {P : Program} {ops : Array Oper} {rest : List Oper} {o : Oper} {a : Act} {Q : Exit → Act → World → Prop} {w : World} (ty : TypeId) (x : Operand) (hw : Region.wanted o (yielded ops a.tmps) = true) (ho : o.op = .load ty x)
    (g : Nat) (hx : a.eval x = .pointer (some ⟨g, 0, none⟩)) (t : TypeId) (cs : Array Value) (fr : Nat × Nat) (d : TypeDesc) (hg : w.heap[g]? = some (.cells cs t fr))
    (hu : P.underlying ty = some d) (hd : (match d with | .struct _ | .array _ _ => true | _ => false) = true) (hi : (P.info? ty).map (·.size) = some cs.size)
    (h : wpList P ops Q rest (a.put o.dst (.agg cs)) w) : wpList P ops Q (o :: rest) a w := by
  unfold wpList
  rw [if_pos hw]
  left
  exact wp_load_row ty x ho g hx t cs fr d hg hu hd hi h
theorem results_cell_tmp {P : Program} {fn : Func} {p q : Tmp} {ty : TypeId} (h : fn.results = #[.cell p ty, .tmp q]) (tmps : Array Value) (w : World) (g : Nat) (t : TypeId) (cs : Array Value) (fr : Nat × Nat) (d : TypeDesc)
    (hp : tmps.getD p undef = .pointer (some ⟨g, 0, none⟩)) (hg : w.heap[g]? = some (.cells cs t fr))
    (hu : P.underlying ty = some d) (hd : (match d with | .struct _ | .array _ _ => true | _ => false) = true) (hi : (P.info? ty).map (·.size) = some cs.size) :
    (results fn tmps).run P w = .ok (.tuple #[.agg cs, tmps.getD q undef]) w := by
  have hp' : tmps[p]?.getD undef = .pointer (some ⟨g, 0, none⟩) := by simpa using hp
  simp [results, h, hp', asAddr, run_loadVar_row w g t ty cs fr d hg hu hd hi]
theorem zeroM : (Tryd.prog.info? 31).map (·.zero) = some (some (.agg zMsg)) := by kernel_rfl
theorem sizeM : (Tryd.prog.info? 31).map (·.size) = some 9 := by kernel_rfl
theorem builtM (id : Nat) (s : ByteArray) (t : Nat) : Tryd.prog.built 31 [(0, .int .i64 (id : Nat)), (1, .bool false), (2, .bool false), (3, .bool false), (4, .int .i64 0), (5, .agg #[.string s, .int .i64 (t : Nat)])] = some (dMsg id s t) := by kernel_rfl
theorem oneM (id : Nat) (s : ByteArray) (t : Nat) : (dMsg id s t).all (·.oneCell') = true := by simp [dMsg, Value.oneCell']
set_option maxRecDepth 100000 in
set_option maxHeartbeats 4000000 in
theorem decode0 (A : Option Addr) (c : Nat) (b : List UInt8) (id x t p : Nat) (nm : List UInt8) (w : World) (he : Env w) (hin : InB w w.heap.size A b) (hc : b.length ≤ c) (hl : b.length ≤ 140737488351232) (hn : A = none → c = 0) (hid : id ≤ 65535) (hx : x ≤ 65535)
    (h0 : numF b 0 2 = some (id, 2)) (h1 : numF b 2 2 = some (0, 4)) (h2 : numF b 4 2 = some (1, 6)) (h3 : numF b 6 2 = some (0, 8)) (h4 : numF b 8 2 = some (0, 10)) (h5 : numF b 10 2 = some (x, 12))
    (hq : qF b 12 = some ((nm, t), p)) (hall : ∀ W, Env W → Calls Tryd.prog 15 #[.agg (dMsg id (bs nm) t)] W fun e w' => e = .returned (.bool true) ∧ Below W.heap.size W w') :
    Calls Tryd.prog 10 #[.slice A b.length c] w fun e w' => e = .returned (.tuple #[.agg (dMsg id (bs nm) t), .int .i64 0]) ∧ Below w.heap.size w w' := by
  have HN : Hid (∀ k, k < 6 → numF b (2 * k) 2 = some ([id, 0, 1, 0, 0, x].getD k 0, 2 * (k + 1))) := Lib.hid (fun k hk => by
    rcases (show k = 0 ∨ k = 1 ∨ k = 2 ∨ k = 3 ∨ k = 4 ∨ k = 5 by omega) with rfl | rfl | rfl | rfl | rfl | rfl
    · exact h0
    · exact h1
    · exact h2
    · exact h3
    · exact h4
    · exact h5)
  have HQ := Lib.hid hq
  have HALL := Lib.hid hall
  have HE := Lib.hid he
  have HMax : Hid (0 < w.heap.size) := Lib.hid he.1
  clear h0 h1 h2 h3 h4 h5 hq hall he
  have HR0 : Hid (RIs w.heap.size (((w.alloc (.cells zMsg 31)).alloc (.cells #[.slice A b.length c, .int .i64 0, .bool false] 67)).alloc (.cells (hdCells [id, 0, 1, 0, 0, x] 0) 61)) (w.heap.size + 1) A c b 0 false) := Lib.hid (by
    refine ⟨?_, ?_, by omega, hc, hl, by omega, fun _ => by omega, hn⟩
    · exact (Below.heap_alloc _ _ _ (by simp)).trans (by
        have := heap_alloc_last (w.alloc (.cells zMsg 31)) (.cells #[.slice A b.length c, .int .i64 0, .bool false] 67)
        rwa [World.size_alloc] at this)
    · exact hin.below ((((Below.refl _ w).alloc (Nat.le_refl _) _).alloc (by simp) _).alloc (by simp; omega) _))
  have HD0 : Hid (DAt w.heap.size w (((w.alloc (.cells zMsg 31)).alloc (.cells #[.slice A b.length c, .int .i64 0, .bool false] 67)).alloc (.cells (hdCells [id, 0, 1, 0, 0, x] 0) 61)) (w.heap.size + 1) (w.heap.size + 2) A c b [id, 0, 1, 0, 0, x] 0) := Lib.hid ⟨HR0.out, by
      have := heap_alloc_last ((w.alloc (.cells zMsg 31)).alloc (.cells #[.slice A b.length c, .int .i64 0, .bool false] 67)) (.cells (hdCells [id, 0, 1, 0, 0, x] 0) 61)
      rwa [World.size_alloc, World.size_alloc] at this,
    (Below.heap_alloc _ _ _ (by simp; omega)).trans ((Below.heap_alloc _ _ _ (by simp)).trans (heap_alloc_last w _)),
    (((Below.refl _ w).alloc (Nat.le_refl _) _).alloc (by simp) _).alloc (by simp; omega) _⟩
  clear HR0 hin
  unfold hdCells zMsg at HD0
  go_enter Tryd.func10, Tryd.ntmps10
  go_wp2_with fail
  obtain ⟨w0, hw0⟩ : ∃ w0, w0 = (((w.alloc (.cells #[.int .i64 0, .bool false, .bool false, .bool false, .int .i64 0, .string ⟨#[]⟩, .int .i64 0, .slice none 0 0, .slice none 0 0] 31)).alloc (.cells #[.slice A b.length c, .int .i64 0, .bool false] 67)).alloc (.cells #[.int .i64 0, .int .i64 0, .int .i64 0, .int .i64 0, .int .i64 0, .int .i64 0] 61)) := ⟨_, rfl⟩
  have HD1 : Hid (DAt w.heap.size w w0 (w.heap.size + 1) (w.heap.size + 2) A c b [id, 0, 1, 0, 0, x] 0) := Lib.hid (by rw [hw0]; exact HD0.out)
  try simp only [World.size_alloc]
  rw [← hw0]
  clear hw0 HD0
  go_loopw [17, 6] (fun i _ wr => ∃ k : Nat, k ≤ 6 ∧ i = .int .i64 k ∧ Hid (DAt w.heap.size w wr (w.heap.size + 1) (w.heap.size + 2) A c b [id, 0, 1, 0, 0, x] k)) (fun i _ _ => 6 - (intOf i).toNat)
  case atStart => exact ⟨0, by omega, rfl, HD1⟩
  case round =>
    obtain ⟨k, hk, rfl, HD⟩ := hrel
    have hlt := heap_lt HD.out.hd
    by_cases hk6 : k < 6
    · have C : Calls Tryd.prog 20 #[.pointer (some ⟨w.heap.size + 1, 0, none⟩), .int .i64 (2 : Nat)] wr fun e w' => e = .returned (.int .u32 (([id, 0, 1, 0, 0, x].getD k 0 : Nat) : Int)) ∧ RSt w.heap.size w' (w.heap.size + 1) A c b (some (2 * (k + 1))) ∧ wr.grownBy w' (some (w.heap.size + 1)) := by
        have h := numberP w.heap.size (w.heap.size + 1) c 2 A b (some (2 * k)) wr HD.out.r (by omega)
        rw [Option.bind_some, HN.out k hk6] at h
        exact h
      obtain ⟨v, hv⟩ : ∃ v, [id, 0, 1, 0, 0, x].getD k 0 = v := ⟨_, rfl⟩
      have hvb : v ≤ 65535 := by
        rw [← hv]
        rcases (show k = 0 ∨ k = 1 ∨ k = 2 ∨ k = 3 ∨ k = 4 ∨ k = 5 by omega) with rfl | rfl | rfl | rfl | rfl | rfl
        · exact hid
        all_goals first | exact hx | simp
      rw [hv] at C
      have HNx : Hid (∀ w3, RSt w.heap.size w3 (w.heap.size + 1) A c b (some (2 * (k + 1))) → wr.grownBy w3 (some (w.heap.size + 1)) → DAt w.heap.size w (w3.setCell ⟨w.heap.size + 2, k, none⟩ (.int .i64 (v : Nat))) (w.heap.size + 1) (w.heap.size + 2) A c b [id, 0, 1, 0, 0, x] (k + 1)) := Lib.hid (fun w3 hr hg => HD.out.next hk6 (by omega) (by omega) hlt hr hg v hv)
      have HH : Hid (∀ w3, wr.grownBy w3 (some (w.heap.size + 1)) → w3.heap[w.heap.size + 2]? = some (.cells (hdCells [id, 0, 1, 0, 0, x] k) 61 (0, 0))) := Lib.hid (fun w3 hg => (hg.block _ hlt (fun e => by injection e with e; omega)).trans HD.out.hd)
      have HC := fun (w3 : World) (hg : wr.grownBy w3 (some (w.heap.size + 1))) => (cell_of_row w3 (w.heap.size + 2) k _ _ _ (HH.out w3 hg)).trans (hdCells_at id 0 1 0 0 x k hk6)
      have HF := fun (w3 : World) (hg : wr.grownBy w3 (some (w.heap.size + 1))) => frozen_of_row w3 (w.heap.size + 2) k _ _ (HH.out w3 hg)
      clear hv hk
      rcases (show k = 0 ∨ k = 1 ∨ k = 2 ∨ k = 3 ∨ k = 4 ∨ k = 5 by omega) with rfl | rfl | rfl | rfl | rfl | rfl
      all_goals
        go_wp2_with fail
        refine C.mono ?_
        rintro e w3 ⟨rfl, hr3, hg3⟩
        have d := HC w3 hg3
        have f := HF w3 hg3
        have HN3 := Lib.hid (HNx.out w3 hr3 hg3)
        have hs3 : w.heap.size + 2 < w3.heap.size := Nat.lt_of_lt_of_le hlt hg3.size
        clear HC HF hr3 hg3 C
        go_wp2_with fail
        go_roundw
        case rel => exact ⟨_, by omega, by first | rfl | go_num, HN3⟩
        case measure => simp [intOf]
    · obtain rfl : k = 6 := by omega
      have hR : RIs w.heap.size wr (w.heap.size + 1) A c b 12 false := HD.out.r
      have hh : wr.heap[w.heap.size + 2]? = some (.cells #[.int .i64 (id : Nat), .int .i64 (0 : Nat), .int .i64 (1 : Nat), .int .i64 (0 : Nat), .int .i64 (0 : Nat), .int .i64 (x : Nat)] 61 (0, 0)) := HD.out.hd
      have d0 := cell_of_row wr (w.heap.size + 2) 0 _ _ _ hh
      have d1 := cell_of_row wr (w.heap.size + 2) 1 _ _ _ hh
      have d2 := cell_of_row wr (w.heap.size + 2) 2 _ _ _ hh
      have d3 := cell_of_row wr (w.heap.size + 2) 3 _ _ _ hh
      have d4 := cell_of_row wr (w.heap.size + 2) 4 _ _ _ hh
      have r2 := cell_of_row wr (w.heap.size + 1) 2 _ _ _ hR.blk
      simp only [List.getElem?_toArray, List.getElem?_cons_succ, List.getElem?_cons_zero, Int.natCast_zero, Int.natCast_one] at d0 d1 d2 d3 d4 r2
      have HM := Lib.hid HD.out.ms
      have HB := Lib.hid HD.out.below
      have HR := Lib.hid hR
      clear hR hh HN hk hk6 HD
      go_wp2_with fail
      go_quiet (fail)
      have HR2 : Hid (RIs w.heap.size (wr.drewN nq) (w.heap.size + 1) A c b 12 false) := Lib.hid (HR.out.drewN _)
      have HM2 : Hid ((wr.drewN nq).heap[w.heap.size]? = some (.cells zMsg 31 (0, 0))) := Lib.hid HM.out
      have HB2 : Hid (Below w.heap.size w (wr.drewN nq)) := Lib.hid (HB.out.grown (grown_drewN wr nq (w.heap.size + 1)) (by omega) (fun k e => by injection e with e; omega))
      have hlt2 : w.heap.size + 2 < (wr.drewN nq).heap.size := hlt
      clear HR HM HB d0 d1 d2 d3 d4 r2 hlt
      revert HR2 HM2 HB2 hlt2
      generalize wr.drewN nq = W
      intro HR2 HM2 HB2 hlt2
      have r2 := cell_of_row W (w.heap.size + 1) 2 _ _ _ HR2.out.blk
      simp only [List.getElem?_toArray, List.getElem?_cons_succ, List.getElem?_cons_zero] at r2
      have C := questionP w.heap.size (w.heap.size + 1) c A b (some 12) W (HE.out.base HB2.out HMax.out) HMax.out HR2.out
      rw [Option.bind_some, HQ.out] at C
      have ZM := Lib.hid zeroM
      have BM := Lib.hid (builtM id (bs nm) t)
      have SM : Hid ((Tryd.prog.info? 31).map (·.size) = some (dMsg id (bs nm) t).size) := Lib.hid sizeM
      have OM := Lib.hid (oneM id (bs nm) t)
      have ZD : Hid (zMsg.size = (dMsg id (bs nm) t).size) := Lib.hid rfl
      go_wp2_with fail
      refine C.mono ?_
      rintro e w4 ⟨s, t', rfl, ht, hst, hr4, hg4⟩
      obtain ⟨hs, htt⟩ := hst _ rfl
      simp only at hs htt
      subst hs
      subst htt
      have HR4 := Lib.hid hr4
      have HG4 := Lib.hid hg4
      clear C hst hr4 hg4 r2
      go_wp2_with (first
        | (refine wpList_build_v rfl 31 #[(0, .tmp 56), (1, .tmp 59), (2, .tmp 62), (3, .tmp 65), (4, .tmp 67), (5, .tmp 69)] rfl _ (dMsg id (bs nm) t') BM.out rfl ?_; go_simp)
        | (refine wpList_alloc_z rfl 31 rfl zMsg ZM.out ?_; go_simp)
        | (refine wpList_store_new rfl 31 (.tmp 12) (.tmp 70) rfl w4.heap.size rfl zMsg (dMsg id (bs nm) t') 31 rfl rfl SM.out ZD.out OM.out ?_; go_simp)
        | (go_at_call 22; refine (records0 _ _).mono ?_; rintro e w5 ⟨rfl, rfl⟩))
      have hglt : w.heap.size + 1 < w4.heap.size := by have := (show RIs w.heap.size w4 (w.heap.size + 1) A c b p false from HR4.out).lt; exact this
      have HB4 : Hid (Below w.heap.size w w4) := Lib.hid (HB2.out.grown HG4.out (by omega) (fun k e => by injection e with e; omega))
      have HM4 : Hid (w4.heap[w.heap.size]? = some (.cells zMsg 31 (0, 0))) := Lib.hid ((HG4.out.block w.heap.size (by omega) (fun e => by injection e with e; omega)).trans HM2.out)
      have HR5 : Hid (RIs w.heap.size (w4.alloc (.cells (dMsg id (bs nm) t') 31)) (w.heap.size + 1) A c b p false) := Lib.hid ((show RIs w.heap.size w4 (w.heap.size + 1) A c b p false from HR4.out).grown ((Below.refl _ w4).alloc (Nat.le_refl _) _))
      have HB5 : Hid (Below w.heap.size w (w4.alloc (.cells (dMsg id (bs nm) t') 31))) := Lib.hid (HB4.out.alloc (by omega) _)
      have HM5 : Hid ((w4.alloc (.cells (dMsg id (bs nm) t') 31)).heap[w.heap.size]? = some (.cells zMsg 31 (0, 0))) := Lib.hid ((Below.heap_alloc w4 _ _ (by omega)).trans HM4.out)
      have hgm := heap_alloc_last w4 (.cells (dMsg id (bs nm) t') 31)
      have hlm : w4.heap.size < (w4.alloc (.cells (dMsg id (bs nm) t') 31)).heap.size := by rw [World.size_alloc]; omega
      clear HR4 HG4 HB4 HM4 HR2 HM2 HB2 hlt2
      revert HR5 HB5 HM5 hgm hlm
      generalize w4.alloc (.cells (dMsg id (bs nm) t') 31) = W5
      generalize w4.heap.size = gm at hglt ⊢
      intro HR5 HB5 HM5 hgm hlm
      have d7 := cell_of_row W5 gm 7 _ _ _ hgm
      have f7 := frozen_of_row W5 gm 7 _ _ hgm
      have d8 := cell_of_row W5 gm 8 _ _ _ hgm
      have f8 := frozen_of_row W5 gm 8 _ _ hgm
      unfold dMsg at d7 d8
      simp only [List.getElem?_toArray, List.getElem?_cons_succ, List.getElem?_cons_zero] at d7 d8
      have HGM := Lib.hid hgm
      clear hgm
      go_region
      have HR6 : Hid (RIs w.heap.size ((W5.setCell ⟨gm, 7, none⟩ (.slice none 0 0)).setCell ⟨gm, 8, none⟩ (.slice none 0 0)).drew (w.heap.size + 1) A c b p false) := Lib.hid (RSt.kept (o := some p) (show RSt w.heap.size W5 (w.heap.size + 1) A c b (some p) from HR5.out) (((Below.refl _ W5).setCell (p := ⟨gm, 7, none⟩) (by show w.heap.size ≤ gm; omega) _).setCell (p := ⟨gm, 8, none⟩) (by show w.heap.size ≤ gm; omega) _).drew
        ((Below.heap_setCell (W5.setCell ⟨gm, 7, none⟩ (.slice none 0 0)) ⟨gm, 8, none⟩ _ (w.heap.size + 1) (by show w.heap.size + 1 ≠ gm; omega)).trans (Below.heap_setCell W5 ⟨gm, 7, none⟩ _ (w.heap.size + 1) (by show w.heap.size + 1 ≠ gm; omega))))
      have HM6 : Hid (((W5.setCell ⟨gm, 7, none⟩ (.slice none 0 0)).setCell ⟨gm, 8, none⟩ (.slice none 0 0)).drew.heap[w.heap.size]? = some (.cells zMsg 31 (0, 0))) := Lib.hid (((Below.heap_setCell (W5.setCell ⟨gm, 7, none⟩ (.slice none 0 0)) ⟨gm, 8, none⟩ _ w.heap.size (by show w.heap.size ≠ gm; omega)).trans (Below.heap_setCell W5 ⟨gm, 7, none⟩ _ w.heap.size (by show w.heap.size ≠ gm; omega))).trans HM5.out)
      have HG6 : Hid (((W5.setCell ⟨gm, 7, none⟩ (.slice none 0 0)).setCell ⟨gm, 8, none⟩ (.slice none 0 0)).drew.heap[gm]? = some (.cells (dMsg id (bs nm) t') 31 (0, 0))) := Lib.hid (heap_setCell_same (W5.setCell ⟨gm, 7, none⟩ (.slice none 0 0)) gm 8 _ _ _ (heap_setCell_same W5 gm 7 _ _ _ HGM.out))
      have HB6 : Hid (Below w.heap.size w ((W5.setCell ⟨gm, 7, none⟩ (.slice none 0 0)).setCell ⟨gm, 8, none⟩ (.slice none 0 0)).drew) := Lib.hid ((HB5.out.setCell (p := ⟨gm, 7, none⟩) (by show w.heap.size ≤ gm; omega) _).setCell (p := ⟨gm, 8, none⟩) (by show w.heap.size ≤ gm; omega) _).drew
      have hl6 : gm < ((W5.setCell ⟨gm, 7, none⟩ (.slice none 0 0)).setCell ⟨gm, 8, none⟩ (.slice none 0 0)).drew.heap.size := heap_lt HG6.out
      clear HR5 HM5 HB5 HGM d7 d8 f7 f8 hlm
      revert HR6 HM6 HG6 HB6 hl6
      generalize ((W5.setCell ⟨gm, 7, none⟩ (.slice none 0 0)).setCell ⟨gm, 8, none⟩ (.slice none 0 0)).drew = W6
      intro HR6 HM6 HG6 HB6 hl6
      have r2 := cell_of_row W6 (w.heap.size + 1) 2 _ _ _ HR6.out.blk
      simp only [List.getElem?_toArray, List.getElem?_cons_succ, List.getElem?_cons_zero] at r2
      have CA := HALL.out W6 (HE.out.base HB6.out HMax.out)
      go_wp2_with (first
        | (refine wpList_row_gh 31 (.tmp 12) (by kernel_rfl) rfl gm rfl 31 (dMsg id (bs nm) t') (0, 0) _ HG6.out Tryd.underlying31 rfl SM.out ?_; go_simp))
      refine CA.mono ?_
      rintro e w7 ⟨rfl, hb7⟩
      have HM7 : Hid (w7.heap[w.heap.size]? = some (.cells zMsg 31 (0, 0))) := Lib.hid ((hb7.block w.heap.size (by omega)).trans HM6.out)
      have HG7 : Hid (w7.heap[gm]? = some (.cells (dMsg id (bs nm) t') 31 (0, 0))) := Lib.hid ((hb7.block gm hl6).trans HG6.out)
      have HB7 : Hid (Below w.heap.size w w7) := Lib.hid (HB6.out.trans (hb7.mono (by omega)))
      clear CA hb7 r2 HR6 HM6 HG6 HB6
      go_wp2_with (first
        | (refine wpList_load_row rfl 31 (.tmp 12) rfl gm rfl 31 (dMsg id (bs nm) t') (0, 0) _ HG7.out Tryd.underlying31 rfl SM.out ?_; go_simp)
        | (refine wpList_store_blk rfl 31 (.tmp 2) (.tmp 95) rfl w.heap.size zMsg (dMsg id (bs nm) t') 31 HM7.out rfl rfl SM.out ZD.out OM.out ?_; intro w8 hg8 hw8 hz8; go_simp))
      exact bodyPost_ret (results_cell_tmp rfl _ w8 w.heap.size 31 (dMsg id (bs nm) t') (0, 0) _ rfl hg8.out Tryd.underlying31 rfl SM.out) rfl ⟨rfl, HB7.out.grown hw8.out HB7.out.size (fun k e => by injection e with e; omega)⟩
end Go.Proofs.YtakfokdjdljjjaaDoor
