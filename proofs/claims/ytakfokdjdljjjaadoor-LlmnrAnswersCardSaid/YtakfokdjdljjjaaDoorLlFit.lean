/-
  What the laws of layer 14 stand on: questions that come back, Answer at what Encode tells, Decode at what Answer tells, and the walk of the test question: it answers true. Condition: the library's variable MaxLen holds some number.
-/
import Derived.Test.YtakfokdjdljjjaaDoorLlAns
import Derived.Great.FillDense
namespace Go.Proofs.YtakfokdjdljjjaaDoor
open Go.RowKit

theorem qM_again {D : Int} {rp rc : Bool} {S : ByteArray} {t : Int} (hg : gosB S = true) (hs : S.size ≤ maxLen) (h16 : lb16 S) (hD : 0 ≤ D ∧ D ≤ 65535) (ht : 1 ≤ t ∧ t ≤ 65535) : (qMV D rp rc S t).Again := by
  refine ⟨?_, ⟨hs, (fun r hr => by cases hr), (fun r hr => by cases hr), (by show 0 ≤ _; omega), (by show 0 ≤ _; omega)⟩, h16, (fun r hr => by cases hr), (fun r hr => by cases hr)⟩
  unfold mvOk qMV
  simp only
  rw [hg, show btw 0 D 65535 = true from decide_eq_true hD, show btw 1 t 65535 = true from decide_eq_true ht]
  rfl
theorem builtQm (D : Int) (S : ByteArray) (ty : Int) : Tryd.prog.built 31 [(0, .int .i64 D), (5, .agg #[.string S, .int .i64 ty])] = some (qMV D false false S ty).cells := by kernel_rfl
theorem repO_yes {own : ByteArray} {ls : List LV} {m : MV} (h1 : m.rp = false) (h2 : m.qn = own) : repO own ls (some m.nrm) = some (rpM m ls) := by
  show (if (!m.nrm.rp && (m.nrm.qn.toList == own.toList)) = true then some (rpM m.nrm ls) else none) = _
  have e : (!m.nrm.rp && (m.nrm.qn.toList == own.toList)) = true := by
    show (!m.rp && (m.qn.toList == own.toList)) = true
    rw [h1, h2]; simp
  rw [if_pos e]
  rfl
theorem repO_reply {own : ByteArray} {ls : List LV} {m : MV} (h1 : m.rp = true) : repO own ls (some m.nrm) = none := by
  show (if (!m.nrm.rp && (m.nrm.qn.toList == own.toList)) = true then some (rpM m.nrm ls) else none) = _
  have e : ¬ (!m.nrm.rp && (m.nrm.qn.toList == own.toList)) = true := by
    show ¬ (!m.rp && (m.qn.toList == own.toList)) = true
    rw [h1]; simp
  rw [if_neg e]
theorem repO_other {own : ByteArray} {ls : List LV} {m : MV} (h1 : (m.qn.toList == own.toList) = false) : repO own ls (some m.nrm) = none := by
  show (if (!m.nrm.rp && (m.nrm.qn.toList == own.toList)) = true then some (rpM m.nrm ls) else none) = _
  have e : ¬ (!m.nrm.rp && (m.nrm.qn.toList == own.toList)) = true := by
    show ¬ (!m.rp && (m.qn.toList == own.toList)) = true
    rw [h1]; simp
  rw [if_neg e]
/-- Answer at the bytes of a message that comes back -/
theorem ask_e (own : ByteArray) (h16 : lb16 own) (ls : List LV) (hls : ∀ x ∈ ls, x.addr.length = 16) (AL : Option Addr) (cl : Nat) (hn : ls.length ≤ 32) (m : MV) (hm : m.Again) (gb cap : Nat) (u : World) (hcap : (enc m.msg).length ≤ cap) (hin : InB u u.heap.size (some ⟨gb, 0, none⟩) (enc m.msg)) (W : World) (hb : Below u.heap.size u W) (hW : Env W) (hA : LocsAt W AL ls) :
    Calls Tryd.prog 8 #[.string own, .slice AL ls.length cl, .slice (some ⟨gb, 0, none⟩) (enc m.msg).length cap] W (AnPost W (repO own ls (some m.nrm))) :=
  answer_e own h16 ls hls AL cl hn _ _ _ (some m.nrm) W hW hA (fun W' hb' hW' => decode_again m hm gb cap u hcap hin W' (hb.trans (hb'.mono hb.size)) hW')
/-- a message, with its lists elsewhere -/
def dcM (m : MV) (A : Option Addr) (c : Nat) (U : Option Addr) (k : Nat) : MV := ⟨m.id, m.rp, m.tr, m.rc, m.code, m.qn, m.qt, A, c, m.an, U, k, m.au⟩
theorem dec_e (m : MV) (hm : m.Again) (gb cap : Nat) (u : World) (hcap : (enc m.msg).length ≤ cap) (hin : InB u u.heap.size (some ⟨gb, 0, none⟩) (enc m.msg)) (W : World) (hb : Below u.heap.size u W) (hW : Env W) :
    Calls Tryd.prog 10 #[.slice (some ⟨gb, 0, none⟩) (enc m.msg).length cap] W fun e w' => Below W.heap.size W w' ∧ ∃ A c U k, e = .returned (.tuple #[.agg (dcM m A c U k).cells, .int .i64 0]) ∧ (dcM m A c U k).Lies w' := by
  refine (decode_again m hm gb cap u hcap hin W hb hW).mono ?_
  rintro e w' ⟨hb', ⟨h0, _⟩ | ⟨m', hmm, _, _, hli, rfl⟩⟩
  · cases h0
  · obtain ⟨id, rp, tr, rc, code, qn, qt, A, c, an, U, k, au⟩ := m
    obtain ⟨id', rp', tr', rc', code', qn', qt', A', c', an', U', k', au'⟩ := m'
    unfold MV.nrm at hmm
    simp only [Option.some.injEq, MV.mk.injEq] at hmm
    obtain ⟨rfl, rfl, rfl, rfl, rfl, rfl, rfl, _, _, rfl, _, _, rfl⟩ := hmm
    exact ⟨hb', A', c', U', k', rfl, hli⟩
theorem flat_at {n : Nat} : ∀ (l : List (List Value)), (∀ c ∈ l, c.length = n) → ∀ k c, l[k]? = some c → ∀ j, j < n → l.flatten[k * n + j]? = c[j]?
  | [], _, k, c, h, _, _ => by simp at h
  | a :: l, hl, k, c, h, j, hj => by
    have ha := hl a List.mem_cons_self
    rw [List.flatten_cons]
    cases k with
    | zero =>
      simp only [List.getElem?_cons_zero, Option.some.injEq] at h
      subst h
      rw [Nat.zero_mul, Nat.zero_add, List.getElem?_append_left (by omega)]
    | succ k =>
      rw [List.getElem?_cons_succ] at h
      have hm : (k + 1) * n = k * n + n := by rw [Nat.add_mul, Nat.one_mul]
      rw [List.getElem?_append_right (by omega), ha, show (k + 1) * n + j - n = k * n + j by omega]
      exact flat_at l (fun c hc => hl c (List.mem_cons_of_mem _ hc)) k c h j hj
theorem locs_row {W : World} {g : Nat} {ls : List LV} {t : TypeId} (hls : ∀ x ∈ ls, x.addr.length = 16) (h : W.heap[g]? = some (.cells (ls.map LV.cells).flatten.toArray t (0, 0))) : LocsAt W (some ⟨g, 0, none⟩) ls := fun _ => by
  refine ⟨g, 0, rfl, heap_lt h, fun k c hk j v hj => ?_⟩
  have hsz : ∀ c ∈ ls.map LV.cells, c.length = 18 := fun c hc => by
    obtain ⟨x, hx, rfl⟩ := List.mem_map.1 hc
    exact LV.size (hls x hx)
  have hj2 : j < 18 := by
    rw [← hsz c (List.mem_of_getElem? hk)]
    exact (List.getElem?_eq_some_iff.1 hj).1
  rw [Nat.zero_add, cell_of_row W _ _ _ _ _ h, List.getElem?_toArray, flat_at _ hsz k c hk j hj2]
  exact hj
/-- a record's address, as it lies in a row -/
theorem rec_addr {w : World} {A : Option Addr} {rs : List RV} (h : RecsAt w A rs) {k : Nat} {r : RV} (hk : rs[k]? = some r) (h16 : r.ad.length = 16) : ∃ b o, A = some ⟨b, o, none⟩ ∧ b < w.heap.size ∧
    (∀ j v, (bvs r.ad).toArray.toList[j]? = some v → w.cell? ((⟨b, o + k * 21 + 3, none⟩ : Addr).add j) = some v) ∧ (∀ j v, r.cells.toList[j]? = some v → w.cell? ((⟨b, o + k * 21, none⟩ : Addr).add j) = some v) := by
  obtain ⟨b, o, rfl, hlt, hc⟩ := h (by have := (List.getElem?_eq_some_iff.1 hk).1; omega)
  refine ⟨b, o, rfl, hlt, fun j v hj => ?_, hc k r hk⟩
  have h1 := hc k r hk (3 + j) v (by rw [Array.getElem?_toList]; exact RV.sub3 h16 j v hj)
  rw [Addr.add_lit] at h1 ⊢
  rw [show o + k * 21 + 3 + j = o + k * 21 + (3 + j) by omega]
  exact h1
def l1234 : LV := ⟨pre4 ++ [1, 2, 3, 4], false, false⟩
theorem builtL1 : Tryd.prog.built 42 [(0, .agg (bvs (pre4 ++ [1, 2, 3, 4])).toArray)] = some l1234.cells.toArray := by kernel_rfl
theorem fill18 {cs : List Value} {z : Value} (h : cs.length = 18) : Instr.fill (fun i => some (i * 18, 18)) ((Array.range (1 * 18)).map (z.cells[· % z.cells.size]!)) [(0, .agg cs.toArray)] = some cs.toArray := by
  have := Great.fill_whole (s := 18) (by decide) [Value.agg cs.toArray] ((Array.range (1 * 18)).map (z.cells[· % z.cells.size]!)) (by simp [Value.cells, h]) (by simp)
  simpa [Value.cells] using this
theorem info_loc : ∃ i, Tryd.prog.info? 42 = some i ∧ i.zero = some (.agg lvZero.cells.toArray) ∧ i.size = 18 := by
  have h : (Tryd.prog.info? 42).map (fun i => (i.zero, i.size)) = some (some (.agg lvZero.cells.toArray), 18) := by kernel_rfl
  cases hq : Tryd.prog.info? 42 with
  | none => rw [hq] at h; cases h
  | some i =>
    rw [hq] at h
    simp only [Option.map_some, Option.some.injEq, Prod.mk.injEq] at h
    exact ⟨i, rfl, h.1, h.2⟩
def nmA : ByteArray := ⟨#[97]⟩
theorem nmA_ok : gosB nmA = true := by decide +kernel
theorem nmA_16 : lb16 nmA := by unfold lb16; decide +kernel
def qmA : MV := qMV 7 false false nmA 1
theorem qmA_again : qmA.Again := qM_again nmA_ok (by decide) nmA_16 (by omega) (by omega)
def rpA : MV := rpM qmA [l1234]
theorem rpA_an : rpA.an = [lrec nmA 1 l1234] := by
  show ansL nmA 1 [l1234] = _
  unfold ansL
  have h : famT l1234.addr = 1 := by decide
  simp [h]
theorem is4_1234 : isV4 l1234.addr = true := by decide
theorem l1234_16 : ∀ x ∈ [l1234], x.addr.length = 16 := fun x hx => by
  rw [List.mem_singleton.1 hx]; rfl
set_option maxRecDepth 100000 in
set_option maxHeartbeats 4000000 in
theorem fit14_e (w : World) (he : Env w) : Calls Tryd.prog 6 #[] w fun e w' => e = .returned (.bool true) ∧ Below w.heap.size w w' := by
  have HE := Lib.hid he
  have HV : Hid (∀ W, Calls Tryd.prog 13 #[.int .u8 1, .int .u8 2, .int .u8 3, .int .u8 4] W fun e w' => e = .returned (.agg (bvs (pre4 ++ [1, 2, 3, 4])).toArray) ∧ Below W.heap.size W w') := Lib.hid (fun W => v4a_e 1 2 3 4 W)
  have HBl := Lib.hid builtL1
  have HBm : Hid (Tryd.prog.built 31 [(0, .int .i64 7), (5, .agg #[.string ⟨#[97]⟩, .int .i64 1])] = some qmA.cells) := Lib.hid (builtQm 7 nmA 1)
  have HEn := Lib.hid (fun W hW => encode_again qmA qmA_again W hW (qMV_lies _ _ _ _ _ _))
  have HAn := Lib.hid (fun g (u : World) gb cap hcap hin W hb hW hA => ask_e nmA nmA_16 [l1234] l1234_16 (some ⟨g, 0, none⟩) 1 (by decide) qmA qmA_again gb cap u hcap hin W hb hW hA)
  have HRp : Hid (repO nmA [l1234] (some qmA.nrm) = some rpA) := Lib.hid (repO_yes rfl rfl)
  have HLr : Hid (∀ (W : World) (g : Nat), W.heap[g]? = some (.cells l1234.cells.toArray 42 (0, 0)) → LocsAt W (some ⟨g, 0, none⟩) [l1234]) := Lib.hid (fun W g h => locs_row l1234_16 (by simpa using h))
  have HDe := Lib.hid (fun (hm : rpA.Again) (gb cap : Nat) (u : World) hcap hin W hb hW => dec_e rpA hm gb cap u hcap hin W hb hW)
  have HLc : Hid (l1234.cells.length = 18) := Lib.hid (LV.size rfl)
  obtain ⟨i0, hi, hz0, hz1⟩ := info_loc
  have HI := Lib.hid hi
  have HZ0 := Lib.hid hz0
  have HZ1 := Lib.hid hz1
  have ZM := Lib.hid zeroM
  have HIs := Lib.hid (fun W => is4a_e l1234.addr rfl W)
  have HNm : Hid (∀ W, Calls Tryd.prog 7 #[.int .i64 0] W fun e w' => e = .returned (.string ⟨#[97]⟩) ∧ Below W.heap.size W w') := Lib.hid (fun W => name4_e 0 0 (by omega) (by decide) W)
  rw [is4_1234] at HIs
  clear he hi hz0 hz1
  revert HBl HLr HLc
  generalize l1234.cells = lc
  intro HBl HLr HLc
  revert HV HBl
  generalize (bvs (pre4 ++ [1, 2, 3, 4])).toArray = XV
  intro HV HBl
  revert HBm HEn
  generalize qmA.cells = QC
  intro HBm HEn
  go_enter Tryd.func6, Tryd.ntmps6
  go_wp2_with fail
  refine (HV.out w).mono ?_
  rintro e w1 ⟨rfl, hb1⟩
  have HB2 : Hid (Below w.heap.size w (w1.alloc (.cells lc.toArray 42))) := Lib.hid (hb1.alloc hb1.size _)
  have HG2 := Lib.hid (heap_alloc_last w1 (.cells lc.toArray 42))
  clear hb1
  go_wp2_with (first
    | (refine wpList_build_v rfl 42 #[(0, .tmp 6)] rfl _ lc.toArray HBl.out rfl ?_; go_simp)
    | (refine wpList_buildSlice rfl 22 42 1 #[(0, .tmp 7)] rfl lc.toArray i0 _ Tryd.underlying22 HI.out HZ0.out (by rw [HZ1.out]; decide) (by rw [HZ1.out]; decide) (by rw [HZ1.out]; refine (congrArg _ (?_ : _ = [(0, Value.agg lc.toArray)])).trans (fill18 HLc.out); rw [Array.toList_map]; rfl) ?_; go_simp)
    | (refine wpList_build_v rfl 31 #[(0, .const (.int .i64 7)), (5, .tmp 9)] rfl _ QC HBm.out rfl ?_; go_simp))
  refine (HEn.out _ (HE.out.below HB2.out)).mono ?_
  rintro e w3 ⟨gb, cap, rfl, hen⟩
  have HG3 := Lib.hid ((hen.below.block _ (heap_lt HG2.out)).trans HG2.out)
  have HB3 := Lib.hid (HB2.out.trans (hen.below.mono HB2.out.size))
  have HAn3 := Lib.hid (HAn.out w1.heap.size w3 gb cap hen.le (hen.inB) w3 (Below.refl _ _) (HE.out.below HB3.out) (HLr.out w3 _ HG3.out))
  rw [HRp.out] at HAn3
  clear hen HAn HEn HB2 HG2
  generalize (enc qmA.msg).length = LQ at HAn3 ⊢
  go_wp2_with fail
  refine HAn3.out.mono ?_
  rintro e w4 ⟨hb4, ⟨h0, _⟩ | ⟨R, gb2, cap2, hR, hRa, rfl, hcap2, hin2, h12⟩⟩
  · cases h0
  · injection hR with hR
    subst hR
    have HB4 := Lib.hid (HB3.out.trans (hb4.mono HB3.out.size))
    have HD4 := Lib.hid (HDe.out hRa gb2 cap2 w4 hcap2 hin2 w4 (Below.refl _ _) (HE.out.below HB4.out))
    clear hb4 hRa hcap2 hin2 h12 HAn3 HDe
    generalize (enc rpA.msg).length = LR at HD4 ⊢
    go_wp2_with fail
    refine HD4.out.mono ?_
    rintro e w5 ⟨hb5, A, c, U, k, rfl, hli⟩
    have HB5 := Lib.hid ((HB4.out.trans (hb5.mono HB4.out.size)).alloc (by have := HB4.out.size; have := hb5.size; omega) (.cells (dcM rpA A c U k).cells 31))
    have HG5 := heap_alloc_last w5 (.cells (dcM rpA A c U k).cells 31)
    have hra : RecsAt w5 A [lrec nmA 1 l1234] := by have := hli.an; rw [← rpA_an]; exact this
    obtain ⟨b, o, rfl, hlt, had, _⟩ := rec_addr (hra.below ((Below.refl _ w5).alloc (Nat.le_refl _) (.cells (dcM rpA A c U k).cells 31))) (k := 0) rfl rfl
    have HAd := Lib.hid had
    have e1 : _ = some (Value.bool true) := (cell_of_row _ w5.heap.size 1 _ _ _ HG5).trans rfl
    have e7 : _ = some (Value.slice (some ⟨b, o, none⟩) rpA.an.length c) := (cell_of_row _ w5.heap.size 7 _ _ _ HG5).trans rfl
    rw [rpA_an, List.length_singleton] at e7
    have SM : Hid ((Tryd.prog.info? 31).map (·.size) = some (dcM rpA (some ⟨b, o, none⟩) c U k).cells.size) := Lib.hid sizeM
    have ZC : Hid (zMsg.size = (dcM rpA (some ⟨b, o, none⟩) c U k).cells.size) := Lib.hid rfl
    have OM := Lib.hid (MV.one (dcM rpA (some ⟨b, o, none⟩) c U k))
    have SX : Hid ((Tryd.prog.info? 40).map (·.size) = some (bvs (lrec nmA 1 l1234).ad).toArray.size) := Lib.hid (sizeBv rfl)
    have HIs2 : Hid (∀ W, Calls Tryd.prog 11 #[.agg (bvs (lrec nmA 1 l1234).ad).toArray] W fun e w' => e = .returned (.bool true) ∧ Below W.heap.size W w') := Lib.hid HIs.out
    clear hb5 hli hra had HG5 HD4 HIs
    generalize (dcM rpA (some ⟨b, o, none⟩) c U k).cells = MC at *
    generalize (bvs (lrec nmA 1 l1234).ad).toArray = XA at *
    have HAd2 : Hid (∀ j v, XA.toList[j]? = some v → (w5.alloc (.cells MC 31)).cell? ((⟨b, o + 3, none⟩ : Addr).add j) = some v) := Lib.hid (by have := HAd.out; rw [Nat.zero_mul, Nat.add_zero] at this; exact this)
    clear HAd
    go_wp2_with (first
      | (refine wpList_alloc_z rfl 31 rfl zMsg ZM.out ?_; go_simp)
      | (refine wpList_store_new rfl 31 (.tmp 3) (.tmp 18) rfl w5.heap.size rfl zMsg MC 31 rfl rfl SM.out ZC.out OM.out ?_; go_simp)
      | (refine wpList_load_agg_gh (by kernel_rfl) 40 (.tmp 39) rfl ⟨b, o + 3, none⟩ rfl XA _ HAd2.out Tryd.underlying40 rfl SX.out ?_; go_simp)
      | (go_at_call 11; refine (HIs2.out _).mono ?_; rintro e w6 ⟨rfl, hb6⟩; have HB6 := Lib.hid (HB5.out.trans (hb6.mono HB5.out.size)); clear hb6; go_simp)
      | (go_at_call 7; refine (HNm.out _).mono ?_; rintro e w7 ⟨rfl, hb7⟩; have HB7 := Lib.hid (HB6.out.trans (hb7.mono HB6.out.size)); clear hb7; go_simp))
    go_ret
    exact ⟨rfl, HB7.out⟩
end Go.Proofs.YtakfokdjdljjjaaDoor
