/-
  The walk of msg.Encode: a message's bytes, for every message that may be. Conditions: its records lie in memory, and the library's variable MaxLen holds some number.
-/
import Derived.Test.YtakfokdjdljjjaaDoorMsgBitsFn
import Derived.Test.YtakfokdjdljjjaaDoorMsgRecord
import Derived.Deep.RegionHeld3
import Derived.Deep.RegionLaw
namespace Go.Proofs.YtakfokdjdljjjaaDoor
open Go.RowKit Go.Maps

theorem builtW (b : Nat) : Tryd.prog.built 58 [(1, .map (some b))] = some #[.slice none 0 0, .map (some b)] := by kernel_rfl
def headV (m : MV) (c : Nat) : Array Value := #[.int .i64 m.id, .int .i64 (bitsV m.rp m.tr m.rc c : Nat), .int .i64 1, .int .i64 m.an.length, .int .i64 m.au.length, .int .i64 0]
def MV.msg (m : MV) : Msg := ⟨m.id.toNat, m.rp, m.tr, m.rc, m.code.toNat, m.qn.data.toList, m.qt.toNat, m.an.map RV.rec_, m.au.map RV.rec_⟩
/-- how the loops over records stand -/
structure RcAt (base : Nat) (w w3 wr : World) (g : Nat) (T : List UInt8) (F : St) (rs : List RV) (k : Nat) (b' : List UInt8) (st' : St) : Prop where
  at_ : WAt base wr g b' st'
  below : Below base w wr
  keeps : Keeps w3 wr
  ahead : b' ++ (encRs b'.length st' ((rs.drop k).map RV.rec_)).1 = T
  table : (encRs b'.length st' ((rs.drop k).map RV.rec_)).2 = F
theorem recR_len {r : RV} (h : ROk r) (pos : Nat) (st : St) : (recR pos st r).1.length ≤ 600 := by
  have h1 := encQ_len h.nm pos st r.ty.toNat
  have h2 := dataR_len h.d (pos + (encQ pos st r.nm.data.toList r.ty.toNat).1.length + 6) (encQ pos st r.nm.data.toList r.ty.toNat).2
  unfold recR
  simp only [List.length_append, be2, List.length_cons, List.length_nil]
  omega
theorem RcAt.next {base g k : Nat} {w w3 wr w' : World} {T : List UInt8} {F : St} {rs : List RV} {b' : List UInt8} {st' : St} {r : RV} (h : RcAt base w w3 wr g T F rs k b' st') (hr : rs[k]? = some r) (hok : ROk r)
    (hw : WAt base w' g (b' ++ (recR b'.length st' r).1) (recR b'.length st' r).2) (hb : Below base wr w') (hk : Keeps wr w') : RcAt base w w3 w' g T F rs (k + 1) (b' ++ (recR b'.length st' r).1) (recR b'.length st' r).2 := by
  have h1 := h.ahead
  have h2 := h.table
  have hd : rs.drop k = r :: rs.drop (k + 1) := by
    have hlt := (List.getElem?_eq_some_iff.1 hr).1
    rw [List.drop_eq_getElem_cons hlt]
    rw [List.getElem?_eq_getElem hlt] at hr
    rw [Option.some.inj hr]
  rw [hd, List.map_cons] at h1 h2
  simp only [encRs] at h1 h2
  rw [← recR_enc hok.d.ty] at h1 h2
  refine ⟨hw, h.below.trans hb, h.keeps.trans hk, ?_, ?_⟩
  · rw [List.length_append, List.append_assoc]; exact h1
  · rw [List.length_append]; exact h2
theorem rOk_of {r : RV} (h16 : r.ad.length = 16) (h : rvOk r = true) : ROk r := by
  unfold rvOk btw at h
  simp only [Bool.and_eq_true, decide_eq_true_eq] at h
  obtain ⟨⟨⟨h1, h2⟩, h3⟩, h4⟩ := h
  refine ⟨⟨h16, by omega, fun hn => ?_, fun n1 n28 nn => ?_⟩, h1, by omega⟩
  · rw [if_neg (by omega), if_neg (by omega), if_pos hn] at h4
    simp only [Bool.and_eq_true] at h4
    exact h4.1
  · rw [if_neg n1, if_neg n28, if_neg nn] at h4
    simp only [Bool.and_eq_true, decide_eq_true_eq] at h4
    exact h4.1
theorem zeroRv : (Tryd.prog.info? 45).map (·.zero) = some (some (.agg (RV.cells ⟨emp, 0, 0, zero16, emp, emp⟩))) := zeroRec
def headN (id bits an au : Nat) : List Nat := [id, bits, 1, an, au, 0]
/-- how the loop over the header's numbers stands -/
structure HdAt (base : Nat) (w w3 wr : World) (g : Nat) (H : List Nat) (k : Nat) : Prop where
  at_ : WAt base wr g ((H.take k).flatMap be2) (fun _ => none)
  below : Below base w wr
  keeps : Keeps w3 wr
theorem HdAt.next {base g k n : Nat} {w w3 wr w' : World} {H : List Nat} (h : HdAt base w w3 wr g H k) (hn : H[k]? = some n) (hw : WAt base w' g ((H.take k).flatMap be2 ++ be2 n) (fun _ => none)) (hb : Below base wr w') (hk : Keeps wr w') : HdAt base w w3 w' g H (k + 1) :=
  ⟨by rw [List.take_add_one, hn, List.flatMap_append]; simpa using hw, h.below.trans hb, h.keeps.trans hk⟩
theorem flat_len (H : List Nat) : (H.flatMap be2).length = 2 * H.length := by
  induction H with
  | nil => rfl
  | cons n t ih => rw [List.flatMap_cons, List.length_append, ih, List.length_cons]; simp only [be2, List.length_cons, List.length_nil]; omega
section
variable (a b c d e f : Int) (w : World)
theorem idx0 : (Instr.index 61 (.agg #[.int .i64 a, .int .i64 b, .int .i64 c, .int .i64 d, .int .i64 e, .int .i64 f]) (.int .i64 0)).run Tryd.prog w = .ok (.int .i64 a) w := by kernel_rfl
theorem idx1 : (Instr.index 61 (.agg #[.int .i64 a, .int .i64 b, .int .i64 c, .int .i64 d, .int .i64 e, .int .i64 f]) (.int .i64 1)).run Tryd.prog w = .ok (.int .i64 b) w := by kernel_rfl
theorem idx2 : (Instr.index 61 (.agg #[.int .i64 a, .int .i64 b, .int .i64 c, .int .i64 d, .int .i64 e, .int .i64 f]) (.int .i64 2)).run Tryd.prog w = .ok (.int .i64 c) w := by kernel_rfl
theorem idx3 : (Instr.index 61 (.agg #[.int .i64 a, .int .i64 b, .int .i64 c, .int .i64 d, .int .i64 e, .int .i64 f]) (.int .i64 3)).run Tryd.prog w = .ok (.int .i64 d) w := by kernel_rfl
theorem idx4 : (Instr.index 61 (.agg #[.int .i64 a, .int .i64 b, .int .i64 c, .int .i64 d, .int .i64 e, .int .i64 f]) (.int .i64 4)).run Tryd.prog w = .ok (.int .i64 e) w := by kernel_rfl
theorem idx5 : (Instr.index 61 (.agg #[.int .i64 a, .int .i64 b, .int .i64 c, .int .i64 d, .int .i64 e, .int .i64 f]) (.int .i64 5)).run Tryd.prog w = .ok (.int .i64 f) w := by kernel_rfl
end
def EncPost (base : Nat) (w : World) (b : List UInt8) (e : Ending) (w' : World) : Prop := ∃ gb cap, e = .returned (.slice (some ⟨gb, 0, none⟩) b.length cap) ∧ w'.ownsRow base 5 1 (.slice (some ⟨gb, 0, none⟩) b.length cap) b.length (bvs b) ∧ Below base w w'

set_option maxRecDepth 100000 in
set_option maxHeartbeats 8000000 in
theorem encode_any (m : MV) (hf : m.Fits) (w : World) (he : Env w) (hl : m.Lies w) (hok : mvOk m = true) :
    Calls Tryd.prog 9 #[.agg m.cells] w fun e w' => EncPost w.heap.size w (enc m.msg) e w' := by
  have CA := all_mv m hf (w.alloc (.cells m.cells 31)) (he.below ((Below.refl _ w).alloc (Nat.le_refl _) _)) (hl.below ((Below.refl _ w).alloc (Nat.le_refl _) _))
  rw [hok] at CA
  obtain ⟨c, hc, hc15⟩ : ∃ c : Nat, m.code = c ∧ c ≤ 15 := by
    unfold mvOk btw at hok
    simp only [Bool.and_eq_true, decide_eq_true_eq] at hok
    exact ⟨m.code.toNat, by omega, by omega⟩
  have CB := fun (W : World) => bits_any m c hc hc15 W
  have HM : Hid (m.cells = #[.int .i64 m.id, .bool m.rp, .bool m.tr, .bool m.rc, .int .i64 m.code, .string m.qn, .int .i64 m.qt, .slice m.A m.an.length m.ca, .slice m.U m.au.length m.cu]) := Lib.hid rfl
  rw [HM.out] at CA CB
  rw [HM.out]
  have HCB := Lib.hid CB
  obtain ⟨id, rp, tr, rc, code, qn, qt, A, ca, an, U, cu, au⟩ := m
  simp only at hc CA HCB
  subst hc
  simp only
  have hmm := @run_makeMap Tryd.prog
  have hok2 : (0 ≤ id ∧ 1 ≤ qt ∧ gosB qn = true) ∧ an.length ≤ 32 ∧ au.length ≤ 32 ∧ (∀ r ∈ an, ROk r) ∧ (∀ r ∈ au, ROk r) := by
    unfold mvOk btw allB at hok
    simp only [Bool.and_eq_true, decide_eq_true_eq, List.all_eq_true] at hok
    obtain ⟨h1, h2, h3, h4, ⟨h5, h6⟩, h7, h8⟩ := hok
    exact ⟨⟨by omega, by omega, h3⟩, h5, h7, fun r hr => rOk_of (hf.an r hr).ad (h6 r hr), fun r hr => rOk_of (hf.au r hr).ad (h8 r hr)⟩
  obtain ⟨⟨hid0, hqt0, hgq⟩, hla, hlu, hra, hru⟩ := hok2
  have HGQ := Lib.hid hgq
  have HRA := Lib.hid hra
  have HRU := Lib.hid hru
  clear CB HM hok hgq hra hru
  go_enter Tryd.func9, Tryd.ntmps9
  go_wp2_with fail
  refine CA.mono ?_
  rintro e w1 ⟨rfl, hb1, he1⟩
  clear CA
  have hg1 := heap_keep hb1
  have hlt1 := heap_lt hg1
  have HG1 := Lib.hid hg1
  have HB1 := Lib.hid (((Below.refl _ w).alloc (Nat.le_refl _) _).trans (hb1.mono (by simp)))
  have HF := Lib.hid hf
  have HL := Lib.hid hl
  have HE := Lib.hid he
  clear hg1 hb1 he1 hf hl he
  go_wp2_with fail
  have hW : WAt w.heap.size ((w1.alloc (.map #[] 0)).alloc (.cells #[.slice none 0 0, .map (some w1.heap.size)] 58)) (w1.heap.size + 1) [] (fun _ => none) :=
    ⟨.slice none 0 0, w1.heap.size, 0, .map [], ⟨by rw [show w1.heap.size + 1 = (w1.alloc (.map #[] 0)).heap.size from (World.size_alloc ..).symm]; exact heap_alloc_last _ _, World.ownsRow_nil _ _ _ _, (World.ownsMap_made w1 Tryd.prog _ _).alloc _, by omega, by simp, MapIs.empty, by omega, by simp; omega, by simp⟩, by simp⟩
  have hK : Keeps w1 ((w1.alloc (.map #[] 0)).alloc (.cells #[.slice none 0 0, .map (some w1.heap.size)] 58)) := ((Keeps.refl w1).alloc _).alloc _
  have hB : Below w.heap.size w ((w1.alloc (.map #[] 0)).alloc (.cells #[.slice none 0 0, .map (some w1.heap.size)] 58)) := (HB1.out.alloc (by omega) _).alloc (by rw [World.size_alloc]; omega) _
  have HG2 := Lib.hid (hK _ _ _ _ (by decide) (by decide) HG1.out)
  have HW2 := Lib.hid hW
  have HB2 := Lib.hid hB
  clear hW hK hB hmm
  obtain ⟨g, hg⟩ : ∃ g, w1.heap.size + 1 = g := ⟨_, rfl⟩
  revert HG2 HW2 HB2
  generalize (w1.alloc (.map #[] 0)).alloc (.cells #[.slice none 0 0, .map (some w1.heap.size)] 58) = w2
  intro HG2 HW2 HB2
  have hlt2 := heap_lt HG2.out
  have d0 := cell_of_row w2 _ 0 _ _ _ HG2.out
  have d1 := cell_of_row w2 _ 1 _ _ _ HG2.out
  have d2 := cell_of_row w2 _ 2 _ _ _ HG2.out
  have d3 := cell_of_row w2 _ 3 _ _ _ HG2.out
  have d4 := cell_of_row w2 _ 4 _ _ _ HG2.out
  have d5 := cell_of_row w2 _ 5 _ _ _ HG2.out
  have d6 := cell_of_row w2 _ 6 _ _ _ HG2.out
  have d7 := cell_of_row w2 _ 7 _ _ _ HG2.out
  have d8 := cell_of_row w2 _ 8 _ _ _ HG2.out
  simp only [List.getElem?_toArray, List.getElem?_cons_succ, List.getElem?_cons_zero] at d0 d1 d2 d3 d4 d5 d6 d7 d8
  have hq0 : WAt w.heap.size w2 g [] (fun _ => none) := by rw [← hg]; exact HW2.out
  have HQ0 := Lib.hid hq0
  clear hq0
  go_region_held3 (fun w' => w'.cell? ⟨w.heap.size, 0, none⟩ = some (.int .i64 id) ∧ w'.cell? ⟨w.heap.size, 1, none⟩ = some (.bool rp) ∧ w'.cell? ⟨w.heap.size, 2, none⟩ = some (.bool tr) ∧ w'.cell? ⟨w.heap.size, 3, none⟩ = some (.bool rc) ∧ w'.cell? ⟨w.heap.size, 4, none⟩ = some (.int .i64 c) ∧
      w'.cell? ⟨w.heap.size, 5, none⟩ = some (.string qn) ∧ w'.cell? ⟨w.heap.size, 6, none⟩ = some (.int .i64 qt) ∧ w'.cell? ⟨w.heap.size, 7, none⟩ = some (.slice A an.length ca) ∧ w'.cell? ⟨w.heap.size, 8, none⟩ = some (.slice U au.length cu))
    (first
      | go_keep
      | exact ⟨e0, e1, e2, e3, e4, e5, e6, e7, e8⟩)
    (first
      | (go_at_call 16; refine (HCB.out _).mono ?_; rintro e w3 ⟨rfl, hb3⟩; have e0 := (hb3.cell (p := ⟨w.heap.size, 0, none⟩) hlt2).trans d0; have e1 := (hb3.cell (p := ⟨w.heap.size, 1, none⟩) hlt2).trans d1; have e2 := (hb3.cell (p := ⟨w.heap.size, 2, none⟩) hlt2).trans d2; have e3 := (hb3.cell (p := ⟨w.heap.size, 3, none⟩) hlt2).trans d3; have e4 := (hb3.cell (p := ⟨w.heap.size, 4, none⟩) hlt2).trans d4; have e5 := (hb3.cell (p := ⟨w.heap.size, 5, none⟩) hlt2).trans d5; have e6 := (hb3.cell (p := ⟨w.heap.size, 6, none⟩) hlt2).trans d6; have e7 := (hb3.cell (p := ⟨w.heap.size, 7, none⟩) hlt2).trans d7; have e8 := (hb3.cell (p := ⟨w.heap.size, 8, none⟩) hlt2).trans d8; have HB3 := Lib.hid hb3))
  have HK3 : Hid (Keeps w2 w3) := Lib.hid ((Keeps.refl w2).drew.trans (.below HB3.out))
  have HW3 : Hid (WAt w.heap.size w3 g [] (fun _ => none)) := by
    obtain ⟨v, mb, n, D, h, hn⟩ := HQ0.out
    exact Lib.hid ⟨v, mb, n, D, h.drew.below HB3.out, hn⟩
  have HBw : Hid (Below w.heap.size w w3) := Lib.hid (HB2.out.drew.trans (HB3.out.mono HB2.out.size))
  have HG3 := Lib.hid (HK3.out _ _ _ _ (by decide) (by decide) HG2.out)
  clear hb3 e0 e1 e2 e3 e4 e5 e6 e7 e8 d0 d1 d2 d3 d4 d5 d6 d7 d8
  obtain ⟨H, hH⟩ : ∃ H, headN id.toNat (bitsV rp tr rc c) an.length au.length = H := ⟨_, rfl⟩
  have HH := Lib.hid hH
  have hHl : H.length = 6 := by rw [← hH]; rfl
  have HHl := Lib.hid hHl
  have HD0 : Hid (HdAt w.heap.size w w3 w3 g H 0) := Lib.hid ⟨HW3.out, HBw.out, Keeps.refl _⟩
  clear hH hHl
  go_wp2_with fail
  go_loopw [27, 5] (fun i _ wr => ∃ k : Nat, k ≤ 6 ∧ i = .int .i64 k ∧ Hid (HdAt w.heap.size w w3 wr g H k)) (fun i _ _ => 6 - (intOf i).toNat)
  case atStart => exact ⟨0, by omega, rfl, HD0⟩
  case round =>
    obtain ⟨k, hk, rfl, HD⟩ := hrel
    by_cases hlt : k < 6
    · have hfl := flat_len (H.take k)
      rw [List.length_take, HHl.out] at hfl
      have hfl2 : ((H.take k).flatMap be2).length ≤ 12 := by omega
      have HHn : Hid (∀ n, H[k]? = some n → ∀ (wr : World), WAt w.heap.size wr g ((H.take k).flatMap be2) (fun _ => none) → Calls Tryd.prog 17 #[.pointer (some ⟨g, 0, none⟩), .int .i64 (n : Nat)] wr fun e w' => WPost w.heap.size wr g ((H.take k).flatMap be2 ++ be2 n) (fun _ => none) e w') := Lib.hid (fun n _ wr hw => by
        have := two_any w.heap.size g ((H.take k).flatMap be2) (fun _ => none) (n : Nat) wr hw (by omega) (by omega)
        rw [Int.toNat_natCast] at this
        exact this)
      clear hfl hfl2
      have hcase : k = 0 ∨ k = 1 ∨ k = 2 ∨ k = 3 ∨ k = 4 ∨ k = 5 := by omega
      have HID : Hid ((id.toNat : Int) = id) := Lib.hid (by omega)
      have HHnI : Hid (∀ n, H[k]? = some n → ∀ (wr : World), WAt w.heap.size wr g ((H.take k).flatMap be2) (fun _ => none) → n = id.toNat → Calls Tryd.prog 17 #[.pointer (some ⟨g, 0, none⟩), .int .i64 id] wr fun e w' => WPost w.heap.size wr g ((H.take k).flatMap be2 ++ be2 n) (fun _ => none) e w') := Lib.hid (fun n hn wr hw e => by
        have := HHn.out n hn wr hw
        rw [e, HID.out] at this
        rw [e]
        exact this)
      rcases hcase with rfl | rfl | rfl | rfl | rfl | rfl
      · have hix := idx0 id (bitsV rp tr rc c : Nat) 1 an.length au.length 0
        go_wp2_with fail
        refine (HHnI.out id.toNat (by rw [← HH.out]; rfl) wr HD.out.at_ rfl).mono ?_
        rintro e w4 ⟨rfl, hw4, hb4, hk4⟩
        have HN := Lib.hid (HD.out.next (n := id.toNat) (by rw [← HH.out]; rfl) hw4 hb4 hk4)
        clear hw4 hb4 hk4 hix
        go_wp2_with fail
        go_roundw
        case rel => exact ⟨1, by omega, by first | rfl | go_num, HN⟩
        case measure => simp [intOf]
      · have hix := idx1 id (bitsV rp tr rc c : Nat) 1 an.length au.length 0
        go_wp2_with fail
        refine (HHn.out (bitsV rp tr rc c) (by rw [← HH.out]; rfl) wr HD.out.at_).mono ?_
        rintro e w4 ⟨rfl, hw4, hb4, hk4⟩
        have HN := Lib.hid (HD.out.next (n := (bitsV rp tr rc c)) (by rw [← HH.out]; rfl) hw4 hb4 hk4)
        clear hw4 hb4 hk4 hix
        go_wp2_with fail
        go_roundw
        case rel => exact ⟨2, by omega, by first | rfl | go_num, HN⟩
        case measure => simp [intOf]
      · have hix := idx2 id (bitsV rp tr rc c : Nat) 1 an.length au.length 0
        go_wp2_with fail
        refine (HHn.out 1 (by rw [← HH.out]; rfl) wr HD.out.at_).mono ?_
        rintro e w4 ⟨rfl, hw4, hb4, hk4⟩
        have HN := Lib.hid (HD.out.next (n := 1) (by rw [← HH.out]; rfl) hw4 hb4 hk4)
        clear hw4 hb4 hk4 hix
        go_wp2_with fail
        go_roundw
        case rel => exact ⟨3, by omega, by first | rfl | go_num, HN⟩
        case measure => simp [intOf]
      · have hix := idx3 id (bitsV rp tr rc c : Nat) 1 an.length au.length 0
        go_wp2_with fail
        refine (HHn.out an.length (by rw [← HH.out]; rfl) wr HD.out.at_).mono ?_
        rintro e w4 ⟨rfl, hw4, hb4, hk4⟩
        have HN := Lib.hid (HD.out.next (n := an.length) (by rw [← HH.out]; rfl) hw4 hb4 hk4)
        clear hw4 hb4 hk4 hix
        go_wp2_with fail
        go_roundw
        case rel => exact ⟨4, by omega, by first | rfl | go_num, HN⟩
        case measure => simp [intOf]
      · have hix := idx4 id (bitsV rp tr rc c : Nat) 1 an.length au.length 0
        go_wp2_with fail
        refine (HHn.out au.length (by rw [← HH.out]; rfl) wr HD.out.at_).mono ?_
        rintro e w4 ⟨rfl, hw4, hb4, hk4⟩
        have HN := Lib.hid (HD.out.next (n := au.length) (by rw [← HH.out]; rfl) hw4 hb4 hk4)
        clear hw4 hb4 hk4 hix
        go_wp2_with fail
        go_roundw
        case rel => exact ⟨5, by omega, by first | rfl | go_num, HN⟩
        case measure => simp [intOf]
      · have hix := idx5 id (bitsV rp tr rc c : Nat) 1 an.length au.length 0
        go_wp2_with fail
        refine (HHn.out 0 (by rw [← HH.out]; rfl) wr HD.out.at_).mono ?_
        rintro e w4 ⟨rfl, hw4, hb4, hk4⟩
        have HN := Lib.hid (HD.out.next (n := 0) (by rw [← HH.out]; rfl) hw4 hb4 hk4)
        clear hw4 hb4 hk4 hix
        go_wp2_with fail
        go_roundw
        case rel => exact ⟨6, by omega, by first | rfl | go_num, HN⟩
        case measure => simp [intOf]
    · obtain rfl : k = 6 := by omega
      have hW := HD.out.at_
      have hHt : H.take 6 = H := List.take_of_length_le (by rw [HHl.out]; omega)
      rw [hHt] at hW
      have hfl := flat_len H
      rw [HHl.out] at hfl
      have HB0 : Hid (H.flatMap be2 = headB (MV.msg ⟨id, rp, tr, rc, c, qn, qt, A, ca, an, U, cu, au⟩)) := Lib.hid (by rw [← HH.out]; unfold headN headB bitsN MV.msg bitsV; simp only [List.flatMap_cons, List.flatMap_nil, List.length_map, Int.toNat_natCast, List.append_nil, List.append_assoc])
      obtain ⟨b0, hb0e⟩ : ∃ b0, H.flatMap be2 = b0 := ⟨_, rfl⟩
      rw [hb0e] at hW hfl HB0
      have HW0 := Lib.hid hW
      have hgr := HD.out.keeps _ _ _ _ (by decide) (by decide) HG3.out
      have d5 := cell_of_row wr _ 5 _ _ _ hgr
      have d6 := cell_of_row wr _ 6 _ _ _ hgr
      simp only [List.getElem?_toArray, List.getElem?_cons_succ, List.getElem?_cons_zero] at d5 d6
      have HGr := Lib.hid hgr
      have hMax := HE.out.1
      have C := question_any w.heap.size g b0 (fun _ => none) qn qt wr (HE.out.below HD.out.below) hMax hW (by omega) HGQ.out (by omega) (by omega)
      have hql := encQ_len HGQ.out b0.length (fun _ => none) qt.toNat
      have hl12 : b0.length = 12 := by omega
      have HQd : Hid (encQ b0.length (fun _ => none) qn.data.toList qt.toNat = encA (MV.msg ⟨id, rp, tr, rc, c, qn, qt, A, ca, an, U, cu, au⟩)) := Lib.hid (by rw [hl12]; rfl)
      have HL12 := Lib.hid hl12
      clear hW hHt hfl hb0e hgr hl12
      revert C hql HQd
      generalize encQ b0.length (fun _ => none) qn.data.toList qt.toNat = Q
      intro C hql HQd
      go_wp2_with fail
      refine C.mono ?_
      rintro e w5 ⟨rfl, hw5, hb5, hk5⟩
      have HW5 := Lib.hid hw5
      have HB5 := Lib.hid (HD.out.below.trans hb5)
      have HG5 := Lib.hid (hk5 _ _ _ _ (by decide) (by decide) HGr.out)
      have d7 := cell_of_row w5 _ 7 _ _ _ HG5.out
      simp only [List.getElem?_toArray, List.getElem?_cons_succ, List.getElem?_cons_zero] at d7
      clear C hw5 hb5 hk5 d5 d6
      have hl5 : (b0 ++ Q.1).length = b0.length + Q.1.length := List.length_append
      have hl5' : (b0 ++ Q.1).length ≤ 1000 := by rw [hl5, HL12.out]; omega
      have hl5p : 0 < (b0 ++ Q.1).length := by rw [hl5, HL12.out]; omega
      obtain ⟨b1, hb1e⟩ : ∃ b1, b0 ++ Q.1 = b1 := ⟨_, rfl⟩
      rw [hb1e] at HW5 hl5' hl5p
      have HB1e := Lib.hid hb1e
      have HL5 := Lib.hid hl5
      obtain ⟨T1, hT1⟩ : ∃ T1, b1 ++ (encRs b1.length Q.2 (an.map RV.rec_)).1 = T1 := ⟨_, rfl⟩
      obtain ⟨F1, hF1⟩ : ∃ F1, (encRs b1.length Q.2 (an.map RV.rec_)).2 = F1 := ⟨_, rfl⟩
      have HTqA : Hid (b1 ++ (encRs b1.length Q.2 ((an.drop 0).map RV.rec_)).1 = T1) := Lib.hid (by rw [List.drop_zero]; exact hT1)
      have HFqA : Hid ((encRs b1.length Q.2 ((an.drop 0).map RV.rec_)).2 = F1) := Lib.hid (by rw [List.drop_zero]; exact hF1)
      clear hb1e hl5 hT1 hF1
      go_wp2_with fail
      go_loopw [41, 7] (fun i _ wr => ∃ (k : Nat) (b' : List UInt8) (st' : St), k ≤ an.length ∧ i = .int .i64 k ∧ 0 < b'.length ∧ b'.length ≤ 1000 + 600 * k ∧ Hid (RcAt w.heap.size w w5 wr g T1 F1 an k b' st')) (fun i _ _ => an.length - (intOf i).toNat)
      case atStart => exact ⟨0, b1, Q.2, Nat.zero_le _, rfl, by omega, by omega, Lib.hid ⟨HW5.out, HB5.out, Keeps.refl _, HTqA.out, HFqA.out⟩⟩
      case round =>
        obtain ⟨k, b', st', hk, rfl, hb0, hbl, HRc⟩ := hrel
        by_cases hlt : k < an.length
        · obtain ⟨r, hr⟩ : ∃ r, an[k]? = some r := ⟨_, List.getElem?_eq_getElem hlt⟩
          have hmem := List.mem_of_getElem? hr
          have hrok := HRA.out r hmem
          obtain ⟨b, o, rfl, hbb, hcc⟩ := (HL.out.an.below HRc.out.below) (show 0 < an.length by omega)
          have HC := Lib.hid (hcc k r hr)
          have Z := Lib.hid (sizeRv hrok.d.ad)
          have ZZ : Hid ((RV.cells ⟨emp, 0, 0, zero16, emp, emp⟩).size = r.cells.size) := Lib.hid (by rw [RV.size hrok.d.ad]; rfl)
          have O1 := Lib.hid (RV.one r)
          have ZR := Lib.hid zeroRec
          have hEr : Env wr := HE.out.below HRc.out.below
          have hbse := HRc.out.at_.size
          have C := record_any w.heap.size g b' st' r (wr.alloc (.cells r.cells 45)) hrok (hEr.below ((Below.refl _ wr).alloc (Nat.le_refl _) _)) hMax (HRc.out.at_.alloc _) hb0 (by omega)
          have hrl := recR_len hrok b'.length st'
          have HNx : Hid (∀ w', WAt w.heap.size w' g (b' ++ (recR b'.length st' r).1) (recR b'.length st' r).2 → Below w.heap.size wr w' → Keeps wr w' → RcAt w.heap.size w w5 w' g T1 F1 an (k + 1) (b' ++ (recR b'.length st' r).1) (recR b'.length st' r).2) := Lib.hid (fun w' h1 h2 h3 => HRc.out.next hr hrok h1 h2 h3)
          clear hcc hr hmem hrok hEr hbb
          revert HC Z ZZ O1 C HNx hrl ZR
          generalize recR b'.length st' r = RR
          generalize r.cells = cs
          generalize RV.cells ⟨emp, 0, 0, zero16, emp, emp⟩ = zs
          intro HC Z ZZ O1 ZR C hrl HNx
          go_wp2_with (first
            | (refine wpList_load_agg rfl 45 (.tmp 43) rfl ⟨b, o + k * 21, none⟩ rfl cs _ HC.out Tryd.underlying45 rfl Z.out ?_; go_simp)
            | (refine wpList_alloc_z rfl 45 rfl zs ZR.out ?_; go_simp)
            | (refine wpList_store_new rfl 45 (.tmp 7) (.tmp 44) rfl wr.heap.size rfl zs cs 45 rfl rfl Z.out ZZ.out O1.out ?_; go_simp)
            | (refine wpList_load_row rfl 45 (.tmp 7) rfl wr.heap.size rfl 45 cs (0, 0) _ (heap_alloc_last wr _) Tryd.underlying45 rfl Z.out ?_; go_simp))
          refine C.mono ?_
          rintro e w6 ⟨rfl, hw6, hb6, hk6⟩
          have HN6 := Lib.hid (HNx.out w6 hw6 (((Below.refl w.heap.size wr).alloc hbse _).trans hb6) (((Keeps.refl wr).alloc _).trans hk6))
          have hlen6 : (b' ++ RR.1).length = b'.length + RR.1.length := List.length_append
          have HL6 := Lib.hid hlen6
          clear C hw6 hb6 hk6 hlen6
          go_wp2_with fail
          go_roundw
          case rel => exact ⟨k + 1, _, _, by omega, by go_num, by rw [HL6.out]; omega, by rw [HL6.out]; omega, HN6⟩
          case measure => simp [intOf]; omega
        · obtain rfl : k = an.length := by omega
          have hah := HRc.out.ahead
          have htb := HRc.out.table
          rw [List.drop_length, List.map_nil] at hah htb
          simp only [encRs, List.append_nil] at hah htb
          subst hah htb
          obtain ⟨wa, rfl⟩ : ∃ wa : World, wa = wr := ⟨_, rfl⟩
          obtain ⟨ba, rfl⟩ : ∃ ba : List UInt8, ba = b' := ⟨_, rfl⟩
          obtain ⟨sa, rfl⟩ : ∃ sa : St, sa = st' := ⟨_, rfl⟩
          have HWa := Lib.hid HRc.out.at_
          have HBa := Lib.hid HRc.out.below
          have HGa := Lib.hid (HRc.out.keeps _ _ _ _ (by decide) (by decide) HG5.out)
          have d8 := cell_of_row wa _ 8 _ _ _ HGa.out
          simp only [List.getElem?_toArray, List.getElem?_cons_succ, List.getElem?_cons_zero] at d8
          have hbl2 : ba.length ≤ 30000 := by omega
          obtain ⟨T2, hT2⟩ : ∃ T2, ba ++ (encRs ba.length sa (au.map RV.rec_)).1 = T2 := ⟨_, rfl⟩
          obtain ⟨F2, hF2⟩ : ∃ F2, (encRs ba.length sa (au.map RV.rec_)).2 = F2 := ⟨_, rfl⟩
          have HTqB : Hid (ba ++ (encRs ba.length sa ((au.drop 0).map RV.rec_)).1 = T2) := Lib.hid (by rw [List.drop_zero]; exact hT2)
          have HFqB : Hid ((encRs ba.length sa ((au.drop 0).map RV.rec_)).2 = F2) := Lib.hid (by rw [List.drop_zero]; exact hF2)
          have HT2 := Lib.hid hT2
          clear hT2 hF2
          go_wp2_with fail
          go_loopw [52, 9] (fun i _ wr => ∃ (k : Nat) (b' : List UInt8) (st' : St), k ≤ au.length ∧ i = .int .i64 k ∧ 0 < b'.length ∧ b'.length ≤ 30000 + 600 * k ∧ Hid (RcAt w.heap.size w wa wr g T2 F2 au k b' st')) (fun i _ _ => au.length - (intOf i).toNat)
          case atStart => exact ⟨0, ba, sa, Nat.zero_le _, rfl, by omega, by omega, Lib.hid ⟨HWa.out, HBa.out, Keeps.refl _, HTqB.out, HFqB.out⟩⟩
          case round =>
            obtain ⟨k, b', st', hk, rfl, hb0, hbl, HRc⟩ := hrel
            by_cases hlt : k < au.length
            · obtain ⟨r, hr⟩ : ∃ r, au[k]? = some r := ⟨_, List.getElem?_eq_getElem hlt⟩
              have hmem := List.mem_of_getElem? hr
              have hrok := HRU.out r hmem
              obtain ⟨b, o, rfl, hbb, hcc⟩ := (HL.out.au.below HRc.out.below) (show 0 < au.length by omega)
              have HC := Lib.hid (hcc k r hr)
              have Z := Lib.hid (sizeRv hrok.d.ad)
              have ZZ : Hid ((RV.cells ⟨emp, 0, 0, zero16, emp, emp⟩).size = r.cells.size) := Lib.hid (by rw [RV.size hrok.d.ad]; rfl)
              have O1 := Lib.hid (RV.one r)
              have ZR := Lib.hid zeroRec
              have hEr : Env wr := HE.out.below HRc.out.below
              have hbse := HRc.out.at_.size
              have C := record_any w.heap.size g b' st' r (wr.alloc (.cells r.cells 45)) hrok (hEr.below ((Below.refl _ wr).alloc (Nat.le_refl _) _)) hMax (HRc.out.at_.alloc _) hb0 (by omega)
              have hrl := recR_len hrok b'.length st'
              have HNx : Hid (∀ w', WAt w.heap.size w' g (b' ++ (recR b'.length st' r).1) (recR b'.length st' r).2 → Below w.heap.size wr w' → Keeps wr w' → RcAt w.heap.size w wa w' g T2 F2 au (k + 1) (b' ++ (recR b'.length st' r).1) (recR b'.length st' r).2) := Lib.hid (fun w' h1 h2 h3 => HRc.out.next hr hrok h1 h2 h3)
              clear hcc hr hmem hrok hEr hbb
              revert HC Z ZZ O1 C HNx hrl ZR
              generalize recR b'.length st' r = RR
              generalize r.cells = cs
              generalize RV.cells ⟨emp, 0, 0, zero16, emp, emp⟩ = zs
              intro HC Z ZZ O1 ZR C hrl HNx
              go_wp2_with (first
                | (refine wpList_load_agg rfl 45 (.tmp 54) rfl ⟨b, o + k * 21, none⟩ rfl cs _ HC.out Tryd.underlying45 rfl Z.out ?_; go_simp)
                | (refine wpList_alloc_z rfl 45 rfl zs ZR.out ?_; go_simp)
                | (refine wpList_store_new rfl 45 (.tmp 9) (.tmp 55) rfl wr.heap.size rfl zs cs 45 rfl rfl Z.out ZZ.out O1.out ?_; go_simp)
                | (refine wpList_load_row rfl 45 (.tmp 9) rfl wr.heap.size rfl 45 cs (0, 0) _ (heap_alloc_last wr _) Tryd.underlying45 rfl Z.out ?_; go_simp))
              refine C.mono ?_
              rintro e w6 ⟨rfl, hw6, hb6, hk6⟩
              have HN6 := Lib.hid (HNx.out w6 hw6 (((Below.refl w.heap.size wr).alloc hbse _).trans hb6) (((Keeps.refl wr).alloc _).trans hk6))
              have hlen6 : (b' ++ RR.1).length = b'.length + RR.1.length := List.length_append
              have HL6 := Lib.hid hlen6
              clear C hw6 hb6 hk6 hlen6
              go_wp2_with fail
              go_roundw
              case rel => exact ⟨k + 1, _, _, by omega, by go_num, by rw [HL6.out]; omega, by rw [HL6.out]; omega, HN6⟩
              case measure => simp [intOf]; omega
            · obtain rfl : k = au.length := by omega
              have hah := HRc.out.ahead
              have htb := HRc.out.table
              rw [List.drop_length, List.map_nil] at hah htb
              simp only [encRs, List.append_nil] at hah htb
              subst hah htb
              obtain ⟨v, mb, nn, D, hI, hnn⟩ := HRc.out.at_
              obtain ⟨gb, cap, rfl⟩ : ∃ gb cap, v = .slice (some ⟨gb, 0, none⟩) b'.length cap := by
                rcases hI.row.2 with ⟨_, h0⟩ | ⟨gb, cap, _, hv, _⟩
                · omega
                · exact ⟨gb, cap, hv⟩
              have c0 : wr.cell? ⟨g, 0, none⟩ = some (.slice (some ⟨gb, 0, none⟩) b'.length cap) := cell_of_row wr g 0 _ _ _ hI.blk
              have HR := Lib.hid hI.row
              clear hI
              go_wp2_with fail
              go_ret
              have hb' : b' = enc (MV.msg ⟨id, rp, tr, rc, c, qn, qt, A, ca, an, U, cu, au⟩) := by
                have h1 := HTqA.out
                have h2 := HFqA.out
                have h3 := HT2.out
                rw [List.drop_zero] at h1 h2
                have h4 := HB1e.out
                have h5 := HL5.out
                rw [HL12.out] at h5
                have h6 : b1.length = 12 + Q.1.length := by rw [← h4]; exact h5
                have h7 : ba.length = 12 + Q.1.length + (encRs (12 + Q.1.length) Q.2 (an.map RV.rec_)).1.length := by rw [← h1, List.length_append, h6]
                rw [h7] at h3
                rw [h6] at h1 h2
                rw [← h3, ← h1, ← h2, ← h4, HB0.out, HQd.out]
                unfold enc encC encB
                simp only [List.append_assoc]
                rfl
              subst hb'
              exact ⟨gb, cap, rfl, HR.out, HRc.out.below⟩
end Go.Proofs.YtakfokdjdljjjaaDoor
