/-
  The walk of MsgHeads: bytes of another shape are none. Condition: the library's variable MaxLen holds some number.
-/
import Derived.Test.YtfipfmloplggiaaDoorMsgBad
import Derived.Test.YtfipfmloplggiaaDoorMsgRecAll
import Derived.Test.YtfipfmloplggiaaDoorMsgHm
import Derived.Test.YtfipfmloplggiaaDoorMsgPlLib
namespace Go.Proofs.YtfipfmloplggiaaDoor
open Go.RowKit

theorem zero_inB (w : World) : InB w w.heap.size none [] := fun h => absurd h (by simp)
/-- the five ways in which the bytes are changed -/
def hmAt (i : Nat) : Nat := [2, 5, 20, 22, 21].getD i 0
def hmX (i : Nat) : UInt8 := [8, 2, 2, 40, 255].getD i 0
theorem hm_decode (id i : Nat) (hi : i < 5) (g c : Nat) (W : World) (hW : Env W) (hin : InB W W.heap.size (some ⟨g, 0, none⟩) (hmS id (hmAt i) (hmX i))) (hc : 34 ≤ c) :
    Calls Tryd.prog 14 #[.slice (some ⟨g, 0, none⟩) 34 c] W fun e w' => e = .returned (.tuple #[.agg zMsg, .int .i64 4]) ∧ Below W.heap.size W w' := by
  have hl : (hmS id (hmAt i) (hmX i)).length = 34 := by unfold hmS; rw [List.length_set]; rfl
  have HR := fun (W : World) (base g' : Nat) (o' : Option Nat) (hE : Env W) (hB : 0 < base) (h : RSt base W g' (some ⟨g, 0, none⟩) c (hmS id (hmAt i) (hmX i)) o') => recordP base g' c (some ⟨g, 0, none⟩) (hmS id (hmAt i) (hmX i)) o' W hE hB h
  have hn : (some (⟨g, 0, none⟩ : Addr)) = none → c = 0 := fun e => by cases e
  rcases (show i = 0 ∨ i = 1 ∨ i = 2 ∨ i = 3 ∨ i = 4 by omega) with rfl | rfl | rfl | rfl | rfl
  · have h := decode_head (some ⟨g, 0, none⟩) c (hmS id 2 8) W hW hin (by rw [show (hmS id 2 8).length = 34 from hl]; exact hc) (by rw [show (hmS id 2 8).length = 34 from hl]; omega) hn (fun _ => .inl (by
      have e : hd (hmS id 2 8) 1 = 2048 := by rfl
      rw [e]; decide +kernel))
    rw [show (hmS id 2 8).length = 34 from hl] at h
    exact h
  · have h := decode_head (some ⟨g, 0, none⟩) c (hmS id 5 2) W hW hin (by rw [show (hmS id 5 2).length = 34 from hl]; exact hc) (by rw [show (hmS id 5 2).length = 34 from hl]; omega) hn (fun _ => .inr (.inl (by
      have e : hd (hmS id 5 2) 2 = 2 := by rfl
      rw [e]; decide)))
    rw [show (hmS id 5 2).length = 34 from hl] at h
    exact h
  · have h := decode_bad (some ⟨g, 0, none⟩) c (hmS id 20 2) W hW hin (by rw [show (hmS id 20 2).length = 34 from hl]; exact hc) (by rw [show (hmS id 20 2).length = 34 from hl]; omega) hn (by rw [show (hmS id 20 2).length = 34 from hl]; omega)
      (by have e : hd (hmS id 20 2) 1 = 0 := by rfl
          rw [e]; decide +kernel) (by rfl) (by
          have e3 : hd (hmS id 20 2) 3 = 1 := by rfl
          have e4 : hd (hmS id 20 2) 4 = 0 := by rfl
          rw [e3, e4]; decide) HR (by rw [hm_q2]; rfl)
    rw [show (hmS id 20 2).length = 34 from hl] at h
    exact h
  · have h := decode_bad (some ⟨g, 0, none⟩) c (hmS id 22 40) W hW hin (by rw [show (hmS id 22 40).length = 34 from hl]; exact hc) (by rw [show (hmS id 22 40).length = 34 from hl]; omega) hn (by rw [show (hmS id 22 40).length = 34 from hl]; omega)
      (by have e : hd (hmS id 22 40) 1 = 0 := by rfl
          rw [e]; decide +kernel) (by rfl) (by
          have e3 : hd (hmS id 22 40) 3 = 1 := by rfl
          have e4 : hd (hmS id 22 40) 4 = 0 := by rfl
          rw [e3, e4]; decide) HR (by
          have e3 : hd (hmS id 22 40) 3 = 1 := by rfl
          have e4 : hd (hmS id 22 40) 4 = 0 := by rfl
          rw [e3, e4]; exact hm_q3 id 22 40 (.inl ⟨rfl, rfl⟩))
    rw [show (hmS id 22 40).length = 34 from hl] at h
    exact h
  · have h := decode_bad (some ⟨g, 0, none⟩) c (hmS id 21 255) W hW hin (by rw [show (hmS id 21 255).length = 34 from hl]; exact hc) (by rw [show (hmS id 21 255).length = 34 from hl]; omega) hn (by rw [show (hmS id 21 255).length = 34 from hl]; omega)
      (by have e : hd (hmS id 21 255) 1 = 0 := by rfl
          rw [e]; decide +kernel) (by rfl) (by
          have e3 : hd (hmS id 21 255) 3 = 1 := by rfl
          have e4 : hd (hmS id 21 255) 4 = 0 := by rfl
          rw [e3, e4]; decide) HR (by
          have e3 : hd (hmS id 21 255) 3 = 1 := by rfl
          have e4 : hd (hmS id 21 255) 4 = 0 := by rfl
          rw [e3, e4]; exact hm_q3 id 21 255 (.inr ⟨rfl, rfl⟩))
    rw [show (hmS id 21 255).length = 34 from hl] at h
    exact h
theorem hm_nil (W : World) (hW : Env W) : Calls Tryd.prog 14 #[.slice none 0 0] W fun e w' => e = .returned (.tuple #[.agg zMsg, .int .i64 4]) ∧ Below W.heap.size W w' :=
  decode_head none 0 [] W hW (zero_inB W) (Nat.le_refl _) (by decide) (fun _ => rfl) (fun h => absurd h (by decide))
theorem and_m (n : Int) (q : Nat) (hq : q < 1000000) : ∃ m : Nat, m ≤ q ∧ bits BinOp.and IntKind.i64 n (q : Nat) = (m : Int) := by
  have hle : (BitVec.ofInt 64 n &&& BitVec.ofInt 64 (q : Nat)).toNat ≤ q := by
    rw [BitVec.toNat_and]
    refine Nat.le_trans Nat.and_le_right ?_
    rw [BitVec.ofInt_natCast, BitVec.toNat_ofNat]
    exact Nat.mod_le _ _
  refine ⟨(BitVec.ofInt 64 n &&& BitVec.ofInt 64 (q : Nat)).toNat, hle, ?_⟩
  show IntKind.i64.wrap ((BitVec.ofInt 64 n &&& BitVec.ofInt 64 (q : Nat)).toNat : Int) = _
  exact IntWalk.i64_in _ (by omega)
def hmR : RV := ⟨⟨#[97, 46, 98]⟩, 16, 0, zero16, emp, ⟨#[120]⟩⟩
def hmV (id : Nat) (A : Option Addr) : MV := ⟨id, false, false, false, 0, ⟨#[97, 46, 98]⟩, 1, A, 1, [hmR], none, 0, []⟩
def hC (id : Nat) (A : Option Addr) : Array Value := #[.int .i64 (id : Nat), .bool false, .bool false, .bool false, .int .i64 0, .string ⟨#[97, 46, 98]⟩, .int .i64 1, .slice A 1 1, .slice none 0 0]
theorem hm_builtR : Tryd.prog.built 44 [(0, .string ⟨#[97, 46, 98]⟩), (1, .int .i64 16), (5, .string ⟨#[120]⟩)] = some hmR.cells := by kernel_rfl
theorem hm_builtM (id : Nat) (A : Option Addr) : Tryd.prog.built 29 [(0, .int .i64 (id : Nat)), (5, .agg #[.string ⟨#[97, 46, 98]⟩, .int .i64 1]), (6, .slice A 1 1)] = some (hC id A) := by kernel_rfl
theorem hmV_ok (id : Nat) (A : Option Addr) (h : id ≤ 65535) : mvOk (hmV id A) = true := by
  have h1 : rvOk hmR = true := by decide +kernel
  have h2 : gosB ⟨#[97, 46, 98]⟩ = true := by decide +kernel
  unfold mvOk hmV allB
  simp only [h2, List.all_cons, h1, List.all_nil, List.length_cons, List.length_nil]
  unfold btw
  simp
  omega
theorem fill21h {cs : List Value} (h : cs.length = 21) : Instr.fill (fun i => some (i * 21, 21)) ((Array.range (1 * 21)).map ((Value.agg (RV.cells ⟨emp, 0, 0, zero16, emp, emp⟩)).cells[· % (Value.agg (RV.cells ⟨emp, 0, 0, zero16, emp, emp⟩)).cells.size]!)) [(0, .agg cs.toArray)] = some cs.toArray := fill21r h
theorem hm_encode (id : Nat) (hid : id ≤ 65535) (g1 : Nat) (W : World) (hW : Env W) (hg : W.heap[g1]? = some (.cells hmR.cells 44 (0, 0))) : Calls Tryd.prog 15 #[.agg (hC id (some ⟨g1, 0, none⟩))] W fun e w' =>
    ∃ gb cap, e = .returned (.slice (some ⟨gb, 0, none⟩) 34 cap) ∧ 34 ≤ cap ∧ gb < w'.heap.size ∧ W.heap.size ≤ gb ∧ w'.heap[gb]? ≠ none ∧ (∀ j, j < 34 → w'.cell? ⟨gb, j, none⟩ = some (.int .u8 ((hmB id).getD j 0).toNat)) ∧ (∀ j, w'.frozen? ⟨gb, j, none⟩ = false) ∧ Below W.heap.size W w' := by
  have h := encode_any (hmV id (some ⟨g1, 0, none⟩)) ⟨(by show (3 : Nat) ≤ maxLen; decide), (fun r hr => by rw [List.mem_singleton.1 hr]; exact ⟨rfl, by decide, by decide, by decide⟩), (fun r hr => by cases hr), (by show 1 ≤ _; omega), (by show 0 ≤ _; omega)⟩ W hW
    ⟨fun _ => ⟨g1, 0, rfl, heap_lt hg, fun k r hr j v hj => by
      have hk : k = 0 := by have h1 : k < 1 := (List.getElem?_eq_some_iff.1 hr).1; omega
      subst hk
      injection hr with hr
      subst hr
      rw [Addr.add_lit]
      show W.cell? ⟨g1, 0 + 0 * 21 + j, none⟩ = some v
      rw [Nat.zero_mul, Nat.zero_add, cell_of_row W g1 j _ _ _ hg, ← Array.getElem?_toList]; exact hj⟩, fun h => absurd h (by show ¬ 0 < 0; omega)⟩ (hmV_ok id _ hid)
  have e1 : enc (hmV id (some ⟨g1, 0, none⟩)).msg = hmB id := hm_enc id
  rw [e1] at h
  refine h.mono ?_
  rintro e w' ⟨gb, cap, h1, h2, h3⟩
  obtain ⟨hl, hcap, _, hcell⟩ := enc_inB h2 (by show 0 < 34; omega)
  have hlt := (h2.lt gb rfl).1
  rcases h2.2 with ⟨hv, _⟩ | ⟨g2, cap2, cur, hv, _, hgg, _⟩
  · cases hv
  · injection hv with hv _ _
    injection hv with hv
    injection hv with hv
    subst hv
    exact ⟨gb, cap, h1, hcap, hl, hlt, (by rw [hgg]; simp), hcell, (fun j => frozen_of_row w' gb j _ _ hgg), h3⟩
theorem hm_set {W : World} {gb : Nat} {id : Nat} (k : Nat) (x : UInt8) (hk : k < 34) (hl : gb < W.heap.size) (h : ∀ j, j < 34 → W.cell? ⟨gb, j, none⟩ = some (.int .u8 ((hmB id).getD j 0).toNat)) : InB (W.setCell ⟨gb, k, none⟩ (.int .u8 x.toNat)) (W.setCell ⟨gb, k, none⟩ (.int .u8 x.toNat)).heap.size (some ⟨gb, 0, none⟩) (hmS id k x) := fun _ => by
  refine ⟨gb, 0, rfl, by simp; exact hl, fun j hj => ?_⟩
  have hj34 : j < 34 := by unfold hmS at hj; rw [List.length_set] at hj; exact hj
  rw [Nat.zero_add]
  unfold hmS
  by_cases hjk : k = j
  · subst hjk
    rw [World.cell?_setCell_same W ⟨gb, k, none⟩ (.int .u8 x.toNat) (h k hk), List.getD_eq_getElem?_getD, List.getElem?_set_self (by exact hk)]
    rfl
  · rw [World.cell?_setCell_other W ⟨gb, k, none⟩ ⟨gb, j, none⟩ (.int .u8 x.toNat) (by intro e; injection e with _ e _; exact hjk e), h j hj34, List.getD_eq_getElem?_getD, List.getD_eq_getElem?_getD, List.getElem?_set_ne hjk]
theorem ixA (W : World) (i : Nat) (hi : i < 5) : (Instr.index 53 (.agg #[.int .i64 2, .int .i64 5, .int .i64 20, .int .i64 22, .int .i64 21]) (.int .i64 (i : Nat))).run Tryd.prog W = .ok (.int .i64 (hmAt i : Nat)) W := by
  rcases (show i = 0 ∨ i = 1 ∨ i = 2 ∨ i = 3 ∨ i = 4 by omega) with rfl | rfl | rfl | rfl | rfl <;> kernel_rfl
theorem ixX (W : World) (i : Nat) (hi : i < 5) : (Instr.index 54 (.agg #[.int .u8 8, .int .u8 2, .int .u8 2, .int .u8 40, .int .u8 255]) (.int .i64 (i : Nat))).run Tryd.prog W = .ok (.int .u8 (hmX i).toNat) W := by
  rcases (show i = 0 ∨ i = 1 ∨ i = 2 ∨ i = 3 ∨ i = 4 by omega) with rfl | rfl | rfl | rfl | rfl <;> kernel_rfl
set_option maxRecDepth 100000 in
set_option maxHeartbeats 16000000 in
theorem msgHeads_walk (n0 k0 : Int) (w : World) (he : Env w) : Calls Tryd.prog 6 #[.int .i64 n0, .int .i64 k0] w fun e w' => e = .returned (.bool true) ∧ Below w.heap.size w w' := by
  obtain ⟨id, hid, hidB⟩ := and_m n0 65535 (by omega)
  have hidB : bits BinOp.and IntKind.i64 n0 65535 = (id : Int) := hidB
  obtain ⟨q, hq⟩ : ∃ q, k0.tmod 5 = q := ⟨_, rfl⟩
  have htm : -5 < q ∧ q < 5 := by
    rw [← hq]
    constructor
    · have := Int.lt_tmod_of_pos k0 (b := 5) (by decide); omega
    · exact Int.tmod_lt_of_pos k0 (by decide)
  have hw : wrap64 (q + 5) = q + 5 := IntWalk.wrap64_in _ (by omega)
  have hem : (q + 5).tmod 5 = (q + 5) % 5 := Int.tmod_eq_emod_of_nonneg (by omega)
  have hc5 : (q + 5).tmod 5 = 0 ∨ (q + 5).tmod 5 = 1 ∨ (q + 5).tmod 5 = 2 ∨ (q + 5).tmod 5 = 3 ∨ (q + 5).tmod 5 = 4 := by omega
  have HFit := Lib.hid fit4_e
  have HNil := Lib.hid hm_nil
  have HCD := Lib.hid (fun i hi g c W hW hin hc => hm_decode id i hi g c W hW hin hc)
  have HCE : Hid (∀ (g1 : Nat) (W : World), Env W → W.heap[g1]? = some (.cells hmR.cells.toList.toArray 44 (0, 0)) → Calls Tryd.prog 15 #[.agg (hC id (some ⟨g1, 0, none⟩))] W fun e w' =>
    ∃ gb cap, e = .returned (.slice (some ⟨gb, 0, none⟩) 34 cap) ∧ 34 ≤ cap ∧ gb < w'.heap.size ∧ W.heap.size ≤ gb ∧ w'.heap[gb]? ≠ none ∧ (∀ j, j < 34 → w'.cell? ⟨gb, j, none⟩ = some (.int .u8 ((hmB id).getD j 0).toNat)) ∧ (∀ j, w'.frozen? ⟨gb, j, none⟩ = false) ∧ Below W.heap.size W w') := Lib.hid (fun g1 W hW hg => hm_encode id hid g1 W hW hg)
  have BR : Hid (Tryd.prog.built 44 [(0, .string ⟨#[97, 46, 98]⟩), (1, .int .i64 16), (5, .string ⟨#[120]⟩)] = some hmR.cells.toList.toArray) := Lib.hid hm_builtR
  have HCL : Hid (hmR.cells.toList.length = 21) := Lib.hid (RV.size (r := hmR) rfl)
  have BM := Lib.hid (hm_builtM id)
  have ZM := Lib.hid zeroM
  have SM : Hid (∀ A, (Tryd.prog.info? 29).map (·.size) = some (hC id A).size) := Lib.hid (fun _ => sizeM)
  have OM : Hid (∀ A, (hC id A).all (·.oneCell') = true) := Lib.hid (fun _ => by simp [hC, Value.oneCell'])
  have ZD : Hid (∀ A, zMsg.size = (hC id A).size) := Lib.hid (fun _ => rfl)
  have SZ : Hid ((Tryd.prog.info? 29).map (·.size) = some zMsg.size) := Lib.hid sizeM
  have OZ := Lib.hid oneZ
  have HE := Lib.hid he
  obtain ⟨i0, hi, hz0, hz1, hz2⟩ := info_rec
  have HI := Lib.hid hi
  have HZ0 := Lib.hid hz0
  have HZ1 := Lib.hid hz1
  clear he htm hem hi hz0 hz1 hz2 hid
  generalize hmR.cells.toList = cs at HCE BR HCL
  generalize hmsg : hC id = M at HCE BM SM OM ZD
  clear hmsg
  go_enter Tryd.func6, Tryd.ntmps6
  go_wp2_with fail
  refine (HFit.out w HE.out).mono ?_
  rintro e w1 ⟨rfl, hb1⟩
  have HB1 := Lib.hid hb1
  clear hb1
  go_wp2_with (first
    | (refine wpList_build_v rfl 44 #[(0, .const (.string ⟨#[97, 46, 98]⟩)), (1, .const (.int .i64 16)), (5, .const (.string ⟨#[120]⟩))] rfl _ cs.toArray BR.out rfl ?_; go_simp)
    | (refine wpList_buildSlice rfl 27 44 1 #[(0, .tmp 18)] rfl cs.toArray i0 _ Tryd.underlying27 HI.out HZ0.out (by rw [HZ1.out]; decide) (by rw [HZ1.out]; decide) (by rw [HZ1.out]; refine (congrArg _ (?_ : _ = [(0, Value.agg cs.toArray)])).trans (fill21r HCL.out); rw [Array.toList_map]; rfl) ?_; go_simp)
    | (refine wpList_build_v rfl 29 #[(0, .tmp 16), (5, .tmp 17), (6, .tmp 19)] rfl _ (M (some ⟨w1.heap.size, 0, none⟩)) (BM.out _) rfl ?_; go_simp)
    | (refine wpList_alloc_z rfl 29 rfl zMsg ZM.out ?_; go_simp)
    | (refine wpList_store_new rfl 29 (.tmp 5) (.tmp 20) rfl (w1.heap.size + 1) (World.size_alloc ..) zMsg (M (some ⟨w1.heap.size, 0, none⟩)) 29 rfl rfl (SM.out _) (ZD.out _) (OM.out _) ?_; go_simp)
    | (refine wpList_load_row rfl 29 (.tmp 5) rfl (w1.heap.size + 1) rfl 29 (M (some ⟨w1.heap.size, 0, none⟩)) (0, 0) _ (heap_alloc2_new w1 _ _) Tryd.underlying29 rfl (SM.out _) ?_; go_simp))
  have hB2 : Below w.heap.size w ((w1.alloc (.cells cs.toArray 44)).alloc (.cells (M (some ⟨w1.heap.size, 0, none⟩)) 29)) := (HB1.out.alloc HB1.out.size _).alloc (by have := HB1.out.size; rw [World.size_alloc]; omega) _
  refine (HCE.out w1.heap.size _ (HE.out.below hB2) (heap_two w1 _ _)).mono ?_
  rintro e w4 ⟨gb, cap, rfl, hcap, hgl, hge, _, hcell, hfr, hb4⟩
  have hB4 : Below w.heap.size w w4 := hB2.trans (hb4.mono hB2.size)
  have hge' : w.heap.size ≤ gb := Nat.le_trans hB2.size hge
  have HB4 := Lib.hid hB4
  have HCell := Lib.hid hcell
  have HFr := Lib.hid hfr
  clear hB2 hb4 hB4 hge hcell hfr HCE BM SM OM ZD BR
  rcases hc5 with hi | hi | hi | hi | hi
  · have d := HCell.out 2 (by omega)
    have f := HFr.out 2
    have h5 : InB (w4.setCell ⟨gb, 2, none⟩ (.int .u8 8)) (w4.setCell ⟨gb, 2, none⟩ (.int .u8 8)).heap.size (some ⟨gb, 0, none⟩) (hmS id (hmAt 0) (hmX 0)) := hm_set 2 8 (by omega) hgl HCell.out
    have hB5 : Below w.heap.size w (w4.setCell ⟨gb, 2, none⟩ (.int .u8 8)) := HB4.out.setCell (p := ⟨gb, 2, none⟩) hge' _
    have C := HCD.out 0 (by omega) gb cap _ (HE.out.below hB5) h5 hcap
    have HB5 := Lib.hid hB5
    clear h5 hB5 HCell HFr
    have ix1 : ∀ W, (Instr.index 53 (.agg #[.int .i64 2, .int .i64 5, .int .i64 20, .int .i64 22, .int .i64 21]) (.int .i64 0)).run Tryd.prog W = .ok (.int .i64 2) W := fun W => ixA W 0 (by omega)
    have ix2 : ∀ W, (Instr.index 54 (.agg #[.int .u8 8, .int .u8 2, .int .u8 2, .int .u8 40, .int .u8 255]) (.int .i64 0)).run Tryd.prog W = .ok (.int .u8 8) W := fun W => ixX W 0 (by omega)
    go_wp2_with fail
    refine C.mono ?_
    rintro e w6 ⟨rfl, hb6⟩
    have hB7 : Below w.heap.size w (w6.alloc (.cells zMsg 29)) := (HB5.out.trans (hb6.mono HB5.out.size)).alloc (HB5.out.trans (hb6.mono HB5.out.size)).size _
    have C2 := HNil.out _ (HE.out.below hB7)
    have HB7 := Lib.hid hB7
    clear C hb6 hB7 d f
    go_wp2_with (first
      | (refine wpList_alloc_z rfl 29 rfl zMsg ZM.out ?_; go_simp)
      | (refine wpList_store_new rfl 29 (.tmp 9) (.tmp 45) rfl w6.heap.size rfl zMsg zMsg 29 rfl rfl SZ.out rfl OZ.out ?_; go_simp))
    refine C2.mono ?_
    rintro e w8 ⟨rfl, hb8⟩
    have HB8 := Lib.hid ((HB7.out.trans (hb8.mono HB7.out.size)).alloc (HB7.out.trans (hb8.mono HB7.out.size)).size (.cells zMsg 29))
    clear C2 hb8
    go_wp2_with (first
      | (refine wpList_alloc_z rfl 29 rfl zMsg ZM.out ?_; go_simp)
      | (refine wpList_store_new rfl 29 (.tmp 11) (.tmp 49) rfl w8.heap.size rfl zMsg zMsg 29 rfl rfl SZ.out rfl OZ.out ?_; go_simp))
    go_ret
    exact ⟨rfl, HB8.out⟩
  · have d := HCell.out 5 (by omega)
    have f := HFr.out 5
    have h5 : InB (w4.setCell ⟨gb, 5, none⟩ (.int .u8 2)) (w4.setCell ⟨gb, 5, none⟩ (.int .u8 2)).heap.size (some ⟨gb, 0, none⟩) (hmS id (hmAt 1) (hmX 1)) := hm_set 5 2 (by omega) hgl HCell.out
    have hB5 : Below w.heap.size w (w4.setCell ⟨gb, 5, none⟩ (.int .u8 2)) := HB4.out.setCell (p := ⟨gb, 5, none⟩) hge' _
    have C := HCD.out 1 (by omega) gb cap _ (HE.out.below hB5) h5 hcap
    have HB5 := Lib.hid hB5
    clear h5 hB5 HCell HFr
    have ix1 : ∀ W, (Instr.index 53 (.agg #[.int .i64 2, .int .i64 5, .int .i64 20, .int .i64 22, .int .i64 21]) (.int .i64 1)).run Tryd.prog W = .ok (.int .i64 5) W := fun W => ixA W 1 (by omega)
    have ix2 : ∀ W, (Instr.index 54 (.agg #[.int .u8 8, .int .u8 2, .int .u8 2, .int .u8 40, .int .u8 255]) (.int .i64 1)).run Tryd.prog W = .ok (.int .u8 2) W := fun W => ixX W 1 (by omega)
    go_wp2_with fail
    refine C.mono ?_
    rintro e w6 ⟨rfl, hb6⟩
    have hB7 : Below w.heap.size w (w6.alloc (.cells zMsg 29)) := (HB5.out.trans (hb6.mono HB5.out.size)).alloc (HB5.out.trans (hb6.mono HB5.out.size)).size _
    have C2 := HNil.out _ (HE.out.below hB7)
    have HB7 := Lib.hid hB7
    clear C hb6 hB7 d f
    go_wp2_with (first
      | (refine wpList_alloc_z rfl 29 rfl zMsg ZM.out ?_; go_simp)
      | (refine wpList_store_new rfl 29 (.tmp 9) (.tmp 45) rfl w6.heap.size rfl zMsg zMsg 29 rfl rfl SZ.out rfl OZ.out ?_; go_simp))
    refine C2.mono ?_
    rintro e w8 ⟨rfl, hb8⟩
    have HB8 := Lib.hid ((HB7.out.trans (hb8.mono HB7.out.size)).alloc (HB7.out.trans (hb8.mono HB7.out.size)).size (.cells zMsg 29))
    clear C2 hb8
    go_wp2_with (first
      | (refine wpList_alloc_z rfl 29 rfl zMsg ZM.out ?_; go_simp)
      | (refine wpList_store_new rfl 29 (.tmp 11) (.tmp 49) rfl w8.heap.size rfl zMsg zMsg 29 rfl rfl SZ.out rfl OZ.out ?_; go_simp))
    go_ret
    exact ⟨rfl, HB8.out⟩
  · have d := HCell.out 20 (by omega)
    have f := HFr.out 20
    have h5 : InB (w4.setCell ⟨gb, 20, none⟩ (.int .u8 2)) (w4.setCell ⟨gb, 20, none⟩ (.int .u8 2)).heap.size (some ⟨gb, 0, none⟩) (hmS id (hmAt 2) (hmX 2)) := hm_set 20 2 (by omega) hgl HCell.out
    have hB5 : Below w.heap.size w (w4.setCell ⟨gb, 20, none⟩ (.int .u8 2)) := HB4.out.setCell (p := ⟨gb, 20, none⟩) hge' _
    have C := HCD.out 2 (by omega) gb cap _ (HE.out.below hB5) h5 hcap
    have HB5 := Lib.hid hB5
    clear h5 hB5 HCell HFr
    have ix1 : ∀ W, (Instr.index 53 (.agg #[.int .i64 2, .int .i64 5, .int .i64 20, .int .i64 22, .int .i64 21]) (.int .i64 2)).run Tryd.prog W = .ok (.int .i64 20) W := fun W => ixA W 2 (by omega)
    have ix2 : ∀ W, (Instr.index 54 (.agg #[.int .u8 8, .int .u8 2, .int .u8 2, .int .u8 40, .int .u8 255]) (.int .i64 2)).run Tryd.prog W = .ok (.int .u8 2) W := fun W => ixX W 2 (by omega)
    go_wp2_with fail
    refine C.mono ?_
    rintro e w6 ⟨rfl, hb6⟩
    have hB7 : Below w.heap.size w (w6.alloc (.cells zMsg 29)) := (HB5.out.trans (hb6.mono HB5.out.size)).alloc (HB5.out.trans (hb6.mono HB5.out.size)).size _
    have C2 := HNil.out _ (HE.out.below hB7)
    have HB7 := Lib.hid hB7
    clear C hb6 hB7 d f
    go_wp2_with (first
      | (refine wpList_alloc_z rfl 29 rfl zMsg ZM.out ?_; go_simp)
      | (refine wpList_store_new rfl 29 (.tmp 9) (.tmp 45) rfl w6.heap.size rfl zMsg zMsg 29 rfl rfl SZ.out rfl OZ.out ?_; go_simp))
    refine C2.mono ?_
    rintro e w8 ⟨rfl, hb8⟩
    have HB8 := Lib.hid ((HB7.out.trans (hb8.mono HB7.out.size)).alloc (HB7.out.trans (hb8.mono HB7.out.size)).size (.cells zMsg 29))
    clear C2 hb8
    go_wp2_with (first
      | (refine wpList_alloc_z rfl 29 rfl zMsg ZM.out ?_; go_simp)
      | (refine wpList_store_new rfl 29 (.tmp 11) (.tmp 49) rfl w8.heap.size rfl zMsg zMsg 29 rfl rfl SZ.out rfl OZ.out ?_; go_simp))
    go_ret
    exact ⟨rfl, HB8.out⟩
  · have d := HCell.out 22 (by omega)
    have f := HFr.out 22
    have h5 : InB (w4.setCell ⟨gb, 22, none⟩ (.int .u8 40)) (w4.setCell ⟨gb, 22, none⟩ (.int .u8 40)).heap.size (some ⟨gb, 0, none⟩) (hmS id (hmAt 3) (hmX 3)) := hm_set 22 40 (by omega) hgl HCell.out
    have hB5 : Below w.heap.size w (w4.setCell ⟨gb, 22, none⟩ (.int .u8 40)) := HB4.out.setCell (p := ⟨gb, 22, none⟩) hge' _
    have C := HCD.out 3 (by omega) gb cap _ (HE.out.below hB5) h5 hcap
    have HB5 := Lib.hid hB5
    clear h5 hB5 HCell HFr
    have ix1 : ∀ W, (Instr.index 53 (.agg #[.int .i64 2, .int .i64 5, .int .i64 20, .int .i64 22, .int .i64 21]) (.int .i64 3)).run Tryd.prog W = .ok (.int .i64 22) W := fun W => ixA W 3 (by omega)
    have ix2 : ∀ W, (Instr.index 54 (.agg #[.int .u8 8, .int .u8 2, .int .u8 2, .int .u8 40, .int .u8 255]) (.int .i64 3)).run Tryd.prog W = .ok (.int .u8 40) W := fun W => ixX W 3 (by omega)
    go_wp2_with fail
    refine C.mono ?_
    rintro e w6 ⟨rfl, hb6⟩
    have hB7 : Below w.heap.size w (w6.alloc (.cells zMsg 29)) := (HB5.out.trans (hb6.mono HB5.out.size)).alloc (HB5.out.trans (hb6.mono HB5.out.size)).size _
    have C2 := HNil.out _ (HE.out.below hB7)
    have HB7 := Lib.hid hB7
    clear C hb6 hB7 d f
    go_wp2_with (first
      | (refine wpList_alloc_z rfl 29 rfl zMsg ZM.out ?_; go_simp)
      | (refine wpList_store_new rfl 29 (.tmp 9) (.tmp 45) rfl w6.heap.size rfl zMsg zMsg 29 rfl rfl SZ.out rfl OZ.out ?_; go_simp))
    refine C2.mono ?_
    rintro e w8 ⟨rfl, hb8⟩
    have HB8 := Lib.hid ((HB7.out.trans (hb8.mono HB7.out.size)).alloc (HB7.out.trans (hb8.mono HB7.out.size)).size (.cells zMsg 29))
    clear C2 hb8
    go_wp2_with (first
      | (refine wpList_alloc_z rfl 29 rfl zMsg ZM.out ?_; go_simp)
      | (refine wpList_store_new rfl 29 (.tmp 11) (.tmp 49) rfl w8.heap.size rfl zMsg zMsg 29 rfl rfl SZ.out rfl OZ.out ?_; go_simp))
    go_ret
    exact ⟨rfl, HB8.out⟩
  · have d := HCell.out 21 (by omega)
    have f := HFr.out 21
    have h5 : InB (w4.setCell ⟨gb, 21, none⟩ (.int .u8 255)) (w4.setCell ⟨gb, 21, none⟩ (.int .u8 255)).heap.size (some ⟨gb, 0, none⟩) (hmS id (hmAt 4) (hmX 4)) := hm_set 21 255 (by omega) hgl HCell.out
    have hB5 : Below w.heap.size w (w4.setCell ⟨gb, 21, none⟩ (.int .u8 255)) := HB4.out.setCell (p := ⟨gb, 21, none⟩) hge' _
    have C := HCD.out 4 (by omega) gb cap _ (HE.out.below hB5) h5 hcap
    have HB5 := Lib.hid hB5
    clear h5 hB5 HCell HFr
    have ix1 : ∀ W, (Instr.index 53 (.agg #[.int .i64 2, .int .i64 5, .int .i64 20, .int .i64 22, .int .i64 21]) (.int .i64 4)).run Tryd.prog W = .ok (.int .i64 21) W := fun W => ixA W 4 (by omega)
    have ix2 : ∀ W, (Instr.index 54 (.agg #[.int .u8 8, .int .u8 2, .int .u8 2, .int .u8 40, .int .u8 255]) (.int .i64 4)).run Tryd.prog W = .ok (.int .u8 255) W := fun W => ixX W 4 (by omega)
    go_wp2_with fail
    refine C.mono ?_
    rintro e w6 ⟨rfl, hb6⟩
    have hB7 : Below w.heap.size w (w6.alloc (.cells zMsg 29)) := (HB5.out.trans (hb6.mono HB5.out.size)).alloc (HB5.out.trans (hb6.mono HB5.out.size)).size _
    have C2 := HNil.out _ (HE.out.below hB7)
    have HB7 := Lib.hid hB7
    clear C hb6 hB7 d f
    go_wp2_with (first
      | (refine wpList_alloc_z rfl 29 rfl zMsg ZM.out ?_; go_simp)
      | (refine wpList_store_new rfl 29 (.tmp 9) (.tmp 45) rfl w6.heap.size rfl zMsg zMsg 29 rfl rfl SZ.out rfl OZ.out ?_; go_simp))
    refine C2.mono ?_
    rintro e w8 ⟨rfl, hb8⟩
    have HB8 := Lib.hid ((HB7.out.trans (hb8.mono HB7.out.size)).alloc (HB7.out.trans (hb8.mono HB7.out.size)).size (.cells zMsg 29))
    clear C2 hb8
    go_wp2_with (first
      | (refine wpList_alloc_z rfl 29 rfl zMsg ZM.out ?_; go_simp)
      | (refine wpList_store_new rfl 29 (.tmp 11) (.tmp 49) rfl w8.heap.size rfl zMsg zMsg 29 rfl rfl SZ.out rfl OZ.out ?_; go_simp))
    go_ret
    exact ⟨rfl, HB8.out⟩
end Go.Proofs.YtfipfmloplggiaaDoor
