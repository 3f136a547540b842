/-
  The walk of LlmnrOnce: an answer is no question: it is not answered. Condition: the library's variable MaxLen holds some number.
-/
import Derived.Test.YtakfokdjdljjjaaDoorLlFit
namespace Go.Proofs.YtakfokdjdljjjaaDoor
open Go.RowKit

def bN (n : Int) (q : Nat) : Nat := (bits BinOp.and IntKind.i64 n (q : Nat)).toNat
theorem bN_e (n : Int) (q : Nat) (hq : q < 1000000) : bits BinOp.and IntKind.i64 n (q : Nat) = (bN n q : Int) ∧ bN n q ≤ q := by
  have hle : (BitVec.ofInt 64 n &&& BitVec.ofInt 64 (q : Nat)).toNat ≤ q := by
    rw [BitVec.toNat_and]
    refine Nat.le_trans Nat.and_le_right ?_
    rw [BitVec.ofInt_natCast, BitVec.toNat_ofNat]
    exact Nat.mod_le _ _
  have h : bits BinOp.and IntKind.i64 n (q : Nat) = ((BitVec.ofInt 64 n &&& BitVec.ofInt 64 (q : Nat)).toNat : Int) := by
    show IntKind.i64.wrap ((BitVec.ofInt 64 n &&& BitVec.ofInt 64 (q : Nat)).toNat : Int) = _
    exact IntWalk.i64_in _ (by omega)
  unfold bN
  rw [h]
  exact ⟨rfl, hle⟩
theorem zeroRecL : (Tryd.prog.info? 45).map (·.zero) = some (some (.agg (RV.cells ⟨emp, 0, 0, zero16, emp, emp⟩))) := by kernel_rfl
/-- what the loop keeps -/
structure OnAt (w wr : World) (gm : Nat) (MC : Array Value) (A : Option Addr) (rs : List RV) : Prop where
  below : Below w.heap.size w wr
  m : wr.heap[gm]? = some (.cells MC 31 (0, 0))
  rs : RecsAt wr A rs
theorem OnAt.to {w wr wr' : World} {gm : Nat} {MC : Array Value} {A : Option Addr} {rs : List RV} (h : OnAt w wr gm MC A rs) (hb : Below wr.heap.size wr wr') : OnAt w wr' gm MC A rs :=
  ⟨h.below.trans (hb.mono h.below.size), (hb.block _ (heap_lt h.m)).trans h.m, h.rs.below hb⟩
theorem famT_28 {x : List UInt8} (h : famT x = 28) : isV4 x = false := by
  unfold famT at h
  cases hq : isV4 x with
  | false => rfl
  | true => rw [hq] at h; simp at h
set_option maxRecDepth 100000 in
set_option maxHeartbeats 8000000 in
theorem llmnrOnce_walk (ls : List LV) (hls : ∀ x ∈ ls, x.addr.length = 16) (AL : Option Addr) (cl : Nat) (id : Int) (w : World) (he : Env w) (hA : LocsAt w AL ls) :
    Calls Tryd.prog 4 #[.slice AL ls.length cl, .int .i64 id] w fun e w' => e = .returned (.bool true) ∧ Below w.heap.size w w' := by
  have HE := Lib.hid he
  have HFit := Lib.hid fit14_e
  have HA := Lib.hid hA
  obtain ⟨hD, hDl⟩ := bN_e id 65535 (by omega)
  generalize bN id 65535 = D at hD hDl
  have hD : bits BinOp.and IntKind.i64 id 65535 = (D : Int) := hD
  by_cases h8 : ls.length ≤ 8
  · have h8I : (ls.length : Int) ≤ 8 := by omega
    have hqa : (qMV (D : Int) false false nmA 28).Again := qM_again nmA_ok (by decide) nmA_16 (by omega) (by omega)
    have HBm : Hid (Tryd.prog.built 31 [(0, .int .i64 (D : Int)), (5, .agg #[.string ⟨#[97]⟩, .int .i64 28])] = some (qMV (D : Int) false false nmA 28).cells) := Lib.hid (builtQm D nmA 28)
    have HEn := Lib.hid (fun W hW => encode_again _ hqa W hW (qMV_lies _ _ _ _ _ _))
    have HAn := Lib.hid (fun (u : World) gb cap hcap hin W hb hW hA => ask_e nmA nmA_16 ls hls AL cl (by omega) _ hqa gb cap u hcap hin W hb hW hA)
    have HAn2 := Lib.hid (fun (hm : (rpM (qMV (D : Int) false false nmA 28) ls).Again) (u : World) gb cap hcap hin W hb hW hA => ask_e nmA nmA_16 ls hls AL cl (by omega) _ hm gb cap u hcap hin W hb hW hA)
    have HRp : Hid (repO nmA ls (some (qMV (D : Int) false false nmA 28).nrm) = some (rpM (qMV (D : Int) false false nmA 28) ls)) := Lib.hid (repO_yes rfl rfl)
    have HRn : Hid (repO nmA ls (some (rpM (qMV (D : Int) false false nmA 28) ls).nrm) = none) := Lib.hid (repO_reply rfl)
    have HDe := Lib.hid (fun (hm : (rpM (qMV (D : Int) false false nmA 28) ls).Again) (gb cap : Nat) (u : World) hcap hin W hb hW => dec_e (rpM (qMV (D : Int) false false nmA 28) ls) hm gb cap u hcap hin W hb hW)
    have HRan : Hid ((rpM (qMV (D : Int) false false nmA 28) ls).an = ansL nmA 28 ls) := Lib.hid rfl
    have HCel : Hid (∀ A c U k, (dcM (rpM (qMV (D : Int) false false nmA 28) ls) A c U k).cells[7]? = some (.slice A (ansL nmA 28 ls).length c) ∧ (dcM (rpM (qMV (D : Int) false false nmA 28) ls) A c U k).cells[0]? = some (.int .i64 (D : Int))) := Lib.hid (fun _ _ _ _ => ⟨rfl, rfl⟩)
    have HMem : Hid (∀ (k : Nat) (r : RV), (ansL nmA 28 ls)[k]? = some r → r.ad.length = 16 ∧ isV4 r.ad = false ∧ r.cells[0]? = some (.string ⟨#[97]⟩)) := Lib.hid (fun k r hr => by
      obtain ⟨x, hx, hq, rfl⟩ := ansL_mem (List.mem_of_getElem? hr)
      exact ⟨hls x hx, famT_28 hq, rfl⟩)
    have hlen := ansL_len nmA 28 ls
    have ZM := Lib.hid zeroM
    have ZR := Lib.hid zeroRecL
    have HNm : Hid (∀ W, Calls Tryd.prog 7 #[.int .i64 0] W fun e w' => e = .returned (.string ⟨#[97]⟩) ∧ Below W.heap.size W w') := Lib.hid (fun W => name4_e 0 0 (by omega) (by decide) W)
    clear he hA hqa hls hDl
    generalize rpM (qMV (D : Int) false false nmA 28) ls = R at HAn2 HRp HRn HDe HRan HCel
    generalize ansL nmA 28 ls = rs at HRan HCel HMem hlen
    generalize qMV (D : Int) false false nmA 28 = QM at HBm HEn HAn HRp
    generalize QM.cells = QC at HBm HEn
    have hlI : (rs.length : Int) ≤ (ls.length : Int) := by omega
    have hrI : (rs.length : Int) ≤ 8 := by omega
    have HLen := Lib.hid hlen
    clear hlen
    go_enter Tryd.func4, Tryd.ntmps4
    go_wp2_with fail
    refine (HFit.out _ HE.out).mono ?_
    rintro e w1 ⟨rfl, hb1⟩
    have HB1 := Lib.hid hb1
    clear hb1
    go_wp2_with (first
      | (refine wpList_build_v rfl 31 #[(0, .tmp 20), (5, .tmp 21)] rfl _ QC HBm.out rfl ?_; go_simp))
    refine (HEn.out _ (HE.out.below HB1.out)).mono ?_
    rintro e w3 ⟨gb, cap, rfl, hen⟩
    have HB3 := Lib.hid (HB1.out.trans (hen.below.mono HB1.out.size))
    have HAn3 := Lib.hid (HAn.out w3 gb cap hen.le hen.inB w3 (Below.refl _ _) (HE.out.below HB3.out) (RowsAt.below HA.out HB3.out))
    rw [HRp.out] at HAn3
    clear hen HAn HEn HB1 HRp
    generalize (enc QM.msg).length = LQ at HAn3 ⊢
    go_wp2_with fail
    refine HAn3.out.mono ?_
    rintro e w5 ⟨hb5, ⟨h0, _⟩ | ⟨R', gb2, cap2, hR, hRa, rfl, hcap2, hin2, h12⟩⟩
    · cases h0
    injection hR with hR
    subst hR
    have HB5 := Lib.hid (HB3.out.trans (hb5.mono HB3.out.size))
    have HRa := Lib.hid hRa
    have HC2 := Lib.hid hcap2
    have HI2 := Lib.hid hin2
    have HA5 := Lib.hid (HAn2.out hRa w5 gb2 cap2 hcap2 hin2 w5 (Below.refl _ _) (HE.out.below HB5.out) (RowsAt.below HA.out HB5.out))
    rw [HRn.out] at HA5
    clear hb5 hRa hcap2 hin2 h12 HAn3 HB3 HAn2
    have HDe2 := Lib.hid (fun W hb hW => HDe.out HRa.out gb2 cap2 w5 HC2.out HI2.out W hb hW)
    clear HDe HRa HC2 HI2
    generalize (enc R.msg).length = LR at HA5 HDe2 ⊢
    go_wp2_with fail
    refine HA5.out.mono ?_
    rintro e w6 ⟨hb6, ⟨_, rfl⟩ | ⟨R', gb3, cap3, hR, _⟩⟩
    rotate_left
    · cases hR
    have HB6 := Lib.hid (HB5.out.trans (hb6.mono HB5.out.size))
    have HD6 := Lib.hid (HDe2.out w6 hb6 (HE.out.below HB6.out))
    clear hb6 HA5 HDe2 HB5
    go_wp2_with fail
    refine HD6.out.mono ?_
    rintro e w7 ⟨hb7, A, c, U, k, rfl, hli⟩
    have SM : Hid ((Tryd.prog.info? 31).map (·.size) = some (dcM R A c U k).cells.size) := Lib.hid sizeM
    have ZC : Hid (zMsg.size = (dcM R A c U k).cells.size) := Lib.hid rfl
    have OM := Lib.hid (MV.one (dcM R A c U k))
    have HM7 := Lib.hid (HCel.out A c U k).1
    have HM0 := Lib.hid (HCel.out A c U k).2
    have HRs7 : Hid (RecsAt w7 A rs) := Lib.hid (by rw [← HRan.out]; exact hli.an)
    have HB7 := Lib.hid (HB6.out.trans (hb7.mono HB6.out.size))
    clear hb7 hli HD6 HB6 HCel
    generalize (dcM R A c U k).cells = MC at *
    have HT0 : Hid (OnAt w (w7.alloc (.cells MC 31)) w7.heap.size MC A rs) := Lib.hid ⟨HB7.out.alloc HB7.out.size _, heap_alloc_last w7 _, HRs7.out.below ((Below.refl _ w7).alloc (Nat.le_refl _) _)⟩
    clear HRs7 HB7
    have e7 := (cell_of_row _ w7.heap.size 7 _ _ _ HT0.out.m).trans HM7.out
    go_wp2_with (first
      | (refine wpList_alloc_z rfl 31 rfl zMsg ZM.out ?_; go_simp)
      | (refine wpList_store_new rfl 31 (.tmp 10) (.tmp 39) rfl w7.heap.size rfl zMsg MC 31 rfl rfl SM.out ZC.out OM.out ?_; go_simp))
    clear e7
    generalize w7.alloc (.cells MC 31) = w8 at HT0 ⊢
    generalize w7.heap.size = gm at HT0 ⊢
    have HM77 := Lib.hid HM7.out
    clear SM ZC OM ZM HBm HM7
    go_loopw [44] (fun i wr => ∃ k : Nat, k ≤ rs.length ∧ i = .int .i64 k ∧ Hid (OnAt w wr gm MC A rs)) (fun i _ => rs.length - (intOf i).toNat)
    case atStart => exact ⟨0, by omega, rfl, HT0⟩
    case round =>
      obtain ⟨k, hk, rfl, HP⟩ := hrel
      by_cases hlt : k < rs.length
      · have hkI : (k : Int) < (rs.length : Int) := by omega
        obtain ⟨r, hr⟩ : ∃ r, rs[k]? = some r := ⟨_, List.getElem?_eq_getElem hlt⟩
        obtain ⟨hr16, hr4, hrn⟩ := HMem.out k r hr
        obtain ⟨b, o, rfl, hbl, _, hcs⟩ := rec_addr HP.out.rs hr hr16
        have HCs := Lib.hid hcs
        have HIs := Lib.hid (fun W => is4a_e r.ad hr16 W)
        rw [hr4] at HIs
        have SR : Hid ((Tryd.prog.info? 45).map (·.size) = some r.cells.size) := Lib.hid (by rw [RV.size hr16]; exact sizeRec)
        have ZRr : Hid ((RV.cells ⟨emp, 0, 0, zero16, emp, emp⟩).size = r.cells.size) := Lib.hid (by rw [RV.size hr16]; exact RV.size rfl)
        have OR := Lib.hid (RV.one r)
        have HSx : Hid ((Tryd.prog.info? 40).map (·.size) = some (bvs r.ad).length) := Lib.hid (by rw [sizeAddr, bvs_length, hr16])
        have HP1 := Lib.hid (HP.out.to ((Below.refl _ wr).alloc (Nat.le_refl _) (.cells r.cells 45)))
        have HG1 := Lib.hid (heap_alloc_last wr (.cells r.cells 45))
        have HAd : Hid (∀ j v, (bvs r.ad)[j]? = some v → r.cells[3 + j]? = some v) := Lib.hid (fun j v hj => RV.sub3 hr16 j v (by simpa using hj))
        have HRn0 := Lib.hid hrn
        clear hr hr16 hr4 hrn hcs HP HT0
        generalize bvs r.ad = xl at HIs HSx HAd
        generalize r.cells = rc at *
        generalize RV.cells ⟨emp, 0, 0, zero16, emp, emp⟩ = zr at ZR ZRr
        generalize hw9 : wr.alloc (.cells rc 45) = w9 at HP1 HG1
        go_wp2_with (first
          | (refine wpList_load_agg rfl 45 (.tmp 46) rfl ⟨b, o + k * 21, none⟩ rfl rc _ HCs.out Tryd.underlying45 rfl SR.out ?_; go_simp)
          | (refine wpList_alloc_z rfl 45 rfl zr ZR.out ?_; go_simp)
          | (refine wpList_store_new rfl 45 (.tmp 13) (.tmp 47) rfl wr.heap.size rfl zr rc 45 rfl rfl SR.out ZRr.out OR.out ?_; go_simp))
        try rw [hw9]
        clear hw9
        have RA : Hid (∀ W, Below w9.heap.size w9 W → W.rangeAt wr.heap.size 3 xl) := Lib.hid (fun W hb j v hj => by
          rw [cell_of_row W _ _ _ _ _ ((hb.block _ (heap_lt HG1.out)).trans HG1.out)]
          exact HAd.out j v hj)
        have RN : Hid (∀ W, Below w9.heap.size w9 W → W.cell? ⟨wr.heap.size, 0, none⟩ = some (.string ⟨#[97]⟩)) := Lib.hid (fun W hb => (cell_of_row W _ 0 _ _ _ ((hb.block _ (heap_lt HG1.out)).trans HG1.out)).trans HRn0.out)
        refine wp_region_held_drew (S := (fun W : World => Below w9.heap.size w9 W)) (by kernel_rfl) (Below.refl _ w9).drew (fun hHeld => ?_)
        refine wpAnyH_take (i := 0) (oi := ({ dst := some 48, op := Go.Op.fieldAddr 45 (Go.Operand.tmp 13) 3, type := 0, pos := "law.go:86", after := #[], guard := none } : Oper)) (v := .pointer (some ⟨wr.heap.size, 3, none⟩)) rfl (by kernel_rfl) (by kernel_rfl) (by kernel_rfl) (fun _ _ _ h => h) (Or.inl ⟨by rfl, fun w' _ => ?_⟩) hHeld ?_
        · go_simp
        simp only [Act.put, List.setIfInBounds_toArray, List.set_cons_zero, List.set_cons_succ]
        refine wpAnyH_take (i := 1) (oi := ({ dst := some 49, op := Go.Op.load 40 (Go.Operand.tmp 48), type := 40, pos := "law.go:86", after := #[{ on := 0, ground := Go.Ground.data }], guard := none } : Oper)) (v := .agg (xl).toArray) rfl (by kernel_rfl) (by kernel_rfl) (by kernel_rfl) (fun _ _ _ h => h) (yieldsIf_load_mid (by rfl) _ _ rfl _ _ rfl _ _ (fun W h => RA.out W h) Tryd.underlying40 rfl HSx.out) hHeld ?_
        simp only [Act.put, List.setIfInBounds_toArray, List.set_cons_zero, List.set_cons_succ]
        refine wpAnyH_ready (rs := [2]) (by kernel_rfl) (by simp) ?_
        refine AllReadyH.cons (o := ({ dst := some 50, op := Go.Op.call { callee := Go.Callee.value (Go.Operand.func 11), args := #[Go.Operand.tmp 49], argTypes := #[40] }, type := 4, pos := "law.go:86", after := #[{ on := 1, ground := Go.Ground.data }], guard := none } : Oper)) rfl (fun K hK => ?_) AllReadyH.nil
        go_simp
        go_at_call 11
        refine (HIs.out _).mono ?_
        rintro e' wc ⟨rfl, hbc⟩
        refine hK.out _ _ (Below.trans hHeld (Below.mono hbc (Below.size hHeld))) (fun hHeld' => ?_)
        clear hK K hbc
        try clear hHeld
        try simp only [Act.put, List.setIfInBounds_toArray, List.set_cons_zero, List.set_cons_succ]
        refine wpAnyH_take (i := 3) (oi := ({ dst := some 51, op := Go.Op.move (Go.Operand.tmp 50), type := 4, pos := "law.go:86", after := #[{ on := 2, ground := Go.Ground.data }, { on := 2, ground := Go.Ground.chain }], guard := none } : Oper)) (v := .bool false) rfl (by kernel_rfl) (by kernel_rfl) (by kernel_rfl) (fun _ _ _ h => h) (Or.inl ⟨by rfl, fun w' _ => ?_⟩) hHeld' ?_
        · go_simp
        simp only [Act.put, List.setIfInBounds_toArray, List.set_cons_zero, List.set_cons_succ]
        refine wpAnyH_take (i := 4) (oi := ({ dst := some 52, op := Go.Op.fieldAddr 45 (Go.Operand.tmp 13) 0, type := 0, pos := "law.go:86", after := #[{ on := 3, ground := Go.Ground.guard }], guard := some (3, false) } : Oper)) (v := .pointer (some ⟨wr.heap.size, 0, none⟩)) rfl (by kernel_rfl) (by kernel_rfl) (by kernel_rfl) (fun _ _ _ h => h) (Or.inl ⟨by kernel_rfl, fun w' _ => ?_⟩) hHeld' ?_
        · go_simp
        simp only [Act.put, List.setIfInBounds_toArray, List.set_cons_zero, List.set_cons_succ]
        refine wpAnyH_take (i := 5) (oi := ({ dst := some 53, op := Go.Op.load 9 (Go.Operand.tmp 52), type := 9, pos := "law.go:86", after := #[{ on := 4, ground := Go.Ground.data }, { on := 3, ground := Go.Ground.guard }], guard := some (3, false) } : Oper)) (v := .string ⟨#[97]⟩) rfl (by kernel_rfl) (by kernel_rfl) (by kernel_rfl) (fun _ _ _ h => h) (Or.inl ⟨by kernel_rfl, fun w' hS' => ?_⟩) hHeld' ?_
        · have hcell := RN.out _ hS'
          go_simp
        simp only [Act.put, List.setIfInBounds_toArray, List.set_cons_zero, List.set_cons_succ]
        refine wpAnyH_ready (rs := [6]) (by kernel_rfl) (by simp) ?_
        refine AllReadyH.cons (o := ({ dst := some 54, op := Go.Op.call { callee := Go.Callee.value (Go.Operand.func 7), args := #[Go.Operand.const (Go.Value.int Go.IntKind.i64 0)], argTypes := #[3] }, type := 9, pos := "law.go:86", after := #[{ on := 3, ground := Go.Ground.chain }, { on := 3, ground := Go.Ground.guard }], guard := some (3, false) } : Oper)) rfl (fun K hK => ?_) AllReadyH.nil
        rw [if_pos (by kernel_rfl)]
        go_simp
        go_at_call 7
        refine (HNm.out _).mono ?_
        rintro e' wc ⟨rfl, hbc⟩
        refine hK.out _ _ (Below.trans hHeld' (Below.mono hbc (Below.size hHeld'))) (fun hHeld'' => ?_)
        clear hK K hbc
        try clear hHeld'
        try simp only [Act.put, List.setIfInBounds_toArray, List.set_cons_zero, List.set_cons_succ]
        refine wpAnyH_take (i := 7) (oi := ({ dst := some 55, op := Go.Op.binOp Go.BinOp.neq 9 (Go.Operand.tmp 53) (Go.Operand.tmp 54) 9, type := 4, pos := "law.go:86", after := #[{ on := 5, ground := Go.Ground.data }, { on := 6, ground := Go.Ground.data }, { on := 3, ground := Go.Ground.guard }], guard := some (3, false) } : Oper)) (v := .bool false) rfl (by kernel_rfl) (by kernel_rfl) (by kernel_rfl) (fun _ _ _ h => h) (Or.inl ⟨by kernel_rfl, fun w' _ => ?_⟩) hHeld'' ?_
        · go_simp
        simp only [Act.put, List.setIfInBounds_toArray, List.set_cons_zero, List.set_cons_succ]
        refine wpAnyH_take (i := 8) (oi := ({ dst := some 56, op := Go.Op.pick (Go.Operand.tmp 51) (Go.Operand.const (Go.Value.bool true)) (Go.Operand.tmp 55), type := 4, pos := "law.go:86", after := #[{ on := 3, ground := Go.Ground.data }, { on := 7, ground := Go.Ground.data }], guard := none } : Oper)) (v := .bool false) rfl (by kernel_rfl) (by kernel_rfl) (by kernel_rfl) (fun _ _ _ h => h) (Or.inl ⟨by rfl, fun w' _ => ?_⟩) hHeld'' ?_
        · go_simp
        simp only [Act.put, List.setIfInBounds_toArray, List.set_cons_zero, List.set_cons_succ]
        refine wpAnyH_done (by kernel_rfl) ?_ _
        have HP9 := Lib.hid (HP1.out.to hHeld'')
        clear hHeld'' RA RN HP1 HG1 HIs HCs
        go_wp2_with fail
        go_roundw
        case rel => exact ⟨k + 1, by omega, by first | rfl | go_num, HP9⟩
        case measure => simp [intOf]; omega
      · have hkI : ¬ (k : Int) < (rs.length : Int) := by omega
        have e0 := (cell_of_row wr gm 0 _ _ _ HP.out.m).trans HM0.out
        have e7 := (cell_of_row wr gm 7 _ _ _ HP.out.m).trans HM77.out
        have HB := Lib.hid HP.out.below
        clear HP HT0
        go_wp2_with fail
        go_ret
        exact ⟨rfl, HB.out⟩
  · have h8I : (8 : Int) < (ls.length : Int) := by omega
    clear he hA hls hD hDl
    go_enter Tryd.func4, Tryd.ntmps4
    go_wp2_with fail
    refine (HFit.out _ HE.out).mono ?_
    rintro e w1 ⟨rfl, hb1⟩
    have HB1 := Lib.hid hb1
    clear hb1
    go_wp2_with fail
    go_ret
    exact ⟨rfl, HB1.out⟩
end Go.Proofs.YtakfokdjdljjjaaDoor
