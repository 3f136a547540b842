/-
  The walk of MsgCapitals: capitals in names on the way play no part. Conditions: the library's variable MaxLen holds some number; the seeds lie in memory.
-/
import Derived.Test.YtogojnlfglbefaaDoorMsgCapSet
import Derived.Test.YtogojnlfglbefaaDoorMsgFit
namespace Go.Proofs.YtogojnlfglbefaaDoor
open Go.RowKit

theorem srV_ty (S S2 da : ByteArray) (T : Nat) (ad : List UInt8) (j : Nat) : ∃ t : Nat, (srV S S2 T ad da j).ty = (t : Int) ∧ (t = 1 ∨ t = 28 ∨ t = 5 ∨ t = 12 ∨ t = 6 ∨ t = 16) := by
  unfold srV
  split
  · exact ⟨1, rfl, by omega⟩
  · exact ⟨1, rfl, by omega⟩
  · exact ⟨28, rfl, by omega⟩
  · exact ⟨28, rfl, by omega⟩
  · exact ⟨5, rfl, by omega⟩
  · exact ⟨12, rfl, by omega⟩
  · exact ⟨6, rfl, by omega⟩
  · exact ⟨16, rfl, by omega⟩
theorem and_m5 (n : Int) (q : Nat) (hq : q < 1000000) : ∃ m : Nat, m ≤ q ∧ bits BinOp.and IntKind.i64 n (q : Nat) = (m : Int) := by
  have hle : (BitVec.ofInt 64 n &&& BitVec.ofInt 64 (q : Nat)).toNat ≤ q := by
    rw [BitVec.toNat_and]
    refine Nat.le_trans Nat.and_le_right ?_
    rw [BitVec.ofInt_natCast, BitVec.toNat_ofNat]
    exact Nat.mod_le _ _
  refine ⟨(BitVec.ofInt 64 n &&& BitVec.ofInt 64 (q : Nat)).toNat, hle, ?_⟩
  show IntKind.i64.wrap ((BitVec.ofInt 64 n &&& BitVec.ofInt 64 (q : Nat)).toNat : Int) = _
  exact IntWalk.i64_in _ (by omega)
def cpV (D : Nat) (S : ByteArray) (t : Nat) : MV := ⟨(D : Nat), true, false, false, 0, S, (t : Nat), none, 0, [], none, 0, []⟩
theorem encode_cp (D i t : Nat) (hD : D ≤ 65535) (hi : i ≤ 7) (ht : t = 1 ∨ t = 28 ∨ t = 5 ∨ t = 12 ∨ t = 6 ∨ t = 16) (W : World) (hW : Env W) : Calls Tryd.prog 15 #[.agg (cpC D (bs (plN i)) t)] W fun e w' =>
    ∃ gb cap, e = .returned (.slice (some ⟨gb, 0, none⟩) (12 + (plN i).length + 6) cap) ∧ 12 + (plN i).length + 6 ≤ cap ∧ gb < w'.heap.size ∧ W.heap.size ≤ gb ∧ (∀ j, j < 12 + (plN i).length + 6 → w'.cell? ⟨gb, j, none⟩ = some (.int .u8 ((cpB D (plN i) t).getD j 0).toNat)) ∧ (∀ j, w'.frozen? ⟨gb, j, none⟩ = false) ∧ Below W.heap.size W w' := by
  have h16 := (pl_ok ⟨i, by omega⟩).2.2.2.2.2
  simp only at h16
  have ht2 : btw 1 (t : Int) 65535 = true := by rcases ht with rfl | rfl | rfl | rfl | rfl | rfl <;> decide
  have hd2 : btw 0 (D : Int) 65535 = true := by unfold btw; simp; omega
  have hok : mvOk (cpV D (bs (plN i)) t) = true := by
    unfold mvOk cpV
    have g := cp_gos ⟨i, by omega⟩
    simp only at g
    simp only
    rw [g, ht2, hd2]
    decide +kernel
  have h := encode_any (cpV D (bs (plN i)) t) ⟨(by show (bs (plN i)).size ≤ _; rw [bs_size]; unfold maxLen; omega), (fun r hr => by cases hr), (fun r hr => by cases hr), (by show 0 ≤ _; omega), (by show 0 ≤ _; omega)⟩ W hW ⟨fun h => absurd h (by show ¬ 0 < 0; omega), fun h => absurd h (by show ¬ 0 < 0; omega)⟩ hok
  have e1 : enc (cpV D (bs (plN i)) t).msg = cpB D (plN i) t := cp_enc D (plN i) t
  have hL := (cp_read D i t hi ht).2.2.2
  rw [e1] at h
  refine h.mono ?_
  rintro e w' ⟨gb, cap, h1, h2, h3⟩
  obtain ⟨hl, hcap, _, hcell⟩ := enc_inB h2 (by omega)
  rw [hL] at h1 h2 hcap hcell
  have hlt := (h2.lt gb rfl).1
  rcases h2.2 with ⟨hv, _⟩ | ⟨g2, cap2, cur, hv, _, hgg, _⟩
  · cases hv
  · injection hv with hv _ _
    injection hv with hv
    injection hv with hv
    subst hv
    exact ⟨gb, cap, h1, hcap, hl, hlt, hcell, (fun j => frozen_of_row w' gb j _ _ hgg), h3⟩
theorem u8_sub32 : ∀ k : Fin 256, 97 ≤ k.val → (UInt8.ofNat k.val - 32).toNat = (UInt8.ofNat k.val).toNat - 32 := by decide +kernel
/-- the loop's bytes as they stand -/
structure CpAt (w wr : World) (gb gm L k : Nat) (b b' : List UInt8) (C : Array Value) : Prop where
  cap : CapEq b b' k
  head : b'.take 12 = b.take 12
  cell : ∀ j, j < L → wr.cell? ⟨gb, j, none⟩ = some (.int .u8 (b'.getD j 0).toNat)
  fro : ∀ j, wr.frozen? ⟨gb, j, none⟩ = false
  below : Below w.heap.size w wr
  row : wr.heap[gm]? = some (.cells C 29 (0, 0))
  hb : w.heap.size ≤ gb
  hbl : gb < wr.heap.size
  ne : gm ≠ gb
theorem CpAt.same {w wr : World} {gb gm L k : Nat} {b b' : List UInt8} {C : Array Value} (h : CpAt w wr gb gm L k b b' C) : CpAt w wr gb gm L (k + 1) b b' C := { h with cap := h.cap.mono (Nat.le_succ k) }
theorem CpAt.put {w wr : World} {gb gm L k : Nat} {b b' : List UInt8} {C : Array Value} {c : UInt8} (h : CpAt w wr gb gm L k b b' C) (hk : 13 ≤ k) (hc : b'[k]? = some c) (h1 : 97 ≤ c.toNat) (h2 : c.toNat ≤ 122) : CpAt w (wr.setCell ⟨gb, k, none⟩ (.int .u8 (c - 32).toNat)) gb gm L (k + 1) b (b'.set k (c - 32)) C := by
  have hil := (List.getElem?_eq_some_iff.1 hc).1
  refine ⟨h.cap.set hc h1 h2, (take_set12 hk).trans h.head, fun j hj => ?_, fun j => ?_, h.below.setCell (p := ⟨gb, k, none⟩) h.hb _, (Below.heap_setCell wr ⟨gb, k, none⟩ _ gm h.ne).trans h.row, h.hb, by rw [World.size_setCell]; exact h.hbl, h.ne⟩
  · by_cases hjk : k = j
    · subst hjk
      rw [World.cell?_setCell_same wr ⟨gb, k, none⟩ _ (h.cell k hj), List.getD_eq_getElem?_getD, List.getElem?_set_self hil]
      rfl
    · rw [World.cell?_setCell_other wr ⟨gb, k, none⟩ ⟨gb, j, none⟩ _ (by intro e; injection e with _ e _; exact hjk e), h.cell j hj, List.getD_eq_getElem?_getD, List.getD_eq_getElem?_getD, List.getElem?_set_ne hjk]
  · rw [World.frozen?_setCell]; exact h.fro j
theorem light_any (A : Option Addr) (c : Nat) (l : List SV) (w : World) (h : SeedsAt w A l) (hf : ∀ s ∈ l, s.Fits) :
    Calls Tryd.prog 12 #[.slice A l.length c] w fun e w' => e = .returned (.bool (lightB l)) ∧ Below w.heap.size w w' := by
  by_cases h60 : l.length ≤ 60
  · exact light_e A c l w h hf (by omega)
  · have h60' : (60 : Int) < (l.length : Int) := by omega
    clear h hf
    go_enter Tryd.func12, Tryd.ntmps12
    go_wp2_with fail
    go_ret
    refine ⟨?_, Below.refl _ _⟩
    unfold lightB
    rw [decide_eq_false (by omega)]
    rfl
set_option maxRecDepth 100000 in
set_option maxHeartbeats 16000000 in
theorem msgCapitals_walk (id0 at0 : Int) (A : Option Addr) (c : Nat) (l : List SV) (w : World) (he : Env w) (h : SeedsAt w A l) (hf : ∀ s ∈ l, s.Fits) :
    Calls Tryd.prog 7 #[.int .i64 id0, .slice A l.length c, .int .i64 at0] w fun e w' => e = .returned (.bool true) ∧ Below w.heap.size w w' := by
  have HFit := Lib.hid fit4_e
  have HE := Lib.hid he
  have HSe := Lib.hid h
  have HF := Lib.hid hf
  have ZM := Lib.hid zeroM
  have HLi := Lib.hid (fun (W : World) (hW : SeedsAt W A l) => light_any A c l W hW hf)
  obtain ⟨lb, hlb⟩ : ∃ lb, lightB l = lb := ⟨_, rfl⟩
  rw [hlb] at HLi
  clear he h hf hlb
  go_enter Tryd.func7, Tryd.ntmps7
  go_wp2_with fail
  refine (HFit.out w HE.out).mono ?_
  rintro e w1 ⟨rfl, hb1⟩
  have HB1 := Lib.hid hb1
  have C1 := HLi.out w1 (HSe.out.below hb1)
  clear hb1
  cases lb with
  | false =>
    go_wp2_with fail
    refine C1.mono ?_
    rintro e w2 ⟨rfl, hb2⟩
    have HB2 := Lib.hid (HB1.out.trans (hb2.mono HB1.out.size))
    clear hb2 C1
    go_wp2_with fail
    go_ret
    exact ⟨rfl, HB2.out⟩
  | true =>
    by_cases hl0 : (l.length : Int) = 0
    · go_wp2_with fail
      refine C1.mono ?_
      rintro e w2 ⟨rfl, hb2⟩
      have HB2 := Lib.hid (HB1.out.trans (hb2.mono HB1.out.size))
      clear hb2 C1
      go_wp2_with fail
      go_ret
      exact ⟨rfl, HB2.out⟩
    · go_wp2_with fail
      refine C1.mono ?_
      rintro e w2 ⟨rfl, hb2⟩
      have HB2 := Lib.hid (HB1.out.trans (hb2.mono HB1.out.size))
      clear hb2 C1
      obtain ⟨b, o, rfl, hbl, hc⟩ := (HSe.out.below HB2.out) (by omega)
      obtain ⟨s, hs⟩ : ∃ s, l[0]? = some s := ⟨_, List.getElem?_eq_getElem (by omega)⟩
      have hfit := HF.out s (List.mem_of_getElem? hs)
      have HC : Hid (∀ j v, s.cells.toList[j]? = some v → w2.cell? ((⟨b, o, none⟩ : Addr).add j) = some v) := Lib.hid (fun j v hv => by
        have h := hc 0 s hs j v hv
        rw [Nat.zero_mul, Nat.add_zero] at h
        exact h)
      have Z : Hid ((Tryd.prog.info? 34).map (·.size) = some s.cells.size) := Lib.hid (by rw [SV.size hfit.ad]; exact sizeSeed)
      obtain ⟨D, hD, hDB⟩ := and_m5 id0 65535 (by omega)
      obtain ⟨i, hi, hiB⟩ := and_m5 s.n 7 (by omega)
      obtain ⟨i2, hi2, hi2B⟩ := and_m5 (s.n / 8) 7 (by omega)
      obtain ⟨T, _, hTB⟩ := and_m5 s.t 65535 (by omega)
      obtain ⟨j, hj, hjB⟩ := and_m5 s.k 7 (by omega)
      obtain ⟨t, htt, ht⟩ := srV_ty (bs (plN i)) (bs (plN i2)) s.da T s.ad j
      have HMs := Lib.hid (fun W => message1_e id0 s hfit D i i2 T j t hDB hi hi2 hi2B hj hjB hiB hTB htt W)
      have HEn := Lib.hid (fun W hW => encode_cp D i t hD hi ht W hW)
      have HDe := Lib.hid (fun gb cap L b' h1 h2 h3 W h4 h5 h6 => decode_cap D i t gb cap L b' hD hi ht h1 h2 h3 W h4 h5 h6)
      have hsz : (bs (plN i)).size = (plN i).length := rfl
      have h16 := (pl_ok ⟨i, by omega⟩).2.2.2.2.2
      simp only at h16
      have HLn := Lib.hid ((cp_read D i t hi ht).2.2.2)
      have HSm := Lib.hid (fun A1 A2 c1 c2 W => same_nil D t (bs (plN i)) A1 A2 c1 c2 W)
      have SMC : Hid ((Tryd.prog.info? 29).map (·.size) = some (cpC D (bs (plN i)) t).size) := Lib.hid sizeM
      have OMC := Lib.hid (oneC D (bs (plN i)) t)
      have ZMC : Hid (zMsg.size = (cpC D (bs (plN i)) t).size) := Lib.hid rfl
      clear hc hs hbl hfit hDB hiB hi2B hTB hjB htt ht hi hi2 hj hD
      revert HC Z HMs
      generalize s.cells = cs
      intro HC Z HMs
      go_wp2_with (first
        | (refine wpList_load_agg rfl 34 (.tmp 25) rfl ⟨b, o, none⟩ rfl cs _ HC.out Tryd.underlying34 rfl Z.out ?_; go_simp))
      refine (HMs.out w2).mono ?_
      rintro e w3 ⟨rfl, hb3⟩
      have HB3 := Lib.hid (HB2.out.trans (hb3.mono HB2.out.size))
      clear hb3
      have HB4 : Hid (Below w.heap.size w (w3.alloc (.cells (cpC D (bs (plN i)) t) 29))) := Lib.hid (HB3.out.alloc HB3.out.size _)
      have C4 := HEn.out (w3.alloc (.cells (cpC D (bs (plN i)) t) 29)) (HE.out.below HB4.out)
      have hS5 : (cpC D (bs (plN i)) t)[5]? = some (.string (bs (plN i))) := rfl
      have HS5 := Lib.hid hS5
      clear hS5
      generalize hMC : cpC D (bs (plN i)) t = MC at HMs SMC OMC ZMC HB4 C4 HS5 HSm ⊢
      have HMC := Lib.hid hMC
      clear hMC
      go_wp2_with (first
        | (refine wpList_alloc_z rfl 29 rfl zMsg ZM.out ?_; go_simp)
        | (refine wpList_store_new rfl 29 (.tmp 7) (.tmp 27) rfl w3.heap.size rfl zMsg MC 29 rfl rfl SMC.out ZMC.out OMC.out ?_; go_simp)
        | (refine wpList_load_row rfl 29 (.tmp 7) rfl w3.heap.size rfl 29 MC (0, 0) _ (heap_alloc_last w3 _) Tryd.underlying29 rfl SMC.out ?_; go_simp))
      refine C4.mono ?_
      rintro e w5 ⟨gb, cap, rfl, hcap, hgl, hge, hcell, hfr, hb5⟩
      have hrow : w5.heap[w3.heap.size]? = some (.cells MC 29 (0, 0)) := (hb5.block _ (by rw [World.size_alloc]; omega)).trans (heap_alloc_last w3 _)
      have hgm3 := HB3.out.size
      rw [World.size_alloc] at hge
      have HP5 : Hid (CpAt w w5 gb w3.heap.size (12 + (plN i).length + 6) 13 (cpB D (plN i) t) (cpB D (plN i) t) MC) := Lib.hid ⟨CapEq.refl _ _, rfl, hcell, hfr, HB4.out.trans (hb5.mono HB4.out.size), hrow, by omega, hgl, by omega⟩
      have d5 := (cell_of_row w5 w3.heap.size 5 _ _ _ hrow).trans HS5.out
      have HCap := Lib.hid hcap
      clear hcell hfr hb5 hcap C4 hge hgl
      generalize cpB D (plN i) t = bb at HDe HLn HP5
      generalize (plN i).length = n at HDe HLn HP5 HCap hsz h16 ⊢
      generalize bs (plN i) = S at HDe HMC HS5 HSm d5 hsz
      go_wp2_with fail
      have hgmn : w3.heap.size ≤ w3.heap.size := Nat.le_refl _
      clear hgmn hgm3 hrow d5
      go_loopw [10] (fun i wr => ∃ (k : Nat) (b' : List UInt8), 13 ≤ k ∧ k ≤ 13 + n ∧ i = .int .i64 k ∧ Hid (CpAt w wr gb w3.heap.size (12 + n + 6) k bb b' MC)) (fun i _ => 13 + n - (intOf i).toNat)
      case atStart => exact ⟨13, bb, by omega, by omega, rfl, HP5⟩
      case round =>
        obtain ⟨k, b', hk13, hkn, rfl, HP⟩ := hrel
        by_cases hlt : k < 13 + n
        · have hkI : (k : Int) < 12 + (n : Int) + 1 := by omega
          have hlen : b'.length = 12 + n + 6 := HP.out.cap.len.trans HLn.out
          obtain ⟨x, hx⟩ : ∃ x, b'[k]? = some x := ⟨_, List.getElem?_eq_getElem (by omega)⟩
          have d : wr.cell? ⟨gb, k, none⟩ = some (.int .u8 x.toNat) := by
            rw [HP.out.cell k (by omega), List.getD_eq_getElem?_getD, hx]; rfl
          have f := HP.out.fro k
          have hx255 : x.toNat < 256 := x.toNat_lt
          have HX := Lib.hid hx
          obtain ⟨q, hq, hqB⟩ := and_m5 (k : Int) 31 (by omega)
          have hqB : bits BinOp.and IntKind.i64 (k : Int) 31 = (q : Int) := hqB
          clear hx hlen
          by_cases h97 : (97 : Int) ≤ (x.toNat : Int)
          · by_cases h122 : (x.toNat : Int) ≤ 122
            · have hxe : (((x - 32).toNat : Nat) : Int) = (x.toNat : Int) - 32 := by
                have h := u8_sub32 ⟨x.toNat, x.toNat_lt⟩ (by show 97 ≤ x.toNat; omega)
                simp only [UInt8.ofNat_toNat] at h
                omega
              have hput := HP.out.put hk13 HX.out (by omega) (by omega)
              rw [hxe] at hput
              have HPut := Lib.hid hput
              clear hput hxe
              go_wp2_with fail
              all_goals
                go_roundw
                case rel => first | exact ⟨k + 1, b', by omega, by omega, by first | rfl | go_num, Lib.hid HP.out.same⟩ | exact ⟨k + 1, _, by omega, by omega, by first | rfl | go_num, HPut⟩
                case measure => simp [intOf]; omega
            · go_wp2_with fail
              go_roundw
              case rel => exact ⟨k + 1, b', by omega, by omega, by first | rfl | go_num, Lib.hid HP.out.same⟩
              case measure => simp [intOf]; omega
          · go_wp2_with fail
            go_roundw
            case rel => exact ⟨k + 1, b', by omega, by omega, by first | rfl | go_num, Lib.hid HP.out.same⟩
            case measure => simp [intOf]; omega
        · obtain rfl : k = 13 + n := by omega
          have hin : InB wr wr.heap.size (some ⟨gb, 0, none⟩) b' := fun _ => ⟨gb, 0, rfl, HP.out.hbl, fun j hj => by
            rw [Nat.zero_add]
            exact HP.out.cell j (by have := HP.out.cap.len.trans HLn.out; omega)⟩
          have C6 := HDe.out gb cap (12 + n + 6) b' (HP.out.cap.mono (by omega)) HP.out.head (HP.out.cap.len.trans HLn.out).symm wr (HE.out.below HP.out.below) HCap.out hin
          clear hin
          go_wp2_with fail
          refine C6.mono ?_
          rintro e w6 ⟨hb6, A1, A2, c1, c2, rfl⟩
          have HR6 := Lib.hid ((hb6.block _ (heap_lt HP.out.row)).trans HP.out.row)
          have HB6 := Lib.hid (HP.out.below.trans (hb6.mono HP.out.below.size))
          clear hb6 C6
          have hl6 := heap_lt HR6.out
          have HB7 : Hid (Below w.heap.size w (w6.alloc (.cells #[.int .i64 (D : Nat), .bool true, .bool false, .bool false, .int .i64 0, .string S, .int .i64 (t : Nat), .slice A1 0 c1, .slice A2 0 c2] 29))) := Lib.hid (HB6.out.alloc HB6.out.size _)
          have HR7 : Hid ((w6.alloc (.cells #[.int .i64 (D : Nat), .bool true, .bool false, .bool false, .int .i64 0, .string S, .int .i64 (t : Nat), .slice A1 0 c1, .slice A2 0 c2] 29)).heap[w3.heap.size]? = some (.cells MC 29 (0, 0))) := Lib.hid ((Below.heap_alloc w6 _ _ hl6).trans HR6.out)
          go_wp2_with (first
            | (refine wpList_row_gh 29 (.tmp 7) rfl rfl w3.heap.size rfl 29 MC (0, 0) _ HR7.out Tryd.underlying29 rfl SMC.out ?_; go_simp)
            | (go_at_call 17; refine (HSm.out A1 A2 c1 c2 _).mono ?_; rintro e w8 ⟨rfl, hb8⟩; have HB8 := Lib.hid (HB7.out.trans (hb8.mono HB7.out.size)); clear hb8; go_simp))
          go_ret
          exact ⟨rfl, HB8.out⟩
end Go.Proofs.YtogojnlfglbefaaDoor
