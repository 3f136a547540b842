/-
  The walk of CandDots. Conditions: the library's variable MaxLen holds some number.
-/
import Derived.Test.YtddgkignojfgiaaDoorCandLongLaw
namespace Go.Proofs.YtddgkignojfgiaaDoor
open Go.RowKit

open Go.Lib in
/-- a text of one byte, out of a slice's literal -/
theorem conv_c (w : World) (k : Nat) (h : k < 256) : (convert 36 9 (.slice (some ⟨w.heap.size, 0, none⟩) 1 1)).run Tryd.prog (w.alloc (.cells #[.int .u8 (k : Int)] 5)) = .ok (.string ⟨#[UInt8.ofNat k]⟩) (w.alloc (.cells #[.int .u8 (k : Int)] 5)) :=
  run_convert_bytes_back (P := Tryd.prog) (w.alloc (.cells #[.int .u8 (k : Int)] 5)) 36 9 5 ⟨w.heap.size, 0, none⟩ 1 [UInt8.ofNat k] Tryd.underlying36 Tryd.underlying5 Tryd.underlying9 (fun j hj => by
    obtain rfl : j = 0 := by simp only [List.length_singleton] at hj; omega
    rw [Addr.add_lit, Nat.zero_add, World.cell?_alloc_mark, List.getElem_cons_zero, UInt8.toNat_ofNat', Nat.mod_eq_of_lt h]; rfl)
/-- a, and so many times .a behind it -/
def aL : Nat → List UInt8
  | 0 => [97]
  | j + 1 => aL j ++ [46, 97]
/-- the search domains s0, s1, s2 -/
def sB (i : Nat) : ByteArray := ⟨#[115, UInt8.ofNat (48 + i)]⟩
def sL (k : Nat) : List ByteArray := (List.range k).map sB
theorem sL_next (k : Nat) : sL (k + 1) = sL k ++ [sB k] := by unfold sL; rw [List.range_succ, List.map_append]; rfl
theorem sL_len (k : Nat) : (sL k).length = k := by unfold sL; rw [List.length_map, List.length_range]
def tbL (l : List UInt8) : ByteArray := ⟨l.toArray⟩
def dotsOk (n d k : Nat) : Bool :=
  okC (aL n) && (cutP (aL n) == aL n) && okC (aL n ++ [46]) && (cutP (aL n ++ [46]) == aL n) && decide ((aL n ++ [46]).getLast? = some 46) &&
  decide ((resL 0 d (sL k) (tbL (aL n)) (tbL (aL n))).length = k + 1) &&
  (if d ≤ n then (((resL 0 d (sL k) (tbL (aL n)) (tbL (aL n))).getD 0 ByteArray.empty).data.toList == aL n) && (k == 0 || ((resL 0 d (sL k) (tbL (aL n)) (tbL (aL n))).getD 1 ByteArray.empty).data.toList == aL n ++ [46, 115, 48])
   else (((resL 0 d (sL k) (tbL (aL n)) (tbL (aL n))).getD k ByteArray.empty).data.toList == aL n) && (k == 0 || ((resL 0 d (sL k) (tbL (aL n)) (tbL (aL n))).getD 0 ByteArray.empty).data.toList == aL n ++ [46, 115, 48]))
theorem dots_ok : ∀ n d k : Fin 4, dotsOk n.val d.val k.val = true := by decide +kernel
theorem tbL_data (l : List UInt8) : (tbL l).data.toList = l := rfl
theorem tbL_of {b : ByteArray} {l : List UInt8} (h : b.data.toList = l) : b = tbL l := bytes_inj (by rw [h, tbL_data])
theorem aL_len : ∀ j, (aL j).length = 2 * j + 1
  | 0 => rfl
  | j + 1 => by rw [aL, List.length_append, aL_len j]; show 2 * j + 1 + 2 = _; omega
theorem own_fm1 {t : TypeId} {k b : Nat} {w : World} {v : Value} {n : Nat} {xs : List Value} (h : w.ownsRow b t k v n xs) : ∃ A c, v = .slice A n c := by
  rcases h.2 with ⟨rfl, rfl⟩ | ⟨g, cap, cur, hv, _⟩
  · exact ⟨none, 0, rfl⟩
  · exact ⟨_, _, hv⟩
/-- the configuration's block, its search domains so far -/
structure CfAt (w wr : World) (B : Nat) (d : Int) (v : Value) (k : Nat) : Prop where
  blk : wr.heap[B]? = some (.cells #[.slice none 0 0, v, .int .i64 d, .int .i64 0, .int .i64 0] 29 (0, 0))
  row : OwnT (B + 1) v (sL k) wr
  size : B + 1 ≤ wr.heap.size
  low : Below B w wr
  env : Env wr
theorem CfAt.cells {w wr : World} {B k : Nat} {d : Int} {v : Value} (h : CfAt w wr B d v k) :
    wr.cell? ⟨B, 0, none⟩ = some (.slice none 0 0) ∧ wr.cell? ⟨B, 1, none⟩ = some v ∧ wr.cell? ⟨B, 2, none⟩ = some (.int .i64 d) ∧ wr.cell? ⟨B, 3, none⟩ = some (.int .i64 0) ∧ wr.cell? ⟨B, 4, none⟩ = some (.int .i64 0) ∧ wr.frozen? ⟨B, 1, none⟩ = false := by
  refine ⟨?_, ?_, ?_, ?_, ?_, frozen_of_row wr B 1 _ _ h.blk⟩
  all_goals rw [cell_of_row wr B _ _ _ _ h.blk]; rfl
theorem CfAt.frz {w wr wx w5 : World} {B k : Nat} {d : Int} {v : Value} (h : CfAt w wr B d v k) (hx : Below wr.heap.size wr wx) (h5 : wx.grownBy w5 v.ownBlock) : w5.frozen? ⟨B, 1, none⟩ = false ∧ w5.cell? ⟨B, 1, none⟩ = some v := by
  have hsz := h.size
  have hszx := hx.size
  have hnb : v.ownBlock ≠ some B := fun e => by have := (h.row.lt B e).1; omega
  have h6 := (h5.block B (by omega) (fun e => hnb e.symm)).trans ((hx.block B (by omega)).trans h.blk)
  exact ⟨frozen_of_row w5 B 1 _ _ h6, by rw [cell_of_row w5 B _ _ _ _ h6]; rfl⟩
/-- the world in which the next domain stands -/
theorem CfAt.next {w wr wx w5 : World} {B k : Nat} {d : Int} {v v' : Value} (h : CfAt w wr B d v k) (hx : Below wr.heap.size wr wx) (h5 : wx.grownBy w5 v.ownBlock) (ho : w5.ownsRow (B + 1) 9 1 v' (k + 1) ((sL k ++ [sB k]).map Value.string)) (hm : B = w.heap.size) (hen : Env w) :
    CfAt w (w5.setCell ⟨B, 1, none⟩ v') B d v' (k + 1) := by
  have hsz := h.size
  have hszx := hx.size
  have hsz5 := h5.size
  have hnb : v.ownBlock ≠ some B := fun e => by have := (h.row.lt B e).1; omega
  have hB5 : w5.heap[B]? = some (.cells #[.slice none 0 0, v, .int .i64 d, .int .i64 0, .int .i64 0] 29 (0, 0)) :=
    (h5.block B (by omega) (fun e => hnb e.symm)).trans ((hx.block B (by omega)).trans h.blk)
  have hl5 : Below B w w5 := (h.low.trans (hx.mono (by omega))).grown h5 (by omega) (fun j e => by have := (h.row.lt j e).1; omega)
  have hl : Below B w (w5.setCell ⟨B, 1, none⟩ v') := hl5.setCell (Nat.le_refl _) v'
  refine ⟨?_, ?_, by simp; omega, hl, ?_⟩
  · have := heap_setCell_same w5 B 1 _ _ v' hB5
    simpa using this
  · have h1 : OwnT (B + 1) v' (sL (k + 1)) w5 := by rw [OwnT, sL_len, sL_next]; exact ho
    refine ⟨h1.1, ?_⟩
    rcases h1.2 with h0 | ⟨g, cap, cur, e, hb, hg, r⟩
    · exact .inl h0
    · exact .inr ⟨g, cap, cur, e, hb, (heap_setCell_other w5 _ g v' (by show g ≠ B; omega)).trans hg, r⟩
  · subst hm; exact hen.below hl
set_option maxRecDepth 100000 in
set_option maxHeartbeats 4000000 in
theorem candDots_walk (n0 d0 k0 : Int) (W : World) (he : Env W) : Calls Tryd.prog 5 #[.int .i64 n0, .int .i64 d0, .int .i64 k0] W fun e w' => e = .returned (.bool true) ∧ Below W.heap.size W w' := by
  obtain ⟨n, hn, hnB⟩ := and_c n0 3 (by omega)
  obtain ⟨d, hd, hdB⟩ := and_c d0 3 (by omega)
  obtain ⟨sr, hsr, hsB⟩ := and_c k0 3 (by omega)
  have hnB : bits BinOp.and IntKind.i64 n0 3 = (n : Int) := hnB
  have hdB : bits BinOp.and IntKind.i64 d0 3 = (d : Int) := hdB
  have hsB : bits BinOp.and IntKind.i64 k0 3 = (sr : Int) := hsB
  have hOK : Hid (dotsOk n d sr = true) := Lib.hid (dots_ok ⟨n, by omega⟩ ⟨d, by omega⟩ ⟨sr, by omega⟩)
  have hF := fit12_e W he
  clear he
  go_enter Tryd.func5, Tryd.ntmps5
  go_wp2_with fail
  refine hF.mono ?_; rintro e w1 ⟨rfl, hb1, hE1⟩
  have HB1 := Lib.hid hb1
  have HE1 := Lib.hid hE1
  clear hb1 hE1 hF
  go_wp2_with fail
  go_loop [7, 23] (fun z i => ∃ (j : Nat) (b : ByteArray), j ≤ n ∧ i = .int .i64 j ∧ z = .string b ∧ Hid (b.data.toList = aL j)) (fun _ i => n - (intOf i).toNat)
  case atStart => exact ⟨0, ⟨#[97]⟩, Nat.zero_le _, rfl, rfl, Lib.hid rfl⟩
  case round =>
    obtain ⟨j, b, hj, rfl, rfl, hb⟩ := hrel
    have hbs : b.size ≤ 10 := by rw [Lib.size_eq, hb.out, aL_len]; omega
    by_cases hlt : j < n
    · have hR : Hid ((b ++ { data := #[46, 97] }).data.toList = aL (j + 1)) := Lib.hid (by
        rw [ByteArray.data_append, Array.toList_append, hb.out]; rfl)
      go_wp2_with fail
      go_round
      case rel => exact ⟨j + 1, _, by omega, by go_num, rfl, hR⟩
      case measure => simp [intOf]; omega
    · obtain rfl : j = n := by omega
      clear hlt
      clear hbs hj hnB hdB hsB
      have HBD := Lib.hid hb.out
      obtain rfl : b = tbL (aL j) := tbL_of hb.out
      clear HBD hb
      obtain ⟨T, hT⟩ : ∃ T, T = tbL (aL j) := ⟨_, rfl⟩
      rw [← hT]
      have hTs : T.size ≤ 10 := by rw [hT, Lib.size_eq, tbL_data, aL_len]; omega
      have HT := Lib.hid hT
      clear hT
      go_wp2_with fail
      have hB0 : Hid (CfAt w1 (w1.alloc (.cells #[.slice none 0 0, .slice none 0 0, .int .i64 (d : Int), .int .i64 0, .int .i64 0] 29)) w1.heap.size (d : Int) (.slice none 0 0) 0) := Lib.hid
        ⟨heap_alloc_last _ _, World.ownsRow_nil _ _ _ _, by rw [World.size_alloc]; omega, (Below.refl _ _).alloc (Nat.le_refl _) _, HE1.out.below ((Below.refl _ _).alloc (Nat.le_refl _) _)⟩
      obtain ⟨B, hB⟩ : ∃ B, B = w1.heap.size := ⟨_, rfl⟩
      rw [← hB] at hB0 ⊢
      have HBw := Lib.hid hB
      clear hB
      generalize w1.alloc _ = w0 at hB0 ⊢
      go_loopw [31] (fun i wr => ∃ (k : Nat) (v : Value), k ≤ sr ∧ i = .int .i64 k ∧ Hid (CfAt w1 wr B (d : Int) v k)) (fun i _ => sr - (intOf i).toNat)
      case atStart => exact ⟨0, _, Nat.zero_le _, rfl, hB0⟩
      case round =>
        obtain ⟨k, v, hk, rfl, hC⟩ := hrel
        obtain ⟨q0, q1, q2, q3, q4, qf⟩ := hC.out.cells
        by_cases hlt : k < sr
        · obtain ⟨K, hK⟩ : ∃ K, K = 48 + k := ⟨_, rfl⟩
          have hKI : (48 : Int) + (k : Int) = (K : Int) := by omega
          have hK8 : IntKind.u8.wrap (K : Int) = (K : Int) := by rw [IntKind.wrap_u8]; omega
          have hcv := conv_c wr K (by omega)
          have hSB : Hid (({ data := #[115] } : ByteArray) ++ ⟨#[UInt8.ofNat K]⟩ = sB k) := Lib.hid (by rw [hK]; rfl)
          have hSz : (⟨#[UInt8.ofNat K]⟩ : ByteArray).size = 1 := rfl
          clear hK
          generalize (⟨#[UInt8.ofNat K]⟩ : ByteArray) = S at hcv hSB hSz
          clear q0 q2 q3 q4
          have hrow := hC.out.row
          have hszr := hC.out.size
          have hba1 : Below wr.heap.size wr (wr.alloc (.cells #[.int .u8 (K : Int)] 5)) := (Below.refl _ wr).alloc (Nat.le_refl _) _
          have hba2 : Below wr.heap.size wr ((wr.alloc (.cells #[.int .u8 (K : Int)] 5)).alloc (.cells #[.string ({ data := #[115] } ++ S)] 9)) := hba1.alloc (by rw [World.size_alloc]; omega) _
          have HR2 := Lib.hid (ownT_below hrow hba2)
          have HBA := Lib.hid hba2
          have hfr : ∀ w' : World, w'.grownBy w' v.ownBlock → True := fun _ _ => trivial
          clear hrow hba1 hba2 hfr
          go_wp2_with (first
            | (refine wpList_append_s rfl (.tmp 35) (.tmp 42) rfl (B + 1) k _ (sL k) ({ data := #[115] } ++ S) rfl (by have := HR2.out; rw [OwnT, sL_len] at this; exact this) (by omega) (by simp only [World.size_alloc]; omega) ⟨wr.heap.size + 1, 0, none⟩ 1 rfl (by rw [Addr.add_lit, Nat.zero_add, show wr.heap.size + 1 = (wr.alloc (.cells #[.int .u8 (K : Int)] 5)).heap.size from (World.size_alloc _ _).symm, World.cell?_alloc_mark]; rfl) ?_
               intro v5 w5 ho5 hg5
               rw [hSB.out] at ho5
               obtain ⟨A5, c5, rfl⟩ := own_fm1 ho5
               have HN : Hid (CfAt w1 (w5.setCell ⟨B, 1, none⟩ (.slice A5 (k + 1) c5)) B (d : Int) (.slice A5 (k + 1) c5) (k + 1)) := Lib.hid (hC.out.next HBA.out hg5 ho5 HBw.out HE1.out)
               obtain ⟨q5, q6⟩ := hC.out.frz HBA.out hg5
               have hB5 : B < w5.heap.size := (by have := hg5.size; simp only [World.size_alloc] at this; omega)
               clear ho5 hg5; go_simp))
          go_roundw
          case rel => exact ⟨k + 1, _, by omega, by go_num, HN⟩
          case measure => simp [intOf]; omega
        · obtain rfl : k = sr := by omega
          have hOK2 := hOK.out
          unfold dotsOk at hOK2
          simp only [Bool.and_eq_true, beq_iff_eq, decide_eq_true_eq] at hOK2
          obtain ⟨⟨⟨⟨⟨⟨o1, o2⟩, o3⟩, o4⟩, o5⟩, o6⟩, o7⟩ := hOK2
          have hta : TA T.data.toList 0 T.data.toList := by
            rw [HT.out, tbL_data]
            have := ta_ok o1
            rwa [o2] at this
          have htb : TA (T ++ { data := #[46] }).data.toList 0 T.data.toList := by
            rw [ByteArray.data_append, Array.toList_append, HT.out, tbL_data]
            have := ta_ok o3
            rwa [o4] at this
          rw [← HT.out] at o6 o7
          have hres2 : resL 0 (d : Int) (sL k) (T ++ { data := #[46] }) T = [T] := by
            unfold resL
            rw [if_neg (by simp), if_pos]
            rw [ByteArray.data_append, Array.toList_append, HT.out, tbL_data]; exact o5
          have hrow := hC.out.row
          obtain ⟨A, c, rfl⟩ := ownT_fm hrow
          have hat := ownT_at hrow
          have C := list_at (.slice none 0 0) A c (sL k) (d : Int) 0 0 T T 0 hta wr hC.out.env hat (by rw [sL_len]; omega) (fun x hx => by unfold sL at hx; obtain ⟨i, _, rfl⟩ := List.mem_map.1 hx; show 2 ≤ 100000; omega) (by omega)
          obtain ⟨L, hL⟩ : ∃ L, L = resL 0 (d : Int) (sL k) T T := ⟨_, rfl⟩
          rw [← hL] at C o6 o7
          have HO7 := Lib.hid o7
          have HTA2 := Lib.hid htb
          have HRES2 := Lib.hid hres2
          have HO6 := Lib.hid o6
          have HAT := Lib.hid hat
          clear o1 o2 o3 o4 o5 o6 o7 hta htb hres2 hrow hat hL hlt
          go_wp2_with fail
          refine C.mono ?_; rintro e w2 ⟨v2, rfl, hr2, hb2, hE2⟩
          obtain ⟨g2, c2, rfl, hc2, hg2, _, hcell2⟩ := ownT_full hr2 (by rw [HO6.out]; omega)
          rw [HO6.out] at hc2 hcell2 ⊢
          have hszr := hC.out.size
          have HB2 := Lib.hid ((hC.out.low.mono (by rw [HBw.out]; exact Nat.le_refl _)).trans (hb2.mono (by have := HBw.out; omega : w1.heap.size ≤ wr.heap.size)))
          have hblk2 := (hb2.block B (by omega)).trans hC.out.blk
          have HE2 := Lib.hid hE2
          have HAT2 := Lib.hid (HAT.out.below hb2)
          have HCL2 := Lib.hid hcell2
          have hg2' := hg2
          clear C hr2 hb2 hE2 hcell2 q0 q1 q2 q3 q4 qf
          have q0 : w2.cell? ⟨B, 0, none⟩ = some (.slice none 0 0) := by rw [cell_of_row w2 B _ _ _ _ hblk2]; rfl
          have q1 : w2.cell? ⟨B, 1, none⟩ = some (.slice A (sL k).length c) := by rw [cell_of_row w2 B _ _ _ _ hblk2]; rfl
          have q2 : w2.cell? ⟨B, 2, none⟩ = some (.int .i64 (d : Int)) := by rw [cell_of_row w2 B _ _ _ _ hblk2]; rfl
          have q3 : w2.cell? ⟨B, 3, none⟩ = some (.int .i64 0) := by rw [cell_of_row w2 B _ _ _ _ hblk2]; rfl
          have q4 : w2.cell? ⟨B, 4, none⟩ = some (.int .i64 0) := by rw [cell_of_row w2 B _ _ _ _ hblk2]; rfl
          clear hblk2
          have C := list_at (.slice none 0 0) A c (sL k) (d : Int) 0 0 (T ++ { data := #[46] }) T 0 HTA2.out w2 HE2.out HAT2.out (by rw [sL_len]; omega) (fun x hx => by unfold sL at hx; obtain ⟨i, _, rfl⟩ := List.mem_map.1 hx; show 2 ≤ 100000; omega) (by rw [ByteArray.size_append]; show T.size + 1 ≤ _; omega)
          rw [HRES2.out] at C
          go_wp2_with fail
          refine C.mono ?_; rintro e w3 ⟨v3, rfl, hr3, hb3, hE3⟩
          obtain ⟨g3, c3, rfl, hc3, hg3, _, hcell3⟩ := ownT_full hr3 (by simp)
          have m0 := hcell3 0 (by simp)
          rw [List.getD_cons_zero] at m0
          have HB3 := Lib.hid (HB1.out.trans ((HB2.out.trans (hb3.mono (by have := HB2.out.size; omega))).mono HB1.out.size))
          have HCL3 : Hid (∀ j, j < k + 1 → w3.cell? ⟨g2, j, none⟩ = some (.string (L.getD j ByteArray.empty))) := Lib.hid (fun j hj => (hb3.cell (p := ⟨g2, j, none⟩) hg2').trans (HCL2.out j hj))
          clear C hr3 hb3 hE3 hcell3 q0 q1 q2 q3 q4 HCL2
          rw [show [T].length = 1 from rfl] at hc3 ⊢
          have HX : Hid (∀ x : ByteArray, x.data.toList = aL j → x = T) := Lib.hid (fun x hx => bytes_inj (by rw [hx, HT.out, tbL_data]))
          have HY : Hid (∀ x : ByteArray, x.data.toList = aL j ++ [46, 115, 48] → x = T ++ { data := #[46, 115, 48] }) := Lib.hid (fun x hx => bytes_inj (by rw [hx, ByteArray.data_append, Array.toList_append, HT.out, tbL_data]))
          by_cases hdn : d ≤ j
          · have o7 := HO7.out
            rw [if_pos hdn] at o7
            simp only [Bool.and_eq_true, Bool.or_eq_true, beq_iff_eq] at o7
            have a0 := HCL3.out 0 (by omega)
            rw [HX.out _ o7.1] at a0
            by_cases hk0 : k = 0
            · subst hk0
              clear o7
              go_wp2_with fail
              go_ret
              exact ⟨rfl, HB3.out⟩
            · have a1 := HCL3.out 1 (by omega)
              rw [HY.out _ (o7.2.resolve_left hk0)] at a1
              have hk1 : 0 < k := by omega
              clear o7 hk0
              go_wp2_with fail
              go_ret
              exact ⟨rfl, HB3.out⟩
          · have o7 := HO7.out
            rw [if_neg hdn] at o7
            simp only [Bool.and_eq_true, Bool.or_eq_true, beq_iff_eq] at o7
            have hdn' : j < d := by omega
            have ak := HCL3.out k (by omega)
            rw [HX.out _ o7.1] at ak
            by_cases hk0 : k = 0
            · subst hk0
              clear o7 hdn
              go_wp2_with fail
              go_ret
              exact ⟨rfl, HB3.out⟩
            · have a0 := HCL3.out 0 (by omega)
              rw [HY.out _ (o7.2.resolve_left hk0)] at a0
              have hk1 : 0 < k := by omega
              clear o7 hk0 hdn
              go_wp2_with fail
              go_ret
              exact ⟨rfl, HB3.out⟩
end Go.Proofs.YtddgkignojfgiaaDoor
