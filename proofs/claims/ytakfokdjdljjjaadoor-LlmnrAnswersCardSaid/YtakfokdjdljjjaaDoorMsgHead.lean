/-
  The walk of msg.Decode for bytes whose head is none: too short, another opcode, not one question, or too many records. Condition: the library's variable MaxLen holds some number; the bytes lie in memory.
-/
import Derived.Test.YtakfokdjdljjjaaDoorMsgDec0
namespace Go.Proofs.YtakfokdjdljjjaaDoor
open Go.RowKit

def hdC (xs : List Nat) : Array Value := (xs.map (fun n => Value.int .i64 (n : Nat)) ++ List.replicate (6 - xs.length) (Value.int .i64 0)).toArray
theorem hdC_at {xs : List Nat} (h : xs.length < 6) : (hdC xs)[xs.length]? = some (.int .i64 0) := by
  unfold hdC
  rw [List.getElem?_toArray, List.getElem?_append_right (by rw [List.length_map]; omega), List.length_map, Nat.sub_self, List.getElem?_replicate, if_pos (by omega)]
theorem hdC_set {xs : List Nat} (h : xs.length < 6) (v : Nat) : (hdC xs).setIfInBounds xs.length (.int .i64 (v : Nat)) = hdC (xs ++ [v]) := by
  unfold hdC
  rw [List.setIfInBounds_toArray, List.set_append_right _ _ (by rw [List.length_map]; omega), List.length_map, Nat.sub_self, show 6 - xs.length = (6 - (xs ++ [v]).length) + 1 by rw [List.length_append, List.length_singleton]; omega, List.replicate_succ, List.set_cons_zero, List.map_append, List.append_assoc]
  rfl
/-- what is known of the numbers that are read -/
def HdOf (b : List UInt8) (xs : List Nat) (o : Option Nat) : Prop := (o = some (2 * xs.length) ∧ ∀ j, j < xs.length → numF b (2 * j) 2 = some (xs.getD j 0, 2 * j + 2)) ∨ (o = none ∧ b.length < 12)
structure HAt (base : Nat) (w wr : World) (g gh : Nat) (A : Option Addr) (c : Nat) (b : List UInt8) (xs : List Nat) : Prop where
  r : ∃ o, RSt base wr g A c b o ∧ HdOf b xs o
  lt : ∀ x ∈ xs, x ≤ 65535
  hd : wr.heap[gh]? = some (.cells (hdC xs) 61 (0, 0))
  ms : wr.heap[base]? = some (.cells zMsg 31 (0, 0))
  below : Below base w wr
theorem HAt.next {base g gh c v : Nat} {w wr w3 : World} {A : Option Addr} {b : List UInt8} {xs : List Nat} {o : Option Nat} (h : HAt base w wr g gh A c b xs) (hk : xs.length < 6) (hg : base < g) (hgh : g < gh) (hlt : gh < wr.heap.size)
    (ho : HdOf b xs o) (hr : RSt base w3 g A c b ((o.bind fun p => numF b p 2).map (·.2))) (hgr : wr.grownBy w3 (some g)) (hv : ((o.bind fun p => numF b p 2).map (·.1)).getD 0 = v) : HAt base w (w3.setCell ⟨gh, xs.length, none⟩ (.int .i64 (v : Nat))) g gh A c b (xs ++ [v]) := by
  refine ⟨⟨(o.bind fun p => numF b p 2).map (·.2), hr.kept ((Below.refl base w3).setCell (p := ⟨gh, xs.length, none⟩) (by show base ≤ gh; omega) _) (Below.heap_setCell w3 ⟨gh, xs.length, none⟩ _ g (by show g ≠ gh; omega)), ?_⟩, ?_, ?_, ?_, ?_⟩
  · rcases ho with ⟨rfl, hj⟩ | ⟨rfl, hs⟩
    · rw [Option.bind_some] at hv ⊢
      unfold numF at hv ⊢
      by_cases hle : 2 * xs.length + 2 ≤ b.length
      · rw [if_pos hle] at hv ⊢
        refine .inl ⟨by rw [List.length_append, List.length_singleton]; rfl, fun j hjl => ?_⟩
        rw [List.length_append, List.length_singleton] at hjl
        by_cases hjx : j < xs.length
        · rw [hj j hjx, List.getD_eq_getElem?_getD, List.getD_eq_getElem?_getD, List.getElem?_append_left hjx]
        · obtain rfl : j = xs.length := by omega
          unfold numF
          rw [if_pos hle, List.getD_eq_getElem?_getD, List.getElem?_append_right (Nat.le_refl _), Nat.sub_self, ← hv]
          rfl
      · rw [if_neg hle] at hv ⊢
        exact .inr ⟨rfl, by omega⟩
    · exact .inr ⟨rfl, hs⟩
  · intro x hx
    rcases List.mem_append.1 hx with hx | hx
    · exact h.lt x hx
    · rw [List.mem_singleton.1 hx, ← hv]
      have := numv_lt (b := b) (o := o) rfl
      omega
  · rw [heap_setCell_same w3 gh xs.length _ _ _ ((hgr.block gh hlt (fun e => by injection e with e; omega)).trans h.hd), hdC_set hk]
  · exact (Below.heap_setCell w3 ⟨gh, xs.length, none⟩ _ base (by show base ≠ gh; omega)).trans ((hgr.block base (by omega) (fun e => by injection e with e; omega)).trans h.ms)
  · exact (h.below.grown hgr (by omega) (fun k e => by injection e with e; omega)).setCell (p := ⟨gh, xs.length, none⟩) (by show base ≤ gh; omega) _
theorem six {xs : List Nat} (h : xs.length = 6) : ∃ a0 a1 a2 a3 a4 a5, xs = [a0, a1, a2, a3, a4, a5] := by
  match xs, h with
  | [a0, a1, a2, a3, a4, a5], _ => exact ⟨a0, a1, a2, a3, a4, a5, rfl⟩
theorem HdOf.six {b : List UInt8} {a0 a1 a2 a3 a4 a5 p : Nat} (h : HdOf b [a0, a1, a2, a3, a4, a5] (some p)) : p = 12 ∧ 12 ≤ b.length ∧ hd b 0 = a0 ∧ hd b 1 = a1 ∧ hd b 2 = a2 ∧ hd b 3 = a3 ∧ hd b 4 = a4 := by
  rcases h with ⟨h1, h2⟩ | ⟨h1, _⟩
  · have hj : ∀ j, j < 6 → 2 * j + 2 ≤ b.length ∧ hd b j = [a0, a1, a2, a3, a4, a5].getD j 0 := fun j hj => by
      have h := h2 j hj
      unfold numF at h
      split at h
      · rename_i hle
        injection h with h
        injection h with h _
        exact ⟨hle, h⟩
      · cases h
    exact ⟨by injection h1 with h1, by have := (hj 5 (by omega)).1; omega, (hj 0 (by omega)).2, (hj 1 (by omega)).2, (hj 2 (by omega)).2, (hj 3 (by omega)).2, (hj 4 (by omega)).2⟩
  · cases h1
theorem zeroBuilt : Tryd.prog.built 31 [] = some zMsg := by kernel_rfl
theorem oneZ : zMsg.all (·.oneCell') = true := by simp [zMsg, Value.oneCell']
set_option maxRecDepth 100000 in
set_option maxHeartbeats 8000000 in
theorem decode_head (A : Option Addr) (c : Nat) (b : List UInt8) (w : World) (he : Env w) (hin : InB w w.heap.size A b) (hc : b.length ≤ c) (hl : b.length ≤ 140737488351232) (hn : A = none → c = 0)
    (hbad : 12 ≤ b.length → bits BinOp.and .i64 (hd b 1 : Nat) 30720 ≠ 0 ∨ hd b 2 ≠ 1 ∨ 32 < max (hd b 3) (hd b 4)) :
    Calls Tryd.prog 10 #[.slice A b.length c] w fun e w' => e = .returned (.tuple #[.agg zMsg, .int .i64 4]) ∧ Below w.heap.size w w' := by
  have HBAD := Lib.hid hbad
  have HE := Lib.hid he
  have HR0 : Hid (RIs w.heap.size (((w.alloc (.cells zMsg 31)).alloc (.cells #[.slice A b.length c, .int .i64 0, .bool false] 67)).alloc (.cells (hdC []) 61)) (w.heap.size + 1) A c b 0 false) := Lib.hid (by
    refine ⟨?_, ?_, by omega, hc, hl, by omega, fun _ => by omega, hn⟩
    · exact (Below.heap_alloc _ _ _ (by simp)).trans (by
        have := heap_alloc_last (w.alloc (.cells zMsg 31)) (.cells #[.slice A b.length c, .int .i64 0, .bool false] 67)
        rwa [World.size_alloc] at this)
    · exact hin.below ((((Below.refl _ w).alloc (Nat.le_refl _) _).alloc (by simp) _).alloc (by simp; omega) _))
  have HD0 : Hid (HAt w.heap.size w (((w.alloc (.cells zMsg 31)).alloc (.cells #[.slice A b.length c, .int .i64 0, .bool false] 67)).alloc (.cells (hdC []) 61)) (w.heap.size + 1) (w.heap.size + 2) A c b []) := Lib.hid ⟨⟨some 0, HR0.out, .inl ⟨rfl, fun j hj => absurd hj (by simp)⟩⟩, (fun x hx => by cases hx), by
      have := heap_alloc_last ((w.alloc (.cells zMsg 31)).alloc (.cells #[.slice A b.length c, .int .i64 0, .bool false] 67)) (.cells (hdC []) 61)
      rwa [World.size_alloc, World.size_alloc] at this,
    (Below.heap_alloc _ _ _ (by simp; omega)).trans ((Below.heap_alloc _ _ _ (by simp)).trans (heap_alloc_last w _)),
    (((Below.refl _ w).alloc (Nat.le_refl _) _).alloc (by simp) _).alloc (by simp; omega) _⟩
  clear HR0 hin hbad he
  unfold hdC zMsg at HD0
  go_enter Tryd.func10, Tryd.ntmps10
  go_wp2_with fail
  obtain ⟨w0, hw0⟩ : ∃ w0, w0 = (((w.alloc (.cells #[.int .i64 0, .bool false, .bool false, .bool false, .int .i64 0, .string ⟨#[]⟩, .int .i64 0, .slice none 0 0, .slice none 0 0] 31)).alloc (.cells #[.slice A b.length c, .int .i64 0, .bool false] 67)).alloc (.cells #[.int .i64 0, .int .i64 0, .int .i64 0, .int .i64 0, .int .i64 0, .int .i64 0] 61)) := ⟨_, rfl⟩
  have HD1 : Hid (HAt w.heap.size w w0 (w.heap.size + 1) (w.heap.size + 2) A c b []) := Lib.hid (by rw [hw0]; exact HD0.out)
  try simp only [World.size_alloc]
  rw [← hw0]
  clear hw0 HD0
  go_loopw [17, 6] (fun i _ wr => ∃ xs : List Nat, xs.length ≤ 6 ∧ i = .int .i64 xs.length ∧ Hid (HAt w.heap.size w wr (w.heap.size + 1) (w.heap.size + 2) A c b xs)) (fun i _ _ => 6 - (intOf i).toNat)
  case atStart => exact ⟨[], by simp, rfl, HD1⟩
  case round =>
    obtain ⟨xs, hk, rfl, HD⟩ := hrel
    have hlt := heap_lt HD.out.hd
    obtain ⟨o, hst, ho⟩ := HD.out.r
    by_cases hk6 : xs.length < 6
    · have C := numberP w.heap.size (w.heap.size + 1) c 2 A b o wr hst (by omega)
      obtain ⟨v, hv⟩ : ∃ v, ((o.bind fun p => numF b p 2).map (·.1)).getD 0 = v := ⟨_, rfl⟩
      have hvb : v ≤ 65535 := by
        rw [← hv]
        have := numv_lt (b := b) (o := o) rfl
        omega
      unfold NumP at C
      rw [hv] at C
      have HNx : Hid (∀ w3, RSt w.heap.size w3 (w.heap.size + 1) A c b ((o.bind fun p => numF b p 2).map (·.2)) → wr.grownBy w3 (some (w.heap.size + 1)) → HAt w.heap.size w (w3.setCell ⟨w.heap.size + 2, xs.length, none⟩ (.int .i64 (v : Nat))) (w.heap.size + 1) (w.heap.size + 2) A c b (xs ++ [v])) := Lib.hid (fun w3 hr hg => HD.out.next hk6 (by omega) (by omega) hlt ho hr hg hv)
      have HC := fun (w3 : World) (hg : wr.grownBy w3 (some (w.heap.size + 1))) => (cell_of_row w3 (w.heap.size + 2) xs.length _ _ _ ((hg.block _ hlt (fun e => by injection e with e; omega)).trans HD.out.hd)).trans (hdC_at hk6)
      have HF := fun (w3 : World) (hg : wr.grownBy w3 (some (w.heap.size + 1))) => frozen_of_row w3 (w.heap.size + 2) xs.length _ _ ((hg.block _ hlt (fun e => by injection e with e; omega)).trans HD.out.hd)
      have HXL : Hid ((xs ++ [v]).length = xs.length + 1) := Lib.hid (by rw [List.length_append]; rfl)
      clear hv hk hst ho HD
      obtain ⟨k, hkx⟩ : ∃ k, k = xs.length := ⟨_, rfl⟩
      rw [← hkx] at HC HF HNx HXL hk6 ⊢
      clear hkx
      rcases (show k = 0 ∨ k = 1 ∨ k = 2 ∨ k = 3 ∨ k = 4 ∨ k = 5 by omega) with rfl | rfl | rfl | rfl | rfl | rfl
      all_goals
        go_wp2_with fail
        refine C.mono ?_
        rintro e w3 ⟨rfl, hr3, hg3⟩
        have d := HC w3 hg3
        have f := HF w3 hg3
        have HN3 := Lib.hid (HNx.out w3 hr3 hg3)
        have hs3 : w.heap.size + 2 < w3.heap.size := Nat.lt_of_lt_of_le hlt hg3.size
        clear HC HF hr3 hg3 C
        go_wp2_with fail
        go_roundw
        case rel => exact ⟨xs ++ [v], by rw [HXL.out]; omega, by rw [HXL.out]; first | rfl | go_num, HN3⟩
        case measure => simp [intOf]
    · obtain ⟨a0, a1, a2, a3, a4, a5, rfl⟩ := six (show xs.length = 6 by omega)
      have hh : wr.heap[w.heap.size + 2]? = some (.cells #[.int .i64 (a0 : Nat), .int .i64 (a1 : Nat), .int .i64 (a2 : Nat), .int .i64 (a3 : Nat), .int .i64 (a4 : Nat), .int .i64 (a5 : Nat)] 61 (0, 0)) := HD.out.hd
      have d0 := cell_of_row wr (w.heap.size + 2) 0 _ _ _ hh
      have d1 := cell_of_row wr (w.heap.size + 2) 1 _ _ _ hh
      have d2 := cell_of_row wr (w.heap.size + 2) 2 _ _ _ hh
      have d3 := cell_of_row wr (w.heap.size + 2) 3 _ _ _ hh
      have d4 := cell_of_row wr (w.heap.size + 2) 4 _ _ _ hh
      obtain ⟨p, hp⟩ := hst.blk
      have r2 := cell_of_row wr (w.heap.size + 1) 2 _ _ _ hp.blk
      simp only [List.getElem?_toArray, List.getElem?_cons_succ, List.getElem?_cons_zero] at d0 d1 d2 d3 d4 r2
      have HM := Lib.hid HD.out.ms
      have HB := Lib.hid HD.out.below
      have h1 := HD.out.lt a1 (by simp)
      have h3 := HD.out.lt a3 (by simp)
      have h4 := HD.out.lt a4 (by simp)
      have HCase : Hid (o.isNone = true ∨ (o.isNone = false ∧ (¬ bits BinOp.and .i64 (a1 : Nat) 30720 = 0 ∨ (bits BinOp.and .i64 (a1 : Nat) 30720 = 0 ∧ ¬ (a2 : Int) = 1) ∨ (bits BinOp.and .i64 (a1 : Nat) 30720 = 0 ∧ a2 = 1 ∧ (32 : Int) < max (a3 : Int) (a4 : Int))))) := Lib.hid (by
        cases o with
        | none => exact .inl rfl
        | some p =>
          right
          refine ⟨rfl, ?_⟩
          obtain ⟨_, hl12, _, e1, e2, e3, e4⟩ := ho.six
          have hb := HBAD.out hl12
          rw [e1, e2, e3, e4] at hb
          by_cases q1 : bits BinOp.and .i64 (a1 : Nat) 30720 = 0
          · right
            by_cases q2 : a2 = 1
            · right
              rcases hb with hb | hb | hb
              · exact absurd q1 hb
              · exact absurd q2 hb
              · exact ⟨q1, q2, by omega⟩
            · exact .inl ⟨q1, by omega⟩
          · exact .inl q1)
      have ZM : Hid ((Tryd.prog.info? 31).map (·.size) = some zMsg.size) := Lib.hid sizeM
      have BZ := Lib.hid zeroBuilt
      have OZ := Lib.hid oneZ
      clear hst ho hp hh HD hk hk6 HBAD
      generalize o.isNone = on at HCase r2
      rcases HCase.out with rfl | ⟨rfl, hq | ⟨hq, hq2⟩ | ⟨hq, rfl, hq3⟩⟩
      all_goals
        clear HCase
        go_wp2_with fail
        go_quiet (fail)
        go_wp2_with (first
          | (refine wpList_build_v rfl 31 #[] rfl [] zMsg BZ.out rfl ?_; go_simp)
          | (refine wpList_store_blk rfl 31 (.tmp 2) (.tmp 55) rfl w.heap.size zMsg zMsg 31 (show (wr.drewN nq).heap[w.heap.size]? = _ from HM.out) rfl rfl ZM.out rfl OZ.out ?_; intro w8 hg8 hw8 hz8; go_simp))
        trace_state
        exact bodyPost_ret (results_cell_tmp rfl _ w8 w.heap.size 31 zMsg (0, 0) _ rfl hg8.out Tryd.underlying31 rfl ZM.out) rfl ⟨rfl, (HB.out.grown (grown_drewN wr nq (w.heap.size + 1)) (by omega) (fun k e => by injection e with e; omega)).grown hw8.out (by show w.heap.size ≤ wr.heap.size; omega) (fun k e => by injection e with e; omega)⟩
end Go.Proofs.YtakfokdjdljjjaaDoor
