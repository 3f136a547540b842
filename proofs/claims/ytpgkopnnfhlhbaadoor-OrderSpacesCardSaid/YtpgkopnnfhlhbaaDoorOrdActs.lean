/-
  The walk of order's actions: those that make a source otherwise than it is without them. Conditions: none but what each states.
-/
import Derived.Test.YtpgkopnnfhlhbaaDoorOrdParse
import Derived.BigQuiet
import Derived.Deep.QuietTactic
namespace Go.Proofs.YtpgkopnnfhlhbaaDoor
open Go.RowKit

theorem own_down {w : World} {B B' e size n : Nat} {v : Value} {xs : List Value} (h : w.ownsRow B e size v n xs) (hb : B' ≤ B) : w.ownsRow B' e size v n xs :=
  ⟨h.1, h.2.imp id fun ⟨g, cap, cur, h1, h2, h3⟩ => ⟨g, cap, cur, h1, Nat.le_trans hb h2, h3⟩⟩
def getB (r : Ret) : Nat → Bool
  | 1 => r.1
  | 2 => r.2.1
  | 3 => r.2.2.1
  | 4 => r.2.2.2
  | _ => false
/-- the action for outcome o, if one is wanted -/
def actO (r : Ret) (o : Nat) : List (List UInt8) := if getB r o = decide (o = 1) then [] else if getB r o = true then [nameO o ++ eRet] else [nameO o ++ eCon]
def actsTo (r : Ret) : Nat → List (List UInt8)
  | 0 => []
  | 1 => []
  | o + 1 => actsTo r o ++ actO r o
theorem actsTo_succ (r : Ret) {o : Nat} (h : 1 ≤ o) : actsTo r (o + 1) = actsTo r o ++ actO r o := by
  cases o with
  | zero => omega
  | succ o => rfl
theorem actsTo_all (r : Ret) : actsTo r 5 = actsP r := by
  obtain ⟨a, b, c, d⟩ := r
  cases a <;> cases b <;> cases c <;> cases d <;> rfl
theorem srcV_at (s : Src) {o : Nat} (h1 : 1 ≤ o) (h4 : o ≤ 4) : (srcV s)[1 + o]? = some (.bool (getB s.2 o)) := by
  have : o = 1 ∨ o = 2 ∨ o = 3 ∨ o = 4 := by omega
  rcases this with rfl | rfl | rfl | rfl <;> rfl
theorem getB_r0 {o : Nat} (h1 : 1 ≤ o) (h4 : o ≤ 4) : getB r0 o = decide (o = 1) := by
  have : o = 1 ∨ o = 2 ∨ o = 3 ∨ o = 4 := by omega
  rcases this with rfl | rfl | rfl | rfl <;> rfl
theorem nameO_len (o : Nat) : (nameO o).length ≤ 8 := by unfold nameO; split <;> decide
/-- the source, the one without actions, and the actions so far -/
structure AAt (w : World) (B g : Nat) (s : Src) (wr : World) (v : Value) (xs : List ByteArray) : Prop where
  below : Below w.heap.size w wr
  base : w.heap.size < g ∧ g < B ∧ B ≤ wr.heap.size
  src : wr.heap[w.heap.size]? = some (.cells (srcV s) 30 (0, 0))
  pl : wr.heap[g]? = some (.cells (srcV (s.1, r0)) 30 (0, 0))
  row : wr.ownsRow B 9 1 v xs.length (xs.map Value.string)
theorem AAt.later {w wr w2 : World} {B g : Nat} {s : Src} {v v2 : Value} {xs ys : List ByteArray} (h : AAt w B g s wr v xs) (hb : Below B wr w2) (hr : w2.ownsRow B 9 1 v2 ys.length (ys.map Value.string)) : AAt w B g s w2 v2 ys :=
  ⟨h.below.trans (hb.mono (by have := h.base; omega)), ⟨h.base.1, h.base.2.1, Nat.le_trans h.base.2.2 hb.size⟩, (hb.block _ (by have := h.base; omega)).trans h.src, (hb.block _ h.base.2.1).trans h.pl, hr⟩
theorem AAt.c1 {w wr : World} {B g : Nat} {s : Src} {v : Value} {xs : List ByteArray} (h : AAt w B g s wr v xs) {o : Nat} (h1 : 1 ≤ o) (h4 : o ≤ 4) : wr.cell? ⟨w.heap.size, 1 + o, none⟩ = some (.bool (getB s.2 o)) := by
  rw [cell_of_row wr w.heap.size (1 + o) _ _ (0, 0) h.src, srcV_at s h1 h4]
theorem AAt.c2 {w wr : World} {B g : Nat} {s : Src} {v : Value} {xs : List ByteArray} (h : AAt w B g s wr v xs) {o : Nat} (h1 : 1 ≤ o) (h4 : o ≤ 4) : wr.cell? ⟨g, 1 + o, none⟩ = some (.bool (decide (o = 1))) := by
  rw [cell_of_row wr g (1 + o) _ _ (0, 0) h.pl, srcV_at _ h1 h4, getB_r0 h1 h4]
theorem AAt.draws {w wr : World} {B g : Nat} {s : Src} {v : Value} {xs : List ByteArray} (h : AAt w B g s wr v xs) (q : Nat) : AAt w B g s (wr.drewN q) v xs :=
  h.later (below_drewQ (Below.refl _ _) q) (own_step h.row (below_drewQ (Below.refl _ _) q))
def bRet : ByteArray := ⟨#[61, 114, 101, 116, 117, 114, 110]⟩
def bCon : ByteArray := ⟨#[61, 99, 111, 110, 116, 105, 110, 117, 101]⟩
theorem map_snoc {xs : List ByteArray} {l : List (List UInt8)} {y : ByteArray} {z : List UInt8} (h : xs.map (·.data.toList) = l) (hy : y.data.toList = z) : (xs ++ [y]).map (·.data.toList) = l ++ [z] := by
  rw [List.map_append, h, List.map_cons, hy]; rfl
/-- what actions answers -/
def AcPost (w : World) (s : Src) (e : Ending) (w' : World) : Prop :=
  ∃ (v : Value) (xs : List ByteArray), e = .returned v ∧ w'.ownsRow w.heap.size 9 1 v xs.length (xs.map Value.string) ∧ xs.map (·.data.toList) = actsP s.2 ∧ Below w.heap.size w w'
set_option maxRecDepth 100000 in
set_option maxHeartbeats 4000000 in
theorem actions_e (s : Src) (w : World) : Calls Tryd.prog 19 #[.agg (srcV s)] w (AcPost w s) := by
  have HZS := Lib.hid zeroSrc
  have hb1 : Below w.heap.size w (w.alloc (.cells (srcV s) 30)) := (Below.refl _ w).alloc (Nat.le_refl _) _
  have hg1 := heap_alloc_last w (.cells (srcV s) 30)
  have hs1 : (w.alloc (.cells (srcV s) 30)).heap.size = w.heap.size + 1 := World.size_alloc _ _
  have c0 : (w.alloc (.cells (srcV s) 30)).cell? ⟨w.heap.size, 0, none⟩ = some (.int .i64 s.1) := by rw [cell_of_row _ w.heap.size 0 _ _ (0, 0) hg1]; rfl
  have HPL := Lib.hid (fun W => plain_e s.1 W)
  have HST : Hid (∀ w2, Below (w.alloc (.cells (srcV s) 30)).heap.size (w.alloc (.cells (srcV s) 30)) w2 → AAt w (w2.heap.size + 1) w2.heap.size s (w2.alloc (.cells (srcV (s.1, r0)) 30)) (.slice none 0 0) []) := Lib.hid fun w2 hb => by
    have hsz := hb.size
    rw [hs1] at hb hsz
    have hb3 : Below w2.heap.size w2 (w2.alloc (.cells (srcV (s.1, r0)) 30)) := (Below.refl _ _).alloc (Nat.le_refl _) _
    refine ⟨(hb1.trans (hb.mono (by omega))).trans (hb3.mono (by omega)), ⟨by omega, by omega, by rw [World.size_alloc]; omega⟩, (hb3.block _ (by omega)).trans ((hb.block _ (by omega)).trans hg1), heap_alloc_last _ _, ?_⟩
    exact World.ownsRow_nil _ _ _ _
  have HSk : Hid ((Tryd.prog.info? 30).map (·.size) = some (srcV (s.1, r0)).size) := Lib.hid sizeSrc
  have HZk : Hid (zS.size = (srcV (s.1, r0)).size) := Lib.hid rfl
  have H1k := Lib.hid (srcV_one (s.1, r0))
  obtain ⟨D, hD⟩ : ∃ D, D = srcV (s.1, r0) := ⟨_, rfl⟩
  rw [← hD] at HPL HST HSk HZk H1k
  clear hD
  generalize zS = Z at HZS HZk
  obtain ⟨S, hS⟩ : ∃ S, S = srcV s := ⟨_, rfl⟩
  rw [← hS] at c0 HST ⊢
  clear hb1 hg1 hs1 hS
  go_enter Tryd.func19, Tryd.ntmps19
  go_wp2_with (first
    | (go_at_call 21; refine (HPL.out _).mono ?_; rintro e w2 ⟨rfl, hb2⟩; have HA3 := Lib.hid (HST.out w2 hb2); clear hb2)
    | (refine wpList_alloc_z rfl 30 rfl Z HZS.out ?_; go_simp)
    | (refine wpList_store_new rfl 30 (.tmp 4) (.tmp 8) rfl w2.heap.size rfl Z D 30 rfl rfl HSk.out HZk.out H1k.out ?_; go_simp
       revert HA3
       generalize (w2.alloc (.cells D 30)) = w3
       generalize w2.heap.size = g
       intro HA3))
  go_loopg [5, 3] 4 (fun gk i v wr => ∃ (o : Nat) (xs : List ByteArray), i = .int .i64 o ∧ o + gk = 5 ∧ 1 ≤ o ∧ Hid (AAt w (g + 1) g s wr v xs) ∧ Hid (xs.map (·.data.toList) = actsTo s.2 o ∧ xs.length ≤ o))
  case atStart => exact ⟨1, [], rfl, by omega, by omega, HA3, Lib.hid ⟨rfl, Nat.zero_le _⟩⟩
  case round =>
    obtain ⟨o, xs, rfl, hog, ho1, HA, HX⟩ := hrel
    by_cases ho5 : o < 5
    · obtain ⟨g2, rfl⟩ : ∃ g2, gk = g2 + 1 := ⟨gk - 1, by omega⟩
      have hoI : (o : Int) ≤ 4 := by omega
      have o1I : (0 : Int) ≤ (o : Int) := by omega
      have o2I : (o : Int) < 5 := by omega
      have c1 := HA.out.c1 ho1 (by omega)
      have c2 := HA.out.c2 ho1 (by omega)
      have ha : actsTo s.2 (o + 1) = actsTo s.2 o ++ (if getB s.2 o = decide (o = 1) then [] else if getB s.2 o = true then [nameO o ++ eRet] else [nameO o ++ eCon]) := actsTo_succ s.2 ho1
      have hnm := fun W => outcomeName_e o W
      have hnl : (tb (nameO o)).size ≤ 8 := by rw [size_eq, tb_data]; exact nameO_len o
      have hnd : (tb (nameO o)).data.toList = nameO o := rfl
      generalize tb (nameO o) = N at hnm hnl hnd
      rw [← hnd] at ha
      generalize hx : getB s.2 o = x at c1 ha
      generalize hy : decide (o = 1) = y at c2 ha
      have HXe := Lib.hid hx
      have HYe := Lib.hid hy
      have HHA := Lib.hid ha
      clear ha hnd hx hy
      rcases (show (x = true ∧ y = true) ∨ (x = false ∧ y = false) ∨ (x = true ∧ y = false) ∨ (x = false ∧ y = true) by cases x <;> cases y <;> simp) with ⟨rfl, rfl⟩ | ⟨rfl, rfl⟩ | ⟨rfl, rfl⟩ | ⟨rfl, rfl⟩
      · have HN2 : Hid (xs.map (·.data.toList) = actsTo s.2 (o + 1) ∧ xs.length ≤ o + 1) := Lib.hid ⟨by rw [HHA.out, if_pos rfl, List.append_nil]; exact HX.out.1, Nat.le_succ_of_le HX.out.2⟩
        clear hnm hnl
        go_wp2_with fail
        go_quiet (fail)
        go_wp2_with fail
        have HA4 := Lib.hid (HA.out.draws nq)
        go_roundg g2
        case measure => omega
        case rel => exact ⟨o + 1, xs, by go_num, by omega, by omega, HA4, HN2⟩
      · have HN2 : Hid (xs.map (·.data.toList) = actsTo s.2 (o + 1) ∧ xs.length ≤ o + 1) := Lib.hid ⟨by rw [HHA.out, if_pos rfl, List.append_nil]; exact HX.out.1, Nat.le_succ_of_le HX.out.2⟩
        clear hnm hnl
        go_wp2_with fail
        go_quiet (fail)
        go_wp2_with fail
        have HA4 := Lib.hid (HA.out.draws nq)
        go_roundg g2
        case measure => omega
        case rel => exact ⟨o + 1, xs, by go_num, by omega, by omega, HA4, HN2⟩
      · obtain ⟨y, hy⟩ : ∃ y, y = N ++ bRet := ⟨_, rfl⟩
        have HN2 : Hid ((xs ++ [y]).map (·.data.toList) = actsTo s.2 (o + 1) ∧ (xs ++ [y]).length ≤ o + 1) := Lib.hid ⟨by
          rw [HHA.out, if_neg (by decide), if_pos rfl]
          exact map_snoc HX.out.1 (by rw [hy, Joins.data_append]; rfl), by rw [List.length_append, List.length_singleton]; exact Nat.succ_le_succ HX.out.2⟩
        have hsz : (⟨#[61, 114, 101, 116, 117, 114, 110]⟩ : ByteArray).size ≤ 10 := by decide
        have hyy : N ++ (⟨#[61, 114, 101, 116, 117, 114, 110]⟩ : ByteArray) = y := by rw [hy]; rfl
        have HY := Lib.hid hy
        clear hy
        go_wp2_with fail
        go_quiet (fail)
        have HA4 := Lib.hid (HA.out.draws nq)
        revert HA4
        generalize wr.drewN nq = W4
        intro HA4
        have c3 := HA4.out.c1 ho1 (show o ≤ 4 by omega)
        rw [HXe.out] at c3
        have hb5 : Below W4.heap.size W4 (W4.alloc (.cells #[.string y] 9)) := (Below.refl _ _).alloc (Nat.le_refl _) _
        have HRW := Lib.hid (own_step HA4.out.row hb5)
        have HB5 := Lib.hid (hb5.mono HA4.out.base.2.2)
        have HLX : Hid (xs.length ≤ 10) := Lib.hid (by have := HX.out.2; omega)
        clear c1 c2 hb5
        go_wp2_with (first
          | (go_at_call 29; refine (hnm _).mono ?_; rintro e w6 ⟨rfl, rfl⟩)
          | (refine wpList_append_strs rfl (.tmp 34) (.tmp 38) rfl (g + 1) xs.length 1 _ xs [y] rfl HRW.out (by have := HLX.out; omega) (by rw [World.size_alloc]; have := HA4.out.base.2.2; omega) ⟨w6.heap.size, 0, none⟩ 1 rfl rfl (fun j hj => by rw [Addr.add_lit, Nat.zero_add]; match j, hj with | 0, _ => rw [World.cell?_alloc_mark]; rfl) ?_
             intro v5 w5 ho5 hb5
             have HA5 : Hid (AAt w (g + 1) g s w5 v5 (xs ++ [y])) := Lib.hid (HA4.out.later (HB5.out.trans hb5) (by rw [List.length_append, List.length_singleton]; exact ho5))
             clear ho5 hb5; go_simp))
        go_roundg g2
        case measure => omega
        case rel => exact ⟨o + 1, xs ++ [y], by go_num, by omega, by omega, HA5, HN2⟩
      · obtain ⟨y, hy⟩ : ∃ y, y = N ++ bCon := ⟨_, rfl⟩
        have HN2 : Hid ((xs ++ [y]).map (·.data.toList) = actsTo s.2 (o + 1) ∧ (xs ++ [y]).length ≤ o + 1) := Lib.hid ⟨by
          rw [HHA.out, if_neg (by decide), if_neg (by decide)]
          exact map_snoc HX.out.1 (by rw [hy, Joins.data_append]; rfl), by rw [List.length_append, List.length_singleton]; exact Nat.succ_le_succ HX.out.2⟩
        have hsz : (⟨#[61, 99, 111, 110, 116, 105, 110, 117, 101]⟩ : ByteArray).size ≤ 10 := by decide
        have hyy : N ++ (⟨#[61, 99, 111, 110, 116, 105, 110, 117, 101]⟩ : ByteArray) = y := by rw [hy]; rfl
        have HY := Lib.hid hy
        clear hy
        go_wp2_with fail
        go_quiet (fail)
        have HA4 := Lib.hid (HA.out.draws nq)
        revert HA4
        generalize wr.drewN nq = W4
        intro HA4
        have c3 := HA4.out.c1 ho1 (show o ≤ 4 by omega)
        rw [HXe.out] at c3
        have hb5 : Below W4.heap.size W4 (W4.alloc (.cells #[.string y] 9)) := (Below.refl _ _).alloc (Nat.le_refl _) _
        have HRW := Lib.hid (own_step HA4.out.row hb5)
        have HB5 := Lib.hid (hb5.mono HA4.out.base.2.2)
        have HLX : Hid (xs.length ≤ 10) := Lib.hid (by have := HX.out.2; omega)
        clear c1 c2 hb5
        go_wp2_with (first
          | (go_at_call 29; refine (hnm _).mono ?_; rintro e w6 ⟨rfl, rfl⟩)
          | (refine wpList_append_strs rfl (.tmp 13) (.tmp 17) rfl (g + 1) xs.length 1 _ xs [y] rfl HRW.out (by have := HLX.out; omega) (by rw [World.size_alloc]; have := HA4.out.base.2.2; omega) ⟨w6.heap.size, 0, none⟩ 1 rfl rfl (fun j hj => by rw [Addr.add_lit, Nat.zero_add]; match j, hj with | 0, _ => rw [World.cell?_alloc_mark]; rfl) ?_
             intro v5 w5 ho5 hb5
             have HA5 : Hid (AAt w (g + 1) g s w5 v5 (xs ++ [y])) := Lib.hid (HA4.out.later (HB5.out.trans hb5) (by rw [List.length_append, List.length_singleton]; exact ho5))
             clear ho5 hb5; go_simp))
        go_roundg g2
        case measure => omega
        case rel => exact ⟨o + 1, xs ++ [y], by go_num, by omega, by omega, HA5, HN2⟩
    · obtain rfl : o = 5 := by omega
      have HF : Hid (xs.map (·.data.toList) = actsP s.2) := Lib.hid (by rw [← actsTo_all]; exact HX.out.1)
      go_wp2_with fail
      go_ret
      exact ⟨_, xs, rfl, own_down HA.out.row (by have := HA.out.base; omega), HF.out, HA.out.below⟩
end Go.Proofs.YtpgkopnnfhlhbaaDoor
