/-
  The walk of order's count, and what a slice of a slice of words is. Conditions: each states its own.
-/
import Derived.Test.YtpgkopnnfhlhbaaDoorOrdTurn
namespace Go.Proofs.YtpgkopnnfhlhbaaDoor
open Go.RowKit

/-- words that stand in a slice -/
def WordsV (w : World) (A : Option Addr) (l : List ByteArray) : Prop := l ≠ [] → ∃ b o, A = some ⟨b, o, none⟩ ∧ b < w.heap.size ∧ ∀ j, j < l.length → w.cell? ⟨b, o + j, none⟩ = some (.string (l.getD j ByteArray.empty))
theorem WordsV.below {w w' : World} {A : Option Addr} {l : List ByteArray} (h : WordsV w A l) (hb : Below w.heap.size w w') : WordsV w' A l := fun hl => by
  obtain ⟨b, o, e, h1, h2⟩ := h hl
  exact ⟨b, o, e, Nat.lt_of_lt_of_le h1 hb.size, fun j hj => (hb.cell (p := ⟨b, o + j, none⟩) h1).trans (h2 j hj)⟩
theorem WordsV.strs {w : World} {b : Nat} {l : List ByteArray} (h : Strs w b l) : WordsV w (some ⟨b, 0, none⟩) l := fun _ => ⟨b, 0, rfl, h.1, h.2⟩
theorem getD_map (xs : List ByteArray) (k : Nat) (h : k < xs.length) : (xs.map (·.data.toList)).drop k = (xs.getD k ByteArray.empty).data.toList :: (xs.map (·.data.toList)).drop (k + 1) := by
  rw [List.drop_eq_getElem_cons (by rw [List.length_map]; exact h)]
  congr 1
  rw [List.getElem_map, List.getD_eq_getElem?_getD, List.getElem?_eq_getElem h]; rfl
set_option maxRecDepth 100000 in
set_option maxHeartbeats 1000000 in
theorem count_e (n : Nat) (A : Option Addr) (xs : List ByteArray) (w : World) (hx : WordsV w A xs) (hn : xs.length = n) (hn2 : n ≤ 4294967281) :
    Calls Tryd.prog 16 #[.slice A n n] w fun e w' => e = .returned (.int .i64 (cntF false (xs.map (·.data.toList)))) ∧ w' = w := by
  have HX := Lib.hid hx
  have HN := Lib.hid hn
  clear hx
  go_enter Tryd.func16, Tryd.ntmps16
  go_wp2_with fail
  go_loopg [9, 3, 4, 6] n (fun gk i vn vb _ wr => ∃ (k acc : Nat) (b : Bool), i = .int .i64 k ∧ vn = .int .i64 acc ∧ vb = .bool b ∧ k + gk = n ∧ acc ≤ k ∧ wr = w ∧ Hid (acc + cntF b ((xs.map (·.data.toList)).drop k) = cntF false (xs.map (·.data.toList))))
  case atStart => exact ⟨0, 0, false, rfl, rfl, rfl, by omega, by omega, rfl, Lib.hid (by rw [List.drop_zero, Nat.zero_add])⟩
  case round =>
    obtain ⟨k, acc, b, rfl, rfl, rfl, hk, hacc, rfl, HC⟩ := hrel
    by_cases hkn : k < n
    · obtain ⟨g2, rfl⟩ : ∃ g2, gk = g2 + 1 := ⟨gk - 1, by omega⟩
      have hkI : (k : Int) < (n : Int) := by omega
      have hkx : k < xs.length := by rw [HN.out]; exact hkn
      obtain ⟨q, o, rfl, hbl, hcl⟩ := HX.out (List.length_pos_iff.1 (by omega))
      have hcx := hcl k hkx
      have hd := HC.out
      rw [getD_map xs k hkx] at hd
      generalize xs.getD k ByteArray.empty = y at hcx hd
      have hkd := kindOf_e y wr
      clear hbl hcl
      by_cases h91 : y.data.toList = [91]
      · rw [cntF, if_pos h91] at hd
        have HD := Lib.hid hd
        have f1 := str_eq h91
        clear hd h91 hkd
        go_wp2
        go_roundg g2
        case measure => omega
        case rel => exact ⟨k + 1, acc, true, by go_num, rfl, rfl, by omega, by omega, rfl, HD⟩
      · rw [cntF, if_neg h91] at hd
        have f1 := str_ne h91
        by_cases h93 : y.data.toList = [93]
        · rw [if_pos h93] at hd
          have HD := Lib.hid hd
          have f2 := str_eq h93
          clear hd h91 h93 hkd
          go_wp2
          go_roundg g2
          case measure => omega
          case rel => exact ⟨k + 1, acc, false, by go_num, rfl, rfl, by omega, by omega, rfl, HD⟩
        · rw [if_neg h93] at hd
          have f2 := str_ne h93
          clear h91 h93
          rcases (show b = true ∨ b = false by cases b <;> simp) with rfl | rfl
          · rw [if_neg (by simp), Nat.zero_add] at hd
            have HD := Lib.hid hd
            clear hd hkd
            go_wp2
            go_roundg g2
            case measure => omega
            case rel => exact ⟨k + 1, acc, true, by go_num, rfl, rfl, by omega, by omega, rfl, HD⟩
          · by_cases hk0 : kindW y.data.toList = 0
            · rw [if_neg (by simp [hk0]), Nat.zero_add] at hd
              rw [hk0] at hkd
              have HD := Lib.hid hd
              clear hd hk0
              go_wp2_with (first | (go_at_call 26; refine hkd.mono ?_; rintro e w4 ⟨rfl, rfl⟩))
              go_roundg g2
              case measure => omega
              case rel => exact ⟨k + 1, acc, false, by go_num, rfl, rfl, by omega, by omega, rfl, HD⟩
            · rw [if_pos ⟨rfl, hk0⟩] at hd
              have HD : Hid (acc + 1 + cntF false ((xs.map (·.data.toList)).drop (k + 1)) = cntF false (xs.map (·.data.toList))) := Lib.hid (by omega)
              have hkI0 : ¬ (kindW y.data.toList : Int) = 0 := by omega
              generalize kindW y.data.toList = kk at hkd hkI0
              have hkB : ((kk : Int) == 0) = false := by simp; omega
              clear hd hk0
              go_wp2_with (first | (go_at_call 26; refine hkd.mono ?_; rintro e w4 ⟨rfl, rfl⟩))
              go_roundg g2
              case measure => omega
              case rel => exact ⟨k + 1, acc + 1, false, by go_num, by go_num, rfl, by omega, by omega, rfl, HD⟩
    · obtain rfl : k = n := by omega
      have hd := HC.out
      rw [List.drop_eq_nil_of_le (by rw [List.length_map]; omega), show cntF b [] = 0 by cases b <;> rfl, Nat.add_zero] at hd
      have HD := Lib.hid hd
      clear hd
      go_wp2
      go_ret
      exact ⟨by rw [HD.out]; rfl, rfl⟩
/-- what stands behind the first k words -/
theorem sl_from (b o n k : Nat) (hk : k ≤ n) : ∃ A : Option Addr, (n - k ≠ 0 → A = some ⟨b, o + k, none⟩) ∧ ∀ W : World, (Instr.sliceAt 33 (.slice (some ⟨b, o, none⟩) n n) (some (.int .i64 k)) none none).run Tryd.prog W = .ok (.slice A (n - k : Nat) (n - k : Nat)) W := by
  have hE : Tryd.prog.elem 33 = 9 := by kernel_rfl
  have hZ : ∀ W : World, (sizeOf 9).run Tryd.prog W = .ok 1 W := fun W => by kernel_rfl
  have h1 : (k : Int) ≤ (n : Int) := by omega
  have h2 : ¬ (n : Int) < (k : Int) := by omega
  by_cases h0 : n = k
  · subst h0
    refine ⟨some ⟨b, o, none⟩, fun h => absurd (Nat.sub_self _) h, fun W => ?_⟩
    rw [run_sliceAt_slice (P := Tryd.prog) (w := W) 33 _ (some (.int .i64 n)) none none (by rw [hE]; exact Tryd.underlying33)]
    rw [Nat.sub_self]
    go_simp
  · refine ⟨_, fun _ => rfl, fun W => ?_⟩
    rw [run_sliceAt_slice (P := Tryd.prog) (w := W) 33 _ (some (.int .i64 k)) none none (by rw [hE]; exact Tryd.underlying33)]
    go_simp
/-- what stands from the second word up to place e -/
theorem sl_mid (b o n e : Nat) (h1 : 1 ≤ e) (he : e ≤ n) : ∃ (A : Option Addr), (n - 1 ≠ 0 → A = some ⟨b, o + 1, none⟩) ∧ ∀ W : World, (Instr.sliceAt 33 (.slice (some ⟨b, o, none⟩) n n) (some (.int .i64 1)) (some (.int .i64 e)) none).run Tryd.prog W = .ok (.slice A (e - 1 : Nat) (n - 1 : Nat)) W := by
  have hE : Tryd.prog.elem 33 = 9 := by kernel_rfl
  have hZ : ∀ W : World, (sizeOf 9).run Tryd.prog W = .ok 1 W := fun W => by kernel_rfl
  have h2 : (1 : Int) ≤ (e : Int) := by omega
  have h3 : (e : Int) ≤ (n : Int) := by omega
  by_cases h0 : n - 1 = 0
  · obtain rfl : n = 1 := by omega
    obtain rfl : e = 1 := by omega
    refine ⟨some ⟨b, o, none⟩, fun h => absurd rfl h, fun W => ?_⟩
    rw [run_sliceAt_slice (P := Tryd.prog) (w := W) 33 _ (some (.int .i64 1)) (some (.int .i64 ((1 : Nat) : Int))) none (by rw [hE]; exact Tryd.underlying33)]
    go_simp
  · refine ⟨_, fun _ => rfl, fun W => ?_⟩
    rw [run_sliceAt_slice (P := Tryd.prog) (w := W) 33 _ (some (.int .i64 1)) (some (.int .i64 (e : Int))) none (by rw [hE]; exact Tryd.underlying33)]
    go_simp
    omega
/-! Where the first ] stands. -/
theorem idx_hit (zs : List ByteArray) (e : Nat) (he : e < zs.length) (h : zs.getD e ByteArray.empty = ⟨#[93]⟩) (hne : ∀ j, j < e → zs.getD j ByteArray.empty ≠ ⟨#[93]⟩) : Lib.idxOfS (zs.take zs.length) ⟨#[93]⟩ = (e : Int) := Lib.idxOfS_hit zs zs.length e _ he (Nat.le_refl _) h hne
theorem takeW_spec (u : List (List UInt8)) : (∀ j, j < (u.takeWhile fun y => y != [93]).length → u.getD j [] ≠ [93]) ∧ ((u.takeWhile fun y => y != [93]).length < u.length → u.getD (u.takeWhile fun y => y != [93]).length [] = [93]) ∧ (u.takeWhile fun y => y != [93]).length ≤ u.length ∧ u.take (u.takeWhile fun y => y != [93]).length = u.takeWhile fun y => y != [93] := by
  induction u with
  | nil => simp
  | cons y u ih =>
    by_cases hy : y = [93]
    · subst hy
      rw [List.takeWhile_cons_of_neg (by decide)]
      simp
    · rw [List.takeWhile_cons_of_pos (by simpa using hy)]
      obtain ⟨i1, i2, i3, i4⟩ := ih
      refine ⟨fun j hj => ?_, fun h => ?_, ?_, ?_⟩
      · cases j with
        | zero => simpa using hy
        | succ j => rw [List.getD_cons_succ]; exact i1 j (by simpa using hj)
      · rw [List.length_cons, List.getD_cons_succ]; exact i2 (by simpa using h)
      · simp only [List.length_cons]; omega
      · rw [List.length_cons, List.take_succ_cons, i4]
theorem data93 {y : ByteArray} : y = ⟨#[93]⟩ ↔ y.data.toList = [93] := ⟨fun e => by rw [e], fun h => bytes_inj h⟩
theorem getD_data (xs : List ByteArray) (j : Nat) : (xs.map (·.data.toList)).getD j [] = (xs.getD j ByteArray.empty).data.toList := by
  rw [List.getD_eq_getElem?_getD, List.getElem?_map, List.getD_eq_getElem?_getD]
  cases xs[j]? <;> rfl
/-- the place of the first ] behind a [ -/
theorem idx_of (t0 : ByteArray) (u : List ByteArray) (h0 : t0.data.toList = [91]) : ∀ L, L = ((u.map (·.data.toList)).takeWhile fun y => y != [93]).length →
    (L < u.length → Lib.idxOfS ((t0 :: u).take (t0 :: u).length) ⟨#[93]⟩ = ((L + 1 : Nat) : Int)) ∧ (¬ L < u.length → Lib.idxOfS ((t0 :: u).take (t0 :: u).length) ⟨#[93]⟩ = -1) := by
  intro L hL
  obtain ⟨i1, i2, i3, _⟩ := takeW_spec (u.map (·.data.toList))
  rw [← hL] at i1 i2 i3
  rw [List.length_map] at i2 i3
  have h93 : t0 ≠ ⟨#[93]⟩ := fun e => by rw [data93.1 e] at h0; exact absurd h0 (by decide)
  refine ⟨fun h => idx_hit _ (L + 1) (by rw [List.length_cons]; omega) ?_ ?_, fun h => Lib.idxOfS_miss _ _ _ ?_⟩
  · rw [List.getD_cons_succ]
    exact data93.2 (by rw [← getD_data]; exact i2 h)
  · intro j hj
    cases j with
    | zero => exact h93
    | succ j => rw [List.getD_cons_succ]; exact fun e => i1 j (by omega) (by rw [getD_data]; exact data93.1 e)
  · intro j hj
    cases j with
    | zero => exact h93
    | succ j => rw [List.getD_cons_succ]; exact fun e => i1 j (by rw [List.length_cons] at hj; omega) (by rw [getD_data]; exact data93.1 e)
/-- the source that is read, and the result's cell -/
structure FAt (w wr : World) (g : Nat) (s : Src) : Prop where
  below : Below w.heap.size w wr
  gt : w.heap.size < g
  res : wr.heap[w.heap.size]? = some (.cells zS 30 (0, 0))
  src : wr.heap[g]? = some (.cells (srcV s) 30 (0, 0))
theorem heap_lt {w : World} {g : Nat} {o : Obj} (h : w.heap[g]? = some o) : g < w.heap.size := (Array.getElem?_eq_some_iff.1 h).1
theorem FAt.later {w wr w2 : World} {g : Nat} {s : Src} (h : FAt w wr g s) (hb : Below wr.heap.size wr w2) : FAt w w2 g s :=
  ⟨h.below.trans (hb.mono h.below.size), h.gt, (hb.block _ (heap_lt h.res)).trans h.res, (hb.block _ (heap_lt h.src)).trans h.src⟩
theorem FAt.put {w wr w2 : World} {g : Nat} {s s' : Src} (h : FAt w wr g s) (hg : wr.grownBy w2 (some g)) (h2 : w2.heap[g]? = some (.cells (srcV s') 30 (0, 0))) : FAt w w2 g s' :=
  ⟨h.below.grown hg h.below.size (fun k e => by injection e with e; have := h.gt; omega), h.gt, (hg.block _ (heap_lt h.res) (fun e => by injection e with e; have := h.gt; omega)).trans h.res, h2⟩
theorem FAt.ret {w wr w2 : World} {g : Nat} {s : Src} (h : FAt w wr g s) (hg : wr.grownBy w2 (some w.heap.size)) : Below w.heap.size w w2 := h.below.grown hg h.below.size (fun k e => by injection e with e; omega)
end Go.Proofs.YtpgkopnnfhlhbaaDoor
