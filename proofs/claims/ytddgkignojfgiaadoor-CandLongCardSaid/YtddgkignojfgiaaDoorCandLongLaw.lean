/-
  The walk of CandLong. Conditions: the library's variable MaxLen holds some number.
-/
import Derived.Test.YtddgkignojfgiaaDoorCandNamesLaw
namespace Go.Proofs.YtddgkignojfgiaaDoor
open Go.RowKit Go.Lib

theorem and_c (n : Int) (q : Nat) (hq : q < 1073741824) : ∃ m : Nat, m ≤ q ∧ bits BinOp.and IntKind.i64 n (q : Nat) = (m : Int) := by
  have hle : (BitVec.ofInt 64 n &&& BitVec.ofInt 64 (q : Nat)).toNat ≤ q := by
    rw [BitVec.toNat_and]
    refine Nat.le_trans Nat.and_le_right ?_
    rw [BitVec.ofInt_natCast, BitVec.toNat_ofNat]
    exact Nat.mod_le _ _
  refine ⟨(BitVec.ofInt 64 n &&& BitVec.ofInt 64 (q : Nat)).toNat, hle, ?_⟩
  show IntKind.i64.wrap ((BitVec.ofInt 64 n &&& BitVec.ofInt 64 (q : Nat)).toNat : Int) = _
  exact IntWalk.i64_in _ (by omega)
def tenL : List UInt8 := [97, 98, 99, 100, 101, 102, 103, 104, 105, 46]
def rowL : Nat → List UInt8
  | 0 => []
  | k + 1 => rowL k ++ tenL
theorem rowL_len : ∀ k, (rowL k).length = 10 * k
  | 0 => rfl
  | k + 1 => by rw [rowL, List.length_append, rowL_len k]; simp [tenL]; omega
/-- what the text is in the end -/
def cutL (n : Nat) : List UInt8 := (rowL ((n + 9) / 10)).take n
def endL (n : Nat) : List UInt8 := if (cutL n).getLast? = some 46 then (cutL n).take (n - 1) ++ [120] else cutL n
def dL : ByteArray := ⟨#[48, 49, 50, 51, 52, 53, 54, 55, 56, 57, 46, 48, 49, 50, 51, 52, 53, 54, 55, 56, 57, 46, 48, 49, 50, 51, 52, 53, 54, 55, 56, 57]⟩
def yL : ByteArray := ⟨#[121]⟩
def wantN (n : Nat) : Nat := 1 + (if n + 33 ≤ 253 then 1 else 0) + (if n + 2 ≤ 253 then 1 else 0)
def longOk (n : Nat) : Bool :=
  okC (endL n) && (cutP (endL n) == endL n) && decide ((resL 0 99 [dL, yL] ⟨(endL n).toArray⟩ ⟨(endL n).toArray⟩).length = wantN n) &&
    (((resL 0 99 [dL, yL] ⟨(endL n).toArray⟩ ⟨(endL n).toArray⟩).getD (wantN n - 1) ByteArray.empty).data.toList == endL n)
theorem long_ok : ∀ i : Fin 64, longOk (i.val + 180) = true := by decide +kernel
theorem cutL_len {n : Nat} (_ : 1 ≤ n) : (cutL n).length = n := by
  unfold cutL
  rw [List.length_take, rowL_len]; omega
theorem endL_yes {n : Nat} {X : ByteArray} (h : X.data.toList = cutL n) (h1 : 1 ≤ n) (hn : n - 1 < X.size) (hq : (((X[n - 1]'hn).toNat : Int) == 46) = true) : (X.extract 0 (n - 1) ++ { data := #[120] }) = ⟨(endL n).toArray⟩ := by
  have h46 : X[n - 1]'hn = 46 := by rw [byte46, decide_eq_true_eq] at hq; exact hq
  have hl : (cutL n).getLast? = some 46 := by
    rw [List.getLast?_eq_getElem?, cutL_len h1, ← h, Lib.data_getElem? X _ hn, h46]
  apply bytes_inj
  rw [ByteArray.data_append, ByteArray.data_extract, Array.toList_append, Array.toList_extract, List.extract_eq_take_drop, List.drop_zero, Nat.sub_zero, h]
  show _ = endL n
  unfold endL
  rw [if_pos hl]
theorem endL_no {n : Nat} {X : ByteArray} (h : X.data.toList = cutL n) (h1 : 1 ≤ n) (hn : n - 1 < X.size) (hq : (((X[n - 1]'hn).toNat : Int) == 46) = false) : X = ⟨(endL n).toArray⟩ := by
  have h46 : ¬ X[n - 1]'hn = 46 := by rw [byte46, decide_eq_false_iff_not] at hq; exact hq
  have hl : ¬ (cutL n).getLast? = some 46 := by
    rw [List.getLast?_eq_getElem?, cutL_len h1, ← h, Lib.data_getElem? X _ hn, Option.some.injEq]; exact h46
  apply bytes_inj
  rw [h]
  show _ = endL n
  unfold endL
  rw [if_neg hl]
/-- List of the text in the end -/
theorem long_at (m : Nat) (S : ByteArray) (hS : S = ⟨(endL m).toArray⟩) (hOK : longOk m = true) (w1 : World) (he : Env w1) :
    Calls Tryd.prog 10 #[.agg #[.slice none 0 0, .slice (some ⟨w1.heap.size, 0, none⟩) 2 2, .int .i64 99, .int .i64 0, .int .i64 0], .string S] (w1.alloc (.cells #[.string dL, .string yL] 9)) fun e w' =>
      ∃ g c, e = .returned (.tuple #[.slice (some ⟨g, 0, none⟩) (wantN m) c, .int .i64 0]) ∧ wantN m ≤ c ∧ w'.cell? ⟨g, wantN m - 1, none⟩ = some (.string S) ∧ Below w1.heap.size w1 w' := by
  unfold longOk at hOK
  simp only [Bool.and_eq_true, beq_iff_eq, decide_eq_true_eq] at hOK
  obtain ⟨⟨⟨h1, h2⟩, h3⟩, h4⟩ := hOK
  have hd : S.data.toList = endL m := by rw [hS]
  have hta : TA S.data.toList 0 S.data.toList := by
    have := ta_ok h1
    rw [h2] at this
    rw [hd]; exact this
  have hb0 := (Below.refl _ w1).alloc (Nat.le_refl _) (.cells #[.string dL, .string yL] 9)
  have hO := heap_alloc_last w1 (.cells #[.string dL, .string yL] 9)
  have hsz : S.size ≤ 140737488351232 := by have := hta.right.2.1; rw [Lib.size_eq]; omega
  refine (list_at (.slice none 0 0) (some ⟨w1.heap.size, 0, none⟩) 2 [dL, yL] 99 0 0 S S 0 hta _ (he.below hb0) (fun _ => ⟨w1.heap.size, 0, rfl, by rw [World.size_alloc]; omega, fun j hj => ?_⟩) (by simp) (by simp; decide) hsz).mono ?_
  · rw [cell_of_row _ _ _ _ _ _ hO]
    simp only [List.length_cons, List.length_nil] at hj
    match j, hj with
    | 0, _ => rfl
    | 1, _ => rfl
  · rintro e w' ⟨v, rfl, hr, hb, _⟩
    rw [← hS] at h3 h4
    have hpos : 0 < (resL 0 99 [dL, yL] S S).length := by rw [h3]; unfold wantN; omega
    obtain ⟨g, c, rfl, hc, _, _, hcell⟩ := ownT_full hr hpos
    have hx : (resL 0 99 [dL, yL] S S).getD (wantN m - 1) ByteArray.empty = S := bytes_inj (by rw [h4, hd])
    have hcl := hcell (wantN m - 1) (by rw [h3]; unfold wantN; omega)
    rw [hx] at hcl
    rw [h3] at hc ⊢
    exact ⟨g, c, rfl, hc, hcl, hb0.trans (hb.mono hb0.size)⟩
set_option maxRecDepth 100000 in
set_option maxHeartbeats 2000000 in
theorem candLong_walk (n0 : Int) (W : World) (he : Env W) : Calls Tryd.prog 6 #[.int .i64 n0] W fun e w' => e = .returned (.bool true) ∧ Below W.heap.size W w' := by
  obtain ⟨i, hi, hnB⟩ := and_c n0 63 (by omega)
  have hnB : bits BinOp.and IntKind.i64 n0 63 = (i : Int) := hnB
  obtain ⟨m, hm⟩ : ∃ m : Nat, m = i + 180 := ⟨_, rfl⟩
  have hmI : (i : Int) + 180 = (m : Int) := by omega
  have hOK : Hid (longOk m = true) := by rw [hm]; exact Lib.hid (long_ok ⟨i, by omega⟩)
  have hm1 : 180 ≤ m := by omega
  have hm2 : m ≤ 243 := by omega
  have hF := fit12_e W he
  clear he hm
  go_enter Tryd.func6, Tryd.ntmps6
  go_wp2_with fail
  refine hF.mono ?_; rintro e w1 ⟨rfl, hb1, hE1⟩
  have HB1 := Lib.hid hb1
  have HE1 := Lib.hid hE1
  clear hb1 hE1 hF
  go_wp2_with fail
  go_loop [3] (fun z => ∃ (k : Nat) (b : ByteArray), z = .string b ∧ Hid (b.data.toList = rowL k) ∧ b.size = 10 * k ∧ 10 * k < m + 10) (fun z => 300 - (match z with | .string b => b.size | _ => 0))
  case atStart => exact ⟨0, ⟨#[]⟩, rfl, Lib.hid rfl, rfl, by omega⟩
  case round =>
    obtain ⟨k, b, rfl, hb, hbs, hbk⟩ := hrel
    have hbs' : (b.size : Int) = 10 * (k : Int) := by omega
    by_cases hlt : 10 * k < m
    · have hR : Hid ((b ++ { data := #[97, 98, 99, 100, 101, 102, 103, 104, 105, 46] }).data.toList = rowL (k + 1)) := Lib.hid (by
        rw [ByteArray.data_append, Array.toList_append, hb.out]; rfl)
      have hZ : (b ++ { data := #[97, 98, 99, 100, 101, 102, 103, 104, 105, 46] }).size = 10 * (k + 1) := by
        rw [ByteArray.size_append, hbs]; show 10 * k + 10 = _; omega
      have hlt' : (b.size : Int) < (m : Int) := by omega
      have HZ := Lib.hid hZ
      have HBS := Lib.hid hbs
      clear hZ hbs hbs'
      go_wp2_with fail
      go_round
      case rel => exact ⟨k + 1, _, rfl, hR, HZ.out, by omega⟩
      case measure => dsimp only; rw [HZ.out, HBS.out]; omega
    · have hk : k = (m + 9) / 10 := by omega
      have hge : m ≤ b.size := by omega
      have hge' : (m : Int) ≤ (b.size : Int) := by omega
      have hX : Hid ((b.extract 0 m).data.toList = cutL m) := Lib.hid (by
        rw [ByteArray.data_extract, Array.toList_extract, List.extract_eq_take_drop, List.drop_zero, Nat.sub_zero, hb.out, hk]; rfl)
      have hXs : (b.extract 0 m).size = m := by rw [ByteArray.size_extract]; omega
      clear hb hk hbk hbs hbs' hlt
      have hn : m - 1 < (b.extract 0 m).size := by rw [hXs]; omega
      obtain ⟨q, hq⟩ : ∃ q, ((((b.extract 0 m)[m - 1]'hn).toNat : Int) == 46) = q := ⟨_, rfl⟩
      cases q
      · have HS := Lib.hid (endL_no hX.out (by omega) hn hq)
        have hXs' : ((b.extract 0 m).size : Int) = (m : Int) := by omega
        go_wp2_with fail
        have C := long_at m _ HS.out hOK.out w1 HE1.out
        refine Calls.mono C ?_; rintro e w2 ⟨g, c, rfl, hc, hcl, hb⟩
        have HB2 := Lib.hid (HB1.out.trans (hb.mono HB1.out.size))
        clear C hb hX HS
        by_cases h220 : m ≤ 220
        · have hw : wantN m = 3 := by unfold wantN; rw [if_pos (by omega), if_pos (by omega)]
          rw [hw] at hc hcl ⊢
          clear hq
          go_wp2_with fail
          go_ret
          exact ⟨rfl, HB2.out⟩
        · have hw : wantN m = 2 := by unfold wantN; rw [if_neg (by omega), if_pos (by omega)]
          have h220' : 220 < m := by omega
          rw [hw] at hc hcl ⊢
          clear hq h220
          go_wp2_with fail
          go_ret
          exact ⟨rfl, HB2.out⟩
      · have HS := Lib.hid (endL_yes hX.out (by omega) hn hq)
        have hXs' : ((b.extract 0 m).size : Int) = (m : Int) := by omega
        go_wp2_with fail
        have C := long_at m _ HS.out hOK.out w1 HE1.out
        refine Calls.mono C ?_; rintro e w2 ⟨g, c, rfl, hc, hcl, hb⟩
        have HB2 := Lib.hid (HB1.out.trans (hb.mono HB1.out.size))
        clear C hb hX HS
        by_cases h220 : m ≤ 220
        · have hw : wantN m = 3 := by unfold wantN; rw [if_pos (by omega), if_pos (by omega)]
          rw [hw] at hc hcl ⊢
          clear hq
          go_wp2_with fail
          go_ret
          exact ⟨rfl, HB2.out⟩
        · have hw : wantN m = 2 := by unfold wantN; rw [if_neg (by omega), if_pos (by omega)]
          have h220' : 220 < m := by omega
          rw [hw] at hc hcl ⊢
          clear hq h220
          go_wp2_with fail
          go_ret
          exact ⟨rfl, HB2.out⟩
end Go.Proofs.YtddgkignojfgiaaDoor
