/-
  The walk of puny.read: the number at a text's beginning, and how many digits it has. Conditions: the text has at most 63 bytes, the bias is small.
-/
import Derived.Test.YtgopjgbcnjkblaaGreatDoorPunyFn
namespace Go.Proofs.YtgopjgbcnjkblaaGreatDoor
open Go.RowKit

theorem thr_to (x y : Int) (k b t : Nat) (w : World) (ht : thr k b = t) (hx : x = k) (hy : y = b) (hk : k ≤ 1000000000000) (hb : b ≤ 1000000000000) :
    Calls Tryz.prog 99 #[.int .i64 x, .int .i64 y] w fun e w' => e = .returned (.int .i64 t) ∧ w = w' := by
  subst hx hy ht; exact thr_any k b w hk hb
theorem digit_ok (c : UInt8) (d : Nat) (w : World) (h : dg c = d) (hd : d < 36) :
    Calls Tryz.prog 108 #[.int .u8 c.toNat] w fun e w' => e = .returned (.int .i64 d) ∧ w = w' := by
  have e : dgI c.toNat = d := by
    unfold dgI
    rw [show dgN c.toNat = d from h, if_neg (by omega)]
  exact e ▸ digit_any c w
theorem dgN_le (n : Nat) : dgN n ≤ 36 := by
  unfold dgN
  repeat' split
  all_goals omega
theorem digit_bad (c : UInt8) (w : World) (h : ¬ dg c < 36) :
    Calls Tryz.prog 108 #[.int .u8 c.toNat] w fun e w' => e = .returned (.int .i64 (-1)) ∧ w = w' := by
  have e : dgI c.toNat = -1 := by
    have h1 := dgN_le c.toNat
    have h2 : ¬ dgN c.toNat < 36 := h
    unfold dgI
    rw [if_pos (by omega)]
  exact e ▸ digit_any c w

/-- how read's loop stands: i digits are gone through -/
structure RdAt (b : Nat) (ds : List UInt8) (i sum wt : Nat) : Prop where
  le : i ≤ ds.length
  inv : rd 36 b (ds.map dg) = (rd (36 * (i + 1)) b ((ds.drop i).map dg)).map fun x => (sum + wt * x.1, x.2)
  sm : sum ≤ 71303168
  w1 : 1 ≤ wt
  w2 : wt ≤ 35 * sum + 1
  ok : ∀ c ∈ ds.take i, dg c < 36
theorem RdAt.start (b : Nat) (ds : List UInt8) : RdAt b ds 0 0 1 :=
  ⟨Nat.zero_le _, by simp, by omega, by omega, by omega, by simp⟩
theorem take_ok {ds : List UInt8} {i d : Nat} {c : UInt8} (h : ∀ c ∈ ds.take i, dg c < 36) (hi : ds[i]? = some c) (hd : dg c = d) (h36 : d < 36) : ∀ c ∈ ds.take (i + 1), dg c < 36 := fun x hx => by
  obtain ⟨hlt, hc⟩ := List.getElem?_eq_some_iff.1 hi
  rw [List.take_succ_eq_append_getElem hlt, hc] at hx
  rcases List.mem_append.1 hx with hx | hx
  · exact h x hx
  · rw [List.mem_singleton.1 hx, hd]; exact h36
theorem RdAt.next {b : Nat} {ds : List UInt8} {i sum wt d : Nat} (h : RdAt b ds i sum wt) {c : UInt8} (hi : ds[i]? = some c) (hd : dg c = d) (h36 : d < 36) (ht : ¬ d < thr (36 * (i + 1)) b) (hs : sum + d * wt ≤ 71303168) :
    RdAt b ds (i + 1) (sum + d * wt) (wt * (36 - thr (36 * (i + 1)) b)) := by
  obtain ⟨hlt, hc⟩ := List.getElem?_eq_some_iff.1 hi
  have ht1 := thr_bd (36 * (i + 1)) b
  have hw : wt ≤ d * wt := Nat.le_mul_of_pos_left _ (by omega)
  have hw1 := h.w1
  refine ⟨hlt, ?_, hs, Nat.mul_pos h.w1 (by omega), ?_, take_ok h.ok hi hd h36⟩
  · rw [h.inv, List.drop_eq_getElem_cons hlt, hc, List.map_cons, rd, hd, if_neg ht, show 36 * (i + 1) + 36 = 36 * (i + 1 + 1) by omega, Option.map_map]
    congr 1
    funext x
    simp only [Function.comp, Prod.mk.injEq, and_true]
    rw [Nat.mul_add, Nat.mul_comm wt d, Nat.mul_assoc, Nat.add_assoc]
  · have h3 : wt * (36 - thr (36 * (i + 1)) b) ≤ wt * 35 := Nat.mul_le_mul_left _ (by omega)
    omega
theorem RdAt.last {b : Nat} {ds : List UInt8} {i sum wt d : Nat} (h : RdAt b ds i sum wt) {c : UInt8} (hi : ds[i]? = some c) (hd : dg c = d) (ht : d < thr (36 * (i + 1)) b) :
    rd 36 b (ds.map dg) = some (sum + d * wt, (ds.drop (i + 1)).map dg) := by
  obtain ⟨hlt, hc⟩ := List.getElem?_eq_some_iff.1 hi
  rw [h.inv, List.drop_eq_getElem_cons hlt, hc, List.map_cons, rd, hd, if_pos ht]
  simp only [Option.map_some, Option.some.injEq, Prod.mk.injEq, and_true]
  rw [Nat.mul_comm]
theorem rd_ge {k b d n : Nat} {ds r : List Nat} (h : rd k b (d :: ds) = some (n, r)) : d ≤ n := by
  rw [rd] at h
  split at h
  · simp only [Option.some.injEq, Prod.mk.injEq] at h; omega
  · rcases hx : rd (k + 36) b ds with _ | ⟨m, r'⟩
    · rw [hx] at h; cases h
    · rw [hx] at h
      simp only [Option.map_some, Option.some.injEq, Prod.mk.injEq] at h
      omega
/-- there is no number at the beginning, or too great a one -/
def NoNum (b : Nat) (ds : List UInt8) : Prop := ∀ n r, (∀ c ∈ ds, dg c < 36) → rd 36 b (ds.map dg) = some (n, r) → 71303168 < n
theorem RdAt.much {b : Nat} {ds : List UInt8} {i sum wt d : Nat} (h : RdAt b ds i sum wt) {c : UInt8} (hi : ds[i]? = some c) (hd : dg c = d) (hs : 71303168 < sum + d * wt) : NoNum b ds := by
  intro n r _ hr
  obtain ⟨hlt, hc⟩ := List.getElem?_eq_some_iff.1 hi
  rw [h.inv, List.drop_eq_getElem_cons hlt, hc, List.map_cons, hd] at hr
  rcases hx : rd (36 * (i + 1)) b (d :: (ds.drop (i + 1)).map dg) with _ | ⟨m, r'⟩
  · rw [hx] at hr; cases hr
  · rw [hx] at hr
    simp only [Option.map_some, Option.some.injEq, Prod.mk.injEq] at hr
    have h1 := rd_ge hx
    have h2 : wt * d ≤ wt * m := Nat.mul_le_mul_left _ h1
    rw [Nat.mul_comm d wt] at hs
    omega
theorem noNum_bad {b : Nat} {ds : List UInt8} {c : UInt8} (h : c ∈ ds) (hc : ¬ dg c < 36) : NoNum b ds := fun _ _ ha _ => absurd (ha c h) hc
theorem RdAt.none {b : Nat} {ds : List UInt8} {i sum wt : Nat} (h : RdAt b ds i sum wt) (hi : i = ds.length) : NoNum b ds := fun n r _ hr => by
  rw [h.inv, hi, List.drop_length] at hr
  cases hr
/-- what read answers -/
def RdPost (b : Nat) (ds : List UInt8) (e : Ending) : Prop :=
  (e = .returned (.tuple #[.int .i64 0, .int .i64 0]) ∧ NoNum b ds) ∨
  ∃ n u : Nat, e = .returned (.tuple #[.int .i64 n, .int .i64 u]) ∧ 1 ≤ u ∧ u ≤ ds.length ∧ n ≤ 71303168 ∧ rd 36 b (ds.map dg) = some (n, (ds.drop u).map dg) ∧ ∀ c ∈ ds.take u, dg c < 36
theorem ret_pair {a b c d : Int} (h : a = b) (h' : c = d) : Ending.returned (.tuple #[.int .i64 a, .int .i64 c]) = .returned (.tuple #[.int .i64 b, .int .i64 d]) := by rw [h, h']
theorem byte_at (s : ByteArray) (k : Nat) (h : k < s.size) : s.data.toList[k]? = some s[k] := Lib.data_getElem? s k h

set_option maxHeartbeats 1000000 in
theorem read_any (s : ByteArray) (b : Nat) (w : World) (hs : s.size ≤ 63) (hb : b ≤ 100000000000) :
    Calls Tryz.prog 101 #[.string s, .int .i64 b] w fun e w' => RdPost b s.data.toList e ∧ w = w' := by
  have hsz : s.data.toList.length = s.size := (Lib.size_eq s).symm
  go_enter Tryz.func101, Tryz.ntmps101
  go_wp2
  go_loop [6, 7, 13] (fun x y z => ∃ sum wt i : Nat, x = .int .i64 sum ∧ y = .int .i64 wt ∧ z = .int .i64 i ∧ RdAt b s.data.toList i sum wt) (fun _ _ z => s.size - (intOf z).toNat)
  case atStart => exact ⟨0, 1, 0, rfl, rfl, rfl, RdAt.start _ _⟩
  case round =>
    obtain ⟨sum, wt, i, rfl, rfl, rfl, hat⟩ := hrel
    have k1 := hat.sm
    have k2 := hat.w1
    have k3 := hat.w2
    have k4 : i ≤ s.size := by have := hat.le; omega
    have H := Lib.hid hat; clear hat
    clear hsz
    by_cases hlt : i < s.size
    · have hby := Lib.hid (byte_at s i hlt)
      by_cases h36 : dg s[i] < 36
      · obtain ⟨d, hd⟩ : ∃ d, d = dg s[i] := ⟨_, rfl⟩
        rw [← hd] at h36
        have hd' := Lib.hid hd.symm; clear hd
        obtain ⟨q, hq⟩ : ∃ q, q = d * wt := ⟨_, rfl⟩
        have hq1 : q ≤ 35 * wt := by rw [hq]; exact Nat.mul_le_mul_right _ (by omega)
        have hqi : (d : Int) * (wt : Int) = (q : Int) := by rw [hq]; simp
        have HQ := Lib.hid hq; clear hq
        obtain ⟨t, ht⟩ : ∃ t, t = thr (36 * (i + 1)) b := ⟨_, rfl⟩
        have ht1 : 1 ≤ t ∧ t ≤ 26 := by rw [ht]; exact thr_bd _ _
        obtain ⟨ht1, ht2⟩ := ht1
        have HT := Lib.hid ht.symm; clear ht
        obtain ⟨p, hp⟩ : ∃ p, p = wt * (36 - t) := ⟨_, rfl⟩
        have hp1 : p ≤ 35 * wt := by rw [hp, Nat.mul_comm]; exact Nat.mul_le_mul_right _ (by omega)
        have hpi : (wt : Int) * (36 - (t : Int)) = (p : Int) := by rw [hp, show (36 : Int) - (t : Int) = ((36 - t : Nat) : Int) by omega]; simp
        have HP := Lib.hid hp; clear hp
        by_cases hs2 : sum + q ≤ 71303168
        · by_cases hth : d < t
          · go_wp2_with fail
            refine (digit_ok _ d _ hd'.out h36).mono ?_; rintro e w' ⟨rfl, rfl⟩
            go_wp2_with fail
            refine (thr_to (36 * ((i : Int) + 1)) _ (36 * (i + 1)) b t _ HT.out (by omega) rfl (by omega) (by omega)).mono ?_; rintro e w' ⟨rfl, rfl⟩
            go_wp2
            go_ret2
            refine ⟨.inr ⟨sum + q, i + 1, ret_pair (by simp) (by simp), by omega, by rw [← Lib.size_eq]; omega, hs2, ?_, take_ok H.out.ok hby.out hd'.out h36⟩, rfl⟩
            rw [HQ.out]
            exact H.out.last hby.out hd'.out (by rw [HT.out]; exact hth)
          · go_wp2_with fail
            refine (digit_ok _ d _ hd'.out h36).mono ?_; rintro e w' ⟨rfl, rfl⟩
            go_wp2_with fail
            refine (thr_to (36 * ((i : Int) + 1)) _ (36 * (i + 1)) b t _ HT.out (by omega) rfl (by omega) (by omega)).mono ?_; rintro e w' ⟨rfl, rfl⟩
            go_wp2
            go_round
            case rel =>
              refine ⟨sum + q, p, i + 1, by simp, rfl, by simp, ?_⟩
              have := H.out.next hby.out hd'.out h36 (by rw [HT.out]; exact hth) (by rw [← HQ.out]; exact hs2)
              rwa [HT.out, ← HP.out, ← HQ.out] at this
            case measure => simp [intOf]; omega
        · go_wp2_with fail
          refine (digit_ok _ d _ hd'.out h36).mono ?_; rintro e w' ⟨rfl, rfl⟩
          go_wp2
          go_ret2
          exact ⟨.inl ⟨rfl, H.out.much hby.out hd'.out (by rw [← HQ.out]; omega)⟩, rfl⟩
      · go_wp2_with fail
        refine (digit_bad _ _ h36).mono ?_; rintro e w' ⟨rfl, rfl⟩
        go_wp2
        go_ret2
        exact ⟨.inl ⟨rfl, noNum_bad (List.mem_of_getElem? hby.out) h36⟩, rfl⟩
    · go_wp2
      go_ret2
      exact ⟨.inl ⟨rfl, H.out.none (by rw [← Lib.size_eq]; omega)⟩, rfl⟩
end Go.Proofs.YtgopjgbcnjkblaaGreatDoor
