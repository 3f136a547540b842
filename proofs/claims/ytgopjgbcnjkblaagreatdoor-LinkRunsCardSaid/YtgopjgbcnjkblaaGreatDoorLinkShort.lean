/-
  The walks of the statements' own helpers Short and right. Conditions: the link came in; the library's variable MaxLen holds some number.
-/
import Derived.Test.YtgopjgbcnjkblaaGreatDoorLinkOpen
namespace Go.Proofs.YtgopjgbcnjkblaaGreatDoor
open Go.RowKit

def AnyB (w : World) (e : Ending) (w' : World) : Prop := ∃ b : Bool, e = .returned (.bool b) ∧ Below w.heap.size w w'
set_option maxRecDepth 100000 in
set_option maxHeartbeats 1000000 in
theorem short_e {w : World} {s : Sl} (h : InL w s) : Calls Tryz.prog 19 #[.agg s.lk.toArray] w fun e w' => AnyB w e w' := by
  obtain ⟨live, gen, dA, dc, ds, df, ll, sA, sc, ns, ss, lA, lc, nl, ls, ca⟩ := s
  have hd := h.dom
  have hnd := h.nd
  simp only [Sl.dv] at hd hnd
  unfold maxLen at hnd
  clear h
  have hb0 := ((Below.refl _ w).alloc (Nat.le_refl _) (.cells #[.bool live, .int .i64 gen, .slice dA ds.length dc, .bool df, .bool ll, .slice sA ns sc, .slice lA nl lc] 31))
  have HB0 := Lib.hid hb0
  have HD0 := Lib.hid (hd.below hb0)
  clear hb0 hd
  simp only [Sl.lk]
  go_enter Tryz.func19, Tryz.ntmps19
  go_wp2
  generalize w.alloc _ = w0 at HB0 HD0 ⊢
  go_loopw [3, 20] (fun z i wr => ∃ (k : Nat) (y : Int), k ≤ ds.length ∧ i = .int .i64 k ∧ z = .int .i64 y ∧ Below w0.heap.size w0 wr) (fun _ i _ => ds.length - (intOf i).toNat)
  case atStart => exact ⟨0, _, Nat.zero_le _, rfl, rfl, Below.refl _ _⟩
  case round =>
    obtain ⟨k, y, hk, rfl, rfl, hb⟩ := hrel
    by_cases hlt : k < ds.length
    · obtain ⟨g, o, rfl, hc⟩ := (HD0.out.below hb).txt hlt
      have HB := Lib.hid hb
      clear hb
      revert hc
      generalize ds.getD k ByteArray.empty = x
      intro hc
      go_wp2
      go_roundw
      case rel => exact ⟨k + 1, _, by omega, by simp, rfl, HB.out⟩
      case measure => simp [intOf]; omega
    · obtain rfl : k = ds.length := by omega
      have HB := Lib.hid hb
      clear hb
      go_wp2
      go_ret
      exact ⟨_, rfl, HB0.out.trans (HB.out.mono HB0.out.size)⟩
set_option maxRecDepth 100000 in
set_option maxHeartbeats 2000000 in
theorem lright_e {w : World} {s : Sl} (h : InL w s) (he : Env w) : Calls Tryz.prog 9 #[.agg s.lk.toArray] w fun e w' => e = .returned (.bool (rightL s)) ∧ Below w.heap.size w w' ∧ Env w' := by
  obtain ⟨live, gen, dA, dc, ds, df, ll, sA, sc, ns, ss, lA, lc, nl, ls, ca⟩ := s
  obtain ⟨hd, hs, hl, hz, n1, n2, n3⟩ := h
  simp only [Sl.dv, Sl.sv, Sl.lv] at hd hs hl hz n1 n2 n3
  obtain ⟨cc, hcc⟩ : ∃ cc, cc = (decide (ds.length ≤ 4) && decide (ns ≤ 3) && decide (nl ≤ 4)) := ⟨_, rfl⟩
  have hR : Hid (∀ b, b = (cc && ds.all okD) → Ending.returned (.bool b) = .returned (.bool (rightL ⟨live, gen, dA, dc, ds, df, ll, sA, sc, ns, ss, lA, lc, nl, ls, ca⟩))) := Lib.hid (fun b hb => by rw [hb, hcc]; rfl)
  simp only [Sl.lk]
  have hb0 := ((Below.refl _ w).alloc (Nat.le_refl _) (.cells #[.bool live, .int .i64 gen, .slice dA ds.length dc, .bool df, .bool ll, .slice sA ns sc, .slice lA nl lc] 31))
  have HZ := Lib.hid hz
  have HB0 := Lib.hid hb0
  have HE0 := Lib.hid (he.below hb0)
  have HD0 := Lib.hid (hd.below hb0)
  clear hb0 hs hl hd hz he n2 n3
  unfold maxLen at n1
  have key : Hid (cc = true ∨ cc = false) := Lib.hid (by cases cc <;> simp)
  by_cases c1 : ds.length ≤ 4
  all_goals by_cases c2 : ns ≤ 3
  all_goals by_cases c3 : nl ≤ 4
  all_goals
    have HC := Lib.hid hcc
    simp only [c1, c2, c3, decide_true, decide_false, Bool.and_true, Bool.and_false] at HC
    clear hcc
  all_goals try replace c1 : 4 < ds.length := by omega
  all_goals try replace c2 : 3 < ns := by omega
  all_goals try replace c3 : 4 < nl := by omega
  all_goals
    go_enter Tryz.func9, Tryz.ntmps9
    go_wp2
    generalize w.alloc _ = w0 at HB0 HE0 HD0 ⊢
    go_loopw [3, 27] (fun z i wr => ∃ k : Nat, k ≤ ds.length ∧ i = .int .i64 k ∧ z = .bool (cc && (ds.take k).all okD) ∧ Below w0.heap.size w0 wr ∧ Env wr) (fun _ i _ => ds.length - (intOf i).toNat)
    case atStart => exact ⟨0, Nat.zero_le _, rfl, by first | (rw [HC.out]; rfl) | (rw [HC.out]; refine congrArg Value.bool ?_; simp; omega), Below.refl _ _, HE0.out⟩
    case round =>
      obtain ⟨k, hk, rfl, rfl, hb, hE⟩ := hrel
      by_cases hlt : k < ds.length
      · obtain ⟨g, o, rfl, hc⟩ := (HD0.out.below hb).txt hlt
        have hta := ta_l (ds.getD k ByteArray.empty) wr hE (by have := HZ.out _ (getD_mem hlt); unfold maxLen at this; omega)
        have HN : Hid (∀ b, b = ((cc && (ds.take k).all okD) && okD (ds.getD k ByteArray.empty)) → b = (cc && (ds.take (k + 1)).all okD)) := Lib.hid (fun b hb => by
          rw [hb, List.take_succ_eq_append_getElem hlt, List.all_append, List.getD, List.getElem?_eq_getElem hlt]; simp [Bool.and_assoc])
        have HB := Lib.hid hb
        clear hb hE
        revert hc hta HN
        generalize ds.getD k ByteArray.empty = x
        generalize (cc && (ds.take k).all okD) = pp
        intro hc hta HN
        go_wp2_with fail
        refine hta.mono ?_; rintro e w1 ⟨n, t, rfl, hb1, hE1, hT⟩
        clear hta hc
        have HB1 := Lib.hid (HB.out.trans (hb1.mono HB.out.size))
        have HE1 := Lib.hid hE1
        have HK : Hid (okD x = ((x.toList == [46]) || (((n : Int) == 0) && (t.toList == x.toList)))) := Lib.hid (by
          unfold okD
          congr 1
          by_cases hn : n = 0
          · subst hn
            by_cases ht : t = x
            · subst ht; rw [taB_yes hT.out]; simp
            · rw [taB_no (fun h => ht (bytes_inj (hT.out.det h).2)), bytes_un ht]; simp
          · rw [taB_no (fun h => hn (hT.out.det h).1)]
            have : ((n : Int) == 0) = false := by simpa using hn
            rw [this]; rfl)
        clear hb1 hE1 hT
        cases pp
        · have HF := Lib.hid (HN.out false (by simp))
          go_wp2
          go_roundw
          case rel => exact ⟨k + 1, by omega, by simp, by rw [← HF.out], HB1.out, HE1.out⟩
          case measure => simp [intOf]; omega
        · cases hq : (x.toList == [46])
          · rw [hq] at HK
            cases hn : ((n : Int) == 0)
            · rw [hn] at HK
              have HF := Lib.hid (HN.out false (by rw [HK.out]; rfl))
              go_wp2
              go_roundw
              case rel => exact ⟨k + 1, by omega, by simp, by rw [← HF.out], HB1.out, HE1.out⟩
              case measure => simp [intOf]; omega
            · rw [hn] at HK
              have HF := Lib.hid (HN.out (t.toList == x.toList) (by rw [HK.out]; rfl))
              go_wp2
              go_roundw
              case rel => exact ⟨k + 1, by omega, by simp, by rw [← HF.out], HB1.out, HE1.out⟩
              case measure => simp [intOf]; omega
          · rw [hq] at HK
            have HF := Lib.hid (HN.out true (by rw [HK.out]; rfl))
            go_wp2
            go_roundw
            case rel => exact ⟨k + 1, by omega, by simp, by rw [← HF.out], HB1.out, HE1.out⟩
            case measure => simp [intOf]; omega
      · obtain rfl : k = ds.length := by omega
        rw [List.take_length]
        have HB := Lib.hid hb
        have HE := Lib.hid hE
        clear hb hE
        go_wp2
        go_ret
        exact ⟨hR.out _ rfl, HB0.out.trans (HB.out.mono HB0.out.size), HE.out⟩
end Go.Proofs.YtgopjgbcnjkblaaGreatDoor
