/-
  slices.symMergeCmpFunc where one half has one element, walked. Condition: both halves are sorted.
-/
import Derived.Test.YtoaedlllnkcfnaaDoorRankSym
import Derived.Test.YtoaedlllnkcfnaaDoorRankBub
namespace Go.Proofs.YtoaedlllnkcfnaaDoor
open Go.Shelf Go.RowKit Go.Lib Go.Sort Go.Proofs

set_option maxRecDepth 100000 in
set_option maxHeartbeats 4000000 in
theorem symLo_e {α : Type} [Inhabited α] (enc : α → Value) (g : Nat) (cb : Array Value) (cf : α → α → Int) (lb : α → α → Bool) (hS : SWO lb) (C : α → α → Prop) (hlb : ∀ x y, C x y → decide (cf y x < 0) = lb y x)
    (blk off cap N : Nat) (d0 : Array α) (w0 : World) (R : Row1 enc w0 blk off d0) (hs : d0.size = N) (hcmp : CmpLays1 Tryd.prog g cb enc cf blk off d0.size w0)
    (eg : ∀ args w, (callFunc g args).run Tryd.prog w = .ok (.enter g args) w) (hsz : N < 4611686018427387904)
    (a m b : Nat) (ha : m = a + 1) (hm : m < b) (hb : b ≤ N) :
    SymAns enc (.func (.func g) #[] cb) lb C blk off cap N w0 a m b := by
  intro d w hd S q1 q2 q3
  have hcl0 := R.hO.cells
  simp only [Value.cells] at hcl0
  have hst := R.hO.store Tryd.prog
  have mixed : Tryd.prog.follows .mixedOrders = true := by kernel_rfl
  have S0 : Aside (SW enc w0 blk off d w) := S
  have Q : Aside (SortedIn lb a m d ∧ SortedIn lb m b d ∧ ∀ i j, a ≤ i → i < m → m ≤ j → j < b → C d[i]! d[j]!) := ⟨q1, q2, q3⟩
  have HC : Aside _ := hcmp
  have HLB : Aside _ := hlb
  have HS : Aside _ := hS
  have hd0 : Aside (d.size = N) := hd
  clear S q1 q2 q3 hcmp hlb hS hd
  have s1 : (m : Int) - (a : Int) = 1 := by omega
  have HA : Aside (m = a + 1) := ha
  have hma : a < m := by omega
  clear ha
  go_enter Tryd.func40, Tryd.ntmps40
  go_wp2_with fail
  clear s1
  go_loopg [10, 11] N (fun kx s10 s11 wr => ∃ (i j : Nat), s10 = .int .i64 i ∧ s11 = .int .i64 j ∧ Aside (m ≤ i ∧ i ≤ j ∧ j ≤ b ∧ j - i ≤ kx) ∧ Aside ((m < i → lb d[i - 1]! d[a]! = true) ∧ (j < b → lb d[j]! d[a]! = false)) ∧ Aside (SW enc w0 blk off d wr))
  case atStart => exact ⟨m, b, rfl, rfl, ⟨by omega, by omega, by omega, by omega⟩, ⟨fun h => by omega, fun h => by omega⟩, S0⟩
  case round =>
    clear S0
    obtain ⟨i, j, rfl, rfl, hB, hF, S1⟩ := hrel
    by_cases hlt : i < j
    · have hltI : (i : Int) < (j : Int) := by omega
      obtain ⟨q, hq⟩ : ∃ x, x = i + j := ⟨_, rfl⟩
      obtain ⟨c, hc⟩ : ∃ x : Nat, 2 * x ≤ q ∧ q ≤ 2 * x + 1 := ⟨q / 2, by omega⟩
      have hc0 : i ≤ c ∧ c < j := by omega
      have hbb := hB.out
      have t1 : (i : Int) + (j : Int) = (q : Int) := by omega
      have u1 : IntKind.i64.wrap (q : Int) = (q : Int) := by rw [IntKind.wrap_i64]; omega
      have u2 : IntKind.u64.wrap (q : Int) = (q : Int) := by rw [IntKind.wrap_u64]; omega
      have t2 : (q : Int) / 2 = (c : Int) := by omega
      have u3 : IntKind.i64.wrap (c : Int) = (c : Int) := by rw [IntKind.wrap_i64]; omega
      have u4 : IntKind.i64.wrap ((c : Int) + 1) = (c : Int) + 1 := by rw [IntKind.wrap_i64]; omega
      have b1 : (c : Int) < (N : Int) := by omega
      have b2 : (a : Int) < (N : Int) := by omega
      have b3 : (0 : Int) ≤ (c : Int) := by omega
      have b4 : (0 : Int) ≤ (a : Int) := by omega
      obtain ⟨x, hx⟩ : ∃ x, x = d[c]! := ⟨_, rfl⟩
      obtain ⟨y, hy⟩ : ∃ y, y = d[a]! := ⟨_, rfl⟩
      have l1 := S1.out.cl R (by have := hd0.out; omega) c (by have := hd0.out; omega)
      have l2 := S1.out.cl R (by have := hd0.out; omega) a (by have := hd0.out; omega)
      rw [← hx] at l1
      rw [← hy] at l2
      have hc := S1.out.cmp HC.out (by have := hd0.out; omega) x y
      have hv : decide (cf x y < 0) = lb x y := HLB.out y x (by rw [hx, hy]; exact Q.out.2.2 a c (by omega) (by omega) (by omega) (by omega))
      have HXY : Aside (x = d[c]! ∧ y = d[a]!) := ⟨hx, hy⟩
      have HC0 : Aside (i ≤ c ∧ c < j) := hc0
      clear hx hy hq hc0 hbb
      cases hb0 : lb x y with
      | true =>
        rw [hb0] at hv
        have hv0 : cf x y < 0 := of_decide_eq_true hv
        go_wp2_with fail
        go_quiet_grown (first | (go_at_fn g; refine Calls.grown_of (hc _ _)))
        have S2 : Aside (SW enc w0 blk off d (grow (wr.drewN nq) osq)) := S1.out.grown nq osq
        clear l1 l2 hc S1
        generalize grow (wr.drewN nq) osq = w2 at S2 ⊢
        clear nq osq
        go_wp2_with fail
        go_roundg (j - (c + 1))
        case measure => have := hB.out; have := HC0.out; omega
        case rel => exact ⟨c + 1, j, by go_num, rfl, by have := hB.out; have := HC0.out; show _ ∧ _ ∧ _ ∧ _; omega, ⟨fun _ => by rw [Nat.add_sub_cancel, ← HXY.out.1, ← HXY.out.2]; exact hb0, hF.out.2⟩, S2⟩
      | false =>
        rw [hb0] at hv
        have hv0 : ¬ cf x y < 0 := of_decide_eq_false hv
        go_wp2_with fail
        go_quiet_grown (first | (go_at_fn g; refine Calls.grown_of (hc _ _)))
        have S2 : Aside (SW enc w0 blk off d (grow (wr.drewN nq) osq)) := S1.out.grown nq osq
        clear l1 l2 hc S1
        generalize grow (wr.drewN nq) osq = w2 at S2 ⊢
        clear nq osq
        go_wp2_with fail
        go_roundg (c - i)
        case measure => have := hB.out; have := HC0.out; omega
        case rel => exact ⟨i, c, rfl, rfl, by have := hB.out; have := HC0.out; show _ ∧ _ ∧ _ ∧ _; omega, ⟨hF.out.1, fun _ => by rw [← HXY.out.1, ← HXY.out.2]; exact hb0⟩, S2⟩
    · have hij : i = j := by have := hB.out; omega
      subst hij
      have hltI : ¬ (i : Int) < (i : Int) := by omega
      obtain ⟨T, hT⟩ : ∃ T, T = i - 1 := ⟨_, rfl⟩
      have hbb := hB.out
      have t1 : (i : Int) - 1 = (T : Int) := by omega
      have u1 : IntKind.i64.wrap (T : Int) = (T : Int) := by rw [IntKind.wrap_i64]; omega
      have HSo : Aside (PermIn a b d (bub (T - a) a d) ∧ SortedIn lb a b (bub (T - a) a d)) := by
        have hdn := hd0.out
        refine ⟨bub_perm a b _ _ d (Nat.le_refl _) (by omega) (by omega), ?_⟩
        rw [hT]
        have h2 := Q.out.2.1
        have ha := HA.out
        rw [ha] at h2
        exact bub_sorted HS.out h2 (by omega) hbb.2.2.1 (by omega) (fun h => hF.out.1 (by omega)) (fun h => hF.out.2 h)
      have HT : Aside (a ≤ T ∧ T < b) := ⟨by omega, by omega⟩
      clear hT hF hB hbb HC HLB HS Q
      go_wp2_with fail
      clear hltI
      go_loopg [13] (T - a) (fun kx s13 wx => ∃ (k : Nat) (dk : Array α), s13 = .int .i64 k ∧ Aside (a ≤ k ∧ k + kx = T) ∧ Aside (dk.size = N) ∧ Aside (SW enc w0 blk off dk wx) ∧ Aside (bub kx k dk = bub (T - a) a d))
      case atStart => exact ⟨a, d, rfl, ⟨Nat.le_refl _, by have := HT.out; omega⟩, hd0, S1, rfl⟩
      case round =>
        clear S1
        obtain ⟨k, dk, rfl, hk, hds, S2, heq⟩ := hrel
        have hkk := hk.out
        have htt := HT.out
        have hdn := hds.out
        by_cases hlt2 : (k : Int) < (T : Int)
        · obtain ⟨g2, rfl⟩ : ∃ g, gk = g + 1 := ⟨gk - 1, by omega⟩
          obtain ⟨q, hq⟩ : ∃ q : Nat, q = k + 1 := ⟨_, rfl⟩
          have sq : (k : Int) + 1 = (q : Int) := by omega
          have wq1 : IntKind.i64.wrap (q : Int) = (q : Int) := by rw [IntKind.wrap_i64]; omega
          have bp1 : (k : Int) < (N : Int) := by omega
          have bq1 : (q : Int) < (N : Int) := by omega
          have pp1 : (0 : Int) ≤ (k : Int) := by omega
          have pq1 : (0 : Int) ≤ (q : Int) := by omega
          obtain ⟨x, hx⟩ : ∃ x, x = dk[k]! := ⟨_, rfl⟩
          obtain ⟨y, hy⟩ : ∃ x, x = dk[q]! := ⟨_, rfl⟩
          have S3 : Aside (SW enc w0 blk off (swp dk k q) ((wr.setCell ⟨blk, off + k, none⟩ (enc y)).setCell ⟨blk, off + q, none⟩ (enc x)).drew) := by rw [hx, hy]; exact S2.out.swapped R k q (by omega) (by omega)
          have ca := S2.out.c1 R (by omega) k (by omega)
          have cb2 := S2.out.c1 R (by omega) q (by omega)
          have fa := S2.out.f1 R (by omega) k (by omega)
          have fb := S2.out.f1 R (by omega) q (by omega)
          obtain ⟨u, cc⟩ := S2.out.c2 R (by omega) k q (by omega) (by omega) (enc y)
          rw [← hx] at ca
          rw [← hy] at cb2
          have HQ2 : Aside (q = k + 1) := hq
          have heq2 : Aside (bub g2 q (swp dk k q) = bub (T - a) a d) := by rw [hq]; exact heq.out
          have HK2 : Aside (a ≤ q ∧ q + g2 = T) := by refine ⟨?_, ?_⟩ <;> omega
          have HD2 : Aside ((swp dk k q).size = N) := (size_swp _ _ _).trans hdn
          clear S2 hx hy heq hq hkk htt hdn hk hds
          go_wp2_with fail
          go_big_region_o
          clear ca cb2 cc fa fb
          generalize ((wr.setCell ⟨blk, off + k, none⟩ (enc y)).setCell ⟨blk, off + q, none⟩ (enc x)).drew = w2 at S3 ⊢
          go_wp2_with fail
          go_roundg g2
          case measure => omega
          case rel => exact ⟨q, swp dk k q, by first | rfl | go_num, HK2, HD2, S3, heq2⟩
        · obtain rfl : gk = 0 := by omega
          have hx := heq.out
          rw [bub] at hx
          have HR3 : Aside (PermIn a b d dk ∧ SortedIn lb a b dk ∧ SW enc w0 blk off dk wr) := by rw [hx]; rw [hx] at S2; exact ⟨HSo.out.1, HSo.out.2, S2.out⟩
          clear hx
          go_wp2_with fail
          (try simp only [Exit.inBlock, Exit.then]); refine bodyPost_ret (results_none rfl _ _ _) rfl ?_
          exact ⟨rfl, dk, HR3.out⟩
set_option maxRecDepth 100000 in
set_option maxHeartbeats 4000000 in
theorem symHi_e {α : Type} [Inhabited α] (enc : α → Value) (g : Nat) (cb : Array Value) (cf : α → α → Int) (lb : α → α → Bool) (hS : SWO lb) (C : α → α → Prop) (hlb : ∀ x y, C x y → decide (cf y x < 0) = lb y x)
    (blk off cap N : Nat) (d0 : Array α) (w0 : World) (R : Row1 enc w0 blk off d0) (hs : d0.size = N) (hcmp : CmpLays1 Tryd.prog g cb enc cf blk off d0.size w0)
    (eg : ∀ args w, (callFunc g args).run Tryd.prog w = .ok (.enter g args) w) (hsz : N < 4611686018427387904)
    (a m b : Nat) (ha : a + 1 < m) (hm : b = m + 1) (hb : b ≤ N) :
    SymAns enc (.func (.func g) #[] cb) lb C blk off cap N w0 a m b := by
  intro d w hd S q1 q2 q3
  have hcl0 := R.hO.cells
  simp only [Value.cells] at hcl0
  have hst := R.hO.store Tryd.prog
  have mixed : Tryd.prog.follows .mixedOrders = true := by kernel_rfl
  have S0 : Aside (SW enc w0 blk off d w) := S
  have Q : Aside (SortedIn lb a m d ∧ SortedIn lb m b d ∧ ∀ i j, a ≤ i → i < m → m ≤ j → j < b → C d[i]! d[j]!) := ⟨q1, q2, q3⟩
  have HC : Aside _ := hcmp
  have HLB : Aside _ := hlb
  have HS : Aside _ := hS
  have hd0 : Aside (d.size = N) := hd
  clear S q1 q2 q3 hcmp hlb hS hd
  obtain ⟨la, hla⟩ : ∃ x, x = m - a := ⟨_, rfl⟩
  have s1 : (m : Int) - (a : Int) = (la : Int) := by omega
  have v1 : IntKind.i64.wrap (la : Int) = (la : Int) := by rw [IntKind.wrap_i64]; omega
  have n1 : ¬ (la : Int) = 1 := by omega
  have e1 : ((la : Int) == 1) = false := beq_eq_false_iff_ne.2 n1
  have s2 : (b : Int) - (m : Int) = 1 := by omega
  have HM : Aside (b = m + 1) := hm
  have hmb : m < b := by omega
  clear hla hm
  go_enter Tryd.func40, Tryd.ntmps40
  go_wp2_with fail
  clear s1 v1 n1 s2
  go_loopg [14, 15] N (fun kx s14 s15 wr => ∃ (i j : Nat), s14 = .int .i64 i ∧ s15 = .int .i64 j ∧ Aside (a ≤ i ∧ i ≤ j ∧ j ≤ m ∧ j - i ≤ kx) ∧ Aside ((a < i → lb d[m]! d[i - 1]! = false) ∧ (j < m → lb d[m]! d[j]! = true)) ∧ Aside (SW enc w0 blk off d wr))
  case atStart => exact ⟨a, m, rfl, rfl, ⟨by omega, by omega, by omega, by omega⟩, ⟨fun h => by omega, fun h => by omega⟩, S0⟩
  case round =>
    clear S0
    obtain ⟨i, j, rfl, rfl, hB, hF, S1⟩ := hrel
    by_cases hlt : i < j
    · have hltI : (i : Int) < (j : Int) := by omega
      obtain ⟨q, hq⟩ : ∃ x, x = i + j := ⟨_, rfl⟩
      obtain ⟨c, hc⟩ : ∃ x : Nat, 2 * x ≤ q ∧ q ≤ 2 * x + 1 := ⟨q / 2, by omega⟩
      have hc0 : i ≤ c ∧ c < j := by omega
      have hbb := hB.out
      have t1 : (i : Int) + (j : Int) = (q : Int) := by omega
      have u1 : IntKind.i64.wrap (q : Int) = (q : Int) := by rw [IntKind.wrap_i64]; omega
      have u2 : IntKind.u64.wrap (q : Int) = (q : Int) := by rw [IntKind.wrap_u64]; omega
      have t2 : (q : Int) / 2 = (c : Int) := by omega
      have u3 : IntKind.i64.wrap (c : Int) = (c : Int) := by rw [IntKind.wrap_i64]; omega
      have u4 : IntKind.i64.wrap ((c : Int) + 1) = (c : Int) + 1 := by rw [IntKind.wrap_i64]; omega
      have b1 : (c : Int) < (N : Int) := by omega
      have b2 : (m : Int) < (N : Int) := by omega
      have b3 : (0 : Int) ≤ (c : Int) := by omega
      have b4 : (0 : Int) ≤ (m : Int) := by omega
      obtain ⟨x, hx⟩ : ∃ x, x = d[m]! := ⟨_, rfl⟩
      obtain ⟨y, hy⟩ : ∃ y, y = d[c]! := ⟨_, rfl⟩
      have l1 := S1.out.cl R (by have := hd0.out; omega) m (by have := hd0.out; omega)
      have l2 := S1.out.cl R (by have := hd0.out; omega) c (by have := hd0.out; omega)
      rw [← hx] at l1
      rw [← hy] at l2
      have hc := S1.out.cmp HC.out (by have := hd0.out; omega) x y
      have hv : decide (cf x y < 0) = lb x y := HLB.out y x (by rw [hx, hy]; exact Q.out.2.2 c m (by omega) (by omega) (by omega) (by omega))
      have HXY : Aside (x = d[m]! ∧ y = d[c]!) := ⟨hx, hy⟩
      have HC0 : Aside (i ≤ c ∧ c < j) := hc0
      clear hx hy hq hc0 hbb
      cases hb0 : lb x y with
      | true =>
        rw [hb0] at hv
        have hv0 : cf x y < 0 := of_decide_eq_true hv
        go_wp2_with fail
        go_quiet_grown (first | (go_at_fn g; refine Calls.grown_of (hc _ _)))
        have S2 : Aside (SW enc w0 blk off d (grow (wr.drewN nq) osq)) := S1.out.grown nq osq
        clear l1 l2 hc S1
        generalize grow (wr.drewN nq) osq = w2 at S2 ⊢
        clear nq osq
        go_wp2_with fail
        go_roundg (c - i)
        case measure => have := hB.out; have := HC0.out; omega
        case rel => exact ⟨i, c, rfl, rfl, by have := hB.out; have := HC0.out; show _ ∧ _ ∧ _ ∧ _; omega, ⟨hF.out.1, fun _ => by rw [← HXY.out.1, ← HXY.out.2]; exact hb0⟩, S2⟩
      | false =>
        rw [hb0] at hv
        have hv0 : ¬ cf x y < 0 := of_decide_eq_false hv
        go_wp2_with fail
        go_quiet_grown (first | (go_at_fn g; refine Calls.grown_of (hc _ _)))
        have S2 : Aside (SW enc w0 blk off d (grow (wr.drewN nq) osq)) := S1.out.grown nq osq
        clear l1 l2 hc S1
        generalize grow (wr.drewN nq) osq = w2 at S2 ⊢
        clear nq osq
        go_wp2_with fail
        go_roundg (j - (c + 1))
        case measure => have := hB.out; have := HC0.out; omega
        case rel => exact ⟨c + 1, j, by go_num, rfl, by have := hB.out; have := HC0.out; show _ ∧ _ ∧ _ ∧ _; omega, ⟨fun _ => by rw [Nat.add_sub_cancel, ← HXY.out.1, ← HXY.out.2]; exact hb0, hF.out.2⟩, S2⟩
    · have hij : i = j := by have := hB.out; omega
      subst hij
      have hltI : ¬ (i : Int) < (i : Int) := by omega
      have hbb := hB.out
      have HSo : Aside (PermIn a b d (dbub (m - i) m d) ∧ SortedIn lb a b (dbub (m - i) m d)) := by
        have hdn := hd0.out
        have hm := HM.out
        refine ⟨dbub_perm a b _ _ d (by omega) (by omega) (by omega), ?_⟩
        rw [hm]
        exact dbub_sorted HS.out Q.out.1 (by omega) hbb.2.2.1 (by omega) (fun h => hF.out.1 h) (fun h => hF.out.2 h)
      have HT : Aside (a ≤ i ∧ i ≤ m ∧ m < N) := ⟨by omega, by omega, by omega⟩
      clear hF hB hbb HC HLB HS Q
      go_wp2_with fail
      clear hltI
      go_loopg [17] (m - i) (fun kx s17 wx => ∃ (k : Nat) (dk : Array α), s17 = .int .i64 k ∧ Aside (k ≤ m ∧ i + kx = k) ∧ Aside (dk.size = N) ∧ Aside (SW enc w0 blk off dk wx) ∧ Aside (dbub kx k dk = dbub (m - i) m d))
      case atStart => exact ⟨m, d, rfl, ⟨Nat.le_refl _, by have := HT.out; omega⟩, hd0, S1, rfl⟩
      case round =>
        clear S1
        obtain ⟨k, dk, rfl, hk, hds, S2, heq⟩ := hrel
        have hkk := hk.out
        have htt := HT.out
        have hdn := hds.out
        by_cases hlt2 : (i : Int) < (k : Int)
        · obtain ⟨g2, rfl⟩ : ∃ g, gk = g + 1 := ⟨gk - 1, by omega⟩
          obtain ⟨q, hq⟩ : ∃ q : Nat, q = k - 1 := ⟨_, rfl⟩
          have sq : (k : Int) - 1 = (q : Int) := by omega
          have wq1 : IntKind.i64.wrap (q : Int) = (q : Int) := by rw [IntKind.wrap_i64]; omega
          have bp1 : (k : Int) < (N : Int) := by omega
          have bq1 : (q : Int) < (N : Int) := by omega
          have pp1 : (0 : Int) ≤ (k : Int) := by omega
          have pq1 : (0 : Int) ≤ (q : Int) := by omega
          obtain ⟨x, hx⟩ : ∃ x, x = dk[k]! := ⟨_, rfl⟩
          obtain ⟨y, hy⟩ : ∃ x, x = dk[q]! := ⟨_, rfl⟩
          have S3 : Aside (SW enc w0 blk off (swp dk k q) ((wr.setCell ⟨blk, off + k, none⟩ (enc y)).setCell ⟨blk, off + q, none⟩ (enc x)).drew) := by rw [hx, hy]; exact S2.out.swapped R k q (by omega) (by omega)
          have ca := S2.out.c1 R (by omega) k (by omega)
          have cb2 := S2.out.c1 R (by omega) q (by omega)
          have fa := S2.out.f1 R (by omega) k (by omega)
          have fb := S2.out.f1 R (by omega) q (by omega)
          obtain ⟨u, cc⟩ := S2.out.c2 R (by omega) k q (by omega) (by omega) (enc y)
          rw [← hx] at ca
          rw [← hy] at cb2
          have heq2 : Aside (dbub g2 q (swp dk k q) = dbub (m - i) m d) := by rw [hq]; exact heq.out
          have HK2 : Aside (q ≤ m ∧ i + g2 = q) := by refine ⟨?_, ?_⟩ <;> omega
          have HD2 : Aside ((swp dk k q).size = N) := (size_swp _ _ _).trans hdn
          clear S2 hx hy heq hq hkk htt hdn hk hds
          go_wp2_with fail
          go_big_region_o
          clear ca cb2 cc fa fb
          generalize ((wr.setCell ⟨blk, off + k, none⟩ (enc y)).setCell ⟨blk, off + q, none⟩ (enc x)).drew = w2 at S3 ⊢
          go_wp2_with fail
          go_roundg g2
          case measure => omega
          case rel => exact ⟨q, swp dk k q, by first | rfl | go_num, HK2, HD2, S3, heq2⟩
        · obtain rfl : gk = 0 := by omega
          have hx := heq.out
          rw [dbub] at hx
          have HR3 : Aside (PermIn a b d dk ∧ SortedIn lb a b dk ∧ SW enc w0 blk off dk wr) := by rw [hx]; rw [hx] at S2; exact ⟨HSo.out.1, HSo.out.2, S2.out⟩
          clear hx
          go_wp2_with fail
          (try simp only [Exit.inBlock, Exit.then]); refine bodyPost_ret (results_none rfl _ _ _) rfl ?_
          exact ⟨rfl, dk, HR3.out⟩
/-- the merge, whatever the halves' lengths -/
theorem sym_e {α : Type} [Inhabited α] (enc : α → Value) (g : Nat) (cb : Array Value) (cf : α → α → Int) (lb : α → α → Bool) (hS : SWO lb) (C : α → α → Prop) (hlb : ∀ x y, C x y → decide (cf y x < 0) = lb y x)
    (blk off cap N : Nat) (d0 : Array α) (w0 : World) (R : Row1 enc w0 blk off d0) (hs : d0.size = N) (hcmp : CmpLays1 Tryd.prog g cb enc cf blk off d0.size w0)
    (eg : ∀ args w, (callFunc g args).run Tryd.prog w = .ok (.enter g args) w) (hsz : N < 4611686018427387904) :
    ∀ n a m b, b - a ≤ n → a < m → m < b → b ≤ N → SymAns enc (.func (.func g) #[] cb) lb C blk off cap N w0 a m b := by
  intro n
  induction n with
  | zero => intro a m b h1 h2 h3; omega
  | succ n ih =>
    intro a m b h1 h2 h3 h4
    by_cases e1 : m = a + 1
    · exact symLo_e enc g cb cf lb hS C hlb blk off cap N d0 w0 R hs hcmp eg hsz a m b e1 h3 h4
    · by_cases e2 : b = m + 1
      · exact symHi_e enc g cb cf lb hS C hlb blk off cap N d0 w0 R hs hcmp eg hsz a m b (by omega) e2 h4
      · exact symGen_e enc g cb cf lb hS C hlb blk off cap N d0 w0 R hs hcmp eg hsz a m b (by omega) (by omega) h4 (fun a' m' b' x y z u => ih a' m' b' (by omega) x y z)
end Go.Proofs.YtoaedlllnkcfnaaDoor
