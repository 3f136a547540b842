/-
  slices.symMergeCmpFunc, the general case, walked. Condition: both halves are sorted and have two elements or more.
-/
import Derived.Test.YtoaedlllnkcfnaaDoorRankSymMath
import Derived.Deep.CutRange
namespace Go.Proofs.YtoaedlllnkcfnaaDoor
open Go.Shelf Go.RowKit Go.Lib Go.Sort Go.Proofs

/-- what the merge of two sorted halves answers -/
def SymAns {α : Type} [Inhabited α] (enc : α → Value) (f : Value) (lb : α → α → Bool) (C : α → α → Prop) (blk off cap N : Nat) (w0 : World) (a m b : Nat) : Prop :=
  ∀ (d : Array α) (w : World), d.size = N → SW enc w0 blk off d w → SortedIn lb a m d → SortedIn lb m b d → (∀ i j, a ≤ i → i < m → m ≤ j → j < b → C d[i]! d[j]!) →
    Calls Tryd.prog 40 #[.slice (some ⟨blk, off, none⟩) N cap, .int .i64 a, .int .i64 m, .int .i64 b, f] w fun e w' => e = .returned (.tuple #[]) ∧ ∃ d', PermIn a b d d' ∧ SortedIn lb a b d' ∧ SW enc w0 blk off d' w'
theorem sym_bounds {a s mid m e b s0 r0 : Nat} (hmid : 2 * mid ≤ a + b ∧ a + b ≤ 2 * mid + 1) (hs0 : s0 = if mid < m then mid + m - b else a) (hr0 : r0 = if mid < m then mid else m) (h1 : s0 ≤ s) (h2 : s ≤ r0) (he : e + s = mid + m) :
    s ≤ m ∧ m ≤ e ∧ e ≤ b ∧ a ≤ s ∧ s ≤ mid ∧ mid ≤ e := by split at hs0 <;> split at hr0 <;> omega
set_option maxRecDepth 100000 in
set_option maxHeartbeats 8000000 in
theorem symGen_e {α : Type} [Inhabited α] (enc : α → Value) (g : Nat) (cb : Array Value) (cf : α → α → Int) (lb : α → α → Bool) (hS : SWO lb) (C : α → α → Prop) (hlb : ∀ x y, C x y → decide (cf y x < 0) = lb y x)
    (blk off cap N : Nat) (d0 : Array α) (w0 : World) (R : Row1 enc w0 blk off d0) (hs : d0.size = N) (hcmp : CmpLays1 Tryd.prog g cb enc cf blk off d0.size w0)
    (eg : ∀ args w, (callFunc g args).run Tryd.prog w = .ok (.enter g args) w) (hsz : N < 4611686018427387904)
    (a m b : Nat) (ha : a + 1 < m) (hm : m + 1 < b) (hb : b ≤ N) (IH : ∀ a' m' b', a' < m' → m' < b' → b' ≤ N → b' - a' < b - a → SymAns enc (.func (.func g) #[] cb) lb C blk off cap N w0 a' m' b') :
    SymAns enc (.func (.func g) #[] cb) lb C blk off cap N w0 a m b := by
  intro d w hd S q1 q2 q3
  have hcl0 := R.hO.cells
  simp only [Value.cells] at hcl0
  have hst := R.hO.store Tryd.prog
  have mixed : Tryd.prog.follows .mixedOrders = true := by kernel_rfl
  have S0 : Aside (SW enc w0 blk off d w) := S
  have Q : Aside (SortedIn lb a m d ∧ SortedIn lb m b d ∧ ∀ i j, a ≤ i → i < m → m ≤ j → j < b → C d[i]! d[j]!) := ⟨q1, q2, q3⟩
  have HC : Aside _ := hcmp
  have HIH : Aside _ := IH
  have HLB : Aside _ := hlb
  have HS : Aside _ := hS
  clear S q1 q2 q3 hcmp IH hlb hS
  obtain ⟨la, hla⟩ : ∃ x, x = m - a := ⟨_, rfl⟩
  obtain ⟨lr, hlr⟩ : ∃ x, x = b - m := ⟨_, rfl⟩
  obtain ⟨ab, hab⟩ : ∃ x, x = a + b := ⟨_, rfl⟩
  have s1 : (m : Int) - (a : Int) = (la : Int) := by omega
  have v1 : IntKind.i64.wrap (la : Int) = (la : Int) := by rw [IntKind.wrap_i64]; omega
  have n1 : ¬ (la : Int) = 1 := by omega
  have e1 : ((la : Int) == 1) = false := beq_eq_false_iff_ne.2 n1
  have s2 : (b : Int) - (m : Int) = (lr : Int) := by omega
  have v2 : IntKind.i64.wrap (lr : Int) = (lr : Int) := by rw [IntKind.wrap_i64]; omega
  have n2 : ¬ (lr : Int) = 1 := by omega
  have e2 : ((lr : Int) == 1) = false := beq_eq_false_iff_ne.2 n2
  have s3 : (a : Int) + (b : Int) = (ab : Int) := by omega
  have v3 : IntKind.i64.wrap (ab : Int) = (ab : Int) := by rw [IntKind.wrap_i64]; omega
  have v4 : IntKind.u64.wrap (ab : Int) = (ab : Int) := by rw [IntKind.wrap_u64]; omega
  obtain ⟨mid, hmid⟩ : ∃ x : Nat, 2 * x ≤ ab ∧ ab ≤ 2 * x + 1 := ⟨ab / 2, by omega⟩
  have s4 : (ab : Int) / 2 = (mid : Int) := by omega
  have v5 : IntKind.i64.wrap (mid : Int) = (mid : Int) := by rw [IntKind.wrap_i64]; omega
  obtain ⟨n, hn⟩ : ∃ x, x = mid + m := ⟨_, rfl⟩
  have s5 : (mid : Int) + (m : Int) = (n : Int) := by omega
  have v6 : IntKind.i64.wrap (n : Int) = (n : Int) := by rw [IntKind.wrap_i64]; omega
  obtain ⟨p, hp⟩ : ∃ x, x = n - 1 := ⟨_, rfl⟩
  have s6 : (n : Int) - 1 = (p : Int) := by omega
  have v7 : IntKind.i64.wrap (p : Int) = (p : Int) := by rw [IntKind.wrap_i64]; omega
  obtain ⟨s0, hs0⟩ : ∃ x, x = if mid < m then mid + m - b else a := ⟨_, rfl⟩
  obtain ⟨r0, hr0⟩ : ∃ x, x = if mid < m then mid else m := ⟨_, rfl⟩
  have HSR : Aside (s0 = (if mid < m then mid + m - b else a) ∧ r0 = (if mid < m then mid else m)) := ⟨hs0, hr0⟩
  have HM : Aside (la = m - a ∧ lr = b - m ∧ ab = a + b ∧ (2 * mid ≤ ab ∧ ab ≤ 2 * mid + 1) ∧ n = mid + m ∧ p = n - 1) := ⟨hla, hlr, hab, hmid, hn, hp⟩
  have HI : Aside ((n : Int) - (b : Int) = (s0 : Int) ∨ ¬ mid < m) := by
    by_cases h : mid < m
    · rw [if_pos h] at hs0
      exact .inl (by omega)
    · exact .inr h
  have v8 : IntKind.i64.wrap (s0 : Int) = (s0 : Int) := by rw [IntKind.wrap_i64]; split at hs0 <;> omega
  have HB : Aside (s0 ≤ r0 ∧ a ≤ s0 ∧ r0 ≤ m ∧ ∀ c, s0 ≤ c → c < r0 → a ≤ c ∧ c < m ∧ m ≤ p - c ∧ p - c < b ∧ c ≤ p) := by
    split at hs0 <;> split at hr0 <;> refine ⟨by omega, by omega, by omega, fun c h1 h2 => ?_⟩ <;> refine ⟨?_, ?_, ?_, ?_, ?_⟩ <;> omega
  clear hla hlr hab hmid hn hp hs0 hr0
  by_cases hmm : mid < m
  all_goals
    first
    | have hmI : (mid : Int) < (m : Int) := by omega
    | have hmI : ¬ (mid : Int) < (m : Int) := by omega
    have hd0 : Aside (d.size = N) := hd
    clear hd
  case pos =>
    have s7 : (n : Int) - (b : Int) = (s0 : Int) := HI.out.resolve_right (fun h => h hmm)
    have er0 : r0 = mid := by rw [HSR.out.2, if_pos hmm]
    clear hmm
    go_enter Tryd.func40, Tryd.ntmps40
    go_wp2_with fail
    clear n1 n2 v1 v2 s1 s2 v3 v4 s3 s4 s7 v8 hmI
    go_loopg [20, 21] N (fun kx s20 s21 wr => ∃ (s r : Nat), s20 = .int .i64 s ∧ s21 = .int .i64 r ∧ Aside (s0 ≤ s ∧ s ≤ r ∧ r ≤ r0 ∧ r - s ≤ kx) ∧ Aside ((s0 < s → lb d[p - (s - 1)]! d[s - 1]! = false) ∧ (r < r0 → lb d[p - r]! d[r]! = true)) ∧ Aside (SW enc w0 blk off d wr))
    case atStart => exact ⟨s0, mid, rfl, rfl, by have := HB.out; rw [er0] at this ⊢; exact ⟨Nat.le_refl _, this.1, Nat.le_refl _, by omega⟩, ⟨fun h => by omega, fun h => by omega⟩, S0⟩
    case round =>
      clear S0 er0
      obtain ⟨s, r, rfl, rfl, hB, hF, S1⟩ := hrel
      by_cases hlt : s < r
      · have hltI : (s : Int) < (r : Int) := by omega
        obtain ⟨q, hq⟩ : ∃ x, x = s + r := ⟨_, rfl⟩
        obtain ⟨c, hc⟩ : ∃ x : Nat, 2 * x ≤ q ∧ q ≤ 2 * x + 1 := ⟨q / 2, by omega⟩
        have hc0 : s ≤ c ∧ c < r := by omega
        obtain ⟨c1, c2, c3, c4, c5⟩ := HB.out.2.2.2 c (by have := hB.out; omega) (by have := hB.out; omega)
        obtain ⟨z, hz⟩ : ∃ x, x = p - c := ⟨_, rfl⟩
        rw [← hz] at c3 c4
        have t1 : (s : Int) + (r : Int) = (q : Int) := by omega
        have u1 : IntKind.i64.wrap (q : Int) = (q : Int) := by rw [IntKind.wrap_i64]; have := hB.out; have := HB.out; omega
        have u2 : IntKind.u64.wrap (q : Int) = (q : Int) := by rw [IntKind.wrap_u64]; have := hB.out; have := HB.out; omega
        have t2 : (q : Int) / 2 = (c : Int) := by omega
        have u3 : IntKind.i64.wrap (c : Int) = (c : Int) := by rw [IntKind.wrap_i64]; omega
        have t3 : (p : Int) - (c : Int) = (z : Int) := by omega
        have u4 : IntKind.i64.wrap (z : Int) = (z : Int) := by rw [IntKind.wrap_i64]; omega
        have b1 : (c : Int) < (N : Int) := by omega
        have b2 : (z : Int) < (N : Int) := by omega
        have b3 : (0 : Int) ≤ (c : Int) := by omega
        have b4 : (0 : Int) ≤ (z : Int) := by omega
        obtain ⟨x, hx⟩ : ∃ x, x = d[z]! := ⟨_, rfl⟩
        obtain ⟨y, hy⟩ : ∃ y, y = d[c]! := ⟨_, rfl⟩
        have l1 := S1.out.cl R (by have := hd0.out; omega) z (by have := hd0.out; omega)
        have l2 := S1.out.cl R (by have := hd0.out; omega) c (by have := hd0.out; omega)
        rw [← hx] at l1
        rw [← hy] at l2
        have hc := S1.out.cmp HC.out (by have := hd0.out; omega) x y
        have hv : decide (cf x y < 0) = lb x y := HLB.out y x (by rw [hx, hy]; exact Q.out.2.2 c z c1 c2 c3 c4)
        have HXY : Aside (x = d[p - c]! ∧ y = d[c]!) := ⟨by rw [hx, hz], hy⟩
        have HC0 : Aside (s ≤ c ∧ c < r) := hc0
        clear hx hy hz hq hc0 c1 c2 c3 c4 c5
        cases hb0 : lb x y with
        | true =>
          rw [hb0] at hv
          have hv0 : cf x y < 0 := of_decide_eq_true hv
          go_wp2_with fail
          go_quiet_grown (first | (go_at_fn g; refine Calls.grown_of (hc _ _)))
          have S2 : Aside (SW enc w0 blk off d (grow (wr.drewN nq) osq)) := S1.out.grown nq osq
          clear l1 l2 hc S1
          generalize grow (wr.drewN nq) osq = w2 at S2 ⊢
          clear nq osq
          go_wp2_with fail
          go_roundg (c - s)
          case measure => have := hB.out; have := HC0.out; omega
          case rel => exact ⟨s, c, rfl, rfl, by have := hB.out; have := HC0.out; show _ ∧ _ ∧ _ ∧ _; omega, ⟨hF.out.1, fun _ => by rw [← HXY.out.1, ← HXY.out.2]; exact hb0⟩, S2⟩
        | false =>
          rw [hb0] at hv
          have hv0 : ¬ cf x y < 0 := of_decide_eq_false hv
          go_wp2_with fail
          go_quiet_grown (first | (go_at_fn g; refine Calls.grown_of (hc _ _)))
          have S2 : Aside (SW enc w0 blk off d (grow (wr.drewN nq) osq)) := S1.out.grown nq osq
          clear l1 l2 hc S1
          generalize grow (wr.drewN nq) osq = w2 at S2 ⊢
          clear nq osq
          go_wp2_with fail
          go_roundg (r - (c + 1))
          case measure => have := hB.out; have := HC0.out; omega
          case rel => exact ⟨c + 1, r, by go_num, rfl, by have := hB.out; have := HC0.out; show _ ∧ _ ∧ _ ∧ _; omega, ⟨fun _ => by rw [Nat.add_sub_cancel, ← HXY.out.1, ← HXY.out.2]; exact hb0, hF.out.2⟩, S2⟩
      · clear HI
        have hsr : s = r := by have := hB.out; omega
        subst hsr
        have hltI : ¬ (s : Int) < (s : Int) := by omega
        obtain ⟨e, he0⟩ : ∃ e, e = n - s := ⟨_, rfl⟩
        have hmm2 := HM.out
        have hs2 := hB.out
        have he : e + s = mid + m := by have := HB.out; omega
        have hbd := sym_bounds (a := a) (s := s) (mid := mid) (m := m) (e := e) (b := b) (by omega) HSR.out.1 HSR.out.2 hs2.1 hs2.2.2.1 he
        have hst : SymStep lb C a s mid e b (fun k => d[turnP s mid m e k]!) := sym_step HS.out (f := fun k => d[k]!) Q.out.1 Q.out.2.1 Q.out.2.2 (by omega) (by omega) HSR.out.1 HSR.out.2 hs2.1 hs2.2.2.1 he
          (fun h => by have h := hF.out.1 h; rw [show p - (s - 1) = e by omega] at h; exact h) (fun h => by have h := hF.out.2 h; rw [show p - s = e - 1 by omega] at h; exact h)
        have HSt : Aside (SymStep lb C a s mid e b (fun k => d[turnP s mid m e k]!)) := hst
        have HBd : Aside (s ≤ m ∧ m ≤ e ∧ e ≤ b ∧ a ≤ s ∧ s ≤ mid ∧ mid ≤ e ∧ mid < b ∧ a < mid) := ⟨hbd.1, hbd.2.1, hbd.2.2.1, hbd.2.2.2.1, hbd.2.2.2.2.1, hbd.2.2.2.2.2, by omega, by omega⟩
        have HEm : Aside (e + s = mid + m) := he
        have t1 : (n : Int) - (s : Int) = (e : Int) := by omega
        have u1 : IntKind.i64.wrap (e : Int) = (e : Int) := by rw [IntKind.wrap_i64]; omega
        obtain ⟨k1, hk1⟩ : ∃ k1, k1 = decide (s < m ∧ m < e) := ⟨_, rfl⟩
        obtain ⟨k2, hk2⟩ : ∃ k2, k2 = decide (a < s ∧ s < mid) := ⟨_, rfl⟩
        obtain ⟨k3, hk3⟩ : ∃ k3, k3 = decide (mid < e ∧ e < b) := ⟨_, rfl⟩
        have K1 : Aside (k1 = decide (s < m ∧ m < e)) := hk1
        have K2 : Aside (k2 = decide (a < s ∧ s < mid)) := hk2
        have K3 : Aside (k3 = decide (mid < e ∧ e < b)) := hk3
        have HD1 : Aside (∀ d1 : Array α, (∀ k, d1[k]! = d[turnP s mid m e k]!) → SymStep lb C a s mid e b (fun k => d1[k]!)) := fun d1 h => by
          have e0 : (fun k => d1[k]!) = (fun k => d[turnP s mid m e k]!) := funext h
          rw [e0]; exact HSt.out
        clear he0 hmm2 hs2 he hbd hst hk1 hk2 hk3 HSt hB hF HSR HB HM HLB HC
        go_upto_region 39 with fail
        clear t1 u1
        go_cut [185] from 178 to 184 (fun t185 wx => wr = wx ∧ t185 = .bool k1)
        case first =>
          by_cases i1 : (s : Int) < (m : Int)
          · by_cases i2 : (m : Int) < (e : Int)
            · go_wp2_with fail
              go_meet
              case rel => exact ⟨rfl, by rw [K1.out, decide_eq_true ⟨by omega, by omega⟩]⟩
            · go_wp2_with fail
              go_meet
              case rel => exact ⟨rfl, by rw [K1.out, decide_eq_false (by omega)]⟩
          · go_wp2_with fail
            go_meet
            case rel => exact ⟨rfl, by rw [K1.out, decide_eq_false (by omega)]⟩
        case rest =>
        obtain ⟨rfl, rfl⟩ := hcut
        go_upto_if 185 with fail
        go_cut [24] from 186 to 191 (fun t24 wx => t24 = .int .i64 e ∧ ∃ d1 : Array α, Aside (d1.size = N ∧ PermIn a b d d1 ∧ ∀ k, d1[k]! = d[turnP s mid m e k]!) ∧ Aside (SW enc w0 blk off d1 wx))
        case first =>
          cases k1 with
          | true =>
            have hse : s < m ∧ m < e := of_decide_eq_true K1.out.symm
            have hbd := HBd.out
            have hem := HEm.out
            have hdn := hd0.out
            have c1 := rotate_e enc (.func (.func g) #[] cb) blk off cap s m e N d0 d w0 wr R hs hdn S1.out hse.1 hse.2 (by omega) hsz
            have HR1 : Aside ((rotF m (e - s) (m - s) (e - m) d).size = N ∧ PermIn a b d (rotF m (e - s) (m - s) (e - m) d) ∧ ∀ k, (rotF m (e - s) (m - s) (e - m) d)[k]! = d[turnP s mid m e k]!) :=
              ⟨(rotF_size m _ _ _ d).trans hdn, rotF_perm m a b _ _ _ d (by omega) (by omega) (by omega), turn_get hem (by omega) hse⟩
            clear hse hbd hem hdn S1
            generalize rotF m (e - s) (m - s) (e - m) d = d1 at c1 HR1
            go_wp2_with fail
            refine c1.mono ?_
            rintro e' w2 ⟨rfl, hw2⟩
            have HW : Aside (SW enc w0 blk off d1 w2) := hw2
            clear hw2 c1
            go_wp2_with fail
            go_meet
            case rel => exact ⟨rfl, d1, HR1, HW⟩
          | false =>
            have hse : ¬ (s < m ∧ m < e) := of_decide_eq_false K1.out.symm
            have HR1 : Aside (d.size = N ∧ PermIn a b d d ∧ ∀ k, d[k]! = d[turnP s mid m e k]!) := ⟨hd0.out, permIn_refl d a b, fun k => by rw [turn_same HBd.out.2.1 HEm.out hse]⟩
            clear hse
            go_wp2_with fail
            go_meet
            case rel => exact ⟨rfl, d, HR1, S1⟩
        case rest =>
        obtain ⟨rfl, d1, HR1, S2⟩ := hcut
        have HSt : Aside (SymStep lb C a s mid e b (fun k => d1[k]!)) := HD1.out d1 HR1.out.2.2
        have HP1 : Aside (d1.size = N ∧ PermIn a b d d1) := ⟨HR1.out.1, HR1.out.2.1⟩
        clear HD1 HR1 S1 K1 Q
        generalize wc = wr2 at S2 ⊢
        go_upto_region 41 with fail
        go_cut [199] from 192 to 198 (fun t199 wx => wr2 = wx ∧ t199 = .bool k2)
        case first =>
          by_cases i1 : (a : Int) < (s : Int)
          · by_cases i2 : (s : Int) < (mid : Int)
            · go_wp2_with fail
              go_meet
              case rel => exact ⟨rfl, by rw [K2.out, decide_eq_true ⟨by omega, by omega⟩]⟩
            · go_wp2_with fail
              go_meet
              case rel => exact ⟨rfl, by rw [K2.out, decide_eq_false (by omega)]⟩
          · go_wp2_with fail
            go_meet
            case rel => exact ⟨rfl, by rw [K2.out, decide_eq_false (by omega)]⟩
        case rest =>
        obtain ⟨rfl, rfl⟩ := hcut
        go_upto_if 199 with fail
        go_cut [24] from 200 to 205 (fun t24 wx => t24 = .int .i64 e ∧ ∃ d2 : Array α, Aside (d2.size = N ∧ PermIn a mid d1 d2 ∧ SortedIn lb a mid d2) ∧ Aside (SW enc w0 blk off d2 wx))
        case first =>
          cases k2 with
          | true =>
            have hse : a < s ∧ s < mid := of_decide_eq_true K2.out.symm
            have hbd := HBd.out
            have c1 := HIH.out a s mid hse.1 hse.2 (by omega) (by omega) d1 wr2 HP1.out.1 S2.out HSt.out.q1 HSt.out.q2 HSt.out.c1
            clear hse hbd S2
            go_wp2_with fail
            refine c1.mono ?_
            rintro e' w2 ⟨rfl, d2, hp2, hs2, hw2⟩
            have HR2 : Aside (d2.size = N ∧ PermIn a mid d1 d2 ∧ SortedIn lb a mid d2) := ⟨hp2.1.trans HP1.out.1, hp2, hs2⟩
            have HW : Aside (SW enc w0 blk off d2 w2) := hw2
            clear hw2 c1 hp2 hs2
            go_wp2_with fail
            go_meet
            case rel => exact ⟨rfl, d2, HR2, HW⟩
          | false =>
            have hse : ¬ (a < s ∧ s < mid) := of_decide_eq_false K2.out.symm
            have HR2 : Aside (d1.size = N ∧ PermIn a mid d1 d1 ∧ SortedIn lb a mid d1) := by
              refine ⟨HP1.out.1, permIn_refl d1 a mid, fun i j x y z => ?_⟩
              have hbd := HBd.out
              rcases Nat.lt_or_ge a s with h | h
              · exact HSt.out.q1 i j x y (by omega)
              · exact HSt.out.q2 i j (by omega) y z
            clear hse
            go_wp2_with fail
            go_meet
            case rel => exact ⟨rfl, d1, HR2, S2⟩
        case rest =>
        obtain ⟨rfl, d2, HR2, S3⟩ := hcut
        clear S2 K2
        generalize wc = wr3 at S3 ⊢
        go_upto_region 43 with fail
        go_cut [213] from 206 to 212 (fun t213 wx => wr3 = wx ∧ t213 = .bool k3)
        case first =>
          by_cases i1 : (mid : Int) < (e : Int)
          · by_cases i2 : (e : Int) < (b : Int)
            · go_wp2_with fail
              go_meet
              case rel => exact ⟨rfl, by rw [K3.out, decide_eq_true ⟨by omega, by omega⟩]⟩
            · go_wp2_with fail
              go_meet
              case rel => exact ⟨rfl, by rw [K3.out, decide_eq_false (by omega)]⟩
          · go_wp2_with fail
            go_meet
            case rel => exact ⟨rfl, by rw [K3.out, decide_eq_false (by omega)]⟩
        case rest =>
        obtain ⟨rfl, rfl⟩ := hcut
        have HFin : Aside (∀ d3, PermIn mid b d2 d3 → SortedIn lb mid b d3 → PermIn a b d d3 ∧ SortedIn lb a b d3) := fun d3 hp hs3 => by
          have hbd := HBd.out
          have hdn := hd0.out
          have h1 := HP1.out
          have h2 := HR2.out
          refine ⟨permIn_trans _ _ _ a b h1.2 (permIn_trans _ _ _ a b (permIn_mono _ _ _ _ _ _ (Nat.le_refl _) (by omega) (by omega) h2.2.1) (permIn_mono _ _ _ _ _ _ (by omega) (Nat.le_refl _) (by omega) hp)), ?_⟩
          exact sym_join h2.2.1 hp (by omega) (by omega) h2.2.2 hs3 (fun i j x y z u => by
            rcases Nat.lt_or_ge i mid with h | h
            · exact HSt.out.low i j x h z u
            · omega)
        have HOld : Aside (∀ k, mid ≤ k → d2[k]! = d1[k]!) := fun k h => HR2.out.2.1.2.1 k (Or.inr h)
        cases k3 with
        | true =>
          have hse : mid < e ∧ e < b := of_decide_eq_true K3.out.symm
          have hbd := HBd.out
          have c1 := HIH.out mid e b hse.1 hse.2 (by omega) (by omega) d2 wr3 HR2.out.1 S3.out
            (fun i j x y z => by rw [HOld.out i (by omega), HOld.out j (by omega)]; exact HSt.out.q3 i j x y z)
            (fun i j x y z => by rw [HOld.out i (by omega), HOld.out j (by omega)]; exact HSt.out.q4 i j x y z)
            (fun i j x y z u => by rw [HOld.out i (by omega), HOld.out j (by omega)]; exact HSt.out.c2 i j x y z u)
          clear hse hbd S3
          go_wp2_with fail
          refine c1.mono ?_
          rintro e' w2 ⟨rfl, d3, hp3, hs3, hw3⟩
          have HR3 : Aside (PermIn a b d d3 ∧ SortedIn lb a b d3 ∧ SW enc w0 blk off d3 w2) := ⟨(HFin.out d3 hp3 hs3).1, (HFin.out d3 hp3 hs3).2, hw3⟩
          clear hw3 c1 hp3 hs3
          go_wp2_with fail
          go_end0
          exact ⟨rfl, d3, HR3.out⟩
        | false =>
          have hse : ¬ (mid < e ∧ e < b) := of_decide_eq_false K3.out.symm
          have HR3 : Aside (PermIn a b d d2 ∧ SortedIn lb a b d2 ∧ SW enc w0 blk off d2 wr3) := by
            have hbd := HBd.out
            have h := HFin.out d2 (permIn_refl d2 mid b) (fun i j x y z => by
              rw [HOld.out i (by omega), HOld.out j (by omega)]
              rcases Nat.lt_or_ge mid e with h | h
              · exact HSt.out.q3 i j x y (by omega)
              · exact HSt.out.q4 i j (by omega) y z)
            exact ⟨h.1, h.2, S3.out⟩
          clear hse
          go_wp2_with fail
          go_end0
          exact ⟨rfl, d2, HR3.out⟩
  case neg =>
    have es0 : s0 = a := by rw [HSR.out.1, if_neg hmm]
    have er0 : r0 = m := by rw [HSR.out.2, if_neg hmm]
    clear hmm
    go_enter Tryd.func40, Tryd.ntmps40
    go_wp2_with fail
    clear n1 n2 v1 v2 s1 s2 v3 v4 s3 s4 v8 hmI
    go_loopg [20, 21] N (fun kx s20 s21 wr => ∃ (s r : Nat), s20 = .int .i64 s ∧ s21 = .int .i64 r ∧ Aside (s0 ≤ s ∧ s ≤ r ∧ r ≤ r0 ∧ r - s ≤ kx) ∧ Aside ((s0 < s → lb d[p - (s - 1)]! d[s - 1]! = false) ∧ (r < r0 → lb d[p - r]! d[r]! = true)) ∧ Aside (SW enc w0 blk off d wr))
    case atStart => exact ⟨a, m, rfl, rfl, by have := HB.out; rw [er0, es0] at this ⊢; exact ⟨Nat.le_refl _, this.1, Nat.le_refl _, by omega⟩, ⟨fun h => by omega, fun h => by omega⟩, S0⟩
    case round =>
      clear S0 er0 es0
      obtain ⟨s, r, rfl, rfl, hB, hF, S1⟩ := hrel
      by_cases hlt : s < r
      · have hltI : (s : Int) < (r : Int) := by omega
        obtain ⟨q, hq⟩ : ∃ x, x = s + r := ⟨_, rfl⟩
        obtain ⟨c, hc⟩ : ∃ x : Nat, 2 * x ≤ q ∧ q ≤ 2 * x + 1 := ⟨q / 2, by omega⟩
        have hc0 : s ≤ c ∧ c < r := by omega
        obtain ⟨c1, c2, c3, c4, c5⟩ := HB.out.2.2.2 c (by have := hB.out; omega) (by have := hB.out; omega)
        obtain ⟨z, hz⟩ : ∃ x, x = p - c := ⟨_, rfl⟩
        rw [← hz] at c3 c4
        have t1 : (s : Int) + (r : Int) = (q : Int) := by omega
        have u1 : IntKind.i64.wrap (q : Int) = (q : Int) := by rw [IntKind.wrap_i64]; have := hB.out; have := HB.out; omega
        have u2 : IntKind.u64.wrap (q : Int) = (q : Int) := by rw [IntKind.wrap_u64]; have := hB.out; have := HB.out; omega
        have t2 : (q : Int) / 2 = (c : Int) := by omega
        have u3 : IntKind.i64.wrap (c : Int) = (c : Int) := by rw [IntKind.wrap_i64]; omega
        have t3 : (p : Int) - (c : Int) = (z : Int) := by omega
        have u4 : IntKind.i64.wrap (z : Int) = (z : Int) := by rw [IntKind.wrap_i64]; omega
        have b1 : (c : Int) < (N : Int) := by omega
        have b2 : (z : Int) < (N : Int) := by omega
        have b3 : (0 : Int) ≤ (c : Int) := by omega
        have b4 : (0 : Int) ≤ (z : Int) := by omega
        obtain ⟨x, hx⟩ : ∃ x, x = d[z]! := ⟨_, rfl⟩
        obtain ⟨y, hy⟩ : ∃ y, y = d[c]! := ⟨_, rfl⟩
        have l1 := S1.out.cl R (by have := hd0.out; omega) z (by have := hd0.out; omega)
        have l2 := S1.out.cl R (by have := hd0.out; omega) c (by have := hd0.out; omega)
        rw [← hx] at l1
        rw [← hy] at l2
        have hc := S1.out.cmp HC.out (by have := hd0.out; omega) x y
        have hv : decide (cf x y < 0) = lb x y := HLB.out y x (by rw [hx, hy]; exact Q.out.2.2 c z c1 c2 c3 c4)
        have HXY : Aside (x = d[p - c]! ∧ y = d[c]!) := ⟨by rw [hx, hz], hy⟩
        have HC0 : Aside (s ≤ c ∧ c < r) := hc0
        clear hx hy hz hq hc0 c1 c2 c3 c4 c5
        cases hb0 : lb x y with
        | true =>
          rw [hb0] at hv
          have hv0 : cf x y < 0 := of_decide_eq_true hv
          go_wp2_with fail
          go_quiet_grown (first | (go_at_fn g; refine Calls.grown_of (hc _ _)))
          have S2 : Aside (SW enc w0 blk off d (grow (wr.drewN nq) osq)) := S1.out.grown nq osq
          clear l1 l2 hc S1
          generalize grow (wr.drewN nq) osq = w2 at S2 ⊢
          clear nq osq
          go_wp2_with fail
          go_roundg (c - s)
          case measure => have := hB.out; have := HC0.out; omega
          case rel => exact ⟨s, c, rfl, rfl, by have := hB.out; have := HC0.out; show _ ∧ _ ∧ _ ∧ _; omega, ⟨hF.out.1, fun _ => by rw [← HXY.out.1, ← HXY.out.2]; exact hb0⟩, S2⟩
        | false =>
          rw [hb0] at hv
          have hv0 : ¬ cf x y < 0 := of_decide_eq_false hv
          go_wp2_with fail
          go_quiet_grown (first | (go_at_fn g; refine Calls.grown_of (hc _ _)))
          have S2 : Aside (SW enc w0 blk off d (grow (wr.drewN nq) osq)) := S1.out.grown nq osq
          clear l1 l2 hc S1
          generalize grow (wr.drewN nq) osq = w2 at S2 ⊢
          clear nq osq
          go_wp2_with fail
          go_roundg (r - (c + 1))
          case measure => have := hB.out; have := HC0.out; omega
          case rel => exact ⟨c + 1, r, by go_num, rfl, by have := hB.out; have := HC0.out; show _ ∧ _ ∧ _ ∧ _; omega, ⟨fun _ => by rw [Nat.add_sub_cancel, ← HXY.out.1, ← HXY.out.2]; exact hb0, hF.out.2⟩, S2⟩
      · clear HI
        have hsr : s = r := by have := hB.out; omega
        subst hsr
        have hltI : ¬ (s : Int) < (s : Int) := by omega
        obtain ⟨e, he0⟩ : ∃ e, e = n - s := ⟨_, rfl⟩
        have hmm2 := HM.out
        have hs2 := hB.out
        have he : e + s = mid + m := by have := HB.out; omega
        have hbd := sym_bounds (a := a) (s := s) (mid := mid) (m := m) (e := e) (b := b) (by omega) HSR.out.1 HSR.out.2 hs2.1 hs2.2.2.1 he
        have hst : SymStep lb C a s mid e b (fun k => d[turnP s mid m e k]!) := sym_step HS.out (f := fun k => d[k]!) Q.out.1 Q.out.2.1 Q.out.2.2 (by omega) (by omega) HSR.out.1 HSR.out.2 hs2.1 hs2.2.2.1 he
          (fun h => by have h := hF.out.1 h; rw [show p - (s - 1) = e by omega] at h; exact h) (fun h => by have h := hF.out.2 h; rw [show p - s = e - 1 by omega] at h; exact h)
        have HSt : Aside (SymStep lb C a s mid e b (fun k => d[turnP s mid m e k]!)) := hst
        have HBd : Aside (s ≤ m ∧ m ≤ e ∧ e ≤ b ∧ a ≤ s ∧ s ≤ mid ∧ mid ≤ e ∧ mid < b ∧ a < mid) := ⟨hbd.1, hbd.2.1, hbd.2.2.1, hbd.2.2.2.1, hbd.2.2.2.2.1, hbd.2.2.2.2.2, by omega, by omega⟩
        have HEm : Aside (e + s = mid + m) := he
        have t1 : (n : Int) - (s : Int) = (e : Int) := by omega
        have u1 : IntKind.i64.wrap (e : Int) = (e : Int) := by rw [IntKind.wrap_i64]; omega
        obtain ⟨k1, hk1⟩ : ∃ k1, k1 = decide (s < m ∧ m < e) := ⟨_, rfl⟩
        obtain ⟨k2, hk2⟩ : ∃ k2, k2 = decide (a < s ∧ s < mid) := ⟨_, rfl⟩
        obtain ⟨k3, hk3⟩ : ∃ k3, k3 = decide (mid < e ∧ e < b) := ⟨_, rfl⟩
        have K1 : Aside (k1 = decide (s < m ∧ m < e)) := hk1
        have K2 : Aside (k2 = decide (a < s ∧ s < mid)) := hk2
        have K3 : Aside (k3 = decide (mid < e ∧ e < b)) := hk3
        have HD1 : Aside (∀ d1 : Array α, (∀ k, d1[k]! = d[turnP s mid m e k]!) → SymStep lb C a s mid e b (fun k => d1[k]!)) := fun d1 h => by
          have e0 : (fun k => d1[k]!) = (fun k => d[turnP s mid m e k]!) := funext h
          rw [e0]; exact HSt.out
        clear he0 hmm2 hs2 he hbd hst hk1 hk2 hk3 HSt hB hF HSR HB HM HLB HC
        go_upto_region 39 with fail
        clear t1 u1
        go_cut [185] from 178 to 184 (fun t185 wx => wr = wx ∧ t185 = .bool k1)
        case first =>
          by_cases i1 : (s : Int) < (m : Int)
          · by_cases i2 : (m : Int) < (e : Int)
            · go_wp2_with fail
              go_meet
              case rel => exact ⟨rfl, by rw [K1.out, decide_eq_true ⟨by omega, by omega⟩]⟩
            · go_wp2_with fail
              go_meet
              case rel => exact ⟨rfl, by rw [K1.out, decide_eq_false (by omega)]⟩
          · go_wp2_with fail
            go_meet
            case rel => exact ⟨rfl, by rw [K1.out, decide_eq_false (by omega)]⟩
        case rest =>
        obtain ⟨rfl, rfl⟩ := hcut
        go_upto_if 185 with fail
        go_cut [24] from 186 to 191 (fun t24 wx => t24 = .int .i64 e ∧ ∃ d1 : Array α, Aside (d1.size = N ∧ PermIn a b d d1 ∧ ∀ k, d1[k]! = d[turnP s mid m e k]!) ∧ Aside (SW enc w0 blk off d1 wx))
        case first =>
          cases k1 with
          | true =>
            have hse : s < m ∧ m < e := of_decide_eq_true K1.out.symm
            have hbd := HBd.out
            have hem := HEm.out
            have hdn := hd0.out
            have c1 := rotate_e enc (.func (.func g) #[] cb) blk off cap s m e N d0 d w0 wr R hs hdn S1.out hse.1 hse.2 (by omega) hsz
            have HR1 : Aside ((rotF m (e - s) (m - s) (e - m) d).size = N ∧ PermIn a b d (rotF m (e - s) (m - s) (e - m) d) ∧ ∀ k, (rotF m (e - s) (m - s) (e - m) d)[k]! = d[turnP s mid m e k]!) :=
              ⟨(rotF_size m _ _ _ d).trans hdn, rotF_perm m a b _ _ _ d (by omega) (by omega) (by omega), turn_get hem (by omega) hse⟩
            clear hse hbd hem hdn S1
            generalize rotF m (e - s) (m - s) (e - m) d = d1 at c1 HR1
            go_wp2_with fail
            refine c1.mono ?_
            rintro e' w2 ⟨rfl, hw2⟩
            have HW : Aside (SW enc w0 blk off d1 w2) := hw2
            clear hw2 c1
            go_wp2_with fail
            go_meet
            case rel => exact ⟨rfl, d1, HR1, HW⟩
          | false =>
            have hse : ¬ (s < m ∧ m < e) := of_decide_eq_false K1.out.symm
            have HR1 : Aside (d.size = N ∧ PermIn a b d d ∧ ∀ k, d[k]! = d[turnP s mid m e k]!) := ⟨hd0.out, permIn_refl d a b, fun k => by rw [turn_same HBd.out.2.1 HEm.out hse]⟩
            clear hse
            go_wp2_with fail
            go_meet
            case rel => exact ⟨rfl, d, HR1, S1⟩
        case rest =>
        obtain ⟨rfl, d1, HR1, S2⟩ := hcut
        have HSt : Aside (SymStep lb C a s mid e b (fun k => d1[k]!)) := HD1.out d1 HR1.out.2.2
        have HP1 : Aside (d1.size = N ∧ PermIn a b d d1) := ⟨HR1.out.1, HR1.out.2.1⟩
        clear HD1 HR1 S1 K1 Q
        generalize wc = wr2 at S2 ⊢
        go_upto_region 41 with fail
        go_cut [199] from 192 to 198 (fun t199 wx => wr2 = wx ∧ t199 = .bool k2)
        case first =>
          by_cases i1 : (a : Int) < (s : Int)
          · by_cases i2 : (s : Int) < (mid : Int)
            · go_wp2_with fail
              go_meet
              case rel => exact ⟨rfl, by rw [K2.out, decide_eq_true ⟨by omega, by omega⟩]⟩
            · go_wp2_with fail
              go_meet
              case rel => exact ⟨rfl, by rw [K2.out, decide_eq_false (by omega)]⟩
          · go_wp2_with fail
            go_meet
            case rel => exact ⟨rfl, by rw [K2.out, decide_eq_false (by omega)]⟩
        case rest =>
        obtain ⟨rfl, rfl⟩ := hcut
        go_upto_if 199 with fail
        go_cut [24] from 200 to 205 (fun t24 wx => t24 = .int .i64 e ∧ ∃ d2 : Array α, Aside (d2.size = N ∧ PermIn a mid d1 d2 ∧ SortedIn lb a mid d2) ∧ Aside (SW enc w0 blk off d2 wx))
        case first =>
          cases k2 with
          | true =>
            have hse : a < s ∧ s < mid := of_decide_eq_true K2.out.symm
            have hbd := HBd.out
            have c1 := HIH.out a s mid hse.1 hse.2 (by omega) (by omega) d1 wr2 HP1.out.1 S2.out HSt.out.q1 HSt.out.q2 HSt.out.c1
            clear hse hbd S2
            go_wp2_with fail
            refine c1.mono ?_
            rintro e' w2 ⟨rfl, d2, hp2, hs2, hw2⟩
            have HR2 : Aside (d2.size = N ∧ PermIn a mid d1 d2 ∧ SortedIn lb a mid d2) := ⟨hp2.1.trans HP1.out.1, hp2, hs2⟩
            have HW : Aside (SW enc w0 blk off d2 w2) := hw2
            clear hw2 c1 hp2 hs2
            go_wp2_with fail
            go_meet
            case rel => exact ⟨rfl, d2, HR2, HW⟩
          | false =>
            have hse : ¬ (a < s ∧ s < mid) := of_decide_eq_false K2.out.symm
            have HR2 : Aside (d1.size = N ∧ PermIn a mid d1 d1 ∧ SortedIn lb a mid d1) := by
              refine ⟨HP1.out.1, permIn_refl d1 a mid, fun i j x y z => ?_⟩
              have hbd := HBd.out
              rcases Nat.lt_or_ge a s with h | h
              · exact HSt.out.q1 i j x y (by omega)
              · exact HSt.out.q2 i j (by omega) y z
            clear hse
            go_wp2_with fail
            go_meet
            case rel => exact ⟨rfl, d1, HR2, S2⟩
        case rest =>
        obtain ⟨rfl, d2, HR2, S3⟩ := hcut
        clear S2 K2
        generalize wc = wr3 at S3 ⊢
        go_upto_region 43 with fail
        go_cut [213] from 206 to 212 (fun t213 wx => wr3 = wx ∧ t213 = .bool k3)
        case first =>
          by_cases i1 : (mid : Int) < (e : Int)
          · by_cases i2 : (e : Int) < (b : Int)
            · go_wp2_with fail
              go_meet
              case rel => exact ⟨rfl, by rw [K3.out, decide_eq_true ⟨by omega, by omega⟩]⟩
            · go_wp2_with fail
              go_meet
              case rel => exact ⟨rfl, by rw [K3.out, decide_eq_false (by omega)]⟩
          · go_wp2_with fail
            go_meet
            case rel => exact ⟨rfl, by rw [K3.out, decide_eq_false (by omega)]⟩
        case rest =>
        obtain ⟨rfl, rfl⟩ := hcut
        have HFin : Aside (∀ d3, PermIn mid b d2 d3 → SortedIn lb mid b d3 → PermIn a b d d3 ∧ SortedIn lb a b d3) := fun d3 hp hs3 => by
          have hbd := HBd.out
          have hdn := hd0.out
          have h1 := HP1.out
          have h2 := HR2.out
          refine ⟨permIn_trans _ _ _ a b h1.2 (permIn_trans _ _ _ a b (permIn_mono _ _ _ _ _ _ (Nat.le_refl _) (by omega) (by omega) h2.2.1) (permIn_mono _ _ _ _ _ _ (by omega) (Nat.le_refl _) (by omega) hp)), ?_⟩
          exact sym_join h2.2.1 hp (by omega) (by omega) h2.2.2 hs3 (fun i j x y z u => by
            rcases Nat.lt_or_ge i mid with h | h
            · exact HSt.out.low i j x h z u
            · omega)
        have HOld : Aside (∀ k, mid ≤ k → d2[k]! = d1[k]!) := fun k h => HR2.out.2.1.2.1 k (Or.inr h)
        cases k3 with
        | true =>
          have hse : mid < e ∧ e < b := of_decide_eq_true K3.out.symm
          have hbd := HBd.out
          have c1 := HIH.out mid e b hse.1 hse.2 (by omega) (by omega) d2 wr3 HR2.out.1 S3.out
            (fun i j x y z => by rw [HOld.out i (by omega), HOld.out j (by omega)]; exact HSt.out.q3 i j x y z)
            (fun i j x y z => by rw [HOld.out i (by omega), HOld.out j (by omega)]; exact HSt.out.q4 i j x y z)
            (fun i j x y z u => by rw [HOld.out i (by omega), HOld.out j (by omega)]; exact HSt.out.c2 i j x y z u)
          clear hse hbd S3
          go_wp2_with fail
          refine c1.mono ?_
          rintro e' w2 ⟨rfl, d3, hp3, hs3, hw3⟩
          have HR3 : Aside (PermIn a b d d3 ∧ SortedIn lb a b d3 ∧ SW enc w0 blk off d3 w2) := ⟨(HFin.out d3 hp3 hs3).1, (HFin.out d3 hp3 hs3).2, hw3⟩
          clear hw3 c1 hp3 hs3
          go_wp2_with fail
          go_end0
          exact ⟨rfl, d3, HR3.out⟩
        | false =>
          have hse : ¬ (mid < e ∧ e < b) := of_decide_eq_false K3.out.symm
          have HR3 : Aside (PermIn a b d d2 ∧ SortedIn lb a b d2 ∧ SW enc w0 blk off d2 wr3) := by
            have hbd := HBd.out
            have h := HFin.out d2 (permIn_refl d2 mid b) (fun i j x y z => by
              rw [HOld.out i (by omega), HOld.out j (by omega)]
              rcases Nat.lt_or_ge mid e with h | h
              · exact HSt.out.q3 i j x y (by omega)
              · exact HSt.out.q4 i j (by omega) y z)
            exact ⟨h.1, h.2, S3.out⟩
          clear hse
          go_wp2_with fail
          go_end0
          exact ⟨rfl, d2, HR3.out⟩
end Go.Proofs.YtoaedlllnkcfnaaDoor
