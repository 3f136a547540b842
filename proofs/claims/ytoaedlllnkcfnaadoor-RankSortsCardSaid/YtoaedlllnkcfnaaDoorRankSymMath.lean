/-
  Plain facts on the merge of two sorted halves by a turn about the middle. No program.
-/
import Derived.Test.YtoaedlllnkcfnaaDoorRankRotMath
namespace Go.Proofs.YtoaedlllnkcfnaaDoor
open Go.Sort

section
variable {α : Type} [Inhabited α]
/-- what holds behind the search and the turn -/
structure SymStep (lb : α → α → Bool) (C : α → α → Prop) (a s m e b : Nat) (D : Nat → α) : Prop where
  q1 : ∀ i j, a ≤ i → i < j → j < s → lb (D j) (D i) = false
  q2 : ∀ i j, s ≤ i → i < j → j < m → lb (D j) (D i) = false
  q3 : ∀ i j, m ≤ i → i < j → j < e → lb (D j) (D i) = false
  q4 : ∀ i j, e ≤ i → i < j → j < b → lb (D j) (D i) = false
  c1 : ∀ i j, a ≤ i → i < s → s ≤ j → j < m → C (D i) (D j)
  c2 : ∀ i j, m ≤ i → i < e → e ≤ j → j < b → C (D i) (D j)
  low : ∀ i j, a ≤ i → i < m → m ≤ j → j < b → lb (D j) (D i) = false
/-- the places behind the turn: from start to mid they are of the right, from mid to the end of the left -/
def turnP (s mid m e k : Nat) : Nat := if s ≤ k ∧ k < mid then k + (m - s) else if mid ≤ k ∧ k < e then k - (e - m) else k
theorem turn_get {d : Array α} {s mid m e : Nat} (h3 : e + s = mid + m) (h4 : e ≤ d.size) (hs : s < m ∧ m < e) : ∀ k, (rotF m (e - s) (m - s) (e - m) d)[k]! = d[turnP s mid m e k]! := fun k => by
  rw [rotF_get m _ _ _ d (by omega) (by omega) (by omega) (by omega) (by omega)]
  unfold turnP
  repeat' split
  all_goals first | omega | rfl | (congr 1 <;> omega)
theorem turn_same {s mid m e : Nat} (h2 : m ≤ e) (h3 : e + s = mid + m) (hs : ¬ (s < m ∧ m < e)) (k : Nat) : turnP s mid m e k = k := by
  unfold turnP
  repeat' split
  all_goals omega
omit [Inhabited α] in
theorem sym_step {lb : α → α → Bool} (hS : SWO lb) {C : α → α → Prop} {a s mid m e b s0 r0 : Nat} {f : Nat → α}
    (hL : ∀ i j, a ≤ i → i < j → j < m → lb (f j) (f i) = false) (hR : ∀ i j, m ≤ i → i < j → j < b → lb (f j) (f i) = false) (hC : ∀ i j, a ≤ i → i < m → m ≤ j → j < b → C (f i) (f j))
    (ha : a < m) (hmid : 2 * mid ≤ a + b ∧ a + b ≤ 2 * mid + 1) (hs0 : s0 = if mid < m then mid + m - b else a) (hr0 : r0 = if mid < m then mid else m) (h1 : s0 ≤ s) (h2 : s ≤ r0) (he : e + s = mid + m)
    (hlo : s0 < s → lb (f e) (f (s - 1)) = false) (hhi : s < r0 → lb (f (e - 1)) (f s) = true) : SymStep lb C a s mid e b (fun k => f (turnP s mid m e k)) := by
  have hsm : s ≤ m ∧ m ≤ e ∧ e ≤ b ∧ a ≤ s ∧ s ≤ mid ∧ mid ≤ e := by split at hs0 <;> split at hr0 <;> omega
  have eL : ∀ i j, a ≤ i → i ≤ j → j < m → lb (f j) (f i) = false := fun i j x y z => by
    rcases Nat.lt_or_ge i j with h | h
    · exact hL i j x h z
    · obtain rfl : i = j := by omega
      exact hS.irrefl _
  have eR : ∀ i j, m ≤ i → i ≤ j → j < b → lb (f j) (f i) = false := fun i j x y z => by
    rcases Nat.lt_or_ge i j with h | h
    · exact hR i j x h z
    · obtain rfl : i = j := by omega
      exact hS.irrefl _
  have p1 : ∀ k, k < s → turnP s mid m e k = k := fun k h => by unfold turnP; rw [if_neg (by omega), if_neg (by omega)]
  have p2 : ∀ k, s ≤ k → k < mid → turnP s mid m e k = k + (m - s) := fun k h h' => by unfold turnP; rw [if_pos ⟨h, h'⟩]
  have p3 : ∀ k, mid ≤ k → k < e → turnP s mid m e k = k - (e - m) := fun k h h' => by unfold turnP; rw [if_neg (by omega), if_pos ⟨h, h'⟩]
  have p4 : ∀ k, e ≤ k → turnP s mid m e k = k := fun k h => by unfold turnP; rw [if_neg (by omega), if_neg (by omega)]
  refine ⟨fun i j x y z => ?_, fun i j x y z => ?_, fun i j x y z => ?_, fun i j x y z => ?_, fun i j x y z u => ?_, fun i j x y z u => ?_, fun i j x y z u => ?_⟩
  · show lb (f _) (f _) = false
    rw [p1 i (by omega), p1 j z]; exact hL i j x y (by omega)
  · show lb (f _) (f _) = false
    rw [p2 i x (by omega), p2 j (by omega) z]; exact hR _ _ (by omega) (by omega) (by omega)
  · show lb (f _) (f _) = false
    rw [p3 i x (by omega), p3 j (by omega) z]; exact hL _ _ (by omega) (by omega) (by omega)
  · show lb (f _) (f _) = false
    rw [p4 i x, p4 j (by omega)]; exact hR i j (by omega) y z
  · show C (f _) (f _)
    rw [p1 i y, p2 j z u]; exact hC _ _ x (by omega) (by omega) (by omega)
  · show C (f _) (f _)
    rw [p3 i x y, p4 j z]; exact hC _ _ (by omega) (by omega) (by omega) u
  · show lb (f _) (f _) = false
    rcases Nat.lt_or_ge i s with hi | hi
    · rw [p1 i hi]
      rcases Nat.lt_or_ge j e with hj | hj
      · rw [p3 j z hj]; exact eL _ _ x (by omega) (by omega)
      · rw [p4 j hj]
        have hss : s0 < s := by split at hs0 <;> omega
        exact hS.ntrans _ _ _ (eR e j (by omega) hj u) (hS.ntrans _ _ _ (hlo hss) (eL i (s - 1) x (by omega) (by omega)))
    · rw [p2 i hi y]
      rcases Nat.lt_or_ge j e with hj | hj
      · rw [p3 j z hj]
        have hsr : s < r0 := by split at hr0 <;> omega
        have h0 : lb (f s) (f (e - 1)) = false := by
          cases h : lb (f s) (f (e - 1)) with
          | false => rfl
          | true => have := hS.trans _ _ _ h (hhi hsr); rw [hS.irrefl] at this; cases this
        exact hS.ntrans _ _ _ (eL s _ (by omega) (by omega) (by omega)) (hS.ntrans _ _ _ h0 (eR _ (e - 1) (by omega) (by omega) (by omega)))
      · rw [p4 j hj]; exact eR _ _ (by omega) (by omega) u
/-- both halves sorted, and the lower ones in front: all is sorted -/
theorem sym_join {lb : α → α → Bool} {a mid b : Nat} {D d1 d2 : Array α} (h1 : PermIn a mid D d1) (h2 : PermIn mid b d1 d2) (hb : b ≤ D.size) (hmb : mid ≤ b)
    (s1 : SortedIn lb a mid d1) (s2 : SortedIn lb mid b d2) (hlow : ∀ i j, a ≤ i → i < mid → mid ≤ j → j < b → lb D[j]! D[i]! = false) : SortedIn lb a b d2 := by
  have e1 : ∀ i, i < mid → d2[i]! = d1[i]! := fun i h => h2.2.1 i (Or.inl h)
  have e2 : ∀ j, mid ≤ j → d1[j]! = D[j]! := fun j h => h1.2.1 j (Or.inr h)
  have l1 : ∀ j, mid ≤ j → j < b → ∀ i, a ≤ i → i < mid → lb D[j]! d1[i]! = false := fun j hj hjb =>
    permIn_all D d1 a mid (fun x => lb D[j]! x = false) (by omega) h1 (fun i x y => hlow i j x y hj hjb)
  have l2 : ∀ i, a ≤ i → i < mid → ∀ j, mid ≤ j → j < b → lb d2[j]! d1[i]! = false := fun i hi him =>
    permIn_all d1 d2 mid b (fun x => lb x d1[i]! = false) (by rw [h1.1]; exact hb) h2 (fun j x y => by rw [e2 j x]; exact l1 j x y i hi him)
  intro i j hi hij hj
  rcases Nat.lt_or_ge j mid with hjm | hjm
  · rw [e1 i (by omega), e1 j hjm]; exact s1 i j hi hij hjm
  · rcases Nat.lt_or_ge i mid with him | him
    · rw [e1 i him]; exact l2 i hi him j hjm hj
    · exact s2 i j him hij hj
end
end Go.Proofs.YtoaedlllnkcfnaaDoor
