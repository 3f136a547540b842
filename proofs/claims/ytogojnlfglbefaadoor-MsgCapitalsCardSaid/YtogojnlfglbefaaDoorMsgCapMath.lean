/-
  Plain facts for MsgCapitals: capitals in a question's name play no part when it is read. No condition.
-/
import Derived.Test.YtogojnlfglbefaaDoorMsgPl
namespace Go.Proofs.YtogojnlfglbefaaDoor

/-- bytes that are the same but for capitals, and those alone ahead of place e -/
structure CapEq (b b' : List UInt8) (e : Nat) : Prop where
  lo : low b' = low b
  same : ∀ (i : Nat) (c : UInt8), b[i]? = some c → c.toNat < 97 ∨ 122 < c.toNat → b'[i]? = some c
  tail : b'.drop e = b.drop e
theorem low_len (b : List UInt8) : (low b).length = b.length := by unfold low; simp
theorem CapEq.len {b b' : List UInt8} {e : Nat} (h : CapEq b b' e) : b'.length = b.length := by
  have := congrArg List.length h.lo
  rwa [low_len, low_len] at this
theorem low_cut (b : List UInt8) (p n : Nat) : low (cutB b p n) = cutB (low b) p n := by
  unfold low cutB
  rw [List.map_take, List.map_drop]
theorem CapEq.cut {b b' : List UInt8} {e : Nat} (h : CapEq b b' e) (p n : Nat) : low (cutB b' p n) = low (cutB b p n) := by rw [low_cut, low_cut, h.lo]
theorem CapEq.num {b b' : List UInt8} {e p k : Nat} (h : CapEq b b' e) (hp : e ≤ p) : numF b' p k = numF b p k := by
  unfold numF cutB
  obtain ⟨d, rfl⟩ := Nat.exists_eq_add_of_le hp
  rw [h.len, ← List.drop_drop, ← List.drop_drop, h.tail]
/-- a run over labels alone -/
def lrunF (b : List UInt8) : Nat → NS → Option (Option (List UInt8 × Nat))
  | 0, _ => none
  | n + 1, x => match nstep b x with
    | .inl r => some r
    | .inr y => if y.td = x.td then lrunF b n y else none
theorem CapEq.done {b b' : List UInt8} {e : Nat} {x : NS} {r : List UInt8 × Nat} (h : CapEq b b' e) (hs : nstep b x = .inl (some r)) : nstep b' x = .inl (some r) := by
  unfold nstep at hs ⊢
  cases hc : b[x.at_]? with
  | none => rw [hc] at hs; cases hs
  | some c =>
    rw [hc] at hs
    simp only at hs
    by_cases h0 : c.toNat = 0
    · rw [h.same _ _ hc (by omega)]
      simp only
      rw [if_pos h0] at hs ⊢
      exact hs
    · rw [if_neg h0] at hs
      by_cases h63 : c.toNat ≤ 63
      · rw [if_pos h63] at hs
        split at hs <;> cases hs
      · rw [if_neg h63] at hs
        by_cases h192 : 192 ≤ c.toNat
        · rw [if_pos h192] at hs
          cases hd : b[x.at_ + 1]? with
          | none => rw [hd] at hs; cases hs
          | some d =>
            rw [hd] at hs
            simp only at hs
            split at hs <;> cases hs
        · rw [if_neg h192] at hs; cases hs
theorem CapEq.label {b b' : List UInt8} {e : Nat} {x y : NS} (h : CapEq b b' e) (hs : nstep b x = .inr y) (ht : y.td = x.td) : nstep b' x = .inr y := by
  unfold nstep at hs ⊢
  cases hc : b[x.at_]? with
  | none => rw [hc] at hs; cases hs
  | some c =>
    rw [hc] at hs
    simp only at hs
    by_cases h0 : c.toNat = 0
    · rw [if_pos h0] at hs; cases hs
    · rw [if_neg h0] at hs
      by_cases h63 : c.toNat ≤ 63
      · rw [if_pos h63] at hs
        rw [h.same _ _ hc (by omega)]
        simp only
        rw [if_neg h0, if_pos h63, h.len, h.cut]
        exact hs
      · rw [if_neg h63] at hs
        by_cases h192 : 192 ≤ c.toNat
        · rw [if_pos h192] at hs
          cases hd : b[x.at_ + 1]? with
          | none => rw [hd] at hs; cases hs
          | some d =>
            rw [hd] at hs
            simp only at hs
            split at hs
            · have := Sum.inr.inj hs
              subst this
              simp only at ht
              omega
            · cases hs
        · rw [if_neg h192] at hs; cases hs
theorem CapEq.run {b b' : List UInt8} {e : Nat} (h : CapEq b b' e) : ∀ {n : Nat} {x : NS} {r : List UInt8 × Nat}, lrunF b n x = some (some r) → NRun b' x (some r)
  | 0, _, _, hr => by cases hr
  | n + 1, x, r, hr => by
    unfold lrunF at hr
    cases hs : nstep b x with
    | inl q =>
      rw [hs] at hr
      simp only [Option.some.injEq] at hr
      subst hr
      exact .done (h.done hs)
    | inr y =>
      rw [hs] at hr
      simp only at hr
      split at hr
      · rename_i ht
        exact .next (h.label hs ht) (h.run hr)
      · cases hr
/-- a question is read as without its capitals -/
theorem CapEq.q {b b' : List UInt8} {e n p t : Nat} {nm : List UInt8} (h : CapEq b b' e) (hr : lrunF b n ⟨12, [], 0, 0, 0⟩ = some (some (nm, p))) (hp : e ≤ p) (ht : numF b p 2 = some (t, p + 2)) (hc : numF b (p + 2) 2 = some (1, p + 4)) : qF b' 12 = some ((nm, t), p + 4) := by
  unfold qF
  rw [nameF_eq (h.run hr), Option.bind_some]
  simp only
  rw [h.num hp, ht, Option.bind_some]
  simp only
  rw [h.num (by omega), hc]
  rfl
/-- a question's message -/
def cpM (id : Nat) (nm : List UInt8) (ty : Nat) : Msg := ⟨id, true, false, false, 0, nm, ty, [], []⟩
def cpB (id : Nat) (nm : List UInt8) (ty : Nat) : List UInt8 := be2 id ++ [128, 0, 0, 1, 0, 0, 0, 0, 0, 0] ++ (encQ 12 (fun _ => none) nm ty).1
theorem cp_enc (id : Nat) (nm : List UInt8) (ty : Nat) : enc (cpM id nm ty) = cpB id nm ty := by
  have e : enc (cpM id nm ty) = headB (cpM id nm ty) ++ ((encQ 12 (fun _ => none) nm ty).1 ++ ([] ++ [])) := rfl
  have hh : headB (cpM id nm ty) = be2 id ++ [128, 0, 0, 1, 0, 0, 0, 0, 0, 0] := by
    unfold headB
    have h1 : be2 (bitsN (cpM id nm ty)) = [128, 0] := by simp [bitsN, cpM, be2]
    have h2 : be2 1 = [0, 1] := by decide
    have h3 : be2 0 = [0, 0] := by decide
    rw [h1, h2, show (cpM id nm ty).an.length = 0 from rfl, show (cpM id nm ty).au.length = 0 from rfl, h3]
    simp [cpM]
  rw [e, hh]
  unfold cpB
  simp
set_option maxRecDepth 100000 in
/-- each question's bytes are read as they were told -/
theorem cp_read (id i t : Nat) (hi : i ≤ 7) (ht : t = 1 ∨ t = 28 ∨ t = 5 ∨ t = 12 ∨ t = 6 ∨ t = 16) :
    lrunF (cpB id (plN i) t) 9 ⟨12, [], 0, 0, 0⟩ = some (some (plN i, 12 + (plN i).length + 2)) ∧ numF (cpB id (plN i) t) (12 + (plN i).length + 2) 2 = some (t, 12 + (plN i).length + 2 + 2) ∧
    numF (cpB id (plN i) t) (12 + (plN i).length + 2 + 2) 2 = some (1, 12 + (plN i).length + 2 + 4) ∧ (cpB id (plN i) t).length = 12 + (plN i).length + 6 := by
  rcases (show i = 0 ∨ i = 1 ∨ i = 2 ∨ i = 3 ∨ i = 4 ∨ i = 5 ∨ i = 6 ∨ i = 7 by omega) with rfl | rfl | rfl | rfl | rfl | rfl | rfl | rfl <;>
    rcases ht with rfl | rfl | rfl | rfl | rfl | rfl <;> exact ⟨by rfl, by rfl, by rfl, by rfl⟩
end Go.Proofs.YtogojnlfglbefaaDoor
