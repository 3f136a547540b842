/-
  Plain facts for MsgCounts: the bytes of its messages are read again. No condition.
-/
import Derived.Test.YtogojnlfglbefaaDoorMsgPl
namespace Go.Proofs.YtogojnlfglbefaaDoor

def nameC (b : List UInt8) (p : Nat) : Option (List UInt8 × Nat) := (nrunF b 9 ⟨p, [], 0, 0, 0⟩).getD none
def qC (b : List UInt8) (p : Nat) : Option ((List UInt8 × Nat) × Nat) :=
  (nameC b p).bind fun n => (numF b n.2 2).bind fun t => (numF b t.2 2).bind fun c => if c.1 = 1 then some ((n.1, t.1), c.2) else none
def recC (b : List UInt8) (p : Nat) : Option (Rec × Nat) :=
  (qC b p).bind fun q => (numF b q.2 4).bind fun t => (numF b t.2 2).bind fun z =>
    if q.1.2 = 2 ∨ q.1.2 = 5 ∨ q.1.2 = 12 then none
    else if z.2 + z.1 ≤ b.length then some (withD q.1.1 q.1.2 (min t.1 1048576) (cutB b z.2 z.1), z.2 + z.1) else none
def recsC (b : List UInt8) : Nat → Nat → Option (List Rec × Nat)
  | p, 0 => some ([], p)
  | p, n + 1 => (recC b p).bind fun r => (recsC b r.2 n).bind fun l => some (r.1 :: l.1, l.2)
theorem nameC_F {b : List UInt8} {p : Nat} {r : List UInt8 × Nat} (h : nameC b p = some r) : nameF b p = some r := by
  unfold nameC at h
  cases hr : nrunF b 9 ⟨p, [], 0, 0, 0⟩ with
  | none => rw [hr] at h; cases h
  | some q => rw [hr] at h; exact nameF_eq (nrunF_run (hr.trans (congrArg some h)))
theorem qC_F {b : List UInt8} {p : Nat} {r : (List UInt8 × Nat) × Nat} (h : qC b p = some r) : qF b p = some r := by
  unfold qC at h
  unfold qF
  cases hn : nameC b p with
  | none => rw [hn] at h; cases h
  | some n => rw [nameC_F hn]; rw [hn] at h; exact h
theorem recC_F {b : List UInt8} {p : Nat} {r : Rec × Nat} (h : recC b p = some r) : recF b p = some r := by
  unfold recC at h
  unfold recF
  cases hq : qC b p with
  | none => rw [hq] at h; cases h
  | some q =>
    rw [qC_F hq]
    rw [hq] at h
    rw [Option.bind_some] at h ⊢
    cases ht : numF b q.2 4 with
    | none => rw [ht] at h; cases h
    | some t =>
      rw [ht] at h
      rw [Option.bind_some] at h ⊢
      cases hz : numF b t.2 2 with
      | none => rw [hz] at h; cases h
      | some z =>
        rw [hz] at h
        rw [Option.bind_some] at h ⊢
        by_cases hk : q.1.2 = 2 ∨ q.1.2 = 5 ∨ q.1.2 = 12
        · rw [if_pos hk] at h; cases h
        · rw [if_neg hk] at h ⊢; exact h
theorem recsC_F {b : List UInt8} : ∀ {n p : Nat} {r : List Rec × Nat}, recsC b p n = some r → recsF b p n = some r
  | 0, _, _, h => h
  | n + 1, p, r, h => by
    unfold recsC at h
    unfold recsF
    cases hr : recC b p with
    | none => rw [hr] at h; cases h
    | some x =>
      rw [recC_F hr]
      rw [hr] at h
      rw [Option.bind_some] at h ⊢
      cases hl : recsC b x.2 n with
      | none => rw [hl] at h; cases h
      | some l => rw [recsC_F hl]; rw [hl] at h; exact h
def ctR (m : Nat) : Rec := ⟨[97], 1, 0, pre4 ++ [0, 0, 0, UInt8.ofNat m], [], []⟩
def ctM (m : Nat) : Msg := ⟨0, false, false, false, 0, [97], 1, List.replicate m (ctR m), []⟩
def ctB (m : Nat) : List UInt8 := [0, 0, 0, 0, 0, 1, 0, UInt8.ofNat m, 0, 0, 0, 0, 1, 97, 0, 0, 1, 0, 1] ++ (List.replicate m [192, 12, 0, 1, 0, 1, 0, 0, 0, 0, 0, 4, 0, 0, 0, UInt8.ofNat m]).flatten
def recEq (a b : Rec) : Bool := decide (a.nm = b.nm) && (decide (a.ty = b.ty) && (decide (a.ttl = b.ttl) && (decide (a.ad = b.ad) && (decide (a.tx = b.tx) && decide (a.da = b.da)))))
theorem recEq_eq {a b : Rec} (h : recEq a b = true) : a = b := by
  unfold recEq at h
  simp only [Bool.and_eq_true, decide_eq_true_eq] at h
  obtain ⟨h1, h2, h3, h4, h5, h6⟩ := h
  cases a; cases b
  simp only at h1 h2 h3 h4 h5 h6
  subst h1 h2 h3 h4 h5 h6
  rfl
def ctOk (m : Nat) (b : List UInt8) : Bool :=
  decide (12 ≤ b.length) && (decide (hd b 0 = 0) && (decide (hd b 1 = 0) && (decide (hd b 2 = 1) && (decide (hd b 3 = m) && (decide (hd b 4 = 0) &&
    (decide (qC b 12 = some (([97], 1), 19)) && match recsC b 19 m with | some l => decide (l.1.length = m) && l.1.all (recEq (ctR m)) | none => false))))))
theorem ct_enc : ∀ m : Fin 33, enc (ctM m.val) = ctB m.val := by decide +kernel
theorem ct_read : ∀ m : Fin 33, ctOk m.val (ctB m.val) = true := by decide +kernel
theorem ct_facts {m : Nat} (hm : m ≤ 32) : enc (ctM m) = ctB m ∧ 12 ≤ (ctB m).length ∧ hd (ctB m) 0 = 0 ∧ hd (ctB m) 1 = 0 ∧ hd (ctB m) 2 = 1 ∧ hd (ctB m) 3 = m ∧ hd (ctB m) 4 = 0 ∧ qF (ctB m) 12 = some (([97], 1), 19) ∧
    ∃ p, recsF (ctB m) 19 m = some (List.replicate m (ctR m), p) := by
  have h := ct_read ⟨m, by omega⟩
  unfold ctOk at h
  simp only [Bool.and_eq_true, decide_eq_true_eq] at h
  obtain ⟨h1, h2, h3, h4, h5, h6, h7, h8⟩ := h
  refine ⟨ct_enc ⟨m, by omega⟩, h1, h2, h3, h4, h5, h6, qC_F h7, ?_⟩
  cases hr : recsC (ctB m) 19 m with
  | none => rw [hr] at h8; cases h8
  | some l =>
    rw [hr] at h8
    simp only [Bool.and_eq_true, decide_eq_true_eq, List.all_eq_true] at h8
    obtain ⟨h9, h10⟩ := h8
    refine ⟨l.2, (recsC_F hr).trans (congrArg some ?_)⟩
    obtain ⟨l1, l2⟩ := l
    simp only at h9 h10 ⊢
    rw [List.eq_replicate_of_mem (fun x hx => (recEq_eq (h10 x hx)).symm), h9]
end Go.Proofs.YtogojnlfglbefaaDoor
