/-
  Plain facts for MsgPlaces and for the test question: a name that stands in the table already is told by its place. No condition.
-/
import Derived.Test.YtakfokdjdljjjaaDoorMsgMath
namespace Go.Proofs.YtakfokdjdljjjaaDoor

/-- the few names that go out -/
def plNs : List (List UInt8) := [[97], [98, 46, 97], [119, 119, 119, 46, 98, 46, 97], [120, 110, 45, 45, 98, 99, 104, 101, 114, 45, 107, 118, 97, 46, 100, 101], [120, 95, 121, 46, 99, 111, 114, 112], [48], [99, 111, 114, 112], [99, 46, 98, 46, 97]]
def plN (i : Nat) : List UInt8 := plNs.getD i []
theorem pl_ok : ∀ i : Fin 8, (encQ 12 (fun _ => none) (plN i.val) 1).2 (plN i.val) = some 12 ∧ (encQ 12 (fun _ => none) (plN i.val) 1).1.length = (plN i.val).length + 6 ∧ jn (sp (plN i.val)) = plN i.val ∧ sp (plN i.val) ≠ [] ∧ nmOk (plN i.val) = true ∧ (plN i.val).length ≤ 16 := by decide +kernel
theorem encN_told {st : St} {nm : List UInt8} {p : Nat} (pos : Nat) (h : st nm = some p) (hj : jn (sp nm) = nm) (hne : sp nm ≠ []) : encN pos st (sp nm) = (be2 (49152 + p), st) := by
  obtain ⟨x, l, e⟩ := List.exists_cons_of_ne_nil hne
  rw [e] at hj ⊢
  simp only [encN, hj, h]
theorem encR_told {st : St} {nm ad : List UInt8} {p : Nat} (pos : Nat) (h : st nm = some p) (hj : jn (sp nm) = nm) (hne : sp nm ≠ []) : (encR pos st ⟨nm, 5, 0, ad, nm, []⟩).1.length = 14 ∧ (encR pos st ⟨nm, 5, 0, ad, nm, []⟩).2 = st := by
  have hq : ∀ pos, encQ pos st nm 5 = (be2 (49152 + p) ++ (be2 5 ++ be2 1), st) := fun pos => by unfold encQ; rw [encN_told pos h hj hne]
  have hd : ∀ pos, encD pos st ⟨nm, 5, 0, ad, nm, []⟩ = (be2 (49152 + p), st) := fun pos => by
    unfold encD
    rw [if_neg (show ¬ (5 : Nat) = 1 by decide), if_neg (show ¬ (5 : Nat) = 28 by decide), if_pos (show (5 : Nat) = 2 ∨ (5 : Nat) = 5 ∨ (5 : Nat) = 12 by decide)]
    exact encN_told pos h hj hne
  unfold encR
  simp only [hq, hd]
  exact ⟨rfl, trivial⟩
theorem encRs_told {st : St} {nm ad : List UInt8} {p : Nat} (h : st nm = some p) (hj : jn (sp nm) = nm) (hne : sp nm ≠ []) (t : Nat) : ∀ pos, (encRs pos st (List.replicate t ⟨nm, 5, 0, ad, nm, []⟩)).1.length = 14 * t := by
  induction t with
  | zero => intro pos; rfl
  | succ t ih =>
    intro pos
    obtain ⟨h1, h2⟩ := encR_told (ad := ad) pos h hj hne
    rw [List.replicate_succ]
    unfold encRs
    rw [List.length_append, h1, h2, ih]
    omega
theorem be2_len (n : Nat) : (be2 n).length = 2 := rfl
theorem enc_pl {i : Nat} (hi : i < 8) (ad : List UInt8) (t : Nat) : (enc ⟨0, false, false, false, 0, plN i, 1, List.replicate t ⟨plN i, 5, 0, ad, plN i, []⟩, []⟩).length = 12 + (plN i).length + 6 + 14 * t := by
  obtain ⟨h1, h2, h3, h4, _⟩ := pl_ok ⟨i, hi⟩
  simp only at h1 h2 h3 h4
  have hA : (encA ⟨0, false, false, false, 0, plN i, 1, List.replicate t ⟨plN i, 5, 0, ad, plN i, []⟩, []⟩) = encQ 12 (fun _ => none) (plN i) 1 := rfl
  unfold enc encB encC
  rw [hA]
  simp only [List.length_append, h2, encRs_told h1 h3 h4]
  simp only [encRs, List.length_nil, headB, List.length_append, be2_len]
  omega
def fitB : List UInt8 := [1, 2, 0, 0, 0, 1, 0, 0, 0, 0, 0, 0, 1, 97, 0, 0, 1, 0, 1]
theorem enc_fit : enc ⟨258, false, false, false, 0, [97], 1, [], []⟩ = fitB := by decide +kernel
theorem fit_name : nameF fitB 12 = some ([97], 15) := nameF_eq (nrunF_run (n := 5) (by decide +kernel))
theorem fit_q : qF fitB 12 = some (([97], 1), 19) := by
  unfold qF
  rw [fit_name, Option.bind_some]
  have h1 : numF fitB 15 2 = some (1, 17) := by decide +kernel
  have h2 : numF fitB 17 2 = some (1, 19) := by decide +kernel
  rw [h1, Option.bind_some, h2]
  rfl
theorem fit_nums : numF fitB 0 2 = some (258, 2) ∧ numF fitB 2 2 = some (0, 4) ∧ numF fitB 4 2 = some (1, 6) ∧ numF fitB 6 2 = some (0, 8) ∧ numF fitB 8 2 = some (0, 10) ∧ numF fitB 10 2 = some (0, 12) := by decide +kernel
end Go.Proofs.YtakfokdjdljjjaaDoor
