/-
  Plain facts for MsgHeads: its message's bytes, and what is none of the changed ones. No condition.
-/
import Derived.Test.YtfipfmloplggiaaDoorMsgPl
namespace Go.Proofs.YtfipfmloplggiaaDoor

def hmM (id : Nat) : Msg := ⟨id, false, false, false, 0, [97, 46, 98], 1, [⟨[97, 46, 98], 16, 0, zero16, [], [120]⟩], []⟩
def hmB (id : Nat) : List UInt8 := be2 id ++ [0, 0, 0, 1, 0, 1, 0, 0, 0, 0, 1, 97, 1, 98, 0, 0, 1, 0, 1, 192, 12, 0, 16, 0, 1, 0, 0, 0, 0, 0, 1, 120]
theorem hm_tail : (encA (hmM 0)).1 ++ ((encB (hmM 0)).1 ++ (encC (hmM 0)).1) = [1, 97, 1, 98, 0, 0, 1, 0, 1, 192, 12, 0, 16, 0, 1, 0, 0, 0, 0, 0, 1, 120] := by decide +kernel
theorem hm_enc (id : Nat) : enc (hmM id) = hmB id := by
  have e : enc (hmM id) = headB (hmM id) ++ ((encA (hmM 0)).1 ++ ((encB (hmM 0)).1 ++ (encC (hmM 0)).1)) := rfl
  have hh : headB (hmM id) = be2 id ++ [0, 0, 0, 1, 0, 1, 0, 0, 0, 0] := by
    unfold headB
    have h1 : be2 (bitsN (hmM id)) = [0, 0] := by simp [bitsN, hmM, be2]
    have h2 : be2 1 = [0, 1] := by decide
    have h3 : be2 0 = [0, 0] := by decide
    rw [h1, h2, show (hmM id).an.length = 1 from rfl, show (hmM id).au.length = 0 from rfl, h2, h3]
    simp [hmM]
  rw [e, hm_tail, hh]
  unfold hmB
  rw [List.append_assoc]
  rfl
theorem hm_len (id : Nat) : (hmB id).length = 34 := rfl
/-- a byte changed -/
def hmS (id : Nat) (k : Nat) (x : UInt8) : List UInt8 := (hmB id).set k x
theorem hm_name2 (id : Nat) : nameF (hmS id 20 2) 12 = some ([97, 46, 98], 17) := nameF_eq (nrunF_run (n := 9) (by rfl))
theorem hm_q2 (id : Nat) : qF (hmS id 20 2) 12 = none := by
  unfold qF
  rw [hm_name2, Option.bind_some]
  have h1 : numF (hmS id 20 2) 17 2 = some (1, 19) := by rfl
  have h2 : numF (hmS id 20 2) 19 2 = some (2, 21) := by rfl
  rw [h1, Option.bind_some, h2]
  rfl
theorem hm_name3 (id : Nat) (k : Nat) (x : UInt8) (h : (k = 22 ∧ x = 40) ∨ (k = 21 ∧ x = 255)) : nameF (hmS id k x) 12 = some ([97, 46, 98], 17) ∧ nameF (hmS id k x) 21 = none ∧ numF (hmS id k x) 17 2 = some (1, 19) ∧ numF (hmS id k x) 19 2 = some (1, 21) := by
  rcases h with ⟨rfl, rfl⟩ | ⟨rfl, rfl⟩
  · exact ⟨nameF_eq (nrunF_run (n := 9) (by rfl)), nameF_eq (nrunF_run (n := 9) (by rfl)), by rfl, by rfl⟩
  · exact ⟨nameF_eq (nrunF_run (n := 9) (by rfl)), nameF_eq (nrunF_run (n := 9) (by rfl)), by rfl, by rfl⟩
theorem hm_q3 (id : Nat) (k : Nat) (x : UInt8) (h : (k = 22 ∧ x = 40) ∨ (k = 21 ∧ x = 255)) : ((qF (hmS id k x) 12).bind fun q => recsF (hmS id k x) q.2 1) = none := by
  obtain ⟨h1, h2, h3, h4⟩ := hm_name3 id k x h
  have hq : qF (hmS id k x) 12 = some (([97, 46, 98], 1), 21) := by
    unfold qF
    rw [h1, Option.bind_some, h3, Option.bind_some, h4]
    rfl
  rw [hq, Option.bind_some]
  show ((recF (hmS id k x) 21).bind _) = none
  have hr : recF (hmS id k x) 21 = none := by
    unfold recF qF
    rw [h2]
    rfl
  rw [hr]
  rfl
end Go.Proofs.YtfipfmloplggiaaDoor
