/-
  What MsgCounts' walk stands on: its message, what All, Encode and Decode answer at it. Condition: the library's variable MaxLen holds some number.
-/
import Derived.Test.YtogojnlfglbefaaDoorMsgPlLib
import Derived.Test.YtogojnlfglbefaaDoorMsgAny
import Derived.Test.YtogojnlfglbefaaDoorMsgCtMath
namespace Go.Proofs.YtogojnlfglbefaaDoor
open Go.RowKit

def aS : ByteArray := ⟨#[97]⟩
def ctV (m : Nat) : RV := ⟨aS, 1, 0, pre4 ++ [0, 0, 0, UInt8.ofNat m], emp, emp⟩
def ctMV (A : Option Addr) (c m : Nat) : MV := ⟨0, false, false, false, 0, aS, 1, A, c, List.replicate m (ctV m), none, 0, []⟩
theorem ctMV_cells (A : Option Addr) (c m : Nat) : (ctMV A c m).cells = mC aS (.slice A m c) := by unfold ctMV MV.cells mC; simp
theorem ctV_ok : ∀ m : Fin 64, rvOk (ctV m.val) = true := by decide +kernel
theorem aS_ok : gosB aS = true := by decide +kernel
theorem allB_ct {m : Nat} (h : m ≤ 63) : allB (List.replicate m (ctV m)) = decide (m ≤ 32) := by
  have h1 := ctV_ok ⟨m, by omega⟩
  simp only at h1
  unfold allB
  simp only [List.length_replicate, List.all_replicate, h1]
  cases m <;> simp
theorem ctMV_ok (A : Option Addr) (c m : Nat) (h : m ≤ 63) : mvOk (ctMV A c m) = decide (m ≤ 32) := by
  unfold mvOk ctMV
  simp only [allB_ct h, aS_ok]
  have e : allB ([] : List RV) = true := rfl
  rw [e]
  show (true && (true && (true && (true && (decide (m ≤ 32) && true))))) = _
  simp
theorem ctV_fits (m : Nat) : (ctV m).Fits := ⟨rfl, (by decide : aS.size ≤ maxLen), (by decide : emp.size ≤ maxLen), (by decide : emp.size ≤ maxLen)⟩
theorem ctMV_fits (A : Option Addr) (c m : Nat) (h : m ≤ 63) : (ctMV A c m).Fits :=
  ⟨(by decide : aS.size ≤ maxLen), (fun r hr => by obtain rfl := List.eq_of_mem_replicate hr; exact ctV_fits m), (fun r hr => by cases hr), (by show (List.replicate m _).length ≤ _; rw [List.length_replicate]; omega), (by decide : ([] : List RV).length ≤ 9223372036854775807)⟩
theorem ctMV_lies {A : Option Addr} {c m : Nat} {W : World} (h : RecsAt W A (List.replicate m (ctV m))) : (ctMV A c m).Lies W := ⟨h, fun h => absurd h (by decide : ¬ 0 < ([] : List RV).length)⟩
theorem all_ct (m : Nat) (hm : m ≤ 63) (A : Option Addr) (c : Nat) (W : World) (hW : Env W) (h : RecsAt W A (List.replicate m (ctV m))) :
    Calls Tryd.prog 16 #[.agg (mC aS (.slice A m c))] W fun e w' => e = .returned (.bool (decide (m ≤ 32))) ∧ Below W.heap.size W w' := by
  have h := all_mv (ctMV A c m) (ctMV_fits A c m hm) W hW (ctMV_lies h)
  rw [ctMV_cells, ctMV_ok A c m hm] at h
  exact h.mono fun e w' h => ⟨h.1, h.2.1⟩
theorem encode_ct (m : Nat) (hm : m ≤ 32) (A : Option Addr) (c : Nat) (W : World) (hW : Env W) (hr : RecsAt W A (List.replicate m (ctV m))) :
    Calls Tryd.prog 15 #[.agg (mC aS (.slice A m c))] W fun e w' => ∃ (gb cap L : Nat), L = (ctB m).length ∧ e = .returned (.slice (some ⟨gb, 0, none⟩) L cap) ∧ L ≤ cap ∧ InB w' w'.heap.size (some ⟨gb, 0, none⟩) (ctB m) ∧ Below W.heap.size W w' := by
  have h := encode_any (ctMV A c m) (ctMV_fits A c m (by omega)) W hW (ctMV_lies hr) ((ctMV_ok A c m (by omega)).trans (decide_eq_true hm))
  have e : (ctMV A c m).msg = ctM m := by
    unfold ctMV MV.msg ctM
    simp only [List.map_replicate]
    rfl
  rw [ctMV_cells, e, (ct_facts hm).1] at h
  refine h.mono ?_
  rintro e w' ⟨gb, cap, h1, h2, h3⟩
  have h0 : 0 < (ctB m).length := by have := (ct_facts hm).2.1; omega
  obtain ⟨_, hcap, hin, _⟩ := enc_inB h2 h0
  exact ⟨gb, cap, _, rfl, h1, hcap, hin, h3⟩
theorem decode_ct (m : Nat) (hm : m ≤ 32) (gb cap L : Nat) (hL : L = (ctB m).length) (W : World) (hW : Env W) (hc : L ≤ cap) (hin : InB W W.heap.size (some ⟨gb, 0, none⟩) (ctB m)) :
    Calls Tryd.prog 14 #[.slice (some ⟨gb, 0, none⟩) L cap] W fun e w' => Below W.heap.size W w' ∧ ∃ (C : Array Value) (A' : Option Addr) (ca : Nat), e = .returned (.tuple #[.agg C, .int .i64 0]) ∧ C.size = 9 ∧ C.all (·.oneCell') = true ∧ C[7]? = some (.slice A' m ca) := by
  subst hL
  obtain ⟨_, h12, h0, h1, h2, h3, h4, hq, p, hr⟩ := ct_facts hm
  have hl : (ctB m).length ≤ 140737488351232 := by
    unfold ctB
    simp
    omega
  have HR := fun (W : World) (base g' : Nat) (o' : Option Nat) (hE : Env W) (hB : 0 < base) (h : RSt base W g' (some ⟨gb, 0, none⟩) cap (ctB m) o') => recordP base g' cap (some ⟨gb, 0, none⟩) (ctB m) o' W hE hB h
  refine (decode_good (some ⟨gb, 0, none⟩) cap (ctB m) W hW hin hc hl (fun h => by cases h) h12 (by rw [h1]; decide +kernel) h2 (by rw [h3, h4]; omega) HR hq (by rw [h3, h4]; exact hr)).mono ?_
  rintro e w' ⟨hb, v, e1, e2, e3, e4, e5, _, _, _, _, e6, hk⟩
  have f4 : v.an = List.replicate m (ctV m) := by
    rw [e4, h3]
    simp only [List.take_replicate, Nat.min_self, List.map_replicate]
    rfl
  have f5 : v.au = [] := by
    rw [e5, h3]
    simp
  have hok : mvOk v = true := by
    unfold mvOk
    rw [e1, e6, e2, e3, f4, f5, allB_ct (by omega), h0, h1, decide_eq_true hm]
    have g : gosB (bs [97]) = true := aS_ok
    simp only
    rw [g]
    decide +kernel
  refine ⟨hb, v.cells, v.A, v.ca, ?_, rfl, MV.one v, ?_⟩
  · rcases hk with ⟨_, h, _⟩ | ⟨h, _⟩
    · exact h
    · rw [hok] at h; cases h
  · show some (Value.slice v.A v.an.length v.ca) = _
    rw [f4, List.length_replicate]
end Go.Proofs.YtogojnlfglbefaaDoor
