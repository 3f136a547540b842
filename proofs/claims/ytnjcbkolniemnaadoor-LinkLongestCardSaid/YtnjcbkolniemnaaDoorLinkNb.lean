/-
  The walk of Neighbours. Conditions: the table is of the call's own.
-/
import Derived.Test.YtnjcbkolniemnaaDoorLinkThose
namespace Go.Proofs.YtnjcbkolniemnaaDoor
open Go.RowKit Go.Shelf

theorem dots_l (s : ByteArray) (w : World) :
    Calls Tryd.prog 13 #[.string s] w fun e w' => e = .returned (.int .i64 (s.data.toList.count 46 : Nat)) ∧ w = w' := by
  have C := Tryd.strings_Count_one s 46 w
  have hc : Lib.countByte s.data.toList 46 = s.data.toList.count 46 := rfl
  rw [hc] at C
  have hle : s.data.toList.count 46 ≤ s.size := by rw [Lib.size_eq]; exact List.count_le_length
  revert C hle
  generalize s.data.toList.count 46 = c
  intro C hle
  go_enter Tryd.func13, Tryd.ntmps13
  go_wp2_with (go_at_call 30; refine C.mono ?_; rintro e w' ⟨rfl, rfl⟩)
  go_ret
  exact ⟨rfl, rfl⟩
theorem neigh1_e (s : Sl) (w : World) : Calls Tryd.prog 28 #[.agg s.lk.toArray] w fun e w' => e = .returned (.bool s.ll) ∧ Below w.heap.size w w' := by
  obtain ⟨live, gen, dA, dc, ds, df, ll, sA, sc, ns, ss, lA, lc, nl, ls, ca⟩ := s
  simp only [Sl.lk]
  go_enter Tryd.func28, Tryd.ntmps28
  go_wp2
  go_ret
  exact ⟨rfl, (Below.refl _ w).alloc (Nat.le_refl _) _⟩
/-- the numbers of the links that neighbours are asked on -/
def nbL (ss : List Sl) (n : ByteArray) : List Int := if n.data.toList.count 46 = 0 then numsOf (·.ll) (comeTo ss 4) else []
def NumPost (L : List Int) (w : World) (e : Ending) (w' : World) : Prop := ∃ v, e = .returned v ∧ w'.ownsRow w.heap.size 3 1 v L.length (ints L) ∧ Below w.heap.size w w'
theorem neighbours_e {base T last : Nat} {ss : List Sl} (n : ByteArray) (w : World) (h : TAt base w T ss last) : Calls Tryd.prog 11 #[.pointer (some ⟨T, 0, none⟩), .string n] w fun e w' => NumPost (nbL ss n) w e w' := by
  obtain ⟨a, b, c, d, rfl⟩ := h.abcd
  have C := dots_l n w
  by_cases h0 : n.data.toList.count 46 = 0
  · have HL := Lib.hid (show nbL [a, b, c, d] n = numsOf (·.ll) (comeTo [a, b, c, d] 4) by unfold nbL; rw [if_pos h0])
    have D := callsIn_wide.1 (those_n w h (·.ll) 6 (Nat.le_refl _) (fun W s _ _ _ _ => neigh1_e s W))
    rw [h0] at C
    clear h0
    go_enter Tryd.func11, Tryd.ntmps11
    go_wp2_with fail
    refine C.mono ?_; rintro e w' ⟨rfl, rfl⟩
    clear C
    go_wp2_with fail
    refine D.mono ?_; rintro e w' ⟨v, rfl, ho, hb⟩
    clear D
    obtain ⟨v0, v1, rfl⟩ := own_fm ho
    have HO := Lib.hid ho
    have HB := Lib.hid hb
    clear ho hb
    go_wp2
    go_ret
    exact ⟨_, rfl, by rw [HL.out]; exact HO.out, HB.out⟩
  · have HL := Lib.hid (show nbL [a, b, c, d] n = [] by unfold nbL; rw [if_neg h0])
    have h1 : 0 < n.data.toList.count 46 := by omega
    revert C h1
    generalize n.data.toList.count 46 = k at *
    intro C h1
    clear h0
    go_enter Tryd.func11, Tryd.ntmps11
    go_wp2_with fail
    refine C.mono ?_; rintro e w' ⟨rfl, rfl⟩
    go_wp2
    go_ret
    exact ⟨_, rfl, by rw [HL.out]; exact World.ownsRow_nil _ _ _ _, Below.refl _ _⟩
end Go.Proofs.YtnjcbkolniemnaaDoor
