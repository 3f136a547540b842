/-
  What the walk of puny.Encode leans on: how its loops stand, and what each step does to that. Conditions: each states its own.
-/
import Derived.Test.YtclfmokdjmnjcaaGreatDoorPunyAny
import Derived.Laws.IdiomStrings
import Derived.Lib.BufferRead
import Derived.Deep.AppendLies
namespace Go.Proofs.YtclfmokdjmnjcaaGreatDoor
open Go.RowKit

/-- what is written ahead of the digits -/
def preB (l : List Nat) : List UInt8 := if (l.filter (· < 128)).map UInt8.ofNat = [] then [] else (l.filter (· < 128)).map UInt8.ofNat ++ [45]
theorem preB_shp (l : List Nat) (ds : List UInt8) : preB l ++ ds = shp ((l.filter (· < 128)).map UInt8.ofNat) ds := by
  unfold preB shp
  split <;> simp
theorem preB_none {l : List Nat} (h : (l.filter (· < 128)).length = 0) : (l.filter (· < 128)).map UInt8.ofNat = [] ∧ preB l = [] := by
  have e : (l.filter (· < 128)).map UInt8.ofNat = [] := by rw [List.length_eq_zero_iff.1 h]; rfl
  refine ⟨e, ?_⟩
  unfold preB; rw [if_pos e]
theorem preB_some {l : List Nat} (h : 0 < (l.filter (· < 128)).length) : preB l = (l.filter (· < 128)).map UInt8.ofNat ++ [45] := by
  unfold preB
  rw [if_neg]
  intro e
  have := congrArg List.length e
  rw [List.length_map, List.length_nil] at this; omega
theorem own_form {w : World} {base n : Nat} {e : TypeId} {k : Nat} {v : Value} {xs : List Value} (h : w.ownsRow base e k v n xs) : ∃ B cap, v = .slice B n cap := by
  rcases h.2 with ⟨rfl, rfl⟩ | ⟨g, cap, _, rfl, _⟩
  · exact ⟨_, _, rfl⟩
  · exact ⟨_, _, rfl⟩
theorem own_len {w : World} {base n : Nat} {v : Value} {xs : List UInt8} (h : w.ownsRow base 5 1 v n (bvs xs)) : n = xs.length := by
  have := h.1; unfold bvs at this; rw [List.length_map] at this; omega
/-- a row of the call's own, as a string -/
theorem own_string {w : World} {base n : Nat} {v : Value} {xs : List UInt8} (h : w.ownsRow base 5 1 v n (bvs xs)) : (convert 34 9 v).run Tryz.prog w = .ok (.string ⟨xs.toArray⟩) w := by
  have hl := own_len h
  rcases Nat.eq_zero_or_pos n with h0 | h0
  · subst h0
    have e : xs = [] := List.length_eq_zero_iff.1 hl.symm
    subst e
    rcases h.2 with ⟨rfl, _⟩ | ⟨g, cap, _, rfl, _⟩
    · exact Lib.run_convert_nil_bytes w 34 9 5 0 Tryz.underlying34 Tryz.underlying5 Tryz.underlying9
    · exact run_convert_bytes_back (P := Tryz.prog) w 34 9 5 ⟨g, 0, none⟩ cap [] Tryz.underlying34 Tryz.underlying5 Tryz.underlying9 (fun j hj => by simp at hj)
  · obtain ⟨g, cap, rfl, _, hlt⟩ := h.form h0
    have := run_convert_bytes_back (P := Tryz.prog) w 34 9 5 ⟨g, 0, none⟩ cap xs Tryz.underlying34 Tryz.underlying5 Tryz.underlying9 (fun j hj => by
      rw [Addr.add_lit, Nat.zero_add, h.cellAt j (by omega)]
      unfold bvs
      rw [List.getElem?_map, List.getElem?_eq_getElem hj]; rfl)
    rw [← hl] at this
    exact this

/-- how Encode's loops stand: all runes below a are written, and of those that are a the ones ahead of place j -/
structure EncAt (base : Nat) (w wq : World) (l : List Nat) (v : Value) (a j delta b dn : Nat) : Prop where
  row : ∃ m ws, wq.ownsRow base 5 1 v m (bvs (preB l ++ ws.map sg)) ∧ Enc l a j delta b ws ∧ m ≤ 64 + dn * 80000000
  below : Below base w wq
  dn : dn = (sel l a j).length
  bb : b ≤ 10000000000
theorem sel_le (l : List Nat) (a j : Nat) : (sel l a j).length ≤ l.length := by
  unfold sel
  conv => rhs; rw [← List.take_append_drop j l]
  simp only [List.length_append]
  have := List.length_filter_le (· < a + 1) (l.take j)
  have := List.length_filter_le (· < a) (l.drop j)
  omega
theorem EncAt.start {base : Nat} {w wq : World} {l : List Nat} {v : Value} {m : Nat} (h : wq.ownsRow base 5 1 v m (bvs (preB l))) (hb : Below base w wq) (hm : m ≤ 64) : EncAt base w wq l v 128 0 0 72 (l.filter (· < 128)).length :=
  ⟨⟨m, [], by simpa using h, Enc.start l, by omega⟩, hb, by rw [sel_zero], by omega⟩
theorem EncAt.delta_le {base : Nat} {w wq : World} {l : List Nat} {v : Value} {a j delta b dn : Nat} (h : EncAt base w wq l v a j delta b dn) (hl : l.length ≤ 63) : delta ≤ a * 64 + 63 := by
  obtain ⟨m, ws, _, h2, _⟩ := h.row
  exact h2.bound hl
theorem EncAt.dn_le {base : Nat} {w wq : World} {l : List Nat} {v : Value} {a j delta b dn : Nat} (h : EncAt base w wq l v a j delta b dn) : dn ≤ l.length := by rw [h.dn]; exact sel_le _ _ _
theorem EncAt.less {base : Nat} {w wq : World} {l : List Nat} {v : Value} {a j delta b dn : Nat} (h : EncAt base w wq l v a j delta b dn) (hj : j < l.length) (ha : l.getD j 0 < a) : EncAt base w wq l v a (j + 1) (delta + 1) b dn := by
  rw [getD_at hj] at ha
  obtain ⟨m, ws, h1, h2, h3⟩ := h.row
  exact ⟨⟨m, ws, h1, h2.less hj ha, h3⟩, h.below, by rw [(sel_less hj ha).1]; exact h.dn, h.bb⟩
theorem EncAt.more {base : Nat} {w wq : World} {l : List Nat} {v : Value} {a j delta b dn : Nat} (h : EncAt base w wq l v a j delta b dn) (hj : j < l.length) (ha : a < l.getD j 0) : EncAt base w wq l v a (j + 1) delta b dn := by
  rw [getD_at hj] at ha
  obtain ⟨m, ws, h1, h2, h3⟩ := h.row
  exact ⟨⟨m, ws, h1, h2.more hj ha, h3⟩, h.below, by rw [(sel_more hj ha).1]; exact h.dn, h.bb⟩
theorem EncAt.same {base : Nat} {w wq w' : World} {l : List Nat} {v : Value} {a j delta b dn m : Nat} {ws : List Nat} (h : EncAt base w wq l v a j delta b dn) (he : Enc l a j delta b ws) (hm : m ≤ 64 + dn * 80000000) (hj : j < l.length) (ha : l.getD j 0 = a) (hv : okR a) (hl : l.length ≤ 63)
    {v' : Value} {n' : Nat} (hown : w'.ownsRow base 5 1 v' n' (bvs ((preB l ++ ws.map sg) ++ (dgs 36 b delta).map sg))) (hb : Below base wq w') (hn : n' ≤ m + delta + 1) : EncAt base w w' l v' a (j + 1) 0 (adp delta (dn + 1) (dn == (l.filter (· < 128)).length)) (dn + 1) := by
  rw [getD_at hj] at ha
  have hd := h.delta_le hl
  have ha' := okR_le hv
  refine ⟨⟨n', ws ++ dgs 36 b delta, by rw [List.map_append, ← List.append_assoc]; exact hown, ?_, by omega⟩, h.below.trans hb, ?_, ?_⟩
  · rw [h.dn]; exact he.same hj ha hv
  · rw [(sel_same hj ha).1, ins_length (selP_le _ _ _), h.dn]
  · have := adp_le delta (dn + 1) (dn == (l.filter (· < 128)).length); omega
theorem EncAt.jump {base : Nat} {w wq : World} {l : List Nat} {v : Value} {a delta b dn : Nat} (h : EncAt base w wq l v a 0 delta b dn) (ha : a ≤ 1114111) : EncAt base w wq l v (lst l a) 0 (delta + (lst l a - a) * (dn + 1)) b dn := by
  obtain ⟨m, ws, h1, h2, h3⟩ := h.row
  obtain ⟨j1, j2⟩ := h2.jump ha
  have hdn := h.dn
  rw [sel_zero] at hdn
  refine ⟨⟨m, ws, h1, by rw [hdn]; exact j1, h3⟩, h.below, by rw [sel_zero, j2]; exact hdn, h.bb⟩
theorem EncAt.next {base : Nat} {w wq : World} {l : List Nat} {v : Value} {a delta b dn j : Nat} (h : EncAt base w wq l v a j delta b dn) (hj : j = l.length) : EncAt base w wq l v (a + 1) 0 (delta + 1) b dn := by
  subst hj
  obtain ⟨m, ws, h1, h2, h3⟩ := h.row
  refine ⟨⟨m, ws, h1, h2.next, h3⟩, h.below, ?_, h.bb⟩
  rw [h.dn, sel_zero, sel_end]
theorem EncAt.room {base : Nat} {w wq : World} {l : List Nat} {v : Value} {a delta b dn : Nat} (h : EncAt base w wq l v a 0 delta b dn) (hlt : dn < l.length) (hv : ∀ r ∈ l, okR r) : a ≤ 1114111 := by
  have hdn := h.dn
  rw [sel_zero] at hdn
  obtain ⟨r, hr, hge⟩ := exists_ge (l := l) (a := a) (by omega)
  have := okR_le (hv r hr)
  omega
theorem EncAt.done {base : Nat} {w wq : World} {l : List Nat} {v : Value} {a delta b dn : Nat} (h : EncAt base w wq l v a 0 delta b dn) (hd : ¬ dn < l.length) : ∃ m t, wq.ownsRow base 5 1 v m (bvs t) ∧ PunyW t l ∧ m ≤ 10000000000 ∨ 63 < l.length := by
  rcases Nat.lt_or_ge 63 l.length with h63 | h63
  · exact ⟨0, [], .inr h63⟩
  obtain ⟨m, ws, h1, h2, h3⟩ := h.row
  have hdn := h.dn
  rw [sel_zero] at hdn
  have hle := h.dn_le
  refine ⟨m, preB l ++ ws.map sg, .inl ⟨h1, ?_, by omega⟩⟩
  rw [preB_shp]
  exact punyW_of h2.dig (h2.done (by omega))

/-- what Encode answers to runes -/
def EncPost (w : World) (l : List Nat) (e : Ending) (w' : World) : Prop := ∃ t : List UInt8, PunyW t l ∧ Below w.heap.size w w' ∧
  ((t.length ≤ 63 ∧ e = .returned (.tuple #[.string ⟨t.toArray⟩, .int .i64 0])) ∨ (63 < t.length ∧ e = .returned (.tuple #[.string ⟨#[]⟩, .int .i64 2])))
theorem adp_at (x y : Int) (fb : Bool) (delta count : Nat) (f : Bool) (w : World) (hx : x = delta) (hy : y = count) (hf : fb = f) (hd : delta ≤ 1000000000000) (hc : 1 ≤ count) (hc2 : count ≤ 1000000) :
    Calls Tryz.prog 99 #[.int .i64 x, .int .i64 y, .bool fb] w fun e w' => e = .returned (.int .i64 (adp delta count f)) ∧ w = w' := by
  subst hx hy hf; exact adp_any delta count fb w hd hc hc2
end Go.Proofs.YtclfmokdjmnjcaaGreatDoor
