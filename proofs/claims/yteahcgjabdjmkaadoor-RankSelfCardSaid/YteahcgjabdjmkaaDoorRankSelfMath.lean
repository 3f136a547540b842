/-
  Plain facts for RankSelf: a local address that is the address itself is the best one; a row of local addresses that was appended. Each states its own conditions.
-/
import Derived.Test.YteahcgjabdjmkaaDoorRankKey
import Derived.Test.YteahcgjabdjmkaaDoorRankFlat
import Derived.Laws.AppendOwn
namespace Go.Proofs.YteahcgjabdjmkaaDoor
open Go.RowKit

theorem firstNZ_self {x b : LV} {t : List UInt8} (hx : x.addr = t) (hb : b.addr ≠ t) : 0 < cmpL x b t := by
  unfold cmpL
  have h1 : (x.addr == t) = true := by rw [hx]; exact beq_self_eq_true t
  have h2 : (b.addr == t) = false := beq_eq_false_iff_ne.2 hb
  rw [h1, h2, show cmpT true false = 1 from rfl, firstNZ, if_neg (by decide)]
  decide
/-- behind all others, the address itself wins -/
theorem self_best (ls : List LV) (t : List UInt8) (d h : Bool) : ∃ x, srcA (ls ++ [⟨t, d, h⟩]) t = some x ∧ x.addr = t := by
  unfold srcA
  rw [List.foldl_append]
  generalize ls.foldl (srcStep t) none = s
  rw [List.foldl_cons, List.foldl_nil]
  unfold srcStep
  rw [if_pos rfl]
  cases s with
  | none => exact ⟨_, rfl, rfl⟩
  | some b =>
    simp only
    by_cases hb : b.addr = t
    · split
      · exact ⟨_, rfl, rfl⟩
      · exact ⟨_, rfl, hb⟩
    · rw [if_pos (firstNZ_self rfl hb)]
      exact ⟨_, rfl, rfl⟩
theorem srcA_nil (t : List UInt8) : srcA [] t = none := rfl
theorem keyA_nil (t : List UInt8) : keyA [] t = [0, 0, 0, 0, 0, (PP t : Int), -(scopeR t : Int), 0] := rfl
theorem keyA_nil_eq (a b : List UInt8) : (keyA [] a = keyA [] b) ↔ (PP a = PP b ∧ scopeR a = scopeR b) := by
  rw [keyA_nil, keyA_nil]
  simp only [List.cons.injEq, true_and, and_true]
  constructor
  · rintro ⟨h1, h2⟩; exact ⟨by omega, by omega⟩
  · rintro ⟨h1, h2⟩; exact ⟨by omega, by omega⟩
/-- their cells, one behind the other -/
def flatL (ls : List LV) : List Value := (ls.map LV.cells).flatten
theorem flatL_len {ls : List LV} (hls : ∀ x ∈ ls, x.addr.length = 16) : (flatL ls).length = ls.length * 18 := by
  have := flat_len (s := 18) (l := ls.map LV.cells) (fun c hc => by
    obtain ⟨x, hx, rfl⟩ := List.mem_map.1 hc
    exact LV.size (hls x hx))
  rwa [List.length_map] at this
theorem flatL_snoc (ls : List LV) (x : LV) : flatL ls ++ x.cells = flatL (ls ++ [x]) := by
  unfold flatL; simp
theorem flatL_one (ls : List LV) : ∀ u ∈ flatL ls, u.oneCell' = true := fun u hu => by
  obtain ⟨c, hc, huc⟩ := List.mem_flatten.1 hu
  obtain ⟨x, _, rfl⟩ := List.mem_map.1 hc
  exact Array.all_eq_true'.1 (LV.one x) u (by simpa using huc)
theorem flatL_at {ls : List LV} (hls : ∀ x ∈ ls, x.addr.length = 16) {k j : Nat} {x : LV} {v : Value} (h : ls[k]? = some x) (hv : x.cells[j]? = some v) : (flatL ls)[k * 18 + j]? = some v := by
  have hx := hls x (List.mem_of_getElem? h)
  have hj : j < 18 := by have := (List.getElem?_eq_some_iff.1 hv).1; rw [LV.size hx] at this; exact this
  unfold flatL
  rw [flat_at (s := 18) (k := k) (j := j) (c := x.cells) (fun c hc => by
    obtain ⟨y, hy, rfl⟩ := List.mem_map.1 hc
    exact LV.size (hls y hy)) (by rw [List.getElem?_map, h]; rfl) hj]
  exact hv
/-- a row that lies in memory, as an append reads it -/
theorem locs_news {w : World} {b o : Nat} {ls : List LV} (hls : ∀ x ∈ ls, x.addr.length = 16) (hc : ∀ k c, (ls.map LV.cells)[k]? = some c → ∀ j v, c[j]? = some v → w.cell? ⟨b, o + k * 18 + j, none⟩ = some v) : ∀ j u, (flatL ls)[j]? = some u → w.cell? ((⟨b, o, none⟩ : Addr).add j) = some u := fun j u hj => by
  have hlt := (List.getElem?_eq_some_iff.1 hj).1
  rw [flatL_len hls] at hlt
  have hk : j / 18 < ls.length := (Nat.div_lt_iff_lt_mul (by decide)).2 hlt
  have hm := Nat.mod_lt j (show 0 < 18 by decide)
  have he : j = j / 18 * 18 + j % 18 := by omega
  have hx : ls[j / 18]? = some ls[j / 18] := List.getElem?_eq_getElem hk
  have hl := hls _ (List.mem_of_getElem? hx)
  have hq : j % 18 < (ls[j / 18]).cells.length := by rw [LV.size hl]; exact hm
  have hv : (ls[j / 18]).cells[j % 18]? = some ((ls[j / 18]).cells[j % 18]) := List.getElem?_eq_getElem hq
  have hf := flatL_at hls hx hv
  rw [← he, hj] at hf
  have hu := Option.some.inj hf
  rw [Addr.add_lit, show o + j = o + j / 18 * 18 + j % 18 by omega]
  exact hc (j / 18) _ (by rw [List.getElem?_map, hx]; rfl) (j % 18) u (by rw [hv, hu])
/-- a row that was appended, as Source reads it -/
theorem own_locs {w : World} {base : Nat} {v : Value} {ls : List LV} (hls : ∀ x ∈ ls, x.addr.length = 16) (h : w.ownsRow base 42 18 v ls.length (flatL ls)) : ∃ A cap, v = .slice A ls.length cap ∧ LocsAt w A ls := by
  rcases h.2 with ⟨hv, h0⟩ | ⟨g, cap, cur, hv, hb, hg, _⟩
  · exact ⟨none, 0, by rw [hv, h0], fun hl => by rw [List.length_map] at hl; omega⟩
  · refine ⟨some ⟨g, 0, none⟩, cap, hv, fun _ => ⟨g, 0, rfl, heap_lt hg, fun k c hk j u hu => ?_⟩⟩
    rw [List.getElem?_map] at hk
    cases hx : ls[k]? with
    | none => rw [hx] at hk; cases hk
    | some x =>
      rw [hx] at hk
      obtain rfl : x.cells = c := Option.some.inj hk
      have := h.cells (g := g) (by rw [hv]; rfl) (k * 18 + j) u (flatL_at hls hx hu)
      rw [Addr.add_lit] at this
      rw [show 0 + k * 18 + j = 0 + (k * 18 + j) by omega]
      exact this
theorem locs_nil (w : World) (A : Option Addr) : LocsAt w A [] := fun h => by cases h
theorem info_loc : ∃ (i : TypeInfo) (z : Value) (by' : Nat), Tryd.prog.info? 42 = some i ∧ i.zero = some z ∧ z.cells.size = 18 ∧ i.size = 18 ∧ i.bytes = by' ∧ by' ≤ 64 := by
  have h : (Tryd.prog.info? 42).map (fun i => (i.zero.map (·.cells.size), i.size, decide (i.bytes ≤ 64))) = some (some 18, 18, true) := by kernel_rfl
  cases hq : Tryd.prog.info? 42 with
  | none => rw [hq] at h; cases h
  | some i0 =>
    rw [hq] at h
    simp only [Option.map_some, Option.some.injEq, Prod.mk.injEq] at h
    cases hz : i0.zero with
    | none => rw [hz] at h; cases h.1
    | some z =>
      rw [hz] at h
      have h1 := h.1
      injection h1 with h1
      exact ⟨i0, z, _, rfl, hz, h1, h.2.1, rfl, of_decide_eq_true h.2.2⟩
end Go.Proofs.YteahcgjabdjmkaaDoor
