/-
  A fold as it lies in memory, and the walks of resolve.New, At, Reply and leave. Conditions: outcomes have no records; kinds are 1 to 5; at most 1000 sources.
-/
import Derived.Test.YtepcogbfoemcmaaDoorResBoth
namespace Go.Proofs.YtepcogbfoemcmaaDoor
open Go.RowKit

def svs (l : List Sr) : List Value := l.flatMap fun s => s.cells.toList
theorem svs_snoc (l : List Sr) (s : Sr) : svs (l ++ [s]) = svs l ++ s.cells.toList := by unfold svs; rw [List.flatMap_append]; simp
theorem svs_len : ∀ l : List Sr, (svs l).length = l.length * 6
  | [] => rfl
  | s :: l => by
    have ih := svs_len l
    unfold svs at ih ⊢
    rw [List.flatMap_cons, List.length_append, ih, List.length_cons]
    show 6 + _ = _
    omega
theorem svs_at : ∀ {l : List Sr} {i : Nat} {s : Sr} {j : Nat}, l[i]? = some s → j < 6 → (svs l)[i * 6 + j]? = s.cells.toList[j]?
  | [], _, _, _, h, _ => by simp at h
  | x :: l, 0, s, j, h, hj => by
    obtain rfl : x = s := by simpa using h
    unfold svs
    rw [List.flatMap_cons, Nat.zero_mul, Nat.zero_add, List.getElem?_append_left (by show j < 6; exact hj)]
  | x :: l, i + 1, s, j, h, hj => by
    have ih := svs_at (l := l) (i := i) (s := s) (j := j) (by simpa using h) hj
    unfold svs at ih ⊢
    rw [List.flatMap_cons, List.getElem?_append_right (by show 6 ≤ _; omega), ← ih]
    congr 1
    show (i + 1) * 6 + j - 6 = _
    omega
theorem svs_one (l : List Sr) : ∀ u ∈ svs l, u.oneCell' = true := fun u hu => by
  unfold svs at hu
  obtain ⟨s, _, h⟩ := List.mem_flatMap.1 hu
  simp [Sr.cells] at h
  rcases h with rfl | rfl | rfl | rfl | rfl | rfl <;> rfl
/-- a fold -/
structure Fo where
  os : List Sr
  n : Int
  asks : Bool
  src : Nat
  cand : Nat
  came : Oc
def Fo.cells (A : Option Addr) (c : Nat) (f : Fo) : Array Value := #[.slice A f.os.length c, .int .i64 f.n, .bool f.asks, .int .i64 f.src, .int .i64 f.cand, .int .i64 f.came.s, .int .i64 f.came.c, .int .i64 f.came.k, .slice none 0 0]
def SrcIn (w : World) (g : Nat) (A : Option Addr) (os : List Sr) : Prop :=
  os ≠ [] → ∃ b, A = some ⟨b, 0, none⟩ ∧ b ≠ g ∧ b < w.heap.size ∧ ∀ i s, os[i]? = some s → ∀ j v, s.cells.toList[j]? = some v → w.cell? ((⟨b, i * 6, none⟩ : Addr).add j) = some v
structure FoldAt (w : World) (g : Nat) (A : Option Addr) (c : Nat) (f : Fo) : Prop where
  blk : w.heap[g]? = some (.cells (f.cells A c) 73 (0, 0))
  row : SrcIn w g A f.os
theorem FoldAt.below {w w' : World} {g : Nat} {A : Option Addr} {c : Nat} {f : Fo} (h : FoldAt w g A c f) (hb : Below w.heap.size w w') : FoldAt w' g A c f :=
  ⟨(hb.block _ (heap_lt h.blk)).trans h.blk, fun h0 => by
    obtain ⟨b, e, hne, hlt, hc⟩ := h.row h0
    exact ⟨b, e, hne, Nat.lt_of_lt_of_le hlt hb.size, fun i s hi j v hj => (hb.cell (p := (⟨b, i * 6, none⟩ : Addr).add j) (by rw [Addr.add_lit]; exact hlt)).trans (hc i s hi j v hj)⟩⟩
theorem FoldAt.put {w w' : World} {g : Nat} {A : Option Addr} {c : Nat} {f f' : Fo} (h : FoldAt w g A c f) (hw : w.grownBy w' (some g)) (ho : f'.os = f.os) (hb : w'.heap[g]? = some (.cells (f'.cells A c) 73 (0, 0))) : FoldAt w' g A c f' :=
  ⟨hb, fun h0 => by
    rw [ho] at h0 ⊢
    obtain ⟨b, e, hne, hlt, hc⟩ := h.row h0
    refine ⟨b, e, hne, Nat.lt_of_lt_of_le hlt hw.size, fun i s hi j v hj => hw.cell (hc i s hi j v hj) (by rw [Addr.add_lit]; intro e; exact hne (by injection e))⟩⟩
theorem sizeF9 : (Tryd.prog.info? 73).map (·.size) = some 9 := by kernel_rfl
theorem builtO (k : Int) : Tryd.prog.built 29 [(2, .int .i64 k)] = some (Oc.cells ⟨0, 0, k⟩) := by kernel_rfl
/-- what New makes -/
def newF (os : List Sr) (n : Int) : Fo := ⟨os, n, decide (0 < os.length) && decide (0 < n), 0, 0, ⟨0, 0, 3⟩⟩
def NwPost (os : List Sr) (n : Int) (w : World) (e : Ending) (w' : World) : Prop := ∃ g A c, e = .returned (.pointer (some ⟨g, 0, none⟩)) ∧ w.heap.size ≤ g ∧ FoldAt w' g A c (newF os n) ∧ Below w.heap.size w w'
set_option maxRecDepth 100000 in
set_option maxHeartbeats 2000000 in
theorem new_e (os : List Sr) (n : Int) (v : Value) (hn : os.length ≤ 1000) (w : World) (h : RowIn 6 w v os.length (svs os)) : Calls Tryd.prog 23 #[v, .int .i64 n] w (NwPost os n w) := by
  have hC := clone_src h hn
  obtain ⟨A0, c0, rfl⟩ := h.form
  have HN : Hid (newF os n = ⟨os, n, decide (0 < os.length) && decide (0 < n), 0, 0, ⟨0, 0, 3⟩⟩) := Lib.hid rfl
  have HOF : Hid (∀ (w1 : World) (v1 : Value), w1.ownsRow w.heap.size 44 6 v1 os.length (svs os) → ∃ A c, v1 = .slice A os.length c ∧ ∀ (w2 : World) (ak : Bool), (w1.alloc (.cells #[.slice A os.length c, .int .i64 n, .bool ak, .int .i64 0, .int .i64 0, .int .i64 0, .int .i64 0, .int .i64 3, .slice none 0 0] 73)) = w2 → (decide (0 < os.length) && decide (0 < n)) = ak → FoldAt w2 w1.heap.size A c (newF os n)) := Lib.hid (fun w1 v1 ho => by
    have hcs : ∀ g : Nat, v1.ownBlock = some g → ∀ k u, (svs os)[k]? = some u → w1.cell? ⟨g, k, none⟩ = some u := fun g hg k u hu => by
      have := ho.cells (g := g) hg k u hu
      rwa [Addr.add_lit, Nat.zero_add] at this
    obtain ⟨A, c, rfl⟩ : ∃ A c, v1 = .slice A os.length c := by
      rcases ho.2 with ⟨rfl, h0⟩ | ⟨g, cap, cs, rfl, _⟩
      · exact ⟨none, 0, by rw [h0]⟩
      · exact ⟨_, cap, rfl⟩
    refine ⟨A, c, rfl, fun w2 ak e1 e2 => ?_⟩
    subst e1 e2
    refine ⟨heap_alloc_last w1 _, fun h0 => ?_⟩
    rcases ho.2 with ⟨hv, h1⟩ | ⟨g, cap, cs, hv, hb, hg, _⟩
    · exact absurd (List.length_eq_zero_iff.1 h1) h0
    · injection hv with hA _ hc
      subst hA hc
      refine ⟨g, rfl, Nat.ne_of_lt (heap_lt hg), Nat.lt_of_lt_of_le (heap_lt hg) (by simp), fun i s hi j v hj => ?_⟩
      have hj6 : j < 6 := (List.getElem?_eq_some_iff.1 hj).1
      rw [Addr.add_lit, World.cell?_alloc_old (h := Nat.ne_of_lt (heap_lt hg))]
      exact hcs g rfl _ _ (by rw [svs_at (l := os) hi hj6]; exact hj))
  clear HN
  have hlen : (os.length : Int) ≤ 1000 := by omega
  clear h
  by_cases h0 : 0 < os.length
  · have h0I : (0 : Int) < (os.length : Int) := by omega
    by_cases hn0 : 0 < n
    · have HK : Hid ((decide (0 < os.length) && decide (0 < n)) = true) := Lib.hid (by simp [h0, hn0])
      clear h0
      go_enter Tryd.func23, Tryd.ntmps23
      go_wp2_with fail
      refine hC.mono ?_
      rintro e w1 ⟨v1, rfl, ho, hb1⟩
      obtain ⟨A, c, rfl, hf⟩ := HOF.out w1 v1 ho
      have HF := Lib.hid hf
      have HB := Lib.hid hb1
      clear hC ho hf hb1 HOF
      go_wp2_with fail
      go_ret
      exact ⟨_, A, c, rfl, HB.out.size, HF.out _ _ rfl HK.out, HB.out.alloc HB.out.size _⟩
    · have HK : Hid ((decide (0 < os.length) && decide (0 < n)) = false) := Lib.hid (by simp [h0, hn0])
      have hn1 : decide (0 < n) = false := decide_eq_false hn0
      clear hn0 h0
      go_enter Tryd.func23, Tryd.ntmps23
      go_wp2_with fail
      refine hC.mono ?_
      rintro e w1 ⟨v1, rfl, ho, hb1⟩
      obtain ⟨A, c, rfl, hf⟩ := HOF.out w1 v1 ho
      have HF := Lib.hid hf
      have HB := Lib.hid hb1
      clear hC ho hf hb1 HOF
      go_wp2_with fail
      go_ret
      exact ⟨_, A, c, rfl, HB.out.size, HF.out _ _ rfl HK.out, HB.out.alloc HB.out.size _⟩
  · have h0I : ¬ (0 : Int) < (os.length : Int) := by omega
    have HK : Hid ((decide (0 < os.length) && decide (0 < n)) = false) := Lib.hid (by simp [h0])
    clear h0
    go_enter Tryd.func23, Tryd.ntmps23
    go_wp2_with fail
    refine hC.mono ?_
    rintro e w1 ⟨v1, rfl, ho, hb1⟩
    obtain ⟨A, c, rfl, hf⟩ := HOF.out w1 v1 ho
    have HF := Lib.hid hf
    have HB := Lib.hid hb1
    clear hC ho hf hb1 HOF
    go_wp2_with fail
    go_ret
    exact ⟨_, A, c, rfl, HB.out.size, HF.out _ _ rfl HK.out, HB.out.alloc HB.out.size _⟩
set_option maxRecDepth 100000 in
theorem reply_e {w : World} {g c : Nat} {A : Option Addr} {f : Fo} (h : FoldAt w g A c f) : Calls Tryd.prog 24 #[.pointer (some ⟨g, 0, none⟩)] w fun e w' => e = .returned (.agg f.came.cells) ∧ Below w.heap.size w w' := by
  have HZ := Lib.hid zeroO
  have HS := Lib.hid (sizeO f.came)
  have HE : Hid (zO.cells.size = f.came.cells.size) := Lib.hid rfl
  have H1 := Lib.hid f.came.one
  have HCO := Lib.hid (fun W => copied_e f.came W)
  have hcs : ∀ j v, f.came.cells.toList[j]? = some v → (f.cells A c)[5 + j]? = some v := fun j v hj => by
    have hj4 : j < 4 := (List.getElem?_eq_some_iff.1 hj).1
    rcases (show j = 0 ∨ j = 1 ∨ j = 2 ∨ j = 3 by omega) with rfl | rfl | rfl | rfl <;> exact hj
  have HB := Lib.hid ((Below.refl _ w).alloc (Nat.le_refl _) (.cells zO.cells 29))
  have HM := Lib.hid (heap_alloc_last w (.cells zO.cells 29))
  have HC : Hid (∀ j v, f.came.cells.toList[j]? = some v → (w.alloc (.cells zO.cells 29)).cell? ((⟨g, 5, none⟩ : Addr).add j) = some v) := Lib.hid (fun j v hj => by
    rw [Addr.add_lit]
    exact (cell_of_row _ g (5 + j) _ _ _ ((HB.out.block _ (heap_lt h.blk)).trans h.blk)).trans (hcs j v hj))
  generalize f.came.cells = C at HS HE H1 HCO HC ⊢
  generalize zO.cells = Z at HZ HE HB HM HC
  clear h hcs
  go_enter Tryd.func24, Tryd.ntmps24
  go_upto_region 1 with (first
    | (refine wpList_alloc_z rfl 29 rfl Z HZ.out ?_; go_simp))
  clear HZ
  generalize w.alloc (.cells Z 29) = W0 at HB HM HC ⊢
  go_wp2_with (refine wpList_load_agg rfl 29 (.tmp 5) rfl ⟨g, 5, none⟩ rfl C _ HC.out Tryd.underlying29 rfl HS.out ?_; go_simp)
  refine (HCO.out _).mono ?_
  rintro e w2 ⟨rfl, hb2⟩
  have HM2 := Lib.hid ((hb2.block _ (heap_lt HM.out)).trans HM.out)
  have HB2 := Lib.hid (HB.out.trans (hb2.mono HB.out.size))
  clear hb2 HM HB HC
  go_wp2_with (refine wpList_store_blk rfl 29 (.tmp 2) (.tmp 7) rfl w.heap.size Z C 29 HM2.out rfl rfl HS.out HE.out H1.out ?_; intro w9 hg9 hw9 hz9; go_simp)
  exact bodyPost_ret (results_cell_row rfl _ w9 w.heap.size 29 C (0, 0) _ rfl hg9.out Tryd.underlying29 rfl HS.out) rfl ⟨rfl, HB2.out.grown hw9.out HB2.out.size (fun k e => by injection e with e; omega)⟩
end Go.Proofs.YtepcogbfoemcmaaDoor
