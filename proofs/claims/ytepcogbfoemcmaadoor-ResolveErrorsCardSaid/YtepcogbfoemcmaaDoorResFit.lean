/-
  The walks of the statements' own example and kinds, and rows' literals. Conditions: none.
-/
import Derived.Test.YtepcogbfoemcmaaDoorResRs
namespace Go.Proofs.YtepcogbfoemcmaaDoor
open Go.RowKit

section
variable {P : Program} {ops : Array Oper} {o : Oper} {a : Act}
theorem step_store_tr {Q : Exit → Act → World → Prop} {w : World} {K : Act → World → Prop} {E : Prop} (hgd : o.guard = none) (ty : TypeId) (x y : Operand) (ho : o.op = .store ty x y) (g : Nat) (z cells : Array Value) (t : TypeId) (hg : w.heap[g]? = some (.cells z t (0, 0)))
    (hx : a.eval x = .pointer (some ⟨g, 0, none⟩)) (hy : a.eval y = .agg cells) (hi : (P.info? ty).map (·.size) = some cells.size) (hz : z.size = cells.size) (h1 : cells.all (·.oneCell') = true)
    (h : ∀ w', Hid (w'.heap[g]? = some (.cells cells t (0, 0))) → Hid (w.grownBy w' (some g)) → w'.heap.size = w.heap.size → K (a.put o.dst undef) w') : if Region.wanted o (yielded ops a.tmps) = true then Oper.wp P o a w K Q else E := by
  have hw : Region.wanted o (yielded ops a.tmps) = true := by simp [Region.wanted, hgd]
  rw [if_pos hw]
  exact wp_store_row ty x y ho g cells hx hy t z hg hi hz h1 (h _ (setRow_heap w g z cells t _ hg) ⟨rfl, rfl, rfl, by simp, fun k _ hk => setRow_other w g k cells (fun e => hk (by rw [e]))⟩ (by simp))
end
def bN (n : Int) (q : Nat) : Nat := (bits BinOp.and IntKind.i64 n (q : Nat)).toNat
theorem bN_e (n : Int) (q : Nat) (hq : q < 1000000) : bits BinOp.and IntKind.i64 n (q : Nat) = (bN n q : Int) ∧ bN n q ≤ q := by
  have hle : (BitVec.ofInt 64 n &&& BitVec.ofInt 64 (q : Nat)).toNat ≤ q := by
    rw [BitVec.toNat_and]
    refine Nat.le_trans Nat.and_le_right ?_
    rw [BitVec.ofInt_natCast, BitVec.toNat_ofNat]
    exact Nat.mod_le _ _
  have h : bits BinOp.and IntKind.i64 n (q : Nat) = ((BitVec.ofInt 64 n &&& BitVec.ofInt 64 (q : Nat)).toNat : Int) := by
    show IntKind.i64.wrap ((BitVec.ofInt 64 n &&& BitVec.ofInt 64 (q : Nat)).toNat : Int) = _
    exact IntWalk.i64_in _ (by omega)
  unfold bN
  rw [h]
  exact ⟨rfl, hle⟩
/-- an outcome's kind of a number -/
def kd (n : Int) : Nat := 1 + bN n 255 % 5
theorem kd_in (n : Int) : 1 ≤ kd n ∧ kd n ≤ 5 := by unfold kd; omega
theorem kind_e (n : Int) (w : World) : Calls Tryd.prog 5 #[.int .i64 n] w fun e w' => e = .returned (.int .i64 (kd n : Nat)) ∧ w = w' := by
  obtain ⟨hb, hl⟩ := bN_e n 255 (by omega)
  have hb : bits BinOp.and IntKind.i64 n 255 = (bN n 255 : Int) := hb
  have HK : Hid (1 + (bN n 255 : Int) % 5 = ((kd n : Nat) : Int)) := Lib.hid (by unfold kd; omega)
  generalize kd n = k at HK ⊢
  have hlI : (bN n 255 : Int) ≤ 255 := by omega
  generalize bN n 255 = m at hb hl hlI HK
  go_enter Tryd.func5, Tryd.ntmps5
  go_wp2
  go_ret
  exact ⟨ret_int HK.out, rfl⟩
theorem RowIn.lit {w : World} {g : Nat} {os : List Sr} {T : TypeId} (h : w.heap[g]? = some (.cells (svs os).toArray T (0, 0))) (n : Nat) (hn : os.length = n) : RowIn 6 w (.slice (some ⟨g, 0, none⟩) n n) os.length (svs os) := by
  subst hn
  exact ⟨svs_len os, svs_one os, .inr ⟨⟨g, 0, none⟩, _, rfl, Nat.le_refl _, fun j u hj => by rw [Addr.add_lit, Nat.zero_add, cell_of_row _ _ _ _ _ _ h, List.getElem?_toArray]; exact hj⟩⟩
def ocs (l : List Oc) : List Value := l.flatMap fun s => s.cells.toList
theorem ocs_snoc (l : List Oc) (s : Oc) : ocs (l ++ [s]) = ocs l ++ s.cells.toList := by unfold ocs; rw [List.flatMap_append]; simp
theorem ocs_len : ∀ l : List Oc, (ocs l).length = l.length * 4
  | [] => rfl
  | s :: l => by
    have ih := ocs_len l
    unfold ocs at ih ⊢
    rw [List.flatMap_cons, List.length_append, ih, List.length_cons]
    show 4 + _ = _
    omega
theorem ocs_at : ∀ {l : List Oc} {i : Nat} {s : Oc} {j : Nat}, l[i]? = some s → j < 4 → (ocs l)[i * 4 + j]? = s.cells.toList[j]?
  | [], _, _, _, h, _ => by simp at h
  | x :: l, 0, s, j, h, hj => by
    obtain rfl : x = s := by simpa using h
    unfold ocs
    rw [List.flatMap_cons, Nat.zero_mul, Nat.zero_add, List.getElem?_append_left (by show j < 4; exact hj)]
  | x :: l, i + 1, s, j, h, hj => by
    have ih := ocs_at (l := l) (i := i) (s := s) (j := j) (by simpa using h) hj
    unfold ocs at ih ⊢
    rw [List.flatMap_cons, List.getElem?_append_right (by show 4 ≤ _; omega), ← ih]
    congr 1
    show (i + 1) * 4 + j - 4 = _
    omega
theorem OutsAt.of_cells {w : World} {g : Nat} {l : List Oc} (hg : g < w.heap.size) (h : ∀ k u, (ocs l)[k]? = some u → w.cell? ⟨g, k, none⟩ = some u) : OutsAt w (some ⟨g, 0, none⟩) l := fun _ =>
  ⟨g, 0, rfl, hg, fun k r hr j v hv => by
    have hj : j < 4 := (List.getElem?_eq_some_iff.1 hv).1
    rw [Addr.add_lit, Nat.zero_add]
    exact h _ _ (by rw [ocs_at hr hj]; exact hv)⟩
theorem OutsAt.lit {w : World} {g : Nat} {l : List Oc} {T : TypeId} (h : w.heap[g]? = some (.cells (ocs l).toArray T (0, 0))) : OutsAt w (some ⟨g, 0, none⟩) l :=
  OutsAt.of_cells (heap_lt h) (fun k u hk => by rw [cell_of_row _ _ _ _ _ _ h, List.getElem?_toArray]; exact hk)
def zS (k : Int) : Sr := ⟨k, false, false, false, false, false⟩
def RF2 : Fo × Bool := runR (newF [zS 1, zS 2] 1) [⟨0, 0, 2⟩, ⟨0, 0, 1⟩]
theorem RF2_c : RF2.1.came.cells = #[.int .i64 1, .int .i64 0, .int .i64 1, .slice none 0 0] := by kernel_rfl
theorem RF2_b : RF2.2 = true := by kernel_rfl
set_option maxRecDepth 100000 in
set_option maxHeartbeats 1000000 in
theorem fit16_e (w : World) : Calls Tryd.prog 4 #[] w fun e w' => e = .returned (.bool true) ∧ Below w.heap.size w w' := by
  go_enter Tryd.func4, Tryd.ntmps4
  go_wp2_with fail
  have h1 := heap_alloc_last w (.cells (svs [zS 1, zS 2]).toArray 44)
  have l1 := (Below.refl _ w).alloc (Nat.le_refl _) (.cells (svs [zS 1, zS 2]).toArray 44)
  have h2 := heap_alloc_last (w.alloc (.cells (svs [zS 1, zS 2]).toArray 44)) (.cells (ocs [⟨0, 0, 2⟩, ⟨0, 0, 1⟩]).toArray 29)
  have l2 := (Below.refl _ (w.alloc (.cells (svs [zS 1, zS 2]).toArray 44))).alloc (Nat.le_refl _) (.cells (ocs [⟨0, 0, 2⟩, ⟨0, 0, 1⟩]).toArray 29)
  have hb := l1.trans (l2.mono l1.size)
  have g1 := (l2.block w.heap.size (by simp)).trans h1
  simp only [World.size_alloc] at h2
  have hR := resolve_e [zS 1, zS 2] 1 _ [⟨0, 0, 2⟩, ⟨0, 0, 1⟩] (some ⟨w.heap.size + 1, 0, none⟩) 2 (by decide) (by decide) (by decide) (fun o ho => by
    rcases List.mem_cons.1 ho with rfl | ho
    · decide
    · rcases List.mem_cons.1 ho with rfl | ho
      · decide
      · cases ho) _ (RowIn.lit g1 2 rfl) (OutsAt.lit h2)
  have HB := Lib.hid hb
  refine (show Calls Tryd.prog _ _ _ _ from hR).mono ?_
  rintro e w2 ⟨rfl, hb2⟩
  have HB2 := Lib.hid (HB.out.trans (hb2.mono HB.out.size))
  have hc : (runR (newF [zS 1, zS 2] 1) [⟨0, 0, 2⟩, ⟨0, 0, 1⟩]).1.came.cells = _ := RF2_c
  have hd : (runR (newF [zS 1, zS 2] 1) [⟨0, 0, 2⟩, ⟨0, 0, 1⟩]).2 = _ := RF2_b
  rw [hc, hd]
  clear hR hb2 hb h1 l1 h2 l2 g1 hc hd
  go_wp2_with fail
  go_ret
  exact ⟨rfl, HB2.out.alloc HB2.out.size _⟩
end Go.Proofs.YtepcogbfoemcmaaDoor
