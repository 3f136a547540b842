/-
  The contracts of (*strings.Builder).WriteString (which leaves other blocks alone) and of hosts.Print. Conditions: each states its own.
-/
import Derived.Test.YtpnlgojbmjfhhaaGreatDoorConfTx
import Derived.Shelf.Strings.Builder1
import Derived.Deep.Heap
namespace Go.Proofs.YtpnlgojbmjfhhaaGreatDoor
open Go.RowKit

/-! how long what is told may be -/
theorem nl_len : ∀ (l : List UInt8), ∀ x ∈ nl l, x.length ≤ l.length
  | [], x, h => by simp [nl] at h; rw [h]; simp
  | c :: l, x, h => by
    by_cases hc : c = 10
    · rw [nl, if_pos hc] at h
      rcases List.mem_cons.1 h with rfl | h
      · simp
      · have := nl_len l x h; simp only [List.length_cons]; omega
    · obtain ⟨y, t, hy⟩ := List.exists_cons_of_ne_nil (nl_ne l)
      rw [nl_other hc hy] at h
      have ih := nl_len l
      rw [hy] at ih
      rcases List.mem_cons.1 h with rfl | h
      · have := ih y List.mem_cons_self; simp only [List.length_cons]; omega
      · have := ih x (List.mem_cons_of_mem _ h); simp only [List.length_cons]; omega
theorem nmT_len : ∀ {ns : List (List UInt8)}, (∀ t ∈ ns, TA t 0 t) → (nmT ns).length ≤ 254 * ns.length
  | [], _ => by simp [nmT]
  | n :: ns, h => by
    have ih := nmT_len (ns := ns) fun t ht => h t (List.mem_cons_of_mem _ ht)
    have h1 := (h n List.mem_cons_self).right.2.1
    unfold nmT at ih ⊢
    rw [List.flatMap_cons, List.length_append, List.length_cons, List.length_cons]
    omega
/-! (*strings.Builder).WriteString -/
/-- blocks of other types are as they were -/
def OthersB (w w' : World) : Prop := ∀ (k : Nat) (c : Array Value) (T' : TypeId) (fr : Nat × Nat), w.heap[k]? = some (Obj.cells c T' fr) → T' ≠ 5 → T' ≠ 64 → w'.heap[k]? = w.heap[k]?
set_option maxRecDepth 100000 in
set_option maxHeartbeats 2000000 in
theorem cc_e (B b : Nat) (bs : List Value) (w : World) (h : Lib.IsBuilder 64 5 B b bs w) :
    Calls Tryz.prog 48 #[.pointer (some ⟨b, 0, none⟩)] w fun e w' => e = .returned (.tuple #[]) ∧ Lib.BuilderAt 64 5 B b (.pointer (some ⟨b, 0, none⟩)) bs w' ∧ Below B w w' ∧ w'.heap.size = w.heap.size ∧ ∀ k, k ≠ b → w'.heap[k]? = w.heap[k]? := by
  rcases h with h | h
  · refine (Any.Builder_copyCheck_fresh (P := Tryz.prog) (ρ := Tryz.lays156_ren) { Tryz.lays156 with } Tryz.Builder_Extra_156.toX72 b w h.cell0 h.shape h.frozen0).mono ?_
    rintro e w' ⟨rfl, rfl⟩
    exact ⟨rfl, h.used _, (Below.refl B w).setCell (p := ⟨b, 0, none⟩) h.1 _, Go.Deep.nblk_setCell _ _ _, fun k hk => Go.Deep.blk_setCell_other _ _ _ _ hk⟩
  · refine (Any.Builder_copyCheck_used (P := Tryz.prog) (ρ := Tryz.lays156_ren) { Tryz.lays156 with } Tryz.Builder_Extra_156.toX72 b w h.cell0).mono ?_
    rintro e w' ⟨rfl, rfl⟩
    exact ⟨rfl, h, Below.refl B _, rfl, fun _ _ => rfl⟩
set_option maxRecDepth 100000 in
set_option maxHeartbeats 2000000 in
theorem wstr_e (B b : Nat) (bs : List Value) (s : ByteArray) (w : World) (h : Lib.IsBuilder 64 5 B b bs w) (hlen : bs.length + s.size ≤ 140737488355328) (hBw : B ≤ w.heap.size) :
    Calls Tryz.prog 28 #[.pointer (some ⟨b, 0, none⟩), .string s] w fun e w' => e = .returned (.tuple #[.int .i64 s.size, .nilIface]) ∧ Lib.IsBuilder 64 5 B b (bs ++ Lib.strCells s) w' ∧ Below B w w' ∧ OthersB w w' := by
  obtain ⟨i0, hi, hz0, hz1, hz2⟩ := info_parts Tryz.Builder_Extra_156.infoByte
  have hcc := cc_e B b bs w h
  go_enter Tryz.func28, Tryz.ntmps28
  go_wp2_with (go_at_call 48; refine hcc.mono ?_)
  rintro e w1 ⟨rfl, h1, hb1, hsz1, hoth⟩
  obtain ⟨hB, v, hbk, hown, hne⟩ := h1
  have c0 : w1.cell? ⟨b, 0, none⟩ = some (.pointer (some ⟨b, 0, none⟩)) := by rw [Lib.cell_of_heap hbk]; rfl
  have c1 : w1.cell? ⟨b, 1, none⟩ = some v := by rw [Lib.cell_of_heap hbk]; rfl
  go_wp2_with (at_builtin; refine Lib.wpList_append_own_string _ rfl _ _ 62 9 rfl B 5 i0 Tryz.underlying62 Tryz.underlying9 hi hz0 hz1 hz2 _ _ _ rfl hown s rfl ?c3 ?c4 ?c5 ?_)
  case c3 => unfold maxLen; omega
  case c4 => omega
  case c5 => have := hb1.size; omega
  intro v' w2 hown' hgrow _
  have hlt : b < w1.heap.size := by
    rcases Nat.lt_or_ge b w1.heap.size with h' | h'
    · exact h'
    · simp [Array.getElem?_eq_none h'] at hbk
  have hb2 : w2.heap[b]? = some (.cells #[.pointer (some ⟨b, 0, none⟩), v] 64 (0, 0)) := by
    rw [hgrow.block b hlt (fun e => hne e.symm)]
    exact hbk
  have d0 : w2.cell? ⟨b, 0, none⟩ = some (.pointer (some ⟨b, 0, none⟩)) := by rw [Lib.cell_of_heap hb2]; rfl
  have d1 : w2.cell? ⟨b, 1, none⟩ = some v := by rw [Lib.cell_of_heap hb2]; rfl
  have f1 : w2.frozen? ⟨b, 1, none⟩ = false := Lib.frozen_of_heap hb2 1
  have HOth : Hid (OthersB w (w2.setCell ⟨b, 1, none⟩ v')) := Lib.hid (fun k c T' fr hk h5 h58 => by
    have hkb : k ≠ b := by
      rintro rfl
      rcases h with h | h
      · obtain ⟨_, u, hu, _⟩ := h
        have hq := hu.symm.trans hk
        injection hq with hq; injection hq with _ hq _; exact h58 hq.symm
      · obtain ⟨_, u, hu, _⟩ := h
        have hq := hu.symm.trans hk
        injection hq with hq; injection hq with _ hq _; exact h58 hq.symm
    have hk1 : w1.heap[k]? = w.heap[k]? := hoth k hkb
    have hkl : k < w1.heap.size := by
      rcases Nat.lt_or_ge k w1.heap.size with h' | h'
      · exact h'
      · rw [hk, Array.getElem?_eq_none h'] at hk1; cases hk1
    rw [Go.Deep.blk_setCell_other _ _ _ _ hkb, hgrow.block k hkl (fun e => Lib.ownBlock_ne hown (hk1.trans hk) h5 e.symm), hk1])
  obtain ⟨ao, n', cap, rfl⟩ : ∃ ao n' cap, v' = .slice ao n' cap := by
    rcases hown'.2 with ⟨hv, _⟩ | ⟨g, cap, cur, hv, _⟩
    · exact ⟨_, _, _, hv⟩
    · exact ⟨_, _, _, hv⟩
  go_wp2
  go_ret2
  refine ⟨rfl, ?_, ?_, HOth.out⟩
  · exact .inr (Lib.BuilderAt.put (T := 64) (e := 5) hB hb2 (bs' := bs ++ Lib.strCells s) (by simpa [Lib.strCells_length] using hown') Tryz.Builder_Extra_156.neB5)
  · exact (hb1.grown hgrow (by have := hb1.size; omega) (fun k hk => (hown.lt k hk).1)).setCell (p := ⟨b, 1, none⟩) hB _
theorem isB_below {w w' : World} {B b : Nat} {bs : List Value} (h : Lib.IsBuilder 64 5 B b bs w) (hb : Below w.heap.size w w') : Lib.IsBuilder 64 5 B b bs w' := by
  have go : ∀ p, Lib.BuilderAt 64 5 B b p bs w → Lib.BuilderAt 64 5 B b p bs w' := fun p h => by
    have hlt := h.lt
    obtain ⟨hB, v, hv, ho, hn⟩ := h
    exact ⟨hB, v, (hb.block _ hlt).trans hv, own_step ho hb, hn⟩
  exact h.imp (go _) (go _)
theorem isB_str {w : World} {B b : Nat} {l : List UInt8} {t : ByteArray} (h : Lib.IsBuilder 64 5 B b (Lib.byteCells l ++ Lib.strCells t) w) : Lib.IsBuilder 64 5 B b (Lib.byteCells (l ++ t.data.toList)) w := by
  rw [Lib.byteCells_append]; exact h
/-- a whole value is loaded, under a guard that holds -/
theorem wpList_row_gh {P : Program} {ops : Array Oper} {rest : List Oper} {o : Oper} {a : Act} {Q : Exit → Act → World → Prop} {w : World} (ty : TypeId) (x : Operand) (hw : Region.wanted o (yielded ops a.tmps) = true) (ho : o.op = .load ty x)
    (g : Nat) (hx : a.eval x = .pointer (some ⟨g, 0, none⟩)) (t : TypeId) (cs : Array Value) (fr : Nat × Nat) (d : TypeDesc) (hg : w.heap[g]? = some (.cells cs t fr))
    (hu : P.underlying ty = some d) (hd : (match d with | .struct _ | .array _ _ => true | _ => false) = true) (hi : (P.info? ty).map (·.size) = some cs.size)
    (h : wpList P ops Q rest (a.put o.dst (.agg cs)) w) : wpList P ops Q (o :: rest) a w := by
  unfold wpList
  rw [if_pos hw]
  left
  exact wp_load_row ty x ho g hx t cs fr d hg hu hd hi h
/-- a value built of parts, under a guard that holds -/
theorem wpList_build_gh {P : Program} {ops : Array Oper} {rest : List Oper} {o : Oper} {a : Act} {Q : Exit → Act → World → Prop} {w : World} (hw : Region.wanted o (yielded ops a.tmps) = true) (t : TypeId) (parts : Array (Nat × Operand)) (ho : o.op = .build t parts) (cs : Array Value) (hf : P.built t (parts.toList.map fun (i, x) => (i, a.eval x)) = some cs)
    (h : wpList P ops Q rest (a.put o.dst (.agg cs)) w) : wpList P ops Q (o :: rest) a w := by
  unfold wpList
  rw [if_pos hw]
  left
  have hf' : P.built t (parts.map fun (i, x) => (i, a.eval x)).toList = some cs := by rw [Array.toList_map]; exact hf
  exact wp_build t parts ho (by rw [hf']; rfl) (by rw [hf']; exact h)
end Go.Proofs.YtpnlgojbmjfhhaaGreatDoor
