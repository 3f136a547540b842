/-
  The contracts of (*strings.Builder).WriteString (which leaves other blocks alone) and of hosts.Print. Conditions: each states its own.
-/
import Derived.Test.YtclfmokdjmnjcaaGreatDoorHostsAll
import Derived.Shelf.Strings.Builder1
import Derived.Deep.Heap
namespace Go.Proofs.YtclfmokdjmnjcaaGreatDoor
open Go.RowKit

/-! how long what is told may be -/
theorem nl_len : ∀ (l : List UInt8), ∀ x ∈ nl l, x.length ≤ l.length
  | [], x, h => by simp [nl] at h; rw [h]; simp
  | c :: l, x, h => by
    by_cases hc : c = 10
    · rw [nl, if_pos hc] at h
      rcases List.mem_cons.1 h with rfl | h
      · simp
      · have := nl_len l x h; simp only [List.length_cons]; omega
    · obtain ⟨y, t, hy⟩ := List.exists_cons_of_ne_nil (nl_ne l)
      rw [nl_other hc hy] at h
      have ih := nl_len l
      rw [hy] at ih
      rcases List.mem_cons.1 h with rfl | h
      · have := ih y List.mem_cons_self; simp only [List.length_cons]; omega
      · have := ih x (List.mem_cons_of_mem _ h); simp only [List.length_cons]; omega
theorem Pd.lines : ∀ {ls : List (List UInt8)} {k : Nat} {l : List HostM}, Pd k ls l → ∀ h ∈ l, ∃ x ∈ ls, LineR x (some h)
  | _, 0, _, h => by cases h; simp
  | [], k + 1, _, h => by cases h; simp
  | x :: ls, k + 1, _, h => by
    cases h with
    | skip h hp =>
      intro g hg
      obtain ⟨y, hy, hr⟩ := hp.lines g hg
      exact ⟨y, List.mem_cons_of_mem _ hy, hr⟩
    | take h hp =>
      intro g hg
      rcases List.mem_cons.1 hg with rfl | hg
      · exact ⟨x, List.mem_cons_self, h⟩
      · obtain ⟨y, hy, hr⟩ := hp.lines g hg
        exact ⟨y, List.mem_cons_of_mem _ hy, hr⟩
theorem LineR.few {x : List UInt8} {h : HostM} (hr : LineR x (some h)) : h.names.length ≤ x.length := by
  cases hr with
  | ok hw hl ha hn =>
    have h1 := fw_count (toldL x) []
    have h2 := toldL_len x
    have h3 := congrArg List.length hw
    unfold wordsL at h3
    rw [List.length_cons] at h3
    have h4 := hn.length
    refine Nat.le_trans (Nat.le_of_eq h4) ?_
    omega
theorem nmT_len : ∀ {ns : List (List UInt8)}, (∀ t ∈ ns, TA t 0 t) → (nmT ns).length ≤ 254 * ns.length
  | [], _ => by simp [nmT]
  | n :: ns, h => by
    have ih := nmT_len (ns := ns) fun t ht => h t (List.mem_cons_of_mem _ ht)
    have h1 := (h n List.mem_cons_self).right.2.1
    unfold nmT at ih ⊢
    rw [List.flatMap_cons, List.length_append, List.length_cons, List.length_cons]
    omega
theorem printL_len : ∀ {l : List HostM} (N : Nat), (∀ h ∈ l, Good h ∧ h.names.length ≤ N) → (printL l).length ≤ l.length * (40 + 254 * N)
  | [], N, _ => by simp [printL]
  | h :: l, N, hh => by
    have ih := printL_len (l := l) N fun t ht => hh t (List.mem_cons_of_mem _ ht)
    obtain ⟨hg, hn⟩ := hh h List.mem_cons_self
    have h1 := nmT_len hg.out
    have h2 := txt_len hg.len
    have h3 : 254 * h.names.length ≤ 254 * N := Nat.mul_le_mul_left _ hn
    unfold printL at ih ⊢
    have e : (l.length + 1) * (40 + 254 * N) = l.length * (40 + 254 * N) + (40 + 254 * N) := Nat.succ_mul _ _
    rw [List.flatMap_cons, List.length_append, List.length_append, List.length_singleton, List.length_cons, e]
    unfold lineT at ih ⊢
    rw [List.length_append]
    generalize l.length * (40 + 254 * N) = z at ih ⊢
    omega
theorem print_len {s : List UInt8} {l : List HostM} (hp : Pd 64 (nl s) l) (hs : s.length ≤ 2000) : (printL l).length ≤ 40000000 := by
  have h1 := printL_len (l := l) 2000 fun h hh => ⟨hp.good h hh, by
    obtain ⟨x, hx, hr⟩ := hp.lines h hh
    have := hr.few
    have := nl_len s x hx
    omega⟩
  have h2 := hp.len
  have h3 : l.length * (40 + 254 * 2000) ≤ 64 * (40 + 254 * 2000) := Nat.mul_le_mul_right _ h2
  omega

/-! (*strings.Builder).WriteString -/
/-- blocks of other types are as they were -/
def OthersB (w w' : World) : Prop := ∀ (k : Nat) (c : Array Value) (T' : TypeId) (fr : Nat × Nat), w.heap[k]? = some (Obj.cells c T' fr) → T' ≠ 5 → T' ≠ 58 → w'.heap[k]? = w.heap[k]?
set_option maxRecDepth 100000 in
set_option maxHeartbeats 2000000 in
theorem cc_e (B b : Nat) (bs : List Value) (w : World) (h : Lib.IsBuilder 58 5 B b bs w) :
    Calls Tryz.prog 43 #[.pointer (some ⟨b, 0, none⟩)] w fun e w' => e = .returned (.tuple #[]) ∧ Lib.BuilderAt 58 5 B b (.pointer (some ⟨b, 0, none⟩)) bs w' ∧ Below B w w' ∧ w'.heap.size = w.heap.size ∧ ∀ k, k ≠ b → w'.heap[k]? = w.heap[k]? := by
  rcases h with h | h
  · refine (Any.Builder_copyCheck_fresh (P := Tryz.prog) (ρ := Tryz.lays156_ren) { Tryz.lays156 with } Tryz.Builder_Extra_156.toX72 b w h.cell0 h.shape h.frozen0).mono ?_
    rintro e w' ⟨rfl, rfl⟩
    exact ⟨rfl, h.used _, (Below.refl B w).setCell (p := ⟨b, 0, none⟩) h.1 _, Go.Deep.nblk_setCell _ _ _, fun k hk => Go.Deep.blk_setCell_other _ _ _ _ hk⟩
  · refine (Any.Builder_copyCheck_used (P := Tryz.prog) (ρ := Tryz.lays156_ren) { Tryz.lays156 with } Tryz.Builder_Extra_156.toX72 b w h.cell0).mono ?_
    rintro e w' ⟨rfl, rfl⟩
    exact ⟨rfl, h, Below.refl B _, rfl, fun _ _ => rfl⟩
set_option maxRecDepth 100000 in
set_option maxHeartbeats 2000000 in
theorem wstr_e (B b : Nat) (bs : List Value) (s : ByteArray) (w : World) (h : Lib.IsBuilder 58 5 B b bs w) (hlen : bs.length + s.size ≤ 140737488355328) (hBw : B ≤ w.heap.size) :
    Calls Tryz.prog 24 #[.pointer (some ⟨b, 0, none⟩), .string s] w fun e w' => e = .returned (.tuple #[.int .i64 s.size, .nilIface]) ∧ Lib.IsBuilder 58 5 B b (bs ++ Lib.strCells s) w' ∧ Below B w w' ∧ OthersB w w' := by
  obtain ⟨i0, hi, hz0, hz1, hz2⟩ := info_parts Tryz.Builder_Extra_156.infoByte
  have hcc := cc_e B b bs w h
  go_enter Tryz.func24, Tryz.ntmps24
  go_wp2_with (go_at_call 43; refine hcc.mono ?_)
  rintro e w1 ⟨rfl, h1, hb1, hsz1, hoth⟩
  obtain ⟨hB, v, hbk, hown, hne⟩ := h1
  have c0 : w1.cell? ⟨b, 0, none⟩ = some (.pointer (some ⟨b, 0, none⟩)) := by rw [Lib.cell_of_heap hbk]; rfl
  have c1 : w1.cell? ⟨b, 1, none⟩ = some v := by rw [Lib.cell_of_heap hbk]; rfl
  go_wp2_with (at_builtin; refine Lib.wpList_append_own_string _ rfl _ _ 34 9 rfl B 5 i0 Tryz.underlying34 Tryz.underlying9 hi hz0 hz1 hz2 _ _ _ rfl hown s rfl ?c3 ?c4 ?c5 ?_)
  case c3 => unfold maxLen; omega
  case c4 => omega
  case c5 => have := hb1.size; omega
  intro v' w2 hown' hgrow _
  have hlt : b < w1.heap.size := by
    rcases Nat.lt_or_ge b w1.heap.size with h' | h'
    · exact h'
    · simp [Array.getElem?_eq_none h'] at hbk
  have hb2 : w2.heap[b]? = some (.cells #[.pointer (some ⟨b, 0, none⟩), v] 58 (0, 0)) := by
    rw [hgrow.block b hlt (fun e => hne e.symm)]
    exact hbk
  have d0 : w2.cell? ⟨b, 0, none⟩ = some (.pointer (some ⟨b, 0, none⟩)) := by rw [Lib.cell_of_heap hb2]; rfl
  have d1 : w2.cell? ⟨b, 1, none⟩ = some v := by rw [Lib.cell_of_heap hb2]; rfl
  have f1 : w2.frozen? ⟨b, 1, none⟩ = false := Lib.frozen_of_heap hb2 1
  have HOth : Hid (OthersB w (w2.setCell ⟨b, 1, none⟩ v')) := Lib.hid (fun k c T' fr hk h5 h58 => by
    have hkb : k ≠ b := by
      rintro rfl
      rcases h with h | h
      · obtain ⟨_, u, hu, _⟩ := h
        have hq := hu.symm.trans hk
        injection hq with hq; injection hq with _ hq _; exact h58 hq.symm
      · obtain ⟨_, u, hu, _⟩ := h
        have hq := hu.symm.trans hk
        injection hq with hq; injection hq with _ hq _; exact h58 hq.symm
    have hk1 : w1.heap[k]? = w.heap[k]? := hoth k hkb
    have hkl : k < w1.heap.size := by
      rcases Nat.lt_or_ge k w1.heap.size with h' | h'
      · exact h'
      · rw [hk, Array.getElem?_eq_none h'] at hk1; cases hk1
    rw [Go.Deep.blk_setCell_other _ _ _ _ hkb, hgrow.block k hkl (fun e => Lib.ownBlock_ne hown (hk1.trans hk) h5 e.symm), hk1])
  obtain ⟨ao, n', cap, rfl⟩ : ∃ ao n' cap, v' = .slice ao n' cap := by
    rcases hown'.2 with ⟨hv, _⟩ | ⟨g, cap, cur, hv, _⟩
    · exact ⟨_, _, _, hv⟩
    · exact ⟨_, _, _, hv⟩
  go_wp2
  go_ret2
  refine ⟨rfl, ?_, ?_, HOth.out⟩
  · exact .inr (Lib.BuilderAt.put (T := 58) (e := 5) hB hb2 (bs' := bs ++ Lib.strCells s) (by simpa [Lib.strCells_length] using hown') Tryz.Builder_Extra_156.neB5)
  · exact (hb1.grown hgrow (by have := hb1.size; omega) (fun k hk => (hown.lt k hk).1)).setCell (p := ⟨b, 1, none⟩) hB _
end Go.Proofs.YtclfmokdjmnjcaaGreatDoor
