/-
  The walks of slices.Grow and slices.Concat at records: two lists, the second one not empty. Conditions: at most 1000 records, that lie in memory.
-/
import Derived.Test.YtgbijhinihchgaaChTtl
import Derived.Lib.AppendZerosOnto
import Derived.Lib.AppendZeros
import Derived.Laws.ResultCell
namespace Go.Proofs.Ytgbijhinihchgaa
open Go.RowKit

theorem rcs_split : ∀ {rs : List RV} {j : Nat} {u : Value}, (∀ r ∈ rs, r.ad.length = 16) → (rcs rs)[j]? = some u → ∃ r, rs[j / 21]? = some r ∧ r.cells.toList[j % 21]? = some u
  | [], j, u, _, h => by simp [rcs] at h
  | t :: rs, j, u, hl, h => by
    have h21 : t.cells.toList.length = 21 := by rw [Array.length_toList, RV.size (hl t List.mem_cons_self)]
    unfold rcs at h
    rw [List.flatMap_cons] at h
    rcases Nat.lt_or_ge j 21 with hj | hj
    · rw [List.getElem?_append_left (by omega)] at h
      rw [Nat.div_eq_of_lt hj, Nat.mod_eq_of_lt hj]
      exact ⟨t, rfl, h⟩
    · rw [List.getElem?_append_right (by omega), h21] at h
      obtain ⟨r, h1, h2⟩ := rcs_split (rs := rs) (j := j - 21) (fun x hx => hl x (List.mem_cons_of_mem _ hx)) h
      refine ⟨r, ?_, ?_⟩
      · rw [show j / 21 = (j - 21) / 21 + 1 by omega, List.getElem?_cons_succ]; exact h1
      · rw [show j % 21 = (j - 21) % 21 by omega]; exact h2
theorem rcs_len : ∀ {rs : List RV}, (∀ r ∈ rs, r.ad.length = 16) → (rcs rs).length = rs.length * 21
  | [], _ => rfl
  | t :: rs, hl => by
    have h21 : t.cells.toList.length = 21 := by rw [Array.length_toList, RV.size (hl t List.mem_cons_self)]
    have := rcs_len (rs := rs) (fun x hx => hl x (List.mem_cons_of_mem _ hx))
    unfold rcs at this ⊢
    rw [List.flatMap_cons, List.length_append, this, h21, List.length_cons]; omega
theorem rcs_one (rs : List RV) : ∀ u ∈ rcs rs, u.oneCell' = true := fun u hu => by
  unfold rcs at hu
  obtain ⟨r, _, hr⟩ := List.mem_flatMap.1 hu
  have h := RV.one r
  rw [Array.all_eq_true'] at h
  exact h u (by simpa using hr)
theorem rcs_append (a b : List RV) : rcs (a ++ b) = rcs a ++ rcs b := by unfold rcs; rw [List.flatMap_append]
theorem rcs_cells {w : World} {b o : Nat} {rs : List RV} (had : ∀ r ∈ rs, r.ad.length = 16) (hc : ∀ k r, rs[k]? = some r → ∀ j v, r.cells.toList[j]? = some v → w.cell? ((⟨b, o + k * 21, none⟩ : Addr).add j) = some v) : ∀ j u, (rcs rs)[j]? = some u → w.cell? ((⟨b, o, none⟩ : Addr).add j) = some u := fun j u hj => by
  obtain ⟨r, h1, h2⟩ := rcs_split had hj
  have h := hc _ _ h1 _ _ h2
  rw [Addr.add_lit] at h ⊢
  rw [show o + j = o + j / 21 * 21 + j % 21 by omega]
  exact h
/-- what Grow answers of no row -/
def GwPost (base : Nat) (w : World) (e : Ending) (w' : World) : Prop := ∃ g cap, e = .returned (.slice (some ⟨g, 0, none⟩) 0 cap) ∧ w'.ownsRow base 41 21 (.slice (some ⟨g, 0, none⟩) 0 cap) 0 (rcs []) ∧ Below base w w'
set_option maxHeartbeats 1000000 in
theorem grow_rv (base n : Nat) (hn0 : 0 < n) (hn : n ≤ 1000) (w : World) (hbase : base ≤ w.heap.size) : Calls Try.prog 21 #[.slice none 0 0, .int .i64 n] w (GwPost base w) := by
  obtain ⟨i0, hi, hz0, hz1, hz2⟩ := info_rec
  obtain ⟨G, hG⟩ : ∃ G, G = grownCap w n 0 41 := ⟨_, rfl⟩
  have hGn : n ≤ G := by rw [hG]; exact grownCap_ge w _ _ _
  have hGm : G ≤ maxLen := by rw [hG]; exact grownCap_le_maxLen w _ _ _ (by unfold maxLen; omega)
  obtain ⟨Z, hZ⟩ : ∃ Z : Value, Z = .agg (RV.cells ⟨emp, 0, 0, zero16, emp, emp⟩) := ⟨_, rfl⟩
  have hZs : Z.cells.size = 21 := by rw [hZ]; exact RV.size rfl
  rw [← hZ] at hz0
  obtain ⟨ROW, hROW⟩ : ∃ ROW : Array Value, ROW = ([] : List Value).toArray ++ Builtin.zeroCells Z.cells n ++ Builtin.zeroCells Z.cells (G - n) := ⟨_, rfl⟩
  have hold : (Builtin.firstCells i0.size 0 (.slice none 0 0)).run Try.prog w.drew = .ok ([] : List Value).toArray w.drew := by rw [hz1]; rfl
  have hrz : ∀ ty, (Builtin.append_ #[30, 3] ty #[.slice none 0 0, .int .i64 n]).run Try.prog w = .ok (.slice (some ⟨w.heap.size, 0, none⟩) n G) (w.drew.alloc (.cells ROW 41)) := fun ty => by
    have h := Lib.run_append_grow_zeros w 30 3 ty 41 i0 _ .i64 .i64 Try.underlying30 Try.underlying3 hi hz0 none 0 0 [] hold n (by omega) (by omega) (by omega) (by omega) (by rw [hz2]; omega) (by rw [hz2]; exact growslice_fits (by omega) (by omega))
    rw [hROW, hG, Nat.zero_add] at *
    exact h
  have hRs : ROW.size = G * 21 := by
    rw [hROW]
    simp [Builtin.zeroCells, hZs]
    omega
  have hown : (w.drew.alloc (.cells ROW 41)).ownsRow base 41 21 (.slice (some ⟨w.heap.size, 0, none⟩) 0 G) 0 (rcs []) :=
    ⟨rfl, .inr ⟨w.heap.size, G, ROW, rfl, hbase, heap_alloc_last w.drew _, Nat.zero_le _, hGm, hRs, by simp [rcs]⟩⟩
  have hbel : Below base w (w.drew.alloc (.cells ROW 41)) := (Below.refl _ w).drew.alloc hbase _
  have HO := Lib.hid hown
  have HB := Lib.hid hbel
  have hG8 : (n : Int) ≤ (G : Int) := by omega
  have hnI : (0 : Int) < (n : Int) := by omega
  clear hown hbel hRs hROW hold hi hz0 hz1 hz2 hGm hG hZ hZs
  go_enter Try.func21, Try.ntmps21
  go_wp2_with (at_builtin; refine Lib.wpList_append_run _ rfl _ _ _ _ rfl _ _ rfl rfl _ _ (hrz _) ?_)
  go_ret
  exact ⟨_, _, rfl, HO.out, HB.out⟩
/-- append of a list of records that is none -/
theorem app_nil (g n cap : Nat) (h : n ≤ cap) (ty : TypeId) (W : World) : (Builtin.append_ #[30, 30] ty #[.slice (some ⟨g, 0, none⟩) n cap, .slice none 0 0]).run Try.prog W = .ok (.slice (some ⟨g, 0, none⟩) n cap) W := by
  simp [Builtin.append_, go_sem, run_underlying Try.underlying30, Builtin.lenOf, Builtin.firstCells, h, storeCells]
theorem own_form {w : World} {base n : Nat} {v : Value} {xs : List Value} (h : w.ownsRow base 41 21 v n xs) (hn : v ≠ .slice none 0 0) : ∃ g cap, v = .slice (some ⟨g, 0, none⟩) n cap ∧ n ≤ cap := by
  obtain ⟨h1, h2⟩ := h
  rcases h2 with ⟨e, _⟩ | ⟨g, cap, cur, e, hb, hg, hc, hm, hs, ht⟩
  · exact absurd e hn
  · exact ⟨g, cap, e, hc⟩
/-- the records of the first k lists of two -/
def cat2 (a b : List RV) : Nat → List RV
  | 0 => []
  | 1 => a
  | _ => a ++ b
set_option maxRecDepth 100000 in
set_option maxHeartbeats 4000000 in
theorem concat_rv (B c : Nat) (A1 A2 : Option Addr) (c1 c2 : Nat) (rs1 rs2 : List RV) (hn : rs1.length + rs2.length ≤ 1000) (h0 : 0 < rs2.length) (w : World) (hB : B < w.heap.size)
    (k0 : w.cell? ⟨B, 0, none⟩ = some (.slice A1 rs1.length c1)) (k1 : w.cell? ⟨B, 1, none⟩ = some (.slice A2 rs2.length c2)) (h1 : RecsAt w A1 rs1) (hz : rs1 = [] → A1 = none ∧ c1 = 0) (h2 : RecsAt w A2 rs2)
    (had1 : ∀ r ∈ rs1, r.ad.length = 16) (had2 : ∀ r ∈ rs2, r.ad.length = 16) :
    Calls Try.prog 19 #[.slice (some ⟨B, 0, none⟩) 2 c] w (RcPost w (rs1 ++ rs2)) := by
  obtain ⟨i0, hi, hz0, hz1, hz2⟩ := info_rec
  have HI := Lib.hid hi
  have HZ0 := Lib.hid hz0
  have HZ1 := Lib.hid hz1
  have HZ2 := Lib.hid hz2
  obtain ⟨n1, hn1⟩ : ∃ n1, n1 = rs1.length := ⟨_, rfl⟩
  obtain ⟨n2, hn2⟩ : ∃ n2, n2 = rs2.length := ⟨_, rfl⟩
  have hg := grow_rv w.heap.size (n1 + n2) (by omega) (by omega) w (Nat.le_refl _)
  obtain ⟨b2, o2, rfl, hb2, hc2⟩ := h2 h0
  have HC2 : Hid (∀ W, Below w.heap.size w W → ∀ j u, (rcs rs2)[j]? = some u → W.cell? ((⟨b2, o2, none⟩ : Addr).add j) = some u) := Lib.hid (fun W hW j u hj => (hW.cell (p := (⟨b2, o2, none⟩ : Addr).add j) (by rw [Addr.add_lit]; exact hb2)).trans (rcs_cells had2 hc2 j u hj))
  have L2 : Hid ((rcs rs2).length = n2 * 21) := Lib.hid (by rw [hn2]; exact rcs_len had2)
  have O2 := Lib.hid (rcs_one rs2)
  have HFin : Hid (∀ W g cap, W.ownsRow w.heap.size 41 21 (.slice (some ⟨g, 0, none⟩) (n1 + n2) cap) (n1 + n2) (rcs rs1 ++ rcs rs2) → Below w.heap.size w W → RcPost w (rs1 ++ rs2) (.returned (.slice (some ⟨g, 0, none⟩) (n1 + n2) cap)) W) := Lib.hid (fun W g cap ho hb => by
    rw [← rcs_append, show n1 + n2 = (rs1 ++ rs2).length by rw [List.length_append, hn1, hn2]] at ho
    refine ⟨_, _, by rw [show n1 + n2 = (rs1 ++ rs2).length by rw [List.length_append, hn1, hn2]], hb, own_recs ho (fun r hr => ?_), fun b o e => by rw [e] at ho; exact own_base ho⟩
    rcases List.mem_append.1 hr with h | h
    · exact had1 r h
    · exact had2 r h)
  have hcase : (rs1 = [] ∧ A1 = none ∧ c1 = 0) ∨ (∃ b o, A1 = some ⟨b, o, none⟩ ∧ ∀ W, Below w.heap.size w W → ∀ j u, (rcs rs1)[j]? = some u → W.cell? ((⟨b, o, none⟩ : Addr).add j) = some u) := by
    rcases rs1 with _ | ⟨x, l⟩
    · exact .inl ⟨rfl, hz rfl⟩
    · obtain ⟨b, o, rfl, hb, hc⟩ := h1 (by simp)
      exact .inr ⟨b, o, rfl, fun W hW j u hj => (hW.cell (p := (⟨b, o, none⟩ : Addr).add j) (by rw [Addr.add_lit]; exact hb)).trans (rcs_cells had1 hc j u hj)⟩
  have L1 : Hid ((rcs rs1).length = n1 * 21) := Lib.hid (by rw [hn1]; exact rcs_len had1)
  have O1 := Lib.hid (rcs_one rs1)
  rw [← hn1] at k0
  rw [← hn2] at k1
  have HCa : Hid ((n1 = 0 ∧ A1 = none ∧ c1 = 0 ∧ rcs rs1 = []) ∨ (∃ b o, A1 = some ⟨b, o, none⟩ ∧ ∀ W, Below w.heap.size w W → ∀ j u, (rcs rs1)[j]? = some u → W.cell? ((⟨b, o, none⟩ : Addr).add j) = some u)) := Lib.hid (by
    rcases hcase with ⟨rfl, h, h'⟩ | h
    · exact .inl ⟨hn1, h, h', rfl⟩
    · exact .inr h)
  have hle : n1 + n2 ≤ 1000 := by omega
  clear hcase hi hz0 hz1 hz2 h1 h2 hz had1 had2 hn hc2 hn1 hn2
  generalize rs1 ++ rs2 = rr at HFin ⊢
  generalize rcs rs1 = x1 at *
  generalize rcs rs2 = x2 at *
  have HK0 : Hid (∀ W, Below w.heap.size w W → W.cell? ⟨B, 0, none⟩ = some (.slice A1 n1 c1)) := Lib.hid (fun W hW => (hW.cell (p := ⟨B, 0, none⟩) hB).trans k0)
  have HK1 : Hid (∀ W, Below w.heap.size w W → W.cell? ⟨B, 1, none⟩ = some (.slice (some ⟨b2, o2, none⟩) n2 c2)) := Lib.hid (fun W hW => (hW.cell (p := ⟨B, 1, none⟩) hB).trans k1)
  go_enter Try.func19, Try.ntmps19
  go_wp2
  go_loopw [11, 3, 5] (fun i s _ wr => ((i = .int .i64 0 ∧ s = .int .i64 0) ∨ (i = .int .i64 1 ∧ s = .int .i64 n1) ∨ (i = .int .i64 2 ∧ s = .int .i64 ((n1 + n2 : Nat) : Int))) ∧ wr = w) (fun i _ _ _ => 2 - (intOf i).toNat)
  case atStart => exact ⟨.inl ⟨rfl, rfl⟩, rfl⟩
  case round =>
    obtain ⟨⟨rfl, rfl⟩ | ⟨rfl, rfl⟩ | ⟨rfl, rfl⟩, rfl⟩ := hrel
    · go_wp2
      exact ⟨⟨.inr (.inl ⟨by go_num, by go_num⟩), trivial⟩, by simp [intOf]⟩
    · go_wp2
      exact ⟨⟨.inr (.inr ⟨by go_num, by go_num⟩), trivial⟩, by simp [intOf]⟩
    · generalize hN : n1 + n2 = N at *
      have HNn := Lib.hid hN
      clear hN
      go_wp2_with fail
      refine hg.mono ?_
      rintro e w2 ⟨g0, cap0, rfl, hown, hbw2⟩
      have HO := Lib.hid hown
      have HB := Lib.hid hbw2
      clear hg hown hbw2
      go_wp2
      go_loopw [27, 6, 8] (fun i v _ wq => ∃ g cap : Nat, ((i = .int .i64 0 ∧ v = .slice (some ⟨g, 0, none⟩) 0 cap ∧ Hid (wq.ownsRow wr.heap.size 41 21 (.slice (some ⟨g, 0, none⟩) 0 cap) 0 [])) ∨ (i = .int .i64 1 ∧ v = .slice (some ⟨g, 0, none⟩) n1 cap ∧ Hid (wq.ownsRow wr.heap.size 41 21 (.slice (some ⟨g, 0, none⟩) n1 cap) n1 x1)) ∨ (i = .int .i64 2 ∧ v = .slice (some ⟨g, 0, none⟩) N cap ∧ Hid (wq.ownsRow wr.heap.size 41 21 (.slice (some ⟨g, 0, none⟩) N cap) N (x1 ++ x2)))) ∧ Hid (Below wr.heap.size wr wq)) (fun i _ _ _ => 2 - (intOf i).toNat)
      case atStart => exact ⟨g0, cap0, .inl ⟨rfl, rfl, HO⟩, HB⟩
      case round =>
        rename World => wq
        obtain ⟨g, cap, ⟨rfl, rfl, HW⟩ | ⟨rfl, rfl, HW⟩ | ⟨rfl, rfl, HW⟩, HBW⟩ := hrel
        · have q0 := HK0.out wq HBW.out
          rcases HCa.out with ⟨rfl, rfl, rfl, rfl⟩ | ⟨b1, o1, rfl, hc1⟩
          · have hn1 := app_nil g 0 cap (Nat.zero_le _)
            go_wp2_with (at_builtin; refine Lib.wpList_append_run _ rfl _ _ _ _ rfl _ _ rfl rfl _ _ (hn1 _ _) ?_)
            go_roundw
            case rel => exact ⟨g, cap, .inr (.inl ⟨by go_num, rfl, HW⟩), HBW⟩
            case measure => simp [intOf]
          · have HC1 := Lib.hid (hc1 wq HBW.out)
            have hbase : wr.heap.size ≤ wq.heap.size := HBW.out.size
            clear hc1
            go_wp2_with (at_builtin; refine wpList_append_own (w := wq) rfl (.tmp 31) (.tmp 32) 30 rfl wr.heap.size 41 i0 _ 21 80 Try.underlying30 HI.out HZ0.out HZ1.out HZ2.out rfl (by decide) (.slice (some ⟨g, 0, none⟩) 0 cap) 0 [] rfl HW.out ⟨b1, o1, none⟩ n1 c1 x1 rfl L1.out HC1.out O1.out (by have := HNn.out; unfold maxLen; omega) (by have := HNn.out; omega) hbase ?_; intro v1 w9 ho1 hg1 hnil; rw [Nat.zero_add, List.nil_append] at ho1; obtain ⟨g3, cap3, rfl, _⟩ := own_form ho1 (fun e => by have := (hnil.1 e).1; cases this); have HO9 := Lib.hid ho1; have HB9 := Lib.hid (HBW.out.grown hg1 hbase (fun k hk => (HW.out.lt k hk).1)); clear ho1 hg1 hnil; go_simp)
            go_roundw
            case rel => exact ⟨g3, cap3, .inr (.inl ⟨by go_num, rfl, HO9⟩), HB9⟩
            case measure => simp [intOf]
        · have q1 := HK1.out wq HBW.out
          have HC2' := Lib.hid (HC2.out wq HBW.out)
          have hbase : wr.heap.size ≤ wq.heap.size := HBW.out.size
          go_wp2_with (at_builtin; refine wpList_append_own (w := wq) rfl (.tmp 31) (.tmp 32) 30 rfl wr.heap.size 41 i0 _ 21 80 Try.underlying30 HI.out HZ0.out HZ1.out HZ2.out rfl (by decide) (.slice (some ⟨g, 0, none⟩) n1 cap) n1 x1 rfl HW.out ⟨b2, o2, none⟩ n2 c2 x2 rfl L2.out HC2'.out O2.out (by have := HNn.out; unfold maxLen; omega) (by have := HNn.out; omega) hbase ?_; intro v1 w9 ho1 hg1 hnil; rw [HNn.out] at ho1; obtain ⟨g3, cap3, rfl, _⟩ := own_form ho1 (fun e => by have := (hnil.1 e).1; cases this); have HO9 := Lib.hid ho1; have HB9 := Lib.hid (HBW.out.grown hg1 hbase (fun k hk => (HW.out.lt k hk).1)); clear ho1 hg1 hnil; go_simp)
          go_roundw
          case rel => exact ⟨g3, cap3, .inr (.inr ⟨by go_num, rfl, HO9⟩), HB9⟩
          case measure => simp [intOf]
        · go_wp2
          go_ret
          exact HFin.out _ g cap HW.out HBW.out
end Go.Proofs.Ytgbijhinihchgaa
