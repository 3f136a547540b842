/-
  The walk of msg.withData: a record with what lies in its data. Condition: the bytes lie in memory.
-/
import Derived.Test.YtakfokdjdljjjaaDoorMsgRQ
import Derived.Test.YtakfokdjdljjjaaDoorMsgRight
namespace Go.Proofs.YtakfokdjdljjjaaDoor
open Go.RowKit

theorem conv_nilc (w : World) (c : Nat) : (convert 32 9 (.slice none 0 c)).run Tryd.prog w = .ok (.string (bs [])) w := by
  simp [convert, go_sem, run_underlying Tryd.underlying32, run_underlying Tryd.underlying9, run_underlying Tryd.underlying5, Conv.bytesToString]
  rfl
theorem conv_any {w : World} {base n c : Nat} {A : Option Addr} {d : List UInt8} (h : InB w base A d) (hn : d.length = n) : (convert 32 9 (.slice A n c)).run Tryd.prog w = .ok (.string (bs d)) w := by
  by_cases h0 : 0 < n
  · exact conv_in h hn h0
  · have hd : d = [] := List.length_eq_zero_iff.1 (by omega)
    subst hd; subst hn
    cases A with
    | none => exact conv_nilc w c
    | some a => exact run_convert_bytes_back (P := Tryd.prog) w 32 9 5 a c [] Tryd.underlying32 Tryd.underlying5 Tryd.underlying9 (fun j hj => absurd hj (by simp))
set_option maxRecDepth 100000 in
set_option maxHeartbeats 2000000 in
theorem wd_c (nm : ByteArray) (ty ttl : Int) (base n c : Nat) (A : Option Addr) (d : List UInt8) (w : World) (hd : d.length = n) (hin : InB w base A d) (hb : base ≤ w.heap.size)
    (h1 : ¬ (ty = 1 ∧ n = 4)) (h2 : ¬ (ty = 28 ∧ n = 16)) :
    Calls Tryd.prog 38 #[.agg (RV.cells ⟨nm, ty, ttl, zero16, emp, emp⟩), .slice A n c] w fun e w' => e = .returned (.agg (RV.cells ⟨nm, ty, ttl, zero16, emp, bs d⟩)) ∧ Below w.heap.size w w' := by
  have ZR := Lib.hid zeroRec
  have c1 := RV.c1 ⟨nm, ty, ttl, zero16, emp, emp⟩
  have c20 := RV.c20 (r := ⟨nm, ty, ttl, zero16, emp, emp⟩) rfl
  have S20 := Lib.hid (RV.set20 (r := ⟨nm, ty, ttl, zero16, emp, emp⟩) rfl (bs d))
  have Z1 := Lib.hid (sizeRv (r := ⟨nm, ty, ttl, zero16, emp, bs d⟩) rfl)
  have O1 := Lib.hid (RV.one ⟨nm, ty, ttl, zero16, emp, bs d⟩)
  have ZZ : Hid ((RV.cells ⟨emp, 0, 0, zero16, emp, emp⟩).size = (RV.cells ⟨nm, ty, ttl, zero16, emp, bs d⟩).size) := Lib.hid rfl
  have CV := fun (cs zs : Array Value) => conv_any (c := c) ((hin.below ((Below.refl base w).alloc hb (.cells cs 45))).below ((Below.refl base _).alloc (by rw [World.size_alloc]; omega) (.cells zs 45))) hd
  have hc20 := fun (cs zs : Array Value) (h : cs[20]? = some (.string emp)) => (cell_of_row ((w.alloc (.cells cs 45)).alloc (.cells zs 45)) w.heap.size 20 _ _ _ (heap_two w _ _)).trans h
  have hf20 := fun (cs zs : Array Value) => frozen_of_row ((w.alloc (.cells cs 45)).alloc (.cells zs 45)) w.heap.size 20 _ _ (heap_two w _ _)
  revert ZR c1 c20 S20 Z1 O1 ZZ
  generalize RV.cells ⟨nm, ty, ttl, zero16, emp, emp⟩ = cs
  generalize RV.cells ⟨nm, ty, ttl, zero16, emp, bs d⟩ = rs
  generalize RV.cells ⟨emp, 0, 0, zero16, emp, emp⟩ = zs
  intro ZR c1 c20 S20 Z1 O1 ZZ
  have hc1 := (cell_of_row ((w.alloc (.cells cs 45)).alloc (.cells zs 45)) w.heap.size 1 _ _ _ (heap_two w _ _)).trans c1
  have cv := CV cs zs
  have hc := hc20 cs zs c20
  have hf := hf20 cs zs
  clear CV hc20 hf20 hin hd c20 c1
  have hcase : (ty = 1 ∧ n ≠ 4) ∨ (ty = 28 ∧ n ≠ 16) ∨ (ty ≠ 1 ∧ ty ≠ 28) := by omega
  clear h1 h2
  rcases hcase with ⟨rfl, h2⟩ | ⟨rfl, h2⟩ | ⟨h1, h2⟩
  all_goals
    go_enter Tryd.func38, Tryd.ntmps38
    go_wp2_with (first
      | (refine wpList_alloc_z rfl 45 rfl zs ZR.out ?_; go_simp)
      | (refine wpList_store_blk rfl 45 (.tmp 4) (.tmp 33) rfl (w.heap.size + 1) zs rs 45 (heap_alloc2_new w _ _) rfl rfl Z1.out ZZ.out O1.out ?_; intro w1 hg1 hw1 hz1; go_simp)
      | (refine wpList_load_row rfl 45 (.tmp 2) rfl w.heap.size rfl 45 rs (0, 0) _ ((heap_two w _ _).trans (congrArg (fun z => some (Obj.cells z 45 (0, 0))) S20.out)) Tryd.underlying45 rfl Z1.out ?_; go_simp))
    exact bodyPost_ret (results_cell_row rfl _ w1 (w.heap.size + 1) 45 rs (0, 0) _ rfl hg1.out Tryd.underlying45 rfl Z1.out) rfl ⟨rfl, (((Below.refl _ w).alloc (Nat.le_refl _) _).alloc (by rw [World.size_alloc]; omega) _).grown hw1.out (by rw [World.size_alloc, World.size_alloc]; omega) (fun k e => by injection e with e; omega)⟩
set_option maxRecDepth 100000 in
set_option maxHeartbeats 2000000 in
theorem wd_a (nm : ByteArray) (ttl : Int) (base c : Nat) (A : Option Addr) (d : List UInt8) (w : World) (hd : d.length = 4) (hin : InB w base A d) (hb : base ≤ w.heap.size) :
    Calls Tryd.prog 38 #[.agg (RV.cells ⟨nm, 1, ttl, zero16, emp, emp⟩), .slice A 4 c] w fun e w' => e = .returned (.agg (RV.cells ⟨nm, 1, ttl, pre4 ++ d, emp, emp⟩)) ∧ Below w.heap.size w w' := by
  have hl : (pre4 ++ d).length = 16 := by rw [List.length_append, hd]; rfl
  obtain ⟨bb, o, rfl, hlt, hcell⟩ := hin (by omega)
  have ZR := Lib.hid zeroRec
  have c1 := RV.c1 ⟨nm, 1, ttl, zero16, emp, emp⟩
  have S3 := Lib.hid (RV.set3 (r := ⟨nm, 1, ttl, zero16, emp, emp⟩) rfl hl)
  have F3 : Hid (3 + (bvs (pre4 ++ d)).toArray.size ≤ (RV.cells ⟨nm, 1, ttl, zero16, emp, emp⟩).size) := Lib.hid (by rw [RV.size rfl, List.size_toArray, bvs_length, hl]; omega)
  have Z1 := Lib.hid (sizeRv (r := ⟨nm, 1, ttl, pre4 ++ d, emp, emp⟩) hl)
  have O1 := Lib.hid (RV.one ⟨nm, 1, ttl, pre4 ++ d, emp, emp⟩)
  have ZZ : Hid ((RV.cells ⟨emp, 0, 0, zero16, emp, emp⟩).size = (RV.cells ⟨nm, 1, ttl, pre4 ++ d, emp, emp⟩).size) := Lib.hid (by rw [RV.size rfl, RV.size hl])
  have SA := Lib.hid (sizeBv hl)
  have OA := Lib.hid (oneBv (pre4 ++ d))
  have C := fun (cs zs : Array Value) => v4_any bb o c d hd ((w.alloc (.cells cs 45)).alloc (.cells zs 45)) (by rw [World.size_alloc, World.size_alloc]; omega) (fun j hj => by
    rw [World.cell?_alloc_lt _ _ _ (by rw [World.size_alloc]; show bb < _; omega), World.cell?_alloc_lt _ _ _ (by show bb < _; omega)]
    exact hcell j (by omega))
  revert ZR c1 S3 F3 Z1 O1 ZZ SA OA C
  generalize RV.cells ⟨nm, 1, ttl, zero16, emp, emp⟩ = cs
  generalize RV.cells ⟨nm, 1, ttl, pre4 ++ d, emp, emp⟩ = rs
  generalize RV.cells ⟨emp, 0, 0, zero16, emp, emp⟩ = zs
  generalize (bvs (pre4 ++ d)).toArray = av
  intro ZR c1 S3 F3 Z1 O1 ZZ SA OA C
  have hc1 := (cell_of_row ((w.alloc (.cells cs 45)).alloc (.cells zs 45)) w.heap.size 1 _ _ _ (heap_two w _ _)).trans c1
  have C1 := C cs zs
  clear C hin c1 hcell
  go_enter Tryd.func38, Tryd.ntmps38
  go_wp2_with (first
    | (refine wpList_alloc_z rfl 45 rfl zs ZR.out ?_; go_simp))
  refine C1.mono ?_
  rintro e w1 ⟨rfl, hb1⟩
  have hg1 := (hb1.block w.heap.size (by simp; omega)).trans (heap_two w _ _)
  have hz1 := (hb1.block (w.heap.size + 1) (by simp)).trans (heap_alloc2_new w _ _)
  have hl1 := heap_lt hz1
  have HB1 := Lib.hid ((((Below.refl _ w).alloc (Nat.le_refl _) (.cells cs 45)).alloc (by rw [World.size_alloc]; omega) (.cells zs 45)).trans (hb1.mono (by simp; omega)))
  clear C1 hb1 hc1
  go_wp2_with (first
    | (refine wpList_store_sub rfl 40 (.tmp 19) (.tmp 18) rfl w.heap.size 3 cs av rs 45 hg1 rfl rfl SA.out F3.out OA.out S3.out ?_; intro w2 hg2 hw2 hs2; go_simp)
    | (refine wpList_load_row rfl 45 (.tmp 2) rfl w.heap.size rfl 45 rs (0, 0) _ hg2.out Tryd.underlying45 rfl Z1.out ?_; go_simp)
    | (refine wpList_store_blk rfl 45 (.tmp 4) (.tmp 33) rfl (w.heap.size + 1) zs rs 45 ((hw2.out.block (w.heap.size + 1) (by omega) (fun e => by injection e with e; omega)).trans hz1) rfl rfl Z1.out ZZ.out O1.out ?_; intro w3 hg3 hw3 hs3; go_simp))
  exact bodyPost_ret (results_cell_row rfl _ w3 (w.heap.size + 1) 45 rs (0, 0) _ rfl hg3.out Tryd.underlying45 rfl Z1.out) rfl ⟨rfl, (HB1.out.grown hw2.out (by omega) (fun k e => by injection e with e; omega)).grown hw3.out (by omega) (fun k e => by injection e with e; omega)⟩
set_option maxRecDepth 100000 in
set_option maxHeartbeats 2000000 in
theorem wd_b (nm : ByteArray) (ttl : Int) (base c : Nat) (A : Option Addr) (d : List UInt8) (w : World) (hd : d.length = 16) (hin : InB w base A d) (hb : base ≤ w.heap.size) :
    Calls Tryd.prog 38 #[.agg (RV.cells ⟨nm, 28, ttl, zero16, emp, emp⟩), .slice A 16 c] w fun e w' => e = .returned (.agg (RV.cells ⟨nm, 28, ttl, d, emp, emp⟩)) ∧ Below w.heap.size w w' := by
  obtain ⟨bb, o, rfl, hlt, hcell⟩ := hin (by omega)
  have ZR := Lib.hid zeroRec
  have c1 := RV.c1 ⟨nm, 28, ttl, zero16, emp, emp⟩
  have S3 := RV.set3 (r := ⟨nm, 28, ttl, zero16, emp, emp⟩) rfl hd
  have F3 : 3 + (bvs d).length ≤ (RV.cells ⟨nm, 28, ttl, zero16, emp, emp⟩).size := by rw [RV.size rfl, bvs_length, hd]; omega
  have Z1 := Lib.hid (sizeRv (r := ⟨nm, 28, ttl, d, emp, emp⟩) hd)
  have O1 := Lib.hid (RV.one ⟨nm, 28, ttl, d, emp, emp⟩)
  have ZZ : Hid ((RV.cells ⟨emp, 0, 0, zero16, emp, emp⟩).size = (RV.cells ⟨nm, 28, ttl, d, emp, emp⟩).size) := Lib.hid (by rw [RV.size rfl, RV.size hd])
  have C := fun (cs zs : Array Value) (hf : 3 + (bvs d).length ≤ cs.size) (ty : TypeId) => run_copy_row (P := Tryd.prog) ((w.alloc (.cells cs 45)).alloc (.cells zs 45)) 32 32 ty 5 w.heap.size 3 16 16 ⟨bb, o, none⟩ 16 c cs 45 (bvs d) Tryd.underlying32 sizeU8 (heap_two w _ _) (by rw [bvs_length, hd]; rfl)
    (fun j v hj => by
      have hj' : j < 16 := by rw [← hd, ← bvs_length]; exact (List.getElem?_eq_some_iff.1 hj).1
      rw [bvs_at (by omega)] at hj
      rw [Addr.add_lit, World.cell?_alloc_lt _ _ _ (by rw [World.size_alloc]; show bb < _; omega), World.cell?_alloc_lt _ _ _ (by show bb < _; omega), ← hj]
      exact hcell j (by omega)) hf (bvs_one d)
  replace C : ∀ (cs zs rs : Array Value) (hf : 3 + (bvs d).length ≤ cs.size) (hs : (cs.toList.take 3 ++ bvs d ++ cs.toList.drop (3 + (bvs d).length)).toArray = rs) (ty : TypeId),
      (Builtin.copy_ #[32, 32] ty #[.slice (some ⟨w.heap.size, 3, none⟩) 16 16, .slice (some ⟨bb, o, none⟩) 16 c]).run Tryd.prog ((w.alloc (.cells cs 45)).alloc (.cells zs 45)) = .ok (goInt (16 : Nat)) (((w.alloc (.cells cs 45)).alloc (.cells zs 45)).setRow w.heap.size rs) := fun cs zs rs hf hs ty => by
    have h := C cs zs hf ty
    rw [hs, show (bvs d).length = 16 by rw [bvs_length, hd]] at h
    exact h
  have S3' : ((RV.cells ⟨nm, 28, ttl, zero16, emp, emp⟩).toList.take 3 ++ bvs d ++ (RV.cells ⟨nm, 28, ttl, zero16, emp, emp⟩).toList.drop (3 + (bvs d).length)).toArray = RV.cells ⟨nm, 28, ttl, d, emp, emp⟩ := S3
  clear S3
  revert ZR c1 S3' F3 Z1 O1 ZZ
  generalize RV.cells ⟨nm, 28, ttl, zero16, emp, emp⟩ = cs
  generalize RV.cells ⟨nm, 28, ttl, d, emp, emp⟩ = rs
  generalize RV.cells ⟨emp, 0, 0, zero16, emp, emp⟩ = zs
  intro ZR c1 F3 Z1 O1 ZZ S3'
  have hc1 := (cell_of_row ((w.alloc (.cells cs 45)).alloc (.cells zs 45)) w.heap.size 1 _ _ _ (heap_two w _ _)).trans c1
  have C1 := C cs zs rs F3 S3'
  obtain ⟨w2, hw2⟩ : ∃ w2, ((w.alloc (.cells cs 45)).alloc (.cells zs 45)).setRow w.heap.size rs = w2 := ⟨_, rfl⟩
  rw [hw2] at C1
  have hg2 : w2.heap[w.heap.size]? = some (.cells rs 45 (0, 0)) := by rw [← hw2]; exact setRow_heap _ _ cs rs _ _ (heap_two w _ _)
  have hz2 : w2.heap[w.heap.size + 1]? = some (.cells zs 45 (0, 0)) := by rw [← hw2]; exact (setRow_other _ _ _ _ (by omega)).trans (heap_alloc2_new w _ _)
  have hs2 : w2.heap.size = w.heap.size + 2 := by rw [← hw2]; simp
  have hgr : ((w.alloc (.cells cs 45)).alloc (.cells zs 45)).grownBy w2 (some w.heap.size) := by rw [← hw2]; exact ⟨rfl, rfl, rfl, by simp, fun k _ hk => setRow_other _ _ k rs (fun e => hk (by rw [e]))⟩
  have HB2 := Lib.hid ((((Below.refl _ w).alloc (Nat.le_refl _) (.cells cs 45)).alloc (by rw [World.size_alloc]; omega) (.cells zs 45)).grown hgr (by rw [World.size_alloc, World.size_alloc]; omega) (fun k e => by injection e with e; omega))
  have HG2 := Lib.hid hg2
  have HZ2 := Lib.hid hz2
  clear C hin c1 hcell F3 S3' hw2 hg2 hz2 hgr
  go_enter Tryd.func38, Tryd.ntmps38
  go_wp2_with (first
    | (refine wpList_alloc_z rfl 45 rfl zs ZR.out ?_; go_simp)
    | (refine wpList_load_row rfl 45 (.tmp 2) rfl w.heap.size rfl 45 rs (0, 0) _ HG2.out Tryd.underlying45 rfl Z1.out ?_; go_simp)
    | (refine wpList_store_blk rfl 45 (.tmp 4) (.tmp 33) rfl (w.heap.size + 1) zs rs 45 HZ2.out rfl rfl Z1.out ZZ.out O1.out ?_; intro w3 hg3 hw3 hs3; go_simp))
  exact bodyPost_ret (results_cell_row rfl _ w3 (w.heap.size + 1) 45 rs (0, 0) _ rfl hg3.out Tryd.underlying45 rfl Z1.out) rfl ⟨rfl, HB2.out.grown hw3.out (by omega) (fun k e => by injection e with e; omega)⟩
/-- a record with what lies in its data -/
def withR (nm : ByteArray) (ty ttl : Int) (d : List UInt8) : RV :=
  if ty = 1 ∧ d.length = 4 then ⟨nm, ty, ttl, pre4 ++ d, emp, emp⟩ else if ty = 28 ∧ d.length = 16 then ⟨nm, ty, ttl, d, emp, emp⟩ else ⟨nm, ty, ttl, zero16, emp, bs d⟩
theorem withData_any (nm : ByteArray) (ty ttl : Int) (base n c : Nat) (A : Option Addr) (d : List UInt8) (w : World) (hd : d.length = n) (hin : InB w base A d) (hb : base ≤ w.heap.size) :
    Calls Tryd.prog 38 #[.agg (RV.cells ⟨nm, ty, ttl, zero16, emp, emp⟩), .slice A n c] w fun e w' => e = .returned (.agg (withR nm ty ttl d).cells) ∧ Below w.heap.size w w' := by
  subst hd
  unfold withR
  by_cases h1 : ty = 1 ∧ d.length = 4
  · rw [if_pos h1]
    obtain ⟨rfl, h4⟩ := h1
    rw [h4]
    exact wd_a nm ttl base c A d w h4 hin hb
  · rw [if_neg h1]
    by_cases h2 : ty = 28 ∧ d.length = 16
    · rw [if_pos h2]
      obtain ⟨rfl, h4⟩ := h2
      rw [h4]
      exact wd_b nm ttl base c A d w h4 hin hb
    · rw [if_neg h2]
      exact wd_c nm ty ttl base d.length c A d w rfl hin hb h1 h2
/-- take, over a reader of which its place is known or that it is wrong -/
def TakeP (base : Nat) (w : World) (g : Nat) (A : Option Addr) (c : Nat) (b : List UInt8) (o : Option Nat) (k : Nat) (e : Ending) (w' : World) : Prop :=
  ∃ (A' : Option Addr) (d : List UInt8) (c' : Nat), e = .returned (.slice A' d.length c') ∧ InB w' base A' d ∧ (∀ p, o = some p → p + k ≤ b.length → d = cutB b p k) ∧
    RSt base w' g A c b (o.bind fun p => if p + k ≤ b.length then some (p + k) else none) ∧ w.grownBy w' (some g)
theorem takeP (base g c k : Nat) (A : Option Addr) (b : List UInt8) (o : Option Nat) (w : World) (h : RSt base w g A c b o) (hk : k ≤ 70000) :
    Calls Tryd.prog 29 #[.pointer (some ⟨g, 0, none⟩), .int .i64 k] w fun e w' => TakeP base w g A c b o k e w' := by
  obtain ⟨p, hp⟩ := h.blk
  refine (take_any base g c p k A b o.isNone w hp hk).mono ?_
  rintro e w' (⟨h1, h2, ⟨A', c', rfl, _, h3⟩, h4, h5⟩ | ⟨h1, rfl, h4, h5⟩)
  · cases o with
    | none => cases h1
    | some q =>
      have hq : q = p := by
        have h6 : w.heap[g]? = some (.cells #[.slice A b.length c, .int .i64 q, .bool false] 67 (0, 0)) := RIs.blk h
        have h7 := h6.symm.trans hp.blk
        simp only [Option.some.injEq, Obj.cells.injEq, Array.mk.injEq, List.cons.injEq, Value.int.injEq, true_and, and_true] at h7
        omega
      subst hq
      refine ⟨A', cutB b q k, c', by rw [cutB_len h2], h3, (fun p hp _ => by cases hp; rfl), ?_, h5⟩
      rw [Option.bind_some, if_pos h2]
      exact h4
  · cases o with
    | none => exact ⟨none, [], 0, rfl, fun h0 => absurd h0 (by simp), (fun p hp => by cases hp), ⟨p, h4⟩, h5⟩
    | some q =>
      have hq : q = p := by
        have h6 : w.heap[g]? = some (.cells #[.slice A b.length c, .int .i64 q, .bool false] 67 (0, 0)) := RIs.blk h
        have h7 := h6.symm.trans hp.blk
        simp only [Option.some.injEq, Obj.cells.injEq, Array.mk.injEq, List.cons.injEq, Value.int.injEq, true_and, and_true] at h7
        omega
      subst hq
      have hno : ¬ (q + k ≤ b.length) := by
        rcases h1 with h1 | h1
        · cases h1
        · omega
      refine ⟨none, [], 0, rfl, fun h0 => absurd h0 (by simp), (fun p hp hle => by cases hp; exact absurd hle hno), ?_, h5⟩
      rw [Option.bind_some, if_neg hno]
      exact ⟨q, h4⟩
end Go.Proofs.YtakfokdjdljjjaaDoor
