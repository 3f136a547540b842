/-
  The walk of ResolveBoth: of two outcomes the first one with records is taken, else the one that tells more. No condition.
-/
import Derived.Test.YtocmanmogfedoaaResFit
namespace Go.Proofs.Ytocmanmogfedoaa
open Go.RowKit

theorem bothO_assoc (x y z : Oc) : bothO (bothO x y) z = bothO x (bothO y z) := by
  unfold bothO
  by_cases h1 : wt x.k < wt y.k
  · rw [if_pos h1]
    by_cases h2 : wt y.k < wt z.k
    · rw [if_pos h2, if_pos (by omega)]
    · rw [if_neg h2, if_pos h1]
  · rw [if_neg h1]
    by_cases h2 : wt y.k < wt z.k
    · rw [if_pos h2]
    · rw [if_neg h2, if_neg h1]
      by_cases h3 : wt x.k < wt z.k
      · omega
      · rw [if_neg h3]
/-- what is made while two outcomes are asked for -/
structure BoAt (W0 u : World) (pa pb : Option Nat) : Prop where
  below : Below W0.heap.size W0 u
  a : ∀ g, pa = some g → u.heap[g]? = some (.cells zO.cells 32 (0, 0)) ∧ W0.heap.size ≤ g
  b : ∀ g, pb = some g → u.heap[g]? = some (.cells zO.cells 32 (0, 0)) ∧ W0.heap.size ≤ g
  ne : ∀ g h, pa = some g → pb = some h → g ≠ h
section
variable {W0 u u' : World} {a b : Option Nat}
theorem BoAt.to (h : BoAt W0 u a b) (hb : Below u.heap.size u u') : BoAt W0 u' a b :=
  ⟨h.below.trans (hb.mono h.below.size), fun g hg => ⟨(hb.block g (heap_lt (h.a g hg).1)).trans (h.a g hg).1, (h.a g hg).2⟩, fun g hg => ⟨(hb.block g (heap_lt (h.b g hg).1)).trans (h.b g hg).1, (h.b g hg).2⟩, h.ne⟩
theorem BoAt.withA (h : BoAt W0 u none b) : BoAt W0 (u.alloc (.cells zO.cells 32)) (some u.heap.size) b := by
  have h2 := h.to ((Below.refl _ u).alloc (Nat.le_refl _) (.cells zO.cells 32))
  refine ⟨h2.below, fun g hg => ?_, h2.b, fun g k hg hk => ?_⟩
  · injection hg with hg
    subst hg
    exact ⟨heap_alloc_last u _, h.below.size⟩
  · injection hg with hg
    have := heap_lt (h.b k hk).1
    omega
theorem BoAt.withB (h : BoAt W0 u a none) : BoAt W0 (u.alloc (.cells zO.cells 32)) a (some u.heap.size) := by
  have h2 := h.to ((Below.refl _ u).alloc (Nat.le_refl _) (.cells zO.cells 32))
  refine ⟨h2.below, h2.a, fun g hg => ?_, fun g k hg hk => ?_⟩
  · injection hg with hg
    subst hg
    exact ⟨heap_alloc_last u _, h.below.size⟩
  · injection hk with hk
    have := heap_lt (h.a g hg).1
    omega
/-- the first is stored -/
structure BoOne (W0 u : World) (g h : Nat) (C : Array Value) : Prop where
  below : Below W0.heap.size W0 u
  f : u.heap[g]? = some (.cells C 32 (0, 0))
  b : u.heap[h]? = some (.cells zO.cells 32 (0, 0))
  hb : W0.heap.size ≤ h
  ne : g ≠ h
theorem BoAt.one {g h : Nat} {C : Array Value} (x : BoAt W0 u (some g) (some h)) (hg : u'.heap[g]? = some (.cells C 32 (0, 0))) (hw : u.grownBy u' (some g)) : BoOne W0 u' g h C :=
  ⟨x.below.grown hw x.below.size (fun k e => by injection e with e; have := (x.a g rfl).2; omega), hg,
   (hw.block h (heap_lt (x.b h rfl).1) (fun e => by injection e with e; exact x.ne g h rfl rfl e.symm)).trans (x.b h rfl).1, (x.b h rfl).2, x.ne g h rfl rfl⟩
/-- both are stored -/
structure BoFin (W0 u : World) (g h : Nat) (C D : Array Value) : Prop where
  below : Below W0.heap.size W0 u
  f : u.heap[g]? = some (.cells C 32 (0, 0))
  s : u.heap[h]? = some (.cells D 32 (0, 0))
theorem BoOne.fin {g h : Nat} {C D : Array Value} (x : BoOne W0 u g h C) (hg : u'.heap[h]? = some (.cells D 32 (0, 0))) (hw : u.grownBy u' (some h)) : BoFin W0 u' g h C D :=
  ⟨x.below.grown hw x.below.size (fun k e => by injection e with e; have := x.hb; omega), (hw.block g (heap_lt x.f) (fun e => by injection e with e; exact x.ne e)).trans x.f, hg⟩
end
theorem wt_tab (k : Nat) (h1 : 2 ≤ k) (h5 : k ≤ 5) : (#[Value.int .i64 0, .int .i64 0, .int .i64 2, .int .i64 1, .int .i64 4, .int .i64 3] : Array Value)[k]? = some (.int .i64 (wt (k : Nat))) := by
  rcases (show k = 2 ∨ k = 3 ∨ k = 4 ∨ k = 5 by omega) with rfl | rfl | rfl | rfl <;> rfl
def zKc (c : Int) (k : Nat) : Oc := ⟨0, c, k⟩
set_option maxRecDepth 100000 in
set_option maxHeartbeats 16000000 in
theorem resolveBoth_walk (a b c : Int) (w : World) :
    Calls Try.prog 4 #[.int .i64 a, .int .i64 b, .int .i64 c] w fun e w' => e = .returned (.bool true) ∧ Below w.heap.size w w' := by
  have HFit := Lib.hid fit16_e
  have HKA := Lib.hid (fun W => kind_e a W)
  have HKB := Lib.hid (fun W => kind_e b W)
  have HKC := Lib.hid (fun W => kind_e c W)
  have ia := kd_in a
  have ib := kd_in b
  have ic := kd_in c
  generalize kd a = ka at HKA ia
  generalize kd b = kb at HKB ib
  generalize kd c = kc at HKC ic
  have HIA := Lib.hid ia
  have HIB := Lib.hid ib
  have HIC := Lib.hid ic
  have ka1 : (1 : Int) ≤ (ka : Int) := by omega
  have ka5 : (ka : Int) ≤ 5 := by omega
  have kb1 : (1 : Int) ≤ (kb : Int) := by omega
  have kb5 : (kb : Int) ≤ 5 := by omega
  have HP : Hid (bothO (zKc 1 ka) (bothO (zKc 2 kb) (zKc 3 kc)) = bothO (bothO (zKc 1 ka) (zKc 2 kb)) (zKc 3 kc)) := Lib.hid (bothO_assoc _ _ _).symm
  have hxy : 1 ≤ (bothO (zKc 1 ka) (zKc 2 kb)).k ∧ (bothO (zKc 1 ka) (zKc 2 kb)).k ≤ 5 := bothO_k ka1 ka5 kb1 kb5
  have hyz : 1 ≤ (bothO (zKc 2 kb) (zKc 3 kc)).k ∧ (bothO (zKc 2 kb) (zKc 3 kc)).k ≤ 5 := bothO_k kb1 kb5 (by show (1 : Int) ≤ (kc : Int); omega) (by show (kc : Int) ≤ 5; omega)
  have HO1 : Hid (∀ U, Calls Try.prog 15 #[.agg (zKc 1 ka).cells.toList.toArray, .agg (zKc 2 kb).cells.toList.toArray] U fun e w' => e = .returned (.agg (bothO (zKc 1 ka) (zKc 2 kb)).cells) ∧ Below U.heap.size U w') := Lib.hid (fun U => both_e (zKc 1 ka) (zKc 2 kb) ka1 ka5 kb1 kb5 U)
  have HO2 : Hid (∀ U, Calls Try.prog 15 #[.agg (bothO (zKc 1 ka) (zKc 2 kb)).cells, .agg (zKc 3 kc).cells.toList.toArray] U fun e w' => e = .returned (.agg (bothO (bothO (zKc 1 ka) (zKc 2 kb)) (zKc 3 kc)).cells) ∧ Below U.heap.size U w') := Lib.hid (fun U => both_e _ (zKc 3 kc) hxy.1 hxy.2 (by show (1 : Int) ≤ (kc : Int); omega) (by show (kc : Int) ≤ 5; omega) U)
  have HO3 : Hid (∀ U, Calls Try.prog 15 #[.agg (zKc 2 kb).cells.toList.toArray, .agg (zKc 3 kc).cells.toList.toArray] U fun e w' => e = .returned (.agg (bothO (zKc 2 kb) (zKc 3 kc)).cells) ∧ Below U.heap.size U w') := Lib.hid (fun U => both_e (zKc 2 kb) (zKc 3 kc) kb1 kb5 (by show (1 : Int) ≤ (kc : Int); omega) (by show (kc : Int) ≤ 5; omega) U)
  have HO4 : Hid (∀ U, Calls Try.prog 15 #[.agg (zKc 1 ka).cells.toList.toArray, .agg (bothO (zKc 2 kb) (zKc 3 kc)).cells] U fun e w' => e = .returned (.agg (bothO (bothO (zKc 1 ka) (zKc 2 kb)) (zKc 3 kc)).cells) ∧ Below U.heap.size U w') := Lib.hid (fun U => by
    rw [← HP.out]
    exact both_e (zKc 1 ka) _ ka1 ka5 hyz.1 hyz.2 U)
  have HWc : Hid (∀ U, Calls Try.prog 15 #[.agg (zKc 1 ka).cells, .agg (zKc 2 kb).cells] U fun e w' => e = .returned (.agg (bothO (zKc 1 ka) (zKc 2 kb)).cells) ∧ Below U.heap.size U w') := Lib.hid (fun U => HO1.out U)
  have HWx : Hid (bothO (zKc 1 ka) (zKc 2 kb) = if wt (ka : Nat) < wt (kb : Nat) then zKc 2 kb else zKc 1 ka) := Lib.hid rfl
  obtain ⟨P0, hP0⟩ : ∃ P0, P0 = bothO (bothO (zKc 1 ka) (zKc 2 kb)) (zKc 3 kc) := ⟨_, rfl⟩
  rw [← hP0] at HO2 HO4
  have HSP := Lib.hid (sizeO P0)
  have H1P := Lib.hid P0.one
  have HZP : Hid (zO.cells.size = P0.cells.size) := Lib.hid rfl
  have HP1 : Hid (P0.cells[1]? = some (.int .i64 P0.c)) := Lib.hid rfl
  have HP2 : Hid (P0.cells[2]? = some (.int .i64 P0.k)) := Lib.hid rfl
  have HSL : Hid ((Try.prog.info? 32).map (·.size) = some 4) := Lib.hid sizeO4
  clear HP hxy hyz ia ib ic hP0
  go_enter Try.func4, Try.ntmps4
  go_wp2_with fail
  refine (HFit.out _).mono ?_
  rintro e w1 ⟨rfl, hb1⟩
  have HB1 := Lib.hid hb1
  clear hb1
  go_wp2_with fail
  refine (HKA.out _).mono ?_
  rintro e w2 ⟨rfl, rfl⟩
  go_wp2_with fail
  refine (HKB.out _).mono ?_
  rintro e w2 ⟨rfl, rfl⟩
  go_wp2_with fail
  refine (HKC.out _).mono ?_
  rintro e w2 ⟨rfl, rfl⟩
  go_upto_region 4 with fail
  have b1 := heap_alloc_last w1 (.cells (zKc 1 ka).cells 32)
  have b2 := heap_alloc_last (w1.alloc (.cells (zKc 1 ka).cells 32)) (.cells (zKc 2 kb).cells 32)
  have b3 := heap_alloc_last ((w1.alloc (.cells (zKc 1 ka).cells 32)).alloc (.cells (zKc 2 kb).cells 32)) (.cells (zKc 3 kc).cells 32)
  have l1 := (Below.refl _ w1).alloc (Nat.le_refl _) (.cells (zKc 1 ka).cells 32)
  have l2 := (Below.refl _ (w1.alloc (.cells (zKc 1 ka).cells 32))).alloc (Nat.le_refl _) (.cells (zKc 2 kb).cells 32)
  have l3 := (Below.refl _ ((w1.alloc (.cells (zKc 1 ka).cells 32)).alloc (.cells (zKc 2 kb).cells 32))).alloc (Nat.le_refl _) (.cells (zKc 3 kc).cells 32)
  simp only [World.size_alloc] at b2 b3
  have HM7 := Lib.hid ((l3.block w1.heap.size (by simp only [World.size_alloc]; omega)).trans ((l2.block w1.heap.size (by simp only [World.size_alloc]; omega)).trans b1))
  have HM8 := Lib.hid ((l3.block (w1.heap.size + 1) (by simp only [World.size_alloc]; omega)).trans b2)
  have HM9 := Lib.hid b3
  have HB4 := Lib.hid (HB1.out.trans (((l1.trans (l2.mono l1.size)).trans (l3.mono (Nat.le_trans l1.size l2.size))).mono HB1.out.size))
  clear b1 b2 b3 l1 l2 l3 HB1 HKA HKB HKC HFit
  generalize hW0 : ((w1.alloc (.cells (zKc 1 ka).cells 32)).alloc (.cells (zKc 2 kb).cells 32)).alloc (.cells (zKc 3 kc).cells 32) = W0 at HM7 HM8 HM9 HB4
  have hW0' : ((w1.alloc (.cells #[.int .i64 0, .int .i64 1, .int .i64 (ka : Nat), .slice none 0 0] 32)).alloc (.cells #[.int .i64 0, .int .i64 2, .int .i64 (kb : Nat), .slice none 0 0] 32)).alloc (.cells #[.int .i64 0, .int .i64 3, .int .i64 (kc : Nat), .slice none 0 0] 32) = W0 := hW0
  rw [hW0']
  clear hW0 hW0'
  obtain ⟨B7, hB7⟩ : ∃ B7, B7 = w1.heap.size := ⟨_, rfl⟩
  obtain ⟨B8, hB8⟩ : ∃ B8, B8 = w1.heap.size + 1 := ⟨_, rfl⟩
  obtain ⟨B9, hB9⟩ : ∃ B9, B9 = w1.heap.size + 1 + 1 := ⟨_, rfl⟩
  rw [← hB9] at HM9 ⊢
  rw [← hB8] at HM8 ⊢
  rw [← hB7] at HM7 ⊢
  clear hB7 hB8 hB9
  obtain ⟨xL, hxL⟩ : ∃ xL, xL = (zKc 1 ka).cells.toList := ⟨_, rfl⟩
  obtain ⟨yL, hyL⟩ : ∃ yL, yL = (zKc 2 kb).cells.toList := ⟨_, rfl⟩
  obtain ⟨zL, hzL⟩ : ∃ zL, zL = (zKc 3 kc).cells.toList := ⟨_, rfl⟩
  have Rx : Hid (∀ W : World, Below W0.heap.size W0 W → W.rangeAt B7 0 xL) := Lib.hid (fun W hW j v hj => by
    rw [Nat.zero_add]
    rw [hxL] at hj
    exact (hW.cell (p := ⟨B7, j, none⟩) (heap_lt HM7.out)).trans ((cell_of_row _ B7 j _ _ _ HM7.out).trans (by rw [← Array.getElem?_toList]; exact hj)))
  have Ry : Hid (∀ W : World, Below W0.heap.size W0 W → W.rangeAt B8 0 yL) := Lib.hid (fun W hW j v hj => by
    rw [Nat.zero_add]
    rw [hyL] at hj
    exact (hW.cell (p := ⟨B8, j, none⟩) (heap_lt HM8.out)).trans ((cell_of_row _ B8 j _ _ _ HM8.out).trans (by rw [← Array.getElem?_toList]; exact hj)))
  have Rz : Hid (∀ W : World, Below W0.heap.size W0 W → W.rangeAt B9 0 zL) := Lib.hid (fun W hW j v hj => by
    rw [Nat.zero_add]
    rw [hzL] at hj
    exact (hW.cell (p := ⟨B9, j, none⟩) (heap_lt HM9.out)).trans ((cell_of_row _ B9 j _ _ _ HM9.out).trans (by rw [← Array.getElem?_toList]; exact hj)))
  rw [← hxL] at HO1 HO4
  rw [← hyL] at HO1 HO3
  rw [← hzL] at HO2 HO3
  have HSx : Hid ((Try.prog.info? 32).map (·.size) = some xL.length) := Lib.hid (by rw [hxL]; exact HSL.out)
  have HSy : Hid ((Try.prog.info? 32).map (·.size) = some yL.length) := Lib.hid (by rw [hyL]; exact HSL.out)
  have HSz : Hid ((Try.prog.info? 32).map (·.size) = some zL.length) := Lib.hid (by rw [hzL]; exact HSL.out)
  clear hxL hyL hzL HSL
  generalize (bothO (zKc 2 kb) (zKc 3 kc)).cells = C2 at HO3 HO4
  generalize (bothO (zKc 1 ka) (zKc 2 kb)).cells = C1 at HO1 HO2
  generalize P0.cells = P at HO2 HO4 HSP H1P HZP HP1 HP2
  go_cut [10, 11] from 25 to 34 (fun t10 t11 wx => ∃ gA gB, t10 = .pointer (some ⟨gA, 0, none⟩) ∧ t11 = .pointer (some ⟨gB, 0, none⟩) ∧ Hid (BoFin W0 wx gA gB P P))
  case first =>
    clear HP1 HP2 HWc HWx HM7 HM8 HM9 HB4
    refine wp_region_held_drew (S := (fun W : World => Below W0.heap.size W0 W)) (by kernel_rfl) (Below.refl _ W0).drew (fun _ => ?_)
    have HM0 : Hid (BoAt W0 W0.drew none none) := Lib.hid ⟨(Below.refl _ W0).drew, (fun g h => by cases h), (fun g h => by cases h), (fun g h e _ => by cases e)⟩
    generalize W0.drew = V0 at HM0 ⊢
    refine wpAnyH_take (i := 0) (oi := ({ dst := some 25, op := Go.Op.load 32 (Go.Operand.tmp 7), type := 32, pos := "law.go:111", after := #[], guard := none } : Oper)) (v := .agg (xL).toArray) rfl (by kernel_rfl) (by kernel_rfl) (by kernel_rfl) (fun _ _ _ h => h) (yieldsIf_load_mid (by rfl) _ _ rfl _ _ rfl _ _ (fun W h => Rx.out W h) Try.underlying32 rfl HSx.out) HM0.out.below ?_
    simp only [Act.put, List.setIfInBounds_toArray, List.set_cons_zero, List.set_cons_succ]
    refine wpAnyH_take (i := 1) (oi := ({ dst := some 26, op := Go.Op.load 32 (Go.Operand.tmp 8), type := 32, pos := "law.go:111", after := #[], guard := none } : Oper)) (v := .agg (yL).toArray) rfl (by kernel_rfl) (by kernel_rfl) (by kernel_rfl) (fun _ _ _ h => h) (yieldsIf_load_mid (by rfl) _ _ rfl _ _ rfl _ _ (fun W h => Ry.out W h) Try.underlying32 rfl HSy.out) HM0.out.below ?_
    simp only [Act.put, List.setIfInBounds_toArray, List.set_cons_zero, List.set_cons_succ]
    refine wpAnyH_take (i := 3) (oi := ({ dst := some 28, op := Go.Op.load 32 (Go.Operand.tmp 9), type := 32, pos := "law.go:111", after := #[], guard := none } : Oper)) (v := .agg (zL).toArray) rfl (by kernel_rfl) (by kernel_rfl) (by kernel_rfl) (fun _ _ _ h => h) (yieldsIf_load_mid (by rfl) _ _ rfl _ _ rfl _ _ (fun W h => Rz.out W h) Try.underlying32 rfl HSz.out) HM0.out.below ?_
    simp only [Act.put, List.setIfInBounds_toArray, List.set_cons_zero, List.set_cons_succ]
    refine wpAnyH_take (i := 5) (oi := ({ dst := some 30, op := Go.Op.load 32 (Go.Operand.tmp 7), type := 32, pos := "law.go:111", after := #[], guard := none } : Oper)) (v := .agg (xL).toArray) rfl (by kernel_rfl) (by kernel_rfl) (by kernel_rfl) (fun _ _ _ h => h) (yieldsIf_load_mid (by rfl) _ _ rfl _ _ rfl _ _ (fun W h => Rx.out W h) Try.underlying32 rfl HSx.out) HM0.out.below ?_
    simp only [Act.put, List.setIfInBounds_toArray, List.set_cons_zero, List.set_cons_succ]
    refine wpAnyH_take (i := 6) (oi := ({ dst := some 31, op := Go.Op.load 32 (Go.Operand.tmp 8), type := 32, pos := "law.go:111", after := #[], guard := none } : Oper)) (v := .agg (yL).toArray) rfl (by kernel_rfl) (by kernel_rfl) (by kernel_rfl) (fun _ _ _ h => h) (yieldsIf_load_mid (by rfl) _ _ rfl _ _ rfl _ _ (fun W h => Ry.out W h) Try.underlying32 rfl HSy.out) HM0.out.below ?_
    simp only [Act.put, List.setIfInBounds_toArray, List.set_cons_zero, List.set_cons_succ]
    refine wpAnyH_take (i := 7) (oi := ({ dst := some 32, op := Go.Op.load 32 (Go.Operand.tmp 9), type := 32, pos := "law.go:111", after := #[], guard := none } : Oper)) (v := .agg (zL).toArray) rfl (by kernel_rfl) (by kernel_rfl) (by kernel_rfl) (fun _ _ _ h => h) (yieldsIf_load_mid (by rfl) _ _ rfl _ _ rfl _ _ (fun W h => Rz.out W h) Try.underlying32 rfl HSz.out) HM0.out.below ?_
    simp only [Act.put, List.setIfInBounds_toArray, List.set_cons_zero, List.set_cons_succ]
    refine wpAnyH_ready (rs := [2, 10, 11]) (by kernel_rfl) (by simp) ?_
    refine (AllReadyH.cons (o := ({ dst := some 27, op := Go.Op.call { callee := Go.Callee.value (Go.Operand.func 15), args := #[Go.Operand.tmp 25, Go.Operand.tmp 26], argTypes := #[32, 32] }, type := 32, pos := "law.go:111", after := #[{ on := 0, ground := Go.Ground.data }, { on := 1, ground := Go.Ground.data }], guard := none } : Oper)) rfl (fun K hK => ?_) (AllReadyH.cons (o := ({ dst := some 10, op := Go.Op.alloc 32, type := 0, pos := "law.go:111", after := #[], guard := none } : Oper)) rfl (fun K hK => ?_) (AllReadyH.cons (o := ({ dst := some 11, op := Go.Op.alloc 32, type := 0, pos := "law.go:111", after := #[], guard := none } : Oper)) rfl (fun K hK => ?_) AllReadyH.nil)))
    · go_simp
      go_at_call 15
      refine (HO1.out _).mono ?_
      rintro e' U1 ⟨rfl, hbm⟩
      have HM2 := Lib.hid (HM0.out.to hbm)
      refine hK.out _ _ HM2.out.below (fun _ => ?_)
      clear hK K hbm
      try simp only [Act.put, List.setIfInBounds_toArray, List.set_cons_zero, List.set_cons_succ]
      refine wpAnyH_ready (rs := [4, 10, 11]) (by kernel_rfl) (by simp) ?_
      refine (AllReadyH.cons (o := ({ dst := some 29, op := Go.Op.call { callee := Go.Callee.value (Go.Operand.func 15), args := #[Go.Operand.tmp 27, Go.Operand.tmp 28], argTypes := #[32, 32] }, type := 32, pos := "law.go:111", after := #[{ on := 2, ground := Go.Ground.data }, { on := 3, ground := Go.Ground.data }, { on := 2, ground := Go.Ground.chain }], guard := none } : Oper)) rfl (fun K hK => ?_) (AllReadyH.cons (o := ({ dst := some 10, op := Go.Op.alloc 32, type := 0, pos := "law.go:111", after := #[], guard := none } : Oper)) rfl (fun K hK => ?_) (AllReadyH.cons (o := ({ dst := some 11, op := Go.Op.alloc 32, type := 0, pos := "law.go:111", after := #[], guard := none } : Oper)) rfl (fun K hK => ?_) AllReadyH.nil)))
      · go_simp
        go_at_call 15
        refine (HO2.out _).mono ?_
        rintro e' U3 ⟨rfl, hbm⟩
        have HM4 := Lib.hid (HM2.out.to hbm)
        refine hK.out _ _ HM4.out.below (fun _ => ?_)
        clear hK K hbm
        try simp only [Act.put, List.setIfInBounds_toArray, List.set_cons_zero, List.set_cons_succ]
        refine wpAnyH_ready (rs := [8, 10, 11]) (by kernel_rfl) (by simp) ?_
        refine (AllReadyH.cons (o := ({ dst := some 33, op := Go.Op.call { callee := Go.Callee.value (Go.Operand.func 15), args := #[Go.Operand.tmp 31, Go.Operand.tmp 32], argTypes := #[32, 32] }, type := 32, pos := "law.go:111", after := #[{ on := 6, ground := Go.Ground.data }, { on := 7, ground := Go.Ground.data }, { on := 4, ground := Go.Ground.chain }], guard := none } : Oper)) rfl (fun K hK => ?_) (AllReadyH.cons (o := ({ dst := some 10, op := Go.Op.alloc 32, type := 0, pos := "law.go:111", after := #[], guard := none } : Oper)) rfl (fun K hK => ?_) (AllReadyH.cons (o := ({ dst := some 11, op := Go.Op.alloc 32, type := 0, pos := "law.go:111", after := #[], guard := none } : Oper)) rfl (fun K hK => ?_) AllReadyH.nil)))
        · go_simp
          go_at_call 15
          refine (HO3.out _).mono ?_
          rintro e' U5 ⟨rfl, hbm⟩
          have HM6 := Lib.hid (HM4.out.to hbm)
          refine hK.out _ _ HM6.out.below (fun _ => ?_)
          clear hK K hbm
          try simp only [Act.put, List.setIfInBounds_toArray, List.set_cons_zero, List.set_cons_succ]
          refine wpAnyH_ready (rs := [9, 10, 11]) (by kernel_rfl) (by simp) ?_
          refine (AllReadyH.cons (o := ({ dst := some 34, op := Go.Op.call { callee := Go.Callee.value (Go.Operand.func 15), args := #[Go.Operand.tmp 30, Go.Operand.tmp 33], argTypes := #[32, 32] }, type := 32, pos := "law.go:111", after := #[{ on := 5, ground := Go.Ground.data }, { on := 8, ground := Go.Ground.data }, { on := 8, ground := Go.Ground.chain }], guard := none } : Oper)) rfl (fun K hK => ?_) (AllReadyH.cons (o := ({ dst := some 10, op := Go.Op.alloc 32, type := 0, pos := "law.go:111", after := #[], guard := none } : Oper)) rfl (fun K hK => ?_) (AllReadyH.cons (o := ({ dst := some 11, op := Go.Op.alloc 32, type := 0, pos := "law.go:111", after := #[], guard := none } : Oper)) rfl (fun K hK => ?_) AllReadyH.nil)))
          · go_simp
            go_at_call 15
            refine (HO4.out _).mono ?_
            rintro e' U7 ⟨rfl, hbm⟩
            have HM8 := Lib.hid (HM6.out.to hbm)
            refine hK.out _ _ HM8.out.below (fun _ => ?_)
            clear hK K hbm
            try simp only [Act.put, List.setIfInBounds_toArray, List.set_cons_zero, List.set_cons_succ]
            refine wpAnyH_ready (rs := [10, 11]) (by kernel_rfl) (by simp) ?_
            refine (AllReadyH.cons (o := ({ dst := some 10, op := Go.Op.alloc 32, type := 0, pos := "law.go:111", after := #[], guard := none } : Oper)) rfl (fun K hK => ?_) (AllReadyH.cons (o := ({ dst := some 11, op := Go.Op.alloc 32, type := 0, pos := "law.go:111", after := #[], guard := none } : Oper)) rfl (fun K hK => ?_) AllReadyH.nil))
            · rw [if_pos (by kernel_rfl)]
              go_simp
              have HM10 := Lib.hid (HM8.out.withA)
              refine hK.out _ _ HM10.out.below (fun _ => ?_)
              clear hK K
              generalize hU : U7.alloc (.cells zO.cells 32) = U9 at HM10
              rw [show U7.alloc (.cells #[.int .i64 0, .int .i64 0, .int .i64 0, .slice none 0 0] 32) = U9 from hU]
              clear hU
              generalize U7.heap.size = gA at HM10 ⊢
              try simp only [Act.put, List.setIfInBounds_toArray, List.set_cons_zero, List.set_cons_succ]
              refine wpAnyH_ready (rs := [11]) (by kernel_rfl) (by simp) ?_
              refine (AllReadyH.cons (o := ({ dst := some 11, op := Go.Op.alloc 32, type := 0, pos := "law.go:111", after := #[], guard := none } : Oper)) rfl (fun K hK => ?_) AllReadyH.nil)
              rw [if_pos (by kernel_rfl)]
              go_simp
              have HM12 := Lib.hid (HM10.out.withB)
              refine hK.out _ _ HM12.out.below (fun _ => ?_)
              clear hK K
              generalize hU : U9.alloc (.cells zO.cells 32) = U11 at HM12
              rw [show U9.alloc (.cells #[.int .i64 0, .int .i64 0, .int .i64 0, .slice none 0 0] 32) = U11 from hU]
              clear hU
              generalize U9.heap.size = gB at HM12 ⊢
              try simp only [Act.put, List.setIfInBounds_toArray, List.set_cons_zero, List.set_cons_succ]
              refine wpAnyH_ready (rs := [12]) (by kernel_rfl) (by simp) ?_
              refine (AllReadyH.cons (o := ({ dst := none, op := Go.Op.store 32 (Go.Operand.tmp 10) (Go.Operand.tmp 29), type := 0, pos := "law.go:111", after := #[{ on := 10, ground := Go.Ground.data }, { on := 4, ground := Go.Ground.data }, { on := 9, ground := Go.Ground.chain }, { on := 0, ground := Go.Ground.phase }, { on := 1, ground := Go.Ground.phase }, { on := 2, ground := Go.Ground.phase }, { on := 3, ground := Go.Ground.phase }, { on := 4, ground := Go.Ground.phase }, { on := 5, ground := Go.Ground.textOnly Go.Departure.lateStores }, { on := 6, ground := Go.Ground.textOnly Go.Departure.lateStores }, { on := 7, ground := Go.Ground.textOnly Go.Departure.lateStores }, { on := 8, ground := Go.Ground.textOnly Go.Departure.lateStoresUnsure }, { on := 9, ground := Go.Ground.textOnly Go.Departure.lateStoresUnsure }, { on := 10, ground := Go.Ground.phase }, { on := 11, ground := Go.Ground.phase }], guard := none } : Oper)) rfl (fun K hK => ?_) AllReadyH.nil)
              refine step_store_tr rfl 32 (.tmp 10) (.tmp 29) rfl gA zO.cells P 32 (HM12.out.a _ rfl).1 rfl rfl HSP.out HZP.out H1P.out (fun U13 hg4 hw4 hs4 => ?_)
              have HM14 := Lib.hid (HM12.out.one hg4.out hw4.out)
              clear hg4 hw4 hs4
              refine hK.out _ _ HM14.out.below (fun _ => ?_)
              clear hK K
              try simp only [Act.put]
              refine wpAnyH_ready (rs := [13]) (by kernel_rfl) (by simp) ?_
              refine (AllReadyH.cons (o := ({ dst := none, op := Go.Op.store 32 (Go.Operand.tmp 11) (Go.Operand.tmp 34), type := 0, pos := "law.go:111", after := #[{ on := 11, ground := Go.Ground.data }, { on := 9, ground := Go.Ground.data }, { on := 12, ground := Go.Ground.chain }, { on := 0, ground := Go.Ground.phase }, { on := 1, ground := Go.Ground.phase }, { on := 2, ground := Go.Ground.phase }, { on := 3, ground := Go.Ground.phase }, { on := 4, ground := Go.Ground.phase }, { on := 5, ground := Go.Ground.phase }, { on := 6, ground := Go.Ground.phase }, { on := 7, ground := Go.Ground.phase }, { on := 8, ground := Go.Ground.phase }, { on := 9, ground := Go.Ground.phase }, { on := 10, ground := Go.Ground.phase }, { on := 11, ground := Go.Ground.phase }, { on := 12, ground := Go.Ground.phase }], guard := none } : Oper)) rfl (fun K hK => ?_) AllReadyH.nil)
              refine step_store_tr rfl 32 (.tmp 11) (.tmp 34) rfl gB zO.cells P 32 HM14.out.b rfl rfl HSP.out HZP.out H1P.out (fun U15 hg4 hw4 hs4 => ?_)
              have HM16 := Lib.hid (HM14.out.fin hg4.out hw4.out)
              clear hg4 hw4 hs4
              refine hK.out _ _ HM16.out.below (fun _ => ?_)
              clear hK K
              try simp only [Act.put]
              refine wpAnyH_done (by kernel_rfl) ?_ _
              try (go_wp2_with fail)
              go_meet
              case rel => exact ⟨_, _, rfl, rfl, HM16⟩
            · rw [if_pos (by kernel_rfl)]
              go_simp
              have HM18 := Lib.hid (HM8.out.withB)
              refine hK.out _ _ HM18.out.below (fun _ => ?_)
              clear hK K
              generalize hU : U7.alloc (.cells zO.cells 32) = U17 at HM18
              rw [show U7.alloc (.cells #[.int .i64 0, .int .i64 0, .int .i64 0, .slice none 0 0] 32) = U17 from hU]
              clear hU
              generalize U7.heap.size = gB at HM18 ⊢
              try simp only [Act.put, List.setIfInBounds_toArray, List.set_cons_zero, List.set_cons_succ]
              refine wpAnyH_ready (rs := [10]) (by kernel_rfl) (by simp) ?_
              refine (AllReadyH.cons (o := ({ dst := some 10, op := Go.Op.alloc 32, type := 0, pos := "law.go:111", after := #[], guard := none } : Oper)) rfl (fun K hK => ?_) AllReadyH.nil)
              rw [if_pos (by kernel_rfl)]
              go_simp
              have HM20 := Lib.hid (HM18.out.withA)
              refine hK.out _ _ HM20.out.below (fun _ => ?_)
              clear hK K
              generalize hU : U17.alloc (.cells zO.cells 32) = U19 at HM20
              rw [show U17.alloc (.cells #[.int .i64 0, .int .i64 0, .int .i64 0, .slice none 0 0] 32) = U19 from hU]
              clear hU
              generalize U17.heap.size = gA at HM20 ⊢
              try simp only [Act.put, List.setIfInBounds_toArray, List.set_cons_zero, List.set_cons_succ]
              refine wpAnyH_ready (rs := [12]) (by kernel_rfl) (by simp) ?_
              refine (AllReadyH.cons (o := ({ dst := none, op := Go.Op.store 32 (Go.Operand.tmp 10) (Go.Operand.tmp 29), type := 0, pos := "law.go:111", after := #[{ on := 10, ground := Go.Ground.data }, { on := 4, ground := Go.Ground.data }, { on := 9, ground := Go.Ground.chain }, { on := 0, ground := Go.Ground.phase }, { on := 1, ground := Go.Ground.phase }, { on := 2, ground := Go.Ground.phase }, { on := 3, ground := Go.Ground.phase }, { on := 4, ground := Go.Ground.phase }, { on := 5, ground := Go.Ground.textOnly Go.Departure.lateStores }, { on := 6, ground := Go.Ground.textOnly Go.Departure.lateStores }, { on := 7, ground := Go.Ground.textOnly Go.Departure.lateStores }, { on := 8, ground := Go.Ground.textOnly Go.Departure.lateStoresUnsure }, { on := 9, ground := Go.Ground.textOnly Go.Departure.lateStoresUnsure }, { on := 10, ground := Go.Ground.phase }, { on := 11, ground := Go.Ground.phase }], guard := none } : Oper)) rfl (fun K hK => ?_) AllReadyH.nil)
              refine step_store_tr rfl 32 (.tmp 10) (.tmp 29) rfl gA zO.cells P 32 (HM20.out.a _ rfl).1 rfl rfl HSP.out HZP.out H1P.out (fun U21 hg4 hw4 hs4 => ?_)
              have HM22 := Lib.hid (HM20.out.one hg4.out hw4.out)
              clear hg4 hw4 hs4
              refine hK.out _ _ HM22.out.below (fun _ => ?_)
              clear hK K
              try simp only [Act.put]
              refine wpAnyH_ready (rs := [13]) (by kernel_rfl) (by simp) ?_
              refine (AllReadyH.cons (o := ({ dst := none, op := Go.Op.store 32 (Go.Operand.tmp 11) (Go.Operand.tmp 34), type := 0, pos := "law.go:111", after := #[{ on := 11, ground := Go.Ground.data }, { on := 9, ground := Go.Ground.data }, { on := 12, ground := Go.Ground.chain }, { on := 0, ground := Go.Ground.phase }, { on := 1, ground := Go.Ground.phase }, { on := 2, ground := Go.Ground.phase }, { on := 3, ground := Go.Ground.phase }, { on := 4, ground := Go.Ground.phase }, { on := 5, ground := Go.Ground.phase }, { on := 6, ground := Go.Ground.phase }, { on := 7, ground := Go.Ground.phase }, { on := 8, ground := Go.Ground.phase }, { on := 9, ground := Go.Ground.phase }, { on := 10, ground := Go.Ground.phase }, { on := 11, ground := Go.Ground.phase }, { on := 12, ground := Go.Ground.phase }], guard := none } : Oper)) rfl (fun K hK => ?_) AllReadyH.nil)
              refine step_store_tr rfl 32 (.tmp 11) (.tmp 34) rfl gB zO.cells P 32 HM22.out.b rfl rfl HSP.out HZP.out H1P.out (fun U23 hg4 hw4 hs4 => ?_)
              have HM24 := Lib.hid (HM22.out.fin hg4.out hw4.out)
              clear hg4 hw4 hs4
              refine hK.out _ _ HM24.out.below (fun _ => ?_)
              clear hK K
              try simp only [Act.put]
              refine wpAnyH_done (by kernel_rfl) ?_ _
              try (go_wp2_with fail)
              go_meet
              case rel => exact ⟨_, _, rfl, rfl, HM24⟩
          · rw [if_pos (by kernel_rfl)]
            go_simp
            have HM26 := Lib.hid (HM6.out.withA)
            refine hK.out _ _ HM26.out.below (fun _ => ?_)
            clear hK K
            generalize hU : U5.alloc (.cells zO.cells 32) = U25 at HM26
            rw [show U5.alloc (.cells #[.int .i64 0, .int .i64 0, .int .i64 0, .slice none 0 0] 32) = U25 from hU]
            clear hU
            generalize U5.heap.size = gA at HM26 ⊢
            try simp only [Act.put, List.setIfInBounds_toArray, List.set_cons_zero, List.set_cons_succ]
            refine wpAnyH_ready (rs := [9, 11]) (by kernel_rfl) (by simp) ?_
            refine (AllReadyH.cons (o := ({ dst := some 34, op := Go.Op.call { callee := Go.Callee.value (Go.Operand.func 15), args := #[Go.Operand.tmp 30, Go.Operand.tmp 33], argTypes := #[32, 32] }, type := 32, pos := "law.go:111", after := #[{ on := 5, ground := Go.Ground.data }, { on := 8, ground := Go.Ground.data }, { on := 8, ground := Go.Ground.chain }], guard := none } : Oper)) rfl (fun K hK => ?_) (AllReadyH.cons (o := ({ dst := some 11, op := Go.Op.alloc 32, type := 0, pos := "law.go:111", after := #[], guard := none } : Oper)) rfl (fun K hK => ?_) AllReadyH.nil))
            · go_simp
              go_at_call 15
              refine (HO4.out _).mono ?_
              rintro e' U27 ⟨rfl, hbm⟩
              have HM28 := Lib.hid (HM26.out.to hbm)
              refine hK.out _ _ HM28.out.below (fun _ => ?_)
              clear hK K hbm
              try simp only [Act.put, List.setIfInBounds_toArray, List.set_cons_zero, List.set_cons_succ]
              refine wpAnyH_ready (rs := [11]) (by kernel_rfl) (by simp) ?_
              refine (AllReadyH.cons (o := ({ dst := some 11, op := Go.Op.alloc 32, type := 0, pos := "law.go:111", after := #[], guard := none } : Oper)) rfl (fun K hK => ?_) AllReadyH.nil)
              rw [if_pos (by kernel_rfl)]
              go_simp
              have HM30 := Lib.hid (HM28.out.withB)
              refine hK.out _ _ HM30.out.below (fun _ => ?_)
              clear hK K
              generalize hU : U27.alloc (.cells zO.cells 32) = U29 at HM30
              rw [show U27.alloc (.cells #[.int .i64 0, .int .i64 0, .int .i64 0, .slice none 0 0] 32) = U29 from hU]
              clear hU
              generalize U27.heap.size = gB at HM30 ⊢
              try simp only [Act.put, List.setIfInBounds_toArray, List.set_cons_zero, List.set_cons_succ]
              refine wpAnyH_ready (rs := [12]) (by kernel_rfl) (by simp) ?_
              refine (AllReadyH.cons (o := ({ dst := none, op := Go.Op.store 32 (Go.Operand.tmp 10) (Go.Operand.tmp 29), type := 0, pos := "law.go:111", after := #[{ on := 10, ground := Go.Ground.data }, { on := 4, ground := Go.Ground.data }, { on := 9, ground := Go.Ground.chain }, { on := 0, ground := Go.Ground.phase }, { on := 1, ground := Go.Ground.phase }, { on := 2, ground := Go.Ground.phase }, { on := 3, ground := Go.Ground.phase }, { on := 4, ground := Go.Ground.phase }, { on := 5, ground := Go.Ground.textOnly Go.Departure.lateStores }, { on := 6, ground := Go.Ground.textOnly Go.Departure.lateStores }, { on := 7, ground := Go.Ground.textOnly Go.Departure.lateStores }, { on := 8, ground := Go.Ground.textOnly Go.Departure.lateStoresUnsure }, { on := 9, ground := Go.Ground.textOnly Go.Departure.lateStoresUnsure }, { on := 10, ground := Go.Ground.phase }, { on := 11, ground := Go.Ground.phase }], guard := none } : Oper)) rfl (fun K hK => ?_) AllReadyH.nil)
              refine step_store_tr rfl 32 (.tmp 10) (.tmp 29) rfl gA zO.cells P 32 (HM30.out.a _ rfl).1 rfl rfl HSP.out HZP.out H1P.out (fun U31 hg4 hw4 hs4 => ?_)
              have HM32 := Lib.hid (HM30.out.one hg4.out hw4.out)
              clear hg4 hw4 hs4
              refine hK.out _ _ HM32.out.below (fun _ => ?_)
              clear hK K
              try simp only [Act.put]
              refine wpAnyH_ready (rs := [13]) (by kernel_rfl) (by simp) ?_
              refine (AllReadyH.cons (o := ({ dst := none, op := Go.Op.store 32 (Go.Operand.tmp 11) (Go.Operand.tmp 34), type := 0, pos := "law.go:111", after := #[{ on := 11, ground := Go.Ground.data }, { on := 9, ground := Go.Ground.data }, { on := 12, ground := Go.Ground.chain }, { on := 0, ground := Go.Ground.phase }, { on := 1, ground := Go.Ground.phase }, { on := 2, ground := Go.Ground.phase }, { on := 3, ground := Go.Ground.phase }, { on := 4, ground := Go.Ground.phase }, { on := 5, ground := Go.Ground.phase }, { on := 6, ground := Go.Ground.phase }, { on := 7, ground := Go.Ground.phase }, { on := 8, ground := Go.Ground.phase }, { on := 9, ground := Go.Ground.phase }, { on := 10, ground := Go.Ground.phase }, { on := 11, ground := Go.Ground.phase }, { on := 12, ground := Go.Ground.phase }], guard := none } : Oper)) rfl (fun K hK => ?_) AllReadyH.nil)
              refine step_store_tr rfl 32 (.tmp 11) (.tmp 34) rfl gB zO.cells P 32 HM32.out.b rfl rfl HSP.out HZP.out H1P.out (fun U33 hg4 hw4 hs4 => ?_)
              have HM34 := Lib.hid (HM32.out.fin hg4.out hw4.out)
              clear hg4 hw4 hs4
              refine hK.out _ _ HM34.out.below (fun _ => ?_)
              clear hK K
              try simp only [Act.put]
              refine wpAnyH_done (by kernel_rfl) ?_ _
              try (go_wp2_with fail)
              go_meet
              case rel => exact ⟨_, _, rfl, rfl, HM34⟩
            · rw [if_pos (by kernel_rfl)]
              go_simp
              have HM36 := Lib.hid (HM26.out.withB)
              refine hK.out _ _ HM36.out.below (fun _ => ?_)
              clear hK K
              generalize hU : U25.alloc (.cells zO.cells 32) = U35 at HM36
              rw [show U25.alloc (.cells #[.int .i64 0, .int .i64 0, .int .i64 0, .slice none 0 0] 32) = U35 from hU]
              clear hU
              generalize U25.heap.size = gB at HM36 ⊢
              try simp only [Act.put, List.setIfInBounds_toArray, List.set_cons_zero, List.set_cons_succ]
              refine wpAnyH_ready (rs := [9]) (by kernel_rfl) (by simp) ?_
              refine (AllReadyH.cons (o := ({ dst := some 34, op := Go.Op.call { callee := Go.Callee.value (Go.Operand.func 15), args := #[Go.Operand.tmp 30, Go.Operand.tmp 33], argTypes := #[32, 32] }, type := 32, pos := "law.go:111", after := #[{ on := 5, ground := Go.Ground.data }, { on := 8, ground := Go.Ground.data }, { on := 8, ground := Go.Ground.chain }], guard := none } : Oper)) rfl (fun K hK => ?_) AllReadyH.nil)
              go_simp
              go_at_call 15
              refine (HO4.out _).mono ?_
              rintro e' U37 ⟨rfl, hbm⟩
              have HM38 := Lib.hid (HM36.out.to hbm)
              refine hK.out _ _ HM38.out.below (fun _ => ?_)
              clear hK K hbm
              try simp only [Act.put, List.setIfInBounds_toArray, List.set_cons_zero, List.set_cons_succ]
              refine wpAnyH_ready (rs := [12]) (by kernel_rfl) (by simp) ?_
              refine (AllReadyH.cons (o := ({ dst := none, op := Go.Op.store 32 (Go.Operand.tmp 10) (Go.Operand.tmp 29), type := 0, pos := "law.go:111", after := #[{ on := 10, ground := Go.Ground.data }, { on := 4, ground := Go.Ground.data }, { on := 9, ground := Go.Ground.chain }, { on := 0, ground := Go.Ground.phase }, { on := 1, ground := Go.Ground.phase }, { on := 2, ground := Go.Ground.phase }, { on := 3, ground := Go.Ground.phase }, { on := 4, ground := Go.Ground.phase }, { on := 5, ground := Go.Ground.textOnly Go.Departure.lateStores }, { on := 6, ground := Go.Ground.textOnly Go.Departure.lateStores }, { on := 7, ground := Go.Ground.textOnly Go.Departure.lateStores }, { on := 8, ground := Go.Ground.textOnly Go.Departure.lateStoresUnsure }, { on := 9, ground := Go.Ground.textOnly Go.Departure.lateStoresUnsure }, { on := 10, ground := Go.Ground.phase }, { on := 11, ground := Go.Ground.phase }], guard := none } : Oper)) rfl (fun K hK => ?_) AllReadyH.nil)
              refine step_store_tr rfl 32 (.tmp 10) (.tmp 29) rfl gA zO.cells P 32 (HM38.out.a _ rfl).1 rfl rfl HSP.out HZP.out H1P.out (fun U39 hg4 hw4 hs4 => ?_)
              have HM40 := Lib.hid (HM38.out.one hg4.out hw4.out)
              clear hg4 hw4 hs4
              refine hK.out _ _ HM40.out.below (fun _ => ?_)
              clear hK K
              try simp only [Act.put]
              refine wpAnyH_ready (rs := [13]) (by kernel_rfl) (by simp) ?_
              refine (AllReadyH.cons (o := ({ dst := none, op := Go.Op.store 32 (Go.Operand.tmp 11) (Go.Operand.tmp 34), type := 0, pos := "law.go:111", after := #[{ on := 11, ground := Go.Ground.data }, { on := 9, ground := Go.Ground.data }, { on := 12, ground := Go.Ground.chain }, { on := 0, ground := Go.Ground.phase }, { on := 1, ground := Go.Ground.phase }, { on := 2, ground := Go.Ground.phase }, { on := 3, ground := Go.Ground.phase }, { on := 4, ground := Go.Ground.phase }, { on := 5, ground := Go.Ground.phase }, { on := 6, ground := Go.Ground.phase }, { on := 7, ground := Go.Ground.phase }, { on := 8, ground := Go.Ground.phase }, { on := 9, ground := Go.Ground.phase }, { on := 10, ground := Go.Ground.phase }, { on := 11, ground := Go.Ground.phase }, { on := 12, ground := Go.Ground.phase }], guard := none } : Oper)) rfl (fun K hK => ?_) AllReadyH.nil)
              refine step_store_tr rfl 32 (.tmp 11) (.tmp 34) rfl gB zO.cells P 32 HM40.out.b rfl rfl HSP.out HZP.out H1P.out (fun U41 hg4 hw4 hs4 => ?_)
              have HM42 := Lib.hid (HM40.out.fin hg4.out hw4.out)
              clear hg4 hw4 hs4
              refine hK.out _ _ HM42.out.below (fun _ => ?_)
              clear hK K
              try simp only [Act.put]
              refine wpAnyH_done (by kernel_rfl) ?_ _
              try (go_wp2_with fail)
              go_meet
              case rel => exact ⟨_, _, rfl, rfl, HM42⟩
          · rw [if_pos (by kernel_rfl)]
            go_simp
            have HM44 := Lib.hid (HM6.out.withB)
            refine hK.out _ _ HM44.out.below (fun _ => ?_)
            clear hK K
            generalize hU : U5.alloc (.cells zO.cells 32) = U43 at HM44
            rw [show U5.alloc (.cells #[.int .i64 0, .int .i64 0, .int .i64 0, .slice none 0 0] 32) = U43 from hU]
            clear hU
            generalize U5.heap.size = gB at HM44 ⊢
            try simp only [Act.put, List.setIfInBounds_toArray, List.set_cons_zero, List.set_cons_succ]
            refine wpAnyH_ready (rs := [9, 10]) (by kernel_rfl) (by simp) ?_
            refine (AllReadyH.cons (o := ({ dst := some 34, op := Go.Op.call { callee := Go.Callee.value (Go.Operand.func 15), args := #[Go.Operand.tmp 30, Go.Operand.tmp 33], argTypes := #[32, 32] }, type := 32, pos := "law.go:111", after := #[{ on := 5, ground := Go.Ground.data }, { on := 8, ground := Go.Ground.data }, { on := 8, ground := Go.Ground.chain }], guard := none } : Oper)) rfl (fun K hK => ?_) (AllReadyH.cons (o := ({ dst := some 10, op := Go.Op.alloc 32, type := 0, pos := "law.go:111", after := #[], guard := none } : Oper)) rfl (fun K hK => ?_) AllReadyH.nil))
            · go_simp
              go_at_call 15
              refine (HO4.out _).mono ?_
              rintro e' U45 ⟨rfl, hbm⟩
              have HM46 := Lib.hid (HM44.out.to hbm)
              refine hK.out _ _ HM46.out.below (fun _ => ?_)
              clear hK K hbm
              try simp only [Act.put, List.setIfInBounds_toArray, List.set_cons_zero, List.set_cons_succ]
              refine wpAnyH_ready (rs := [10]) (by kernel_rfl) (by simp) ?_
              refine (AllReadyH.cons (o := ({ dst := some 10, op := Go.Op.alloc 32, type := 0, pos := "law.go:111", after := #[], guard := none } : Oper)) rfl (fun K hK => ?_) AllReadyH.nil)
              rw [if_pos (by kernel_rfl)]
              go_simp
              have HM48 := Lib.hid (HM46.out.withA)
              refine hK.out _ _ HM48.out.below (fun _ => ?_)
              clear hK K
              generalize hU : U45.alloc (.cells zO.cells 32) = U47 at HM48
              rw [show U45.alloc (.cells #[.int .i64 0, .int .i64 0, .int .i64 0, .slice none 0 0] 32) = U47 from hU]
              clear hU
              generalize U45.heap.size = gA at HM48 ⊢
              try simp only [Act.put, List.setIfInBounds_toArray, List.set_cons_zero, List.set_cons_succ]
              refine wpAnyH_ready (rs := [12]) (by kernel_rfl) (by simp) ?_
              refine (AllReadyH.cons (o := ({ dst := none, op := Go.Op.store 32 (Go.Operand.tmp 10) (Go.Operand.tmp 29), type := 0, pos := "law.go:111", after := #[{ on := 10, ground := Go.Ground.data }, { on := 4, ground := Go.Ground.data }, { on := 9, ground := Go.Ground.chain }, { on := 0, ground := Go.Ground.phase }, { on := 1, ground := Go.Ground.phase }, { on := 2, ground := Go.Ground.phase }, { on := 3, ground := Go.Ground.phase }, { on := 4, ground := Go.Ground.phase }, { on := 5, ground := Go.Ground.textOnly Go.Departure.lateStores }, { on := 6, ground := Go.Ground.textOnly Go.Departure.lateStores }, { on := 7, ground := Go.Ground.textOnly Go.Departure.lateStores }, { on := 8, ground := Go.Ground.textOnly Go.Departure.lateStoresUnsure }, { on := 9, ground := Go.Ground.textOnly Go.Departure.lateStoresUnsure }, { on := 10, ground := Go.Ground.phase }, { on := 11, ground := Go.Ground.phase }], guard := none } : Oper)) rfl (fun K hK => ?_) AllReadyH.nil)
              refine step_store_tr rfl 32 (.tmp 10) (.tmp 29) rfl gA zO.cells P 32 (HM48.out.a _ rfl).1 rfl rfl HSP.out HZP.out H1P.out (fun U49 hg4 hw4 hs4 => ?_)
              have HM50 := Lib.hid (HM48.out.one hg4.out hw4.out)
              clear hg4 hw4 hs4
              refine hK.out _ _ HM50.out.below (fun _ => ?_)
              clear hK K
              try simp only [Act.put]
              refine wpAnyH_ready (rs := [13]) (by kernel_rfl) (by simp) ?_
              refine (AllReadyH.cons (o := ({ dst := none, op := Go.Op.store 32 (Go.Operand.tmp 11) (Go.Operand.tmp 34), type := 0, pos := "law.go:111", after := #[{ on := 11, ground := Go.Ground.data }, { on := 9, ground := Go.Ground.data }, { on := 12, ground := Go.Ground.chain }, { on := 0, ground := Go.Ground.phase }, { on := 1, ground := Go.Ground.phase }, { on := 2, ground := Go.Ground.phase }, { on := 3, ground := Go.Ground.phase }, { on := 4, ground := Go.Ground.phase }, { on := 5, ground := Go.Ground.phase }, { on := 6, ground := Go.Ground.phase }, { on := 7, ground := Go.Ground.phase }, { on := 8, ground := Go.Ground.phase }, { on := 9, ground := Go.Ground.phase }, { on := 10, ground := Go.Ground.phase }, { on := 11, ground := Go.Ground.phase }, { on := 12, ground := Go.Ground.phase }], guard := none } : Oper)) rfl (fun K hK => ?_) AllReadyH.nil)
              refine step_store_tr rfl 32 (.tmp 11) (.tmp 34) rfl gB zO.cells P 32 HM50.out.b rfl rfl HSP.out HZP.out H1P.out (fun U51 hg4 hw4 hs4 => ?_)
              have HM52 := Lib.hid (HM50.out.fin hg4.out hw4.out)
              clear hg4 hw4 hs4
              refine hK.out _ _ HM52.out.below (fun _ => ?_)
              clear hK K
              try simp only [Act.put]
              refine wpAnyH_done (by kernel_rfl) ?_ _
              try (go_wp2_with fail)
              go_meet
              case rel => exact ⟨_, _, rfl, rfl, HM52⟩
            · rw [if_pos (by kernel_rfl)]
              go_simp
              have HM54 := Lib.hid (HM44.out.withA)
              refine hK.out _ _ HM54.out.below (fun _ => ?_)
              clear hK K
              generalize hU : U43.alloc (.cells zO.cells 32) = U53 at HM54
              rw [show U43.alloc (.cells #[.int .i64 0, .int .i64 0, .int .i64 0, .slice none 0 0] 32) = U53 from hU]
              clear hU
              generalize U43.heap.size = gA at HM54 ⊢
              try simp only [Act.put, List.setIfInBounds_toArray, List.set_cons_zero, List.set_cons_succ]
              refine wpAnyH_ready (rs := [9]) (by kernel_rfl) (by simp) ?_
              refine (AllReadyH.cons (o := ({ dst := some 34, op := Go.Op.call { callee := Go.Callee.value (Go.Operand.func 15), args := #[Go.Operand.tmp 30, Go.Operand.tmp 33], argTypes := #[32, 32] }, type := 32, pos := "law.go:111", after := #[{ on := 5, ground := Go.Ground.data }, { on := 8, ground := Go.Ground.data }, { on := 8, ground := Go.Ground.chain }], guard := none } : Oper)) rfl (fun K hK => ?_) AllReadyH.nil)
              go_simp
              go_at_call 15
              refine (HO4.out _).mono ?_
              rintro e' U55 ⟨rfl, hbm⟩
              have HM56 := Lib.hid (HM54.out.to hbm)
              refine hK.out _ _ HM56.out.below (fun _ => ?_)
              clear hK K hbm
              try simp only [Act.put, List.setIfInBounds_toArray, List.set_cons_zero, List.set_cons_succ]
              refine wpAnyH_ready (rs := [12]) (by kernel_rfl) (by simp) ?_
              refine (AllReadyH.cons (o := ({ dst := none, op := Go.Op.store 32 (Go.Operand.tmp 10) (Go.Operand.tmp 29), type := 0, pos := "law.go:111", after := #[{ on := 10, ground := Go.Ground.data }, { on := 4, ground := Go.Ground.data }, { on := 9, ground := Go.Ground.chain }, { on := 0, ground := Go.Ground.phase }, { on := 1, ground := Go.Ground.phase }, { on := 2, ground := Go.Ground.phase }, { on := 3, ground := Go.Ground.phase }, { on := 4, ground := Go.Ground.phase }, { on := 5, ground := Go.Ground.textOnly Go.Departure.lateStores }, { on := 6, ground := Go.Ground.textOnly Go.Departure.lateStores }, { on := 7, ground := Go.Ground.textOnly Go.Departure.lateStores }, { on := 8, ground := Go.Ground.textOnly Go.Departure.lateStoresUnsure }, { on := 9, ground := Go.Ground.textOnly Go.Departure.lateStoresUnsure }, { on := 10, ground := Go.Ground.phase }, { on := 11, ground := Go.Ground.phase }], guard := none } : Oper)) rfl (fun K hK => ?_) AllReadyH.nil)
              refine step_store_tr rfl 32 (.tmp 10) (.tmp 29) rfl gA zO.cells P 32 (HM56.out.a _ rfl).1 rfl rfl HSP.out HZP.out H1P.out (fun U57 hg4 hw4 hs4 => ?_)
              have HM58 := Lib.hid (HM56.out.one hg4.out hw4.out)
              clear hg4 hw4 hs4
              refine hK.out _ _ HM58.out.below (fun _ => ?_)
              clear hK K
              try simp only [Act.put]
              refine wpAnyH_ready (rs := [13]) (by kernel_rfl) (by simp) ?_
              refine (AllReadyH.cons (o := ({ dst := none, op := Go.Op.store 32 (Go.Operand.tmp 11) (Go.Operand.tmp 34), type := 0, pos := "law.go:111", after := #[{ on := 11, ground := Go.Ground.data }, { on := 9, ground := Go.Ground.data }, { on := 12, ground := Go.Ground.chain }, { on := 0, ground := Go.Ground.phase }, { on := 1, ground := Go.Ground.phase }, { on := 2, ground := Go.Ground.phase }, { on := 3, ground := Go.Ground.phase }, { on := 4, ground := Go.Ground.phase }, { on := 5, ground := Go.Ground.phase }, { on := 6, ground := Go.Ground.phase }, { on := 7, ground := Go.Ground.phase }, { on := 8, ground := Go.Ground.phase }, { on := 9, ground := Go.Ground.phase }, { on := 10, ground := Go.Ground.phase }, { on := 11, ground := Go.Ground.phase }, { on := 12, ground := Go.Ground.phase }], guard := none } : Oper)) rfl (fun K hK => ?_) AllReadyH.nil)
              refine step_store_tr rfl 32 (.tmp 11) (.tmp 34) rfl gB zO.cells P 32 HM58.out.b rfl rfl HSP.out HZP.out H1P.out (fun U59 hg4 hw4 hs4 => ?_)
              have HM60 := Lib.hid (HM58.out.fin hg4.out hw4.out)
              clear hg4 hw4 hs4
              refine hK.out _ _ HM60.out.below (fun _ => ?_)
              clear hK K
              try simp only [Act.put]
              refine wpAnyH_done (by kernel_rfl) ?_ _
              try (go_wp2_with fail)
              go_meet
              case rel => exact ⟨_, _, rfl, rfl, HM60⟩
        · rw [if_pos (by kernel_rfl)]
          go_simp
          have HM62 := Lib.hid (HM4.out.withA)
          refine hK.out _ _ HM62.out.below (fun _ => ?_)
          clear hK K
          generalize hU : U3.alloc (.cells zO.cells 32) = U61 at HM62
          rw [show U3.alloc (.cells #[.int .i64 0, .int .i64 0, .int .i64 0, .slice none 0 0] 32) = U61 from hU]
          clear hU
          generalize U3.heap.size = gA at HM62 ⊢
          try simp only [Act.put, List.setIfInBounds_toArray, List.set_cons_zero, List.set_cons_succ]
          refine wpAnyH_ready (rs := [8, 11]) (by kernel_rfl) (by simp) ?_
          refine (AllReadyH.cons (o := ({ dst := some 33, op := Go.Op.call { callee := Go.Callee.value (Go.Operand.func 15), args := #[Go.Operand.tmp 31, Go.Operand.tmp 32], argTypes := #[32, 32] }, type := 32, pos := "law.go:111", after := #[{ on := 6, ground := Go.Ground.data }, { on := 7, ground := Go.Ground.data }, { on := 4, ground := Go.Ground.chain }], guard := none } : Oper)) rfl (fun K hK => ?_) (AllReadyH.cons (o := ({ dst := some 11, op := Go.Op.alloc 32, type := 0, pos := "law.go:111", after := #[], guard := none } : Oper)) rfl (fun K hK => ?_) AllReadyH.nil))
          · go_simp
            go_at_call 15
            refine (HO3.out _).mono ?_
            rintro e' U63 ⟨rfl, hbm⟩
            have HM64 := Lib.hid (HM62.out.to hbm)
            refine hK.out _ _ HM64.out.below (fun _ => ?_)
            clear hK K hbm
            try simp only [Act.put, List.setIfInBounds_toArray, List.set_cons_zero, List.set_cons_succ]
            refine wpAnyH_ready (rs := [9, 11]) (by kernel_rfl) (by simp) ?_
            refine (AllReadyH.cons (o := ({ dst := some 34, op := Go.Op.call { callee := Go.Callee.value (Go.Operand.func 15), args := #[Go.Operand.tmp 30, Go.Operand.tmp 33], argTypes := #[32, 32] }, type := 32, pos := "law.go:111", after := #[{ on := 5, ground := Go.Ground.data }, { on := 8, ground := Go.Ground.data }, { on := 8, ground := Go.Ground.chain }], guard := none } : Oper)) rfl (fun K hK => ?_) (AllReadyH.cons (o := ({ dst := some 11, op := Go.Op.alloc 32, type := 0, pos := "law.go:111", after := #[], guard := none } : Oper)) rfl (fun K hK => ?_) AllReadyH.nil))
            · go_simp
              go_at_call 15
              refine (HO4.out _).mono ?_
              rintro e' U65 ⟨rfl, hbm⟩
              have HM66 := Lib.hid (HM64.out.to hbm)
              refine hK.out _ _ HM66.out.below (fun _ => ?_)
              clear hK K hbm
              try simp only [Act.put, List.setIfInBounds_toArray, List.set_cons_zero, List.set_cons_succ]
              refine wpAnyH_ready (rs := [11]) (by kernel_rfl) (by simp) ?_
              refine (AllReadyH.cons (o := ({ dst := some 11, op := Go.Op.alloc 32, type := 0, pos := "law.go:111", after := #[], guard := none } : Oper)) rfl (fun K hK => ?_) AllReadyH.nil)
              rw [if_pos (by kernel_rfl)]
              go_simp
              have HM68 := Lib.hid (HM66.out.withB)
              refine hK.out _ _ HM68.out.below (fun _ => ?_)
              clear hK K
              generalize hU : U65.alloc (.cells zO.cells 32) = U67 at HM68
              rw [show U65.alloc (.cells #[.int .i64 0, .int .i64 0, .int .i64 0, .slice none 0 0] 32) = U67 from hU]
              clear hU
              generalize U65.heap.size = gB at HM68 ⊢
              try simp only [Act.put, List.setIfInBounds_toArray, List.set_cons_zero, List.set_cons_succ]
              refine wpAnyH_ready (rs := [12]) (by kernel_rfl) (by simp) ?_
              refine (AllReadyH.cons (o := ({ dst := none, op := Go.Op.store 32 (Go.Operand.tmp 10) (Go.Operand.tmp 29), type := 0, pos := "law.go:111", after := #[{ on := 10, ground := Go.Ground.data }, { on := 4, ground := Go.Ground.data }, { on := 9, ground := Go.Ground.chain }, { on := 0, ground := Go.Ground.phase }, { on := 1, ground := Go.Ground.phase }, { on := 2, ground := Go.Ground.phase }, { on := 3, ground := Go.Ground.phase }, { on := 4, ground := Go.Ground.phase }, { on := 5, ground := Go.Ground.textOnly Go.Departure.lateStores }, { on := 6, ground := Go.Ground.textOnly Go.Departure.lateStores }, { on := 7, ground := Go.Ground.textOnly Go.Departure.lateStores }, { on := 8, ground := Go.Ground.textOnly Go.Departure.lateStoresUnsure }, { on := 9, ground := Go.Ground.textOnly Go.Departure.lateStoresUnsure }, { on := 10, ground := Go.Ground.phase }, { on := 11, ground := Go.Ground.phase }], guard := none } : Oper)) rfl (fun K hK => ?_) AllReadyH.nil)
              refine step_store_tr rfl 32 (.tmp 10) (.tmp 29) rfl gA zO.cells P 32 (HM68.out.a _ rfl).1 rfl rfl HSP.out HZP.out H1P.out (fun U69 hg4 hw4 hs4 => ?_)
              have HM70 := Lib.hid (HM68.out.one hg4.out hw4.out)
              clear hg4 hw4 hs4
              refine hK.out _ _ HM70.out.below (fun _ => ?_)
              clear hK K
              try simp only [Act.put]
              refine wpAnyH_ready (rs := [13]) (by kernel_rfl) (by simp) ?_
              refine (AllReadyH.cons (o := ({ dst := none, op := Go.Op.store 32 (Go.Operand.tmp 11) (Go.Operand.tmp 34), type := 0, pos := "law.go:111", after := #[{ on := 11, ground := Go.Ground.data }, { on := 9, ground := Go.Ground.data }, { on := 12, ground := Go.Ground.chain }, { on := 0, ground := Go.Ground.phase }, { on := 1, ground := Go.Ground.phase }, { on := 2, ground := Go.Ground.phase }, { on := 3, ground := Go.Ground.phase }, { on := 4, ground := Go.Ground.phase }, { on := 5, ground := Go.Ground.phase }, { on := 6, ground := Go.Ground.phase }, { on := 7, ground := Go.Ground.phase }, { on := 8, ground := Go.Ground.phase }, { on := 9, ground := Go.Ground.phase }, { on := 10, ground := Go.Ground.phase }, { on := 11, ground := Go.Ground.phase }, { on := 12, ground := Go.Ground.phase }], guard := none } : Oper)) rfl (fun K hK => ?_) AllReadyH.nil)
              refine step_store_tr rfl 32 (.tmp 11) (.tmp 34) rfl gB zO.cells P 32 HM70.out.b rfl rfl HSP.out HZP.out H1P.out (fun U71 hg4 hw4 hs4 => ?_)
              have HM72 := Lib.hid (HM70.out.fin hg4.out hw4.out)
              clear hg4 hw4 hs4
              refine hK.out _ _ HM72.out.below (fun _ => ?_)
              clear hK K
              try simp only [Act.put]
              refine wpAnyH_done (by kernel_rfl) ?_ _
              try (go_wp2_with fail)
              go_meet
              case rel => exact ⟨_, _, rfl, rfl, HM72⟩
            · rw [if_pos (by kernel_rfl)]
              go_simp
              have HM74 := Lib.hid (HM64.out.withB)
              refine hK.out _ _ HM74.out.below (fun _ => ?_)
              clear hK K
              generalize hU : U63.alloc (.cells zO.cells 32) = U73 at HM74
              rw [show U63.alloc (.cells #[.int .i64 0, .int .i64 0, .int .i64 0, .slice none 0 0] 32) = U73 from hU]
              clear hU
              generalize U63.heap.size = gB at HM74 ⊢
              try simp only [Act.put, List.setIfInBounds_toArray, List.set_cons_zero, List.set_cons_succ]
              refine wpAnyH_ready (rs := [9]) (by kernel_rfl) (by simp) ?_
              refine (AllReadyH.cons (o := ({ dst := some 34, op := Go.Op.call { callee := Go.Callee.value (Go.Operand.func 15), args := #[Go.Operand.tmp 30, Go.Operand.tmp 33], argTypes := #[32, 32] }, type := 32, pos := "law.go:111", after := #[{ on := 5, ground := Go.Ground.data }, { on := 8, ground := Go.Ground.data }, { on := 8, ground := Go.Ground.chain }], guard := none } : Oper)) rfl (fun K hK => ?_) AllReadyH.nil)
              go_simp
              go_at_call 15
              refine (HO4.out _).mono ?_
              rintro e' U75 ⟨rfl, hbm⟩
              have HM76 := Lib.hid (HM74.out.to hbm)
              refine hK.out _ _ HM76.out.below (fun _ => ?_)
              clear hK K hbm
              try simp only [Act.put, List.setIfInBounds_toArray, List.set_cons_zero, List.set_cons_succ]
              refine wpAnyH_ready (rs := [12]) (by kernel_rfl) (by simp) ?_
              refine (AllReadyH.cons (o := ({ dst := none, op := Go.Op.store 32 (Go.Operand.tmp 10) (Go.Operand.tmp 29), type := 0, pos := "law.go:111", after := #[{ on := 10, ground := Go.Ground.data }, { on := 4, ground := Go.Ground.data }, { on := 9, ground := Go.Ground.chain }, { on := 0, ground := Go.Ground.phase }, { on := 1, ground := Go.Ground.phase }, { on := 2, ground := Go.Ground.phase }, { on := 3, ground := Go.Ground.phase }, { on := 4, ground := Go.Ground.phase }, { on := 5, ground := Go.Ground.textOnly Go.Departure.lateStores }, { on := 6, ground := Go.Ground.textOnly Go.Departure.lateStores }, { on := 7, ground := Go.Ground.textOnly Go.Departure.lateStores }, { on := 8, ground := Go.Ground.textOnly Go.Departure.lateStoresUnsure }, { on := 9, ground := Go.Ground.textOnly Go.Departure.lateStoresUnsure }, { on := 10, ground := Go.Ground.phase }, { on := 11, ground := Go.Ground.phase }], guard := none } : Oper)) rfl (fun K hK => ?_) AllReadyH.nil)
              refine step_store_tr rfl 32 (.tmp 10) (.tmp 29) rfl gA zO.cells P 32 (HM76.out.a _ rfl).1 rfl rfl HSP.out HZP.out H1P.out (fun U77 hg4 hw4 hs4 => ?_)
              have HM78 := Lib.hid (HM76.out.one hg4.out hw4.out)
              clear hg4 hw4 hs4
              refine hK.out _ _ HM78.out.below (fun _ => ?_)
              clear hK K
              try simp only [Act.put]
              refine wpAnyH_ready (rs := [13]) (by kernel_rfl) (by simp) ?_
              refine (AllReadyH.cons (o := ({ dst := none, op := Go.Op.store 32 (Go.Operand.tmp 11) (Go.Operand.tmp 34), type := 0, pos := "law.go:111", after := #[{ on := 11, ground := Go.Ground.data }, { on := 9, ground := Go.Ground.data }, { on := 12, ground := Go.Ground.chain }, { on := 0, ground := Go.Ground.phase }, { on := 1, ground := Go.Ground.phase }, { on := 2, ground := Go.Ground.phase }, { on := 3, ground := Go.Ground.phase }, { on := 4, ground := Go.Ground.phase }, { on := 5, ground := Go.Ground.phase }, { on := 6, ground := Go.Ground.phase }, { on := 7, ground := Go.Ground.phase }, { on := 8, ground := Go.Ground.phase }, { on := 9, ground := Go.Ground.phase }, { on := 10, ground := Go.Ground.phase }, { on := 11, ground := Go.Ground.phase }, { on := 12, ground := Go.Ground.phase }], guard := none } : Oper)) rfl (fun K hK => ?_) AllReadyH.nil)
              refine step_store_tr rfl 32 (.tmp 11) (.tmp 34) rfl gB zO.cells P 32 HM78.out.b rfl rfl HSP.out HZP.out H1P.out (fun U79 hg4 hw4 hs4 => ?_)
              have HM80 := Lib.hid (HM78.out.fin hg4.out hw4.out)
              clear hg4 hw4 hs4
              refine hK.out _ _ HM80.out.below (fun _ => ?_)
              clear hK K
              try simp only [Act.put]
              refine wpAnyH_done (by kernel_rfl) ?_ _
              try (go_wp2_with fail)
              go_meet
              case rel => exact ⟨_, _, rfl, rfl, HM80⟩
          · rw [if_pos (by kernel_rfl)]
            go_simp
            have HM82 := Lib.hid (HM62.out.withB)
            refine hK.out _ _ HM82.out.below (fun _ => ?_)
            clear hK K
            generalize hU : U61.alloc (.cells zO.cells 32) = U81 at HM82
            rw [show U61.alloc (.cells #[.int .i64 0, .int .i64 0, .int .i64 0, .slice none 0 0] 32) = U81 from hU]
            clear hU
            generalize U61.heap.size = gB at HM82 ⊢
            try simp only [Act.put, List.setIfInBounds_toArray, List.set_cons_zero, List.set_cons_succ]
            refine wpAnyH_ready (rs := [8]) (by kernel_rfl) (by simp) ?_
            refine (AllReadyH.cons (o := ({ dst := some 33, op := Go.Op.call { callee := Go.Callee.value (Go.Operand.func 15), args := #[Go.Operand.tmp 31, Go.Operand.tmp 32], argTypes := #[32, 32] }, type := 32, pos := "law.go:111", after := #[{ on := 6, ground := Go.Ground.data }, { on := 7, ground := Go.Ground.data }, { on := 4, ground := Go.Ground.chain }], guard := none } : Oper)) rfl (fun K hK => ?_) AllReadyH.nil)
            go_simp
            go_at_call 15
            refine (HO3.out _).mono ?_
            rintro e' U83 ⟨rfl, hbm⟩
            have HM84 := Lib.hid (HM82.out.to hbm)
            refine hK.out _ _ HM84.out.below (fun _ => ?_)
            clear hK K hbm
            try simp only [Act.put, List.setIfInBounds_toArray, List.set_cons_zero, List.set_cons_succ]
            refine wpAnyH_ready (rs := [9]) (by kernel_rfl) (by simp) ?_
            refine (AllReadyH.cons (o := ({ dst := some 34, op := Go.Op.call { callee := Go.Callee.value (Go.Operand.func 15), args := #[Go.Operand.tmp 30, Go.Operand.tmp 33], argTypes := #[32, 32] }, type := 32, pos := "law.go:111", after := #[{ on := 5, ground := Go.Ground.data }, { on := 8, ground := Go.Ground.data }, { on := 8, ground := Go.Ground.chain }], guard := none } : Oper)) rfl (fun K hK => ?_) AllReadyH.nil)
            go_simp
            go_at_call 15
            refine (HO4.out _).mono ?_
            rintro e' U85 ⟨rfl, hbm⟩
            have HM86 := Lib.hid (HM84.out.to hbm)
            refine hK.out _ _ HM86.out.below (fun _ => ?_)
            clear hK K hbm
            try simp only [Act.put, List.setIfInBounds_toArray, List.set_cons_zero, List.set_cons_succ]
            refine wpAnyH_ready (rs := [12]) (by kernel_rfl) (by simp) ?_
            refine (AllReadyH.cons (o := ({ dst := none, op := Go.Op.store 32 (Go.Operand.tmp 10) (Go.Operand.tmp 29), type := 0, pos := "law.go:111", after := #[{ on := 10, ground := Go.Ground.data }, { on := 4, ground := Go.Ground.data }, { on := 9, ground := Go.Ground.chain }, { on := 0, ground := Go.Ground.phase }, { on := 1, ground := Go.Ground.phase }, { on := 2, ground := Go.Ground.phase }, { on := 3, ground := Go.Ground.phase }, { on := 4, ground := Go.Ground.phase }, { on := 5, ground := Go.Ground.textOnly Go.Departure.lateStores }, { on := 6, ground := Go.Ground.textOnly Go.Departure.lateStores }, { on := 7, ground := Go.Ground.textOnly Go.Departure.lateStores }, { on := 8, ground := Go.Ground.textOnly Go.Departure.lateStoresUnsure }, { on := 9, ground := Go.Ground.textOnly Go.Departure.lateStoresUnsure }, { on := 10, ground := Go.Ground.phase }, { on := 11, ground := Go.Ground.phase }], guard := none } : Oper)) rfl (fun K hK => ?_) AllReadyH.nil)
            refine step_store_tr rfl 32 (.tmp 10) (.tmp 29) rfl gA zO.cells P 32 (HM86.out.a _ rfl).1 rfl rfl HSP.out HZP.out H1P.out (fun U87 hg4 hw4 hs4 => ?_)
            have HM88 := Lib.hid (HM86.out.one hg4.out hw4.out)
            clear hg4 hw4 hs4
            refine hK.out _ _ HM88.out.below (fun _ => ?_)
            clear hK K
            try simp only [Act.put]
            refine wpAnyH_ready (rs := [13]) (by kernel_rfl) (by simp) ?_
            refine (AllReadyH.cons (o := ({ dst := none, op := Go.Op.store 32 (Go.Operand.tmp 11) (Go.Operand.tmp 34), type := 0, pos := "law.go:111", after := #[{ on := 11, ground := Go.Ground.data }, { on := 9, ground := Go.Ground.data }, { on := 12, ground := Go.Ground.chain }, { on := 0, ground := Go.Ground.phase }, { on := 1, ground := Go.Ground.phase }, { on := 2, ground := Go.Ground.phase }, { on := 3, ground := Go.Ground.phase }, { on := 4, ground := Go.Ground.phase }, { on := 5, ground := Go.Ground.phase }, { on := 6, ground := Go.Ground.phase }, { on := 7, ground := Go.Ground.phase }, { on := 8, ground := Go.Ground.phase }, { on := 9, ground := Go.Ground.phase }, { on := 10, ground := Go.Ground.phase }, { on := 11, ground := Go.Ground.phase }, { on := 12, ground := Go.Ground.phase }], guard := none } : Oper)) rfl (fun K hK => ?_) AllReadyH.nil)
            refine step_store_tr rfl 32 (.tmp 11) (.tmp 34) rfl gB zO.cells P 32 HM88.out.b rfl rfl HSP.out HZP.out H1P.out (fun U89 hg4 hw4 hs4 => ?_)
            have HM90 := Lib.hid (HM88.out.fin hg4.out hw4.out)
            clear hg4 hw4 hs4
            refine hK.out _ _ HM90.out.below (fun _ => ?_)
            clear hK K
            try simp only [Act.put]
            refine wpAnyH_done (by kernel_rfl) ?_ _
            try (go_wp2_with fail)
            go_meet
            case rel => exact ⟨_, _, rfl, rfl, HM90⟩
        · rw [if_pos (by kernel_rfl)]
          go_simp
          have HM92 := Lib.hid (HM4.out.withB)
          refine hK.out _ _ HM92.out.below (fun _ => ?_)
          clear hK K
          generalize hU : U3.alloc (.cells zO.cells 32) = U91 at HM92
          rw [show U3.alloc (.cells #[.int .i64 0, .int .i64 0, .int .i64 0, .slice none 0 0] 32) = U91 from hU]
          clear hU
          generalize U3.heap.size = gB at HM92 ⊢
          try simp only [Act.put, List.setIfInBounds_toArray, List.set_cons_zero, List.set_cons_succ]
          refine wpAnyH_ready (rs := [8, 10]) (by kernel_rfl) (by simp) ?_
          refine (AllReadyH.cons (o := ({ dst := some 33, op := Go.Op.call { callee := Go.Callee.value (Go.Operand.func 15), args := #[Go.Operand.tmp 31, Go.Operand.tmp 32], argTypes := #[32, 32] }, type := 32, pos := "law.go:111", after := #[{ on := 6, ground := Go.Ground.data }, { on := 7, ground := Go.Ground.data }, { on := 4, ground := Go.Ground.chain }], guard := none } : Oper)) rfl (fun K hK => ?_) (AllReadyH.cons (o := ({ dst := some 10, op := Go.Op.alloc 32, type := 0, pos := "law.go:111", after := #[], guard := none } : Oper)) rfl (fun K hK => ?_) AllReadyH.nil))
          · go_simp
            go_at_call 15
            refine (HO3.out _).mono ?_
            rintro e' U93 ⟨rfl, hbm⟩
            have HM94 := Lib.hid (HM92.out.to hbm)
            refine hK.out _ _ HM94.out.below (fun _ => ?_)
            clear hK K hbm
            try simp only [Act.put, List.setIfInBounds_toArray, List.set_cons_zero, List.set_cons_succ]
            refine wpAnyH_ready (rs := [9, 10]) (by kernel_rfl) (by simp) ?_
            refine (AllReadyH.cons (o := ({ dst := some 34, op := Go.Op.call { callee := Go.Callee.value (Go.Operand.func 15), args := #[Go.Operand.tmp 30, Go.Operand.tmp 33], argTypes := #[32, 32] }, type := 32, pos := "law.go:111", after := #[{ on := 5, ground := Go.Ground.data }, { on := 8, ground := Go.Ground.data }, { on := 8, ground := Go.Ground.chain }], guard := none } : Oper)) rfl (fun K hK => ?_) (AllReadyH.cons (o := ({ dst := some 10, op := Go.Op.alloc 32, type := 0, pos := "law.go:111", after := #[], guard := none } : Oper)) rfl (fun K hK => ?_) AllReadyH.nil))
            · go_simp
              go_at_call 15
              refine (HO4.out _).mono ?_
              rintro e' U95 ⟨rfl, hbm⟩
              have HM96 := Lib.hid (HM94.out.to hbm)
              refine hK.out _ _ HM96.out.below (fun _ => ?_)
              clear hK K hbm
              try simp only [Act.put, List.setIfInBounds_toArray, List.set_cons_zero, List.set_cons_succ]
              refine wpAnyH_ready (rs := [10]) (by kernel_rfl) (by simp) ?_
              refine (AllReadyH.cons (o := ({ dst := some 10, op := Go.Op.alloc 32, type := 0, pos := "law.go:111", after := #[], guard := none } : Oper)) rfl (fun K hK => ?_) AllReadyH.nil)
              rw [if_pos (by kernel_rfl)]
              go_simp
              have HM98 := Lib.hid (HM96.out.withA)
              refine hK.out _ _ HM98.out.below (fun _ => ?_)
              clear hK K
              generalize hU : U95.alloc (.cells zO.cells 32) = U97 at HM98
              rw [show U95.alloc (.cells #[.int .i64 0, .int .i64 0, .int .i64 0, .slice none 0 0] 32) = U97 from hU]
              clear hU
              generalize U95.heap.size = gA at HM98 ⊢
              try simp only [Act.put, List.setIfInBounds_toArray, List.set_cons_zero, List.set_cons_succ]
              refine wpAnyH_ready (rs := [12]) (by kernel_rfl) (by simp) ?_
              refine (AllReadyH.cons (o := ({ dst := none, op := Go.Op.store 32 (Go.Operand.tmp 10) (Go.Operand.tmp 29), type := 0, pos := "law.go:111", after := #[{ on := 10, ground := Go.Ground.data }, { on := 4, ground := Go.Ground.data }, { on := 9, ground := Go.Ground.chain }, { on := 0, ground := Go.Ground.phase }, { on := 1, ground := Go.Ground.phase }, { on := 2, ground := Go.Ground.phase }, { on := 3, ground := Go.Ground.phase }, { on := 4, ground := Go.Ground.phase }, { on := 5, ground := Go.Ground.textOnly Go.Departure.lateStores }, { on := 6, ground := Go.Ground.textOnly Go.Departure.lateStores }, { on := 7, ground := Go.Ground.textOnly Go.Departure.lateStores }, { on := 8, ground := Go.Ground.textOnly Go.Departure.lateStoresUnsure }, { on := 9, ground := Go.Ground.textOnly Go.Departure.lateStoresUnsure }, { on := 10, ground := Go.Ground.phase }, { on := 11, ground := Go.Ground.phase }], guard := none } : Oper)) rfl (fun K hK => ?_) AllReadyH.nil)
              refine step_store_tr rfl 32 (.tmp 10) (.tmp 29) rfl gA zO.cells P 32 (HM98.out.a _ rfl).1 rfl rfl HSP.out HZP.out H1P.out (fun U99 hg4 hw4 hs4 => ?_)
              have HM100 := Lib.hid (HM98.out.one hg4.out hw4.out)
              clear hg4 hw4 hs4
              refine hK.out _ _ HM100.out.below (fun _ => ?_)
              clear hK K
              try simp only [Act.put]
              refine wpAnyH_ready (rs := [13]) (by kernel_rfl) (by simp) ?_
              refine (AllReadyH.cons (o := ({ dst := none, op := Go.Op.store 32 (Go.Operand.tmp 11) (Go.Operand.tmp 34), type := 0, pos := "law.go:111", after := #[{ on := 11, ground := Go.Ground.data }, { on := 9, ground := Go.Ground.data }, { on := 12, ground := Go.Ground.chain }, { on := 0, ground := Go.Ground.phase }, { on := 1, ground := Go.Ground.phase }, { on := 2, ground := Go.Ground.phase }, { on := 3, ground := Go.Ground.phase }, { on := 4, ground := Go.Ground.phase }, { on := 5, ground := Go.Ground.phase }, { on := 6, ground := Go.Ground.phase }, { on := 7, ground := Go.Ground.phase }, { on := 8, ground := Go.Ground.phase }, { on := 9, ground := Go.Ground.phase }, { on := 10, ground := Go.Ground.phase }, { on := 11, ground := Go.Ground.phase }, { on := 12, ground := Go.Ground.phase }], guard := none } : Oper)) rfl (fun K hK => ?_) AllReadyH.nil)
              refine step_store_tr rfl 32 (.tmp 11) (.tmp 34) rfl gB zO.cells P 32 HM100.out.b rfl rfl HSP.out HZP.out H1P.out (fun U101 hg4 hw4 hs4 => ?_)
              have HM102 := Lib.hid (HM100.out.fin hg4.out hw4.out)
              clear hg4 hw4 hs4
              refine hK.out _ _ HM102.out.below (fun _ => ?_)
              clear hK K
              try simp only [Act.put]
              refine wpAnyH_done (by kernel_rfl) ?_ _
              try (go_wp2_with fail)
              go_meet
              case rel => exact ⟨_, _, rfl, rfl, HM102⟩
            · rw [if_pos (by kernel_rfl)]
              go_simp
              have HM104 := Lib.hid (HM94.out.withA)
              refine hK.out _ _ HM104.out.below (fun _ => ?_)
              clear hK K
              generalize hU : U93.alloc (.cells zO.cells 32) = U103 at HM104
              rw [show U93.alloc (.cells #[.int .i64 0, .int .i64 0, .int .i64 0, .slice none 0 0] 32) = U103 from hU]
              clear hU
              generalize U93.heap.size = gA at HM104 ⊢
              try simp only [Act.put, List.setIfInBounds_toArray, List.set_cons_zero, List.set_cons_succ]
              refine wpAnyH_ready (rs := [9]) (by kernel_rfl) (by simp) ?_
              refine (AllReadyH.cons (o := ({ dst := some 34, op := Go.Op.call { callee := Go.Callee.value (Go.Operand.func 15), args := #[Go.Operand.tmp 30, Go.Operand.tmp 33], argTypes := #[32, 32] }, type := 32, pos := "law.go:111", after := #[{ on := 5, ground := Go.Ground.data }, { on := 8, ground := Go.Ground.data }, { on := 8, ground := Go.Ground.chain }], guard := none } : Oper)) rfl (fun K hK => ?_) AllReadyH.nil)
              go_simp
              go_at_call 15
              refine (HO4.out _).mono ?_
              rintro e' U105 ⟨rfl, hbm⟩
              have HM106 := Lib.hid (HM104.out.to hbm)
              refine hK.out _ _ HM106.out.below (fun _ => ?_)
              clear hK K hbm
              try simp only [Act.put, List.setIfInBounds_toArray, List.set_cons_zero, List.set_cons_succ]
              refine wpAnyH_ready (rs := [12]) (by kernel_rfl) (by simp) ?_
              refine (AllReadyH.cons (o := ({ dst := none, op := Go.Op.store 32 (Go.Operand.tmp 10) (Go.Operand.tmp 29), type := 0, pos := "law.go:111", after := #[{ on := 10, ground := Go.Ground.data }, { on := 4, ground := Go.Ground.data }, { on := 9, ground := Go.Ground.chain }, { on := 0, ground := Go.Ground.phase }, { on := 1, ground := Go.Ground.phase }, { on := 2, ground := Go.Ground.phase }, { on := 3, ground := Go.Ground.phase }, { on := 4, ground := Go.Ground.phase }, { on := 5, ground := Go.Ground.textOnly Go.Departure.lateStores }, { on := 6, ground := Go.Ground.textOnly Go.Departure.lateStores }, { on := 7, ground := Go.Ground.textOnly Go.Departure.lateStores }, { on := 8, ground := Go.Ground.textOnly Go.Departure.lateStoresUnsure }, { on := 9, ground := Go.Ground.textOnly Go.Departure.lateStoresUnsure }, { on := 10, ground := Go.Ground.phase }, { on := 11, ground := Go.Ground.phase }], guard := none } : Oper)) rfl (fun K hK => ?_) AllReadyH.nil)
              refine step_store_tr rfl 32 (.tmp 10) (.tmp 29) rfl gA zO.cells P 32 (HM106.out.a _ rfl).1 rfl rfl HSP.out HZP.out H1P.out (fun U107 hg4 hw4 hs4 => ?_)
              have HM108 := Lib.hid (HM106.out.one hg4.out hw4.out)
              clear hg4 hw4 hs4
              refine hK.out _ _ HM108.out.below (fun _ => ?_)
              clear hK K
              try simp only [Act.put]
              refine wpAnyH_ready (rs := [13]) (by kernel_rfl) (by simp) ?_
              refine (AllReadyH.cons (o := ({ dst := none, op := Go.Op.store 32 (Go.Operand.tmp 11) (Go.Operand.tmp 34), type := 0, pos := "law.go:111", after := #[{ on := 11, ground := Go.Ground.data }, { on := 9, ground := Go.Ground.data }, { on := 12, ground := Go.Ground.chain }, { on := 0, ground := Go.Ground.phase }, { on := 1, ground := Go.Ground.phase }, { on := 2, ground := Go.Ground.phase }, { on := 3, ground := Go.Ground.phase }, { on := 4, ground := Go.Ground.phase }, { on := 5, ground := Go.Ground.phase }, { on := 6, ground := Go.Ground.phase }, { on := 7, ground := Go.Ground.phase }, { on := 8, ground := Go.Ground.phase }, { on := 9, ground := Go.Ground.phase }, { on := 10, ground := Go.Ground.phase }, { on := 11, ground := Go.Ground.phase }, { on := 12, ground := Go.Ground.phase }], guard := none } : Oper)) rfl (fun K hK => ?_) AllReadyH.nil)
              refine step_store_tr rfl 32 (.tmp 11) (.tmp 34) rfl gB zO.cells P 32 HM108.out.b rfl rfl HSP.out HZP.out H1P.out (fun U109 hg4 hw4 hs4 => ?_)
              have HM110 := Lib.hid (HM108.out.fin hg4.out hw4.out)
              clear hg4 hw4 hs4
              refine hK.out _ _ HM110.out.below (fun _ => ?_)
              clear hK K
              try simp only [Act.put]
              refine wpAnyH_done (by kernel_rfl) ?_ _
              try (go_wp2_with fail)
              go_meet
              case rel => exact ⟨_, _, rfl, rfl, HM110⟩
          · rw [if_pos (by kernel_rfl)]
            go_simp
            have HM112 := Lib.hid (HM92.out.withA)
            refine hK.out _ _ HM112.out.below (fun _ => ?_)
            clear hK K
            generalize hU : U91.alloc (.cells zO.cells 32) = U111 at HM112
            rw [show U91.alloc (.cells #[.int .i64 0, .int .i64 0, .int .i64 0, .slice none 0 0] 32) = U111 from hU]
            clear hU
            generalize U91.heap.size = gA at HM112 ⊢
            try simp only [Act.put, List.setIfInBounds_toArray, List.set_cons_zero, List.set_cons_succ]
            refine wpAnyH_ready (rs := [8]) (by kernel_rfl) (by simp) ?_
            refine (AllReadyH.cons (o := ({ dst := some 33, op := Go.Op.call { callee := Go.Callee.value (Go.Operand.func 15), args := #[Go.Operand.tmp 31, Go.Operand.tmp 32], argTypes := #[32, 32] }, type := 32, pos := "law.go:111", after := #[{ on := 6, ground := Go.Ground.data }, { on := 7, ground := Go.Ground.data }, { on := 4, ground := Go.Ground.chain }], guard := none } : Oper)) rfl (fun K hK => ?_) AllReadyH.nil)
            go_simp
            go_at_call 15
            refine (HO3.out _).mono ?_
            rintro e' U113 ⟨rfl, hbm⟩
            have HM114 := Lib.hid (HM112.out.to hbm)
            refine hK.out _ _ HM114.out.below (fun _ => ?_)
            clear hK K hbm
            try simp only [Act.put, List.setIfInBounds_toArray, List.set_cons_zero, List.set_cons_succ]
            refine wpAnyH_ready (rs := [9]) (by kernel_rfl) (by simp) ?_
            refine (AllReadyH.cons (o := ({ dst := some 34, op := Go.Op.call { callee := Go.Callee.value (Go.Operand.func 15), args := #[Go.Operand.tmp 30, Go.Operand.tmp 33], argTypes := #[32, 32] }, type := 32, pos := "law.go:111", after := #[{ on := 5, ground := Go.Ground.data }, { on := 8, ground := Go.Ground.data }, { on := 8, ground := Go.Ground.chain }], guard := none } : Oper)) rfl (fun K hK => ?_) AllReadyH.nil)
            go_simp
            go_at_call 15
            refine (HO4.out _).mono ?_
            rintro e' U115 ⟨rfl, hbm⟩
            have HM116 := Lib.hid (HM114.out.to hbm)
            refine hK.out _ _ HM116.out.below (fun _ => ?_)
            clear hK K hbm
            try simp only [Act.put, List.setIfInBounds_toArray, List.set_cons_zero, List.set_cons_succ]
            refine wpAnyH_ready (rs := [12]) (by kernel_rfl) (by simp) ?_
            refine (AllReadyH.cons (o := ({ dst := none, op := Go.Op.store 32 (Go.Operand.tmp 10) (Go.Operand.tmp 29), type := 0, pos := "law.go:111", after := #[{ on := 10, ground := Go.Ground.data }, { on := 4, ground := Go.Ground.data }, { on := 9, ground := Go.Ground.chain }, { on := 0, ground := Go.Ground.phase }, { on := 1, ground := Go.Ground.phase }, { on := 2, ground := Go.Ground.phase }, { on := 3, ground := Go.Ground.phase }, { on := 4, ground := Go.Ground.phase }, { on := 5, ground := Go.Ground.textOnly Go.Departure.lateStores }, { on := 6, ground := Go.Ground.textOnly Go.Departure.lateStores }, { on := 7, ground := Go.Ground.textOnly Go.Departure.lateStores }, { on := 8, ground := Go.Ground.textOnly Go.Departure.lateStoresUnsure }, { on := 9, ground := Go.Ground.textOnly Go.Departure.lateStoresUnsure }, { on := 10, ground := Go.Ground.phase }, { on := 11, ground := Go.Ground.phase }], guard := none } : Oper)) rfl (fun K hK => ?_) AllReadyH.nil)
            refine step_store_tr rfl 32 (.tmp 10) (.tmp 29) rfl gA zO.cells P 32 (HM116.out.a _ rfl).1 rfl rfl HSP.out HZP.out H1P.out (fun U117 hg4 hw4 hs4 => ?_)
            have HM118 := Lib.hid (HM116.out.one hg4.out hw4.out)
            clear hg4 hw4 hs4
            refine hK.out _ _ HM118.out.below (fun _ => ?_)
            clear hK K
            try simp only [Act.put]
            refine wpAnyH_ready (rs := [13]) (by kernel_rfl) (by simp) ?_
            refine (AllReadyH.cons (o := ({ dst := none, op := Go.Op.store 32 (Go.Operand.tmp 11) (Go.Operand.tmp 34), type := 0, pos := "law.go:111", after := #[{ on := 11, ground := Go.Ground.data }, { on := 9, ground := Go.Ground.data }, { on := 12, ground := Go.Ground.chain }, { on := 0, ground := Go.Ground.phase }, { on := 1, ground := Go.Ground.phase }, { on := 2, ground := Go.Ground.phase }, { on := 3, ground := Go.Ground.phase }, { on := 4, ground := Go.Ground.phase }, { on := 5, ground := Go.Ground.phase }, { on := 6, ground := Go.Ground.phase }, { on := 7, ground := Go.Ground.phase }, { on := 8, ground := Go.Ground.phase }, { on := 9, ground := Go.Ground.phase }, { on := 10, ground := Go.Ground.phase }, { on := 11, ground := Go.Ground.phase }, { on := 12, ground := Go.Ground.phase }], guard := none } : Oper)) rfl (fun K hK => ?_) AllReadyH.nil)
            refine step_store_tr rfl 32 (.tmp 11) (.tmp 34) rfl gB zO.cells P 32 HM118.out.b rfl rfl HSP.out HZP.out H1P.out (fun U119 hg4 hw4 hs4 => ?_)
            have HM120 := Lib.hid (HM118.out.fin hg4.out hw4.out)
            clear hg4 hw4 hs4
            refine hK.out _ _ HM120.out.below (fun _ => ?_)
            clear hK K
            try simp only [Act.put]
            refine wpAnyH_done (by kernel_rfl) ?_ _
            try (go_wp2_with fail)
            go_meet
            case rel => exact ⟨_, _, rfl, rfl, HM120⟩
      · rw [if_pos (by kernel_rfl)]
        go_simp
        have HM122 := Lib.hid (HM2.out.withA)
        refine hK.out _ _ HM122.out.below (fun _ => ?_)
        clear hK K
        generalize hU : U1.alloc (.cells zO.cells 32) = U121 at HM122
        rw [show U1.alloc (.cells #[.int .i64 0, .int .i64 0, .int .i64 0, .slice none 0 0] 32) = U121 from hU]
        clear hU
        generalize U1.heap.size = gA at HM122 ⊢
        try simp only [Act.put, List.setIfInBounds_toArray, List.set_cons_zero, List.set_cons_succ]
        refine wpAnyH_ready (rs := [4, 11]) (by kernel_rfl) (by simp) ?_
        refine (AllReadyH.cons (o := ({ dst := some 29, op := Go.Op.call { callee := Go.Callee.value (Go.Operand.func 15), args := #[Go.Operand.tmp 27, Go.Operand.tmp 28], argTypes := #[32, 32] }, type := 32, pos := "law.go:111", after := #[{ on := 2, ground := Go.Ground.data }, { on := 3, ground := Go.Ground.data }, { on := 2, ground := Go.Ground.chain }], guard := none } : Oper)) rfl (fun K hK => ?_) (AllReadyH.cons (o := ({ dst := some 11, op := Go.Op.alloc 32, type := 0, pos := "law.go:111", after := #[], guard := none } : Oper)) rfl (fun K hK => ?_) AllReadyH.nil))
        · go_simp
          go_at_call 15
          refine (HO2.out _).mono ?_
          rintro e' U123 ⟨rfl, hbm⟩
          have HM124 := Lib.hid (HM122.out.to hbm)
          refine hK.out _ _ HM124.out.below (fun _ => ?_)
          clear hK K hbm
          try simp only [Act.put, List.setIfInBounds_toArray, List.set_cons_zero, List.set_cons_succ]
          refine wpAnyH_ready (rs := [8, 11]) (by kernel_rfl) (by simp) ?_
          refine (AllReadyH.cons (o := ({ dst := some 33, op := Go.Op.call { callee := Go.Callee.value (Go.Operand.func 15), args := #[Go.Operand.tmp 31, Go.Operand.tmp 32], argTypes := #[32, 32] }, type := 32, pos := "law.go:111", after := #[{ on := 6, ground := Go.Ground.data }, { on := 7, ground := Go.Ground.data }, { on := 4, ground := Go.Ground.chain }], guard := none } : Oper)) rfl (fun K hK => ?_) (AllReadyH.cons (o := ({ dst := some 11, op := Go.Op.alloc 32, type := 0, pos := "law.go:111", after := #[], guard := none } : Oper)) rfl (fun K hK => ?_) AllReadyH.nil))
          · go_simp
            go_at_call 15
            refine (HO3.out _).mono ?_
            rintro e' U125 ⟨rfl, hbm⟩
            have HM126 := Lib.hid (HM124.out.to hbm)
            refine hK.out _ _ HM126.out.below (fun _ => ?_)
            clear hK K hbm
            try simp only [Act.put, List.setIfInBounds_toArray, List.set_cons_zero, List.set_cons_succ]
            refine wpAnyH_ready (rs := [9, 11]) (by kernel_rfl) (by simp) ?_
            refine (AllReadyH.cons (o := ({ dst := some 34, op := Go.Op.call { callee := Go.Callee.value (Go.Operand.func 15), args := #[Go.Operand.tmp 30, Go.Operand.tmp 33], argTypes := #[32, 32] }, type := 32, pos := "law.go:111", after := #[{ on := 5, ground := Go.Ground.data }, { on := 8, ground := Go.Ground.data }, { on := 8, ground := Go.Ground.chain }], guard := none } : Oper)) rfl (fun K hK => ?_) (AllReadyH.cons (o := ({ dst := some 11, op := Go.Op.alloc 32, type := 0, pos := "law.go:111", after := #[], guard := none } : Oper)) rfl (fun K hK => ?_) AllReadyH.nil))
            · go_simp
              go_at_call 15
              refine (HO4.out _).mono ?_
              rintro e' U127 ⟨rfl, hbm⟩
              have HM128 := Lib.hid (HM126.out.to hbm)
              refine hK.out _ _ HM128.out.below (fun _ => ?_)
              clear hK K hbm
              try simp only [Act.put, List.setIfInBounds_toArray, List.set_cons_zero, List.set_cons_succ]
              refine wpAnyH_ready (rs := [11]) (by kernel_rfl) (by simp) ?_
              refine (AllReadyH.cons (o := ({ dst := some 11, op := Go.Op.alloc 32, type := 0, pos := "law.go:111", after := #[], guard := none } : Oper)) rfl (fun K hK => ?_) AllReadyH.nil)
              rw [if_pos (by kernel_rfl)]
              go_simp
              have HM130 := Lib.hid (HM128.out.withB)
              refine hK.out _ _ HM130.out.below (fun _ => ?_)
              clear hK K
              generalize hU : U127.alloc (.cells zO.cells 32) = U129 at HM130
              rw [show U127.alloc (.cells #[.int .i64 0, .int .i64 0, .int .i64 0, .slice none 0 0] 32) = U129 from hU]
              clear hU
              generalize U127.heap.size = gB at HM130 ⊢
              try simp only [Act.put, List.setIfInBounds_toArray, List.set_cons_zero, List.set_cons_succ]
              refine wpAnyH_ready (rs := [12]) (by kernel_rfl) (by simp) ?_
              refine (AllReadyH.cons (o := ({ dst := none, op := Go.Op.store 32 (Go.Operand.tmp 10) (Go.Operand.tmp 29), type := 0, pos := "law.go:111", after := #[{ on := 10, ground := Go.Ground.data }, { on := 4, ground := Go.Ground.data }, { on := 9, ground := Go.Ground.chain }, { on := 0, ground := Go.Ground.phase }, { on := 1, ground := Go.Ground.phase }, { on := 2, ground := Go.Ground.phase }, { on := 3, ground := Go.Ground.phase }, { on := 4, ground := Go.Ground.phase }, { on := 5, ground := Go.Ground.textOnly Go.Departure.lateStores }, { on := 6, ground := Go.Ground.textOnly Go.Departure.lateStores }, { on := 7, ground := Go.Ground.textOnly Go.Departure.lateStores }, { on := 8, ground := Go.Ground.textOnly Go.Departure.lateStoresUnsure }, { on := 9, ground := Go.Ground.textOnly Go.Departure.lateStoresUnsure }, { on := 10, ground := Go.Ground.phase }, { on := 11, ground := Go.Ground.phase }], guard := none } : Oper)) rfl (fun K hK => ?_) AllReadyH.nil)
              refine step_store_tr rfl 32 (.tmp 10) (.tmp 29) rfl gA zO.cells P 32 (HM130.out.a _ rfl).1 rfl rfl HSP.out HZP.out H1P.out (fun U131 hg4 hw4 hs4 => ?_)
              have HM132 := Lib.hid (HM130.out.one hg4.out hw4.out)
              clear hg4 hw4 hs4
              refine hK.out _ _ HM132.out.below (fun _ => ?_)
              clear hK K
              try simp only [Act.put]
              refine wpAnyH_ready (rs := [13]) (by kernel_rfl) (by simp) ?_
              refine (AllReadyH.cons (o := ({ dst := none, op := Go.Op.store 32 (Go.Operand.tmp 11) (Go.Operand.tmp 34), type := 0, pos := "law.go:111", after := #[{ on := 11, ground := Go.Ground.data }, { on := 9, ground := Go.Ground.data }, { on := 12, ground := Go.Ground.chain }, { on := 0, ground := Go.Ground.phase }, { on := 1, ground := Go.Ground.phase }, { on := 2, ground := Go.Ground.phase }, { on := 3, ground := Go.Ground.phase }, { on := 4, ground := Go.Ground.phase }, { on := 5, ground := Go.Ground.phase }, { on := 6, ground := Go.Ground.phase }, { on := 7, ground := Go.Ground.phase }, { on := 8, ground := Go.Ground.phase }, { on := 9, ground := Go.Ground.phase }, { on := 10, ground := Go.Ground.phase }, { on := 11, ground := Go.Ground.phase }, { on := 12, ground := Go.Ground.phase }], guard := none } : Oper)) rfl (fun K hK => ?_) AllReadyH.nil)
              refine step_store_tr rfl 32 (.tmp 11) (.tmp 34) rfl gB zO.cells P 32 HM132.out.b rfl rfl HSP.out HZP.out H1P.out (fun U133 hg4 hw4 hs4 => ?_)
              have HM134 := Lib.hid (HM132.out.fin hg4.out hw4.out)
              clear hg4 hw4 hs4
              refine hK.out _ _ HM134.out.below (fun _ => ?_)
              clear hK K
              try simp only [Act.put]
              refine wpAnyH_done (by kernel_rfl) ?_ _
              try (go_wp2_with fail)
              go_meet
              case rel => exact ⟨_, _, rfl, rfl, HM134⟩
            · rw [if_pos (by kernel_rfl)]
              go_simp
              have HM136 := Lib.hid (HM126.out.withB)
              refine hK.out _ _ HM136.out.below (fun _ => ?_)
              clear hK K
              generalize hU : U125.alloc (.cells zO.cells 32) = U135 at HM136
              rw [show U125.alloc (.cells #[.int .i64 0, .int .i64 0, .int .i64 0, .slice none 0 0] 32) = U135 from hU]
              clear hU
              generalize U125.heap.size = gB at HM136 ⊢
              try simp only [Act.put, List.setIfInBounds_toArray, List.set_cons_zero, List.set_cons_succ]
              refine wpAnyH_ready (rs := [9]) (by kernel_rfl) (by simp) ?_
              refine (AllReadyH.cons (o := ({ dst := some 34, op := Go.Op.call { callee := Go.Callee.value (Go.Operand.func 15), args := #[Go.Operand.tmp 30, Go.Operand.tmp 33], argTypes := #[32, 32] }, type := 32, pos := "law.go:111", after := #[{ on := 5, ground := Go.Ground.data }, { on := 8, ground := Go.Ground.data }, { on := 8, ground := Go.Ground.chain }], guard := none } : Oper)) rfl (fun K hK => ?_) AllReadyH.nil)
              go_simp
              go_at_call 15
              refine (HO4.out _).mono ?_
              rintro e' U137 ⟨rfl, hbm⟩
              have HM138 := Lib.hid (HM136.out.to hbm)
              refine hK.out _ _ HM138.out.below (fun _ => ?_)
              clear hK K hbm
              try simp only [Act.put, List.setIfInBounds_toArray, List.set_cons_zero, List.set_cons_succ]
              refine wpAnyH_ready (rs := [12]) (by kernel_rfl) (by simp) ?_
              refine (AllReadyH.cons (o := ({ dst := none, op := Go.Op.store 32 (Go.Operand.tmp 10) (Go.Operand.tmp 29), type := 0, pos := "law.go:111", after := #[{ on := 10, ground := Go.Ground.data }, { on := 4, ground := Go.Ground.data }, { on := 9, ground := Go.Ground.chain }, { on := 0, ground := Go.Ground.phase }, { on := 1, ground := Go.Ground.phase }, { on := 2, ground := Go.Ground.phase }, { on := 3, ground := Go.Ground.phase }, { on := 4, ground := Go.Ground.phase }, { on := 5, ground := Go.Ground.textOnly Go.Departure.lateStores }, { on := 6, ground := Go.Ground.textOnly Go.Departure.lateStores }, { on := 7, ground := Go.Ground.textOnly Go.Departure.lateStores }, { on := 8, ground := Go.Ground.textOnly Go.Departure.lateStoresUnsure }, { on := 9, ground := Go.Ground.textOnly Go.Departure.lateStoresUnsure }, { on := 10, ground := Go.Ground.phase }, { on := 11, ground := Go.Ground.phase }], guard := none } : Oper)) rfl (fun K hK => ?_) AllReadyH.nil)
              refine step_store_tr rfl 32 (.tmp 10) (.tmp 29) rfl gA zO.cells P 32 (HM138.out.a _ rfl).1 rfl rfl HSP.out HZP.out H1P.out (fun U139 hg4 hw4 hs4 => ?_)
              have HM140 := Lib.hid (HM138.out.one hg4.out hw4.out)
              clear hg4 hw4 hs4
              refine hK.out _ _ HM140.out.below (fun _ => ?_)
              clear hK K
              try simp only [Act.put]
              refine wpAnyH_ready (rs := [13]) (by kernel_rfl) (by simp) ?_
              refine (AllReadyH.cons (o := ({ dst := none, op := Go.Op.store 32 (Go.Operand.tmp 11) (Go.Operand.tmp 34), type := 0, pos := "law.go:111", after := #[{ on := 11, ground := Go.Ground.data }, { on := 9, ground := Go.Ground.data }, { on := 12, ground := Go.Ground.chain }, { on := 0, ground := Go.Ground.phase }, { on := 1, ground := Go.Ground.phase }, { on := 2, ground := Go.Ground.phase }, { on := 3, ground := Go.Ground.phase }, { on := 4, ground := Go.Ground.phase }, { on := 5, ground := Go.Ground.phase }, { on := 6, ground := Go.Ground.phase }, { on := 7, ground := Go.Ground.phase }, { on := 8, ground := Go.Ground.phase }, { on := 9, ground := Go.Ground.phase }, { on := 10, ground := Go.Ground.phase }, { on := 11, ground := Go.Ground.phase }, { on := 12, ground := Go.Ground.phase }], guard := none } : Oper)) rfl (fun K hK => ?_) AllReadyH.nil)
              refine step_store_tr rfl 32 (.tmp 11) (.tmp 34) rfl gB zO.cells P 32 HM140.out.b rfl rfl HSP.out HZP.out H1P.out (fun U141 hg4 hw4 hs4 => ?_)
              have HM142 := Lib.hid (HM140.out.fin hg4.out hw4.out)
              clear hg4 hw4 hs4
              refine hK.out _ _ HM142.out.below (fun _ => ?_)
              clear hK K
              try simp only [Act.put]
              refine wpAnyH_done (by kernel_rfl) ?_ _
              try (go_wp2_with fail)
              go_meet
              case rel => exact ⟨_, _, rfl, rfl, HM142⟩
          · rw [if_pos (by kernel_rfl)]
            go_simp
            have HM144 := Lib.hid (HM124.out.withB)
            refine hK.out _ _ HM144.out.below (fun _ => ?_)
            clear hK K
            generalize hU : U123.alloc (.cells zO.cells 32) = U143 at HM144
            rw [show U123.alloc (.cells #[.int .i64 0, .int .i64 0, .int .i64 0, .slice none 0 0] 32) = U143 from hU]
            clear hU
            generalize U123.heap.size = gB at HM144 ⊢
            try simp only [Act.put, List.setIfInBounds_toArray, List.set_cons_zero, List.set_cons_succ]
            refine wpAnyH_ready (rs := [8]) (by kernel_rfl) (by simp) ?_
            refine (AllReadyH.cons (o := ({ dst := some 33, op := Go.Op.call { callee := Go.Callee.value (Go.Operand.func 15), args := #[Go.Operand.tmp 31, Go.Operand.tmp 32], argTypes := #[32, 32] }, type := 32, pos := "law.go:111", after := #[{ on := 6, ground := Go.Ground.data }, { on := 7, ground := Go.Ground.data }, { on := 4, ground := Go.Ground.chain }], guard := none } : Oper)) rfl (fun K hK => ?_) AllReadyH.nil)
            go_simp
            go_at_call 15
            refine (HO3.out _).mono ?_
            rintro e' U145 ⟨rfl, hbm⟩
            have HM146 := Lib.hid (HM144.out.to hbm)
            refine hK.out _ _ HM146.out.below (fun _ => ?_)
            clear hK K hbm
            try simp only [Act.put, List.setIfInBounds_toArray, List.set_cons_zero, List.set_cons_succ]
            refine wpAnyH_ready (rs := [9]) (by kernel_rfl) (by simp) ?_
            refine (AllReadyH.cons (o := ({ dst := some 34, op := Go.Op.call { callee := Go.Callee.value (Go.Operand.func 15), args := #[Go.Operand.tmp 30, Go.Operand.tmp 33], argTypes := #[32, 32] }, type := 32, pos := "law.go:111", after := #[{ on := 5, ground := Go.Ground.data }, { on := 8, ground := Go.Ground.data }, { on := 8, ground := Go.Ground.chain }], guard := none } : Oper)) rfl (fun K hK => ?_) AllReadyH.nil)
            go_simp
            go_at_call 15
            refine (HO4.out _).mono ?_
            rintro e' U147 ⟨rfl, hbm⟩
            have HM148 := Lib.hid (HM146.out.to hbm)
            refine hK.out _ _ HM148.out.below (fun _ => ?_)
            clear hK K hbm
            try simp only [Act.put, List.setIfInBounds_toArray, List.set_cons_zero, List.set_cons_succ]
            refine wpAnyH_ready (rs := [12]) (by kernel_rfl) (by simp) ?_
            refine (AllReadyH.cons (o := ({ dst := none, op := Go.Op.store 32 (Go.Operand.tmp 10) (Go.Operand.tmp 29), type := 0, pos := "law.go:111", after := #[{ on := 10, ground := Go.Ground.data }, { on := 4, ground := Go.Ground.data }, { on := 9, ground := Go.Ground.chain }, { on := 0, ground := Go.Ground.phase }, { on := 1, ground := Go.Ground.phase }, { on := 2, ground := Go.Ground.phase }, { on := 3, ground := Go.Ground.phase }, { on := 4, ground := Go.Ground.phase }, { on := 5, ground := Go.Ground.textOnly Go.Departure.lateStores }, { on := 6, ground := Go.Ground.textOnly Go.Departure.lateStores }, { on := 7, ground := Go.Ground.textOnly Go.Departure.lateStores }, { on := 8, ground := Go.Ground.textOnly Go.Departure.lateStoresUnsure }, { on := 9, ground := Go.Ground.textOnly Go.Departure.lateStoresUnsure }, { on := 10, ground := Go.Ground.phase }, { on := 11, ground := Go.Ground.phase }], guard := none } : Oper)) rfl (fun K hK => ?_) AllReadyH.nil)
            refine step_store_tr rfl 32 (.tmp 10) (.tmp 29) rfl gA zO.cells P 32 (HM148.out.a _ rfl).1 rfl rfl HSP.out HZP.out H1P.out (fun U149 hg4 hw4 hs4 => ?_)
            have HM150 := Lib.hid (HM148.out.one hg4.out hw4.out)
            clear hg4 hw4 hs4
            refine hK.out _ _ HM150.out.below (fun _ => ?_)
            clear hK K
            try simp only [Act.put]
            refine wpAnyH_ready (rs := [13]) (by kernel_rfl) (by simp) ?_
            refine (AllReadyH.cons (o := ({ dst := none, op := Go.Op.store 32 (Go.Operand.tmp 11) (Go.Operand.tmp 34), type := 0, pos := "law.go:111", after := #[{ on := 11, ground := Go.Ground.data }, { on := 9, ground := Go.Ground.data }, { on := 12, ground := Go.Ground.chain }, { on := 0, ground := Go.Ground.phase }, { on := 1, ground := Go.Ground.phase }, { on := 2, ground := Go.Ground.phase }, { on := 3, ground := Go.Ground.phase }, { on := 4, ground := Go.Ground.phase }, { on := 5, ground := Go.Ground.phase }, { on := 6, ground := Go.Ground.phase }, { on := 7, ground := Go.Ground.phase }, { on := 8, ground := Go.Ground.phase }, { on := 9, ground := Go.Ground.phase }, { on := 10, ground := Go.Ground.phase }, { on := 11, ground := Go.Ground.phase }, { on := 12, ground := Go.Ground.phase }], guard := none } : Oper)) rfl (fun K hK => ?_) AllReadyH.nil)
            refine step_store_tr rfl 32 (.tmp 11) (.tmp 34) rfl gB zO.cells P 32 HM150.out.b rfl rfl HSP.out HZP.out H1P.out (fun U151 hg4 hw4 hs4 => ?_)
            have HM152 := Lib.hid (HM150.out.fin hg4.out hw4.out)
            clear hg4 hw4 hs4
            refine hK.out _ _ HM152.out.below (fun _ => ?_)
            clear hK K
            try simp only [Act.put]
            refine wpAnyH_done (by kernel_rfl) ?_ _
            try (go_wp2_with fail)
            go_meet
            case rel => exact ⟨_, _, rfl, rfl, HM152⟩
        · rw [if_pos (by kernel_rfl)]
          go_simp
          have HM154 := Lib.hid (HM122.out.withB)
          refine hK.out _ _ HM154.out.below (fun _ => ?_)
          clear hK K
          generalize hU : U121.alloc (.cells zO.cells 32) = U153 at HM154
          rw [show U121.alloc (.cells #[.int .i64 0, .int .i64 0, .int .i64 0, .slice none 0 0] 32) = U153 from hU]
          clear hU
          generalize U121.heap.size = gB at HM154 ⊢
          try simp only [Act.put, List.setIfInBounds_toArray, List.set_cons_zero, List.set_cons_succ]
          refine wpAnyH_ready (rs := [4]) (by kernel_rfl) (by simp) ?_
          refine (AllReadyH.cons (o := ({ dst := some 29, op := Go.Op.call { callee := Go.Callee.value (Go.Operand.func 15), args := #[Go.Operand.tmp 27, Go.Operand.tmp 28], argTypes := #[32, 32] }, type := 32, pos := "law.go:111", after := #[{ on := 2, ground := Go.Ground.data }, { on := 3, ground := Go.Ground.data }, { on := 2, ground := Go.Ground.chain }], guard := none } : Oper)) rfl (fun K hK => ?_) AllReadyH.nil)
          go_simp
          go_at_call 15
          refine (HO2.out _).mono ?_
          rintro e' U155 ⟨rfl, hbm⟩
          have HM156 := Lib.hid (HM154.out.to hbm)
          refine hK.out _ _ HM156.out.below (fun _ => ?_)
          clear hK K hbm
          try simp only [Act.put, List.setIfInBounds_toArray, List.set_cons_zero, List.set_cons_succ]
          refine wpAnyH_ready (rs := [8]) (by kernel_rfl) (by simp) ?_
          refine (AllReadyH.cons (o := ({ dst := some 33, op := Go.Op.call { callee := Go.Callee.value (Go.Operand.func 15), args := #[Go.Operand.tmp 31, Go.Operand.tmp 32], argTypes := #[32, 32] }, type := 32, pos := "law.go:111", after := #[{ on := 6, ground := Go.Ground.data }, { on := 7, ground := Go.Ground.data }, { on := 4, ground := Go.Ground.chain }], guard := none } : Oper)) rfl (fun K hK => ?_) AllReadyH.nil)
          go_simp
          go_at_call 15
          refine (HO3.out _).mono ?_
          rintro e' U157 ⟨rfl, hbm⟩
          have HM158 := Lib.hid (HM156.out.to hbm)
          refine hK.out _ _ HM158.out.below (fun _ => ?_)
          clear hK K hbm
          try simp only [Act.put, List.setIfInBounds_toArray, List.set_cons_zero, List.set_cons_succ]
          refine wpAnyH_ready (rs := [9]) (by kernel_rfl) (by simp) ?_
          refine (AllReadyH.cons (o := ({ dst := some 34, op := Go.Op.call { callee := Go.Callee.value (Go.Operand.func 15), args := #[Go.Operand.tmp 30, Go.Operand.tmp 33], argTypes := #[32, 32] }, type := 32, pos := "law.go:111", after := #[{ on := 5, ground := Go.Ground.data }, { on := 8, ground := Go.Ground.data }, { on := 8, ground := Go.Ground.chain }], guard := none } : Oper)) rfl (fun K hK => ?_) AllReadyH.nil)
          go_simp
          go_at_call 15
          refine (HO4.out _).mono ?_
          rintro e' U159 ⟨rfl, hbm⟩
          have HM160 := Lib.hid (HM158.out.to hbm)
          refine hK.out _ _ HM160.out.below (fun _ => ?_)
          clear hK K hbm
          try simp only [Act.put, List.setIfInBounds_toArray, List.set_cons_zero, List.set_cons_succ]
          refine wpAnyH_ready (rs := [12]) (by kernel_rfl) (by simp) ?_
          refine (AllReadyH.cons (o := ({ dst := none, op := Go.Op.store 32 (Go.Operand.tmp 10) (Go.Operand.tmp 29), type := 0, pos := "law.go:111", after := #[{ on := 10, ground := Go.Ground.data }, { on := 4, ground := Go.Ground.data }, { on := 9, ground := Go.Ground.chain }, { on := 0, ground := Go.Ground.phase }, { on := 1, ground := Go.Ground.phase }, { on := 2, ground := Go.Ground.phase }, { on := 3, ground := Go.Ground.phase }, { on := 4, ground := Go.Ground.phase }, { on := 5, ground := Go.Ground.textOnly Go.Departure.lateStores }, { on := 6, ground := Go.Ground.textOnly Go.Departure.lateStores }, { on := 7, ground := Go.Ground.textOnly Go.Departure.lateStores }, { on := 8, ground := Go.Ground.textOnly Go.Departure.lateStoresUnsure }, { on := 9, ground := Go.Ground.textOnly Go.Departure.lateStoresUnsure }, { on := 10, ground := Go.Ground.phase }, { on := 11, ground := Go.Ground.phase }], guard := none } : Oper)) rfl (fun K hK => ?_) AllReadyH.nil)
          refine step_store_tr rfl 32 (.tmp 10) (.tmp 29) rfl gA zO.cells P 32 (HM160.out.a _ rfl).1 rfl rfl HSP.out HZP.out H1P.out (fun U161 hg4 hw4 hs4 => ?_)
          have HM162 := Lib.hid (HM160.out.one hg4.out hw4.out)
          clear hg4 hw4 hs4
          refine hK.out _ _ HM162.out.below (fun _ => ?_)
          clear hK K
          try simp only [Act.put]
          refine wpAnyH_ready (rs := [13]) (by kernel_rfl) (by simp) ?_
          refine (AllReadyH.cons (o := ({ dst := none, op := Go.Op.store 32 (Go.Operand.tmp 11) (Go.Operand.tmp 34), type := 0, pos := "law.go:111", after := #[{ on := 11, ground := Go.Ground.data }, { on := 9, ground := Go.Ground.data }, { on := 12, ground := Go.Ground.chain }, { on := 0, ground := Go.Ground.phase }, { on := 1, ground := Go.Ground.phase }, { on := 2, ground := Go.Ground.phase }, { on := 3, ground := Go.Ground.phase }, { on := 4, ground := Go.Ground.phase }, { on := 5, ground := Go.Ground.phase }, { on := 6, ground := Go.Ground.phase }, { on := 7, ground := Go.Ground.phase }, { on := 8, ground := Go.Ground.phase }, { on := 9, ground := Go.Ground.phase }, { on := 10, ground := Go.Ground.phase }, { on := 11, ground := Go.Ground.phase }, { on := 12, ground := Go.Ground.phase }], guard := none } : Oper)) rfl (fun K hK => ?_) AllReadyH.nil)
          refine step_store_tr rfl 32 (.tmp 11) (.tmp 34) rfl gB zO.cells P 32 HM162.out.b rfl rfl HSP.out HZP.out H1P.out (fun U163 hg4 hw4 hs4 => ?_)
          have HM164 := Lib.hid (HM162.out.fin hg4.out hw4.out)
          clear hg4 hw4 hs4
          refine hK.out _ _ HM164.out.below (fun _ => ?_)
          clear hK K
          try simp only [Act.put]
          refine wpAnyH_done (by kernel_rfl) ?_ _
          try (go_wp2_with fail)
          go_meet
          case rel => exact ⟨_, _, rfl, rfl, HM164⟩
      · rw [if_pos (by kernel_rfl)]
        go_simp
        have HM166 := Lib.hid (HM2.out.withB)
        refine hK.out _ _ HM166.out.below (fun _ => ?_)
        clear hK K
        generalize hU : U1.alloc (.cells zO.cells 32) = U165 at HM166
        rw [show U1.alloc (.cells #[.int .i64 0, .int .i64 0, .int .i64 0, .slice none 0 0] 32) = U165 from hU]
        clear hU
        generalize U1.heap.size = gB at HM166 ⊢
        try simp only [Act.put, List.setIfInBounds_toArray, List.set_cons_zero, List.set_cons_succ]
        refine wpAnyH_ready (rs := [4, 10]) (by kernel_rfl) (by simp) ?_
        refine (AllReadyH.cons (o := ({ dst := some 29, op := Go.Op.call { callee := Go.Callee.value (Go.Operand.func 15), args := #[Go.Operand.tmp 27, Go.Operand.tmp 28], argTypes := #[32, 32] }, type := 32, pos := "law.go:111", after := #[{ on := 2, ground := Go.Ground.data }, { on := 3, ground := Go.Ground.data }, { on := 2, ground := Go.Ground.chain }], guard := none } : Oper)) rfl (fun K hK => ?_) (AllReadyH.cons (o := ({ dst := some 10, op := Go.Op.alloc 32, type := 0, pos := "law.go:111", after := #[], guard := none } : Oper)) rfl (fun K hK => ?_) AllReadyH.nil))
        · go_simp
          go_at_call 15
          refine (HO2.out _).mono ?_
          rintro e' U167 ⟨rfl, hbm⟩
          have HM168 := Lib.hid (HM166.out.to hbm)
          refine hK.out _ _ HM168.out.below (fun _ => ?_)
          clear hK K hbm
          try simp only [Act.put, List.setIfInBounds_toArray, List.set_cons_zero, List.set_cons_succ]
          refine wpAnyH_ready (rs := [8, 10]) (by kernel_rfl) (by simp) ?_
          refine (AllReadyH.cons (o := ({ dst := some 33, op := Go.Op.call { callee := Go.Callee.value (Go.Operand.func 15), args := #[Go.Operand.tmp 31, Go.Operand.tmp 32], argTypes := #[32, 32] }, type := 32, pos := "law.go:111", after := #[{ on := 6, ground := Go.Ground.data }, { on := 7, ground := Go.Ground.data }, { on := 4, ground := Go.Ground.chain }], guard := none } : Oper)) rfl (fun K hK => ?_) (AllReadyH.cons (o := ({ dst := some 10, op := Go.Op.alloc 32, type := 0, pos := "law.go:111", after := #[], guard := none } : Oper)) rfl (fun K hK => ?_) AllReadyH.nil))
          · go_simp
            go_at_call 15
            refine (HO3.out _).mono ?_
            rintro e' U169 ⟨rfl, hbm⟩
            have HM170 := Lib.hid (HM168.out.to hbm)
            refine hK.out _ _ HM170.out.below (fun _ => ?_)
            clear hK K hbm
            try simp only [Act.put, List.setIfInBounds_toArray, List.set_cons_zero, List.set_cons_succ]
            refine wpAnyH_ready (rs := [9, 10]) (by kernel_rfl) (by simp) ?_
            refine (AllReadyH.cons (o := ({ dst := some 34, op := Go.Op.call { callee := Go.Callee.value (Go.Operand.func 15), args := #[Go.Operand.tmp 30, Go.Operand.tmp 33], argTypes := #[32, 32] }, type := 32, pos := "law.go:111", after := #[{ on := 5, ground := Go.Ground.data }, { on := 8, ground := Go.Ground.data }, { on := 8, ground := Go.Ground.chain }], guard := none } : Oper)) rfl (fun K hK => ?_) (AllReadyH.cons (o := ({ dst := some 10, op := Go.Op.alloc 32, type := 0, pos := "law.go:111", after := #[], guard := none } : Oper)) rfl (fun K hK => ?_) AllReadyH.nil))
            · go_simp
              go_at_call 15
              refine (HO4.out _).mono ?_
              rintro e' U171 ⟨rfl, hbm⟩
              have HM172 := Lib.hid (HM170.out.to hbm)
              refine hK.out _ _ HM172.out.below (fun _ => ?_)
              clear hK K hbm
              try simp only [Act.put, List.setIfInBounds_toArray, List.set_cons_zero, List.set_cons_succ]
              refine wpAnyH_ready (rs := [10]) (by kernel_rfl) (by simp) ?_
              refine (AllReadyH.cons (o := ({ dst := some 10, op := Go.Op.alloc 32, type := 0, pos := "law.go:111", after := #[], guard := none } : Oper)) rfl (fun K hK => ?_) AllReadyH.nil)
              rw [if_pos (by kernel_rfl)]
              go_simp
              have HM174 := Lib.hid (HM172.out.withA)
              refine hK.out _ _ HM174.out.below (fun _ => ?_)
              clear hK K
              generalize hU : U171.alloc (.cells zO.cells 32) = U173 at HM174
              rw [show U171.alloc (.cells #[.int .i64 0, .int .i64 0, .int .i64 0, .slice none 0 0] 32) = U173 from hU]
              clear hU
              generalize U171.heap.size = gA at HM174 ⊢
              try simp only [Act.put, List.setIfInBounds_toArray, List.set_cons_zero, List.set_cons_succ]
              refine wpAnyH_ready (rs := [12]) (by kernel_rfl) (by simp) ?_
              refine (AllReadyH.cons (o := ({ dst := none, op := Go.Op.store 32 (Go.Operand.tmp 10) (Go.Operand.tmp 29), type := 0, pos := "law.go:111", after := #[{ on := 10, ground := Go.Ground.data }, { on := 4, ground := Go.Ground.data }, { on := 9, ground := Go.Ground.chain }, { on := 0, ground := Go.Ground.phase }, { on := 1, ground := Go.Ground.phase }, { on := 2, ground := Go.Ground.phase }, { on := 3, ground := Go.Ground.phase }, { on := 4, ground := Go.Ground.phase }, { on := 5, ground := Go.Ground.textOnly Go.Departure.lateStores }, { on := 6, ground := Go.Ground.textOnly Go.Departure.lateStores }, { on := 7, ground := Go.Ground.textOnly Go.Departure.lateStores }, { on := 8, ground := Go.Ground.textOnly Go.Departure.lateStoresUnsure }, { on := 9, ground := Go.Ground.textOnly Go.Departure.lateStoresUnsure }, { on := 10, ground := Go.Ground.phase }, { on := 11, ground := Go.Ground.phase }], guard := none } : Oper)) rfl (fun K hK => ?_) AllReadyH.nil)
              refine step_store_tr rfl 32 (.tmp 10) (.tmp 29) rfl gA zO.cells P 32 (HM174.out.a _ rfl).1 rfl rfl HSP.out HZP.out H1P.out (fun U175 hg4 hw4 hs4 => ?_)
              have HM176 := Lib.hid (HM174.out.one hg4.out hw4.out)
              clear hg4 hw4 hs4
              refine hK.out _ _ HM176.out.below (fun _ => ?_)
              clear hK K
              try simp only [Act.put]
              refine wpAnyH_ready (rs := [13]) (by kernel_rfl) (by simp) ?_
              refine (AllReadyH.cons (o := ({ dst := none, op := Go.Op.store 32 (Go.Operand.tmp 11) (Go.Operand.tmp 34), type := 0, pos := "law.go:111", after := #[{ on := 11, ground := Go.Ground.data }, { on := 9, ground := Go.Ground.data }, { on := 12, ground := Go.Ground.chain }, { on := 0, ground := Go.Ground.phase }, { on := 1, ground := Go.Ground.phase }, { on := 2, ground := Go.Ground.phase }, { on := 3, ground := Go.Ground.phase }, { on := 4, ground := Go.Ground.phase }, { on := 5, ground := Go.Ground.phase }, { on := 6, ground := Go.Ground.phase }, { on := 7, ground := Go.Ground.phase }, { on := 8, ground := Go.Ground.phase }, { on := 9, ground := Go.Ground.phase }, { on := 10, ground := Go.Ground.phase }, { on := 11, ground := Go.Ground.phase }, { on := 12, ground := Go.Ground.phase }], guard := none } : Oper)) rfl (fun K hK => ?_) AllReadyH.nil)
              refine step_store_tr rfl 32 (.tmp 11) (.tmp 34) rfl gB zO.cells P 32 HM176.out.b rfl rfl HSP.out HZP.out H1P.out (fun U177 hg4 hw4 hs4 => ?_)
              have HM178 := Lib.hid (HM176.out.fin hg4.out hw4.out)
              clear hg4 hw4 hs4
              refine hK.out _ _ HM178.out.below (fun _ => ?_)
              clear hK K
              try simp only [Act.put]
              refine wpAnyH_done (by kernel_rfl) ?_ _
              try (go_wp2_with fail)
              go_meet
              case rel => exact ⟨_, _, rfl, rfl, HM178⟩
            · rw [if_pos (by kernel_rfl)]
              go_simp
              have HM180 := Lib.hid (HM170.out.withA)
              refine hK.out _ _ HM180.out.below (fun _ => ?_)
              clear hK K
              generalize hU : U169.alloc (.cells zO.cells 32) = U179 at HM180
              rw [show U169.alloc (.cells #[.int .i64 0, .int .i64 0, .int .i64 0, .slice none 0 0] 32) = U179 from hU]
              clear hU
              generalize U169.heap.size = gA at HM180 ⊢
              try simp only [Act.put, List.setIfInBounds_toArray, List.set_cons_zero, List.set_cons_succ]
              refine wpAnyH_ready (rs := [9]) (by kernel_rfl) (by simp) ?_
              refine (AllReadyH.cons (o := ({ dst := some 34, op := Go.Op.call { callee := Go.Callee.value (Go.Operand.func 15), args := #[Go.Operand.tmp 30, Go.Operand.tmp 33], argTypes := #[32, 32] }, type := 32, pos := "law.go:111", after := #[{ on := 5, ground := Go.Ground.data }, { on := 8, ground := Go.Ground.data }, { on := 8, ground := Go.Ground.chain }], guard := none } : Oper)) rfl (fun K hK => ?_) AllReadyH.nil)
              go_simp
              go_at_call 15
              refine (HO4.out _).mono ?_
              rintro e' U181 ⟨rfl, hbm⟩
              have HM182 := Lib.hid (HM180.out.to hbm)
              refine hK.out _ _ HM182.out.below (fun _ => ?_)
              clear hK K hbm
              try simp only [Act.put, List.setIfInBounds_toArray, List.set_cons_zero, List.set_cons_succ]
              refine wpAnyH_ready (rs := [12]) (by kernel_rfl) (by simp) ?_
              refine (AllReadyH.cons (o := ({ dst := none, op := Go.Op.store 32 (Go.Operand.tmp 10) (Go.Operand.tmp 29), type := 0, pos := "law.go:111", after := #[{ on := 10, ground := Go.Ground.data }, { on := 4, ground := Go.Ground.data }, { on := 9, ground := Go.Ground.chain }, { on := 0, ground := Go.Ground.phase }, { on := 1, ground := Go.Ground.phase }, { on := 2, ground := Go.Ground.phase }, { on := 3, ground := Go.Ground.phase }, { on := 4, ground := Go.Ground.phase }, { on := 5, ground := Go.Ground.textOnly Go.Departure.lateStores }, { on := 6, ground := Go.Ground.textOnly Go.Departure.lateStores }, { on := 7, ground := Go.Ground.textOnly Go.Departure.lateStores }, { on := 8, ground := Go.Ground.textOnly Go.Departure.lateStoresUnsure }, { on := 9, ground := Go.Ground.textOnly Go.Departure.lateStoresUnsure }, { on := 10, ground := Go.Ground.phase }, { on := 11, ground := Go.Ground.phase }], guard := none } : Oper)) rfl (fun K hK => ?_) AllReadyH.nil)
              refine step_store_tr rfl 32 (.tmp 10) (.tmp 29) rfl gA zO.cells P 32 (HM182.out.a _ rfl).1 rfl rfl HSP.out HZP.out H1P.out (fun U183 hg4 hw4 hs4 => ?_)
              have HM184 := Lib.hid (HM182.out.one hg4.out hw4.out)
              clear hg4 hw4 hs4
              refine hK.out _ _ HM184.out.below (fun _ => ?_)
              clear hK K
              try simp only [Act.put]
              refine wpAnyH_ready (rs := [13]) (by kernel_rfl) (by simp) ?_
              refine (AllReadyH.cons (o := ({ dst := none, op := Go.Op.store 32 (Go.Operand.tmp 11) (Go.Operand.tmp 34), type := 0, pos := "law.go:111", after := #[{ on := 11, ground := Go.Ground.data }, { on := 9, ground := Go.Ground.data }, { on := 12, ground := Go.Ground.chain }, { on := 0, ground := Go.Ground.phase }, { on := 1, ground := Go.Ground.phase }, { on := 2, ground := Go.Ground.phase }, { on := 3, ground := Go.Ground.phase }, { on := 4, ground := Go.Ground.phase }, { on := 5, ground := Go.Ground.phase }, { on := 6, ground := Go.Ground.phase }, { on := 7, ground := Go.Ground.phase }, { on := 8, ground := Go.Ground.phase }, { on := 9, ground := Go.Ground.phase }, { on := 10, ground := Go.Ground.phase }, { on := 11, ground := Go.Ground.phase }, { on := 12, ground := Go.Ground.phase }], guard := none } : Oper)) rfl (fun K hK => ?_) AllReadyH.nil)
              refine step_store_tr rfl 32 (.tmp 11) (.tmp 34) rfl gB zO.cells P 32 HM184.out.b rfl rfl HSP.out HZP.out H1P.out (fun U185 hg4 hw4 hs4 => ?_)
              have HM186 := Lib.hid (HM184.out.fin hg4.out hw4.out)
              clear hg4 hw4 hs4
              refine hK.out _ _ HM186.out.below (fun _ => ?_)
              clear hK K
              try simp only [Act.put]
              refine wpAnyH_done (by kernel_rfl) ?_ _
              try (go_wp2_with fail)
              go_meet
              case rel => exact ⟨_, _, rfl, rfl, HM186⟩
          · rw [if_pos (by kernel_rfl)]
            go_simp
            have HM188 := Lib.hid (HM168.out.withA)
            refine hK.out _ _ HM188.out.below (fun _ => ?_)
            clear hK K
            generalize hU : U167.alloc (.cells zO.cells 32) = U187 at HM188
            rw [show U167.alloc (.cells #[.int .i64 0, .int .i64 0, .int .i64 0, .slice none 0 0] 32) = U187 from hU]
            clear hU
            generalize U167.heap.size = gA at HM188 ⊢
            try simp only [Act.put, List.setIfInBounds_toArray, List.set_cons_zero, List.set_cons_succ]
            refine wpAnyH_ready (rs := [8]) (by kernel_rfl) (by simp) ?_
            refine (AllReadyH.cons (o := ({ dst := some 33, op := Go.Op.call { callee := Go.Callee.value (Go.Operand.func 15), args := #[Go.Operand.tmp 31, Go.Operand.tmp 32], argTypes := #[32, 32] }, type := 32, pos := "law.go:111", after := #[{ on := 6, ground := Go.Ground.data }, { on := 7, ground := Go.Ground.data }, { on := 4, ground := Go.Ground.chain }], guard := none } : Oper)) rfl (fun K hK => ?_) AllReadyH.nil)
            go_simp
            go_at_call 15
            refine (HO3.out _).mono ?_
            rintro e' U189 ⟨rfl, hbm⟩
            have HM190 := Lib.hid (HM188.out.to hbm)
            refine hK.out _ _ HM190.out.below (fun _ => ?_)
            clear hK K hbm
            try simp only [Act.put, List.setIfInBounds_toArray, List.set_cons_zero, List.set_cons_succ]
            refine wpAnyH_ready (rs := [9]) (by kernel_rfl) (by simp) ?_
            refine (AllReadyH.cons (o := ({ dst := some 34, op := Go.Op.call { callee := Go.Callee.value (Go.Operand.func 15), args := #[Go.Operand.tmp 30, Go.Operand.tmp 33], argTypes := #[32, 32] }, type := 32, pos := "law.go:111", after := #[{ on := 5, ground := Go.Ground.data }, { on := 8, ground := Go.Ground.data }, { on := 8, ground := Go.Ground.chain }], guard := none } : Oper)) rfl (fun K hK => ?_) AllReadyH.nil)
            go_simp
            go_at_call 15
            refine (HO4.out _).mono ?_
            rintro e' U191 ⟨rfl, hbm⟩
            have HM192 := Lib.hid (HM190.out.to hbm)
            refine hK.out _ _ HM192.out.below (fun _ => ?_)
            clear hK K hbm
            try simp only [Act.put, List.setIfInBounds_toArray, List.set_cons_zero, List.set_cons_succ]
            refine wpAnyH_ready (rs := [12]) (by kernel_rfl) (by simp) ?_
            refine (AllReadyH.cons (o := ({ dst := none, op := Go.Op.store 32 (Go.Operand.tmp 10) (Go.Operand.tmp 29), type := 0, pos := "law.go:111", after := #[{ on := 10, ground := Go.Ground.data }, { on := 4, ground := Go.Ground.data }, { on := 9, ground := Go.Ground.chain }, { on := 0, ground := Go.Ground.phase }, { on := 1, ground := Go.Ground.phase }, { on := 2, ground := Go.Ground.phase }, { on := 3, ground := Go.Ground.phase }, { on := 4, ground := Go.Ground.phase }, { on := 5, ground := Go.Ground.textOnly Go.Departure.lateStores }, { on := 6, ground := Go.Ground.textOnly Go.Departure.lateStores }, { on := 7, ground := Go.Ground.textOnly Go.Departure.lateStores }, { on := 8, ground := Go.Ground.textOnly Go.Departure.lateStoresUnsure }, { on := 9, ground := Go.Ground.textOnly Go.Departure.lateStoresUnsure }, { on := 10, ground := Go.Ground.phase }, { on := 11, ground := Go.Ground.phase }], guard := none } : Oper)) rfl (fun K hK => ?_) AllReadyH.nil)
            refine step_store_tr rfl 32 (.tmp 10) (.tmp 29) rfl gA zO.cells P 32 (HM192.out.a _ rfl).1 rfl rfl HSP.out HZP.out H1P.out (fun U193 hg4 hw4 hs4 => ?_)
            have HM194 := Lib.hid (HM192.out.one hg4.out hw4.out)
            clear hg4 hw4 hs4
            refine hK.out _ _ HM194.out.below (fun _ => ?_)
            clear hK K
            try simp only [Act.put]
            refine wpAnyH_ready (rs := [13]) (by kernel_rfl) (by simp) ?_
            refine (AllReadyH.cons (o := ({ dst := none, op := Go.Op.store 32 (Go.Operand.tmp 11) (Go.Operand.tmp 34), type := 0, pos := "law.go:111", after := #[{ on := 11, ground := Go.Ground.data }, { on := 9, ground := Go.Ground.data }, { on := 12, ground := Go.Ground.chain }, { on := 0, ground := Go.Ground.phase }, { on := 1, ground := Go.Ground.phase }, { on := 2, ground := Go.Ground.phase }, { on := 3, ground := Go.Ground.phase }, { on := 4, ground := Go.Ground.phase }, { on := 5, ground := Go.Ground.phase }, { on := 6, ground := Go.Ground.phase }, { on := 7, ground := Go.Ground.phase }, { on := 8, ground := Go.Ground.phase }, { on := 9, ground := Go.Ground.phase }, { on := 10, ground := Go.Ground.phase }, { on := 11, ground := Go.Ground.phase }, { on := 12, ground := Go.Ground.phase }], guard := none } : Oper)) rfl (fun K hK => ?_) AllReadyH.nil)
            refine step_store_tr rfl 32 (.tmp 11) (.tmp 34) rfl gB zO.cells P 32 HM194.out.b rfl rfl HSP.out HZP.out H1P.out (fun U195 hg4 hw4 hs4 => ?_)
            have HM196 := Lib.hid (HM194.out.fin hg4.out hw4.out)
            clear hg4 hw4 hs4
            refine hK.out _ _ HM196.out.below (fun _ => ?_)
            clear hK K
            try simp only [Act.put]
            refine wpAnyH_done (by kernel_rfl) ?_ _
            try (go_wp2_with fail)
            go_meet
            case rel => exact ⟨_, _, rfl, rfl, HM196⟩
        · rw [if_pos (by kernel_rfl)]
          go_simp
          have HM198 := Lib.hid (HM166.out.withA)
          refine hK.out _ _ HM198.out.below (fun _ => ?_)
          clear hK K
          generalize hU : U165.alloc (.cells zO.cells 32) = U197 at HM198
          rw [show U165.alloc (.cells #[.int .i64 0, .int .i64 0, .int .i64 0, .slice none 0 0] 32) = U197 from hU]
          clear hU
          generalize U165.heap.size = gA at HM198 ⊢
          try simp only [Act.put, List.setIfInBounds_toArray, List.set_cons_zero, List.set_cons_succ]
          refine wpAnyH_ready (rs := [4]) (by kernel_rfl) (by simp) ?_
          refine (AllReadyH.cons (o := ({ dst := some 29, op := Go.Op.call { callee := Go.Callee.value (Go.Operand.func 15), args := #[Go.Operand.tmp 27, Go.Operand.tmp 28], argTypes := #[32, 32] }, type := 32, pos := "law.go:111", after := #[{ on := 2, ground := Go.Ground.data }, { on := 3, ground := Go.Ground.data }, { on := 2, ground := Go.Ground.chain }], guard := none } : Oper)) rfl (fun K hK => ?_) AllReadyH.nil)
          go_simp
          go_at_call 15
          refine (HO2.out _).mono ?_
          rintro e' U199 ⟨rfl, hbm⟩
          have HM200 := Lib.hid (HM198.out.to hbm)
          refine hK.out _ _ HM200.out.below (fun _ => ?_)
          clear hK K hbm
          try simp only [Act.put, List.setIfInBounds_toArray, List.set_cons_zero, List.set_cons_succ]
          refine wpAnyH_ready (rs := [8]) (by kernel_rfl) (by simp) ?_
          refine (AllReadyH.cons (o := ({ dst := some 33, op := Go.Op.call { callee := Go.Callee.value (Go.Operand.func 15), args := #[Go.Operand.tmp 31, Go.Operand.tmp 32], argTypes := #[32, 32] }, type := 32, pos := "law.go:111", after := #[{ on := 6, ground := Go.Ground.data }, { on := 7, ground := Go.Ground.data }, { on := 4, ground := Go.Ground.chain }], guard := none } : Oper)) rfl (fun K hK => ?_) AllReadyH.nil)
          go_simp
          go_at_call 15
          refine (HO3.out _).mono ?_
          rintro e' U201 ⟨rfl, hbm⟩
          have HM202 := Lib.hid (HM200.out.to hbm)
          refine hK.out _ _ HM202.out.below (fun _ => ?_)
          clear hK K hbm
          try simp only [Act.put, List.setIfInBounds_toArray, List.set_cons_zero, List.set_cons_succ]
          refine wpAnyH_ready (rs := [9]) (by kernel_rfl) (by simp) ?_
          refine (AllReadyH.cons (o := ({ dst := some 34, op := Go.Op.call { callee := Go.Callee.value (Go.Operand.func 15), args := #[Go.Operand.tmp 30, Go.Operand.tmp 33], argTypes := #[32, 32] }, type := 32, pos := "law.go:111", after := #[{ on := 5, ground := Go.Ground.data }, { on := 8, ground := Go.Ground.data }, { on := 8, ground := Go.Ground.chain }], guard := none } : Oper)) rfl (fun K hK => ?_) AllReadyH.nil)
          go_simp
          go_at_call 15
          refine (HO4.out _).mono ?_
          rintro e' U203 ⟨rfl, hbm⟩
          have HM204 := Lib.hid (HM202.out.to hbm)
          refine hK.out _ _ HM204.out.below (fun _ => ?_)
          clear hK K hbm
          try simp only [Act.put, List.setIfInBounds_toArray, List.set_cons_zero, List.set_cons_succ]
          refine wpAnyH_ready (rs := [12]) (by kernel_rfl) (by simp) ?_
          refine (AllReadyH.cons (o := ({ dst := none, op := Go.Op.store 32 (Go.Operand.tmp 10) (Go.Operand.tmp 29), type := 0, pos := "law.go:111", after := #[{ on := 10, ground := Go.Ground.data }, { on := 4, ground := Go.Ground.data }, { on := 9, ground := Go.Ground.chain }, { on := 0, ground := Go.Ground.phase }, { on := 1, ground := Go.Ground.phase }, { on := 2, ground := Go.Ground.phase }, { on := 3, ground := Go.Ground.phase }, { on := 4, ground := Go.Ground.phase }, { on := 5, ground := Go.Ground.textOnly Go.Departure.lateStores }, { on := 6, ground := Go.Ground.textOnly Go.Departure.lateStores }, { on := 7, ground := Go.Ground.textOnly Go.Departure.lateStores }, { on := 8, ground := Go.Ground.textOnly Go.Departure.lateStoresUnsure }, { on := 9, ground := Go.Ground.textOnly Go.Departure.lateStoresUnsure }, { on := 10, ground := Go.Ground.phase }, { on := 11, ground := Go.Ground.phase }], guard := none } : Oper)) rfl (fun K hK => ?_) AllReadyH.nil)
          refine step_store_tr rfl 32 (.tmp 10) (.tmp 29) rfl gA zO.cells P 32 (HM204.out.a _ rfl).1 rfl rfl HSP.out HZP.out H1P.out (fun U205 hg4 hw4 hs4 => ?_)
          have HM206 := Lib.hid (HM204.out.one hg4.out hw4.out)
          clear hg4 hw4 hs4
          refine hK.out _ _ HM206.out.below (fun _ => ?_)
          clear hK K
          try simp only [Act.put]
          refine wpAnyH_ready (rs := [13]) (by kernel_rfl) (by simp) ?_
          refine (AllReadyH.cons (o := ({ dst := none, op := Go.Op.store 32 (Go.Operand.tmp 11) (Go.Operand.tmp 34), type := 0, pos := "law.go:111", after := #[{ on := 11, ground := Go.Ground.data }, { on := 9, ground := Go.Ground.data }, { on := 12, ground := Go.Ground.chain }, { on := 0, ground := Go.Ground.phase }, { on := 1, ground := Go.Ground.phase }, { on := 2, ground := Go.Ground.phase }, { on := 3, ground := Go.Ground.phase }, { on := 4, ground := Go.Ground.phase }, { on := 5, ground := Go.Ground.phase }, { on := 6, ground := Go.Ground.phase }, { on := 7, ground := Go.Ground.phase }, { on := 8, ground := Go.Ground.phase }, { on := 9, ground := Go.Ground.phase }, { on := 10, ground := Go.Ground.phase }, { on := 11, ground := Go.Ground.phase }, { on := 12, ground := Go.Ground.phase }], guard := none } : Oper)) rfl (fun K hK => ?_) AllReadyH.nil)
          refine step_store_tr rfl 32 (.tmp 11) (.tmp 34) rfl gB zO.cells P 32 HM206.out.b rfl rfl HSP.out HZP.out H1P.out (fun U207 hg4 hw4 hs4 => ?_)
          have HM208 := Lib.hid (HM206.out.fin hg4.out hw4.out)
          clear hg4 hw4 hs4
          refine hK.out _ _ HM208.out.below (fun _ => ?_)
          clear hK K
          try simp only [Act.put]
          refine wpAnyH_done (by kernel_rfl) ?_ _
          try (go_wp2_with fail)
          go_meet
          case rel => exact ⟨_, _, rfl, rfl, HM208⟩
    · rw [if_pos (by kernel_rfl)]
      go_simp
      have HM210 := Lib.hid (HM0.out.withA)
      refine hK.out _ _ HM210.out.below (fun _ => ?_)
      clear hK K
      generalize hU : V0.alloc (.cells zO.cells 32) = U209 at HM210
      rw [show V0.alloc (.cells #[.int .i64 0, .int .i64 0, .int .i64 0, .slice none 0 0] 32) = U209 from hU]
      clear hU
      generalize V0.heap.size = gA at HM210 ⊢
      try simp only [Act.put, List.setIfInBounds_toArray, List.set_cons_zero, List.set_cons_succ]
      refine wpAnyH_ready (rs := [2, 11]) (by kernel_rfl) (by simp) ?_
      refine (AllReadyH.cons (o := ({ dst := some 27, op := Go.Op.call { callee := Go.Callee.value (Go.Operand.func 15), args := #[Go.Operand.tmp 25, Go.Operand.tmp 26], argTypes := #[32, 32] }, type := 32, pos := "law.go:111", after := #[{ on := 0, ground := Go.Ground.data }, { on := 1, ground := Go.Ground.data }], guard := none } : Oper)) rfl (fun K hK => ?_) (AllReadyH.cons (o := ({ dst := some 11, op := Go.Op.alloc 32, type := 0, pos := "law.go:111", after := #[], guard := none } : Oper)) rfl (fun K hK => ?_) AllReadyH.nil))
      · go_simp
        go_at_call 15
        refine (HO1.out _).mono ?_
        rintro e' U211 ⟨rfl, hbm⟩
        have HM212 := Lib.hid (HM210.out.to hbm)
        refine hK.out _ _ HM212.out.below (fun _ => ?_)
        clear hK K hbm
        try simp only [Act.put, List.setIfInBounds_toArray, List.set_cons_zero, List.set_cons_succ]
        refine wpAnyH_ready (rs := [4, 11]) (by kernel_rfl) (by simp) ?_
        refine (AllReadyH.cons (o := ({ dst := some 29, op := Go.Op.call { callee := Go.Callee.value (Go.Operand.func 15), args := #[Go.Operand.tmp 27, Go.Operand.tmp 28], argTypes := #[32, 32] }, type := 32, pos := "law.go:111", after := #[{ on := 2, ground := Go.Ground.data }, { on := 3, ground := Go.Ground.data }, { on := 2, ground := Go.Ground.chain }], guard := none } : Oper)) rfl (fun K hK => ?_) (AllReadyH.cons (o := ({ dst := some 11, op := Go.Op.alloc 32, type := 0, pos := "law.go:111", after := #[], guard := none } : Oper)) rfl (fun K hK => ?_) AllReadyH.nil))
        · go_simp
          go_at_call 15
          refine (HO2.out _).mono ?_
          rintro e' U213 ⟨rfl, hbm⟩
          have HM214 := Lib.hid (HM212.out.to hbm)
          refine hK.out _ _ HM214.out.below (fun _ => ?_)
          clear hK K hbm
          try simp only [Act.put, List.setIfInBounds_toArray, List.set_cons_zero, List.set_cons_succ]
          refine wpAnyH_ready (rs := [8, 11]) (by kernel_rfl) (by simp) ?_
          refine (AllReadyH.cons (o := ({ dst := some 33, op := Go.Op.call { callee := Go.Callee.value (Go.Operand.func 15), args := #[Go.Operand.tmp 31, Go.Operand.tmp 32], argTypes := #[32, 32] }, type := 32, pos := "law.go:111", after := #[{ on := 6, ground := Go.Ground.data }, { on := 7, ground := Go.Ground.data }, { on := 4, ground := Go.Ground.chain }], guard := none } : Oper)) rfl (fun K hK => ?_) (AllReadyH.cons (o := ({ dst := some 11, op := Go.Op.alloc 32, type := 0, pos := "law.go:111", after := #[], guard := none } : Oper)) rfl (fun K hK => ?_) AllReadyH.nil))
          · go_simp
            go_at_call 15
            refine (HO3.out _).mono ?_
            rintro e' U215 ⟨rfl, hbm⟩
            have HM216 := Lib.hid (HM214.out.to hbm)
            refine hK.out _ _ HM216.out.below (fun _ => ?_)
            clear hK K hbm
            try simp only [Act.put, List.setIfInBounds_toArray, List.set_cons_zero, List.set_cons_succ]
            refine wpAnyH_ready (rs := [9, 11]) (by kernel_rfl) (by simp) ?_
            refine (AllReadyH.cons (o := ({ dst := some 34, op := Go.Op.call { callee := Go.Callee.value (Go.Operand.func 15), args := #[Go.Operand.tmp 30, Go.Operand.tmp 33], argTypes := #[32, 32] }, type := 32, pos := "law.go:111", after := #[{ on := 5, ground := Go.Ground.data }, { on := 8, ground := Go.Ground.data }, { on := 8, ground := Go.Ground.chain }], guard := none } : Oper)) rfl (fun K hK => ?_) (AllReadyH.cons (o := ({ dst := some 11, op := Go.Op.alloc 32, type := 0, pos := "law.go:111", after := #[], guard := none } : Oper)) rfl (fun K hK => ?_) AllReadyH.nil))
            · go_simp
              go_at_call 15
              refine (HO4.out _).mono ?_
              rintro e' U217 ⟨rfl, hbm⟩
              have HM218 := Lib.hid (HM216.out.to hbm)
              refine hK.out _ _ HM218.out.below (fun _ => ?_)
              clear hK K hbm
              try simp only [Act.put, List.setIfInBounds_toArray, List.set_cons_zero, List.set_cons_succ]
              refine wpAnyH_ready (rs := [11]) (by kernel_rfl) (by simp) ?_
              refine (AllReadyH.cons (o := ({ dst := some 11, op := Go.Op.alloc 32, type := 0, pos := "law.go:111", after := #[], guard := none } : Oper)) rfl (fun K hK => ?_) AllReadyH.nil)
              rw [if_pos (by kernel_rfl)]
              go_simp
              have HM220 := Lib.hid (HM218.out.withB)
              refine hK.out _ _ HM220.out.below (fun _ => ?_)
              clear hK K
              generalize hU : U217.alloc (.cells zO.cells 32) = U219 at HM220
              rw [show U217.alloc (.cells #[.int .i64 0, .int .i64 0, .int .i64 0, .slice none 0 0] 32) = U219 from hU]
              clear hU
              generalize U217.heap.size = gB at HM220 ⊢
              try simp only [Act.put, List.setIfInBounds_toArray, List.set_cons_zero, List.set_cons_succ]
              refine wpAnyH_ready (rs := [12]) (by kernel_rfl) (by simp) ?_
              refine (AllReadyH.cons (o := ({ dst := none, op := Go.Op.store 32 (Go.Operand.tmp 10) (Go.Operand.tmp 29), type := 0, pos := "law.go:111", after := #[{ on := 10, ground := Go.Ground.data }, { on := 4, ground := Go.Ground.data }, { on := 9, ground := Go.Ground.chain }, { on := 0, ground := Go.Ground.phase }, { on := 1, ground := Go.Ground.phase }, { on := 2, ground := Go.Ground.phase }, { on := 3, ground := Go.Ground.phase }, { on := 4, ground := Go.Ground.phase }, { on := 5, ground := Go.Ground.textOnly Go.Departure.lateStores }, { on := 6, ground := Go.Ground.textOnly Go.Departure.lateStores }, { on := 7, ground := Go.Ground.textOnly Go.Departure.lateStores }, { on := 8, ground := Go.Ground.textOnly Go.Departure.lateStoresUnsure }, { on := 9, ground := Go.Ground.textOnly Go.Departure.lateStoresUnsure }, { on := 10, ground := Go.Ground.phase }, { on := 11, ground := Go.Ground.phase }], guard := none } : Oper)) rfl (fun K hK => ?_) AllReadyH.nil)
              refine step_store_tr rfl 32 (.tmp 10) (.tmp 29) rfl gA zO.cells P 32 (HM220.out.a _ rfl).1 rfl rfl HSP.out HZP.out H1P.out (fun U221 hg4 hw4 hs4 => ?_)
              have HM222 := Lib.hid (HM220.out.one hg4.out hw4.out)
              clear hg4 hw4 hs4
              refine hK.out _ _ HM222.out.below (fun _ => ?_)
              clear hK K
              try simp only [Act.put]
              refine wpAnyH_ready (rs := [13]) (by kernel_rfl) (by simp) ?_
              refine (AllReadyH.cons (o := ({ dst := none, op := Go.Op.store 32 (Go.Operand.tmp 11) (Go.Operand.tmp 34), type := 0, pos := "law.go:111", after := #[{ on := 11, ground := Go.Ground.data }, { on := 9, ground := Go.Ground.data }, { on := 12, ground := Go.Ground.chain }, { on := 0, ground := Go.Ground.phase }, { on := 1, ground := Go.Ground.phase }, { on := 2, ground := Go.Ground.phase }, { on := 3, ground := Go.Ground.phase }, { on := 4, ground := Go.Ground.phase }, { on := 5, ground := Go.Ground.phase }, { on := 6, ground := Go.Ground.phase }, { on := 7, ground := Go.Ground.phase }, { on := 8, ground := Go.Ground.phase }, { on := 9, ground := Go.Ground.phase }, { on := 10, ground := Go.Ground.phase }, { on := 11, ground := Go.Ground.phase }, { on := 12, ground := Go.Ground.phase }], guard := none } : Oper)) rfl (fun K hK => ?_) AllReadyH.nil)
              refine step_store_tr rfl 32 (.tmp 11) (.tmp 34) rfl gB zO.cells P 32 HM222.out.b rfl rfl HSP.out HZP.out H1P.out (fun U223 hg4 hw4 hs4 => ?_)
              have HM224 := Lib.hid (HM222.out.fin hg4.out hw4.out)
              clear hg4 hw4 hs4
              refine hK.out _ _ HM224.out.below (fun _ => ?_)
              clear hK K
              try simp only [Act.put]
              refine wpAnyH_done (by kernel_rfl) ?_ _
              try (go_wp2_with fail)
              go_meet
              case rel => exact ⟨_, _, rfl, rfl, HM224⟩
            · rw [if_pos (by kernel_rfl)]
              go_simp
              have HM226 := Lib.hid (HM216.out.withB)
              refine hK.out _ _ HM226.out.below (fun _ => ?_)
              clear hK K
              generalize hU : U215.alloc (.cells zO.cells 32) = U225 at HM226
              rw [show U215.alloc (.cells #[.int .i64 0, .int .i64 0, .int .i64 0, .slice none 0 0] 32) = U225 from hU]
              clear hU
              generalize U215.heap.size = gB at HM226 ⊢
              try simp only [Act.put, List.setIfInBounds_toArray, List.set_cons_zero, List.set_cons_succ]
              refine wpAnyH_ready (rs := [9]) (by kernel_rfl) (by simp) ?_
              refine (AllReadyH.cons (o := ({ dst := some 34, op := Go.Op.call { callee := Go.Callee.value (Go.Operand.func 15), args := #[Go.Operand.tmp 30, Go.Operand.tmp 33], argTypes := #[32, 32] }, type := 32, pos := "law.go:111", after := #[{ on := 5, ground := Go.Ground.data }, { on := 8, ground := Go.Ground.data }, { on := 8, ground := Go.Ground.chain }], guard := none } : Oper)) rfl (fun K hK => ?_) AllReadyH.nil)
              go_simp
              go_at_call 15
              refine (HO4.out _).mono ?_
              rintro e' U227 ⟨rfl, hbm⟩
              have HM228 := Lib.hid (HM226.out.to hbm)
              refine hK.out _ _ HM228.out.below (fun _ => ?_)
              clear hK K hbm
              try simp only [Act.put, List.setIfInBounds_toArray, List.set_cons_zero, List.set_cons_succ]
              refine wpAnyH_ready (rs := [12]) (by kernel_rfl) (by simp) ?_
              refine (AllReadyH.cons (o := ({ dst := none, op := Go.Op.store 32 (Go.Operand.tmp 10) (Go.Operand.tmp 29), type := 0, pos := "law.go:111", after := #[{ on := 10, ground := Go.Ground.data }, { on := 4, ground := Go.Ground.data }, { on := 9, ground := Go.Ground.chain }, { on := 0, ground := Go.Ground.phase }, { on := 1, ground := Go.Ground.phase }, { on := 2, ground := Go.Ground.phase }, { on := 3, ground := Go.Ground.phase }, { on := 4, ground := Go.Ground.phase }, { on := 5, ground := Go.Ground.textOnly Go.Departure.lateStores }, { on := 6, ground := Go.Ground.textOnly Go.Departure.lateStores }, { on := 7, ground := Go.Ground.textOnly Go.Departure.lateStores }, { on := 8, ground := Go.Ground.textOnly Go.Departure.lateStoresUnsure }, { on := 9, ground := Go.Ground.textOnly Go.Departure.lateStoresUnsure }, { on := 10, ground := Go.Ground.phase }, { on := 11, ground := Go.Ground.phase }], guard := none } : Oper)) rfl (fun K hK => ?_) AllReadyH.nil)
              refine step_store_tr rfl 32 (.tmp 10) (.tmp 29) rfl gA zO.cells P 32 (HM228.out.a _ rfl).1 rfl rfl HSP.out HZP.out H1P.out (fun U229 hg4 hw4 hs4 => ?_)
              have HM230 := Lib.hid (HM228.out.one hg4.out hw4.out)
              clear hg4 hw4 hs4
              refine hK.out _ _ HM230.out.below (fun _ => ?_)
              clear hK K
              try simp only [Act.put]
              refine wpAnyH_ready (rs := [13]) (by kernel_rfl) (by simp) ?_
              refine (AllReadyH.cons (o := ({ dst := none, op := Go.Op.store 32 (Go.Operand.tmp 11) (Go.Operand.tmp 34), type := 0, pos := "law.go:111", after := #[{ on := 11, ground := Go.Ground.data }, { on := 9, ground := Go.Ground.data }, { on := 12, ground := Go.Ground.chain }, { on := 0, ground := Go.Ground.phase }, { on := 1, ground := Go.Ground.phase }, { on := 2, ground := Go.Ground.phase }, { on := 3, ground := Go.Ground.phase }, { on := 4, ground := Go.Ground.phase }, { on := 5, ground := Go.Ground.phase }, { on := 6, ground := Go.Ground.phase }, { on := 7, ground := Go.Ground.phase }, { on := 8, ground := Go.Ground.phase }, { on := 9, ground := Go.Ground.phase }, { on := 10, ground := Go.Ground.phase }, { on := 11, ground := Go.Ground.phase }, { on := 12, ground := Go.Ground.phase }], guard := none } : Oper)) rfl (fun K hK => ?_) AllReadyH.nil)
              refine step_store_tr rfl 32 (.tmp 11) (.tmp 34) rfl gB zO.cells P 32 HM230.out.b rfl rfl HSP.out HZP.out H1P.out (fun U231 hg4 hw4 hs4 => ?_)
              have HM232 := Lib.hid (HM230.out.fin hg4.out hw4.out)
              clear hg4 hw4 hs4
              refine hK.out _ _ HM232.out.below (fun _ => ?_)
              clear hK K
              try simp only [Act.put]
              refine wpAnyH_done (by kernel_rfl) ?_ _
              try (go_wp2_with fail)
              go_meet
              case rel => exact ⟨_, _, rfl, rfl, HM232⟩
          · rw [if_pos (by kernel_rfl)]
            go_simp
            have HM234 := Lib.hid (HM214.out.withB)
            refine hK.out _ _ HM234.out.below (fun _ => ?_)
            clear hK K
            generalize hU : U213.alloc (.cells zO.cells 32) = U233 at HM234
            rw [show U213.alloc (.cells #[.int .i64 0, .int .i64 0, .int .i64 0, .slice none 0 0] 32) = U233 from hU]
            clear hU
            generalize U213.heap.size = gB at HM234 ⊢
            try simp only [Act.put, List.setIfInBounds_toArray, List.set_cons_zero, List.set_cons_succ]
            refine wpAnyH_ready (rs := [8]) (by kernel_rfl) (by simp) ?_
            refine (AllReadyH.cons (o := ({ dst := some 33, op := Go.Op.call { callee := Go.Callee.value (Go.Operand.func 15), args := #[Go.Operand.tmp 31, Go.Operand.tmp 32], argTypes := #[32, 32] }, type := 32, pos := "law.go:111", after := #[{ on := 6, ground := Go.Ground.data }, { on := 7, ground := Go.Ground.data }, { on := 4, ground := Go.Ground.chain }], guard := none } : Oper)) rfl (fun K hK => ?_) AllReadyH.nil)
            go_simp
            go_at_call 15
            refine (HO3.out _).mono ?_
            rintro e' U235 ⟨rfl, hbm⟩
            have HM236 := Lib.hid (HM234.out.to hbm)
            refine hK.out _ _ HM236.out.below (fun _ => ?_)
            clear hK K hbm
            try simp only [Act.put, List.setIfInBounds_toArray, List.set_cons_zero, List.set_cons_succ]
            refine wpAnyH_ready (rs := [9]) (by kernel_rfl) (by simp) ?_
            refine (AllReadyH.cons (o := ({ dst := some 34, op := Go.Op.call { callee := Go.Callee.value (Go.Operand.func 15), args := #[Go.Operand.tmp 30, Go.Operand.tmp 33], argTypes := #[32, 32] }, type := 32, pos := "law.go:111", after := #[{ on := 5, ground := Go.Ground.data }, { on := 8, ground := Go.Ground.data }, { on := 8, ground := Go.Ground.chain }], guard := none } : Oper)) rfl (fun K hK => ?_) AllReadyH.nil)
            go_simp
            go_at_call 15
            refine (HO4.out _).mono ?_
            rintro e' U237 ⟨rfl, hbm⟩
            have HM238 := Lib.hid (HM236.out.to hbm)
            refine hK.out _ _ HM238.out.below (fun _ => ?_)
            clear hK K hbm
            try simp only [Act.put, List.setIfInBounds_toArray, List.set_cons_zero, List.set_cons_succ]
            refine wpAnyH_ready (rs := [12]) (by kernel_rfl) (by simp) ?_
            refine (AllReadyH.cons (o := ({ dst := none, op := Go.Op.store 32 (Go.Operand.tmp 10) (Go.Operand.tmp 29), type := 0, pos := "law.go:111", after := #[{ on := 10, ground := Go.Ground.data }, { on := 4, ground := Go.Ground.data }, { on := 9, ground := Go.Ground.chain }, { on := 0, ground := Go.Ground.phase }, { on := 1, ground := Go.Ground.phase }, { on := 2, ground := Go.Ground.phase }, { on := 3, ground := Go.Ground.phase }, { on := 4, ground := Go.Ground.phase }, { on := 5, ground := Go.Ground.textOnly Go.Departure.lateStores }, { on := 6, ground := Go.Ground.textOnly Go.Departure.lateStores }, { on := 7, ground := Go.Ground.textOnly Go.Departure.lateStores }, { on := 8, ground := Go.Ground.textOnly Go.Departure.lateStoresUnsure }, { on := 9, ground := Go.Ground.textOnly Go.Departure.lateStoresUnsure }, { on := 10, ground := Go.Ground.phase }, { on := 11, ground := Go.Ground.phase }], guard := none } : Oper)) rfl (fun K hK => ?_) AllReadyH.nil)
            refine step_store_tr rfl 32 (.tmp 10) (.tmp 29) rfl gA zO.cells P 32 (HM238.out.a _ rfl).1 rfl rfl HSP.out HZP.out H1P.out (fun U239 hg4 hw4 hs4 => ?_)
            have HM240 := Lib.hid (HM238.out.one hg4.out hw4.out)
            clear hg4 hw4 hs4
            refine hK.out _ _ HM240.out.below (fun _ => ?_)
            clear hK K
            try simp only [Act.put]
            refine wpAnyH_ready (rs := [13]) (by kernel_rfl) (by simp) ?_
            refine (AllReadyH.cons (o := ({ dst := none, op := Go.Op.store 32 (Go.Operand.tmp 11) (Go.Operand.tmp 34), type := 0, pos := "law.go:111", after := #[{ on := 11, ground := Go.Ground.data }, { on := 9, ground := Go.Ground.data }, { on := 12, ground := Go.Ground.chain }, { on := 0, ground := Go.Ground.phase }, { on := 1, ground := Go.Ground.phase }, { on := 2, ground := Go.Ground.phase }, { on := 3, ground := Go.Ground.phase }, { on := 4, ground := Go.Ground.phase }, { on := 5, ground := Go.Ground.phase }, { on := 6, ground := Go.Ground.phase }, { on := 7, ground := Go.Ground.phase }, { on := 8, ground := Go.Ground.phase }, { on := 9, ground := Go.Ground.phase }, { on := 10, ground := Go.Ground.phase }, { on := 11, ground := Go.Ground.phase }, { on := 12, ground := Go.Ground.phase }], guard := none } : Oper)) rfl (fun K hK => ?_) AllReadyH.nil)
            refine step_store_tr rfl 32 (.tmp 11) (.tmp 34) rfl gB zO.cells P 32 HM240.out.b rfl rfl HSP.out HZP.out H1P.out (fun U241 hg4 hw4 hs4 => ?_)
            have HM242 := Lib.hid (HM240.out.fin hg4.out hw4.out)
            clear hg4 hw4 hs4
            refine hK.out _ _ HM242.out.below (fun _ => ?_)
            clear hK K
            try simp only [Act.put]
            refine wpAnyH_done (by kernel_rfl) ?_ _
            try (go_wp2_with fail)
            go_meet
            case rel => exact ⟨_, _, rfl, rfl, HM242⟩
        · rw [if_pos (by kernel_rfl)]
          go_simp
          have HM244 := Lib.hid (HM212.out.withB)
          refine hK.out _ _ HM244.out.below (fun _ => ?_)
          clear hK K
          generalize hU : U211.alloc (.cells zO.cells 32) = U243 at HM244
          rw [show U211.alloc (.cells #[.int .i64 0, .int .i64 0, .int .i64 0, .slice none 0 0] 32) = U243 from hU]
          clear hU
          generalize U211.heap.size = gB at HM244 ⊢
          try simp only [Act.put, List.setIfInBounds_toArray, List.set_cons_zero, List.set_cons_succ]
          refine wpAnyH_ready (rs := [4]) (by kernel_rfl) (by simp) ?_
          refine (AllReadyH.cons (o := ({ dst := some 29, op := Go.Op.call { callee := Go.Callee.value (Go.Operand.func 15), args := #[Go.Operand.tmp 27, Go.Operand.tmp 28], argTypes := #[32, 32] }, type := 32, pos := "law.go:111", after := #[{ on := 2, ground := Go.Ground.data }, { on := 3, ground := Go.Ground.data }, { on := 2, ground := Go.Ground.chain }], guard := none } : Oper)) rfl (fun K hK => ?_) AllReadyH.nil)
          go_simp
          go_at_call 15
          refine (HO2.out _).mono ?_
          rintro e' U245 ⟨rfl, hbm⟩
          have HM246 := Lib.hid (HM244.out.to hbm)
          refine hK.out _ _ HM246.out.below (fun _ => ?_)
          clear hK K hbm
          try simp only [Act.put, List.setIfInBounds_toArray, List.set_cons_zero, List.set_cons_succ]
          refine wpAnyH_ready (rs := [8]) (by kernel_rfl) (by simp) ?_
          refine (AllReadyH.cons (o := ({ dst := some 33, op := Go.Op.call { callee := Go.Callee.value (Go.Operand.func 15), args := #[Go.Operand.tmp 31, Go.Operand.tmp 32], argTypes := #[32, 32] }, type := 32, pos := "law.go:111", after := #[{ on := 6, ground := Go.Ground.data }, { on := 7, ground := Go.Ground.data }, { on := 4, ground := Go.Ground.chain }], guard := none } : Oper)) rfl (fun K hK => ?_) AllReadyH.nil)
          go_simp
          go_at_call 15
          refine (HO3.out _).mono ?_
          rintro e' U247 ⟨rfl, hbm⟩
          have HM248 := Lib.hid (HM246.out.to hbm)
          refine hK.out _ _ HM248.out.below (fun _ => ?_)
          clear hK K hbm
          try simp only [Act.put, List.setIfInBounds_toArray, List.set_cons_zero, List.set_cons_succ]
          refine wpAnyH_ready (rs := [9]) (by kernel_rfl) (by simp) ?_
          refine (AllReadyH.cons (o := ({ dst := some 34, op := Go.Op.call { callee := Go.Callee.value (Go.Operand.func 15), args := #[Go.Operand.tmp 30, Go.Operand.tmp 33], argTypes := #[32, 32] }, type := 32, pos := "law.go:111", after := #[{ on := 5, ground := Go.Ground.data }, { on := 8, ground := Go.Ground.data }, { on := 8, ground := Go.Ground.chain }], guard := none } : Oper)) rfl (fun K hK => ?_) AllReadyH.nil)
          go_simp
          go_at_call 15
          refine (HO4.out _).mono ?_
          rintro e' U249 ⟨rfl, hbm⟩
          have HM250 := Lib.hid (HM248.out.to hbm)
          refine hK.out _ _ HM250.out.below (fun _ => ?_)
          clear hK K hbm
          try simp only [Act.put, List.setIfInBounds_toArray, List.set_cons_zero, List.set_cons_succ]
          refine wpAnyH_ready (rs := [12]) (by kernel_rfl) (by simp) ?_
          refine (AllReadyH.cons (o := ({ dst := none, op := Go.Op.store 32 (Go.Operand.tmp 10) (Go.Operand.tmp 29), type := 0, pos := "law.go:111", after := #[{ on := 10, ground := Go.Ground.data }, { on := 4, ground := Go.Ground.data }, { on := 9, ground := Go.Ground.chain }, { on := 0, ground := Go.Ground.phase }, { on := 1, ground := Go.Ground.phase }, { on := 2, ground := Go.Ground.phase }, { on := 3, ground := Go.Ground.phase }, { on := 4, ground := Go.Ground.phase }, { on := 5, ground := Go.Ground.textOnly Go.Departure.lateStores }, { on := 6, ground := Go.Ground.textOnly Go.Departure.lateStores }, { on := 7, ground := Go.Ground.textOnly Go.Departure.lateStores }, { on := 8, ground := Go.Ground.textOnly Go.Departure.lateStoresUnsure }, { on := 9, ground := Go.Ground.textOnly Go.Departure.lateStoresUnsure }, { on := 10, ground := Go.Ground.phase }, { on := 11, ground := Go.Ground.phase }], guard := none } : Oper)) rfl (fun K hK => ?_) AllReadyH.nil)
          refine step_store_tr rfl 32 (.tmp 10) (.tmp 29) rfl gA zO.cells P 32 (HM250.out.a _ rfl).1 rfl rfl HSP.out HZP.out H1P.out (fun U251 hg4 hw4 hs4 => ?_)
          have HM252 := Lib.hid (HM250.out.one hg4.out hw4.out)
          clear hg4 hw4 hs4
          refine hK.out _ _ HM252.out.below (fun _ => ?_)
          clear hK K
          try simp only [Act.put]
          refine wpAnyH_ready (rs := [13]) (by kernel_rfl) (by simp) ?_
          refine (AllReadyH.cons (o := ({ dst := none, op := Go.Op.store 32 (Go.Operand.tmp 11) (Go.Operand.tmp 34), type := 0, pos := "law.go:111", after := #[{ on := 11, ground := Go.Ground.data }, { on := 9, ground := Go.Ground.data }, { on := 12, ground := Go.Ground.chain }, { on := 0, ground := Go.Ground.phase }, { on := 1, ground := Go.Ground.phase }, { on := 2, ground := Go.Ground.phase }, { on := 3, ground := Go.Ground.phase }, { on := 4, ground := Go.Ground.phase }, { on := 5, ground := Go.Ground.phase }, { on := 6, ground := Go.Ground.phase }, { on := 7, ground := Go.Ground.phase }, { on := 8, ground := Go.Ground.phase }, { on := 9, ground := Go.Ground.phase }, { on := 10, ground := Go.Ground.phase }, { on := 11, ground := Go.Ground.phase }, { on := 12, ground := Go.Ground.phase }], guard := none } : Oper)) rfl (fun K hK => ?_) AllReadyH.nil)
          refine step_store_tr rfl 32 (.tmp 11) (.tmp 34) rfl gB zO.cells P 32 HM252.out.b rfl rfl HSP.out HZP.out H1P.out (fun U253 hg4 hw4 hs4 => ?_)
          have HM254 := Lib.hid (HM252.out.fin hg4.out hw4.out)
          clear hg4 hw4 hs4
          refine hK.out _ _ HM254.out.below (fun _ => ?_)
          clear hK K
          try simp only [Act.put]
          refine wpAnyH_done (by kernel_rfl) ?_ _
          try (go_wp2_with fail)
          go_meet
          case rel => exact ⟨_, _, rfl, rfl, HM254⟩
      · rw [if_pos (by kernel_rfl)]
        go_simp
        have HM256 := Lib.hid (HM210.out.withB)
        refine hK.out _ _ HM256.out.below (fun _ => ?_)
        clear hK K
        generalize hU : U209.alloc (.cells zO.cells 32) = U255 at HM256
        rw [show U209.alloc (.cells #[.int .i64 0, .int .i64 0, .int .i64 0, .slice none 0 0] 32) = U255 from hU]
        clear hU
        generalize U209.heap.size = gB at HM256 ⊢
        try simp only [Act.put, List.setIfInBounds_toArray, List.set_cons_zero, List.set_cons_succ]
        refine wpAnyH_ready (rs := [2]) (by kernel_rfl) (by simp) ?_
        refine (AllReadyH.cons (o := ({ dst := some 27, op := Go.Op.call { callee := Go.Callee.value (Go.Operand.func 15), args := #[Go.Operand.tmp 25, Go.Operand.tmp 26], argTypes := #[32, 32] }, type := 32, pos := "law.go:111", after := #[{ on := 0, ground := Go.Ground.data }, { on := 1, ground := Go.Ground.data }], guard := none } : Oper)) rfl (fun K hK => ?_) AllReadyH.nil)
        go_simp
        go_at_call 15
        refine (HO1.out _).mono ?_
        rintro e' U257 ⟨rfl, hbm⟩
        have HM258 := Lib.hid (HM256.out.to hbm)
        refine hK.out _ _ HM258.out.below (fun _ => ?_)
        clear hK K hbm
        try simp only [Act.put, List.setIfInBounds_toArray, List.set_cons_zero, List.set_cons_succ]
        refine wpAnyH_ready (rs := [4]) (by kernel_rfl) (by simp) ?_
        refine (AllReadyH.cons (o := ({ dst := some 29, op := Go.Op.call { callee := Go.Callee.value (Go.Operand.func 15), args := #[Go.Operand.tmp 27, Go.Operand.tmp 28], argTypes := #[32, 32] }, type := 32, pos := "law.go:111", after := #[{ on := 2, ground := Go.Ground.data }, { on := 3, ground := Go.Ground.data }, { on := 2, ground := Go.Ground.chain }], guard := none } : Oper)) rfl (fun K hK => ?_) AllReadyH.nil)
        go_simp
        go_at_call 15
        refine (HO2.out _).mono ?_
        rintro e' U259 ⟨rfl, hbm⟩
        have HM260 := Lib.hid (HM258.out.to hbm)
        refine hK.out _ _ HM260.out.below (fun _ => ?_)
        clear hK K hbm
        try simp only [Act.put, List.setIfInBounds_toArray, List.set_cons_zero, List.set_cons_succ]
        refine wpAnyH_ready (rs := [8]) (by kernel_rfl) (by simp) ?_
        refine (AllReadyH.cons (o := ({ dst := some 33, op := Go.Op.call { callee := Go.Callee.value (Go.Operand.func 15), args := #[Go.Operand.tmp 31, Go.Operand.tmp 32], argTypes := #[32, 32] }, type := 32, pos := "law.go:111", after := #[{ on := 6, ground := Go.Ground.data }, { on := 7, ground := Go.Ground.data }, { on := 4, ground := Go.Ground.chain }], guard := none } : Oper)) rfl (fun K hK => ?_) AllReadyH.nil)
        go_simp
        go_at_call 15
        refine (HO3.out _).mono ?_
        rintro e' U261 ⟨rfl, hbm⟩
        have HM262 := Lib.hid (HM260.out.to hbm)
        refine hK.out _ _ HM262.out.below (fun _ => ?_)
        clear hK K hbm
        try simp only [Act.put, List.setIfInBounds_toArray, List.set_cons_zero, List.set_cons_succ]
        refine wpAnyH_ready (rs := [9]) (by kernel_rfl) (by simp) ?_
        refine (AllReadyH.cons (o := ({ dst := some 34, op := Go.Op.call { callee := Go.Callee.value (Go.Operand.func 15), args := #[Go.Operand.tmp 30, Go.Operand.tmp 33], argTypes := #[32, 32] }, type := 32, pos := "law.go:111", after := #[{ on := 5, ground := Go.Ground.data }, { on := 8, ground := Go.Ground.data }, { on := 8, ground := Go.Ground.chain }], guard := none } : Oper)) rfl (fun K hK => ?_) AllReadyH.nil)
        go_simp
        go_at_call 15
        refine (HO4.out _).mono ?_
        rintro e' U263 ⟨rfl, hbm⟩
        have HM264 := Lib.hid (HM262.out.to hbm)
        refine hK.out _ _ HM264.out.below (fun _ => ?_)
        clear hK K hbm
        try simp only [Act.put, List.setIfInBounds_toArray, List.set_cons_zero, List.set_cons_succ]
        refine wpAnyH_ready (rs := [12]) (by kernel_rfl) (by simp) ?_
        refine (AllReadyH.cons (o := ({ dst := none, op := Go.Op.store 32 (Go.Operand.tmp 10) (Go.Operand.tmp 29), type := 0, pos := "law.go:111", after := #[{ on := 10, ground := Go.Ground.data }, { on := 4, ground := Go.Ground.data }, { on := 9, ground := Go.Ground.chain }, { on := 0, ground := Go.Ground.phase }, { on := 1, ground := Go.Ground.phase }, { on := 2, ground := Go.Ground.phase }, { on := 3, ground := Go.Ground.phase }, { on := 4, ground := Go.Ground.phase }, { on := 5, ground := Go.Ground.textOnly Go.Departure.lateStores }, { on := 6, ground := Go.Ground.textOnly Go.Departure.lateStores }, { on := 7, ground := Go.Ground.textOnly Go.Departure.lateStores }, { on := 8, ground := Go.Ground.textOnly Go.Departure.lateStoresUnsure }, { on := 9, ground := Go.Ground.textOnly Go.Departure.lateStoresUnsure }, { on := 10, ground := Go.Ground.phase }, { on := 11, ground := Go.Ground.phase }], guard := none } : Oper)) rfl (fun K hK => ?_) AllReadyH.nil)
        refine step_store_tr rfl 32 (.tmp 10) (.tmp 29) rfl gA zO.cells P 32 (HM264.out.a _ rfl).1 rfl rfl HSP.out HZP.out H1P.out (fun U265 hg4 hw4 hs4 => ?_)
        have HM266 := Lib.hid (HM264.out.one hg4.out hw4.out)
        clear hg4 hw4 hs4
        refine hK.out _ _ HM266.out.below (fun _ => ?_)
        clear hK K
        try simp only [Act.put]
        refine wpAnyH_ready (rs := [13]) (by kernel_rfl) (by simp) ?_
        refine (AllReadyH.cons (o := ({ dst := none, op := Go.Op.store 32 (Go.Operand.tmp 11) (Go.Operand.tmp 34), type := 0, pos := "law.go:111", after := #[{ on := 11, ground := Go.Ground.data }, { on := 9, ground := Go.Ground.data }, { on := 12, ground := Go.Ground.chain }, { on := 0, ground := Go.Ground.phase }, { on := 1, ground := Go.Ground.phase }, { on := 2, ground := Go.Ground.phase }, { on := 3, ground := Go.Ground.phase }, { on := 4, ground := Go.Ground.phase }, { on := 5, ground := Go.Ground.phase }, { on := 6, ground := Go.Ground.phase }, { on := 7, ground := Go.Ground.phase }, { on := 8, ground := Go.Ground.phase }, { on := 9, ground := Go.Ground.phase }, { on := 10, ground := Go.Ground.phase }, { on := 11, ground := Go.Ground.phase }, { on := 12, ground := Go.Ground.phase }], guard := none } : Oper)) rfl (fun K hK => ?_) AllReadyH.nil)
        refine step_store_tr rfl 32 (.tmp 11) (.tmp 34) rfl gB zO.cells P 32 HM266.out.b rfl rfl HSP.out HZP.out H1P.out (fun U267 hg4 hw4 hs4 => ?_)
        have HM268 := Lib.hid (HM266.out.fin hg4.out hw4.out)
        clear hg4 hw4 hs4
        refine hK.out _ _ HM268.out.below (fun _ => ?_)
        clear hK K
        try simp only [Act.put]
        refine wpAnyH_done (by kernel_rfl) ?_ _
        try (go_wp2_with fail)
        go_meet
        case rel => exact ⟨_, _, rfl, rfl, HM268⟩
    · rw [if_pos (by kernel_rfl)]
      go_simp
      have HM270 := Lib.hid (HM0.out.withB)
      refine hK.out _ _ HM270.out.below (fun _ => ?_)
      clear hK K
      generalize hU : V0.alloc (.cells zO.cells 32) = U269 at HM270
      rw [show V0.alloc (.cells #[.int .i64 0, .int .i64 0, .int .i64 0, .slice none 0 0] 32) = U269 from hU]
      clear hU
      generalize V0.heap.size = gB at HM270 ⊢
      try simp only [Act.put, List.setIfInBounds_toArray, List.set_cons_zero, List.set_cons_succ]
      refine wpAnyH_ready (rs := [2, 10]) (by kernel_rfl) (by simp) ?_
      refine (AllReadyH.cons (o := ({ dst := some 27, op := Go.Op.call { callee := Go.Callee.value (Go.Operand.func 15), args := #[Go.Operand.tmp 25, Go.Operand.tmp 26], argTypes := #[32, 32] }, type := 32, pos := "law.go:111", after := #[{ on := 0, ground := Go.Ground.data }, { on := 1, ground := Go.Ground.data }], guard := none } : Oper)) rfl (fun K hK => ?_) (AllReadyH.cons (o := ({ dst := some 10, op := Go.Op.alloc 32, type := 0, pos := "law.go:111", after := #[], guard := none } : Oper)) rfl (fun K hK => ?_) AllReadyH.nil))
      · go_simp
        go_at_call 15
        refine (HO1.out _).mono ?_
        rintro e' U271 ⟨rfl, hbm⟩
        have HM272 := Lib.hid (HM270.out.to hbm)
        refine hK.out _ _ HM272.out.below (fun _ => ?_)
        clear hK K hbm
        try simp only [Act.put, List.setIfInBounds_toArray, List.set_cons_zero, List.set_cons_succ]
        refine wpAnyH_ready (rs := [4, 10]) (by kernel_rfl) (by simp) ?_
        refine (AllReadyH.cons (o := ({ dst := some 29, op := Go.Op.call { callee := Go.Callee.value (Go.Operand.func 15), args := #[Go.Operand.tmp 27, Go.Operand.tmp 28], argTypes := #[32, 32] }, type := 32, pos := "law.go:111", after := #[{ on := 2, ground := Go.Ground.data }, { on := 3, ground := Go.Ground.data }, { on := 2, ground := Go.Ground.chain }], guard := none } : Oper)) rfl (fun K hK => ?_) (AllReadyH.cons (o := ({ dst := some 10, op := Go.Op.alloc 32, type := 0, pos := "law.go:111", after := #[], guard := none } : Oper)) rfl (fun K hK => ?_) AllReadyH.nil))
        · go_simp
          go_at_call 15
          refine (HO2.out _).mono ?_
          rintro e' U273 ⟨rfl, hbm⟩
          have HM274 := Lib.hid (HM272.out.to hbm)
          refine hK.out _ _ HM274.out.below (fun _ => ?_)
          clear hK K hbm
          try simp only [Act.put, List.setIfInBounds_toArray, List.set_cons_zero, List.set_cons_succ]
          refine wpAnyH_ready (rs := [8, 10]) (by kernel_rfl) (by simp) ?_
          refine (AllReadyH.cons (o := ({ dst := some 33, op := Go.Op.call { callee := Go.Callee.value (Go.Operand.func 15), args := #[Go.Operand.tmp 31, Go.Operand.tmp 32], argTypes := #[32, 32] }, type := 32, pos := "law.go:111", after := #[{ on := 6, ground := Go.Ground.data }, { on := 7, ground := Go.Ground.data }, { on := 4, ground := Go.Ground.chain }], guard := none } : Oper)) rfl (fun K hK => ?_) (AllReadyH.cons (o := ({ dst := some 10, op := Go.Op.alloc 32, type := 0, pos := "law.go:111", after := #[], guard := none } : Oper)) rfl (fun K hK => ?_) AllReadyH.nil))
          · go_simp
            go_at_call 15
            refine (HO3.out _).mono ?_
            rintro e' U275 ⟨rfl, hbm⟩
            have HM276 := Lib.hid (HM274.out.to hbm)
            refine hK.out _ _ HM276.out.below (fun _ => ?_)
            clear hK K hbm
            try simp only [Act.put, List.setIfInBounds_toArray, List.set_cons_zero, List.set_cons_succ]
            refine wpAnyH_ready (rs := [9, 10]) (by kernel_rfl) (by simp) ?_
            refine (AllReadyH.cons (o := ({ dst := some 34, op := Go.Op.call { callee := Go.Callee.value (Go.Operand.func 15), args := #[Go.Operand.tmp 30, Go.Operand.tmp 33], argTypes := #[32, 32] }, type := 32, pos := "law.go:111", after := #[{ on := 5, ground := Go.Ground.data }, { on := 8, ground := Go.Ground.data }, { on := 8, ground := Go.Ground.chain }], guard := none } : Oper)) rfl (fun K hK => ?_) (AllReadyH.cons (o := ({ dst := some 10, op := Go.Op.alloc 32, type := 0, pos := "law.go:111", after := #[], guard := none } : Oper)) rfl (fun K hK => ?_) AllReadyH.nil))
            · go_simp
              go_at_call 15
              refine (HO4.out _).mono ?_
              rintro e' U277 ⟨rfl, hbm⟩
              have HM278 := Lib.hid (HM276.out.to hbm)
              refine hK.out _ _ HM278.out.below (fun _ => ?_)
              clear hK K hbm
              try simp only [Act.put, List.setIfInBounds_toArray, List.set_cons_zero, List.set_cons_succ]
              refine wpAnyH_ready (rs := [10]) (by kernel_rfl) (by simp) ?_
              refine (AllReadyH.cons (o := ({ dst := some 10, op := Go.Op.alloc 32, type := 0, pos := "law.go:111", after := #[], guard := none } : Oper)) rfl (fun K hK => ?_) AllReadyH.nil)
              rw [if_pos (by kernel_rfl)]
              go_simp
              have HM280 := Lib.hid (HM278.out.withA)
              refine hK.out _ _ HM280.out.below (fun _ => ?_)
              clear hK K
              generalize hU : U277.alloc (.cells zO.cells 32) = U279 at HM280
              rw [show U277.alloc (.cells #[.int .i64 0, .int .i64 0, .int .i64 0, .slice none 0 0] 32) = U279 from hU]
              clear hU
              generalize U277.heap.size = gA at HM280 ⊢
              try simp only [Act.put, List.setIfInBounds_toArray, List.set_cons_zero, List.set_cons_succ]
              refine wpAnyH_ready (rs := [12]) (by kernel_rfl) (by simp) ?_
              refine (AllReadyH.cons (o := ({ dst := none, op := Go.Op.store 32 (Go.Operand.tmp 10) (Go.Operand.tmp 29), type := 0, pos := "law.go:111", after := #[{ on := 10, ground := Go.Ground.data }, { on := 4, ground := Go.Ground.data }, { on := 9, ground := Go.Ground.chain }, { on := 0, ground := Go.Ground.phase }, { on := 1, ground := Go.Ground.phase }, { on := 2, ground := Go.Ground.phase }, { on := 3, ground := Go.Ground.phase }, { on := 4, ground := Go.Ground.phase }, { on := 5, ground := Go.Ground.textOnly Go.Departure.lateStores }, { on := 6, ground := Go.Ground.textOnly Go.Departure.lateStores }, { on := 7, ground := Go.Ground.textOnly Go.Departure.lateStores }, { on := 8, ground := Go.Ground.textOnly Go.Departure.lateStoresUnsure }, { on := 9, ground := Go.Ground.textOnly Go.Departure.lateStoresUnsure }, { on := 10, ground := Go.Ground.phase }, { on := 11, ground := Go.Ground.phase }], guard := none } : Oper)) rfl (fun K hK => ?_) AllReadyH.nil)
              refine step_store_tr rfl 32 (.tmp 10) (.tmp 29) rfl gA zO.cells P 32 (HM280.out.a _ rfl).1 rfl rfl HSP.out HZP.out H1P.out (fun U281 hg4 hw4 hs4 => ?_)
              have HM282 := Lib.hid (HM280.out.one hg4.out hw4.out)
              clear hg4 hw4 hs4
              refine hK.out _ _ HM282.out.below (fun _ => ?_)
              clear hK K
              try simp only [Act.put]
              refine wpAnyH_ready (rs := [13]) (by kernel_rfl) (by simp) ?_
              refine (AllReadyH.cons (o := ({ dst := none, op := Go.Op.store 32 (Go.Operand.tmp 11) (Go.Operand.tmp 34), type := 0, pos := "law.go:111", after := #[{ on := 11, ground := Go.Ground.data }, { on := 9, ground := Go.Ground.data }, { on := 12, ground := Go.Ground.chain }, { on := 0, ground := Go.Ground.phase }, { on := 1, ground := Go.Ground.phase }, { on := 2, ground := Go.Ground.phase }, { on := 3, ground := Go.Ground.phase }, { on := 4, ground := Go.Ground.phase }, { on := 5, ground := Go.Ground.phase }, { on := 6, ground := Go.Ground.phase }, { on := 7, ground := Go.Ground.phase }, { on := 8, ground := Go.Ground.phase }, { on := 9, ground := Go.Ground.phase }, { on := 10, ground := Go.Ground.phase }, { on := 11, ground := Go.Ground.phase }, { on := 12, ground := Go.Ground.phase }], guard := none } : Oper)) rfl (fun K hK => ?_) AllReadyH.nil)
              refine step_store_tr rfl 32 (.tmp 11) (.tmp 34) rfl gB zO.cells P 32 HM282.out.b rfl rfl HSP.out HZP.out H1P.out (fun U283 hg4 hw4 hs4 => ?_)
              have HM284 := Lib.hid (HM282.out.fin hg4.out hw4.out)
              clear hg4 hw4 hs4
              refine hK.out _ _ HM284.out.below (fun _ => ?_)
              clear hK K
              try simp only [Act.put]
              refine wpAnyH_done (by kernel_rfl) ?_ _
              try (go_wp2_with fail)
              go_meet
              case rel => exact ⟨_, _, rfl, rfl, HM284⟩
            · rw [if_pos (by kernel_rfl)]
              go_simp
              have HM286 := Lib.hid (HM276.out.withA)
              refine hK.out _ _ HM286.out.below (fun _ => ?_)
              clear hK K
              generalize hU : U275.alloc (.cells zO.cells 32) = U285 at HM286
              rw [show U275.alloc (.cells #[.int .i64 0, .int .i64 0, .int .i64 0, .slice none 0 0] 32) = U285 from hU]
              clear hU
              generalize U275.heap.size = gA at HM286 ⊢
              try simp only [Act.put, List.setIfInBounds_toArray, List.set_cons_zero, List.set_cons_succ]
              refine wpAnyH_ready (rs := [9]) (by kernel_rfl) (by simp) ?_
              refine (AllReadyH.cons (o := ({ dst := some 34, op := Go.Op.call { callee := Go.Callee.value (Go.Operand.func 15), args := #[Go.Operand.tmp 30, Go.Operand.tmp 33], argTypes := #[32, 32] }, type := 32, pos := "law.go:111", after := #[{ on := 5, ground := Go.Ground.data }, { on := 8, ground := Go.Ground.data }, { on := 8, ground := Go.Ground.chain }], guard := none } : Oper)) rfl (fun K hK => ?_) AllReadyH.nil)
              go_simp
              go_at_call 15
              refine (HO4.out _).mono ?_
              rintro e' U287 ⟨rfl, hbm⟩
              have HM288 := Lib.hid (HM286.out.to hbm)
              refine hK.out _ _ HM288.out.below (fun _ => ?_)
              clear hK K hbm
              try simp only [Act.put, List.setIfInBounds_toArray, List.set_cons_zero, List.set_cons_succ]
              refine wpAnyH_ready (rs := [12]) (by kernel_rfl) (by simp) ?_
              refine (AllReadyH.cons (o := ({ dst := none, op := Go.Op.store 32 (Go.Operand.tmp 10) (Go.Operand.tmp 29), type := 0, pos := "law.go:111", after := #[{ on := 10, ground := Go.Ground.data }, { on := 4, ground := Go.Ground.data }, { on := 9, ground := Go.Ground.chain }, { on := 0, ground := Go.Ground.phase }, { on := 1, ground := Go.Ground.phase }, { on := 2, ground := Go.Ground.phase }, { on := 3, ground := Go.Ground.phase }, { on := 4, ground := Go.Ground.phase }, { on := 5, ground := Go.Ground.textOnly Go.Departure.lateStores }, { on := 6, ground := Go.Ground.textOnly Go.Departure.lateStores }, { on := 7, ground := Go.Ground.textOnly Go.Departure.lateStores }, { on := 8, ground := Go.Ground.textOnly Go.Departure.lateStoresUnsure }, { on := 9, ground := Go.Ground.textOnly Go.Departure.lateStoresUnsure }, { on := 10, ground := Go.Ground.phase }, { on := 11, ground := Go.Ground.phase }], guard := none } : Oper)) rfl (fun K hK => ?_) AllReadyH.nil)
              refine step_store_tr rfl 32 (.tmp 10) (.tmp 29) rfl gA zO.cells P 32 (HM288.out.a _ rfl).1 rfl rfl HSP.out HZP.out H1P.out (fun U289 hg4 hw4 hs4 => ?_)
              have HM290 := Lib.hid (HM288.out.one hg4.out hw4.out)
              clear hg4 hw4 hs4
              refine hK.out _ _ HM290.out.below (fun _ => ?_)
              clear hK K
              try simp only [Act.put]
              refine wpAnyH_ready (rs := [13]) (by kernel_rfl) (by simp) ?_
              refine (AllReadyH.cons (o := ({ dst := none, op := Go.Op.store 32 (Go.Operand.tmp 11) (Go.Operand.tmp 34), type := 0, pos := "law.go:111", after := #[{ on := 11, ground := Go.Ground.data }, { on := 9, ground := Go.Ground.data }, { on := 12, ground := Go.Ground.chain }, { on := 0, ground := Go.Ground.phase }, { on := 1, ground := Go.Ground.phase }, { on := 2, ground := Go.Ground.phase }, { on := 3, ground := Go.Ground.phase }, { on := 4, ground := Go.Ground.phase }, { on := 5, ground := Go.Ground.phase }, { on := 6, ground := Go.Ground.phase }, { on := 7, ground := Go.Ground.phase }, { on := 8, ground := Go.Ground.phase }, { on := 9, ground := Go.Ground.phase }, { on := 10, ground := Go.Ground.phase }, { on := 11, ground := Go.Ground.phase }, { on := 12, ground := Go.Ground.phase }], guard := none } : Oper)) rfl (fun K hK => ?_) AllReadyH.nil)
              refine step_store_tr rfl 32 (.tmp 11) (.tmp 34) rfl gB zO.cells P 32 HM290.out.b rfl rfl HSP.out HZP.out H1P.out (fun U291 hg4 hw4 hs4 => ?_)
              have HM292 := Lib.hid (HM290.out.fin hg4.out hw4.out)
              clear hg4 hw4 hs4
              refine hK.out _ _ HM292.out.below (fun _ => ?_)
              clear hK K
              try simp only [Act.put]
              refine wpAnyH_done (by kernel_rfl) ?_ _
              try (go_wp2_with fail)
              go_meet
              case rel => exact ⟨_, _, rfl, rfl, HM292⟩
          · rw [if_pos (by kernel_rfl)]
            go_simp
            have HM294 := Lib.hid (HM274.out.withA)
            refine hK.out _ _ HM294.out.below (fun _ => ?_)
            clear hK K
            generalize hU : U273.alloc (.cells zO.cells 32) = U293 at HM294
            rw [show U273.alloc (.cells #[.int .i64 0, .int .i64 0, .int .i64 0, .slice none 0 0] 32) = U293 from hU]
            clear hU
            generalize U273.heap.size = gA at HM294 ⊢
            try simp only [Act.put, List.setIfInBounds_toArray, List.set_cons_zero, List.set_cons_succ]
            refine wpAnyH_ready (rs := [8]) (by kernel_rfl) (by simp) ?_
            refine (AllReadyH.cons (o := ({ dst := some 33, op := Go.Op.call { callee := Go.Callee.value (Go.Operand.func 15), args := #[Go.Operand.tmp 31, Go.Operand.tmp 32], argTypes := #[32, 32] }, type := 32, pos := "law.go:111", after := #[{ on := 6, ground := Go.Ground.data }, { on := 7, ground := Go.Ground.data }, { on := 4, ground := Go.Ground.chain }], guard := none } : Oper)) rfl (fun K hK => ?_) AllReadyH.nil)
            go_simp
            go_at_call 15
            refine (HO3.out _).mono ?_
            rintro e' U295 ⟨rfl, hbm⟩
            have HM296 := Lib.hid (HM294.out.to hbm)
            refine hK.out _ _ HM296.out.below (fun _ => ?_)
            clear hK K hbm
            try simp only [Act.put, List.setIfInBounds_toArray, List.set_cons_zero, List.set_cons_succ]
            refine wpAnyH_ready (rs := [9]) (by kernel_rfl) (by simp) ?_
            refine (AllReadyH.cons (o := ({ dst := some 34, op := Go.Op.call { callee := Go.Callee.value (Go.Operand.func 15), args := #[Go.Operand.tmp 30, Go.Operand.tmp 33], argTypes := #[32, 32] }, type := 32, pos := "law.go:111", after := #[{ on := 5, ground := Go.Ground.data }, { on := 8, ground := Go.Ground.data }, { on := 8, ground := Go.Ground.chain }], guard := none } : Oper)) rfl (fun K hK => ?_) AllReadyH.nil)
            go_simp
            go_at_call 15
            refine (HO4.out _).mono ?_
            rintro e' U297 ⟨rfl, hbm⟩
            have HM298 := Lib.hid (HM296.out.to hbm)
            refine hK.out _ _ HM298.out.below (fun _ => ?_)
            clear hK K hbm
            try simp only [Act.put, List.setIfInBounds_toArray, List.set_cons_zero, List.set_cons_succ]
            refine wpAnyH_ready (rs := [12]) (by kernel_rfl) (by simp) ?_
            refine (AllReadyH.cons (o := ({ dst := none, op := Go.Op.store 32 (Go.Operand.tmp 10) (Go.Operand.tmp 29), type := 0, pos := "law.go:111", after := #[{ on := 10, ground := Go.Ground.data }, { on := 4, ground := Go.Ground.data }, { on := 9, ground := Go.Ground.chain }, { on := 0, ground := Go.Ground.phase }, { on := 1, ground := Go.Ground.phase }, { on := 2, ground := Go.Ground.phase }, { on := 3, ground := Go.Ground.phase }, { on := 4, ground := Go.Ground.phase }, { on := 5, ground := Go.Ground.textOnly Go.Departure.lateStores }, { on := 6, ground := Go.Ground.textOnly Go.Departure.lateStores }, { on := 7, ground := Go.Ground.textOnly Go.Departure.lateStores }, { on := 8, ground := Go.Ground.textOnly Go.Departure.lateStoresUnsure }, { on := 9, ground := Go.Ground.textOnly Go.Departure.lateStoresUnsure }, { on := 10, ground := Go.Ground.phase }, { on := 11, ground := Go.Ground.phase }], guard := none } : Oper)) rfl (fun K hK => ?_) AllReadyH.nil)
            refine step_store_tr rfl 32 (.tmp 10) (.tmp 29) rfl gA zO.cells P 32 (HM298.out.a _ rfl).1 rfl rfl HSP.out HZP.out H1P.out (fun U299 hg4 hw4 hs4 => ?_)
            have HM300 := Lib.hid (HM298.out.one hg4.out hw4.out)
            clear hg4 hw4 hs4
            refine hK.out _ _ HM300.out.below (fun _ => ?_)
            clear hK K
            try simp only [Act.put]
            refine wpAnyH_ready (rs := [13]) (by kernel_rfl) (by simp) ?_
            refine (AllReadyH.cons (o := ({ dst := none, op := Go.Op.store 32 (Go.Operand.tmp 11) (Go.Operand.tmp 34), type := 0, pos := "law.go:111", after := #[{ on := 11, ground := Go.Ground.data }, { on := 9, ground := Go.Ground.data }, { on := 12, ground := Go.Ground.chain }, { on := 0, ground := Go.Ground.phase }, { on := 1, ground := Go.Ground.phase }, { on := 2, ground := Go.Ground.phase }, { on := 3, ground := Go.Ground.phase }, { on := 4, ground := Go.Ground.phase }, { on := 5, ground := Go.Ground.phase }, { on := 6, ground := Go.Ground.phase }, { on := 7, ground := Go.Ground.phase }, { on := 8, ground := Go.Ground.phase }, { on := 9, ground := Go.Ground.phase }, { on := 10, ground := Go.Ground.phase }, { on := 11, ground := Go.Ground.phase }, { on := 12, ground := Go.Ground.phase }], guard := none } : Oper)) rfl (fun K hK => ?_) AllReadyH.nil)
            refine step_store_tr rfl 32 (.tmp 11) (.tmp 34) rfl gB zO.cells P 32 HM300.out.b rfl rfl HSP.out HZP.out H1P.out (fun U301 hg4 hw4 hs4 => ?_)
            have HM302 := Lib.hid (HM300.out.fin hg4.out hw4.out)
            clear hg4 hw4 hs4
            refine hK.out _ _ HM302.out.below (fun _ => ?_)
            clear hK K
            try simp only [Act.put]
            refine wpAnyH_done (by kernel_rfl) ?_ _
            try (go_wp2_with fail)
            go_meet
            case rel => exact ⟨_, _, rfl, rfl, HM302⟩
        · rw [if_pos (by kernel_rfl)]
          go_simp
          have HM304 := Lib.hid (HM272.out.withA)
          refine hK.out _ _ HM304.out.below (fun _ => ?_)
          clear hK K
          generalize hU : U271.alloc (.cells zO.cells 32) = U303 at HM304
          rw [show U271.alloc (.cells #[.int .i64 0, .int .i64 0, .int .i64 0, .slice none 0 0] 32) = U303 from hU]
          clear hU
          generalize U271.heap.size = gA at HM304 ⊢
          try simp only [Act.put, List.setIfInBounds_toArray, List.set_cons_zero, List.set_cons_succ]
          refine wpAnyH_ready (rs := [4]) (by kernel_rfl) (by simp) ?_
          refine (AllReadyH.cons (o := ({ dst := some 29, op := Go.Op.call { callee := Go.Callee.value (Go.Operand.func 15), args := #[Go.Operand.tmp 27, Go.Operand.tmp 28], argTypes := #[32, 32] }, type := 32, pos := "law.go:111", after := #[{ on := 2, ground := Go.Ground.data }, { on := 3, ground := Go.Ground.data }, { on := 2, ground := Go.Ground.chain }], guard := none } : Oper)) rfl (fun K hK => ?_) AllReadyH.nil)
          go_simp
          go_at_call 15
          refine (HO2.out _).mono ?_
          rintro e' U305 ⟨rfl, hbm⟩
          have HM306 := Lib.hid (HM304.out.to hbm)
          refine hK.out _ _ HM306.out.below (fun _ => ?_)
          clear hK K hbm
          try simp only [Act.put, List.setIfInBounds_toArray, List.set_cons_zero, List.set_cons_succ]
          refine wpAnyH_ready (rs := [8]) (by kernel_rfl) (by simp) ?_
          refine (AllReadyH.cons (o := ({ dst := some 33, op := Go.Op.call { callee := Go.Callee.value (Go.Operand.func 15), args := #[Go.Operand.tmp 31, Go.Operand.tmp 32], argTypes := #[32, 32] }, type := 32, pos := "law.go:111", after := #[{ on := 6, ground := Go.Ground.data }, { on := 7, ground := Go.Ground.data }, { on := 4, ground := Go.Ground.chain }], guard := none } : Oper)) rfl (fun K hK => ?_) AllReadyH.nil)
          go_simp
          go_at_call 15
          refine (HO3.out _).mono ?_
          rintro e' U307 ⟨rfl, hbm⟩
          have HM308 := Lib.hid (HM306.out.to hbm)
          refine hK.out _ _ HM308.out.below (fun _ => ?_)
          clear hK K hbm
          try simp only [Act.put, List.setIfInBounds_toArray, List.set_cons_zero, List.set_cons_succ]
          refine wpAnyH_ready (rs := [9]) (by kernel_rfl) (by simp) ?_
          refine (AllReadyH.cons (o := ({ dst := some 34, op := Go.Op.call { callee := Go.Callee.value (Go.Operand.func 15), args := #[Go.Operand.tmp 30, Go.Operand.tmp 33], argTypes := #[32, 32] }, type := 32, pos := "law.go:111", after := #[{ on := 5, ground := Go.Ground.data }, { on := 8, ground := Go.Ground.data }, { on := 8, ground := Go.Ground.chain }], guard := none } : Oper)) rfl (fun K hK => ?_) AllReadyH.nil)
          go_simp
          go_at_call 15
          refine (HO4.out _).mono ?_
          rintro e' U309 ⟨rfl, hbm⟩
          have HM310 := Lib.hid (HM308.out.to hbm)
          refine hK.out _ _ HM310.out.below (fun _ => ?_)
          clear hK K hbm
          try simp only [Act.put, List.setIfInBounds_toArray, List.set_cons_zero, List.set_cons_succ]
          refine wpAnyH_ready (rs := [12]) (by kernel_rfl) (by simp) ?_
          refine (AllReadyH.cons (o := ({ dst := none, op := Go.Op.store 32 (Go.Operand.tmp 10) (Go.Operand.tmp 29), type := 0, pos := "law.go:111", after := #[{ on := 10, ground := Go.Ground.data }, { on := 4, ground := Go.Ground.data }, { on := 9, ground := Go.Ground.chain }, { on := 0, ground := Go.Ground.phase }, { on := 1, ground := Go.Ground.phase }, { on := 2, ground := Go.Ground.phase }, { on := 3, ground := Go.Ground.phase }, { on := 4, ground := Go.Ground.phase }, { on := 5, ground := Go.Ground.textOnly Go.Departure.lateStores }, { on := 6, ground := Go.Ground.textOnly Go.Departure.lateStores }, { on := 7, ground := Go.Ground.textOnly Go.Departure.lateStores }, { on := 8, ground := Go.Ground.textOnly Go.Departure.lateStoresUnsure }, { on := 9, ground := Go.Ground.textOnly Go.Departure.lateStoresUnsure }, { on := 10, ground := Go.Ground.phase }, { on := 11, ground := Go.Ground.phase }], guard := none } : Oper)) rfl (fun K hK => ?_) AllReadyH.nil)
          refine step_store_tr rfl 32 (.tmp 10) (.tmp 29) rfl gA zO.cells P 32 (HM310.out.a _ rfl).1 rfl rfl HSP.out HZP.out H1P.out (fun U311 hg4 hw4 hs4 => ?_)
          have HM312 := Lib.hid (HM310.out.one hg4.out hw4.out)
          clear hg4 hw4 hs4
          refine hK.out _ _ HM312.out.below (fun _ => ?_)
          clear hK K
          try simp only [Act.put]
          refine wpAnyH_ready (rs := [13]) (by kernel_rfl) (by simp) ?_
          refine (AllReadyH.cons (o := ({ dst := none, op := Go.Op.store 32 (Go.Operand.tmp 11) (Go.Operand.tmp 34), type := 0, pos := "law.go:111", after := #[{ on := 11, ground := Go.Ground.data }, { on := 9, ground := Go.Ground.data }, { on := 12, ground := Go.Ground.chain }, { on := 0, ground := Go.Ground.phase }, { on := 1, ground := Go.Ground.phase }, { on := 2, ground := Go.Ground.phase }, { on := 3, ground := Go.Ground.phase }, { on := 4, ground := Go.Ground.phase }, { on := 5, ground := Go.Ground.phase }, { on := 6, ground := Go.Ground.phase }, { on := 7, ground := Go.Ground.phase }, { on := 8, ground := Go.Ground.phase }, { on := 9, ground := Go.Ground.phase }, { on := 10, ground := Go.Ground.phase }, { on := 11, ground := Go.Ground.phase }, { on := 12, ground := Go.Ground.phase }], guard := none } : Oper)) rfl (fun K hK => ?_) AllReadyH.nil)
          refine step_store_tr rfl 32 (.tmp 11) (.tmp 34) rfl gB zO.cells P 32 HM312.out.b rfl rfl HSP.out HZP.out H1P.out (fun U313 hg4 hw4 hs4 => ?_)
          have HM314 := Lib.hid (HM312.out.fin hg4.out hw4.out)
          clear hg4 hw4 hs4
          refine hK.out _ _ HM314.out.below (fun _ => ?_)
          clear hK K
          try simp only [Act.put]
          refine wpAnyH_done (by kernel_rfl) ?_ _
          try (go_wp2_with fail)
          go_meet
          case rel => exact ⟨_, _, rfl, rfl, HM314⟩
      · rw [if_pos (by kernel_rfl)]
        go_simp
        have HM316 := Lib.hid (HM270.out.withA)
        refine hK.out _ _ HM316.out.below (fun _ => ?_)
        clear hK K
        generalize hU : U269.alloc (.cells zO.cells 32) = U315 at HM316
        rw [show U269.alloc (.cells #[.int .i64 0, .int .i64 0, .int .i64 0, .slice none 0 0] 32) = U315 from hU]
        clear hU
        generalize U269.heap.size = gA at HM316 ⊢
        try simp only [Act.put, List.setIfInBounds_toArray, List.set_cons_zero, List.set_cons_succ]
        refine wpAnyH_ready (rs := [2]) (by kernel_rfl) (by simp) ?_
        refine (AllReadyH.cons (o := ({ dst := some 27, op := Go.Op.call { callee := Go.Callee.value (Go.Operand.func 15), args := #[Go.Operand.tmp 25, Go.Operand.tmp 26], argTypes := #[32, 32] }, type := 32, pos := "law.go:111", after := #[{ on := 0, ground := Go.Ground.data }, { on := 1, ground := Go.Ground.data }], guard := none } : Oper)) rfl (fun K hK => ?_) AllReadyH.nil)
        go_simp
        go_at_call 15
        refine (HO1.out _).mono ?_
        rintro e' U317 ⟨rfl, hbm⟩
        have HM318 := Lib.hid (HM316.out.to hbm)
        refine hK.out _ _ HM318.out.below (fun _ => ?_)
        clear hK K hbm
        try simp only [Act.put, List.setIfInBounds_toArray, List.set_cons_zero, List.set_cons_succ]
        refine wpAnyH_ready (rs := [4]) (by kernel_rfl) (by simp) ?_
        refine (AllReadyH.cons (o := ({ dst := some 29, op := Go.Op.call { callee := Go.Callee.value (Go.Operand.func 15), args := #[Go.Operand.tmp 27, Go.Operand.tmp 28], argTypes := #[32, 32] }, type := 32, pos := "law.go:111", after := #[{ on := 2, ground := Go.Ground.data }, { on := 3, ground := Go.Ground.data }, { on := 2, ground := Go.Ground.chain }], guard := none } : Oper)) rfl (fun K hK => ?_) AllReadyH.nil)
        go_simp
        go_at_call 15
        refine (HO2.out _).mono ?_
        rintro e' U319 ⟨rfl, hbm⟩
        have HM320 := Lib.hid (HM318.out.to hbm)
        refine hK.out _ _ HM320.out.below (fun _ => ?_)
        clear hK K hbm
        try simp only [Act.put, List.setIfInBounds_toArray, List.set_cons_zero, List.set_cons_succ]
        refine wpAnyH_ready (rs := [8]) (by kernel_rfl) (by simp) ?_
        refine (AllReadyH.cons (o := ({ dst := some 33, op := Go.Op.call { callee := Go.Callee.value (Go.Operand.func 15), args := #[Go.Operand.tmp 31, Go.Operand.tmp 32], argTypes := #[32, 32] }, type := 32, pos := "law.go:111", after := #[{ on := 6, ground := Go.Ground.data }, { on := 7, ground := Go.Ground.data }, { on := 4, ground := Go.Ground.chain }], guard := none } : Oper)) rfl (fun K hK => ?_) AllReadyH.nil)
        go_simp
        go_at_call 15
        refine (HO3.out _).mono ?_
        rintro e' U321 ⟨rfl, hbm⟩
        have HM322 := Lib.hid (HM320.out.to hbm)
        refine hK.out _ _ HM322.out.below (fun _ => ?_)
        clear hK K hbm
        try simp only [Act.put, List.setIfInBounds_toArray, List.set_cons_zero, List.set_cons_succ]
        refine wpAnyH_ready (rs := [9]) (by kernel_rfl) (by simp) ?_
        refine (AllReadyH.cons (o := ({ dst := some 34, op := Go.Op.call { callee := Go.Callee.value (Go.Operand.func 15), args := #[Go.Operand.tmp 30, Go.Operand.tmp 33], argTypes := #[32, 32] }, type := 32, pos := "law.go:111", after := #[{ on := 5, ground := Go.Ground.data }, { on := 8, ground := Go.Ground.data }, { on := 8, ground := Go.Ground.chain }], guard := none } : Oper)) rfl (fun K hK => ?_) AllReadyH.nil)
        go_simp
        go_at_call 15
        refine (HO4.out _).mono ?_
        rintro e' U323 ⟨rfl, hbm⟩
        have HM324 := Lib.hid (HM322.out.to hbm)
        refine hK.out _ _ HM324.out.below (fun _ => ?_)
        clear hK K hbm
        try simp only [Act.put, List.setIfInBounds_toArray, List.set_cons_zero, List.set_cons_succ]
        refine wpAnyH_ready (rs := [12]) (by kernel_rfl) (by simp) ?_
        refine (AllReadyH.cons (o := ({ dst := none, op := Go.Op.store 32 (Go.Operand.tmp 10) (Go.Operand.tmp 29), type := 0, pos := "law.go:111", after := #[{ on := 10, ground := Go.Ground.data }, { on := 4, ground := Go.Ground.data }, { on := 9, ground := Go.Ground.chain }, { on := 0, ground := Go.Ground.phase }, { on := 1, ground := Go.Ground.phase }, { on := 2, ground := Go.Ground.phase }, { on := 3, ground := Go.Ground.phase }, { on := 4, ground := Go.Ground.phase }, { on := 5, ground := Go.Ground.textOnly Go.Departure.lateStores }, { on := 6, ground := Go.Ground.textOnly Go.Departure.lateStores }, { on := 7, ground := Go.Ground.textOnly Go.Departure.lateStores }, { on := 8, ground := Go.Ground.textOnly Go.Departure.lateStoresUnsure }, { on := 9, ground := Go.Ground.textOnly Go.Departure.lateStoresUnsure }, { on := 10, ground := Go.Ground.phase }, { on := 11, ground := Go.Ground.phase }], guard := none } : Oper)) rfl (fun K hK => ?_) AllReadyH.nil)
        refine step_store_tr rfl 32 (.tmp 10) (.tmp 29) rfl gA zO.cells P 32 (HM324.out.a _ rfl).1 rfl rfl HSP.out HZP.out H1P.out (fun U325 hg4 hw4 hs4 => ?_)
        have HM326 := Lib.hid (HM324.out.one hg4.out hw4.out)
        clear hg4 hw4 hs4
        refine hK.out _ _ HM326.out.below (fun _ => ?_)
        clear hK K
        try simp only [Act.put]
        refine wpAnyH_ready (rs := [13]) (by kernel_rfl) (by simp) ?_
        refine (AllReadyH.cons (o := ({ dst := none, op := Go.Op.store 32 (Go.Operand.tmp 11) (Go.Operand.tmp 34), type := 0, pos := "law.go:111", after := #[{ on := 11, ground := Go.Ground.data }, { on := 9, ground := Go.Ground.data }, { on := 12, ground := Go.Ground.chain }, { on := 0, ground := Go.Ground.phase }, { on := 1, ground := Go.Ground.phase }, { on := 2, ground := Go.Ground.phase }, { on := 3, ground := Go.Ground.phase }, { on := 4, ground := Go.Ground.phase }, { on := 5, ground := Go.Ground.phase }, { on := 6, ground := Go.Ground.phase }, { on := 7, ground := Go.Ground.phase }, { on := 8, ground := Go.Ground.phase }, { on := 9, ground := Go.Ground.phase }, { on := 10, ground := Go.Ground.phase }, { on := 11, ground := Go.Ground.phase }, { on := 12, ground := Go.Ground.phase }], guard := none } : Oper)) rfl (fun K hK => ?_) AllReadyH.nil)
        refine step_store_tr rfl 32 (.tmp 11) (.tmp 34) rfl gB zO.cells P 32 HM326.out.b rfl rfl HSP.out HZP.out H1P.out (fun U327 hg4 hw4 hs4 => ?_)
        have HM328 := Lib.hid (HM326.out.fin hg4.out hw4.out)
        clear hg4 hw4 hs4
        refine hK.out _ _ HM328.out.below (fun _ => ?_)
        clear hK K
        try simp only [Act.put]
        refine wpAnyH_done (by kernel_rfl) ?_ _
        try (go_wp2_with fail)
        go_meet
        case rel => exact ⟨_, _, rfl, rfl, HM328⟩
  case rest =>
    obtain ⟨gA, gB, rfl, rfl, HFn⟩ := hcut
    clear HZP HO1 HO2 HO3 HO4 Rx Ry Rz HSx HSy HSz HSP H1P HM9
    generalize wc = W1 at HFn ⊢
    have HN7 := Lib.hid ((HFn.out.below.block _ (heap_lt HM7.out)).trans HM7.out)
    have HN8 := Lib.hid ((HFn.out.below.block _ (heap_lt HM8.out)).trans HM8.out)
    have HB5 := Lib.hid (HB4.out.trans (HFn.out.below.mono HB4.out.size))
    have HNA := Lib.hid HFn.out.f
    have HNB := Lib.hid HFn.out.s
    clear HM7 HM8 HB4 HFn
    have HSX := Lib.hid (sizeO (zKc 1 ka))
    have HSY := Lib.hid (sizeO (zKc 2 kb))
    have HSW := Lib.hid (sizeO (bothO (zKc 1 ka) (zKc 2 kb)))
    have H1W := Lib.hid (bothO (zKc 1 ka) (zKc 2 kb)).one
    have HZW : Hid (zO.cells.size = (bothO (zKc 1 ka) (zKc 2 kb)).cells.size) := Lib.hid rfl
    have HZO := Lib.hid zeroO
    have HX2 : Hid ((zKc 1 ka).cells[2]? = some (.int .i64 (ka : Nat))) := Lib.hid rfl
    have HY2 : Hid ((zKc 2 kb).cells[2]? = some (.int .i64 (kb : Nat))) := Lib.hid rfl
    have HW1 : Hid ((bothO (zKc 1 ka) (zKc 2 kb)).cells[1]? = some (.int .i64 (if wt (ka : Nat) < wt (kb : Nat) then 2 else 1))) := Lib.hid (by rw [HWx.out]; split <;> rfl)
    clear HWx
    generalize (bothO (zKc 1 ka) (zKc 2 kb)).cells = WC at HWc HSW H1W HZW HW1
    generalize (zKc 1 ka).cells = XC at HWc HSX HX2 HN7
    generalize (zKc 2 kb).cells = YC at HWc HSY HY2 HN8
    generalize zO.cells = Z at HZW HZO
    go_wp2_with (first
      | (refine wpList_load_row rfl 32 (.tmp 7) rfl B7 rfl 32 XC (0, 0) _ HN7.out Try.underlying32 rfl HSX.out ?_; go_simp)
      | (refine wpList_load_row rfl 32 (.tmp 8) rfl B8 rfl 32 YC (0, 0) _ HN8.out Try.underlying32 rfl HSY.out ?_; go_simp))
    refine (HWc.out _).mono ?_
    rintro e w2 ⟨rfl, hb2⟩
    have hb3 := hb2.alloc hb2.size (.cells WC 32)
    have HR7 := Lib.hid ((hb3.block _ (heap_lt HN7.out)).trans HN7.out)
    have HR8 := Lib.hid ((hb3.block _ (heap_lt HN8.out)).trans HN8.out)
    have HRA := Lib.hid ((hb3.block _ (heap_lt HNA.out)).trans HNA.out)
    have HRB := Lib.hid ((hb3.block _ (heap_lt HNB.out)).trans HNB.out)
    have HRC := Lib.hid (heap_alloc_last w2 (.cells WC 32))
    have HB6 := Lib.hid (HB5.out.trans (hb3.mono HB5.out.size))
    clear hb2 hb3 HN7 HN8 HNA HNB HB5 HWc
    go_upto_region 6 with (first
      | (refine wpList_alloc_z rfl 32 rfl Z HZO.out ?_; go_simp)
      | (refine wpList_store_new rfl 32 (.tmp 12) (.tmp 37) rfl w2.heap.size rfl Z WC 32 rfl rfl HSW.out HZW.out H1W.out ?_; go_simp))
    generalize w2.alloc (.cells WC 32) = W3 at HR7 HR8 HRA HRB HRC HB6 ⊢
    generalize w2.heap.size = gC at HRC ⊢
    have dA2 := (cell_of_row _ gA 2 _ _ _ HRA.out).trans HP2.out
    have dB2 := (cell_of_row _ gB 2 _ _ _ HRB.out).trans HP2.out
    have dA1 := (cell_of_row _ gA 1 _ _ _ HRA.out).trans HP1.out
    have dB1 := (cell_of_row _ gB 1 _ _ _ HRB.out).trans HP1.out
    generalize P0.k = pk at dA2 dB2
    generalize P0.c = pc at dA1 dB1
    go_upto_region 8 with fail
    clear dA2 dB2 dA1 dB1 HRA HRB
    have dX := (cell_of_row _ B7 2 _ _ _ HR7.out).trans HX2.out
    have dY := (cell_of_row _ B8 2 _ _ _ HR8.out).trans HY2.out
    have dW := (cell_of_row _ gC 1 _ _ _ HRC.out).trans HW1.out
    by_cases hA : ka = 1
    · have hAB : ((ka : Int) == 1) = true := by simp [hA]
      have hw : ¬ wt (ka : Nat) < wt (kb : Nat) := by
        rw [hA]
        obtain ⟨h1, h5⟩ := HIB.out
        rcases (show kb = 1 ∨ kb = 2 ∨ kb = 3 ∨ kb = 4 ∨ kb = 5 by omega) with rfl | rfl | rfl | rfl | rfl <;> decide
      rw [if_neg hw] at dW
      clear hA hw
      go_wp2_with fail
      go_ret
      exact ⟨rfl, HB6.out⟩
    have hAB : ((ka : Int) == 1) = false := by simp; omega
    by_cases hB : kb = 1
    · have hBB : ((kb : Int) == 1) = true := by simp [hB]
      have hw : wt (ka : Nat) < wt (kb : Nat) := by
        rw [hB]
        obtain ⟨h1, h5⟩ := HIA.out
        rcases (show ka = 2 ∨ ka = 3 ∨ ka = 4 ∨ ka = 5 by omega) with rfl | rfl | rfl | rfl <;> decide
      rw [if_pos hw] at dW
      clear hA hB hw
      go_wp2_with fail
      go_ret
      exact ⟨rfl, HB6.out⟩
    have hBB : ((kb : Int) == 1) = false := by simp; omega
    have HTA := Lib.hid (wt_tab ka (by have := HIA.out; omega) HIA.out.2)
    have HTB := Lib.hid (wt_tab kb (by have := HIB.out; omega) HIB.out.2)
    have hkaN : (ka : Int) < 6 := by omega
    have hkbN : (kb : Int) < 6 := by omega
    have hka0 : (0 : Int) ≤ (ka : Int) := by omega
    have hkb0 : (0 : Int) ≤ (kb : Int) := by omega
    clear hA hB
    go_upto_region 13 with fail
    have hb9 := (Below.refl _ W3).alloc (Nat.le_refl _) (.cells #[.int .i64 0, .int .i64 0, .int .i64 2, .int .i64 1, .int .i64 4, .int .i64 3] 3)
    have g9 := heap_alloc_last W3 (.cells #[.int .i64 0, .int .i64 0, .int .i64 2, .int .i64 1, .int .i64 4, .int .i64 3] 3)
    have HB9 := Lib.hid (HB6.out.trans (hb9.mono HB6.out.size))
    have HG9 := Lib.hid g9
    have HQ7 := Lib.hid ((hb9.block _ (heap_lt HR7.out)).trans HR7.out)
    have HQ8 := Lib.hid ((hb9.block _ (heap_lt HR8.out)).trans HR8.out)
    have HQC := Lib.hid ((hb9.block _ (heap_lt HRC.out)).trans HRC.out)
    clear hb9 g9 HB6 HR7 HR8 HRC dX dY dW
    generalize W3.alloc (.cells #[.int .i64 0, .int .i64 0, .int .i64 2, .int .i64 1, .int .i64 4, .int .i64 3] 3) = W4 at HB9 HG9 HQ7 HQ8 HQC ⊢
    generalize W3.heap.size = gW at HG9 ⊢
    have DX : Hid (∀ W : World, Below W4.heap.size W4 W → W.cell? ⟨B7, 2, none⟩ = some (.int .i64 (ka : Nat))) := Lib.hid (fun W hW => (hW.cell (p := ⟨B7, 2, none⟩) (heap_lt HQ7.out)).trans ((cell_of_row _ B7 2 _ _ _ HQ7.out).trans HX2.out))
    have DY : Hid (∀ W : World, Below W4.heap.size W4 W → W.cell? ⟨B8, 2, none⟩ = some (.int .i64 (kb : Nat))) := Lib.hid (fun W hW => (hW.cell (p := ⟨B8, 2, none⟩) (heap_lt HQ8.out)).trans ((cell_of_row _ B8 2 _ _ _ HQ8.out).trans HY2.out))
    have DA : Hid (∀ W : World, Below W4.heap.size W4 W → W.cell? ⟨gW, ka, none⟩ = some (.int .i64 (wt (ka : Nat)))) := Lib.hid (fun W hW => (hW.cell (p := ⟨gW, ka, none⟩) (heap_lt HG9.out)).trans ((cell_of_row _ gW ka _ _ _ HG9.out).trans HTA.out))
    have DB : Hid (∀ W : World, Below W4.heap.size W4 W → W.cell? ⟨gW, kb, none⟩ = some (.int .i64 (wt (kb : Nat)))) := Lib.hid (fun W hW => (hW.cell (p := ⟨gW, kb, none⟩) (heap_lt HG9.out)).trans ((cell_of_row _ gW kb _ _ _ HG9.out).trans HTB.out))
    by_cases hlt : wt (ka : Nat) < wt (kb : Nat)
    · have DW : Hid (∀ W : World, Below W4.heap.size W4 W → W.cell? ⟨gC, 1, none⟩ = some (.int .i64 2)) := Lib.hid (fun W hW => (hW.cell (p := ⟨gC, 1, none⟩) (heap_lt HQC.out)).trans ((cell_of_row _ gC 1 _ _ _ HQC.out).trans (by rw [HW1.out, if_pos hlt])))
      clear HTA HTB HG9 HQ7 HQ8 HQC HIA HIB HIC
      refine wp_region_held_drew (S := (fun W : World => Below W4.heap.size W4 W)) (by kernel_rfl) (Below.refl _ W4).drew (fun hHeld => ?_)
      refine wpAnyH_take (i := 0) (oi := ({ dst := some 63, op := Go.Op.fieldAddr 32 (Go.Operand.tmp 12) 1, type := 0, pos := "law.go:123", after := #[], guard := none } : Oper)) (v := .pointer (some ⟨gC, 1, none⟩)) rfl (by kernel_rfl) (by kernel_rfl) (by kernel_rfl) (fun _ _ _ h => h) (Or.inl ⟨by rfl, fun w' _ => ?_⟩) hHeld ?_
      · go_simp
      simp only [Act.put, List.setIfInBounds_toArray, List.set_cons_zero, List.set_cons_succ]
      refine wpAnyH_take (i := 1) (oi := ({ dst := some 64, op := Go.Op.load 3 (Go.Operand.tmp 63), type := 3, pos := "law.go:123", after := #[{ on := 0, ground := Go.Ground.data }], guard := none } : Oper)) (v := .int .i64 2) rfl (by kernel_rfl) (by kernel_rfl) (by kernel_rfl) (fun _ _ _ h => h) (Or.inl ⟨by rfl, fun w' hS' => ?_⟩) hHeld ?_
      · have hcell := DW.out w' hS'
        go_simp
      simp only [Act.put, List.setIfInBounds_toArray, List.set_cons_zero, List.set_cons_succ]
      refine wpAnyH_take (i := 2) (oi := ({ dst := some 65, op := Go.Op.binOp Go.BinOp.eql 3 (Go.Operand.tmp 64) (Go.Operand.const (Go.Value.int Go.IntKind.i64 2)) 3, type := 4, pos := "law.go:123", after := #[{ on := 1, ground := Go.Ground.data }], guard := none } : Oper)) (v := .bool true) rfl (by kernel_rfl) (by kernel_rfl) (by kernel_rfl) (fun _ _ _ h => h) (Or.inl ⟨by rfl, fun w' _ => ?_⟩) hHeld ?_
      · (go_simp; try simp)
      simp only [Act.put, List.setIfInBounds_toArray, List.set_cons_zero, List.set_cons_succ]
      refine wpAnyH_take (i := 3) (oi := ({ dst := some 66, op := Go.Op.move (Go.Operand.tmp 13), type := 22, pos := "law.go:123", after := #[], guard := none } : Oper)) (v := .slice (some ⟨gW, 0, none⟩) 6 6) rfl (by kernel_rfl) (by kernel_rfl) (by kernel_rfl) (fun _ _ _ h => h) (Or.inl ⟨by rfl, fun w' _ => ?_⟩) hHeld ?_
      · go_simp
      simp only [Act.put, List.setIfInBounds_toArray, List.set_cons_zero, List.set_cons_succ]
      refine wpAnyH_take (i := 4) (oi := ({ dst := some 67, op := Go.Op.fieldAddr 32 (Go.Operand.tmp 8) 2, type := 0, pos := "law.go:123", after := #[], guard := none } : Oper)) (v := .pointer (some ⟨B8, 2, none⟩)) rfl (by kernel_rfl) (by kernel_rfl) (by kernel_rfl) (fun _ _ _ h => h) (Or.inl ⟨by rfl, fun w' _ => ?_⟩) hHeld ?_
      · go_simp
      simp only [Act.put, List.setIfInBounds_toArray, List.set_cons_zero, List.set_cons_succ]
      refine wpAnyH_take (i := 5) (oi := ({ dst := some 68, op := Go.Op.load 3 (Go.Operand.tmp 67), type := 3, pos := "law.go:123", after := #[{ on := 4, ground := Go.Ground.data }], guard := none } : Oper)) (v := .int .i64 (kb : Nat)) rfl (by kernel_rfl) (by kernel_rfl) (by kernel_rfl) (fun _ _ _ h => h) (Or.inl ⟨by rfl, fun w' hS' => ?_⟩) hHeld ?_
      · have hcell := DY.out w' hS'
        go_simp
      simp only [Act.put, List.setIfInBounds_toArray, List.set_cons_zero, List.set_cons_succ]
      refine wpAnyH_take (i := 6) (oi := ({ dst := some 69, op := Go.Op.indexAddr 22 (Go.Operand.tmp 66) (Go.Operand.tmp 68), type := 0, pos := "law.go:123", after := #[{ on := 3, ground := Go.Ground.data }, { on := 5, ground := Go.Ground.data }], guard := none } : Oper)) (v := .pointer (some ⟨gW, kb, none⟩)) rfl (by kernel_rfl) (by kernel_rfl) (by kernel_rfl) (fun _ _ _ h => h) (Or.inl ⟨by rfl, fun w' _ => ?_⟩) hHeld ?_
      · go_simp
      simp only [Act.put, List.setIfInBounds_toArray, List.set_cons_zero, List.set_cons_succ]
      refine wpAnyH_take (i := 7) (oi := ({ dst := some 70, op := Go.Op.load 3 (Go.Operand.tmp 69), type := 3, pos := "law.go:123", after := #[{ on := 6, ground := Go.Ground.data }], guard := none } : Oper)) (v := .int .i64 (wt (kb : Nat))) rfl (by kernel_rfl) (by kernel_rfl) (by kernel_rfl) (fun _ _ _ h => h) (Or.inl ⟨by rfl, fun w' hS' => ?_⟩) hHeld ?_
      · have hcell := DB.out w' hS'
        go_simp
      simp only [Act.put, List.setIfInBounds_toArray, List.set_cons_zero, List.set_cons_succ]
      refine wpAnyH_take (i := 8) (oi := ({ dst := some 71, op := Go.Op.move (Go.Operand.tmp 13), type := 22, pos := "law.go:123", after := #[], guard := none } : Oper)) (v := .slice (some ⟨gW, 0, none⟩) 6 6) rfl (by kernel_rfl) (by kernel_rfl) (by kernel_rfl) (fun _ _ _ h => h) (Or.inl ⟨by rfl, fun w' _ => ?_⟩) hHeld ?_
      · go_simp
      simp only [Act.put, List.setIfInBounds_toArray, List.set_cons_zero, List.set_cons_succ]
      refine wpAnyH_take (i := 9) (oi := ({ dst := some 72, op := Go.Op.fieldAddr 32 (Go.Operand.tmp 7) 2, type := 0, pos := "law.go:123", after := #[], guard := none } : Oper)) (v := .pointer (some ⟨B7, 2, none⟩)) rfl (by kernel_rfl) (by kernel_rfl) (by kernel_rfl) (fun _ _ _ h => h) (Or.inl ⟨by rfl, fun w' _ => ?_⟩) hHeld ?_
      · go_simp
      simp only [Act.put, List.setIfInBounds_toArray, List.set_cons_zero, List.set_cons_succ]
      refine wpAnyH_take (i := 10) (oi := ({ dst := some 73, op := Go.Op.load 3 (Go.Operand.tmp 72), type := 3, pos := "law.go:123", after := #[{ on := 9, ground := Go.Ground.data }], guard := none } : Oper)) (v := .int .i64 (ka : Nat)) rfl (by kernel_rfl) (by kernel_rfl) (by kernel_rfl) (fun _ _ _ h => h) (Or.inl ⟨by rfl, fun w' hS' => ?_⟩) hHeld ?_
      · have hcell := DX.out w' hS'
        go_simp
      simp only [Act.put, List.setIfInBounds_toArray, List.set_cons_zero, List.set_cons_succ]
      refine wpAnyH_take (i := 11) (oi := ({ dst := some 74, op := Go.Op.indexAddr 22 (Go.Operand.tmp 71) (Go.Operand.tmp 73), type := 0, pos := "law.go:123", after := #[{ on := 8, ground := Go.Ground.data }, { on := 10, ground := Go.Ground.data }], guard := none } : Oper)) (v := .pointer (some ⟨gW, ka, none⟩)) rfl (by kernel_rfl) (by kernel_rfl) (by kernel_rfl) (fun _ _ _ h => h) (Or.inl ⟨by rfl, fun w' _ => ?_⟩) hHeld ?_
      · go_simp
      simp only [Act.put, List.setIfInBounds_toArray, List.set_cons_zero, List.set_cons_succ]
      refine wpAnyH_take (i := 12) (oi := ({ dst := some 75, op := Go.Op.load 3 (Go.Operand.tmp 74), type := 3, pos := "law.go:123", after := #[{ on := 11, ground := Go.Ground.data }], guard := none } : Oper)) (v := .int .i64 (wt (ka : Nat))) rfl (by kernel_rfl) (by kernel_rfl) (by kernel_rfl) (fun _ _ _ h => h) (Or.inl ⟨by rfl, fun w' hS' => ?_⟩) hHeld ?_
      · have hcell := DA.out w' hS'
        go_simp
      simp only [Act.put, List.setIfInBounds_toArray, List.set_cons_zero, List.set_cons_succ]
      refine wpAnyH_take (i := 13) (oi := ({ dst := some 76, op := Go.Op.binOp Go.BinOp.gtr 3 (Go.Operand.tmp 70) (Go.Operand.tmp 75) 3, type := 4, pos := "law.go:123", after := #[{ on := 7, ground := Go.Ground.data }, { on := 12, ground := Go.Ground.data }], guard := none } : Oper)) (v := .bool true) rfl (by kernel_rfl) (by kernel_rfl) (by kernel_rfl) (fun _ _ _ h => h) (Or.inl ⟨by rfl, fun w' _ => ?_⟩) hHeld ?_
      · go_simp
      simp only [Act.put, List.setIfInBounds_toArray, List.set_cons_zero, List.set_cons_succ]
      refine wpAnyH_take (i := 14) (oi := ({ dst := some 77, op := Go.Op.binOp Go.BinOp.eql 4 (Go.Operand.tmp 65) (Go.Operand.tmp 76) 4, type := 4, pos := "law.go:123", after := #[{ on := 2, ground := Go.Ground.data }, { on := 13, ground := Go.Ground.data }], guard := none } : Oper)) (v := .bool true) rfl (by kernel_rfl) (by kernel_rfl) (by kernel_rfl) (fun _ _ _ h => h) (Or.inl ⟨by rfl, fun w' _ => ?_⟩) hHeld ?_
      · go_simp
      simp only [Act.put, List.setIfInBounds_toArray, List.set_cons_zero, List.set_cons_succ]
      refine wpAnyH_take (i := 15) (oi := ({ dst := some 6, op := Go.Op.assign (Go.Operand.tmp 77), type := 4, pos := "law.go:123", after := #[{ on := 14, ground := Go.Ground.data }, { on := 0, ground := Go.Ground.phase }, { on := 1, ground := Go.Ground.phase }, { on := 2, ground := Go.Ground.phase }, { on := 3, ground := Go.Ground.phase }, { on := 4, ground := Go.Ground.phase }, { on := 5, ground := Go.Ground.phase }, { on := 6, ground := Go.Ground.phase }, { on := 7, ground := Go.Ground.phase }, { on := 8, ground := Go.Ground.phase }, { on := 9, ground := Go.Ground.phase }, { on := 10, ground := Go.Ground.phase }, { on := 11, ground := Go.Ground.phase }, { on := 12, ground := Go.Ground.phase }, { on := 13, ground := Go.Ground.phase }, { on := 14, ground := Go.Ground.phase }], guard := none } : Oper)) (v := .bool true) rfl (by kernel_rfl) (by kernel_rfl) (by kernel_rfl) (fun _ _ _ h => h) (Or.inl ⟨by rfl, fun w' _ => ?_⟩) hHeld ?_
      · go_simp
      simp only [Act.put, List.setIfInBounds_toArray, List.set_cons_zero, List.set_cons_succ]
      refine wpAnyH_done (by kernel_rfl) ?_ _
      have HBe := Lib.hid (HB9.out.trans (hHeld.mono HB9.out.size))
      clear hHeld
      go_wp2_with fail
      go_ret
      exact ⟨rfl, HBe.out⟩
    · have DW : Hid (∀ W : World, Below W4.heap.size W4 W → W.cell? ⟨gC, 1, none⟩ = some (.int .i64 1)) := Lib.hid (fun W hW => (hW.cell (p := ⟨gC, 1, none⟩) (heap_lt HQC.out)).trans ((cell_of_row _ gC 1 _ _ _ HQC.out).trans (by rw [HW1.out, if_neg hlt])))
      clear HTA HTB HG9 HQ7 HQ8 HQC HIA HIB HIC
      refine wp_region_held_drew (S := (fun W : World => Below W4.heap.size W4 W)) (by kernel_rfl) (Below.refl _ W4).drew (fun hHeld => ?_)
      refine wpAnyH_take (i := 0) (oi := ({ dst := some 63, op := Go.Op.fieldAddr 32 (Go.Operand.tmp 12) 1, type := 0, pos := "law.go:123", after := #[], guard := none } : Oper)) (v := .pointer (some ⟨gC, 1, none⟩)) rfl (by kernel_rfl) (by kernel_rfl) (by kernel_rfl) (fun _ _ _ h => h) (Or.inl ⟨by rfl, fun w' _ => ?_⟩) hHeld ?_
      · go_simp
      simp only [Act.put, List.setIfInBounds_toArray, List.set_cons_zero, List.set_cons_succ]
      refine wpAnyH_take (i := 1) (oi := ({ dst := some 64, op := Go.Op.load 3 (Go.Operand.tmp 63), type := 3, pos := "law.go:123", after := #[{ on := 0, ground := Go.Ground.data }], guard := none } : Oper)) (v := .int .i64 1) rfl (by kernel_rfl) (by kernel_rfl) (by kernel_rfl) (fun _ _ _ h => h) (Or.inl ⟨by rfl, fun w' hS' => ?_⟩) hHeld ?_
      · have hcell := DW.out w' hS'
        go_simp
      simp only [Act.put, List.setIfInBounds_toArray, List.set_cons_zero, List.set_cons_succ]
      refine wpAnyH_take (i := 2) (oi := ({ dst := some 65, op := Go.Op.binOp Go.BinOp.eql 3 (Go.Operand.tmp 64) (Go.Operand.const (Go.Value.int Go.IntKind.i64 2)) 3, type := 4, pos := "law.go:123", after := #[{ on := 1, ground := Go.Ground.data }], guard := none } : Oper)) (v := .bool false) rfl (by kernel_rfl) (by kernel_rfl) (by kernel_rfl) (fun _ _ _ h => h) (Or.inl ⟨by rfl, fun w' _ => ?_⟩) hHeld ?_
      · (go_simp; try simp)
      simp only [Act.put, List.setIfInBounds_toArray, List.set_cons_zero, List.set_cons_succ]
      refine wpAnyH_take (i := 3) (oi := ({ dst := some 66, op := Go.Op.move (Go.Operand.tmp 13), type := 22, pos := "law.go:123", after := #[], guard := none } : Oper)) (v := .slice (some ⟨gW, 0, none⟩) 6 6) rfl (by kernel_rfl) (by kernel_rfl) (by kernel_rfl) (fun _ _ _ h => h) (Or.inl ⟨by rfl, fun w' _ => ?_⟩) hHeld ?_
      · go_simp
      simp only [Act.put, List.setIfInBounds_toArray, List.set_cons_zero, List.set_cons_succ]
      refine wpAnyH_take (i := 4) (oi := ({ dst := some 67, op := Go.Op.fieldAddr 32 (Go.Operand.tmp 8) 2, type := 0, pos := "law.go:123", after := #[], guard := none } : Oper)) (v := .pointer (some ⟨B8, 2, none⟩)) rfl (by kernel_rfl) (by kernel_rfl) (by kernel_rfl) (fun _ _ _ h => h) (Or.inl ⟨by rfl, fun w' _ => ?_⟩) hHeld ?_
      · go_simp
      simp only [Act.put, List.setIfInBounds_toArray, List.set_cons_zero, List.set_cons_succ]
      refine wpAnyH_take (i := 5) (oi := ({ dst := some 68, op := Go.Op.load 3 (Go.Operand.tmp 67), type := 3, pos := "law.go:123", after := #[{ on := 4, ground := Go.Ground.data }], guard := none } : Oper)) (v := .int .i64 (kb : Nat)) rfl (by kernel_rfl) (by kernel_rfl) (by kernel_rfl) (fun _ _ _ h => h) (Or.inl ⟨by rfl, fun w' hS' => ?_⟩) hHeld ?_
      · have hcell := DY.out w' hS'
        go_simp
      simp only [Act.put, List.setIfInBounds_toArray, List.set_cons_zero, List.set_cons_succ]
      refine wpAnyH_take (i := 6) (oi := ({ dst := some 69, op := Go.Op.indexAddr 22 (Go.Operand.tmp 66) (Go.Operand.tmp 68), type := 0, pos := "law.go:123", after := #[{ on := 3, ground := Go.Ground.data }, { on := 5, ground := Go.Ground.data }], guard := none } : Oper)) (v := .pointer (some ⟨gW, kb, none⟩)) rfl (by kernel_rfl) (by kernel_rfl) (by kernel_rfl) (fun _ _ _ h => h) (Or.inl ⟨by rfl, fun w' _ => ?_⟩) hHeld ?_
      · go_simp
      simp only [Act.put, List.setIfInBounds_toArray, List.set_cons_zero, List.set_cons_succ]
      refine wpAnyH_take (i := 7) (oi := ({ dst := some 70, op := Go.Op.load 3 (Go.Operand.tmp 69), type := 3, pos := "law.go:123", after := #[{ on := 6, ground := Go.Ground.data }], guard := none } : Oper)) (v := .int .i64 (wt (kb : Nat))) rfl (by kernel_rfl) (by kernel_rfl) (by kernel_rfl) (fun _ _ _ h => h) (Or.inl ⟨by rfl, fun w' hS' => ?_⟩) hHeld ?_
      · have hcell := DB.out w' hS'
        go_simp
      simp only [Act.put, List.setIfInBounds_toArray, List.set_cons_zero, List.set_cons_succ]
      refine wpAnyH_take (i := 8) (oi := ({ dst := some 71, op := Go.Op.move (Go.Operand.tmp 13), type := 22, pos := "law.go:123", after := #[], guard := none } : Oper)) (v := .slice (some ⟨gW, 0, none⟩) 6 6) rfl (by kernel_rfl) (by kernel_rfl) (by kernel_rfl) (fun _ _ _ h => h) (Or.inl ⟨by rfl, fun w' _ => ?_⟩) hHeld ?_
      · go_simp
      simp only [Act.put, List.setIfInBounds_toArray, List.set_cons_zero, List.set_cons_succ]
      refine wpAnyH_take (i := 9) (oi := ({ dst := some 72, op := Go.Op.fieldAddr 32 (Go.Operand.tmp 7) 2, type := 0, pos := "law.go:123", after := #[], guard := none } : Oper)) (v := .pointer (some ⟨B7, 2, none⟩)) rfl (by kernel_rfl) (by kernel_rfl) (by kernel_rfl) (fun _ _ _ h => h) (Or.inl ⟨by rfl, fun w' _ => ?_⟩) hHeld ?_
      · go_simp
      simp only [Act.put, List.setIfInBounds_toArray, List.set_cons_zero, List.set_cons_succ]
      refine wpAnyH_take (i := 10) (oi := ({ dst := some 73, op := Go.Op.load 3 (Go.Operand.tmp 72), type := 3, pos := "law.go:123", after := #[{ on := 9, ground := Go.Ground.data }], guard := none } : Oper)) (v := .int .i64 (ka : Nat)) rfl (by kernel_rfl) (by kernel_rfl) (by kernel_rfl) (fun _ _ _ h => h) (Or.inl ⟨by rfl, fun w' hS' => ?_⟩) hHeld ?_
      · have hcell := DX.out w' hS'
        go_simp
      simp only [Act.put, List.setIfInBounds_toArray, List.set_cons_zero, List.set_cons_succ]
      refine wpAnyH_take (i := 11) (oi := ({ dst := some 74, op := Go.Op.indexAddr 22 (Go.Operand.tmp 71) (Go.Operand.tmp 73), type := 0, pos := "law.go:123", after := #[{ on := 8, ground := Go.Ground.data }, { on := 10, ground := Go.Ground.data }], guard := none } : Oper)) (v := .pointer (some ⟨gW, ka, none⟩)) rfl (by kernel_rfl) (by kernel_rfl) (by kernel_rfl) (fun _ _ _ h => h) (Or.inl ⟨by rfl, fun w' _ => ?_⟩) hHeld ?_
      · go_simp
      simp only [Act.put, List.setIfInBounds_toArray, List.set_cons_zero, List.set_cons_succ]
      refine wpAnyH_take (i := 12) (oi := ({ dst := some 75, op := Go.Op.load 3 (Go.Operand.tmp 74), type := 3, pos := "law.go:123", after := #[{ on := 11, ground := Go.Ground.data }], guard := none } : Oper)) (v := .int .i64 (wt (ka : Nat))) rfl (by kernel_rfl) (by kernel_rfl) (by kernel_rfl) (fun _ _ _ h => h) (Or.inl ⟨by rfl, fun w' hS' => ?_⟩) hHeld ?_
      · have hcell := DA.out w' hS'
        go_simp
      simp only [Act.put, List.setIfInBounds_toArray, List.set_cons_zero, List.set_cons_succ]
      refine wpAnyH_take (i := 13) (oi := ({ dst := some 76, op := Go.Op.binOp Go.BinOp.gtr 3 (Go.Operand.tmp 70) (Go.Operand.tmp 75) 3, type := 4, pos := "law.go:123", after := #[{ on := 7, ground := Go.Ground.data }, { on := 12, ground := Go.Ground.data }], guard := none } : Oper)) (v := .bool false) rfl (by kernel_rfl) (by kernel_rfl) (by kernel_rfl) (fun _ _ _ h => h) (Or.inl ⟨by rfl, fun w' _ => ?_⟩) hHeld ?_
      · go_simp
      simp only [Act.put, List.setIfInBounds_toArray, List.set_cons_zero, List.set_cons_succ]
      refine wpAnyH_take (i := 14) (oi := ({ dst := some 77, op := Go.Op.binOp Go.BinOp.eql 4 (Go.Operand.tmp 65) (Go.Operand.tmp 76) 4, type := 4, pos := "law.go:123", after := #[{ on := 2, ground := Go.Ground.data }, { on := 13, ground := Go.Ground.data }], guard := none } : Oper)) (v := .bool true) rfl (by kernel_rfl) (by kernel_rfl) (by kernel_rfl) (fun _ _ _ h => h) (Or.inl ⟨by rfl, fun w' _ => ?_⟩) hHeld ?_
      · go_simp
      simp only [Act.put, List.setIfInBounds_toArray, List.set_cons_zero, List.set_cons_succ]
      refine wpAnyH_take (i := 15) (oi := ({ dst := some 6, op := Go.Op.assign (Go.Operand.tmp 77), type := 4, pos := "law.go:123", after := #[{ on := 14, ground := Go.Ground.data }, { on := 0, ground := Go.Ground.phase }, { on := 1, ground := Go.Ground.phase }, { on := 2, ground := Go.Ground.phase }, { on := 3, ground := Go.Ground.phase }, { on := 4, ground := Go.Ground.phase }, { on := 5, ground := Go.Ground.phase }, { on := 6, ground := Go.Ground.phase }, { on := 7, ground := Go.Ground.phase }, { on := 8, ground := Go.Ground.phase }, { on := 9, ground := Go.Ground.phase }, { on := 10, ground := Go.Ground.phase }, { on := 11, ground := Go.Ground.phase }, { on := 12, ground := Go.Ground.phase }, { on := 13, ground := Go.Ground.phase }, { on := 14, ground := Go.Ground.phase }], guard := none } : Oper)) (v := .bool true) rfl (by kernel_rfl) (by kernel_rfl) (by kernel_rfl) (fun _ _ _ h => h) (Or.inl ⟨by rfl, fun w' _ => ?_⟩) hHeld ?_
      · go_simp
      simp only [Act.put, List.setIfInBounds_toArray, List.set_cons_zero, List.set_cons_succ]
      refine wpAnyH_done (by kernel_rfl) ?_ _
      have HBe := Lib.hid (HB9.out.trans (hHeld.mono HB9.out.size))
      clear hHeld
      go_wp2_with fail
      go_ret
      exact ⟨rfl, HBe.out⟩
end Go.Proofs.Ytocmanmogfedoaa
