/-
  The walk of cache.shortest: the first one of those that count shortest. Conditions: at least one entry, at most 1000; all count at that time.
-/
import Derived.Test.YtiifanenomebeaaCacheDl1
import Derived.Deep.RegionHeld3
namespace Go.Proofs.Ytiifanenomebeaa
open Go.RowKit Go.Lib

def fin (e : En) : Nat := e.frm + e.ttl
def ShP (es : List En) (f : Nat) : Prop := f < es.length ∧ ∀ (j : Nat) (x y : En), es[f]? = some x → es[j]? = some y → fin x ≤ fin y ∧ (j < f → fin x < fin y)
def ShPost (es : List En) (w : World) (e : Ending) (w' : World) : Prop := ∃ f : Nat, e = .returned (.int .i64 f) ∧ ShP es f ∧ Below w.heap.size w w'
def ShI (es : List En) (k f : Nat) : Prop := ∀ (j : Nat) (x y : En), j < k → es[f]? = some x → es[j]? = some y → fin x ≤ fin y ∧ (j < f → fin x < fin y)
theorem ShI.yes {es : List En} {k f : Nat} {u x : En} (h : ShI es k f) (hu : es[k]? = some u) (hx : es[f]? = some x) (hlt : fin u < fin x) : ShI es (k + 1) k := fun j p q hj hp hq => by
  rw [hu] at hp; injection hp with hp; subst hp
  rcases Nat.lt_or_ge j k with h1 | h1
  · have := (h j x q h1 hx hq).1
    exact ⟨by omega, fun _ => by omega⟩
  · obtain rfl : j = k := by omega
    rw [hu] at hq; injection hq with hq; subst hq
    exact ⟨Nat.le_refl _, fun h => absurd h (Nat.lt_irrefl _)⟩
theorem ShI.no {es : List En} {k f : Nat} {u x : En} (h : ShI es k f) (hf : f ≤ k) (hu : es[k]? = some u) (hx : es[f]? = some x) (hlt : ¬ fin u < fin x) : ShI es (k + 1) f := fun j p q hj hp hq => by
  rcases Nat.lt_or_ge j k with h1 | h1
  · exact h j p q h1 hp hq
  · obtain rfl : j = k := by omega
    rw [hx] at hp; injection hp with hp; subst hp
    rw [hu] at hq; injection hq with hq; subst hq
    exact ⟨by omega, fun h => by omega⟩
theorem sizeEn6 (e : En) : (Try.prog.info? 58).map (·.size) = some e.cells.length := (by kernel_rfl : (Try.prog.info? 58).map (·.size) = some 6)
set_option maxRecDepth 100000 in
set_option maxHeartbeats 4000000 in
theorem shortest_e (A : Option Addr) (c now : Nat) (es : List En) (h0 : 0 < es.length) (hl : es.length ≤ 1000) (w : World) (h : EntsAt w A es) (hfit : ∀ e ∈ es, e.Fits) (h1 : ∀ e ∈ es, e.rv.oneCell' = true) (hc : ∀ e ∈ es, now < fin e) :
    Calls Try.prog 24 #[.slice A es.length c, .int .i64 now] w fun e w' => ShPost es w e w' := by
  obtain ⟨g, rfl, hgl, hcell⟩ := h h0
  have HR := Lib.hid hcell
  have HF := Lib.hid hfit
  have H1 := Lib.hid h1
  have HC := Lib.hid hc
  have HZ := Lib.hid zeroEn
  have HG := Lib.hid hgl
  clear h hfit h1 hc hcell hgl
  go_enter Try.func24, Try.ntmps24
  go_wp2_with fail
  go_loopw [10, 5, 6, 7] (fun i fs _ _ wr => ∃ k f : Nat, k ≤ es.length ∧ f ≤ k ∧ f < es.length ∧ i = .int .i64 k ∧ fs = .int .i64 f ∧ Hid (Below w.heap.size w wr) ∧ Hid (ShI es k f)) (fun i _ _ _ _ => es.length - (intOf i).toNat)
  case atStart => exact ⟨0, 0, Nat.zero_le _, Nat.le_refl _, h0, rfl, rfl, Lib.hid (Below.refl _ _), Lib.hid (fun j x y hj => absurd hj (Nat.not_lt_zero _))⟩
  case round =>
    obtain ⟨k, f, hk, hfk, hfl, rfl, rfl, HB, HI⟩ := hrel
    by_cases hlt : k < es.length
    · obtain ⟨u, hu⟩ : ∃ u, es[k]? = some u := ⟨_, List.getElem?_eq_getElem hlt⟩
      obtain ⟨x, hx⟩ : ∃ x, es[f]? = some x := ⟨_, List.getElem?_eq_getElem hfl⟩
      have hmu := List.mem_of_getElem? hu
      have hmx := List.mem_of_getElem? hx
      have HCU : Hid (∀ j v, u.cells.toArray.toList[j]? = some v → wr.cell? ((⟨g, k * 6, none⟩ : Addr).add j) = some v) := Lib.hid (fun j v hj => (HB.out.cell (p := (⟨g, k * 6, none⟩ : Addr).add j) (by rw [Addr.add_lit]; exact HG.out)).trans (HR.out k u hu j v hj))
      have Z := Lib.hid (sizeEn u)
      have ZS : Hid (zE.cells.toArray.size = u.cells.toArray.size) := Lib.hid rfl
      have O1 := Lib.hid (one_cells (H1.out u hmu))
      have ZU := Lib.hid (sizeEn6 u)
      have ZX := Lib.hid (sizeEn6 x)
      have hw4 : Below w.heap.size w (wr.alloc (.cells u.cells.toArray 58)) := HB.out.alloc HB.out.size _
      have HW4 := Lib.hid hw4
      have HXC : Hid (∀ W, Below (wr.heap.size + 1) (wr.alloc (.cells u.cells.toArray 58)) W → W.rangeAt g (f * 6) x.cells) := Lib.hid (fun W hW j v hj => by
        have hgw : g < wr.heap.size := Nat.lt_of_lt_of_le HG.out HB.out.size
        rw [hW.cell (p := ⟨g, f * 6 + j, none⟩) (by show g < _; omega), hw4.cell (p := ⟨g, f * 6 + j, none⟩) HG.out]
        have := HR.out f x hx j v hj
        rwa [Addr.add_lit] at this)
      have HUC : Hid (∀ W, Below (wr.heap.size + 1) (wr.alloc (.cells u.cells.toArray 58)) W → W.rangeAt wr.heap.size 0 u.cells) := Lib.hid (fun W hW j v hj => by
        rw [hW.cell (p := ⟨wr.heap.size, 0 + j, none⟩) (by show wr.heap.size < _; omega), Nat.zero_add, cell_of_row _ wr.heap.size j _ _ _ (heap_alloc_last wr _)]
        simpa using hj)
      have LU := Lib.hid (fun W => left_e u.nm u.ty u.out u.rv u.frm u.ttl now W (HF.out u hmu).frm (HF.out u hmu).ttl (Nat.le_of_lt (HC.out u hmu)))
      have LX := Lib.hid (fun W => left_e x.nm x.ty x.out x.rv x.frm x.ttl now W (HF.out x hmx).frm (HF.out x hmx).ttl (Nat.le_of_lt (HC.out x hmx)))
      have LU' : Hid (∀ W, Calls Try.prog 29 #[.agg u.cells.toArray, .int .i64 now] W fun e w' => e = .returned (.int .u64 ((u.frm + u.ttl - now : Nat) : Int)) ∧ Below W.heap.size W w') := LU
      have LX' : Hid (∀ W, Calls Try.prog 29 #[.agg x.cells.toArray, .int .i64 now] W fun e w' => e = .returned (.int .u64 ((x.frm + x.ttl - now : Nat) : Int)) ∧ Below W.heap.size W w') := LX
      have HAB : Hid ((fin u < fin x → ShI es (k + 1) k) ∧ (¬ fin u < fin x → ShI es (k + 1) f)) := Lib.hid ⟨fun h => HI.out.yes hu hx h, fun h => HI.out.no hfk hu hx h⟩
      have hcu := HC.out u hmu
      have hcx := HC.out x hmx
      have HUX : Hid ((fin u < fin x) ↔ (u.frm + u.ttl - now < x.frm + x.ttl - now)) := Lib.hid (by unfold fin at *; omega)
      clear hu hx hmu hmx LU LX hcu hcx hw4
      revert HCU Z ZS O1 ZU ZX HW4 HXC HUC LU' LX' HAB HUX
      generalize (u.frm + u.ttl - now) = a
      generalize (x.frm + x.ttl - now) = b
      generalize (fin u < fin x) = P
      generalize u.cells = cu
      generalize x.cells = cx
      intro HCU Z ZS O1 ZU ZX HW4 HXC HUC LU LX HAB HUX
      by_cases hab : a < b
      all_goals
        go_wp2_with (first
          | (refine wpList_load_agg rfl 58 (.tmp 13) rfl ⟨g, k * 6, none⟩ rfl cu.toArray _ HCU.out Try.underlying58 rfl Z.out ?_; go_simp)
          | (refine wpList_alloc_z rfl 58 rfl zE.cells.toArray HZ.out ?_; go_simp)
          | (refine wpList_store_new rfl 58 (.tmp 7) (.tmp 14) rfl wr.heap.size rfl zE.cells.toArray cu.toArray 58 rfl rfl Z.out ZS.out O1.out ?_; go_simp))
        have hS0 : Below (wr.heap.size + 1) (wr.alloc (.cells cu.toArray 58)) (wr.alloc (.cells cu.toArray 58)).drew := (Below.refl _ _).drew
        refine wp_region_held_drew (S := Below (wr.heap.size + 1) (wr.alloc (.cells cu.toArray 58))) (by kernel_rfl) hS0 (fun hHeld => ?_)
        refine wpAnyH_take (i := 0) (oi := ({ dst := some 15, op := Go.Op.load 58 (Go.Operand.tmp 7), type := 58, pos := "cache.go:94", after := #[], guard := none } : Oper)) (v := .agg cu.toArray) rfl (by kernel_rfl) (by kernel_rfl) (by kernel_rfl) (fun _ _ _ h => h) (yieldsIf_load_mid (by rfl) _ _ rfl _ _ rfl _ _ (fun W h => HUC.out W h) Try.underlying58 rfl ZU.out) hHeld ?_
        simp only [Act.put, List.setIfInBounds_toArray, List.set_cons_zero, List.set_cons_succ]
        refine wpAnyH_take (i := 1) (oi := ({ dst := some 16, op := Go.Op.move (Go.Operand.tmp 1), type := 3, pos := "cache.go:94", after := #[], guard := none } : Oper)) (v := .int .i64 now) rfl (by kernel_rfl) (by kernel_rfl) (by kernel_rfl) (fun _ _ _ h => h) (Or.inl ⟨by rfl, fun w' _ => ?_⟩) hHeld ?_
        · go_simp
        simp only [Act.put, List.setIfInBounds_toArray, List.set_cons_zero, List.set_cons_succ]
        refine wpAnyH_take (i := 3) (oi := ({ dst := some 18, op := Go.Op.move (Go.Operand.tmp 0), type := 53, pos := "cache.go:94", after := #[], guard := none } : Oper)) (v := .slice (some ⟨g, 0, none⟩) es.length c) rfl (by kernel_rfl) (by kernel_rfl) (by kernel_rfl) (fun _ _ _ h => h) (Or.inl ⟨by rfl, fun w' _ => ?_⟩) hHeld ?_
        · go_simp
        simp only [Act.put, List.setIfInBounds_toArray, List.set_cons_zero, List.set_cons_succ]
        refine wpAnyH_take (i := 4) (oi := ({ dst := some 19, op := Go.Op.move (Go.Operand.tmp 5), type := 3, pos := "cache.go:94", after := #[], guard := none } : Oper)) (v := .int .i64 f) rfl (by kernel_rfl) (by kernel_rfl) (by kernel_rfl) (fun _ _ _ h => h) (Or.inl ⟨by rfl, fun w' _ => ?_⟩) hHeld ?_
        · go_simp
        simp only [Act.put, List.setIfInBounds_toArray, List.set_cons_zero, List.set_cons_succ]
        refine wpAnyH_take (i := 5) (oi := ({ dst := some 20, op := Go.Op.indexAddr 53 (Go.Operand.tmp 18) (Go.Operand.tmp 19), type := 0, pos := "cache.go:94", after := #[{ on := 3, ground := Go.Ground.data }, { on := 4, ground := Go.Ground.data }], guard := none } : Oper)) (v := .pointer (some ⟨g, f * 6, none⟩)) rfl (by kernel_rfl) (by kernel_rfl) (by kernel_rfl) (fun _ _ _ h => h) (Or.inl ⟨by rfl, fun w' _ => ?_⟩) hHeld ?_
        · go_simp
        simp only [Act.put, List.setIfInBounds_toArray, List.set_cons_zero, List.set_cons_succ]
        refine wpAnyH_take (i := 6) (oi := ({ dst := some 21, op := Go.Op.load 58 (Go.Operand.tmp 20), type := 58, pos := "cache.go:94", after := #[{ on := 5, ground := Go.Ground.data }], guard := none } : Oper)) (v := .agg cx.toArray) rfl (by kernel_rfl) (by kernel_rfl) (by kernel_rfl) (fun _ _ _ h => h) (yieldsIf_load_mid (by rfl) _ _ rfl _ _ rfl _ _ (fun W h => HXC.out W h) Try.underlying58 rfl ZX.out) hHeld ?_
        simp only [Act.put, List.setIfInBounds_toArray, List.set_cons_zero, List.set_cons_succ]
        refine wpAnyH_take (i := 7) (oi := ({ dst := some 22, op := Go.Op.move (Go.Operand.tmp 1), type := 3, pos := "cache.go:94", after := #[], guard := none } : Oper)) (v := .int .i64 now) rfl (by kernel_rfl) (by kernel_rfl) (by kernel_rfl) (fun _ _ _ h => h) (Or.inl ⟨by rfl, fun w' _ => ?_⟩) hHeld ?_
        · go_simp
        simp only [Act.put, List.setIfInBounds_toArray, List.set_cons_zero, List.set_cons_succ]
        refine wpAnyH_ready (rs := [2]) (by kernel_rfl) (by simp) ?_
        refine AllReadyH.cons (o := ({ dst := some 17, op := Go.Op.call { callee := Go.Callee.value (Go.Operand.func 29), args := #[Go.Operand.tmp 15, Go.Operand.tmp 16], argTypes := #[58, 3] }, type := 30, pos := "cache.go:94", after := #[{ on := 0, ground := Go.Ground.data }, { on := 1, ground := Go.Ground.data }], guard := none } : Oper)) rfl (fun K hK => ?_) ?_
        · go_simp
          go_at_call 29
          refine (LU.out _).mono ?_
          rintro e' w5 ⟨rfl, hb5⟩
          have hS5 := hHeld.trans (hb5.mono (by have := hHeld.size; rw [World.size_alloc] at this; exact this))
          refine hK.out _ _ hS5 (fun hHeld' => ?_)
          clear hK K hb5
          refine wpAnyH_ready (rs := [8]) (by kernel_rfl) (by simp) ?_
          refine AllReadyH.cons (o := ({ dst := some 23, op := Go.Op.call { callee := Go.Callee.value (Go.Operand.func 29), args := #[Go.Operand.tmp 21, Go.Operand.tmp 22], argTypes := #[58, 3] }, type := 30, pos := "cache.go:94", after := #[{ on := 6, ground := Go.Ground.data }, { on := 7, ground := Go.Ground.data }, { on := 2, ground := Go.Ground.chain }], guard := none } : Oper)) rfl (fun K hK => ?_) ?_
          · go_simp
            go_at_call 29
            refine (LX.out _).mono ?_
            rintro e' w6 ⟨rfl, hb6⟩
            have hS6 := hHeld'.trans (hb6.mono (by have := hHeld'.size; rw [World.size_alloc] at this; exact this))
            refine hK.out _ _ hS6 (fun hHeld'' => ?_)
            clear hK K hb6
            refine wpAnyH_take (i := 9) (oi := ({ dst := some 24, op := Go.Op.binOp Go.BinOp.lss 30 (Go.Operand.tmp 17) (Go.Operand.tmp 23) 30, type := 4, pos := "cache.go:94", after := #[{ on := 2, ground := Go.Ground.data }, { on := 8, ground := Go.Ground.data }], guard := none } : Oper)) (v := .bool (decide (a < b))) rfl (by kernel_rfl) (by kernel_rfl) (by kernel_rfl) (fun _ _ _ h => h) (Or.inl ⟨by rfl, fun w' _ => ?_⟩) hHeld'' ?_
            · go_simp
            simp only [Act.put, List.setIfInBounds_toArray, List.set_cons_zero, List.set_cons_succ]
            refine wpAnyH_done (by kernel_rfl) ?_ _
            have HB6 := Lib.hid (HW4.out.trans (hHeld''.mono (by have := HB.out.size; omega)))
            clear hHeld hHeld' hHeld'' hS0 hS5 hS6
            go_wp2_with fail
            go_roundw
            case rel => first
              | exact ⟨k + 1, k, by omega, by omega, hlt, by go_num, rfl, HB6, Lib.hid (HAB.out.1 (HUX.out.2 hab))⟩
              | exact ⟨k + 1, f, by omega, by omega, hfl, by go_num, rfl, HB6, Lib.hid (HAB.out.2 (fun h => hab (HUX.out.1 h)))⟩
            case measure => simp [intOf]; omega
          exact AllReadyH.nil
        exact AllReadyH.nil
    · obtain rfl : k = es.length := by omega
      go_wp2_with fail
      go_ret
      exact ⟨f, rfl, ⟨hfl, fun j x y hx hy => HI.out j x y (List.getElem?_eq_some_iff.1 hy).1 hx hy⟩, HB.out⟩
end Go.Proofs.Ytiifanenomebeaa
