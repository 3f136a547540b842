/-
  One round of resolve.find's loop: at a Why, and at an error's number. Conditions: the errors that are left are one.
-/
import Derived.Test.YtocmanmogfedoaaDoorResFnd0
import Derived.BigRegionIn
namespace Go.Proofs.YtocmanmogfedoaaDoor
open Go.RowKit Go.Shelf Go.Stop Go.Extern.Stop Go.Extern
attribute [local go_sem] Oper.semAt_some

/-- the errors that are left: one -/
structure RwE (w : World) (Br : Nat) (b : Nat) (c : Nat) (x : Value) (W : World) : Prop where
  box : Boxed W Br 73 (.slice (some ⟨b, 0, none⟩) 1 c)
  row : W.ownsRow w.heap.size 25 1 (.slice (some ⟨b, 0, none⟩) 1 c) 1 [x]
  below : Below w.heap.size w W
theorem RwE.at' {w W : World} {Br b c : Nat} {x : Value} (h : RwE w Br b c x W) : W.cell? ⟨b, 0, none⟩ = some x := by
  have := h.row.cells (g := b) rfl 0 x rfl
  rwa [Addr.add_lit, Nat.zero_add] at this
theorem RwE.cap {w W : World} {Br b c : Nat} {x : Value} (h : RwE w Br b c x W) : (1 : Int) ≤ (c : Int) := by
  rcases h.row.2 with ⟨h0, _⟩ | ⟨g, cap, cur, e, _, _, h, _⟩
  · cases h0
  · injection e with _ _ e; omega
/-- none is left -/
structure RwN (w : World) (Br : Nat) (b : Nat) (c : Nat) (W : World) : Prop where
  box : Boxed W Br 73 (.slice (some ⟨b, 0, none⟩) 0 c)
  row : W.ownsRow w.heap.size 25 1 (.slice (some ⟨b, 0, none⟩) 0 c) 0 []
  below : Below w.heap.size w W
theorem RwE.pop {w W : World} {Br b c : Nat} {x : Value} (h : RwE w Br b c x W) (hB : w.heap.size ≤ Br) : RwN w Br b c (W.setCell ⟨Br, 0, none⟩ (.slice (some ⟨b, 0, none⟩) 0 c)) := by
  refine ⟨h.box.set _, ?_, h.below.setCell (p := ⟨Br, 0, none⟩) hB _⟩
  have hne := h.box.not_row (by decide) h.row
  have hr := h.row.kept (grownBy_setCell' W Br (.slice (some ⟨b, 0, none⟩) 0 c)) (.inr hne.symm)
  rcases hr.2 with ⟨h0, _⟩ | ⟨g, cap, cur, e, hb, hg, hcap, hcm, hcs, hx⟩
  · cases h0
  · injection e with e1 _ e3
    injection e1 with e1
    injection e1 with e1
    subst e1 e3
    exact ⟨rfl, .inr ⟨_, _, cur, rfl, hb, hg, Nat.zero_le _, hcm, hcs, by simp⟩⟩
theorem RwN.to {w W W' : World} {Br b c : Nat} (h : RwN w Br b c W) (hb : Below W.heap.size W W') : RwN w Br b c W' := by
  refine ⟨?_, ?_, h.below.trans (hb.mono h.below.size)⟩
  · exact h.box.kept (row := none) ⟨hb.os, hb.tape, hb.output, hb.size, fun k hk _ => hb.block k hk⟩ (by simp)
  · exact h.row.kept (row := none) ⟨hb.os, hb.tape, hb.output, hb.size, fun k hk _ => hb.block k hk⟩ (.inr (fun e => by cases e))
theorem RwE.to {w W W' : World} {Br b c : Nat} {x : Value} (h : RwE w Br b c x W) (hb : Below W.heap.size W W') : RwE w Br b c x W' := by
  refine ⟨?_, ?_, h.below.trans (hb.mono h.below.size)⟩
  · exact h.box.kept (row := none) ⟨hb.os, hb.tape, hb.output, hb.size, fun k hk _ => hb.block k hk⟩ (by simp)
  · exact h.row.kept (row := none) ⟨hb.os, hb.tape, hb.output, hb.size, fun k hk _ => hb.block k hk⟩ (.inr (fun e => by cases e))
theorem RwE.first (w : World) (ty : TypeId) (x : Value) : RwE w (w.heap.size + 1) w.heap.size 1 (.iface ty x) ((w.alloc (.cells #[.iface ty x] 25)).alloc (.cells #[.slice (some ⟨w.heap.size, 0, none⟩) 1 1] 73)) := by
  have b1 := heap_alloc_last w (.cells #[.iface ty x] 25)
  have l1 := (Below.refl _ w).alloc (Nat.le_refl _) (.cells #[.iface ty x] 25)
  have l2 := (Below.refl _ (w.alloc (.cells #[.iface ty x] 25))).alloc (Nat.le_refl _) (.cells #[.slice (some ⟨w.heap.size, 0, none⟩) 1 1] 73)
  have bx := Boxed.new (w.alloc (.cells #[.iface ty x] 25)) 73 (.slice (some ⟨w.heap.size, 0, none⟩) 1 1)
  rw [World.size_alloc] at bx
  refine ⟨bx, ⟨rfl, .inr ⟨w.heap.size, 1, #[.iface ty x], rfl, Nat.le_refl _, (l2.block _ (by simp)).trans b1, Nat.le_refl _, by unfold maxLen; omega, rfl, rfl⟩⟩, l1.trans (l2.mono l1.size)⟩
theorem own_fm0 {t : TypeId} {k b : Nat} {w : World} {v : Value} {n : Nat} {xs : List Value} (h : w.ownsRow b t k v n xs) : ∃ A c, v = .slice A n c := by
  rcases h.2 with ⟨rfl, rfl⟩ | ⟨g, c, cs, rfl, _⟩
  · exact ⟨_, _, rfl⟩
  · exact ⟨_, _, rfl⟩
theorem info_err : ∃ i, Tryd.prog.info? 25 = some i ∧ i.zero = some .nilIface ∧ i.size = 1 ∧ i.bytes = 16 := info_parts (show (Tryd.prog.info? 25).map (fun i => (i.zero, i.size, i.bytes)) = some (some .nilIface, 1, 16) by kernel_rfl)
theorem ownFrom_mark {β : Type} {B D : Nat} {o : Obj} (h : D < B) : OwnFrom B (fun (_ : β) W => W.heap[D]? = some o) := fun _ _ _ _ hs hg hr =>
  (hg.block D (Array.getElem?_eq_some_iff.1 hs).1 (fun e => by have := (hr D e.symm).1; omega)).trans hs
theorem roundsIn_eq {F : Fence} {n : Nat} {P : Program} {c : Code} {Q : Exit → Act → World → Prop} {m : Nat} {ds : List Deferred} {w : World} {t t2 : Array Value} (h : t = t2) (k : Code.roundsIn F n P c Q m { tmps := t2, defers := ds } w) : Code.roundsIn F n P c Q m { tmps := t, defers := ds } w := by
  rw [h]; exact k
theorem FnPost.put {a D : Nat} {n : Int} {w W : World} {e : Ending} {o : Obj} (h : FnPost a n w e W) (hD : w.heap.size ≤ D) (ha : a < w.heap.size) : FnPost a n w e (W.putObj D o) :=
  ⟨h.1, (World.putObj_heap_other (by omega)).trans h.2.1, by
    have g := grownBy_putObj' W D o
    exact ⟨g.os.trans h.2.2.os, g.tape.trans h.2.2.tape, g.output.trans h.2.2.output, Nat.le_trans h.2.2.size g.size, fun k hk hne => (g.block k (Nat.lt_of_lt_of_le hk h.2.2.size) (fun e => by injection e with e; omega)).trans (h.2.2.block k hk hne)⟩⟩
/-- marks of ranges over functions: nothing is deferred in them -/
def Mks (ms : List Nat) (W : World) : Prop := ∀ m ∈ ms, W.heap[m]? = some (.deferred (some []))
theorem Mks.own {β : Type} {B : Nat} {ms : List Nat} (h : ∀ m ∈ ms, m < B) : OwnFrom B (fun (_ : β) W => Mks ms W) := fun s A C row hs hg hr m hm =>
  ownFrom_mark (β := β) (h m hm) s A C row (hs m hm) hg hr
theorem Mks.keeps {ms : List Nat} {W W' : World} (h : Mks ms W) (hk : ∀ m ∈ ms, W'.heap[m]? = W.heap[m]?) : Mks ms W' := fun m hm => (hk m hm).trans (h m hm)
theorem Mks.lt {ms : List Nat} {W : World} (h : Mks ms W) : ∀ m ∈ ms, m < W.heap.size := fun m hm => heap_lt (h m hm)
/-- the loop's round -/
noncomputable def findC : Code := match Tryd.f15.body with
  | some (.seq _ (.seq _ (.seq (.seq _ (.block _ (.loop c))) _))) => c
  | _ => .skip
set_option maxRecDepth 100000 in
set_option maxHeartbeats 8000000 in
theorem why_round (N : Nat) (hN : 6 ≤ N) (Q : Exit → Act → World → Prop) (a p Br b c : Nat) (l : Int) (ms : List Nat) (ds : List Deferred) (ty : TypeId) (x : Value) (v0 v7 v8 v11 v12 v13 v14 v15 v16 v17 v18 v19 v20 v21 v22 v23 v24 v25 v26 v27 v28 v29 v30 v31 v32 v33 v34 v35 v36 v37 v38 v39 v40 : Value) (w W : World)
    (hl0 : 0 < l) (hl1 : l ≤ 4194304) (hp : w.cell? ⟨p, 1, none⟩ = some (.iface ty x)) (hBr : w.heap.size ≤ Br) (hR : RwE w Br b c (.iface 33 (.pointer (some ⟨p, 0, none⟩))) W) (hM : Mks ms W)
    (hk : ∀ (W1 : World) (b1 c1 D : Nat) (u0 u7 u8 u11 u12 u13 u14 u15 u16 u17 u18 u19 u20 u21 u22 u23 u24 u25 u26 u27 u28 u29 u30 u31 u32 u33 u34 u35 u36 u37 u38 u39 u40 : Value), w.heap.size ≤ D → (∀ m ∈ ms, m < D) → RwE w Br b1 c1 (.iface ty x) W1 → Mks (D :: ms) W1 → Q .normal { tmps := #[u0, .pointer (some ⟨a, 0, none⟩), undef, undef, .bool false, .pointer (some ⟨Br, 0, none⟩), .int .i64 (l - 1), u7, u8, undef, undef, u11, u12, u13, u14, u15, u16, u17, u18, u19, u20, u21, u22, u23, u24, u25, u26, u27, u28, u29, u30, u31, u32, u33, u34, u35, u36, u37, u38, u39, u40, undef, undef, undef, undef, undef, undef], defers := { target := .collected D, args := #[] } :: ds } W1) :
    findC.wpIn Fence.wide N Tryd.prog Q { tmps := #[v0, .pointer (some ⟨a, 0, none⟩), undef, undef, .bool false, .pointer (some ⟨Br, 0, none⟩), .int .i64 l, v7, v8, undef, undef, v11, v12, v13, v14, v15, v16, v17, v18, v19, v20, v21, v22, v23, v24, v25, v26, v27, v28, v29, v30, v31, v32, v33, v34, v35, v36, v37, v38, v39, v40, undef, undef, undef, undef, undef, undef], defers := ds } W := by
  have h1 : 1 ≤ N := by omega
  have HP := Lib.hid hp
  have HBr := Lib.hid hBr
  have HR := Lib.hid hR
  have HM := Lib.hid hM
  have HK := Lib.hid hk
  clear hp hBr hR hM hk
  unfold findC Tryd.f15
  dsimp only
  have bc := HR.out.box.cell
  have bf := HR.out.box.frozen
  have be := HR.out.at'
  have HN := Lib.hid ((HR.out.pop HBr.out).to (Below.refl _ _).drew)
  have HMv : Hid (Mks ms (W.setCell ⟨Br, 0, none⟩ (.slice (some ⟨b, 0, none⟩) 0 c)).drew) := Lib.hid (fun m hm => (KeepsOthers.setCell W ⟨Br, 0, none⟩ _).same _ _ (HM.out m hm) rfl)
  gi_wp2_with fail
  have hcc := HR.out.cap
  gi_big_region
  clear bc bf be hcc
  generalize (W.setCell ⟨Br, 0, none⟩ (.slice (some ⟨b, 0, none⟩) 0 c)).drew = V at HN HMv ⊢
  have hI := isf_no p ⟨a, 0, none⟩ V
  have hW := within_e p ty x V ((HN.out.below.cell (World.block_lt_of_cell? w _ HP.out)).trans HP.out)
  gi_wp2_with (first
    | (refine ⟨trivial, ?_⟩; gi_at_call 26; refine (callsIn_wide.2 hI).mono ?_; rintro e w' ⟨rfl, rfl⟩)
    | (refine ⟨trivial, ?_⟩; gi_at_call 27; refine (callsIn_wide.2 hW).mono ?_; rintro e w' ⟨rfl, rfl⟩)
    | (refine ⟨trivial, ?_⟩; gi_at_call 28; refine (callsIn_wide.2 (back_e _ _ _ _)).mono ?_; rintro e w' ⟨rfl, rfl⟩))
  clear hI hW
  have hbb : Below V.heap.size V ((V.alloc (.cells #[.iface ty x] 25)).alloc (.cells #[.slice (some ⟨V.heap.size, 0, none⟩) 1 1] 73)) := ((Below.refl _ V).alloc (Nat.le_refl _) _).alloc (by simp) _
  have HL := Lib.hid (HN.out.to hbb)
  have HMx : Hid (Mks ms ((V.alloc (.cells #[.iface ty x] 25)).alloc (.cells #[.slice (some ⟨V.heap.size, 0, none⟩) 1 1] 73))) := Lib.hid (HMv.out.keeps (fun m hm => hbb.block m (HMv.out.lt m hm)))
  have hcb := Boxed.new (V.alloc (.cells #[.iface ty x] 25)) 73 (.slice (some ⟨V.heap.size, 0, none⟩) 1 1)
  rw [World.size_alloc] at hcb
  have hca := (Boxed.new V 25 (.iface ty x)).alloc (.cells #[.slice (some ⟨V.heap.size, 0, none⟩) 1 1] 73)
  have hsz : ((V.alloc (.cells #[.iface ty x] 25)).alloc (.cells #[.slice (some ⟨V.heap.size, 0, none⟩) 1 1] 73)).heap.size = V.heap.size + 2 := by simp
  generalize (V.alloc (.cells #[.iface ty x] 25)).alloc (.cells #[.slice (some ⟨V.heap.size, 0, none⟩) 1 1] 73) = X at HL HMx hcb hca hsz ⊢
  clear hbb
  have HG : Hid (w.heap.size ≤ X.heap.size) := Lib.hid HL.out.below.size
  generalize V.heap.size = g at hcb hca hsz ⊢
  refine wpIn_rangeFunc_ownF rfl h1 (gf := 36) (lb := #[.pointer (some ⟨g + 1, 0, none⟩)]) rfl trivial (enters_of Tryd.func36 (by kernel_rfl) rfl)
    (back_stops (N - 1) (by omega) (g + 1) g ty x X (by omega) (by omega) hcb.cell hca.cell) belowK_t (belowK_b (Nat.zero_le _)) (Below.refl _ _) (fun _ => rfl)
    (fun pre W => (∃ v, Boxed W Br 73 v ∧ W.ownsRow w.heap.size 25 1 v pre.length (pre.map fun _ => (.iface ty x : Value)) ∧ True) ∧ (Below w.heap.size w W ∧ Mks ms W))
    (fun _ _ _ => False)
    (OwnFrom.and (Own.from (holdsRow_own w.heap.size Br 73 25 1 (fun pre : List Unit => pre.length) (fun pre : List Unit => pre.map fun _ => (.iface ty x : Value)) (fun _ _ => True)) _) (OwnFrom.and (ownFrom_below (Nat.le_refl _) HG.out) (Mks.own HMx.out.lt)))
    (fun _ _ _ _ _ hs _ _ => hs)
    ⟨⟨_, HL.out.box, HL.out.row, trivial⟩, HL.out.below, HMx.out⟩
    (fun _ => { tmps := #[.iface 33 (.pointer (some ⟨p, 0, none⟩)), .pointer (some ⟨a, 0, none⟩), undef, undef, .bool false, .pointer (some ⟨Br, 0, none⟩), .int .i64 (l - 1), .int .i64 0, .slice (some ⟨g, 0, none⟩) 1 1, undef, .iface ty x, v11, v12, .int .i64 l, .bool true, .bool true, .slice (some ⟨b, 0, none⟩) 1 c, .int .i64 1, .bool true, .bool true, .slice (some ⟨b, 0, none⟩) 1 c, .int .i64 1, .int .i64 0, .slice (some ⟨b, 0, none⟩) 1 c, .int .i64 0, .pointer (some ⟨b, 0, none⟩), .iface 33 (.pointer (some ⟨p, 0, none⟩)), .slice (some ⟨b, 0, none⟩) 1 c, .int .i64 0, .slice (some ⟨b, 0, none⟩) 0 c, .iface 33 (.pointer (some ⟨p, 0, none⟩)), .pointer (some ⟨a, 0, none⟩), .bool false, .iface 33 (.pointer (some ⟨p, 0, none⟩)), .slice (some ⟨g, 0, none⟩) 1 1, .int .i64 l, .slice (some ⟨g, 0, none⟩) 1 1, .int .i64 1, .int .i64 (l - 1), .slice (some ⟨g, 0, none⟩) 1 1, .func (.func 36) #[] #[.pointer (some ⟨g + 1, 0, none⟩)], .int .i64 0, .iface ty x, undef, undef, undef, undef], defers := [] })
    ?assign ?body ?done ?stop
  case assign =>
    intro l x W K hK
    dsimp only [encB]
    gi_wp2
    exact hK
  case body =>
    rintro l' pre x' W ⟨⟨v, hv, hrow, _⟩, hB1, hm1⟩ hlt
    obtain rfl : pre = [] := List.length_eq_zero_iff.1 (by omega)
    obtain ⟨v0', w0', rfl⟩ := own_fm0 hrow
    have hrow0 : W.ownsRow w.heap.size 25 1 (.slice v0' 0 w0') 0 [] := hrow
    obtain ⟨i0, hi, hz0, hz1, hz2⟩ := info_err
    have hc := hv.cell
    have hfz := hv.frozen
    have hszB := hB1.size
    have HM1 := Lib.hid hm1
    clear hm1
    gi_wp2_with (gi_at_builtin; refine wpListIn_append_own _ rfl _ _ 73 rfl w.heap.size 25 i0 .nilIface 1 16 Tryd.underlying73 hi hz0 hz1 hz2 rfl (by decide) _ _ _ rfl (hrow0.alloc _) ⟨W.heap.size, 0, none⟩ 1 1 [.iface ty x] rfl rfl (cell_one_new _ _ _) (by simp [Value.oneCell']) (by unfold maxLen; omega) (by omega) (by simp; omega) ?_; intro v' w1 hown' hgrow _; obtain ⟨g', cap', rfl⟩ := ownsRow_succ hown'; obtain ⟨hv1, hv2, hr2, hk2, hb2⟩ := hv.appended (by decide) hrow hB1.size HBr.out hown' hgrow; have hc1 := hv1.cell; have hf1 := hv1.frozen)
    exact ⟨hk2, hb2.mono (Nat.zero_le _), ⟨_, hv2, hr2, trivial⟩, hB1.trans hb2, fun m hm => hk2.same _ _ (HM1.out m hm) rfl⟩
  case stop =>
    rintro D cc pre W hD hS h
    exact h.elim
  case done =>
    rintro D ys W1 hD rfl ⟨⟨v, hv, hrow, _⟩, hB1, hm1⟩ hK0
    obtain ⟨b1, c1, rfl⟩ := ownsRow_succ hrow
    have HGo := Lib.hid (HK.out W1 b1 c1 D)
    have HR1 : Hid (RwE w Br b1 c1 (.iface ty x) W1) := Lib.hid ⟨hv, hrow, hB1⟩
    have HD : Hid (w.heap.size ≤ D) := Lib.hid (Nat.le_trans HG.out hD)
    have HLt : Hid (∀ m ∈ ms, m < D) := Lib.hid (fun m hm => Nat.lt_of_lt_of_le (HMx.out.lt m hm) hD)
    have HMd : Hid (Mks (D :: ms) W1) := Lib.hid (fun m hm => by
      rcases List.mem_cons.1 hm with rfl | hm
      · exact hK0
      · exact hm1 m hm)
    clear hv hrow hB1 hK0 hD hm1 hcb hca hsz HK
    gi_wp2
    exact HGo.out _ _ _ _ _ _ _ _ _ _ _ _ _ _ _ _ _ _ _ _ _ _ _ _ _ _ _ _ _ _ _ _ _ HD.out HLt.out HR1.out HMd.out
set_option maxRecDepth 100000 in
set_option maxHeartbeats 8000000 in
theorem num_round (N : Nat) (hN : 6 ≤ N) (Q : Exit → Act → World → Prop) (a Br b c : Nat) (l n old : Int) (ms : List Nat) (ds : List Deferred) (v0 v7 v8 v11 v12 v13 v14 v15 v16 v17 v18 v19 v20 v21 v22 v23 v24 v25 v26 v27 v28 v29 v30 v31 v32 v33 v34 v35 v36 v37 v38 v39 v40 : Value) (w W : World)
    (hl0 : 0 < l) (ha : w.heap[a]? = some (.cells #[.int .i64 old] 30 (0, 0))) (hBr : w.heap.size ≤ Br) (hR : RwE w Br b c (.iface 30 (.int .i64 n)) W) (hM : Mks ms W)
    (hk : ∀ (Y : World) (t : Array Value), t.getD 4 undef = .bool true → FnPost a n w (.returned (.bool true)) Y → Mks ms Y → Q .ret { tmps := t, defers := ds } Y) :
    findC.wpIn Fence.wide N Tryd.prog Q { tmps := #[v0, .pointer (some ⟨a, 0, none⟩), undef, undef, .bool false, .pointer (some ⟨Br, 0, none⟩), .int .i64 l, v7, v8, undef, undef, v11, v12, v13, v14, v15, v16, v17, v18, v19, v20, v21, v22, v23, v24, v25, v26, v27, v28, v29, v30, v31, v32, v33, v34, v35, v36, v37, v38, v39, v40, undef, undef, undef, undef, undef, undef], defers := ds } W := by
  have h1 : 1 ≤ N := by omega
  have HA := Lib.hid ha
  have HBr := Lib.hid hBr
  have HR := Lib.hid hR
  have HM := Lib.hid hM
  have HK := Lib.hid hk
  clear ha hBr hR hM hk
  unfold findC Tryd.f15
  dsimp only
  have bc := HR.out.box.cell
  have bf := HR.out.box.frozen
  have be := HR.out.at'
  have HN := Lib.hid ((HR.out.pop HBr.out).to (Below.refl _ _).drew)
  have HMv : Hid (Mks ms (W.setCell ⟨Br, 0, none⟩ (.slice (some ⟨b, 0, none⟩) 0 c)).drew) := Lib.hid (fun m hm => (KeepsOthers.setCell W ⟨Br, 0, none⟩ _).same _ _ (HM.out m hm) rfl)
  gi_wp2_with fail
  have hcc := HR.out.cap
  gi_big_region
  clear bc bf be hcc
  generalize (W.setCell ⟨Br, 0, none⟩ (.slice (some ⟨b, 0, none⟩) 0 c)).drew = V at HN HMv ⊢
  have HAL := Lib.hid (heap_lt HA.out)
  have HA1 := Lib.hid ((HN.out.below.block _ HAL.out).trans HA.out)
  have hC : Calls Tryd.prog 26 #[.iface 30 (.int .i64 n), .pointer (some ⟨a, 0, none⟩)] V fun e w' => e = .returned (.bool true) ∧ w' = V.setCell ⟨a, 0, none⟩ (.int .i64 n) :=
    isf_yes n ⟨a, 0, none⟩ (.int .i64 old) V ((cell_of_row _ a 0 _ _ _ HA1.out).trans rfl) (frozen_of_row V a 0 _ _ HA1.out)
  have HF : Hid (FnPost a n w (.returned (.bool true)) (V.setCell ⟨a, 0, none⟩ (.int .i64 n))) := Lib.hid ⟨rfl, heap_setCell_same V a 0 _ _ (.int .i64 n) HA1.out, grown_trans (grown_below HN.out.below) (grown_set V a 0 _)⟩
  have HMb : Hid (Mks ms (V.setCell ⟨a, 0, none⟩ (.int .i64 n))) := Lib.hid (fun m hm => (KeepsOthers.setCell V ⟨a, 0, none⟩ (.int .i64 n)).same _ _ (HMv.out m hm) rfl)
  gi_wp2_with (refine ⟨trivial, ?_⟩; gi_at_call 26; refine (callsIn_wide.2 hC).mono ?_; rintro e w' ⟨rfl, rfl⟩)
  refine HK.out _ _ ?_ HF.out HMb.out
  rfl
end Go.Proofs.YtocmanmogfedoaaDoor
