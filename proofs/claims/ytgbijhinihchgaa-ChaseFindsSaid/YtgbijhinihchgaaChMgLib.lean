/-
  Records, messages and seeds as they lie in memory. Conditions: each states its own.
-/
import Derived.Test.YtgbijhinihchgaaChSRec
namespace Go.Proofs.Ytgbijhinihchgaa
open Go.RowKit
section
variable {b s t : List UInt8} {p : Nat}
end
end Go.Proofs.Ytgbijhinihchgaa
namespace Go.Proofs.Ytgbijhinihchgaa
open Go.RowKit
/-- what a message says, wherever its lists lie -/
def MV.nrm (m : MV) : MV := ⟨m.id, m.rp, m.tr, m.rc, m.code, m.qn, m.qt, none, 0, m.an, none, 0, m.au⟩
def lb16 (s : ByteArray) : Prop := (sp s.data.toList).length ≤ 16
end Go.Proofs.Ytgbijhinihchgaa
namespace Go.Proofs.Ytgbijhinihchgaa
open Go.RowKit
end Go.Proofs.Ytgbijhinihchgaa
namespace Go.Proofs.Ytgbijhinihchgaa
open Go.RowKit
def bN (n : Int) (q : Nat) : Nat := (bits BinOp.and IntKind.i64 n (q : Nat)).toNat
theorem bN_e (n : Int) (q : Nat) (hq : q < 1000000) : bits BinOp.and IntKind.i64 n (q : Nat) = (bN n q : Int) ∧ bN n q ≤ q := by
  have hle : (BitVec.ofInt 64 n &&& BitVec.ofInt 64 (q : Nat)).toNat ≤ q := by
    rw [BitVec.toNat_and]
    refine Nat.le_trans Nat.and_le_right ?_
    rw [BitVec.ofInt_natCast, BitVec.toNat_ofNat]
    exact Nat.mod_le _ _
  have h : bits BinOp.and IntKind.i64 n (q : Nat) = ((BitVec.ofInt 64 n &&& BitVec.ofInt 64 (q : Nat)).toNat : Int) := by
    show IntKind.i64.wrap ((BitVec.ofInt 64 n &&& BitVec.ofInt 64 (q : Nat)).toNat : Int) = _
    exact IntWalk.i64_in _ (by omega)
  unfold bN
  rw [h]
  exact ⟨rfl, hle⟩
/-- a seed's record -/
def seedR (s : SV) : RV := srV (bs (plN (bN s.n 7))) (bs (plN (bN (s.n / 8) 7))) (bN s.t 65535) s.ad s.da (bN s.k 7)
theorem seed_e (s : SV) (hf : s.Fits) (W : World) : Calls Try.prog 15 #[.agg s.cells] W fun e w' => e = .returned (.agg (seedR s).cells) ∧ Below W.heap.size W w' :=
  srec_e s hf (bN s.n 7) (bN (s.n / 8) 7) (bN s.t 65535) (bN s.k 7) (bN_e _ 7 (by omega)).2 (bN_e _ 7 (by omega)).2 (bN_e _ 7 (by omega)).1 (bN_e _ 7 (by omega)).2 (bN_e _ 7 (by omega)).1 (bN_e _ 7 (by omega)).1 (bN_e _ 65535 (by omega)).1 W
theorem plB : ∀ i : Fin 8, gosB (bs (plN i.val)) = true ∧ (sp (plN i.val)).length ≤ 16 ∧ (plN i.val).length ≤ 16 := by decide +kernel
theorem cut255_len (d : ByteArray) : (cut255 d).size ≤ 255 := by
  unfold cut255
  rw [ByteArray.size_extract]
  omega
theorem eqB_refl (r : RV) : r.eqB r = true := by unfold RV.eqB; simp
/-- all that is wanted of a seed's record -/
structure SrOk (r : RV) : Prop where
  ok : rvOk r = true
  fits : r.Fits
  nm : lb16 r.nm
  tx : lb16 r.tx
theorem srV_ok {i i2 T j : Nat} {ad : List UInt8} {da : ByteArray} (hi : i ≤ 7) (hi2 : i2 ≤ 7) (hT : T ≤ 65535) (had : ad.length = 16) : SrOk (srV (bs (plN i)) (bs (plN i2)) T ad da j) := by
  obtain ⟨g1, l1, z1⟩ := plB ⟨i, by omega⟩
  obtain ⟨g2, l2, z2⟩ := plB ⟨i2, by omega⟩
  simp only at g1 l1 z1 g2 l2 z2
  have hb : btw 0 (T : Int) 1048576 = true := decide_eq_true (by omega)
  have hml : (16 : Nat) ≤ maxLen := by unfold maxLen; omega
  have hm255 : (255 : Nat) ≤ maxLen := by unfold maxLen; omega
  have hs1 : (bs (plN i)).size ≤ maxLen := Nat.le_trans z1 hml
  have hs2 : (bs (plN i2)).size ≤ maxLen := Nat.le_trans z2 hml
  have he : emp.size ≤ maxLen := by decide
  have hl0 : lb16 emp := by unfold lb16; decide
  have hc := cut255_len da
  have h4 : (pre4 ++ ad.take 4).length = 16 := by rw [List.length_append, List.length_take, had]; rfl
  unfold srV
  split
  · refine ⟨?_, ⟨h4, hs1, he, he⟩, l1, hl0⟩
    unfold rvOk; simp only; rw [g1, hb, if_pos trivial, eqB_refl, show (pre4 ++ ad.take 4 == pre4 ++ (pre4 ++ ad.take 4).drop 12) = true by rw [show (pre4 ++ ad.take 4).drop 12 = ad.take 4 from rfl]; simp]; decide
  · refine ⟨?_, ⟨h4, hs1, he, he⟩, l1, hl0⟩
    unfold rvOk; simp only; rw [g1, hb, if_pos trivial, eqB_refl, show (pre4 ++ ad.take 4 == pre4 ++ (pre4 ++ ad.take 4).drop 12) = true by rw [show (pre4 ++ ad.take 4).drop 12 = ad.take 4 from rfl]; simp]; decide
  · refine ⟨?_, ⟨had, hs1, he, he⟩, l1, hl0⟩
    unfold rvOk; simp only; rw [g1, hb, if_neg (by omega), if_pos trivial, eqB_refl]; decide
  · refine ⟨?_, ⟨had, hs1, he, he⟩, l1, hl0⟩
    unfold rvOk; simp only; rw [g1, hb, if_neg (by omega), if_pos trivial, eqB_refl]; decide
  · refine ⟨?_, ⟨rfl, hs1, hs2, he⟩, l1, l2⟩
    unfold rvOk; simp only; rw [g1, hb, g2, if_neg (by omega), if_neg (by omega), if_pos (by simp), eqB_refl]; decide
  · refine ⟨?_, ⟨rfl, hs1, hs2, he⟩, l1, l2⟩
    unfold rvOk; simp only; rw [g1, hb, g2, if_neg (by omega), if_neg (by omega), if_pos (by simp), eqB_refl]; decide
  · refine ⟨?_, ⟨rfl, hs1, he, Nat.le_trans hc hm255⟩, l1, hl0⟩
    unfold rvOk; simp only; rw [g1, hb, if_neg (by omega), if_neg (by omega), if_neg (by omega), eqB_refl, decide_eq_true hc]; decide
  · refine ⟨?_, ⟨rfl, hs1, he, Nat.le_trans hc hm255⟩, l1, hl0⟩
    unfold rvOk; simp only; rw [g1, hb, if_neg (by omega), if_neg (by omega), if_neg (by omega), eqB_refl, decide_eq_true hc]; decide
theorem seedR_ok {s : SV} (hf : s.Fits) : SrOk (seedR s) := srV_ok (bN_e _ 7 (by omega)).2 (bN_e _ 7 (by omega)).2 (bN_e _ 65535 (by omega)).2 hf.ad
def soaB (r : RV) : Bool := r.ty == 6
def anL (l : List SV) : List RV := (l.map seedR).filter (fun r => !soaB r)
def auL (l : List SV) : List RV := (l.map seedR).filter soaB
theorem anL_snoc (l : List SV) (s : SV) : anL (l ++ [s]) = if soaB (seedR s) = true then anL l else anL l ++ [seedR s] := by
  unfold anL
  rw [List.map_append, List.filter_append, List.map_singleton]
  by_cases h : soaB (seedR s) = true
  · rw [if_pos h, List.filter_cons_of_neg (by simp [h]), List.filter_nil, List.append_nil]
  · rw [if_neg h, List.filter_cons_of_pos (by simp [h]), List.filter_nil]
theorem auL_snoc (l : List SV) (s : SV) : auL (l ++ [s]) = if soaB (seedR s) = true then auL l ++ [seedR s] else auL l := by
  unfold auL
  rw [List.map_append, List.filter_append, List.map_singleton]
  by_cases h : soaB (seedR s) = true
  · rw [if_pos h, List.filter_cons_of_pos h, List.filter_nil]
  · rw [if_neg h, List.filter_cons_of_neg h, List.filter_nil, List.append_nil]
theorem anL_mem {l : List SV} (hf : ∀ s ∈ l, s.Fits) {r : RV} (h : r ∈ anL l) : SrOk r ∧ r.ty ≠ 6 := by
  unfold anL at h
  obtain ⟨h1, h2⟩ := List.mem_filter.1 h
  obtain ⟨s, hs, rfl⟩ := List.mem_map.1 h1
  exact ⟨seedR_ok (hf s hs), fun e => by unfold soaB at h2; rw [e] at h2; simp at h2⟩
theorem auL_mem {l : List SV} (hf : ∀ s ∈ l, s.Fits) {r : RV} (h : r ∈ auL l) : SrOk r ∧ r.ty = 6 := by
  unfold auL at h
  obtain ⟨h1, h2⟩ := List.mem_filter.1 h
  obtain ⟨s, hs, rfl⟩ := List.mem_map.1 h1
  exact ⟨seedR_ok (hf s hs), eq_of_beq h2⟩
theorem anL_len (l : List SV) : (anL l).length ≤ l.length := by
  unfold anL
  exact Nat.le_trans (List.length_filter_le _ _) (by rw [List.length_map]; exact Nat.le_refl _)
theorem auL_len (l : List SV) : (auL l).length ≤ l.length := by
  unfold auL
  exact Nat.le_trans (List.length_filter_le _ _) (by rw [List.length_map]; exact Nat.le_refl _)
def flB (fl : Int) (q : Nat) : Bool := decide (0 < bN fl q)
def codeN (n : Nat) : Int := ([0, 0, 3, 2] : List Int).getD n 0
/-- the message of seeds -/
def mgM (id fl : Int) (q : SV) (l : List SV) : MV := ⟨(bN id 65535 : Nat), flB fl 1, flB fl 2, flB fl 4, codeN (bN (fl / 8) 3), bs (plN (bN q.n 7)), (seedR q).ty, none, 0, anL (l.take 32), none, 0, auL (l.take 32)⟩
/-- the message's cells by its two lists -/
def mgC (D : Int) (rp tr rc : Bool) (code : Int) (S : ByteArray) (ty : Int) (v u : Value) : Array Value := #[.int .i64 D, .bool rp, .bool tr, .bool rc, .int .i64 code, .string S, .int .i64 ty, v, u]
theorem rcs_cell1 {r : RV} {l : List RV} : (rcs (r :: l))[1]? = some (.int .i64 r.ty) := by
  unfold rcs
  rw [List.flatMap_cons, List.getElem?_append_left (by unfold RV.cells; simp), Array.getElem?_toList]
  exact r.c1
/-- the loop's blocks as they stand -/
structure MgL (base : Nat) (w wr : World) (g : Nat) (C : Value → Value → Array Value) (an au : List RV) (v u : Value) : Prop where
  z : wr.heap[w.heap.size + 1]? = some (.cells zMsg 32 (0, 0))
  ms : wr.heap[g]? = some (.cells (C v u) 32 (0, 0))
  ov : wr.ownsRow base 41 21 v an.length (rcs an)
  ou : wr.ownsRow base 41 21 u au.length (rcs au)
  nv : an = [] → v = .slice none 0 0
  nu : au = [] → u = .slice none 0 0
  below : Below w.heap.size w wr
  hg : g < base
  hw : w.heap.size + 1 < g
  hb : base ≤ wr.heap.size
theorem own_apart {W : World} {base : Nat} {v u : Value} {an au : List RV} (ov : W.ownsRow base 41 21 v an.length (rcs an)) (ou : W.ownsRow base 41 21 u au.length (rcs au)) (nv : an = [] → v = .slice none 0 0) (nu : au = [] → u = .slice none 0 0)
    (ha : ∀ r ∈ an, r.ty ≠ 6) (hu : ∀ r ∈ au, r.ty = 6) : (v.ownBlock = none ∨ v.ownBlock ≠ u.ownBlock) ∧ (u.ownBlock = none ∨ u.ownBlock ≠ v.ownBlock) := by
  have key : ∀ b, v.ownBlock = some b → u.ownBlock = some b → False := fun b hv hub => by
    rcases an with _ | ⟨r, an⟩
    · rw [nv rfl] at hv; cases hv
    · rcases au with _ | ⟨s, au⟩
      · rw [nu rfl] at hub; cases hub
      · have c1 := ov.cells hv 1 _ rcs_cell1
        have c2 := ou.cells hub 1 _ rcs_cell1
        rw [c1] at c2
        injection c2 with c2
        injection c2 with _ c2
        exact ha r (by simp) (c2.trans (hu s (by simp)))
  constructor
  · cases hv : v.ownBlock with
    | none => exact .inl rfl
    | some b => exact .inr fun e => key b hv e.symm
  · cases hub : u.ownBlock with
    | none => exact .inl rfl
    | some b => exact .inr fun e => key b e.symm hub
section
variable {base g : Nat} {w wr W w1 : World} {C : Value → Value → Array Value} {an au : List RV} {v u v1 : Value} {r : RV}
theorem MgL.to (h : MgL base w wr g C an au v u) (hb : Below wr.heap.size wr W) : MgL base w W g C an au v u :=
  ⟨(hb.block _ (heap_lt h.z)).trans h.z, (hb.block g (heap_lt h.ms)).trans h.ms, h.ov.kept (show wr.grownBy W none from ⟨hb.os, hb.tape, hb.output, hb.size, fun k hk _ => hb.block k hk⟩) (Classical.em _),
    h.ou.kept (show wr.grownBy W none from ⟨hb.os, hb.tape, hb.output, hb.size, fun k hk _ => hb.block k hk⟩) (Classical.em _), h.nv, h.nu, h.below.trans (hb.mono h.below.size), h.hg, h.hw, Nat.le_trans h.hb hb.size⟩
theorem MgL.appA (h : MgL base w wr g C an au v u) (ha : ∀ r ∈ an, r.ty ≠ 6) (hu : ∀ r ∈ au, r.ty = 6) (hC : ∀ v u v1, (C v u).setIfInBounds 7 v1 = C v1 u)
    (ho : w1.ownsRow base 41 21 v1 (an.length + 1) (rcs an ++ r.cells.toList)) (hg : wr.grownBy w1 v.ownBlock) :
    w1.heap[g]? = some (.cells (C v u) 32 (0, 0)) ∧ MgL base w (w1.setCell ⟨g, 7, none⟩ v1) g C (an ++ [r]) au v1 u := by
  have hgb := h.hg
  have hw := h.hw
  have h1 : w1.heap[g]? = some (.cells (C v u) 32 (0, 0)) := (hg.block g (heap_lt h.ms) (fun e => by have := (h.ov.lt g e.symm).1; omega)).trans h.ms
  refine ⟨h1, ?_, ?_, ?_, ?_, fun e => by simp at e, h.nu, ?_, h.hg, h.hw, by have := hg.size; have := h.hb; simp; omega⟩
  · exact (Below.heap_setCell w1 ⟨g, 7, none⟩ v1 _ (by show w.heap.size + 1 ≠ g; omega)).trans ((hg.block _ (heap_lt h.z) (fun e => by have := (h.ov.lt _ e.symm).1; omega)).trans h.z)
  · rw [← hC v u v1]
    exact heap_setCell_same w1 g 7 _ _ v1 h1
  · rw [List.length_append, rcs_snoc]
    exact ho.kept (grown_set w1 g 7 v1) (.inr (fun e => by have := (ho.lt g e).1; omega))
  · exact (h.ou.kept hg (own_apart h.ov h.ou h.nv h.nu ha hu).2).kept (grown_set w1 g 7 v1) (.inr (fun e => by have := (h.ou.lt g e).1; omega))
  · exact (h.below.grown hg h.below.size (fun j hj => by have := (h.ov.lt j hj).1; omega)).setCell (p := ⟨g, 7, none⟩) (by show w.heap.size ≤ g; omega) _
theorem MgL.appU (h : MgL base w wr g C an au v u) (ha : ∀ r ∈ an, r.ty ≠ 6) (hu : ∀ r ∈ au, r.ty = 6) (hC : ∀ v u v1, (C v u).setIfInBounds 8 v1 = C v v1)
    (ho : w1.ownsRow base 41 21 v1 (au.length + 1) (rcs au ++ r.cells.toList)) (hg : wr.grownBy w1 u.ownBlock) :
    w1.heap[g]? = some (.cells (C v u) 32 (0, 0)) ∧ MgL base w (w1.setCell ⟨g, 8, none⟩ v1) g C an (au ++ [r]) v v1 := by
  have hgb := h.hg
  have hw := h.hw
  have h1 : w1.heap[g]? = some (.cells (C v u) 32 (0, 0)) := (hg.block g (heap_lt h.ms) (fun e => by have := (h.ou.lt g e.symm).1; omega)).trans h.ms
  refine ⟨h1, ?_, ?_, ?_, ?_, h.nv, fun e => by simp at e, ?_, h.hg, h.hw, by have := hg.size; have := h.hb; simp; omega⟩
  · exact (Below.heap_setCell w1 ⟨g, 8, none⟩ v1 _ (by show w.heap.size + 1 ≠ g; omega)).trans ((hg.block _ (heap_lt h.z) (fun e => by have := (h.ou.lt _ e.symm).1; omega)).trans h.z)
  · rw [← hC v u v1]
    exact heap_setCell_same w1 g 8 _ _ v1 h1
  · exact (h.ov.kept hg (own_apart h.ov h.ou h.nv h.nu ha hu).1).kept (grown_set w1 g 8 v1) (.inr (fun e => by have := (h.ov.lt g e).1; omega))
  · rw [List.length_append, rcs_snoc]
    exact ho.kept (grown_set w1 g 8 v1) (.inr (fun e => by have := (ho.lt g e).1; omega))
  · exact (h.below.grown hg h.below.size (fun j hj => by have := (h.ou.lt j hj).1; omega)).setCell (p := ⟨g, 8, none⟩) (by show w.heap.size ≤ g; omega) _
end
theorem own_recs {W : World} {base c : Nat} {A : Option Addr} {rs : List RV} (h : W.ownsRow base 41 21 (.slice A rs.length c) rs.length (rcs rs)) (had : ∀ r ∈ rs, r.ad.length = 16) : RecsAt W A rs := fun h0 => by
  rcases h.2 with ⟨_, h1⟩ | ⟨g, cap, cur, hv, hb, hg, _⟩
  · omega
  · injection hv with h1 h2 h3
    subst h1
    exact recs_part (a := 0) (fun i u hu => by
      have := h.cells (g := g) rfl i u hu
      rwa [Addr.add_lit, Nat.zero_add] at this) (heap_lt hg) had rs (fun i r hr => by rw [Nat.zero_add]; exact hr) rfl h0
theorem sizeM_9 : (Try.prog.info? 32).map (·.size) = some 9 := sizeM
/-- what is made while the message is built: the codes, the message's block -/
structure MgB (W0 x : World) (B A : Option Nat) : Prop where
  below : Below W0.heap.size W0 x
  b : ∀ g, B = some g → x.heap[g]? = some (.cells #[.int .i64 0, .int .i64 0, .int .i64 3, .int .i64 2] 3 (0, 0))
  a : ∀ g, A = some g → x.heap[g]? = some (.cells zMsg 32 (0, 0)) ∧ W0.heap.size ≤ g
theorem MgB.to {W0 x y : World} {B A : Option Nat} (h : MgB W0 x B A) (hb : Below x.heap.size x y) : MgB W0 y B A :=
  ⟨h.below.trans (hb.mono h.below.size), fun g e => (hb.block g (heap_lt (h.b g e))).trans (h.b g e), fun g e => ⟨(hb.block g (heap_lt (h.a g e).1)).trans (h.a g e).1, (h.a g e).2⟩⟩
theorem MgB.withB {W0 x : World} {A : Option Nat} (h : MgB W0 x none A) : MgB W0 (x.alloc (.cells #[.int .i64 0, .int .i64 0, .int .i64 3, .int .i64 2] 3)) (some x.heap.size) A := by
  have h2 := h.to ((Below.refl _ x).alloc (Nat.le_refl _) (.cells #[.int .i64 0, .int .i64 0, .int .i64 3, .int .i64 2] 3))
  refine ⟨h2.below, fun g e => ?_, h2.a⟩
  injection e with e
  subst e
  exact heap_alloc_last x _
theorem MgB.withA {W0 x : World} {B : Option Nat} (h : MgB W0 x B none) : MgB W0 (x.alloc (.cells zMsg 32)) B (some x.heap.size) := by
  have h2 := h.to ((Below.refl _ x).alloc (Nat.le_refl _) (.cells zMsg 32))
  refine ⟨h2.below, h2.b, fun g e => ?_⟩
  injection e with e
  subst e
  exact ⟨heap_alloc_last x _, h.below.size⟩
structure MgF (w wx : World) (g : Nat) (C : Array Value) : Prop where
  z : wx.heap[w.heap.size + 1]? = some (.cells zMsg 32 (0, 0))
  m : wx.heap[g]? = some (.cells C 32 (0, 0))
  below : Below w.heap.size w wx
  hg : w.heap.size + 1 < g
theorem code_at {cc : Nat} (h : cc ≤ 3) : (#[.int .i64 0, .int .i64 0, .int .i64 3, .int .i64 2] : Array Value)[cc]? = some (.int .i64 (codeN cc)) := by
  rcases (show cc = 0 ∨ cc = 1 ∨ cc = 2 ∨ cc = 3 by omega) with rfl | rfl | rfl | rfl <;> rfl
set_option maxRecDepth 100000 in
theorem field_tyM (r : RV) (h : r.ad.length = 16) (W : World) : (Instr.field 41 (.agg r.cells) 1).run Try.prog W = .ok (.int .i64 r.ty) W := by
  obtain ⟨nm, ty, ttl, ad, tx, da⟩ := r
  rcases ad with _ | ⟨a0, _ | ⟨a1, _ | ⟨a2, _ | ⟨a3, _ | ⟨a4, _ | ⟨a5, _ | ⟨a6, _ | ⟨a7, _ | ⟨a8, _ | ⟨a9, _ | ⟨a10, _ | ⟨a11, _ | ⟨a12, _ | ⟨a13, _ | ⟨a14, _ | ⟨a15, _ | ⟨b, l⟩⟩⟩⟩⟩⟩⟩⟩⟩⟩⟩⟩⟩⟩⟩⟩⟩ <;> first | (simp at h; done) | kernel_rfl
end Go.Proofs.Ytgbijhinihchgaa
