/-
  The walks of a writer's methods question and data. Conditions: what is told may be, and what is written is not too long.
-/
import Derived.Test.YtakfokdjdljjjaaDoorMsgName
import Derived.Test.YtakfokdjdljjjaaDoorMsgRight
import Derived.Deep.RegionLaw
namespace Go.Proofs.YtakfokdjdljjjaaDoor
open Go.RowKit Go.Maps

def RV.rec_ (r : RV) : Rec := ⟨r.nm.data.toList, r.ty.toNat, r.ttl.toNat, r.ad, r.tx.data.toList, r.da.data.toList⟩
theorem WAt.size {base g : Nat} {w : World} {b : List UInt8} {st : St} (h : WAt base w g b st) : base ≤ w.heap.size := by obtain ⟨v, mb, n, D, h, _⟩ := h; exact h.hb
theorem WAt.alloc {base g : Nat} {w : World} {b : List UInt8} {st : St} (h : WAt base w g b st) (o : Obj) : WAt base (w.alloc o) g b st := h.below ((Below.refl _ w).alloc (Nat.le_refl _) o)
theorem encN_len (L : List (List UInt8)) : ∀ (pos : Nat) (st : St), (encN pos st L).1.length ≤ (L.map (·.length)).sum + L.length + 2 := by
  induction L with
  | nil => intro pos st; simp [encN]
  | cons x l ih =>
    intro pos st
    cases h : st (jn (x :: l)) with
    | some p => rw [encN_hit (by simp) h]; simp [be2]
    | none =>
      rw [encN_miss h]
      have := ih (pos + 1 + x.length) (if pos < 16384 then st.put (jn (x :: l)) pos else st)
      simp only [List.length_append, List.length_cons, List.map_cons, List.sum_cons]
      omega
theorem jn_sum : ∀ (L : List (List UInt8)), L ≠ [] → (L.map (·.length)).sum + L.length = (jn L).length + 1
  | [], h => absurd rfl h
  | [x], _ => by simp [jn]
  | x :: y :: t, _ => by
    have := jn_sum (y :: t) (by simp)
    rw [jn_cons x (by simp), List.length_append, List.map_cons, List.sum_cons]
    simp only [List.length_cons] at this ⊢
    omega
theorem encN_len' {s : List UInt8} (hs : s.length ≤ 253) (pos : Nat) (st : St) : (encN pos st (sp s)).1.length ≤ 256 := by
  have h1 := encN_len (sp s) pos st
  have h2 := jn_sum (sp s) (sp_ne s)
  rw [jn_sp] at h2
  omega
theorem gos_len {s : ByteArray} (h : gosB s = true) : s.data.toList.length ≤ 253 := by
  unfold gosB nmOk at h
  simp only [Bool.and_eq_true, decide_eq_true_eq] at h
  exact h.1.1

set_option maxRecDepth 100000 in
set_option maxHeartbeats 2000000 in
theorem question_any (base g : Nat) (b : List UInt8) (st : St) (s : ByteArray) (ty : Int) (w : World) (he : Env w) (hB : 0 < base) (h : WAt base w g b st) (hb0 : 0 < b.length) (hs : gosB s = true) (hty : 0 ≤ ty) (hl : b.length + 30000 ≤ 100000000) :
    Calls Tryd.prog 18 #[.pointer (some ⟨g, 0, none⟩), .agg #[.string s, .int .i64 ty]] w fun e w' => WPost base w g (b ++ (encQ b.length st s.data.toList ty.toNat).1) (encQ b.length st s.data.toList ty.toNat).2 e w' := by
  have C := name_any base g b st s (w.alloc (.cells #[.string s, .int .i64 ty] 28)) (he.below ((Below.refl _ w).alloc (Nat.le_refl _) _)) hB (h.alloc _) hb0 hs (by omega)
  have hn := encN_len' (gos_len hs) b.length st
  have HS := Lib.hid h.size
  have HN := Lib.hid hn
  have HT : Hid (∀ c s', (encN b.length st (sp s.data.toList)) = (c, s') → (encQ b.length st s.data.toList ty.toNat) = (c ++ (be2 ty.toNat ++ be2 1), s')) := Lib.hid (fun c s' e => by unfold encQ; rw [e])
  have hlen : ∃ c s', encN b.length st (sp s.data.toList) = (c, s') := ⟨_, _, rfl⟩
  obtain ⟨c, s', hcs⟩ := hlen
  rw [hcs] at C hn
  have HQ := Lib.hid (HT.out c s' hcs)
  have HC := Lib.hid hcs
  simp only at hn
  clear h hs he hcs HT HN
  go_enter Tryd.func18, Tryd.ntmps18
  go_wp2_with fail
  refine C.mono ?_
  rintro e w1 ⟨rfl, hw1, hb1, hk1⟩
  clear C
  have hblk := hk1 w.heap.size _ _ _ (by decide) (by decide) (heap_alloc_last w (.cells #[.string s, .int .i64 ty] 28))
  have c1 : w1.cell? ⟨w.heap.size, 1, none⟩ = some (.int .i64 ty) := cell_of_row w1 _ 1 _ _ _ hblk
  have HW1 := Lib.hid hw1
  have HB1 := Lib.hid (((Below.refl base w).alloc HS.out _).trans hb1)
  have HK1 := Lib.hid (((Keeps.refl w).alloc _).trans hk1)
  clear hw1 hb1 hk1 hblk
  go_wp2_with fail
  refine (two_any base g (b ++ c) s' ty w1 HW1.out hty (by rw [List.length_append]; omega)).mono ?_
  rintro e w2 ⟨rfl, hw2, hb2, hk2⟩
  have HW2 := Lib.hid hw2
  have HB2 := Lib.hid (HB1.out.trans hb2)
  have HK2 := Lib.hid (HK1.out.trans hk2)
  clear hw2 hb2 hk2 c1
  go_wp2_with fail
  refine (two_any base g (b ++ c ++ be2 ty.toNat) s' 1 w2 HW2.out (by omega) (by simp only [List.length_append, be2, List.length_cons, List.length_nil]; omega)).mono ?_
  rintro e w3 ⟨rfl, hw3, hb3, hk3⟩
  have HW3 := Lib.hid hw3
  have HB3 := Lib.hid (HB2.out.trans hb3)
  have HK3 := Lib.hid (HK2.out.trans hk3)
  clear hw3 hb3 hk3
  go_wp2_with fail
  refine bodyPost_ret (results_none rfl _ _ _) rfl ?_
  rw [HQ.out]
  refine ⟨rfl, ?_, HB3.out, HK3.out⟩
  have := HW3.out
  rw [show (1 : Int).toNat = 1 from rfl, List.append_assoc, List.append_assoc] at this
  exact this

/-- append to a writer's bytes, as a step of a region that draws its order -/
theorem step_append_w {w : World} {base g mb nn : Nat} {b : List UInt8} {st : St} {v : Value} {D : DataW Unit} (HI : WIs base w g b st v mb nn D)
    {ops : Array Oper} {o : Oper} {a : Act} {K : Act → World → Prop} {Q : Exit → Act → World → Prop} {E : Prop} (hgd : o.guard = none) (s x : Operand)
    (ho : o.op = .call { callee := .builtin .append, args := #[s, x], argTypes := #[32, 32] }) (hs : a.eval s = v)
    (ad : Addr) (m mc : Nat) (cs : List UInt8) (hm : cs.length = m) (hx : a.eval x = .slice (some ad) m mc) (hc : ∀ (j : Nat) (u : Value), (bvs cs)[j]? = some u → w.cell? (ad.add j) = some u) (hm0 : 0 < b.length + m) (hl : b.length + m ≤ 100000000) (hnn : nn ≤ b.length + m)
    (h : ∀ (gb cap : Nat) (w' : World), w'.cell? ⟨g, 0, none⟩ = some v → w'.frozen? ⟨g, 0, none⟩ = false → Hid (WHas base (w'.setCell ⟨g, 0, none⟩ (.slice (some ⟨gb, 0, none⟩) (b.length + m) cap)) g (b ++ cs) st (.slice (some ⟨gb, 0, none⟩) (b.length + m) cap)) →
      Hid (Below base w (w'.setCell ⟨g, 0, none⟩ (.slice (some ⟨gb, 0, none⟩) (b.length + m) cap))) → Hid (Keeps w (w'.setCell ⟨g, 0, none⟩ (.slice (some ⟨gb, 0, none⟩) (b.length + m) cap))) → K (a.put o.dst (.slice (some ⟨gb, 0, none⟩) (b.length + m) cap)) w') :
    if Region.wanted o (yielded ops a.tmps) = true then Oper.wp Tryd.prog o a w K Q else E := by
  have hw : Region.wanted o (yielded ops a.tmps) = true := by simp [Region.wanted, hgd]
  rw [if_pos hw]
  obtain ⟨i0, hi, hz0, hz1, hz2⟩ := info_parts infoU8
  obtain ⟨v', w', hr, hown, hgr, _⟩ := run_append_own (P := Tryd.prog) (w := w) base 32 o.type 5 i0 (.int .u8 0) 1 1 Tryd.underlying32 hi hz0 hz1 hz2 rfl (by decide) v b.length (bvs b) HI.row ad m mc (bvs cs) (by rw [bvs_length, hm]; omega) hc (bvs_one cs) (by unfold maxLen; omega) (by omega) HI.hb
  obtain ⟨gb, cap, rfl⟩ : ∃ gb cap, v' = .slice (some ⟨gb, 0, none⟩) (b.length + m) cap := by
    rcases hown.2 with ⟨_, h0⟩ | ⟨gb, cap, _, hv, _⟩
    · omega
    · exact ⟨gb, cap, hv⟩
  have hblk := (hgr.block g HI.lt (fun e => own_ne HI.row HI.blk (by decide) e.symm)).trans HI.blk
  have hlen : (b ++ cs).length = b.length + m := by rw [List.length_append, hm]
  have hfin := h gb cap w' (cell_of_row w' g 0 _ _ _ hblk) (frozen_of_row w' g 0 _ _ hblk) (Lib.hid ⟨mb, nn, D, HI.app (by rw [hlen, bvs_append]; exact hown) hgr (by omega), by omega⟩)
    (Lib.hid (((Below.refl base w).grown hgr HI.hb (fun k hk => (HI.row.lt k hk).1)).setCell HI.hg _)) (Lib.hid (HI.keeps hgr _))
  unfold Oper.wp execOp
  simp only [ho, resolve, invoke, builtin, Sem.run_bind, Sem.run_pure, Result.andThen_ok, List.map_toArray, List.map_cons, List.map_nil, hs, hx, hr]
  exact hfin
theorem step_append_t {w : World} {base g mb nn : Nat} {b : List UInt8} {st : St} {v : Value} {D : DataW Unit} (HI : WIs base w g b st v mb nn D)
    {ops : Array Oper} {o : Oper} {a : Act} {K : Act → World → Prop} {Q : Exit → Act → World → Prop} {E : Prop} (hgd : o.guard = none) (s x : Operand)
    (ho : o.op = .call { callee := .builtin .append, args := #[s, x], argTypes := #[32, 9] }) (hs : a.eval s = v)
    (t : ByteArray) (hx : a.eval x = .string t) (hm0 : 0 < b.length) (hl : b.length + t.size ≤ 100000000) (hnn : nn ≤ b.length + t.size)
    (h : ∀ (gb cap : Nat) (w' : World), w'.cell? ⟨g, 0, none⟩ = some v → w'.frozen? ⟨g, 0, none⟩ = false → Hid (WHas base (w'.setCell ⟨g, 0, none⟩ (.slice (some ⟨gb, 0, none⟩) (b.length + t.size) cap)) g (b ++ t.data.toList) st (.slice (some ⟨gb, 0, none⟩) (b.length + t.size) cap)) →
      Hid (Below base w (w'.setCell ⟨g, 0, none⟩ (.slice (some ⟨gb, 0, none⟩) (b.length + t.size) cap))) → Hid (Keeps w (w'.setCell ⟨g, 0, none⟩ (.slice (some ⟨gb, 0, none⟩) (b.length + t.size) cap))) → K (a.put o.dst (.slice (some ⟨gb, 0, none⟩) (b.length + t.size) cap)) w') :
    if Region.wanted o (yielded ops a.tmps) = true then Oper.wp Tryd.prog o a w K Q else E := by
  have hw : Region.wanted o (yielded ops a.tmps) = true := by simp [Region.wanted, hgd]
  rw [if_pos hw]
  obtain ⟨i0, hi, hz0, hz1, hz2⟩ := info_parts infoU8
  obtain ⟨v', w', hr, hown, hgr, _⟩ := Lib.run_append_own_string (P := Tryd.prog) w base 32 9 o.type 5 i0 Tryd.underlying32 Tryd.underlying9 hi hz0 hz1 hz2 v b.length (bvs b) HI.row t (by unfold maxLen; omega) (by omega) HI.hb
  obtain ⟨gb, cap, rfl⟩ : ∃ gb cap, v' = .slice (some ⟨gb, 0, none⟩) (b.length + t.size) cap := by
    rcases hown.2 with ⟨_, h0⟩ | ⟨gb, cap, _, hv, _⟩
    · omega
    · exact ⟨gb, cap, hv⟩
  have hblk := (hgr.block g HI.lt (fun e => own_ne HI.row HI.blk (by decide) e.symm)).trans HI.blk
  have hlen : (b ++ t.data.toList).length = b.length + t.size := by rw [List.length_append, ← Lib.size_eq]
  have hown' : w'.ownsRow base 5 1 (.slice (some ⟨gb, 0, none⟩) (b.length + t.size) cap) (b ++ t.data.toList).length (bvs (b ++ t.data.toList)) := by rw [hlen, bvs_append]; exact hown
  have hfin := h gb cap w' (cell_of_row w' g 0 _ _ _ hblk) (frozen_of_row w' g 0 _ _ hblk) (Lib.hid ⟨mb, nn, D, HI.app hown' hgr (by omega), by omega⟩)
    (Lib.hid (((Below.refl base w).grown hgr HI.hb (fun k hk => (HI.row.lt k hk).1)).setCell HI.hg _)) (Lib.hid (HI.keeps hgr _))
  unfold Oper.wp execOp
  simp only [ho, resolve, invoke, builtin, Sem.run_bind, Sem.run_pure, Result.andThen_ok, List.map_toArray, List.map_cons, List.map_nil, hs, hx, hr]
  exact hfin
/-- what is told of a record's data -/
structure DOk (r : RV) : Prop where
  ad : r.ad.length = 16
  ty : 0 ≤ r.ty
  nm : r.ty = 2 ∨ r.ty = 5 ∨ r.ty = 12 → gosB r.tx = true
  da : r.ty ≠ 1 → r.ty ≠ 28 → ¬ (r.ty = 2 ∨ r.ty = 5 ∨ r.ty = 12) → r.da.size ≤ 255
def dataR (pos : Nat) (st : St) (r : RV) : List UInt8 × St :=
  if r.ty = 1 then (r.ad.drop 12, st) else if r.ty = 28 then (r.ad, st)
  else if r.ty = 2 ∨ r.ty = 5 ∨ r.ty = 12 then encN pos st (sp r.tx.data.toList) else (r.da.data.toList, st)
theorem dataR_enc {r : RV} (h : 0 ≤ r.ty) (pos : Nat) (st : St) : dataR pos st r = encD pos st r.rec_ := by
  unfold dataR encD RV.rec_
  simp only
  have e1 : r.ty = 1 ↔ r.ty.toNat = 1 := by omega
  have e2 : r.ty = 28 ↔ r.ty.toNat = 28 := by omega
  have e3 : (r.ty = 2 ∨ r.ty = 5 ∨ r.ty = 12) ↔ (r.ty.toNat = 2 ∨ r.ty.toNat = 5 ∨ r.ty.toNat = 12) := by omega
  simp only [e1, e2, e3]

section
variable {base g : Nat} {b : List UInt8} {st : St} {r : RV} {w : World}
set_option maxRecDepth 100000 in
set_option maxHeartbeats 4000000 in
theorem data_addr (hd : r.ad.length = 16) (ht : r.ty = 1 ∨ r.ty = 28) (h : WAt base w g b st) (hb0 : 0 < b.length) (hl : b.length + 300 ≤ 100000000) :
    Calls Tryd.prog 28 #[.pointer (some ⟨g, 0, none⟩), .agg r.cells] w fun e w' => WPost base w g (b ++ (dataR b.length st r).1) (dataR b.length st r).2 e w' := by
  obtain ⟨v, mb, nn, D, hI, hnn⟩ := h
  have HI := Lib.hid hI
  have c0 : w.cell? ⟨g, 0, none⟩ = some v := cell_of_row w g 0 _ _ _ hI.blk
  have hglt := hI.lt
  have hbs := hI.hb
  have H1 := Lib.hid r.c1
  have HA := Lib.hid (fun j (hj : j < 16) => RV.c3 (r := r) hd hj)
  have HQ : Hid (dataR b.length st r = (r.ad.drop (if r.ty = 1 then 12 else 0), st)) := Lib.hid (by
    unfold dataR
    rcases ht with h | h
    · rw [if_pos h, if_pos h]
    · rw [if_neg (by omega), if_pos h, if_neg (by omega)]; rfl)
  have HL := Lib.hid hd
  clear hI
  revert H1 HA ht
  generalize r.cells = cs
  intro ht H1 HA
  have c1 := H1.out
  obtain ⟨ty, hty⟩ : ∃ ty, r.ty = ty := ⟨_, rfl⟩
  rw [hty] at c1 ht HQ
  clear hty H1 hd
  rcases ht with rfl | rfl
  · have HS : Hid (∀ (j : Nat) (u : Value), (bvs (r.ad.drop 12))[j]? = some u → (w.alloc (.cells cs 45)).cell? ((⟨w.heap.size, 15, none⟩ : Addr).add j) = some u) := Lib.hid (fun j u hu => by
      have hj : j < 4 := by have := (List.getElem?_eq_some_iff.1 hu).1; rw [bvs_length, List.length_drop, HL.out] at this; omega
      rw [bvs_at (by rw [List.length_drop, HL.out]; omega)] at hu
      rw [Addr.add_lit, World.cell?_alloc_new, show 15 + j = 3 + (12 + j) by omega, HA.out (12 + j) (by omega), ← hu]
      congr 3
      simp [List.getD, List.getElem?_drop])
    have HL4 : Hid ((r.ad.drop 12).length = 4) := Lib.hid (by rw [List.length_drop, HL.out])
    go_enter Tryd.func28, Tryd.ntmps28
    go_wp2_with fail
    go_region_law (first
      | (refine step_append_w (HI.out.alloc _).drew rfl (.tmp 19) (.tmp 22) rfl rfl ⟨w.heap.size, 15, none⟩ 4 4 (r.ad.drop 12) HL4.out rfl HS.out (by omega) (by omega) (by omega) ?_; intro gb cap w1 c1 f1 HW HB HK; clear c0))
    all_goals go_wp2_with fail
    all_goals refine bodyPost_ret (results_none rfl _ _ _) rfl ?_
    all_goals rw [HQ.out]
    all_goals exact ⟨rfl, HW.out.at_, ((Below.refl base w).alloc hbs _).drew.trans HB.out, ((Keeps.refl w).alloc _).drew.trans HK.out⟩
  · have HS : Hid (∀ (j : Nat) (u : Value), (bvs (r.ad))[j]? = some u → (w.alloc (.cells cs 45)).cell? ((⟨w.heap.size, 3, none⟩ : Addr).add j) = some u) := Lib.hid (fun j u hu => by
      have hj : j < 16 := by have := (List.getElem?_eq_some_iff.1 hu).1; rw [bvs_length, HL.out] at this; omega
      rw [bvs_at (by rw [HL.out]; omega)] at hu
      rw [Addr.add_lit, World.cell?_alloc_new, HA.out j hj, ← hu])
    
    go_enter Tryd.func28, Tryd.ntmps28
    go_wp2_with fail
    go_region_law (first
      | (refine step_append_w (HI.out.alloc _).drew rfl (.tmp 19) (.tmp 22) rfl rfl ⟨w.heap.size, 3, none⟩ 16 16 r.ad HL.out rfl HS.out (by omega) (by omega) (by omega) ?_; intro gb cap w1 c1 f1 HW HB HK; clear c0))
    all_goals go_wp2_with fail
    all_goals refine bodyPost_ret (results_none rfl _ _ _) rfl ?_
    all_goals rw [HQ.out]
    all_goals exact ⟨rfl, HW.out.at_, ((Below.refl base w).alloc hbs _).drew.trans HB.out, ((Keeps.refl w).alloc _).drew.trans HK.out⟩

set_option maxRecDepth 100000 in
set_option maxHeartbeats 4000000 in
theorem data_nm (he : Env w) (hB : 0 < base) (hd : r.ad.length = 16) (ht : r.ty = 2 ∨ r.ty = 5 ∨ r.ty = 12) (hx : gosB r.tx = true) (h : WAt base w g b st) (hb0 : 0 < b.length) (hl : b.length + 30000 ≤ 100000000) :
    Calls Tryd.prog 28 #[.pointer (some ⟨g, 0, none⟩), .agg r.cells] w fun e w' => WPost base w g (b ++ (dataR b.length st r).1) (dataR b.length st r).2 e w' := by
  have hbs := h.size
  have H1 := Lib.hid r.c1
  have H19 := Lib.hid (RV.c19 (r := r) hd)
  have HQ : Hid (dataR b.length st r = encN b.length st (sp r.tx.data.toList)) := Lib.hid (by unfold dataR; rw [if_neg (by omega), if_neg (by omega), if_pos ht])
  have C := name_any base g b st r.tx (w.alloc (.cells r.cells 45)) (he.below ((Below.refl _ w).alloc (Nat.le_refl _) _)) hB (h.alloc _) hb0 hx (by omega)
  revert H1 H19 C
  generalize r.cells = cs
  intro H1 H19 C
  have c1 := H1.out
  have c19 := H19.out
  obtain ⟨ty, hty⟩ : ∃ ty, r.ty = ty := ⟨_, rfl⟩
  rw [hty] at c1 ht
  clear hty H1 H19 hd hx h he
  rcases ht with rfl | rfl | rfl
  all_goals
    go_enter Tryd.func28, Tryd.ntmps28
    go_wp2_with fail
    refine C.mono ?_
    rintro e w1 ⟨rfl, hw1, hb1, hk1⟩
    have HW := Lib.hid hw1
    have HB := Lib.hid hb1
    have HK := Lib.hid hk1
    clear hw1 hb1 hk1 C c19
    go_wp2_with fail
    refine bodyPost_ret (results_none rfl _ _ _) rfl ?_
    rw [HQ.out]
    exact ⟨rfl, HW.out, ((Below.refl base w).alloc hbs _).trans HB.out, ((Keeps.refl w).alloc _).trans HK.out⟩
set_option maxRecDepth 100000 in
set_option maxHeartbeats 4000000 in
theorem data_ot (hd : r.ad.length = 16) (n1 : r.ty ≠ 1) (n28 : r.ty ≠ 28) (n2 : r.ty ≠ 2) (n5 : r.ty ≠ 5) (n12 : r.ty ≠ 12) (hda : r.da.size ≤ 255) (h : WAt base w g b st) (hb0 : 0 < b.length) (hl : b.length + 300 ≤ 100000000) :
    Calls Tryd.prog 28 #[.pointer (some ⟨g, 0, none⟩), .agg r.cells] w fun e w' => WPost base w g (b ++ (dataR b.length st r).1) (dataR b.length st r).2 e w' := by
  obtain ⟨v, mb, nn, D, hI, hnn⟩ := h
  have HI := Lib.hid hI
  have c0 : w.cell? ⟨g, 0, none⟩ = some v := cell_of_row w g 0 _ _ _ hI.blk
  have hglt := hI.lt
  have hbs := hI.hb
  have c1 := r.c1
  have c20 := RV.c20 (r := r) hd
  have HQ : Hid (dataR b.length st r = (r.da.data.toList, st)) := Lib.hid (by unfold dataR; rw [if_neg n1, if_neg n28, if_neg (by omega)])
  have t1 : (r.ty == 1) = false := by simpa using n1
  have t28 : (r.ty == 28) = false := by simpa using n28
  have t2 : (r.ty == 2) = false := by simpa using n2
  have t5 : (r.ty == 5) = false := by simpa using n5
  have t12 : (r.ty == 12) = false := by simpa using n12
  clear hI n1 n28 n2 n5 n12 hd
  revert c1 c20
  generalize r.cells = cs
  intro c1 c20
  obtain ⟨ty, hty⟩ : ∃ ty, r.ty = ty := ⟨_, rfl⟩
  obtain ⟨da, hdq⟩ : ∃ da, r.da = da := ⟨_, rfl⟩
  rw [hty] at c1 t1 t28 t2 t5 t12
  rw [hdq] at c20 HQ hda
  clear hty hdq
  go_enter Tryd.func28, Tryd.ntmps28
  go_wp2_with fail
  go_region_law (first
      | (refine step_append_t (HI.out.alloc _).drew rfl (.tmp 34) (.tmp 36) rfl rfl da rfl (by omega) (by omega) (by omega) ?_; intro gb cap w1 c1' f1 HW HB HK; clear c0))
  all_goals go_wp2_with fail
  all_goals refine bodyPost_ret (results_none rfl _ _ _) rfl ?_
  all_goals rw [HQ.out]
  all_goals exact ⟨rfl, HW.out.at_, ((Below.refl base w).alloc hbs _).drew.trans HB.out, ((Keeps.refl w).alloc _).drew.trans HK.out⟩
theorem data_any (hr : DOk r) (he : Env w) (hB : 0 < base) (h : WAt base w g b st) (hb0 : 0 < b.length) (hl : b.length + 30000 ≤ 100000000) :
    Calls Tryd.prog 28 #[.pointer (some ⟨g, 0, none⟩), .agg r.cells] w fun e w' => WPost base w g (b ++ (dataR b.length st r).1) (dataR b.length st r).2 e w' := by
  by_cases h1 : r.ty = 1 ∨ r.ty = 28
  · exact data_addr hr.ad h1 h hb0 (by omega)
  · by_cases h2 : r.ty = 2 ∨ r.ty = 5 ∨ r.ty = 12
    · exact data_nm he hB hr.ad h2 (hr.nm h2) h hb0 hl
    · exact data_ot hr.ad (fun e => h1 (.inl e)) (fun e => h1 (.inr e)) (fun e => h2 (.inl e)) (fun e => h2 (.inr (.inl e))) (fun e => h2 (.inr (.inr e))) (hr.da (fun e => h1 (.inl e)) (fun e => h1 (.inr e)) h2) h hb0 (by omega)
end
end Go.Proofs.YtakfokdjdljjjaaDoor
