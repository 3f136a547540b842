/-
  A reader by what is known of it (a place, or that something is wrong), and the walk of its method question. Condition: the library's variable MaxLen holds some number.
-/
import Derived.Test.YtakfokdjdljjjaaDoorMsgRName
import Derived.Test.YtakfokdjdljjjaaDoorMsgV4
namespace Go.Proofs.YtakfokdjdljjjaaDoor
open Go.RowKit

def RSt (base : Nat) (w : World) (g : Nat) (A : Option Addr) (c : Nat) (b : List UInt8) : Option Nat → Prop
  | some p => RIs base w g A c b p false
  | none => ∃ p, RIs base w g A c b p true
theorem RSt.grown {base g c : Nat} {w w' : World} {A : Option Addr} {b : List UInt8} {o : Option Nat} (h : RSt base w g A c b o) (hb : Below w.heap.size w w') : RSt base w' g A c b o := by
  cases o with
  | some p => exact RIs.grown h hb
  | none => obtain ⟨p, h⟩ := h; exact ⟨p, h.grown hb⟩
theorem RSt.blk {base g c : Nat} {w : World} {A : Option Addr} {b : List UInt8} {o : Option Nat} (h : RSt base w g A c b o) : ∃ p, RIs base w g A c b p (o.isNone) := by
  cases o with
  | some p => exact ⟨p, h⟩
  | none => exact h
theorem RSt.wrong {base g c : Nat} {w : World} {A : Option Addr} {b : List UInt8} {o : Option Nat} (h : RSt base w g A c b o) : RSt base (w.setCell ⟨g, 2, none⟩ (.bool true)) g A c b none := by
  obtain ⟨p, h⟩ := h.blk
  exact ⟨p, h.setWrong⟩
def NumP (base : Nat) (w : World) (g : Nat) (A : Option Addr) (c : Nat) (b : List UInt8) (r : Option (Nat × Nat)) (e : Ending) (w' : World) : Prop :=
  e = .returned (.int .u32 ((r.map (·.1)).getD 0 : Nat)) ∧ RSt base w' g A c b (r.map (·.2)) ∧ w.grownBy w' (some g)
theorem num_le {b : List UInt8} {p k : Nat} {r : Nat × Nat} (h : numF b p k = some r) : r.1 < 256 ^ k ∧ r.2 = p + k ∧ p + k ≤ b.length := by
  unfold numF at h
  split at h
  · rename_i hk
    cases h
    exact ⟨by have := num_lt (cutB b p k); rwa [cutB_len hk] at this, rfl, hk⟩
  · cases h
theorem numberP (base g c k : Nat) (A : Option Addr) (b : List UInt8) (o : Option Nat) (w : World) (h : RSt base w g A c b o) (hk : k ≤ 4) :
    Calls Tryd.prog 20 #[.pointer (some ⟨g, 0, none⟩), .int .i64 k] w fun e w' => NumP base w g A c b (o.bind fun p => numF b p k) e w' := by
  cases o with
  | some p =>
    refine (number_any base g c p k A b false w h hk).mono ?_
    rintro e w' (⟨_, h2, rfl, h3, h4⟩ | ⟨h1, rfl, h3, h4⟩)
    · have e1 : numF b p k = some (num (cutB b p k), p + k) := by unfold numF; rw [if_pos h2]
      unfold NumP
      rw [Option.bind_some, e1]
      exact ⟨rfl, h3, h4⟩
    · have e1 : numF b p k = none := by unfold numF; rw [if_neg (by rcases h1 with h | h; cases h; omega)]
      unfold NumP
      rw [Option.bind_some, e1]
      exact ⟨rfl, ⟨_, h3⟩, h4⟩
  | none =>
    obtain ⟨p, h⟩ := h
    refine (number_any base g c p k A b true w h hk).mono ?_
    rintro e w' (⟨h1, _⟩ | ⟨h1, rfl, h3, h4⟩)
    · cases h1
    · exact ⟨rfl, ⟨_, h3⟩, h4⟩
def NameP (base : Nat) (w : World) (g : Nat) (A : Option Addr) (c : Nat) (b : List UInt8) (r : Option (List UInt8 × Nat)) (e : Ending) (w' : World) : Prop :=
  ∃ s : ByteArray, e = .returned (.string s) ∧ (∀ x, r = some x → s = bs x.1) ∧ RSt base w' g A c b (r.map (·.2)) ∧ w.grownBy w' (some g)
set_option maxRecDepth 100000 in
set_option maxHeartbeats 2000000 in
theorem rname_wrong (base g c p : Nat) (A : Option Addr) (b : List UInt8) (w : World) (h : RIs base w g A c b p true) :
    Calls Tryd.prog 30 #[.pointer (some ⟨g, 0, none⟩)] w fun e w' => e = .returned (.string ⟨#[]⟩) ∧ w = w' := by
  have c2 : w.cell? ⟨g, 2, none⟩ = some (.bool true) := cell_of_row w g 2 _ _ _ h.blk
  clear h
  go_enter Tryd.func30, Tryd.ntmps30
  go_wp2_with fail
  go_loop [3] (fun _ => True) (fun _ => 0)
  case atStart => exact trivial
  case round =>
    go_wp2_with fail
    go_ret
    exact ⟨rfl, rfl⟩
theorem nameP (base g c : Nat) (A : Option Addr) (b : List UInt8) (o : Option Nat) (w : World) (he : Env w) (hB : 0 < base) (h : RSt base w g A c b o) :
    Calls Tryd.prog 30 #[.pointer (some ⟨g, 0, none⟩)] w fun e w' => NameP base w g A c b (o.bind (nameF b)) e w' := by
  cases o with
  | some p =>
    refine (rname_any base g c p A b w he hB h).mono ?_
    intro e w' h
    unfold RNamePost at h
    unfold NameP
    simp only [Option.bind_some]
    cases hr : nameF b p with
    | some x =>
      rw [hr] at h
      obtain ⟨h1, h2, h3⟩ := h
      exact ⟨bs x.1, h1, (fun y hy => by cases hy; rfl), h2, h3⟩
    | none =>
      rw [hr] at h
      obtain ⟨s, p, h1, h2, h3⟩ := h
      exact ⟨s, h1, (fun y hy => by cases hy), ⟨p, h2⟩, h3⟩
  | none =>
    obtain ⟨p, h⟩ := h
    refine (rname_wrong base g c p A b w h).mono ?_
    rintro e w' ⟨rfl, rfl⟩
    exact ⟨_, rfl, (fun y hy => by cases hy), ⟨p, h⟩, ⟨rfl, rfl, rfl, Nat.le_refl _, fun _ _ _ => rfl⟩⟩

/-- what question answers -/
def QueP (base : Nat) (w : World) (g : Nat) (A : Option Addr) (c : Nat) (b : List UInt8) (r : Option ((List UInt8 × Nat) × Nat)) (e : Ending) (w' : World) : Prop :=
  ∃ (s : ByteArray) (t : Nat), e = .returned (.agg #[.string s, .int .i64 t]) ∧ t < 65536 ∧ (∀ x, r = some x → s = bs x.1.1 ∧ t = x.1.2) ∧ RSt base w' g A c b (r.map (·.2)) ∧ w.grownBy w' (some g)
theorem builtQ (s : ByteArray) : Tryd.prog.built 28 [(0, .string s)] = some #[.string s, .int .i64 0] := by kernel_rfl
theorem sizeQ : (Tryd.prog.info? 28).map (·.size) = some 2 := by kernel_rfl
theorem oneQ (s : ByteArray) (t : Nat) : (#[Value.string s, Value.int .i64 (t : Nat)] : Array Value).all (·.oneCell') = true := by simp [Value.oneCell']
theorem qF_yes {b : List UInt8} {o : Option Nat} {q : Option (List UInt8 × Nat)} {r2 r3 : Option (Nat × Nat)} (hq : o.bind (nameF b) = q) (h2 : (q.map (·.2)).bind (fun p => numF b p 2) = r2) (h3 : (r2.map (·.2)).bind (fun p => numF b p 2) = r3)
    (h : (r3.map (·.1)).getD 0 = 1) : ∃ x y z, q = some x ∧ r2 = some y ∧ r3 = some z ∧ o.bind (qF b) = some ((x.1, y.1), z.2) := by
  cases r3 with
  | none => simp at h
  | some z =>
    cases r2 with
    | none => simp at h3
    | some y =>
      cases q with
      | none => simp at h2
      | some x =>
        cases o with
        | none => simp at hq
        | some p =>
          simp only [Option.bind_some, Option.map_some] at hq h2 h3 h
          refine ⟨x, y, z, rfl, rfl, rfl, ?_⟩
          simp only [Option.bind_some]
          unfold qF
          rw [hq, Option.bind_some, h2, Option.bind_some, h3, Option.bind_some, if_pos (show z.1 = 1 from h)]
theorem qF_no {b : List UInt8} {o : Option Nat} {q : Option (List UInt8 × Nat)} {r2 r3 : Option (Nat × Nat)} (hq : o.bind (nameF b) = q) (h2 : (q.map (·.2)).bind (fun p => numF b p 2) = r2) (h3 : (r2.map (·.2)).bind (fun p => numF b p 2) = r3)
    (h : (r3.map (·.1)).getD 0 ≠ 1) : o.bind (qF b) = none := by
  cases o with
  | none => rfl
  | some p =>
    simp only [Option.bind_some] at hq ⊢
    unfold qF
    rw [hq]
    cases q with
    | none => rfl
    | some x =>
      simp only [Option.bind_some, Option.map_some] at h2 ⊢
      rw [h2]
      cases r2 with
      | none => rfl
      | some y =>
        simp only [Option.bind_some, Option.map_some] at h3 ⊢
        rw [h3]
        cases r3 with
        | none => rfl
        | some z =>
          simp only [Option.bind_some]
          rw [if_neg]
          exact h
theorem numv_lt {b : List UInt8} {o : Option Nat} {r : Option (Nat × Nat)} (h : o.bind (fun p => numF b p 2) = r) : (r.map (·.1)).getD 0 < 65536 := by
  cases r with
  | none => simp
  | some x =>
    cases o with
    | none => simp at h
    | some p => simp only [Option.bind_some] at h; exact (num_le h).1
theorem RSt.kept {base g c : Nat} {w w' : World} {A : Option Addr} {b : List UInt8} {o : Option Nat} (h : RSt base w g A c b o) (hb : Below base w w') (hg : w'.heap[g]? = w.heap[g]?) : RSt base w' g A c b o := by
  cases o with
  | some p =>
    replace h : RIs base w g A c b p false := h
    exact ⟨hg.trans h.blk, h.inb.below hb, h.hg, h.cap, h.len, h.low, h.ok, h.nil⟩
  | none =>
    obtain ⟨p, h⟩ := h
    exact ⟨p, ⟨hg.trans h.blk, h.inb.below hb, h.hg, h.cap, h.len, h.low, h.ok, h.nil⟩⟩
theorem grown_new {a b c : World} {g k : Nat} (h : a.grownBy b (some g)) (h2 : b.grownBy c (some k)) (hk : a.heap.size ≤ k) : a.grownBy c (some g) :=
  ⟨h2.os.trans h.os, h2.tape.trans h.tape, h2.output.trans h.output, Nat.le_trans h.size h2.size, fun i hi hne => (h2.block i (Nat.lt_of_lt_of_le hi h.size) (by intro e; injection e with e; omega)).trans (h.block i hi hne)⟩
set_option maxRecDepth 100000 in
set_option maxHeartbeats 4000000 in
theorem questionP (base g c : Nat) (A : Option Addr) (b : List UInt8) (o : Option Nat) (w : World) (he : Env w) (hB : 0 < base) (h : RSt base w g A c b o) :
    Calls Tryd.prog 21 #[.pointer (some ⟨g, 0, none⟩)] w fun e w' => QueP base w g A c b (o.bind (qF b)) e w' := by
  obtain ⟨p0, hp0⟩ := h.blk
  have hglt := hp0.lt
  have hbg := hp0.hg
  have C := nameP base g c A b o (w.alloc (.cells #[.string ⟨#[]⟩, .int .i64 0] 28)) (he.below ((Below.refl _ w).alloc (Nat.le_refl _) _)) hB (h.grown ((Below.refl _ w).alloc (Nat.le_refl _) _))
  clear hp0 h he
  go_enter Tryd.func21, Tryd.ntmps21
  go_wp2_with fail
  refine C.mono ?_
  rintro e w1 ⟨s, rfl, hs, hr1, hg1⟩
  have HS := Lib.hid hs
  have HR1 := Lib.hid hr1
  have HG1 := Lib.hid hg1
  have h0 := (hg1.block w.heap.size (by simp) (fun e => by injection e with e; omega)).trans (heap_alloc_last w _)
  have H0 := Lib.hid h0
  have hl1 := heap_lt h0
  clear C hs hr1 hg1 h0
  go_wp2_with fail
  obtain ⟨q, hq⟩ : ∃ q, o.bind (nameF b) = q := ⟨_, rfl⟩
  rw [hq] at HR1 HS
  have HQ := Lib.hid hq
  clear hq
  obtain ⟨r2, h2⟩ : ∃ r, (q.map (·.2)).bind (fun p => numF b p 2) = r := ⟨_, rfl⟩
  have C2 := numberP base g c 2 A b _ _ (HR1.out.grown ((Below.refl _ w1).alloc (Nat.le_refl _) (.cells #[.string s, .int .i64 0] 28))) (by omega)
  rw [h2] at C2
  have hv2 := numv_lt h2
  have H2 := Lib.hid h2
  clear h2
  refine C2.mono ?_
  rintro e w2 ⟨rfl, hr2, hg2⟩
  obtain ⟨t, ht⟩ : ∃ t, (r2.map (·.1)).getD 0 = t := ⟨_, rfl⟩
  rw [ht] at hv2 ⊢
  have HT := Lib.hid ht
  have hglt1 : g < w1.heap.size := by obtain ⟨p, h⟩ := HR1.out.blk; exact h.lt
  have hq2 := (hg2.block w1.heap.size (by simp) (fun e => by injection e with e; omega)).trans (heap_alloc_last w1 (.cells #[.string s, .int .i64 0] 28))
  have hl2 := heap_lt hq2
  have d1 := cell_of_row w2 w1.heap.size 1 _ _ _ hq2
  have e1 := frozen_of_row w2 w1.heap.size 1 _ _ hq2
  simp only [List.getElem?_toArray, List.getElem?_cons_succ, List.getElem?_cons_zero] at d1
  have hz2 := (hg2.block w.heap.size (by simp; omega) (fun e => by injection e with e; omega)).trans ((Below.heap_alloc w1 (.cells #[.string s, .int .i64 0] 28) _ hl1).trans H0.out)
  have hs3 := (heap_setCell_same w2 w1.heap.size 1 _ _ (.int .i64 (t : Nat)) hq2)
  have hz3 := (Below.heap_setCell w2 ⟨w1.heap.size, 1, none⟩ (.int .i64 (t : Nat)) w.heap.size (by simp; omega)).trans hz2
  have hr3 : RSt base (w2.setCell ⟨w1.heap.size, 1, none⟩ (.int .i64 (t : Nat))) g A c b (r2.map (·.2)) := by
    have hbl : Below w1.heap.size w2 (w2.setCell ⟨w1.heap.size, 1, none⟩ (.int .i64 (t : Nat))) := (Below.refl _ w2).setCell (p := ⟨w1.heap.size, 1, none⟩) (Nat.le_refl _) _
    cases hm : r2.map (·.2) with
    | some p => rw [hm] at hr2; replace hr2 : RIs base w2 g A c b p false := hr2; exact ⟨(hbl.block g hglt1).trans hr2.blk, hr2.inb.below (hbl.mono (by omega)), hr2.hg, hr2.cap, hr2.len, hr2.low, hr2.ok, hr2.nil⟩
    | none => rw [hm] at hr2; obtain ⟨p, hr2⟩ := hr2; exact ⟨p, ⟨(hbl.block g hglt1).trans hr2.blk, hr2.inb.below (hbl.mono (by omega)), hr2.hg, hr2.cap, hr2.len, hr2.low, hr2.ok, hr2.nil⟩⟩
  have HG2 := Lib.hid (grown_new (grown_trans (grown_below (g := g) ((Below.refl _ w1).alloc (Nat.le_refl _) (.cells #[.string s, .int .i64 0] 28))) hg2) (grown_set w2 w1.heap.size 1 (.int .i64 (t : Nat))) (Nat.le_refl _))
  have HQ3 := Lib.hid hs3
  have HZ3 := Lib.hid hz3
  have HR3 := Lib.hid hr3
  obtain ⟨r3, h3⟩ : ∃ r, (r2.map (·.2)).bind (fun p => numF b p 2) = r := ⟨_, rfl⟩
  have C3 := numberP base g c 2 A b _ _ hr3 (by omega)
  rw [h3] at C3
  have hv3 := numv_lt h3
  have H3 := Lib.hid h3
  clear h3 hr3 hs3 hz3 hz2 hq2 hr2 hg2 C2 ht
  go_wp2_with fail
  refine C3.mono ?_
  rintro e w3 ⟨rfl, hr4, hg4⟩
  obtain ⟨u, hu⟩ : ∃ u, (r3.map (·.1)).getD 0 = u := ⟨_, rfl⟩
  rw [hu] at hv3 ⊢
  have HU := Lib.hid hu
  have hq4 : w3.heap[w1.heap.size]? = some (.cells #[.string s, .int .i64 (t : Nat)] 28) := (hg4.block w1.heap.size (by simp; omega) (fun e => by injection e with e; omega)).trans HQ3.out
  have hz4 := (hg4.block w.heap.size (by simp; omega) (fun e => by injection e with e; omega)).trans HZ3.out
  have hl3 := heap_lt hq4
  have hgs : w.grownBy w3 (some g) := grown_trans (grown_trans (grown_trans (grown_below ((Below.refl _ w).alloc (Nat.le_refl _) _)) HG1.out) HG2.out) hg4
  clear C3 hu hg4 HQ3 HZ3 HG1 HG2 H0 d1 e1
  by_cases h1 : u = 1
  · subst h1
    obtain ⟨x, y, z, rfl, rfl, rfl, hx⟩ := qF_yes HQ.out H2.out H3.out HU.out
    go_wp2_with (first
      | (refine wpList_load_row rfl 28 (.tmp 3) rfl w1.heap.size rfl 28 #[.string s, .int .i64 (t : Nat)] (0, 0) _ hq4 Tryd.underlying28 rfl sizeQ ?_; go_simp)
      | (refine wpList_store_blk rfl 28 (.tmp 2) (.tmp 17) rfl w.heap.size #[.string ⟨#[]⟩, .int .i64 0] #[.string s, .int .i64 (t : Nat)] 28 hz4 rfl rfl sizeQ rfl (oneQ s t) ?_; intro w4 hg4 hw4 hz5; go_simp))
    exact bodyPost_ret (results_cell_row rfl _ w4 w.heap.size 28 #[.string s, .int .i64 (t : Nat)] (0, 0) _ rfl hg4.out Tryd.underlying28 rfl sizeQ) rfl
      ⟨s, t, rfl, hv2, (fun v hv => by rw [hx] at hv; cases hv; exact ⟨HS.out x rfl, by have := HT.out; simpa using this.symm⟩),
        by rw [hx]; exact RSt.kept hr4 ((Below.refl _ w3).grown hw4.out (by omega) (fun k e => by injection e with e; omega)) (hw4.out.block g (by omega) (fun e => by injection e with e; omega)),
        grown_new hgs hw4.out (Nat.le_refl _)⟩
  · have hx := qF_no HQ.out H2.out H3.out (fun e => h1 (HU.out.symm.trans e))
    obtain ⟨p4, hp4⟩ := hr4.blk
    have d2 := cell_of_row w3 g 2 _ _ _ hp4.blk
    have e2 := frozen_of_row w3 g 2 _ _ hp4.blk
    simp only [List.getElem?_toArray, List.getElem?_cons_succ, List.getElem?_cons_zero] at d2
    have hr5 := hr4.wrong
    have hg5 := grown_trans hgs (grown_set w3 g 2 (.bool true))
    have hq5 := (Below.heap_setCell w3 ⟨g, 2, none⟩ (.bool true) w1.heap.size (by simp; omega)).trans hq4
    have hz5 := (Below.heap_setCell w3 ⟨g, 2, none⟩ (.bool true) w.heap.size (by simp; omega)).trans hz4
    have hl5 : (w3.setCell ⟨g, 2, none⟩ (.bool true)).heap.size = w3.heap.size := by simp
    clear hp4 hr4 hgs hq4 hz4
    go_wp2_with (first
      | (refine wpList_load_row rfl 28 (.tmp 3) rfl w1.heap.size rfl 28 #[.string s, .int .i64 (t : Nat)] (0, 0) _ hq5 Tryd.underlying28 rfl sizeQ ?_; go_simp)
      | (refine wpList_store_blk rfl 28 (.tmp 2) (.tmp 17) rfl w.heap.size #[.string ⟨#[]⟩, .int .i64 0] #[.string s, .int .i64 (t : Nat)] 28 hz5 rfl rfl sizeQ rfl (oneQ s t) ?_; intro w4 hg4 hw4 hz6; go_simp))
    exact bodyPost_ret (results_cell_row rfl _ w4 w.heap.size 28 #[.string s, .int .i64 (t : Nat)] (0, 0) _ rfl hg4.out Tryd.underlying28 rfl sizeQ) rfl
      ⟨s, t, rfl, hv2, (fun v hv => by rw [hx] at hv; cases hv),
        by rw [hx]; exact RSt.kept hr5 ((Below.refl _ _).grown hw4.out (by omega) (fun k e => by injection e with e; omega)) (hw4.out.block g (by omega) (fun e => by injection e with e; omega)),
        grown_new hg5 hw4.out (Nat.le_refl _)⟩
end Go.Proofs.YtakfokdjdljjjaaDoor
