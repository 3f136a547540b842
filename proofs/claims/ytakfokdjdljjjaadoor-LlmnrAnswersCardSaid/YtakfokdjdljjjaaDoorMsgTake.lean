/-
  A reader as it stands in memory, and the walks of its methods take and number. Conditions: each states its own.
-/
import Derived.Test.YtakfokdjdljjjaaDoorMsgMem
import Derived.Test.YtakfokdjdljjjaaDoorMsgBits
import Derived.Laws.BitsAllLaws
import Derived.Test.YtakfokdjdljjjaaDoorSplit
import Derived.Deep.QuietTactic
import Derived.BigQuiet
namespace Go.Proofs.YtakfokdjdljjjaaDoor
open Go.RowKit

/-- the slice at A holds these bytes, below block number base -/
def InB (w : World) (base : Nat) (A : Option Addr) (b : List UInt8) : Prop := 0 < b.length → ∃ bb o, A = some ⟨bb, o, none⟩ ∧ bb < base ∧ ∀ j, j < b.length → w.cell? ⟨bb, o + j, none⟩ = some (.int .u8 (b.getD j 0).toNat)
theorem InB.below {w w' : World} {base : Nat} {A : Option Addr} {b : List UInt8} (h : InB w base A b) (hb : Below base w w') : InB w' base A b := fun h0 => by
  obtain ⟨bb, o, rfl, hlt, hc⟩ := h h0
  exact ⟨bb, o, rfl, hlt, fun j hj => (hb.cell (p := ⟨bb, o + j, none⟩) hlt).trans (hc j hj)⟩
/-- a reader as it stands in memory -/
structure RIs (base : Nat) (w : World) (g : Nat) (A : Option Addr) (c : Nat) (b : List UInt8) (at_ : Nat) (wr : Bool) : Prop where
  blk : w.heap[g]? = some (.cells #[.slice A b.length c, .int .i64 at_, .bool wr] 67 (0, 0))
  inb : InB w base A b
  hg : base ≤ g
  cap : b.length ≤ c
  len : b.length ≤ 140737488351232
  low : at_ ≤ 140737488351232
  ok : wr = false → at_ ≤ b.length
  nil : A = none → c = 0
theorem RIs.lt {base g c at_ : Nat} {w : World} {A : Option Addr} {b : List UInt8} {wr : Bool} (h : RIs base w g A c b at_ wr) : g < w.heap.size := (Array.getElem?_eq_some_iff.1 h.blk).1
theorem RIs.grown {base g c at_ : Nat} {w w' : World} {A : Option Addr} {b : List UInt8} {wr : Bool} (h : RIs base w g A c b at_ wr) (hb : Below w.heap.size w w') : RIs base w' g A c b at_ wr :=
  ⟨(hb.block g h.lt).trans h.blk, h.inb.below (hb.mono (Nat.le_trans h.hg (Nat.le_of_lt h.lt))), h.hg, h.cap, h.len, h.low, h.ok, h.nil⟩
theorem RIs.drewN {base g c at_ : Nat} {w : World} {A : Option Addr} {b : List UInt8} {wr : Bool} (h : RIs base w g A c b at_ wr) (n : Nat) : RIs base (w.drewN n) g A c b at_ wr := ⟨h.blk, h.inb, h.hg, h.cap, h.len, h.low, h.ok, h.nil⟩
theorem grown_drewN (w : World) (n g : Nat) : w.grownBy (w.drewN n) (some g) := ⟨rfl, rfl, rfl, Nat.le_refl _, fun _ _ _ => rfl⟩
theorem grown_set (w : World) (g i : Nat) (v : Value) : w.grownBy (w.setCell ⟨g, i, none⟩ v) (some g) := ⟨rfl, rfl, rfl, by simp, fun k _ hk => Below.heap_setCell _ _ _ _ (fun e => hk (by rw [e]))⟩
theorem grown_trans {a b c : World} {g : Nat} (h : a.grownBy b (some g)) (k : b.grownBy c (some g)) : a.grownBy c (some g) :=
  ⟨k.os.trans h.os, k.tape.trans h.tape, k.output.trans h.output, Nat.le_trans h.size k.size, fun i hi hne => (k.block i (Nat.lt_of_lt_of_le hi h.size) hne).trans (h.block i hi hne)⟩
theorem grown_below {a b : World} {g : Nat} (h : Below a.heap.size a b) : a.grownBy b (some g) := ⟨h.os, h.tape, h.output, h.size, fun k hk _ => h.block k hk⟩
theorem RIs.setWrong {base g c at_ : Nat} {w : World} {A : Option Addr} {b : List UInt8} {wr : Bool} (h : RIs base w g A c b at_ wr) : RIs base (w.setCell ⟨g, 2, none⟩ (.bool true)) g A c b at_ true :=
  ⟨by rw [heap_setCell_same w g 2 _ _ _ h.blk]; rfl, h.inb.below ((Below.refl base w).setCell h.hg _), h.hg, h.cap, h.len, h.low, (fun e => by cases e), h.nil⟩
theorem RIs.setAt {base g c at_ : Nat} {w : World} {A : Option Addr} {b : List UInt8} {wr : Bool} (h : RIs base w g A c b at_ wr) (p : Nat) (hp : p ≤ 140737488351232) (hok : wr = false → p ≤ b.length) : RIs base (w.setCell ⟨g, 1, none⟩ (.int .i64 p)) g A c b p wr :=
  ⟨by rw [heap_setCell_same w g 1 _ _ _ h.blk]; rfl, h.inb.below ((Below.refl base w).setCell h.hg _), h.hg, h.cap, h.len, hp, hok, h.nil⟩

theorem RIs.setAtI {base g c at_ : Nat} {w : World} {A : Option Addr} {b : List UInt8} {wr : Bool} (h : RIs base w g A c b at_ wr) (p : Nat) (v : Int) (hv : v = (p : Nat)) (hp : p ≤ 140737488351232) (hok : wr = false → p ≤ b.length) : RIs base (w.setCell ⟨g, 1, none⟩ (.int .i64 v)) g A c b p wr := by
  subst hv; exact h.setAt p hp hok

/-- what take answers -/
def TakePost (base : Nat) (w : World) (g : Nat) (A : Option Addr) (c : Nat) (b : List UInt8) (at_ : Nat) (wr : Bool) (k : Nat) (e : Ending) (w' : World) : Prop :=
  (wr = false ∧ at_ + k ≤ b.length ∧ (∃ A' c', e = .returned (.slice A' k c') ∧ k ≤ c' ∧ InB w' base A' (cutB b at_ k)) ∧ RIs base w' g A c b (at_ + k) false ∧ w.grownBy w' (some g)) ∨
  ((wr = true ∨ b.length < at_ + k) ∧ e = .returned (.slice none 0 0) ∧ RIs base w' g A c b at_ true ∧ w.grownBy w' (some g))
set_option maxRecDepth 100000 in
set_option maxHeartbeats 2000000 in
theorem take_no (base g c at_ k : Nat) (A : Option Addr) (b : List UInt8) (wr : Bool) (w : World) (h : RIs base w g A c b at_ wr) (hk : k ≤ 70000) (hno : wr = true ∨ b.length < at_ + k) :
    Calls Tryd.prog 29 #[.pointer (some ⟨g, 0, none⟩), .int .i64 k] w fun e w' => TakePost base w g A c b at_ wr k e w' := by
  have c0 : w.cell? ⟨g, 0, none⟩ = some (.slice A b.length c) := cell_of_row w g 0 _ _ _ h.blk
  have c1 : w.cell? ⟨g, 1, none⟩ = some (.int .i64 at_) := cell_of_row w g 1 _ _ _ h.blk
  have c2 : w.cell? ⟨g, 2, none⟩ = some (.bool wr) := cell_of_row w g 2 _ _ _ h.blk
  have f2 := frozen_of_row w g 2 _ _ h.blk
  have hl1 := h.len
  have hl2 := h.low
  have hglt := h.lt
  have H := Lib.hid h
  have HN := Lib.hid hno
  clear h
  cases wr with
  | true =>
    clear hno
    go_enter Tryd.func29, Tryd.ntmps29
    go_wp2_with fail
    go_quiet (fail)
    go_wp2_with fail
    go_ret
    exact .inr ⟨.inl rfl, rfl, (H.out.drewN _).setWrong, grown_trans (grown_drewN w _ g) (grown_set _ _ _ _)⟩
  | false =>
    have hlt : b.length < at_ + k := by
      rcases hno with h | h
      · cases h
      · exact h
    have hat := H.out.ok rfl
    have w1 : IntKind.i64.wrap ((b.length : Int) - (at_ : Int)) = (b.length : Int) - (at_ : Int) := IntWalk.i64_in _ (by omega)
    have d1 : decide ((b.length : Int) - (at_ : Int) < (k : Int)) = true := decide_eq_true (by omega)
    clear hno hlt
    go_enter Tryd.func29, Tryd.ntmps29
    go_wp2_with fail
    go_quiet (fail)
    go_wp2_with fail
    go_ret
    exact .inr ⟨HN.out, rfl, (H.out.drewN _).setWrong, grown_trans (grown_drewN w _ g) (grown_set _ _ _ _)⟩
theorem cutB_len {b : List UInt8} {p k : Nat} (h : p + k ≤ b.length) : (cutB b p k).length = k := by unfold cutB; rw [List.length_take, List.length_drop]; omega
theorem cutB_at {b : List UInt8} {p k j : Nat} (hj : j < k) : (cutB b p k).getD j 0 = b.getD (p + j) 0 := by
  unfold cutB
  simp only [List.getD, List.getElem?_take_of_lt hj, List.getElem?_drop]
set_option maxRecDepth 100000 in
set_option maxHeartbeats 2000000 in
theorem take_yes (base g c at_ k : Nat) (A : Option Addr) (b : List UInt8) (w : World) (h : RIs base w g A c b at_ false) (hk : k ≤ 70000) (hyes : at_ + k ≤ b.length) :
    Calls Tryd.prog 29 #[.pointer (some ⟨g, 0, none⟩), .int .i64 k] w fun e w' => TakePost base w g A c b at_ false k e w' := by
  have c0 : w.cell? ⟨g, 0, none⟩ = some (.slice A b.length c) := cell_of_row w g 0 _ _ _ h.blk
  have c1 : w.cell? ⟨g, 1, none⟩ = some (.int .i64 at_) := cell_of_row w g 1 _ _ _ h.blk
  have c2 : w.cell? ⟨g, 2, none⟩ = some (.bool false) := cell_of_row w g 2 _ _ _ h.blk
  have f1 := frozen_of_row w g 1 _ _ h.blk
  have hl1 := h.len
  have hl2 := h.low
  have hglt := h.lt
  have hcap := h.cap
  have H := Lib.hid h
  have HY := Lib.hid hyes
  have hat := h.ok rfl
  have w1 : IntKind.i64.wrap ((b.length : Int) - (at_ : Int)) = (b.length : Int) - (at_ : Int) := IntWalk.i64_in _ (by omega)
  have d1 : decide ((b.length : Int) - (at_ : Int) < (k : Int)) = false := decide_eq_false (by omega)
  have HI : Hid (∀ (w' : World), Below base w w' → ∀ bb o, A = some ⟨bb, o, none⟩ → InB w' base (some ⟨bb, o + at_, none⟩) (cutB b at_ k)) := Lib.hid (fun w' hb bb o hA h0 => by
    rw [cutB_len hyes] at h0
    obtain ⟨bb', o', hA', hlt, hc⟩ := (h.inb.below hb) (by omega)
    rw [hA] at hA'
    injection hA' with hA'
    injection hA' with e1 e2
    subst e1 e2
    refine ⟨bb, o + at_, rfl, hlt, fun j hj => ?_⟩
    rw [cutB_len hyes] at hj
    rw [cutB_at hj, Nat.add_assoc]
    exact hc (at_ + j) (by omega))
  have HZ : Hid (k = 0 → ∀ (w' : World) A', InB w' base A' (cutB b at_ k)) := Lib.hid (fun e w' A' h0 => by rw [cutB_len hyes] at h0; omega)
  have HA : Hid (0 < k → ∃ bb o, A = some ⟨bb, o, none⟩) := Lib.hid (fun hk0 => by obtain ⟨bb, o, hA, _⟩ := h.inb (by omega); exact ⟨bb, o, hA⟩)
  have HNil := Lib.hid h.nil
  clear h
  rcases A with _ | ad
  · obtain rfl : c = 0 := HNil.out rfl
    obtain ⟨hb0, ha0, hk0⟩ : b.length = 0 ∧ at_ = 0 ∧ k = 0 := by omega
    subst ha0 hk0
    have HB0 := Lib.hid hb0
    clear hb0
    go_enter Tryd.func29, Tryd.ntmps29
    go_wp2_with fail
    go_quiet (fail)
    go_wp2_with fail
    go_quiet (fail)
    go_wp2_with fail
    go_ret
    refine .inl ⟨rfl, HY.out, ⟨none, 0, by simp, Nat.le_refl _, HZ.out (by simp) _ _⟩, ?_, grown_trans (grown_trans (grown_drewN w _ g) (grown_set _ _ _ _)) (grown_drewN _ _ g)⟩
    exact ((H.out.drewN _).setAtI (0 + 0) 0 rfl (by omega) (fun _ => by omega)).drewN _
  · have HBl : Hid (∀ W : World, w.grownBy W (some g) → Below base w W) := Lib.hid (fun W hW => (Below.refl base w).grown hW (Nat.le_trans H.out.hg (Nat.le_of_lt H.out.lt)) (fun k e => by injection e with e; subst e; exact H.out.hg))
    by_cases hca : c = at_
    · have hk0 : k = 0 := by omega
      subst hk0
      go_enter Tryd.func29, Tryd.ntmps29
      go_wp2_with fail
      go_quiet (fail)
      go_wp2_with fail
      go_quiet (fail)
      go_wp2_with fail
      go_ret
      refine .inl ⟨rfl, HY.out, ⟨some ad, 0, by first | rfl | (simp; done), by omega, HZ.out (by simp) _ _⟩, ?_, grown_trans (grown_trans (grown_drewN w _ g) (grown_set _ _ _ _)) (grown_drewN _ _ g)⟩
      have hY := HY.out
      exact ((H.out.drewN _).setAtI (at_ + 0) _ (by omega) (by omega) (fun _ => hY)).drewN _
    · have HIk : Hid (∀ W : World, w.grownBy W (some g) → InB W base (some (ad.add at_)) (cutB b at_ k)) := Lib.hid (fun W hW => by
        rcases Nat.eq_zero_or_pos k with e | e
        · exact HZ.out e W _
        · obtain ⟨bb, o, hA⟩ := HA.out e
          injection hA with hA
          subst hA
          rw [Addr.add_lit]
          exact HI.out W (HBl.out W hW) bb o rfl)
      go_enter Tryd.func29, Tryd.ntmps29
      go_wp2_with fail
      go_quiet (fail)
      go_wp2_with fail
      go_quiet (fail)
      go_wp2_with fail
      go_ret
      refine .inl ⟨rfl, HY.out, ⟨some (ad.add at_), _, by rw [Nat.add_sub_cancel_left]; rfl, by omega, HIk.out _ (grown_trans (grown_trans (grown_drewN w _ g) (grown_set _ _ _ _)) (grown_drewN _ _ g))⟩, ?_, grown_trans (grown_trans (grown_drewN w _ g) (grown_set _ _ _ _)) (grown_drewN _ _ g)⟩
      have hY := HY.out
      exact ((H.out.drewN _).setAtI (at_ + k) _ (by omega) (by omega) (fun _ => hY)).drewN _
theorem take_any (base g c at_ k : Nat) (A : Option Addr) (b : List UInt8) (wr : Bool) (w : World) (h : RIs base w g A c b at_ wr) (hk : k ≤ 70000) :
    Calls Tryd.prog 29 #[.pointer (some ⟨g, 0, none⟩), .int .i64 k] w fun e w' => TakePost base w g A c b at_ wr k e w' := by
  by_cases hno : wr = true ∨ b.length < at_ + k
  · exact take_no base g c at_ k A b wr w h hk hno
  · have h1 : wr = false := by cases wr with | true => exact absurd (.inl rfl) hno | false => rfl
    subst h1
    exact take_yes base g c at_ k A b w h hk (by have := fun e => hno (.inr e); omega)

/-- what number answers -/
def NumPost (base : Nat) (w : World) (g : Nat) (A : Option Addr) (c : Nat) (b : List UInt8) (at_ : Nat) (wr : Bool) (k : Nat) (e : Ending) (w' : World) : Prop :=
  (wr = false ∧ at_ + k ≤ b.length ∧ e = .returned (.int .u32 (num (cutB b at_ k) : Nat)) ∧ RIs base w' g A c b (at_ + k) false ∧ w.grownBy w' (some g)) ∨
  ((wr = true ∨ b.length < at_ + k) ∧ e = .returned (.int .u32 0) ∧ RIs base w' g A c b at_ true ∧ w.grownBy w' (some g))
theorem num_snoc (l : List UInt8) (c : UInt8) : num (l ++ [c]) = num l * 256 + c.toNat := by unfold num; rw [List.foldl_append]; rfl
theorem num_fold (l : List UInt8) : ∀ a : Nat, l.foldl (fun n c => n * 256 + c.toNat) a < (a + 1) * 256 ^ l.length := by
  induction l with
  | nil => intro a; simp
  | cons c l ih =>
    intro a
    have h1 := ih (a * 256 + c.toNat)
    have h2 := c.toNat_lt
    rw [List.foldl_cons, List.length_cons, Nat.pow_succ, Nat.mul_comm (256 ^ _) 256, ← Nat.mul_assoc]
    exact Nat.lt_of_lt_of_le h1 (Nat.mul_le_mul_right _ (by omega))
theorem num_lt (l : List UInt8) : num l < 256 ^ l.length := by have := num_fold l 0; unfold num; omega
theorem num_take_lt {d : List UInt8} {j k : Nat} (hk : k ≤ 4) (hj : j < k) (hd : d.length = k) : num (d.take j) < 16777216 := by
  have h1 := num_lt (d.take j)
  rw [List.length_take] at h1
  have h2 : min j d.length ≤ 3 := by omega
  exact Nat.lt_of_lt_of_le h1 (Nat.pow_le_pow_right (by omega) h2)
theorem num_take_next {d : List UInt8} {j : Nat} (hj : j < d.length) : num (d.take (j + 1)) = num (d.take j) * 256 + (d.getD j 0).toNat := by
  rw [List.take_add_one, List.getElem?_eq_getElem hj, Option.toList_some, num_snoc]
  simp [List.getD, List.getElem?_eq_getElem hj]
theorem u32_step {n : Nat} {c : Nat} (hn : n < 16777216) (hc : c < 256) : bits .or .u32 ((n * 256 : Nat) : Int) (c : Int) = ((n * 256 + c : Nat) : Int) := by
  rw [u32_or_nat _ _ (by omega) (by omega)]
  rw [show n * 256 ||| c = n * 256 + c by rw [Nat.mul_comm]; exact or_add 8 n c hc]
set_option maxRecDepth 100000 in
set_option maxHeartbeats 2000000 in
theorem number_any (base g c at_ k : Nat) (A : Option Addr) (b : List UInt8) (wr : Bool) (w : World) (h : RIs base w g A c b at_ wr) (hk : k ≤ 4) :
    Calls Tryd.prog 20 #[.pointer (some ⟨g, 0, none⟩), .int .i64 k] w fun e w' => NumPost base w g A c b at_ wr k e w' := by
  have C := take_any base g c at_ k A b wr w h (by omega)
  clear h
  go_enter Tryd.func20, Tryd.ntmps20
  go_wp2_with fail
  refine C.mono ?_
  rintro e w1 (⟨h1, h2, ⟨A', c', rfl, hc', hin⟩, h3, h4⟩ | ⟨h1, rfl, h3, h4⟩)
  · have HI := Lib.hid hin
    have H2 := Lib.hid (And.intro h1 h2)
    have H3 := Lib.hid h3
    have H4 := Lib.hid h4
    have hcl := cutB_len h2
    have HCL := Lib.hid hcl
    clear C h1 h2 hin h3 h4 hcl
    obtain ⟨d, hd⟩ : ∃ d, cutB b at_ k = d := ⟨_, rfl⟩
    rw [hd] at HI HCL
    have HD := Lib.hid hd
    clear hd
    go_wp2_with fail
    go_loop [12, 5, 7] (fun i x _ => ∃ j : Nat, j ≤ k ∧ i = .int .i64 j ∧ x = .int .u32 (num (d.take j) : Nat)) (fun i _ _ => k - (intOf i).toNat)
    case atStart => exact ⟨0, Nat.zero_le _, rfl, rfl⟩
    case round =>
      obtain ⟨j, hj, rfl, rfl⟩ := hrel
      by_cases hlt : j < k
      · obtain ⟨bb, o, rfl, hlo, hcell⟩ := HI.out (by rw [HCL.out]; omega)
        have c0 := hcell j (by rw [HCL.out]; exact hlt)
        have HS := Lib.hid (num_take_next (d := d) (j := j) (by rw [HCL.out]; exact hlt))
        have hN := num_take_lt hk hlt HCL.out
        have hc := (d.getD j 0).toNat_lt
        clear hcell hlo
        generalize (d.getD j 0).toNat = y at c0 HS hc
        generalize num (d.take j) = x at HS hN
        have hst := u32_step hN (show y < 256 from hc)
        rw [Int.natCast_mul] at hst
        have HST := Lib.hid hst
        clear hst
        go_wp2_with fail
        go_round
        case rel => exact ⟨j + 1, by omega, by go_num, by rw [HS.out, ← HST.out]; rfl⟩
        case measure => simp [intOf]; omega
      · obtain rfl : j = k := by omega
        have hfull : d.take j = d := List.take_of_length_le (by rw [HCL.out]; exact Nat.le_refl _)
        have HFl := Lib.hid hfull
        clear hfull
        go_wp2_with fail
        go_ret
        exact .inl ⟨H2.out.1, H2.out.2, by rw [HD.out, HFl.out]; rfl, H3.out, H4.out⟩
  · have H1 := Lib.hid h1
    have H3 := Lib.hid h3
    have H4 := Lib.hid h4
    clear C h1 h3 h4
    go_wp2_with fail
    go_loop [12, 5, 7] (fun i x _ => i = .int .i64 0 ∧ x = .int .u32 0) (fun _ _ _ => 0)
    case atStart => exact ⟨rfl, rfl⟩
    case round =>
      obtain ⟨rfl, rfl⟩ := hrel
      go_wp2_with fail
      go_ret
      exact .inr ⟨H1.out, rfl, H3.out, H4.out⟩
end Go.Proofs.YtakfokdjdljjjaaDoor
