/-
  The walk of the laws' own helper fit: the example holds. Condition: the library's variable MaxLen holds some number.
-/
import Derived.Test.YtddgkignojfgiaaDoorCandFn
namespace Go.Proofs.YtddgkignojfgiaaDoor
open Go.RowKit

/-- a label of small letters and digits -/
def labC (x : List UInt8) : Bool := decide (1 ≤ x.length) && decide (x.length ≤ 63) && x.all (fun c => (decide (97 ≤ c.toNat) && decide (c.toNat ≤ 122)) || (decide (48 ≤ c.toNat) && decide (c.toNat ≤ 57)))
theorem labC_lab {x : List UInt8} (h : labC x = true) : Lab x 0 x := by
  unfold labC at h
  simp only [Bool.and_eq_true, Bool.or_eq_true, decide_eq_true_eq, List.all_eq_true] at h
  obtain ⟨⟨h1, h2⟩, h3⟩ := h
  have hl : low x = x := low_same fun c hc => by have := h3 c hc; omega
  have h45 : ∀ c ∈ x, c ≠ 45 := fun c hc e => by
    have := h3 c hc
    rw [e] at this
    have e2 : (45 : UInt8).toNat = 45 := rfl
    omega
  have hr : RightL x := ⟨h1, h2, fun c hc => by have := h3 c hc; unfold stN; omega, fun e => h45 45 (List.mem_of_mem_head? (by rw [e]; rfl)) rfl, fun e => h45 45 (List.mem_of_mem_getLast? (by rw [e]; rfl)) rfl⟩
  have := Lab.plain (x := x) (fun c hc => by have := h3 c hc; omega) (by rw [hl]; exact hr) (by
    rw [hl]
    intro hx
    obtain ⟨t, ht⟩ := hx
    exact h45 45 (by rw [← ht]; simp [XN]) rfl)
  rwa [hl] at this
theorem labsC : ∀ {xs : List (List UInt8)}, xs.all labC = true → Labs xs 0 xs
  | [], _ => .nil
  | x :: xs, h => by
    rw [List.all_cons, Bool.and_eq_true] at h
    exact .next (labC_lab h.1) (labsC h.2)
/-- names of small letters and digits go out as they are -/
def okC (s : List UInt8) : Bool := decide (s.length ≤ 253) && (sp (cutP s)).all labC && (jn (sp (cutP s)) == cutP s)
theorem ta_ok {s : List UInt8} (h : okC s = true) : TA s 0 (cutP s) := by
  unfold okC at h
  simp only [Bool.and_eq_true, decide_eq_true_eq, beq_iff_eq] at h
  obtain ⟨⟨h1, h2⟩, h3⟩ := h
  have := TA.ok (s := s) (by omega) _ (labsC h2) (by rw [h3]; have := cutP_length s; omega)
  rwa [h3] at this
/-- List where it is known how the name goes out -/
theorem list_at (x0 : Value) (A : Option Addr) (c : Nat) (ds : List ByteArray) (dots tm att : Int) (s t : ByteArray) (n : Nat) (hta : TA s.data.toList n t.data.toList) (w : World) (he : Env w) (hd : Txts w A ds) (hl : ds.length ≤ 900) (hz : ∀ d ∈ ds, d.size ≤ 100000) (hs : s.size ≤ 140737488351232) :
    Calls Tryd.prog 10 #[.agg #[x0, .slice A ds.length c, .int .i64 dots, .int .i64 tm, .int .i64 att], .string s] w fun e w' =>
      ∃ v, e = .returned (.tuple #[v, .int .i64 n]) ∧ OwnT w.heap.size v (resL n dots ds s t) w' ∧ Below w.heap.size w w' ∧ Env w' :=
  (list_e x0 A c ds dots tm att s w he hd hl hz hs).mono fun e w' ⟨m, y, v, h1, h2, h3, h4, h5⟩ => by
    obtain ⟨e1, e2⟩ := h2.out.det hta
    subst e1
    obtain rfl := bytes_inj e2
    exact ⟨v, h1, h3, h4, h5⟩
theorem datas_inj : ∀ {a b : List ByteArray}, a.map (·.data.toList) = b.map (·.data.toList) → a = b
  | [], [], _ => rfl
  | [], _ :: _, h => by simp at h
  | _ :: _, [], h => by simp at h
  | x :: a, y :: b, h => by
    rw [List.map_cons, List.map_cons, List.cons.injEq] at h
    rw [bytes_inj h.1, datas_inj h.2]
theorem fit_res : resL 0 1 [⟨#[98]⟩] ⟨#[97]⟩ ⟨#[97]⟩ = [⟨#[97, 46, 98]⟩, ⟨#[97]⟩] := datas_inj (by decide +kernel)
set_option maxRecDepth 100000 in
set_option maxHeartbeats 1000000 in
theorem fit12_e (w : World) (he : Env w) :
    Calls Tryd.prog 8 #[] w fun e w' => e = .returned (.bool true) ∧ Below w.heap.size w w' ∧ Env w' := by
  have HE := Lib.hid he
  clear he
  go_enter Tryd.func8, Tryd.ntmps8
  go_wp2_with fail
  have hb1 := (Below.refl _ w).alloc (Nat.le_refl _) (.cells #[.string ⟨#[98]⟩] 9)
  have hO := heap_alloc_last w (.cells #[.string ⟨#[98]⟩] 9)
  have C := list_at (.slice none 0 0) (some ⟨w.heap.size, 0, none⟩) 1 [⟨#[98]⟩] 1 0 0 ⟨#[97]⟩ ⟨#[97]⟩ 0 (ta_ok (s := [97]) (by decide +kernel)) _ (HE.out.below hb1)
    (fun _ => ⟨w.heap.size, 0, rfl, by rw [World.size_alloc]; omega, fun j hj => by
      obtain rfl : j = 0 := by simp at hj; omega
      rw [cell_of_row _ _ _ _ _ _ hO]; rfl⟩) (by simp) (by simp; decide) (by decide)
  rw [fit_res] at C
  refine Calls.mono C ?_; rintro e w1 ⟨v, rfl, hr, hb, hE⟩
  obtain ⟨g, c, rfl, hc, hg, _, hcell⟩ := ownT_full hr (by simp)
  have c0 := hcell 0 (by simp)
  have c1 := hcell 1 (by simp)
  have HB := Lib.hid (hb1.trans (hb.mono hb1.size))
  have HE1 := Lib.hid hE
  have HD := Lib.hid (dots_c ⟨#[97, 46, 98]⟩)
  clear C hr hb hE hb1 hO hcell
  simp only [List.length_cons, List.length_nil] at hc
  simp only [List.getD_cons_zero, List.getD_cons_succ] at c0 c1
  go_wp2_with (go_at_call 11; refine (HD.out _).mono ?_; rintro e w' ⟨rfl, hw⟩; obtain rfl := hw.symm)
  go_ret
  exact ⟨rfl, HB.out, HE1.out⟩
end Go.Proofs.YtddgkignojfgiaaDoor
