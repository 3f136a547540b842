/-
  Keys held against one another: the walks of slices.Compare and of the function by which rank.Sort sorts; the library's contract of insertion, laid at this translation. Conditions: each states its own.
-/
import Derived.Test.YtoaedlllnkcfnaaDoorRankKey
import Derived.Shelf.SlGeneric
import Derived.Shelf.SlSortCmp.Insertion
namespace Go.Proofs
open Go.Shelf
def Tryd.insLays_ren : Go.Shelf.Ren := ⟨fun | 20 => 39 | n => n, fun | 24 => 3 | 22 => 48 | 3 => 3 | 25 => 51 | 4 => 4 | 0 => 0 | n => n, fun | n => n⟩
theorem Tryd.insLays : Go.Proofs.SlLaysF.n20 Tryd.prog Tryd.insLays_ren := {
  mixed := by kernel_rfl
  f20 := ⟨Tryd.f39.name, by decide, Tryd.func39.trans (congrArg some (by kernel_rfl))⟩
  t0 := Tryd.underlying0
  a0 := Tryd.isAgg0
  z0 := Tryd.sizeOf0
  v0 := Tryd.zeroValue0
  t3 := Tryd.underlying3
  a3 := Tryd.isAgg3
  z3 := Tryd.sizeOf3
  v3 := Tryd.zeroValue3
  t4 := Tryd.underlying4
  a4 := Tryd.isAgg4
  z4 := Tryd.sizeOf4
  v4 := Tryd.zeroValue4
  t22 := Tryd.underlying48
  a22 := Tryd.isAgg48
  z22 := Tryd.sizeOf48
  v22 := Tryd.zeroValue48
  a24 := Tryd.isAgg3
  z24 := Tryd.sizeOf3
  t25 := Tryd.underlying51
  a25 := Tryd.isAgg51
  z25 := Tryd.sizeOf51
  v25 := Tryd.zeroValue51 }
end Go.Proofs
namespace Go.Proofs.YtoaedlllnkcfnaaDoor
open Go.RowKit

/-- two lists of numbers, held against one another number by number -/
def cmpK : List Int → List Int → Int
  | x :: xs, y :: ys => if Lib.compareInt x y = 0 then cmpK xs ys else Lib.compareInt x y
  | _, _ => 0
theorem cmpK_drop (xs ys : List Int) (k : Nat) (h1 : k < xs.length) (h2 : k < ys.length) : cmpK (xs.drop k) (ys.drop k) = if Lib.compareInt (xs.getD k 0) (ys.getD k 0) = 0 then cmpK (xs.drop (k + 1)) (ys.drop (k + 1)) else Lib.compareInt (xs.getD k 0) (ys.getD k 0) := by
  rw [List.drop_eq_getElem_cons h1, List.drop_eq_getElem_cons h2, cmpK]
  simp [List.getD, List.getElem?_eq_getElem h1, List.getElem?_eq_getElem h2]
set_option maxRecDepth 100000 in
set_option maxHeartbeats 1000000 in
theorem compareS_e (xs ys : List Int) (hl : xs.length = ys.length) (b1 o1 c1 b2 o2 c2 : Nat) (w : World) (hx : ∀ j, j < xs.length → w.cell? ⟨b1, o1 + j, none⟩ = some (.int .i64 (xs.getD j 0))) (hy : ∀ j, j < ys.length → w.cell? ⟨b2, o2 + j, none⟩ = some (.int .i64 (ys.getD j 0))) (hn : xs.length < 1000) :
    Calls Tryd.prog 22 #[.slice (some ⟨b1, o1, none⟩) xs.length c1, .slice (some ⟨b2, o2, none⟩) ys.length c2] w fun e w' => e = .returned (.int .i64 (cmpK xs ys)) ∧ w' = w := by
  have hst := fun k h => cmpK_drop xs ys k h (by omega)
  have h0 : cmpK xs ys = cmpK (xs.drop 0) (ys.drop 0) := rfl
  have hend : cmpK (xs.drop xs.length) (ys.drop xs.length) = 0 := by rw [List.drop_length]; cases ys.drop xs.length <;> rfl
  obtain ⟨F, hF⟩ : ∃ F : Nat → Int, ∀ k, F k = cmpK (xs.drop k) (ys.drop k) := ⟨_, fun _ => rfl⟩
  rw [h0]
  simp only [← hF] at hst hend ⊢
  obtain ⟨f, hf⟩ : ∃ g : Nat → Int, ∀ k, g k = xs.getD k 0 := ⟨_, fun _ => rfl⟩
  obtain ⟨g, hg⟩ : ∃ g : Nat → Int, ∀ k, g k = ys.getD k 0 := ⟨_, fun _ => rfl⟩
  simp only [← hf, ← hg] at hst hx hy
  rw [← hl] at hy ⊢
  generalize xs.length = n at *
  have HX := Lib.hid hx
  have HY := Lib.hid hy
  have HS := Lib.hid hst
  have HE := Lib.hid hend
  clear hx hy hst hend hF hf hg h0 hl
  go_enter Tryd.func22, Tryd.ntmps22
  go_wp2
  go_loopg [11] n (fun gk i wr => ∃ k : Nat, i = .int .i64 k ∧ k + gk = n ∧ Hid (F 0 = F k) ∧ wr = w)
  case atStart => exact ⟨0, rfl, by simp, Lib.hid rfl, rfl⟩
  case round =>
    obtain ⟨k, rfl, hk, HF, rfl⟩ := hrel
    by_cases hlt : k < n
    · obtain ⟨m, rfl⟩ : ∃ m, gk = m + 1 := ⟨gk - 1, by omega⟩
      have hc := HX.out k hlt
      have hd := HY.out k hlt
      have hs := HS.out k hlt
      have hcmp := fun W => Tryd.cmp_Compare_int (f k) (g k) W
      generalize hfk : f k = x at hc hs hcmp
      generalize hgk : g k = y at hd hs hcmp
      generalize Lib.compareInt x y = c at hs hcmp
      have hkI : (k : Int) < (n : Int) := by omega
      have hkN : ¬ (n : Int) ≤ (k : Int) := by omega
      by_cases hx : c = 0
      · rw [if_pos hx] at hs
        have HF' := Lib.hid (HF.out.trans hs)
        clear hs HF hgk hfk
        subst hx
        go_wp2_with (go_at_call 32; refine (hcmp _).mono ?_; rintro e w' ⟨rfl, rfl⟩)
        go_roundg m
        case measure => omega
        case rel => exact ⟨k + 1, by go_num, by omega, HF', rfl⟩
      · rw [if_neg hx] at hs
        have HF' := Lib.hid (HF.out.trans hs)
        clear hs HF hgk hfk
        go_wp2_with (go_at_call 32; refine (hcmp _).mono ?_; rintro e w' ⟨rfl, rfl⟩)
        go_ret
        refine ⟨?_, rfl⟩
        rw [HF'.out]; rfl
    · obtain rfl : k = n := by omega
      have HF' := Lib.hid (HF.out.trans HE.out)
      have hkI : ¬ (k : Int) < (k : Int) := by omega
      go_wp2
      go_ret
      refine ⟨?_, rfl⟩
      rw [HF'.out]; rfl
/-- keys, one behind the other, and the variable that holds them -/
structure KeysAt (w : World) (B KB : Nat) (ks : List (List Int)) : Prop where
  var : w.cell? ⟨B, 0, none⟩ = some (.slice (some ⟨KB, 0, none⟩) ks.length ks.length)
  len : ∀ k ∈ ks, k.length = 8
  cells : ∀ i k, ks[i]? = some k → ∀ j, j < 8 → w.cell? ⟨KB, i * 8 + j, none⟩ = some (.int .i64 (k.getD j 0))
set_option maxRecDepth 100000 in
set_option maxHeartbeats 1000000 in
theorem closure_e (B KB : Nat) (ks : List (List Int)) (w : World) (h : KeysAt w B KB ks) (i j : Nat) (x y : List Int) (hi : ks[i]? = some x) (hj : ks[j]? = some y) :
    Calls Tryd.prog 21 (#[.int .i64 i, .int .i64 j] ++ #[.pointer (some ⟨B, 0, none⟩)]) w fun e w' => e = .returned (.int .i64 (cmpK y x)) ∧ ∃ q, w' = w.drewN q := by
  have hv := h.var
  have hil := (List.getElem?_eq_some_iff.1 hi).1
  have hjl := (List.getElem?_eq_some_iff.1 hj).1
  have hx8 := h.len x (List.mem_of_getElem? hi)
  have hy8 := h.len y (List.mem_of_getElem? hj)
  have hC : ∀ q, Calls Tryd.prog 22 #[.slice (some ⟨KB, j * 8, none⟩) 8 8, .slice (some ⟨KB, i * 8, none⟩) 8 8] (w.drewN q) fun e w' => e = .returned (.int .i64 (cmpK y x)) ∧ w' = w.drewN q := fun q => by
    have := compareS_e y x (by omega) KB (j * 8) 8 KB (i * 8) 8 (w.drewN q) (fun l hl => h.cells j y hj l (by omega)) (fun l hl => h.cells i x hi l (by omega)) (by omega)
    rw [hx8, hy8] at this
    exact this
  have hiI : (i : Int) < (ks.length : Int) := by omega
  have hjI : (j : Int) < (ks.length : Int) := by omega
  have HC := Lib.hid hC
  generalize cmpK y x = r at HC ⊢
  clear hC h hi hj hx8 hy8
  show Calls Tryd.prog 21 #[.int .i64 i, .int .i64 j, .pointer (some ⟨B, 0, none⟩)] w _
  go_enter Tryd.func21, Tryd.ntmps21
  go_wp2_with fail
  go_quiet ((go_at_call 22; refine Calls.quiet_of_same (HC.out _)))
  go_wp2
  go_ret
  exact ⟨rfl, _, rfl⟩
end Go.Proofs.YtoaedlllnkcfnaaDoor
