/-
  PROVED: whatever two lists of texts LabelCounts is called with, it returns true and leaves the lists as before. Conditions: those that the given row and card print, and no other: the translation holds a pruned copy of the project; the library tables that the row lists are as the program's text lays them (the card's tie).
-/
import Derived.Test.YtpbjijjeglpakaaDoorLabelCounts
import Derived.Test.YtpbjijjeglpakaaDoorFrame
import Derived.SliceStrings
import Derived.Carry
namespace Go.Proofs.YtpbjijjeglpakaaDoor
open Go.ChangeShapes Go.WideShapes Go.ChangeAt Go.ChangeMaps Go.RowKit

theorem laidOut : laidOutB Tryd.prog = true := by kernel_rfl
theorem cellsStr : Tryd.prog.cellsOf 9 = 1 := by kernel_rfl
theorem bytesStr : Tryd.prog.bytesOf 9 = 16 := by kernel_rfl

/-- what a list of texts that came in is: its texts, each in its cell, none longer than the reach -/
theorem open_txts {H : Type} {enc : TypeId × Value → H} {W : World} {fuel : Nat} {A : Option Addr} {len cap : Nat} {x : DataW H × List MemPlace}
    (h : DataW.trod enc Tryd.prog W 0 (fun _ => true) true fuel 27 (Value.slice A len cap).cells.toList = some x) (hw : ∀ n ∈ x.1.weights Tryd.prog 27, n ≤ 140737488351232) :
    ∃ ls : List ByteArray, ls.length = len ∧ Txts W A ls ∧ (A = none → cap = 0) ∧ len ≤ cap ∧ len ≤ 140737488351232 ∧ (len ≤ 20 → tot ls ≤ 9223372036854775807) := by
  rcases open_strings Tryd.underlying27 Tryd.underlying9 cellsStr h with ⟨hcs, _⟩ | ⟨a, len', cap', ss, hcs, _, hl, _, hz, hx, hcell, _⟩
  · simp [Value.cells] at hcs
    obtain ⟨rfl, rfl, rfl⟩ := hcs
    exact ⟨[], rfl, fun h0 => absurd h0 (by simp), fun _ => rfl, Nat.le_refl _, by omega, fun _ => by simp [tot]⟩
  · simp [Value.cells] at hcs
    obtain ⟨rfl, rfl, rfl⟩ := hcs
    simp only [if_true] at hz
    have hw0 := hw ((ss.take len).length * 16 + (ss.drop len).length * 16) (by rw [hx]; simp [DataW.weights, Tryd.underlying27, bytesStr, strs, Nat.add_mul])
    have htl : (ss.take len).length = len := by simp; omega
    rw [htl] at hw0
    have heach : ∀ y ∈ ss.take len, y.size ≤ 140737488351232 := fun y hy => by
      have hmem : ∀ (l : List ByteArray), y ∈ l → y.size ∈ DataW.weightsAll (H := H) Tryd.prog 9 (strs l) := fun l => by
        induction l with
        | nil => intro h; cases h
        | cons z t ih =>
          intro h
          show _ ∈ DataW.weights _ _ _ ++ DataW.weightsAll _ _ (strs t)
          rcases List.mem_cons.1 h with rfl | h
          · exact List.mem_append_left _ (by simp [DataW.weights])
          · exact List.mem_append_right _ (ih h)
      exact hw y.size (by
        rw [hx]
        simp only [DataW.weights, Tryd.underlying27]
        exact List.mem_cons_of_mem _ (List.mem_append_left _ (hmem _ hy)))
    have htot : ∀ (l : List ByteArray), (∀ y ∈ l, y.size ≤ 140737488351232) → tot l ≤ l.length * 140737488351232 := fun l => by
      induction l with
      | nil => intro _; simp [tot]
      | cons z t ih =>
        intro h
        have h1 := h z (by simp)
        have h2 := ih (fun y hy => h y (List.mem_cons_of_mem _ hy))
        simp only [tot, List.length_cons, Nat.add_mul]
        omega
    refine ⟨ss.take len, htl, fun h0 => ?_, fun e => (by cases e), hl, by omega, fun h20 => ?_⟩
    · rw [htl] at h0
      have hss : 0 < ss.length := by omega
      obtain ⟨b, off, spot⟩ := a
      have hspot : spot = none := by simpa [Addr.add] using World.cell?_spot (hcell 0 hss)
      subst hspot
      refine ⟨b, off, rfl, ?_, fun j hj => ?_⟩
      · have h1 := hcell 0 hss
        rw [Addr.add_lit] at h1
        rcases Nat.lt_or_ge b W.heap.size with h' | h'
        · exact h'
        · exfalso
          unfold World.cell? at h1
          rw [Array.getElem?_eq_none h'] at h1
          simp at h1
      · rw [htl] at hj
        have h1 := hcell j (by omega)
        rw [Addr.add_lit] at h1
        rw [h1]
        simp [List.getD, hj]
    · have := htot _ heach
      rw [htl] at this
      have : len * 140737488351232 ≤ 20 * 140737488351232 := Nat.mul_le_mul_right _ h20
      omega

theorem labelCounts_lifted (os : Os) (started : os.Started) (H : Type) (enc : TypeId × Value → H) (F : Stop.Interp) :
    ReturnsInHanded {} Tryd.checked os 8 .any ((OpenSpec.ofChange Rows.labelCountsSpec).preRow enc Tryd.prog Tryd.f8 Rows.labelCountsRow.domain false Rows.labelCountsRow.laid) (((OpenSpec.ofChange Rows.labelCountsSpec).at F).post enc Tryd.prog Tryd.f8 false true false false) := by
  refine returnsInHanded_of_row (C := Tryd.checked) (s := OpenSpec.ofChange Rows.labelCountsSpec) own started (by kernel_rfl) Tryd.func8
    (witness_row_at (enc := enc) (C := Tryd.checked) false (World.laidAll Tryd.prog os tables) #[.slice none 0 0, .slice none 0 0] (World.laidAll_os _ _ _) (by kernel_rfl) (by kernel_rfl) (by kernel_rfl)
      (OpenSpec.preRow_of_cond 8 (x := ([.nil, .nil], [], [])) (by kernel_rfl) (by kernel_rfl) (fun k hk => by cases hk) (by kernel_rfl) (laidMet_laidAll _ (by kernel_rfl) (by kernel_rfl)))) ?_
  intro W base args ds gs before hval0 hW _ _ hwt hL hsh _
  have hval : ∀ (j : Nat) t v, Tryd.f8.params[j]? = some t → args[j]? = some v → Value.okWide Tryd.prog W .any base t v := hval0
  have hW' := hW
  obtain ⟨p, q, hA0, hV, rfl, hfz, hnd⟩ := hW
  have hA : DataW.TrodAll enc Tryd.prog W 0 (fun _ => true) true Tryd.f8.params.toList args.toList ds p := hA0
  rw [Tryd.params8] at hA hval
  obtain ⟨v0, v1, d0, d1, p0, p1, rfl, rfl, rfl, h0, h1⟩ := trodAll_two hA
  obtain ⟨rfl, rfl⟩ := trodVars_none hV
  have h0k := h0
  have h1k := h1
  obtain ⟨A, n, c, rfl⟩ := okWide_slice Tryd.underlying27 (hval 0 27 v0 rfl rfl)
  obtain ⟨B, m, d, rfl⟩ := okWide_slice Tryd.underlying27 (hval 1 27 v1 rfl rfl)
  obtain ⟨fuel0, hf0⟩ := h0
  obtain ⟨fuel1, hf1⟩ := h1
  clear hA0 hval0
  simp only [List.append_nil] at hW'
  have hlt : ∀ x ∈ p0 ++ p1, x.block < W.heap.size := fun x hx => by simpa using hW'.lt x hx
  have hwall := List.all_eq_true.1 hwt
  obtain ⟨ls, hn, hTA, hcA, _, hn47, ht1⟩ := open_txts hf0 (fun q hq => by
    have := hwall q (DataW.weights_mem_each (j := 0) (t := 27) (by rw [Tryd.params8]; rfl) rfl q hq)
    exact Nat.le_trans (of_decide_eq_true this) (by decide))
  obtain ⟨ks, hm, hTB, hcB, hmd, hm47, ht2⟩ := open_txts hf1 (fun q hq => by
    have := hwall q (DataW.weights_mem_each (j := 1) (t := 27) (by rw [Tryd.params8]; rfl) rfl q hq)
    exact Nat.le_trans (of_decide_eq_true this) (by decide))
  refine (labelCounts_walk A B c d n m ls ks W (env_of_shape hsh) hn hm (by omega) (by omega) hTA hTB ht1 ht2 hcA hcB hmd).mono fun e W' ⟨he, hb⟩ => ?_
  subst he
  refine ⟨_, rfl, _, _, _, [], p0 ++ p1, [], hW', trodAll_mk1 (shut_bool Tryd.underlying4 _), ?_, rfl, hb.frame _, fun h => by cases h⟩
  exact trodAll_mk2 (Below.trod laidOut (by kernel_rfl) (of_decide_eq_true (by kernel_rfl)) h0k hb (fun x hx => hlt x (List.mem_append_left _ hx))) (Below.trod laidOut (by kernel_rfl) (of_decide_eq_true (by kernel_rfl)) h1k hb (fun x hx => hlt x (List.mem_append_right _ hx)))

theorem labelCounts_said : Rows.LabelCountsSaid :=
  OpenClaim.holds_of_cond 8 Tryd.f8 rfl rfl rfl rfl rfl rfl rfl ⟨rfl, rfl, rfl, rfl, rfl⟩ rfl rfl rfl rfl rfl (by kernel_rfl) Tryd.func8 (by kernel_rfl)
    (of_decide_eq_true (by kernel_rfl)) (by unfold Func.isWrapper; first | (rw [if_pos (by decide +kernel)]; kernel_rfl) | (rw [if_neg (by decide +kernel)]; exact ⟨rfl, rfl⟩))
    (fun os started H enc _ F => by rw [OpenClaim.pre_eq_preRow]; exact labelCounts_lifted os started H enc F)

theorem labelCounts_plain (f : FuncId) (fn : Func) (hf : Tryd.pinned.checked.prog.funcNamed Rows.labelCountsRow.func = some f) (hfn : Tryd.pinned.checked.prog.funcs[f]? = some fn) :
    false = Tryd.pinned.checked.prog.looks [] ∧ ∀ (j : Nat) t, fn.params[j]? = some t → Tryd.pinned.checked.prog.wantsStandIn t = false := by
  obtain rfl : f = 8 := Option.some.inj ((show Tryd.prog.funcNamed Rows.labelCountsRow.func = some 8 by kernel_rfl).symm.trans hf) |>.symm
  obtain rfl : fn = Tryd.f8 := (Option.some.inj (Tryd.func8.symm.trans hfn)).symm
  refine ⟨by kernel_rfl, fun j t ht => ?_⟩
  rw [Tryd.params8] at ht
  have hm : t ∈ [27] := by have := Array.mem_of_getElem? ht; simpa using this
  have hall : ([27].all fun u => !Tryd.prog.wantsStandIn u) = true := by kernel_rfl
  exact (show Tryd.prog.wantsStandIn t = false by simpa using List.all_eq_true.1 hall t hm)

theorem labelCounts_card : Rows.LabelCountsCardSaid :=
  Claim7.holds_tied_plain_at .later [] _ _ _ _ labelCounts_said (fun _ h => by cases h) (by kernel_rfl) (fun _ h => by cases h) labelCounts_row_tie rfl ⟨rfl, rfl⟩ (by kernel_rfl) rfl labelCounts_plain (by kernel_rfl)
end Go.Proofs.YtpbjijjeglpakaaDoor
