/-
  The walks of msg.Right, wrong, allRight and All: what they answer for every record, list of records and message. Conditions: each states its own.
-/
import Derived.Test.YtakfokdjdljjjaaDoorMsgRight3
import Derived.Test.YtakfokdjdljjjaaDoorTxts
namespace Go.Proofs.YtakfokdjdljjjaaDoor
open Go.RowKit

/-- a record's texts are no longer than the model lets a text be, its address has 16 bytes -/
structure RV.Fits (r : RV) : Prop where
  ad : r.ad.length = 16
  nm : r.nm.size ≤ maxLen
  tx : r.tx.size ≤ maxLen
  da : r.da.size ≤ maxLen
theorem right_rv (r : RV) (h : r.Fits) (w : World) (he : Env w) :
    Calls Tryd.prog 42 #[.agg r.cells] w fun e w' => e = .returned (.bool (rvOk r)) ∧ Below w.heap.size w w' ∧ Env w' := by
  obtain ⟨nm, ty, ttl, ad, tx, da⟩ := r
  obtain ⟨h16, h1, h2, h3⟩ := h
  simp only at h16 h1 h2 h3
  unfold rvOk
  simp only
  cases g : gosB nm with
  | false => simp only [Bool.false_and]; exact right_no1 he h1 g
  | true =>
    cases b1 : (btw 1 ty 65535 && btw 0 ttl 1048576) with
    | false => simp only [Bool.true_and, b1, Bool.false_and]; exact right_no2 he h1 g b1
    | true =>
      simp only [Bool.true_and, b1]
      obtain ⟨t1, t2⟩ := Bool.and_eq_true_iff.1 b1
      by_cases e1 : ty = 1
      · subst e1
        rw [if_pos rfl]
        cases a4 : (ad == pre4 ++ ad.drop 12) with
        | true => rw [Bool.true_and]; exact right_a h16 he h1 g t2 a4
        | false => rw [Bool.false_and]; exact right_a_no h16 he h1 g t2 a4
      · rw [if_neg e1]
        by_cases e28 : ty = 28
        · subst e28
          rw [if_pos rfl]
          exact right_aaaa h16 he h1 g t2
        · rw [if_neg e28]
          by_cases en : ty = 2 ∨ ty = 5 ∨ ty = 12
          · rw [if_pos en]
            cases gx : gosB tx with
            | true => rw [Bool.true_and]; exact right_nm h16 he h1 h2 g t2 en gx
            | false => rw [Bool.false_and]; exact right_nm_no h16 he h1 h2 g t2 en gx
          · rw [if_neg en]
            by_cases ed : da.size ≤ 255
            · rw [decide_eq_true ed, Bool.true_and]
              exact right_ot h16 he h1 g t2 t1 e1 e28 (fun e => en (.inl e)) (fun e => en (.inr (.inl e))) (fun e => en (.inr (.inr e))) ed
            · rw [decide_eq_false ed, Bool.false_and]
              exact right_ot_no h16 he h1 g t2 t1 e1 e28 (fun e => en (.inl e)) (fun e => en (.inr (.inl e))) (fun e => en (.inr (.inr e))) (by omega) h3

set_option maxRecDepth 100000 in
set_option maxHeartbeats 1000000 in
theorem wrong_rv (r : RV) (h : r.Fits) (w : World) (he : Env w) :
    Calls Tryd.prog 36 #[.agg r.cells] w fun e w' => e = .returned (.bool (!rvOk r)) ∧ Below w.heap.size w w' ∧ Env w' := by
  have C := right_rv r h (w.alloc (.cells r.cells 45)) (he.alloc _)
  have Z := Lib.hid (sizeRv h.ad)
  clear h
  revert C Z
  generalize rvOk r = b
  generalize r.cells = cs
  intro C Z
  go_enter Tryd.func36, Tryd.ntmps36
  go_wp2_with (first
    | (refine wpList_load_row rfl 45 (.tmp 1) rfl w.heap.size rfl 45 cs (0, 0) _ (heap_alloc_last w _) Tryd.underlying45 rfl Z.out ?_; go_simp))
  refine C.mono ?_; rintro e w1 ⟨rfl, hb1, he1⟩
  go_wp2_with fail
  go_ret
  exact ⟨rfl, ((Below.refl _ w).alloc (Nat.le_refl _) _).trans (hb1.mono (by simp)), he1⟩

/-- the slice at A holds these records -/
def RecsAt (w : World) (A : Option Addr) (rs : List RV) : Prop :=
  0 < rs.length → ∃ b o, A = some ⟨b, o, none⟩ ∧ b < w.heap.size ∧ ∀ k r, rs[k]? = some r → ∀ j v, r.cells.toList[j]? = some v → w.cell? ((⟨b, o + k * 21, none⟩ : Addr).add j) = some v
theorem RecsAt.below {w w' : World} {A : Option Addr} {rs : List RV} (h : RecsAt w A rs) (hb : Below w.heap.size w w') : RecsAt w' A rs := fun h0 => by
  obtain ⟨b, o, rfl, hlt, hc⟩ := h h0
  exact ⟨b, o, rfl, Nat.lt_of_lt_of_le hlt hb.size, fun k r hr j v hv => (hb.cell (p := (⟨b, o + k * 21, none⟩ : Addr).add j) (by rw [Addr.add_lit]; exact hlt)).trans (hc k r hr j v hv)⟩

def IdxPost (b : Bool) (w : World) (e : Ending) (w' : World) : Prop := ∃ n : Int, e = .returned (.int .i64 n) ∧ (0 ≤ n ↔ b = false) ∧ Below w.heap.size w w' ∧ Env w'
set_option maxRecDepth 100000 in
set_option maxHeartbeats 2000000 in
theorem indexFunc_wrong (A : Option Addr) (c : Nat) (rs : List RV) (hf : ∀ r ∈ rs, r.Fits) (hl : rs.length ≤ 9223372036854775807) (w : World) (he : Env w) (h : RecsAt w A rs) :
    Calls Tryd.prog 41 #[.slice A rs.length c, .func (.func 36) #[] #[]] w fun e w' => IdxPost (rs.all rvOk) w e w' := by
  have HF := Lib.hid hf
  have HR := Lib.hid h
  have HE := Lib.hid he
  clear hf h he
  go_enter Tryd.func41, Tryd.ntmps41
  go_wp2_with fail
  go_loopw [8, 5] (fun i _ wr => ∃ k : Nat, k ≤ rs.length ∧ i = .int .i64 k ∧ Hid (Below w.heap.size w wr) ∧ Hid ((rs.take k).all rvOk = true)) (fun i _ _ => rs.length - (intOf i).toNat)
  case atStart => exact ⟨0, Nat.zero_le _, rfl, Lib.hid (Below.refl _ _), Lib.hid rfl⟩
  case round =>
    obtain ⟨k, hk, rfl, HB, HA⟩ := hrel
    by_cases hlt : k < rs.length
    · obtain ⟨b, o, rfl, hbl, hc⟩ := (HR.out.below HB.out) (by omega)
      obtain ⟨r, hr⟩ : ∃ r, rs[k]? = some r := ⟨_, List.getElem?_eq_getElem hlt⟩
      have hfit := HF.out r (List.mem_of_getElem? hr)
      have HC := Lib.hid (hc k r hr)
      have Z := Lib.hid (sizeRv hfit.ad)
      have C := wrong_rv r hfit wr (HE.out.below HB.out)
      have HT : Hid ((rs.take (k + 1)).all rvOk = rvOk r) := Lib.hid (by
        rw [List.take_add_one, hr, List.all_append, HA.out]; simp)
      have HL : Hid (rvOk r = false → rs.all rvOk = false) := Lib.hid (fun e => by
        rw [List.all_eq_false]; exact ⟨r, List.mem_of_getElem? hr, by rw [e]; simp⟩)
      clear hc hr hfit hbl
      revert HC Z C HT HL
      generalize rvOk r = bb
      generalize r.cells = cs
      intro HC Z C HT HL
      cases bb with
      | true =>
        go_wp2_with (first
          | (refine wpList_load_agg rfl 45 (.tmp 14) rfl ⟨b, o + k * 21, none⟩ rfl cs _ HC.out Tryd.underlying45 rfl Z.out ?_; go_simp))
        refine C.mono ?_; rintro e w2 ⟨rfl, hb2, _⟩
        have HB2 := Lib.hid (HB.out.trans (hb2.mono HB.out.size))
        clear hb2 C
        go_wp2_with fail
        go_roundw
        case rel => exact ⟨k + 1, by omega, by go_num, HB2, HT⟩
        case measure => simp [intOf]; omega
      | false =>
        go_wp2_with (first
          | (refine wpList_load_agg rfl 45 (.tmp 14) rfl ⟨b, o + k * 21, none⟩ rfl cs _ HC.out Tryd.underlying45 rfl Z.out ?_; go_simp))
        refine C.mono ?_; rintro e w2 ⟨rfl, hb2, _⟩
        have HB2 := Lib.hid (HB.out.trans (hb2.mono HB.out.size))
        clear hb2 C
        go_wp2_with fail
        go_ret
        exact ⟨k, rfl, by rw [HL.out (by simp)]; simp, HB2.out, HE.out.below HB2.out⟩
    · obtain rfl : k = rs.length := by omega
      have HT : Hid (rs.all rvOk = true) := Lib.hid (by have := HA.out; rwa [List.take_length] at this)
      go_wp2_with fail
      go_ret
      exact ⟨-1, rfl, by rw [HT.out]; simp, HB.out, HE.out.below HB.out⟩
theorem containsFunc_wrong (A : Option Addr) (c : Nat) (rs : List RV) (hf : ∀ r ∈ rs, r.Fits) (hl : rs.length ≤ 9223372036854775807) (w : World) (he : Env w) (h : RecsAt w A rs) :
    Calls Tryd.prog 35 #[.slice A rs.length c, .func (.func 36) #[] #[]] w fun e w' => e = .returned (.bool (!rs.all rvOk)) ∧ Below w.heap.size w w' ∧ Env w' := by
  have C := indexFunc_wrong A c rs hf hl w he h
  clear hf he h
  generalize rs.all rvOk = b at C ⊢
  go_enter Tryd.func35, Tryd.ntmps35
  go_wp2_with fail
  refine C.mono ?_; rintro e w1 ⟨n, rfl, hn, hb1, he1⟩
  have d : decide (0 ≤ n) = !b := by
    cases b with
    | true => simp at hn; simp; omega
    | false => simp at hn; simp; omega
  clear hn C
  go_wp2_with fail
  go_ret
  exact ⟨rfl, hb1, he1⟩
/-- may these be all of a message's answers, or authorities? -/
def allB (rs : List RV) : Bool := decide (rs.length ≤ 32) && rs.all rvOk
theorem allRight_rv (A : Option Addr) (c : Nat) (rs : List RV) (hf : ∀ r ∈ rs, r.Fits) (hl : rs.length ≤ 9223372036854775807) (w : World) (he : Env w) (h : RecsAt w A rs) :
    Calls Tryd.prog 26 #[.slice A rs.length c] w fun e w' => e = .returned (.bool (allB rs)) ∧ Below w.heap.size w w' ∧ Env w' := by
  unfold allB
  have C := containsFunc_wrong A c rs hf hl w he h
  clear hf h
  generalize rs.all rvOk = b at C ⊢
  by_cases h32 : rs.length ≤ 32
  · rw [decide_eq_true h32, Bool.true_and]
    have d : decide ((rs.length : Int) ≤ 32) = true := decide_eq_true (by omega)
    clear he
    go_enter Tryd.func26, Tryd.ntmps26
    go_wp2_with fail
    refine C.mono ?_; rintro e w1 ⟨rfl, hb1, he1⟩
    go_wp2_with fail
    go_ret
    exact ⟨ret_bool (by simp), hb1, he1⟩
  · rw [decide_eq_false h32, Bool.false_and]
    have d : decide ((rs.length : Int) ≤ 32) = false := decide_eq_false (by omega)
    clear C
    go_enter Tryd.func26, Tryd.ntmps26
    go_wp2_with fail
    go_ret
    exact ⟨rfl, Below.refl _ _, he⟩
end Go.Proofs.YtakfokdjdljjjaaDoor
