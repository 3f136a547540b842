/-
  What the walk of LabelCounts leans on: texts that lie in a slice, appending them to a row of the call's own, joining them, and plain facts on labels with points between. Conditions: each states its own.
-/
import Derived.Test.YtpbjijjeglpakaaDoorPartsLib
import Derived.Test.YtpbjijjeglpakaaDoorLabelTurns
import Derived.Laws.AppendOwnNone
import Derived.Deep.AppendLies
import Derived.OwnWalk
namespace Go.Proofs.YtpbjijjeglpakaaDoor
open Go.RowKit

/-- the slice at A holds these texts -/
def Txts (w : World) (A : Option Addr) (xs : List ByteArray) : Prop := 0 < xs.length → ∃ b o, A = some ⟨b, o, none⟩ ∧ b < w.heap.size ∧ ∀ j, j < xs.length → w.cell? ⟨b, o + j, none⟩ = some (.string (xs.getD j ByteArray.empty))
theorem Txts.below {w w' : World} {A : Option Addr} {xs : List ByteArray} (h : Txts w A xs) (hb : Below w.heap.size w w') : Txts w' A xs := fun h0 => by
  obtain ⟨b, o, rfl, hlt, hc⟩ := h h0
  exact ⟨b, o, rfl, Nat.lt_of_lt_of_le hlt hb.size, fun j hj => (hb.cell (p := ⟨b, o + j, none⟩) hlt).trans (hc j hj)⟩
theorem Txts.light {w : World} {A : Option Addr} {xs : List ByteArray} (h : Txts w A xs) (c : Nat) (hm : tot xs ≤ 9223372036854775807) (hl : xs.length ≤ 20) :
    Calls Tryd.prog 10 #[.slice A xs.length c] w fun e w' => e = .returned (.bool (decide (tot xs ≤ 600))) ∧ w = w' :=
  light_any A c xs w hm (by omega) fun h0 => by
    obtain ⟨b, o, hA, _, hc⟩ := h h0
    exact ⟨b, o, hA, hc⟩

theorem infoStr : (Tryd.prog.info? 9).map (fun i => (i.zero, i.size, i.bytes)) = some (some (.string ByteArray.empty), 1, 16) := by kernel_rfl
/-- append of texts to a row of the call's own -/
theorem wpList_append_txts {w : World} {ops : Array Oper} {rest : List Oper} {o : Oper} {a : Act} {Q : Exit → Act → World → Prop} (hgd : o.guard = none) (s x : Operand)
    (ho : o.op = .call { callee := .builtin .append, args := #[s, x], argTypes := #[27, 27] })
    (base : Nat) (v : Value) (xs ys : List ByteArray) (n : Nat) (hs : a.eval s = v) (hown : w.ownsRow base 9 1 v n (xs.map Value.string))
    (A : Option Addr) (m c : Nat) (hx : a.eval x = .slice A m c) (hnil : A = none → c = 0) (hm : ys.length = m) (hr : Txts w A ys) (hsmall : n + m ≤ 40) (hbase : base ≤ w.heap.size)
    (h : ∀ v' w', w'.ownsRow base 9 1 v' (n + m) ((xs ++ ys).map Value.string) → w.grownBy w' v.ownBlock → wpList Tryd.prog ops Q rest (a.put o.dst v') w') : wpList Tryd.prog ops Q (o :: rest) a w := by
  obtain ⟨i0, hi, hz0, hz1, hz2⟩ := info_parts infoStr
  have hbig : n + m ≤ maxLen := by unfold maxLen; omega
  cases A with
  | none =>
    have h0 : ys = [] := by
      rcases Nat.eq_zero_or_pos ys.length with h0 | h0
      · exact List.length_eq_zero_iff.1 h0
      · obtain ⟨b, o, e, _⟩ := hr h0
        cases e
    subst h0
    obtain rfl : m = 0 := hm.symm
    rw [hnil rfl] at hx
    refine wpList_append_own_none hgd s x 27 ho base 9 i0 1 Tryd.underlying27 hi v n _ hs hown hx (h v w (by simpa using hown) (World.grownBy.refl w _))
  | some ad =>
    have hcells : ∀ j u, (ys.map Value.string)[j]? = some u → w.cell? (ad.add j) = some u := fun j u hj => by
      rw [List.getElem?_map] at hj
      cases hy : ys[j]? with
      | none => rw [hy] at hj; cases hj
      | some y =>
        rw [hy] at hj
        have hjl : j < ys.length := (List.getElem?_eq_some_iff.1 hy).1
        obtain ⟨b, o, e, _, hc⟩ := hr (by omega)
        injection e with e
        subst e
        rw [Addr.add_lit, hc j hjl, List.getD, hy]
        exact hj
    refine wpList_append_own (w := w) hgd s x 27 ho base 9 i0 (.string ByteArray.empty) 1 16 Tryd.underlying27 hi hz0 hz1 hz2 rfl (by decide) v n (xs.map Value.string) hs hown ad m c (ys.map Value.string) hx (by simp [hm]) hcells
      (fun u hu => by
        obtain ⟨y, _, rfl⟩ := List.mem_map.1 hu
        rfl) hbig (by omega) hbase (fun v' w' h2 h3 _ => h v' w' (by rw [List.map_append]; exact h2) h3)
/-- a row of the call's own, as texts in a slice -/
theorem txts_of_row {w : World} {base n : Nat} {v : Value} {xs : List ByteArray} (h : w.ownsRow base 9 1 v n (xs.map Value.string)) (hn : 0 < n) : ∃ g cap, v = .slice (some ⟨g, 0, none⟩) n cap ∧ n ≤ cap ∧ n = xs.length ∧ Txts w (some ⟨g, 0, none⟩) xs := by
  obtain ⟨g, cap, rfl, _, hlt⟩ := h.form hn
  have hlen : n = xs.length := by have := h.1; simp at this; omega
  have hcap : n ≤ cap := by
    rcases h.2 with ⟨e, _⟩ | ⟨g', cap', cur, e, _, _, hc, _⟩
    · cases e
    · injection e with _ _ e3; omega
  refine ⟨g, cap, rfl, hcap, hlen, fun _ => ⟨g, 0, rfl, hlt, fun j hj => ?_⟩⟩
  rw [Nat.zero_add, h.cellAt j (by omega), List.getElem?_map, List.getD, List.getElem?_eq_getElem hj]; rfl

theorem join_t (A : Option Addr) (c m : Nat) (xs : List ByteArray) (w : World) (he : Env w) (hm : xs.length = m) (h0 : 0 < m) (h : Txts w A xs) (hc : m ≤ c) (hs : m ≤ 40) (hl : (jn (xs.map (·.data.toList))).length ≤ 140737488355328) :
    Calls Tryd.prog 14 #[.slice A m c] w fun e w' => e = .returned (.string ⟨(jn (xs.map (·.data.toList))).toArray⟩) ∧ Below w.heap.size w w' ∧ Env w' := by
  subst hm
  obtain ⟨b, o, rfl, hlt, hcell⟩ := h h0
  have hj := Tryd.strings_Join b o c xs ⟨#[46]⟩ w (fun j x hx => by
    have hj : j < xs.length := (List.getElem?_eq_some_iff.1 hx).1
    rw [hcell j hj]
    simp [List.getD, hx]) hlt (by omega) hc (by rw [show (ByteArray.mk #[46]).data.toList = [46] from rfl, join_jn]; exact hl)
  rw [show (ByteArray.mk #[46]).data.toList = [46] from rfl, join_jn] at hj
  go_enter Tryd.func14, Tryd.ntmps14
  go_wp2_with fail
  refine hj.mono ?_; rintro e w' ⟨rfl, hb⟩
  have he' := he.below hb
  go_wp2
  go_ret
  exact ⟨rfl, hb, he'⟩

/-- labels that may stand between points -/
def Plain (xs : List ByteArray) : Prop := ∀ x ∈ xs, x.data.toList ≠ [] ∧ (46 : UInt8) ∉ x.data.toList
theorem plain_of {x : ByteArray} (h1 : (x.toList.isEmpty) = false) (h2 : (pieces x).length = 1) : x.data.toList ≠ [] ∧ (46 : UInt8) ∉ x.data.toList := by
  rw [Lib.toList_data] at h1
  refine ⟨fun e => by rw [e] at h1; simp at h1, fun e => ?_⟩
  rw [pieces_length, sp_points] at h2
  have := List.count_pos_iff.2 e
  omega
/-- a list's texts joined -/
def jB (xs : List ByteArray) : ByteArray := ⟨(jn (xs.map (·.data.toList))).toArray⟩
theorem jB_data (xs : List ByteArray) : (jB xs).data.toList = jn (xs.map (·.data.toList)) := rfl
theorem sp_jn : ∀ (xs : List (List UInt8)), xs ≠ [] → (∀ x ∈ xs, (46 : UInt8) ∉ x) → sp (jn xs) = xs
  | [], h, _ => absurd rfl h
  | [x], _, h => by rw [show jn [x] = x from rfl, sp_plain (h x (by simp))]
  | x :: y :: t, _, h => by
    rw [jn_cons x (by simp), sp_append, sp_plain (h x (by simp)), sp_jn (y :: t) (by simp) (fun z hz => h z (List.mem_cons_of_mem _ hz))]; rfl
theorem sp_jB {xs : List ByteArray} (h0 : xs ≠ []) (h : Plain xs) : sp (jB xs).data.toList = xs.map (·.data.toList) := by
  rw [jB_data, sp_jn _ (by simpa using h0)]
  intro x hx
  obtain ⟨y, hy, rfl⟩ := List.mem_map.1 hx
  exact (h y hy).2
theorem not_dot {xs : List ByteArray} (h0 : xs ≠ []) (h : Plain xs) : ((jB xs).toList == [46]) = false := by
  rw [beq_eq_false_iff_ne, Lib.toList_data]
  intro e
  have h1 := sp_jB h0 h
  rw [e] at h1
  have h2 : ([] : List UInt8) ∈ xs.map (·.data.toList) := by rw [← h1]; simp [sp]
  obtain ⟨y, hy, e2⟩ := List.mem_map.1 h2
  exact (h y hy).1 e2
theorem cnt_jB {xs : List ByteArray} (h0 : xs ≠ []) (h : Plain xs) : cntB (jB xs) = xs.length := by
  unfold cntB
  rw [not_dot h0 h]
  show (pieces (jB xs)).length = _
  rw [pieces_length, sp_jB h0 h]; simp
theorem und_jB {ls ks : List ByteArray} (h0 : ks ≠ []) : undB (jB (ls ++ ks)) (jB ks) = true := by
  cases ls with
  | nil => exact und_self _
  | cons x t =>
    apply und_suffix
    rw [jB_data, jB_data, List.map_append, jn_append (by simp) (by simpa using h0), low_append]
    exact List.suffix_append _ _
theorem not_und_jB {ls ks : List ByteArray} (hl : ls ≠ []) (h0 : ks ≠ []) (h : Plain (ls ++ ks)) : undB (jB ks) (jB (ls ++ ks)) = false := by
  have hd := not_dot (by simp [h0]) h
  rw [Lib.toList_data] at hd
  have hlen : (low (jB ks).data.toList).length < (low (jB (ls ++ ks)).data.toList).length := by
    rw [low_length, low_length, jB_data, jB_data, List.map_append, jn_append (by simpa using hl) (by simpa using h0)]
    simp
    omega
  unfold undB
  rw [hd]
  have h1 : (low (jB ks).data.toList == low (jB (ls ++ ks)).data.toList) = false := by
    rw [beq_eq_false_iff_ne]; intro e; rw [e] at hlen; omega
  have h2 : (46 :: low (jB (ls ++ ks)).data.toList).isSuffixOf (low (jB ks).data.toList) = false := by
    rw [Bool.eq_false_iff]; intro e
    have := (List.isSuffixOf_iff_suffix.1 e).length_le
    rw [List.length_cons] at this
    omega
  rw [h1, h2]; rfl
theorem jn_size : ∀ (xs : List ByteArray), (jn (xs.map (·.data.toList))).length ≤ tot xs + xs.length
  | [] => by simp [jn, tot]
  | [x] => by simp only [List.map_cons, List.map_nil, jn, tot, List.length_singleton]; rw [Lib.size_eq]; omega
  | x :: y :: t => by
    have := jn_size (y :: t)
    rw [List.map_cons, jn_cons _ (by simp), List.length_append, List.length_cons]
    have e : tot (x :: y :: t) = x.size + tot (y :: t) := rfl
    have e2 : x.data.toList.length = x.size := (Lib.size_eq x).symm
    rw [e, e2]
    simp only [List.length_cons] at this ⊢
    omega
theorem jB_size (xs : List ByteArray) : (jB xs).size ≤ tot xs + xs.length := by rw [Lib.size_eq, jB_data]; exact jn_size xs
theorem join_j (A : Option Addr) (c m : Nat) (xs : List ByteArray) (w : World) (he : Env w) (hm : xs.length = m) (h0 : 0 < m) (h : Txts w A xs) (hc : m ≤ c) (hs : m ≤ 40) (ht : tot xs ≤ 1200) :
    Calls Tryd.prog 14 #[.slice A m c] w fun e w' => e = .returned (.string (jB xs)) ∧ Below w.heap.size w w' ∧ Env w' :=
  join_t A c m xs w he hm h0 h hc hs (by have := jn_size xs; omega)
theorem count_p (s : ByteArray) (q : Int) (w : World) (he : Env w) (hs : s.size < 4294967281) (hq : (cntB s : Int) = q) :
    Calls Tryd.prog 15 #[.string s] w fun e w' => e = .returned (.int .i64 q) ∧ Below w.heap.size w w' ∧ Env w' := hq ▸ count_e s w he hs
theorem tot_mem : ∀ (xs : List ByteArray) (x : ByteArray), x ∈ xs → x.size ≤ tot xs
  | [], x, h => by cases h
  | y :: t, x, h => by
    rcases List.mem_cons.1 h with rfl | h
    · simp only [tot]; omega
    · have := tot_mem t x h; simp only [tot]; omega
theorem getD_mem {xs : List ByteArray} {j : Nat} (h : j < xs.length) : xs.getD j ByteArray.empty ∈ xs := by
  rw [List.getD, List.getElem?_eq_getElem h]; exact List.getElem_mem h
/-- the first j of them may stand between points -/
def Seen (xs : List ByteArray) (j : Nat) : Prop := ∀ i, i < j → (xs.getD i ByteArray.empty).data.toList ≠ [] ∧ (46 : UInt8) ∉ (xs.getD i ByteArray.empty).data.toList
theorem Seen.next {xs : List ByteArray} {j : Nat} (h : Seen xs j) (h1 : ((xs.getD j ByteArray.empty).toList.isEmpty) = false) (h2 : (pieces (xs.getD j ByteArray.empty)).length = 1) : Seen xs (j + 1) := fun i hi => by
  by_cases e : i = j
  · subst e; exact plain_of h1 h2
  · exact h i (by omega)
theorem Seen.all {xs : List ByteArray} (h : Seen xs xs.length) : Plain xs := fun x hx => by
  obtain ⟨i, hi, rfl⟩ := List.getElem_of_mem hx
  have := h i hi
  rw [List.getD, List.getElem?_eq_getElem hi] at this
  exact this
end Go.Proofs.YtpbjijjeglpakaaDoor
