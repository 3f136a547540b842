/-
  Plain facts on the names that are tried: what the list is, who is in it, how many they are. No condition.
-/
import Derived.Test.YtddgkignojfgiaaDoorNamePartsLib
import Derived.Test.YtddgkignojfgiaaDoorNameRunes
namespace Go.Proofs.YtddgkignojfgiaaDoor
open Go.RowKit

/-- one more name behind the others, if it isn't among them, nor too long -/
def memB (l : List ByteArray) (n : ByteArray) : Bool := l.any fun x => decide (x.data.toList = n.data.toList)
theorem memB_iff {l : List ByteArray} {n : ByteArray} : memB l n = true ↔ n ∈ l := by
  unfold memB
  rw [List.any_eq_true]
  constructor
  · rintro ⟨x, hx, e⟩
    rw [decide_eq_true_eq] at e
    rw [← bytes_inj e]; exact hx
  · intro h
    exact ⟨n, h, decide_eq_true rfl⟩
def addL (l : List ByteArray) (n : ByteArray) : List ByteArray := if 253 < n.size ∨ memB l n = true then l else l ++ [n]
/-- a name and a domain, a point between -/
def dotB (t d : ByteArray) : ByteArray := t ++ ⟨#[46]⟩ ++ d
/-- is a name tried by itself first? -/
def fstB (dots : Int) (t : ByteArray) : Bool := decide (dots ≤ ((t.data.toList.count 46 : Nat) : Int))
def fstL (dots : Int) (t : ByteArray) : List ByteArray := if fstB dots t = true then [t] else []
/-- all names, one behind the other -/
def allL (dots : Int) (ds : List ByteArray) (t : ByteArray) : List ByteArray := fstL dots t ++ ds.map (dotB t) ++ [t]
/-- those that are tried -/
def candL (dots : Int) (ds : List ByteArray) (t : ByteArray) : List ByteArray := (allL dots ds t).foldl addL []
theorem addL_out {l : List ByteArray} {n : ByteArray} (h : 253 < n.size ∨ n ∈ l) : addL l n = l := if_pos (by rw [memB_iff]; exact h)
theorem addL_in {l : List ByteArray} {n : ByteArray} (h : ¬ (253 < n.size ∨ n ∈ l)) : addL l n = l ++ [n] := if_neg (by rw [memB_iff]; exact h)
theorem addL_len (l : List ByteArray) (n : ByteArray) : (addL l n).length ≤ l.length + 1 := by
  unfold addL; split <;> simp
theorem addL_sub {l : List ByteArray} {n x : ByteArray} (h : x ∈ l) : x ∈ addL l n := by
  unfold addL; split
  · exact h
  · exact List.mem_append_left _ h
theorem addL_mem {l : List ByteArray} {n x : ByteArray} (h : x ∈ addL l n) : x ∈ l ∨ (x = n ∧ n.size ≤ 253) := by
  unfold addL at h; split at h
  · exact .inl h
  · rename_i hh
    rcases List.mem_append.1 h with h | h
    · exact .inl h
    · exact .inr ⟨List.mem_singleton.1 h, by omega⟩
theorem addL_self {l : List ByteArray} {n : ByteArray} (h : n.size ≤ 253) : n ∈ addL l n := by
  by_cases hh : 253 < n.size ∨ n ∈ l
  · rw [addL_out hh]; rcases hh with hh | hh
    · omega
    · exact hh
  · rw [addL_in hh]; exact List.mem_append_right _ (List.mem_singleton.2 rfl)
theorem fold_sub : ∀ (xs : List ByteArray) {l : List ByteArray} {x : ByteArray}, x ∈ l → x ∈ xs.foldl addL l
  | [], _, _, h => h
  | _ :: xs, _, _, h => fold_sub xs (addL_sub h)
theorem fold_mem : ∀ (xs : List ByteArray) {l : List ByteArray} {x : ByteArray}, x ∈ xs.foldl addL l → x ∈ l ∨ (x ∈ xs ∧ x.size ≤ 253)
  | [], _, _, h => .inl h
  | y :: xs, l, x, h => by
    rcases fold_mem xs h with h | ⟨h, hs⟩
    · rcases addL_mem h with h | ⟨rfl, hs⟩
      · exact .inl h
      · exact .inr ⟨List.mem_cons_self .., hs⟩
    · exact .inr ⟨List.mem_cons_of_mem _ h, hs⟩
theorem fold_len : ∀ (xs : List ByteArray) (l : List ByteArray), (xs.foldl addL l).length ≤ l.length + xs.length
  | [], l => by simp
  | y :: xs, l => by
    have h1 := fold_len xs (addL l y)
    have h2 := addL_len l y
    rw [List.foldl_cons, List.length_cons]; omega
theorem fold_take (t : ByteArray) (ds : List ByteArray) (l : List ByteArray) {k : Nat} (hk : k < ds.length) : ((ds.take (k + 1)).map (dotB t)).foldl addL l = addL (((ds.take k).map (dotB t)).foldl addL l) (dotB t (ds.getD k ByteArray.empty)) := by
  rw [List.take_succ_eq_append_getElem hk, List.map_append, List.foldl_append, List.getD, List.getElem?_eq_getElem hk]; rfl
theorem candL_snoc (dots : Int) (ds : List ByteArray) (t : ByteArray) : candL dots ds t = addL ((ds.map (dotB t)).foldl addL (if fstB dots t = true then addL [] t else [])) t := by
  unfold candL allL fstL
  rw [List.foldl_append, List.foldl_append]
  cases fstB dots t <;> rfl
theorem candL_len (dots : Int) (ds : List ByteArray) (t : ByteArray) : (candL dots ds t).length ≤ ds.length + 1 := by
  rw [candL_snoc]
  by_cases hf : fstB dots t = true
  · rw [if_pos hf]
    by_cases hs : t.size ≤ 253
    · rw [addL_out (.inr (fold_sub _ (addL_self hs)))]
      have h1 := fold_len (ds.map (dotB t)) (addL [] t)
      have h2 := addL_len [] t
      rw [List.length_map] at h1
      simp only [List.length_nil] at h2; omega
    · have h0 : addL [] t = [] := addL_out (.inl (by omega))
      rw [addL_out (.inl (by omega)), h0]
      have h1 := fold_len (ds.map (dotB t)) []
      rw [List.length_map] at h1
      simp only [List.length_nil] at h1; omega
  · rw [if_neg hf]
    have h1 := fold_len (ds.map (dotB t)) []
    have h2 := addL_len ((ds.map (dotB t)).foldl addL []) t
    rw [List.length_map] at h1
    simp only [List.length_nil] at h1; omega
theorem candL_self {dots : Int} {ds : List ByteArray} {t : ByteArray} (h : t.size ≤ 253) : t ∈ candL dots ds t := by
  rw [candL_snoc]; exact addL_self h
theorem candL_pos {dots : Int} {ds : List ByteArray} {t : ByteArray} (h : t.size ≤ 253) : 0 < (candL dots ds t).length :=
  List.length_pos_of_mem (candL_self h)
theorem candL_mem {dots : Int} {ds : List ByteArray} {t x : ByteArray} (h : x ∈ candL dots ds t) : x.size ≤ 253 ∧ (x = t ∨ ∃ d ∈ ds, x = dotB t d) := by
  unfold candL at h
  rcases fold_mem _ h with h | ⟨h, hs⟩
  · cases h
  · refine ⟨hs, ?_⟩
    unfold allL fstL at h
    rcases List.mem_append.1 h with h | h
    · rcases List.mem_append.1 h with h | h
      · split at h
        · exact .inl (List.mem_singleton.1 h)
        · cases h
      · obtain ⟨d, hd, rfl⟩ := List.mem_map.1 h
        exact .inr ⟨d, hd, rfl⟩
    · exact .inl (List.mem_singleton.1 h)
theorem dotB_data (t d : ByteArray) : (dotB t d).data.toList = t.data.toList ++ 46 :: d.data.toList := join3 t d
theorem dotB_size (t d : ByteArray) : (dotB t d).size = t.size + 1 + d.size := join3_size t d
/-- the list of a name that goes out as t -/
def resL (n : Nat) (dots : Int) (ds : List ByteArray) (s t : ByteArray) : List ByteArray := if n ≠ 0 then [] else if s.data.toList.getLast? = some 46 then [t] else candL dots ds t

theorem Lab.nonempty {y : List UInt8} (h : Lab [] 0 y) : False := by
  have hr := h.right
  cases h with
  | plain ha hr' hx => have := hr'.pos; simp [low] at this
  | puny l P ha hr' hx hl hp => have := hr'.pos; simp [low] at this
  | wide l P ha hx hl hp hs => exact ha (by intro c hc; cases hc)
/-- what goes out was not empty -/
theorem TA.nonempty {s t : List UInt8} (h : TA s 0 t) : s ≠ [] := by
  rintro rfl
  cases h with
  | err _ _ he => exact absurd rfl he
  | ok hs ys hl hb =>
    have h3 : sp (cutP []) = [[]] := by decide
    rw [h3] at hl
    cases hl with
    | next h ht => exact h.nonempty
    | err h he => exact he rfl
    | later h ht he => exact he rfl
theorem TA.last {s t : List UInt8} (h : TA s 0 t) : t.getLast? ≠ some 46 := by
  intro hl
  obtain ⟨h1, _, _⟩ := h.right
  obtain ⟨u, rfl⟩ : ∃ u, t = u ++ [46] := by
    rw [List.getLast?_eq_some_iff] at hl
    exact hl
  have hm : ([] : List UInt8) ∈ sp (u ++ [46]) := by
    rw [sp_append]
    exact List.mem_append_right _ (by decide)
  have := (h1 _ hm).pos
  simp at this
/-- a name and a domain that go out as they are go out together, if that is not too long -/
theorem TA.both {s t d : ByteArray} (h : TA s.data.toList 0 t.data.toList) (hd : TA d.data.toList 0 d.data.toList) (hl : (dotB t d).size ≤ 253) : TA (dotB t d).data.toList 0 (dotB t d).data.toList := by
  have ht := h.back.1
  rw [dotB_size] at hl
  have e1 := Lib.size_eq t
  have e2 := Lib.size_eq d
  obtain ⟨_, P2⟩ := ht.parts hd (by decide) hd.nonempty (by omega) h.last hd.last
  obtain ⟨_, P4⟩ := P2 rfl
  rw [dotB_data]
  exact P4 (by omega)
/-- each name that is tried goes out as it is -/
theorem candL_out {dots : Int} {ds : List ByteArray} {s t x : ByteArray} (h : TA s.data.toList 0 t.data.toList) (hd : ∀ d ∈ ds, TA d.data.toList 0 d.data.toList) (hx : x ∈ candL dots ds t) : TA x.data.toList 0 x.data.toList := by
  obtain ⟨hs, rfl | ⟨d, hm, rfl⟩⟩ := candL_mem hx
  · exact h.back.1
  · exact h.both (hd d hm) hs
end Go.Proofs.YtddgkignojfgiaaDoor
