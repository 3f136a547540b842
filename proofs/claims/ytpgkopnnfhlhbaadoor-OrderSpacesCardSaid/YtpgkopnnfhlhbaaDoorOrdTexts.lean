/-
  Plain facts on the texts that the statements of layer 8 make: the words of each, and what they are read as. No program, no condition.
-/
import Derived.Test.YtpgkopnnfhlhbaaDoorOrdMath
namespace Go.Proofs.YtpgkopnnfhlhbaaDoor

theorem words_ahead (r : List UInt8) {c : UInt8} (hc : spc c = true) : wordsL (c :: r) = wordsL r := by
  have := words_blank (x := []) hc (by simp) r
  rwa [show wordsL [] = [] from rfl, List.nil_append, List.nil_append] at this
theorem apart_one {c : UInt8} (hc : spc c = true) (r : List UInt8) : apart (c :: r) = c :: apart r := by
  have h1 : c ≠ 91 := fun e => by subst e; exact absurd hc (by decide)
  have h2 : c ≠ 93 := fun e => by subst e; exact absurd hc (by decide)
  unfold apart
  rw [repB, if_neg h1, repB, if_neg h2]
/-- texts one behind the other, a blank or tab ahead of each -/
def runT (l : List (UInt8 × List UInt8)) : List UInt8 := l.flatMap fun p => p.1 :: p.2
theorem words_run : ∀ {l : List (UInt8 × List UInt8)}, (∀ p ∈ l, spc p.1 = true ∧ (35 : UInt8) ∉ p.2) → wordsL (apart (runT l)) = l.flatMap fun p => wordsL (apart p.2)
  | [], _ => rfl
  | [p], h => by
    have hp := h p List.mem_cons_self
    have e : runT [p] = p.1 :: p.2 := by unfold runT; simp
    rw [e, apart_one hp.1, words_ahead _ hp.1]; simp
  | p :: q :: t, h => by
    have hp := h p List.mem_cons_self
    have hq := h q (List.mem_cons_of_mem _ List.mem_cons_self)
    have ih := words_run (l := q :: t) (fun x hx => h x (List.mem_cons_of_mem _ hx))
    have e : runT (p :: q :: t) = p.1 :: (p.2 ++ q.1 :: (q.2 ++ runT t)) := by unfold runT; simp
    have e2 : runT (q :: t) = q.1 :: (q.2 ++ runT t) := by unfold runT; simp
    rw [e2, apart_one hq.1, words_ahead _ hq.1] at ih
    rw [e, apart_one hp.1, words_ahead _ hp.1, apart_append, apart_one hq.1, words_blank hq.1 (apart_mem hp.2), ih]; rfl
theorem words_rem {x : List UInt8} (h : (35 : UInt8) ∉ x) (r : List UInt8) : wordsL (apart (x ++ 32 :: 35 :: r)) = wordsL (apart x) := by
  rw [apart_append, apart_one (by decide), words_blank (by decide) (apart_mem h)]
  have : wordsL (apart (35 :: r)) = [] := by
    unfold apart
    rw [repB, if_neg (by decide), repB, if_neg (by decide)]; rfl
  rw [this, List.append_nil]
theorem run_plain {l : List (UInt8 × List UInt8)} (h : ∀ p ∈ l, spc p.1 = true ∧ (35 : UInt8) ∉ p.2) : (35 : UInt8) ∉ runT l := by
  unfold runT
  rw [List.mem_flatMap]
  rintro ⟨p, hp, hm⟩
  rcases List.mem_cons.1 hm with e | hm
  · have := (h p hp).1
    rw [← e] at this
    exact absurd this (by decide)
  · exact (h p hp).2 hm
/-- these words are that source -/
structure Is (ts : List (List UInt8)) (s : Src) : Prop where
  first : ∀ r : List (List UInt8), r.head? ≠ some [91] → firstF (ts ++ r) = some (s, r)
  head : ts.head? ≠ some [91]
  ne : ts ≠ []
theorem is_head {α : Type} {f : α → List (List UInt8)} {g : α → Src} : ∀ {l : List α}, (∀ x ∈ l, Is (f x) (g x)) → ∀ r : List (List UInt8), r.head? ≠ some [91] → (l.flatMap f ++ r).head? ≠ some [91]
  | [], _, r, hr => hr
  | x :: l, h, r, _ => by
    have hx := h x List.mem_cons_self
    rw [List.flatMap_cons, List.append_assoc, List.head?_append]
    cases hf : f x with
    | nil => exact absurd hf hx.ne
    | cons a t =>
      have := hx.head
      rw [hf] at this
      simpa using this
theorem parse_is {α : Type} {f : α → List (List UInt8)} {g : α → Src} (r : List (List UInt8)) (hr : r.head? ≠ some [91]) : ∀ {l : List α}, (∀ x ∈ l, Is (f x) (g x)) →
    parseW (l.flatMap f ++ r) = (parseW r).map (l.map g ++ ·) ∧ cntF false (l.flatMap f ++ r) = l.length + cntF false r
  | [], _ => by
    refine ⟨?_, by simp⟩
    simp
  | x :: l, h => by
    have hl := fun y hy => h y (List.mem_cons_of_mem x hy)
    have hx := h x List.mem_cons_self
    have ih := parse_is r hr hl
    have hf := hx.first _ (is_head hl r hr)
    rw [List.flatMap_cons, List.append_assoc]
    refine ⟨?_, by rw [firstF_cnt hf, ih.2, List.length_cons]; omega⟩
    rw [parseW_some hf, ih.1]
    cases parseW r <;> rfl
theorem parseO_is {α : Type} {f : α → List (List UInt8)} {g : α → Src} {l : List α} {s : List UInt8} (h : ∀ x ∈ l, Is (f x) (g x)) (hs : wordsL (apart s) = l.flatMap f) :
    parseO s = if l = [] then (0, dflt) else if 4 < l.length then (2, []) else (0, l.map g) := by
  have hp := parse_is [] (by simp) h
  rw [List.append_nil, show cntF false [] = 0 from rfl, parseW_nil] at hp
  unfold parseO
  rw [hs, hp.1, hp.2]
  cases l with
  | nil => simp
  | cons x t =>
    have hx := (h x List.mem_cons_self).ne
    simp [hx]
theorem parseO_then {α : Type} {f : α → List (List UInt8)} {g : α → Src} {l : List α} {s : List UInt8} {x : List UInt8} (h : ∀ x ∈ l, Is (f x) (g x)) (hs : wordsL (apart s) = l.flatMap f ++ [x])
    (hx : x ≠ [91]) (hx2 : x ≠ [93]) (hk : kindW x = 0) : parseO s = if 4 < l.length then (2, []) else (6, []) := by
  have hp := parse_is [x] (by simpa using hx) h
  have hc : cntF false [x] = 0 := by rw [cntF, if_neg hx, if_neg hx2, hk]; rfl
  have hw : parseW [x] = none := parseW_none (by simp) (by rw [firstF, if_pos hk])
  rw [hc, hw] at hp
  unfold parseO
  rw [hs, hp.1, hp.2, if_neg (by simp)]
  rfl
/-- a word that names a source -/
theorem is_plain {k : Nat} (hk : k = 1 ∨ k = 2 ∨ k = 3) : Is [nameK k] (k, r0) := by
  refine ⟨fun r hr => ?_, ?_, by simp⟩
  · have := first_toks (s := (k, r0)) (by simp only; omega) hr
    exact this
  · rcases hk with rfl | rfl | rfl <;> decide +kernel

/-! The texts. -/
/-- files dns [NOTFOUND=return] -/
def fitT : List UInt8 := nameK 1 ++ 32 :: (nameK 2 ++ 32 :: 91 :: (nameO 2 ++ eRet ++ [93]))
theorem fit_parse : parseO fitT = (0, [(1, r0), (2, (true, true, false, false))]) := by decide +kernel
def okB (s : List UInt8) (v : Nat × List Src) : Bool := decide (parseO s = v)
theorem okB_of {s : List UInt8} {v : Nat × List Src} (h : okB s v = true) : parseO s = v := of_decide_eq_true h
theorem fit_words : wordsL [97] = [[97]] := by decide +kernel
def plT (ks : List Nat) : List UInt8 := ks.flatMap fun k => 32 :: nameK k
theorem plT_run (ks : List Nat) : plT ks = runT (ks.map fun k => (32, nameK k)) := by unfold plT runT; rw [List.flatMap_map]
def nisW : List UInt8 := [110, 105, 115]
theorem nameK_told {k : Nat} (hk : k = 1 ∨ k = 2 ∨ k = 3) : (35 : UInt8) ∉ nameK k ∧ wordsL (apart (nameK k)) = [nameK k] := by
  rcases hk with rfl | rfl | rfl <;> decide +kernel
theorem plT_words {ks : List Nat} (h : ∀ k ∈ ks, k = 1 ∨ k = 2 ∨ k = 3) : wordsL (apart (plT ks)) = ks.flatMap fun k => [nameK k] := by
  rw [plT_run, words_run, List.flatMap_map]
  · induction ks with
    | nil => rfl
    | cons k t ih =>
      rw [List.flatMap_cons, List.flatMap_cons, ih (fun x hx => h x (List.mem_cons_of_mem _ hx)), (nameK_told (h k List.mem_cons_self)).2]
  · intro p hp
    obtain ⟨k, hk, rfl⟩ := List.mem_map.1 hp
    exact ⟨(rfl : spc 32 = true), (nameK_told (h k hk)).1⟩
theorem plT_plain {ks : List Nat} (h : ∀ k ∈ ks, k = 1 ∨ k = 2 ∨ k = 3) : (35 : UInt8) ∉ plT ks := by
  rw [plT_run]
  refine run_plain fun p hp => ?_
  obtain ⟨k, hk, rfl⟩ := List.mem_map.1 hp
  exact ⟨(rfl : spc 32 = true), (nameK_told (h k hk)).1⟩
theorem plT_parse {ks : List Nat} (h : ∀ k ∈ ks, k = 1 ∨ k = 2 ∨ k = 3) : parseO (plT ks) = if ks = [] then (0, dflt) else if 4 < ks.length then (2, []) else (0, ks.map fun k => (k, r0)) :=
  parseO_is (f := fun k => [nameK k]) (g := fun k => (k, r0)) (fun k hk => is_plain (h k hk)) (plT_words h)
theorem plT_nis {ks : List Nat} (h : ∀ k ∈ ks, k = 1 ∨ k = 2 ∨ k = 3) : parseO (plT ks ++ 32 :: nisW) = if 4 < ks.length then (2, []) else (6, []) := by
  refine parseO_then (f := fun k => [nameK k]) (g := fun k => (k, r0)) (x := nisW) (fun k hk => is_plain (h k hk)) ?_ (by decide) (by decide) (by decide +kernel)
  rw [apart_append, apart_one (by decide), words_blank (by decide) (apart_mem (plT_plain h)), plT_words h]
  rfl
/-- an action's text -/
def acT (x : Nat) : List UInt8 := (if x.testBit 2 then [33] else []) ++ nameO (x % 4 + 1) ++ (if x.testBit 3 then eRet else eCon) ++ [32]
def acR (r : Ret) (x : Nat) : Ret := setR r (x % 4 + 1) (x.testBit 2) (x.testBit 3)
def acL (x y : Nat) : List UInt8 := nameK 2 ++ 32 :: 91 :: (acT x ++ acT y)
theorem ac_all : ∀ x y : Fin 16, okB (acL x.val y.val ++ [93]) (0, [(2, acR (acR r0 x.val) y.val)]) = true := by decide +kernel
theorem ac_parse (x y : Fin 16) : parseO (acL x.val y.val ++ [93]) = (0, [(2, acR (acR r0 x.val) y.val)]) := okB_of (ac_all x y)
/-- the wrong ones -/
def brT : List (List UInt8) := [
  91 :: (nameO 1 ++ eRet ++ 93 :: 32 :: nameK 2),
  nameK 2 ++ 32 :: 91 :: (nameO 1 ++ eRet),
  nameK 2 ++ [32, 93],
  nameK 2 ++ 32 :: 91 :: 91 :: (nameO 1 ++ eRet ++ [93, 93]),
  nameK 2 ++ 32 :: 91 :: (nameO 1 ++ [93]),
  nameK 2 ++ 32 :: 91 :: (nameO 1 ++ 61 :: [115, 116, 111, 112, 93]),
  nameK 2 ++ 32 :: 91 :: (nameK 2 ++ [93]),
  nameK 2 ++ 32 :: 91 :: ([79, 84, 72, 69, 82] ++ eRet ++ [93]),
  nameK 2 ++ 32 :: 91 :: (nameO 1 ++ 32 :: 61 :: 32 :: (wRet ++ [93])),
  nameK 2 ++ 32 :: (nameO 1 ++ eRet)]
theorem br_all : ∀ i : Fin 10, okB (brT.getD i.val []) (6, []) = true := by decide +kernel
theorem br_parse (i : Fin 10) : parseO (brT.getD i.val []) = (6, []) := okB_of (br_all i)
/-- dns[!NOTFOUND=return]files#x -/
def okT : List UInt8 := nameK 2 ++ 91 :: 33 :: (nameO 2 ++ eRet ++ 93 :: (nameK 1 ++ [35, 120]))
theorem ok_parse : parseO okT = (0, [(2, (true, false, true, true)), (1, r0)]) := by decide +kernel
/-- so many times dns [TRYAGAIN=return] -/
def mnT (n : Nat) : List UInt8 := (List.replicate n (nameK 2 ++ 32 :: 91 :: (nameO 4 ++ eRet ++ [93, 32]))).flatten
theorem mn_all : ∀ n : Fin 8, okB (mnT n.val) (if n.val = 0 then (0, dflt) else if 4 < n.val then (2, []) else (0, List.replicate n.val (2, (true, false, false, true)))) = true := by decide +kernel
theorem mn_parse (n : Fin 8) : parseO (mnT n.val) = if n.val = 0 then (0, dflt) else if 4 < n.val then (2, []) else (0, List.replicate n.val (2, (true, false, false, true))) := okB_of (mn_all n)
theorem mn_print : ∀ n : Fin 5, 1 ≤ n.val → (printO (List.replicate n.val (2, (true, false, false, true)))).length = n.val * 21 + n.val - 1 := by decide +kernel
/-- actions of the statement on blanks -/
def spA : Nat → List UInt8
  | 1 => nameO 2 ++ eRet
  | 2 => 33 :: (nameO 1 ++ eRet)
  | 3 => nameO 1 ++ eCon
  | _ => []
def spR : Nat → Ret
  | 1 => (true, true, false, false)
  | 2 => (true, true, true, true)
  | 3 => (false, false, false, false)
  | _ => r0
def spB (p : Nat × Nat) : List UInt8 := nameK p.1 ++ if p.2 = 0 then [] else 91 :: (spA p.2 ++ [93])
def spC (p : Nat × Nat) : List UInt8 := nameK p.1 ++ if p.2 = 0 then [] else 32 :: 32 :: 91 :: 32 :: 32 :: (spA p.2 ++ [32, 93])
def spW (p : Nat × Nat) : List (List UInt8) := nameK p.1 :: if p.2 = 0 then [] else [[91], spA p.2, [93]]
def SpIn (p : Nat × Nat) : Prop := (p.1 = 1 ∨ p.1 = 2 ∨ p.1 = 3) ∧ p.2 < 4
theorem of_sp {q : Nat × Nat → Prop} (h : ∀ k : Fin 3, ∀ j : Fin 4, q (k.val + 1, j.val)) {p : Nat × Nat} (hp : SpIn p) : q p := by
  obtain ⟨k, j⟩ := p
  have := h ⟨k - 1, by have := hp.1; simp only at this; omega⟩ ⟨j, hp.2⟩
  rwa [show k - 1 + 1 = k by have := hp.1; simp only at this; omega] at this
theorem sp_told {p : Nat × Nat} (hp : SpIn p) : ((35 : UInt8) ∉ spB p ∧ wordsL (apart (spB p)) = spW p) ∧ (35 : UInt8) ∉ spC p ∧ wordsL (apart (spC p)) = spW p :=
  of_sp (q := fun p => ((35 : UInt8) ∉ spB p ∧ wordsL (apart (spB p)) = spW p) ∧ (35 : UInt8) ∉ spC p ∧ wordsL (apart (spC p)) = spW p) (by show ∀ (k : Fin 3) (j : Fin 4), _; decide +kernel) hp
theorem sp_is {p : Nat × Nat} (hp : SpIn p) : Is (spW p) (p.1, spR p.2) := by
  obtain ⟨k, j⟩ := p
  have hk : k = 1 ∨ k = 2 ∨ k = 3 := hp.1
  have hj : j < 4 := hp.2
  have hj : j = 0 ∨ j = 1 ∨ j = 2 ∨ j = 3 := by omega
  rcases hj with rfl | hj
  · have := is_plain hk
    exact this
  · refine ⟨fun r hr => ?_, ?_, by unfold spW; simp⟩
    · rcases hk with rfl | rfl | rfl <;> rcases hj with rfl | rfl | rfl <;> rfl
    · rcases hk with rfl | rfl | rfl <;> rcases hj with rfl | rfl | rfl <;> decide +kernel
def spT (l : List (Nat × Nat)) : List UInt8 := l.flatMap fun p => 32 :: spB p
def spU (l : List (Nat × Nat)) : List UInt8 := l.flatMap fun p => 9 :: spC p
theorem sp_parse {l : List (Nat × Nat)} (h : ∀ p ∈ l, SpIn p) (hl : l.length ≤ 4) :
    parseO (spT l) = (0, if l = [] then dflt else l.map fun p => (p.1, spR p.2)) ∧ parseO (spU l ++ 32 :: 35 :: 32 :: (nameK 2 ++ [32, 91])) = (0, if l = [] then dflt else l.map fun p => (p.1, spR p.2)) := by
  have hT : spT l = runT (l.map fun p => (32, spB p)) := by unfold spT runT; rw [List.flatMap_map]
  have hU : spU l = runT (l.map fun p => (9, spC p)) := by unfold spU runT; rw [List.flatMap_map]
  have h1 : ∀ p ∈ l.map fun p => ((32 : UInt8), spB p), spc p.1 = true ∧ (35 : UInt8) ∉ p.2 := fun p hp => by
    obtain ⟨q, hq, rfl⟩ := List.mem_map.1 hp
    exact ⟨(rfl : spc 32 = true), (sp_told (h q hq)).1.1⟩
  have h2 : ∀ p ∈ l.map fun p => ((9 : UInt8), spC p), spc p.1 = true ∧ (35 : UInt8) ∉ p.2 := fun p hp => by
    obtain ⟨q, hq, rfl⟩ := List.mem_map.1 hp
    exact ⟨(rfl : spc 9 = true), (sp_told (h q hq)).2.1⟩
  have e1 : wordsL (apart (spT l)) = l.flatMap spW := by
    rw [hT, words_run h1, List.flatMap_map]
    clear hT hU h1 h2 hl
    induction l with
    | nil => rfl
    | cons p t ih => rw [List.flatMap_cons, List.flatMap_cons, ih (fun x hx => h x (List.mem_cons_of_mem _ hx)), (sp_told (h p List.mem_cons_self)).1.2]
  have e2 : wordsL (apart (spU l ++ 32 :: 35 :: 32 :: (nameK 2 ++ [32, 91]))) = l.flatMap spW := by
    rw [words_rem (by rw [hU]; exact run_plain h2), hU, words_run h2, List.flatMap_map]
    clear hT hU h1 h2 hl e1
    induction l with
    | nil => rfl
    | cons p t ih => rw [List.flatMap_cons, List.flatMap_cons, ih (fun x hx => h x (List.mem_cons_of_mem _ hx)), (sp_told (h p List.mem_cons_self)).2.2]
  have h4 : ¬ 4 < l.length := by omega
  have a1 := parseO_is (f := spW) (g := fun p => (p.1, spR p.2)) (fun p hp => sp_is (h p hp)) e1
  have a2 := parseO_is (f := spW) (g := fun p => (p.1, spR p.2)) (fun p hp => sp_is (h p hp)) e2
  rw [if_neg h4] at a1 a2
  rw [a1, a2]
  by_cases h0 : l = []
  · rw [if_pos h0, if_pos h0]; exact ⟨rfl, rfl⟩
  · rw [if_neg h0, if_neg h0]; exact ⟨rfl, rfl⟩
end Go.Proofs.YtpgkopnnfhlhbaaDoor
