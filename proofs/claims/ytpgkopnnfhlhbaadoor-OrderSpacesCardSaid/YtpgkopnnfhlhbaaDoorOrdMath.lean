/-
  Plain facts on lines of sources, no program: the words of a line, [ and ] apart; the sources that they tell; the line that tells them is read as them. No condition.
-/
import Derived.Lib.Strings
import Derived.Lib.IndexMore
import Derived.Lib.Replace
import Derived.Lib.Join
namespace Go.Proofs.YtpgkopnnfhlhbaaDoor

/-! Words. -/
def spc (c : UInt8) : Bool := c == 32 || c == 9
/-- the words of what comes, behind the word that stands so far -/
def fw : List UInt8 → List UInt8 → List (List UInt8)
  | cur, [] => if cur = [] then [] else [cur]
  | cur, c :: l => if spc c = true then (if cur = [] then fw [] l else cur :: fw [] l) else fw (cur ++ [c]) l
/-- what stands up to a # -/
def toldL : List UInt8 → List UInt8
  | [] => []
  | c :: l => if c = 35 then [] else c :: toldL l
def wordsL (s : List UInt8) : List (List UInt8) := fw [] (toldL s)
theorem fw_plain : ∀ (x cur r : List UInt8), (∀ c ∈ x, spc c = false) → fw cur (x ++ r) = fw (cur ++ x) r
  | [], cur, r, _ => by rw [List.nil_append, List.append_nil]
  | c :: x, cur, r, h => by
    rw [List.cons_append, fw, if_neg (by rw [h c List.mem_cons_self]; decide), fw_plain x _ r (fun d hd => h d (List.mem_cons_of_mem _ hd)), List.append_assoc]; rfl
theorem fw_space {c : UInt8} (hc : spc c = true) (cur l : List UInt8) : fw cur (c :: l) = (if cur = [] then [] else [cur]) ++ fw [] l := by
  rw [fw, if_pos hc]
  split <;> rfl
theorem fw_blank {c : UInt8} (hc : spc c = true) : ∀ (x cur y : List UInt8), fw cur (x ++ c :: y) = fw cur x ++ fw [] y
  | [], cur, y => by rw [List.nil_append, fw_space hc, fw]
  | d :: x, cur, y => by
    rw [List.cons_append, fw]
    conv => rhs; rw [fw]
    split
    · split
      · exact fw_blank hc x [] y
      · rw [fw_blank hc x [] y]; rfl
    · exact fw_blank hc x _ y
theorem toldL_append : ∀ {x : List UInt8} (y : List UInt8), (35 : UInt8) ∉ x → toldL (x ++ y) = x ++ toldL y
  | [], y, _ => rfl
  | c :: l, y, h => by
    rw [List.cons_append, toldL, if_neg (fun e => h (by rw [e]; exact List.mem_cons_self)), toldL_append y (fun hm => h (List.mem_cons_of_mem _ hm))]; rfl
theorem toldL_plain {s : List UInt8} (h : (35 : UInt8) ∉ s) : toldL s = s := by
  have := toldL_append [] h
  rwa [List.append_nil, show toldL [] = [] from rfl, List.append_nil] at this
theorem toldL_cut : ∀ s : List UInt8, toldL s = (Go.Lib.cut s [35]).1
  | [] => rfl
  | c :: l => by
    have ih := toldL_cut l
    unfold Go.Lib.cut at ih ⊢
    by_cases hc : c = 35
    · subst hc
      rw [toldL, if_pos rfl, Go.Lib.index, if_pos (by simp [List.isPrefixOf])]
      rfl
    · have hi : Go.Lib.index (c :: l) [35] = if Go.Lib.index l [35] = -1 then -1 else Go.Lib.index l [35] + 1 := by
        rw [Go.Lib.index, if_neg]
        · simp only [beq_iff_eq]
        · simp [List.isPrefixOf, Ne.symm hc]
      rw [toldL, if_neg hc, ih, hi]
      have hge := Go.Lib.index_ge l [35]
      by_cases h1 : Go.Lib.index l [35] = -1
      · rw [if_neg (by omega), if_pos h1, if_neg (by omega)]
      · rw [if_pos (by omega), if_neg h1, if_pos (by omega)]
        simp only
        rw [show (Go.Lib.index l [35] + 1).toNat = (Go.Lib.index l [35]).toNat + 1 by omega, List.take_succ_cons]
theorem fw_len : ∀ (l cur : List UInt8), ∀ x ∈ fw cur l, x.length ≤ cur.length + l.length
  | [], cur, x, h => by
    rw [fw] at h
    split at h
    · cases h
    · rw [List.mem_singleton] at h; subst h; simp
  | c :: l, cur, x, h => by
    rw [fw] at h
    split at h
    · split at h
      · have := fw_len l [] x h; simp only [List.length_nil, List.length_cons] at this ⊢; omega
      · rcases List.mem_cons.1 h with rfl | h
        · omega
        · have := fw_len l [] x h; simp only [List.length_nil, List.length_cons] at this ⊢; omega
    · have := fw_len l _ x h
      simp only [List.length_append, List.length_cons, List.length_nil] at this ⊢; omega
theorem fw_count : ∀ (l cur : List UInt8), (fw cur l).length ≤ l.length + 1
  | [], cur => by rw [fw]; split <;> simp
  | c :: l, cur => by
    rw [fw]
    split
    · split
      · have := fw_count l []; simp only [List.length_cons]; omega
      · have := fw_count l []; simp only [List.length_cons]; omega
    · have := fw_count l (cur ++ [c]); simp only [List.length_cons]; omega
theorem toldL_len : ∀ s : List UInt8, (toldL s).length ≤ s.length
  | [] => Nat.le_refl _
  | c :: l => by rw [toldL]; split <;> simp [toldL_len l]
theorem words_len {s x : List UInt8} (h : x ∈ wordsL s) : x.length ≤ s.length := by
  have := fw_len _ _ x h
  have := toldL_len s
  simp only [List.length_nil] at *; omega
theorem words_count (s : List UInt8) : (wordsL s).length ≤ s.length + 1 := by
  have := fw_count (toldL s) []
  have := toldL_len s
  unfold wordsL; omega
theorem words_blank {c : UInt8} (hc : spc c = true) {x : List UInt8} (h : (35 : UInt8) ∉ x) (y : List UInt8) : wordsL (x ++ c :: y) = wordsL x ++ wordsL y := by
  have h3 : c ≠ 35 := fun e => by subst e; exact absurd hc (by decide)
  unfold wordsL
  rw [toldL_append _ h, toldL_plain h, toldL, if_neg h3, fw_blank hc]

/-! [ and ] apart. -/
def repB (c : UInt8) : List UInt8 → List UInt8
  | [] => []
  | d :: l => if d = c then 32 :: c :: 32 :: repB c l else d :: repB c l
def apart (s : List UInt8) : List UInt8 := repB 93 (repB 91 s)
theorem repB_append (c : UInt8) : ∀ a b : List UInt8, repB c (a ++ b) = repB c a ++ repB c b
  | [], b => rfl
  | d :: a, b => by
    rw [List.cons_append, repB, repB]
    split <;> simp [repB_append c a b]
theorem apart_append (a b : List UInt8) : apart (a ++ b) = apart a ++ apart b := by unfold apart; rw [repB_append, repB_append]
theorem repB_none {c : UInt8} : ∀ {a : List UInt8}, c ∉ a → repB c a = a
  | [], _ => rfl
  | d :: a, h => by
    rw [repB, if_neg (fun e => h (by rw [e]; exact List.mem_cons_self)), repB_none (fun hm => h (List.mem_cons_of_mem _ hm))]
theorem repB_len (c : UInt8) : ∀ a : List UInt8, (repB c a).length ≤ 3 * a.length
  | [] => Nat.le_refl _
  | d :: a => by
    have := repB_len c a
    rw [repB]; split <;> simp only [List.length_cons] <;> omega
theorem apart_len (a : List UInt8) : (apart a).length ≤ 9 * a.length := by
  have h1 := repB_len 93 (repB 91 a)
  have h2 := repB_len 91 a
  unfold apart; omega
theorem repB_mem {c x : UInt8} (hx : x ≠ 32) : ∀ {a : List UInt8}, x ∈ repB c a → x ∈ a
  | [], h => by cases h
  | d :: a, h => by
    rw [repB] at h
    split at h
    · rename_i e
      rcases List.mem_cons.1 h with e1 | h
      · exact absurd e1 hx
      · rcases List.mem_cons.1 h with e1 | h
        · subst e1; subst e; exact List.mem_cons_self
        · rcases List.mem_cons.1 h with e1 | h
          · exact absurd e1 hx
          · exact List.mem_cons_of_mem _ (repB_mem hx h)
    · rcases List.mem_cons.1 h with e1 | h
      · subst e1; exact List.mem_cons_self
      · exact List.mem_cons_of_mem _ (repB_mem hx h)
theorem apart_mem {a : List UInt8} (h : (35 : UInt8) ∉ a) : (35 : UInt8) ∉ apart a := fun hm => h (repB_mem (by decide) (repB_mem (by decide) hm))
theorem index_one_none {c : UInt8} : ∀ {s : List UInt8}, Go.Lib.index s [c] = -1 → c ∉ s
  | [], _ => by simp
  | d :: l, h => by
    rw [Go.Lib.index] at h
    split at h
    · exact absurd h (by decide)
    · rename_i hp
      have hge := Go.Lib.index_ge l [c]
      have hdc : ¬ c = d := fun e => hp (by subst e; simp [List.isPrefixOf])
      have hl : Go.Lib.index l [c] = -1 := by
        by_cases e : Go.Lib.index l [c] = -1
        · exact e
        · rw [if_neg (by simpa using e)] at h; omega
      have := index_one_none hl
      simp [hdc, this]
theorem index_one_some {c : UInt8} : ∀ {s : List UInt8} {i : Nat}, Go.Lib.index s [c] = (i : Int) → ∃ a b, s = a ++ c :: b ∧ c ∉ a ∧ a.length = i
  | [], i, h => by
    rw [Go.Lib.index] at h
    simp at h
  | d :: l, i, h => by
    rw [Go.Lib.index] at h
    split at h
    · rename_i hp
      have hdc : c = d := by simpa [List.isPrefixOf] using hp
      exact ⟨[], l, by rw [hdc]; rfl, by simp, by simp; omega⟩
    · rename_i hp
      have hge := Go.Lib.index_ge l [c]
      have hdc : ¬ c = d := fun e => hp (by subst e; simp [List.isPrefixOf])
      by_cases e : Go.Lib.index l [c] = -1
      · rw [if_pos (by simpa using e)] at h; omega
      · rw [if_neg (by simpa using e)] at h
        obtain ⟨a, b, e1, e2, e3⟩ := index_one_some (c := c) (i := i - 1) (s := l) (by omega)
        exact ⟨d :: a, b, by rw [e1]; rfl, by simp [hdc, e2], by rw [List.length_cons, e3]; omega⟩
theorem repB_at {c : UInt8} (a b : List UInt8) (h : c ∉ a) : repB c (a ++ c :: b) = a ++ [32, c, 32] ++ repB c b := by
  rw [repB_append, repB_none h, repB, if_pos rfl]; simp
theorem replaceK_rep (c : UInt8) : ∀ (k : Nat) (s : List UInt8), s.count c ≤ k → Go.Lib.replaceK [c] [32, c, 32] k s = repB c s
  | 0, s, h => by
    rw [Go.Lib.replaceK, repB_none (List.count_eq_zero.1 (by omega))]
  | k + 1, s, h => by
    by_cases e : Go.Lib.index s [c] = -1
    · rw [Go.Lib.replaceK, if_pos (by simpa using e), repB_none (index_one_none e)]
    · have hge := Go.Lib.index_ge s [c]
      obtain ⟨i, hi⟩ : ∃ i : Nat, Go.Lib.index s [c] = i := ⟨(Go.Lib.index s [c]).toNat, by omega⟩
      obtain ⟨a, b, e1, e2, e3⟩ := index_one_some hi
      rw [Go.Lib.replaceK_hit _ _ _ _ _ hi, e1, repB_at a b e2]
      have hc : b.count c ≤ k := by
        rw [e1, List.count_append, List.count_cons_self] at h; omega
      have hd : (a ++ c :: b).drop (i + [c].length) = b := by
        rw [← e3, show a.length + [c].length = (a ++ [c]).length by simp, show a ++ c :: b = (a ++ [c]) ++ b by simp, List.drop_left]
      rw [hd, replaceK_rep c k b hc, ← e3, List.take_left]

/-! Sources. -/
abbrev Ret := Bool × Bool × Bool × Bool
abbrev Src := Nat × Ret
def nameK : Nat → List UInt8
  | 1 => [102, 105, 108, 101, 115]
  | 2 => [100, 110, 115]
  | 3 => [108, 108, 109, 110, 114]
  | _ => []
def nameO : Nat → List UInt8
  | 1 => [83, 85, 67, 67, 69, 83, 83]
  | 2 => [78, 79, 84, 70, 79, 85, 78, 68]
  | 3 => [85, 78, 65, 86, 65, 73, 76]
  | 4 => [84, 82, 89, 65, 71, 65, 73, 78]
  | _ => []
def wRet : List UInt8 := [114, 101, 116, 117, 114, 110]
def wCon : List UInt8 := [99, 111, 110, 116, 105, 110, 117, 101]
def kindW (w : List UInt8) : Nat := if w = nameK 1 then 1 else if w = nameK 2 then 2 else if w = nameK 3 then 3 else 0
def outW (w : List UInt8) : Nat := if w = nameO 1 then 1 else if w = nameO 2 then 2 else if w = nameO 3 then 3 else if w = nameO 4 then 4 else 0
def setR (r : Ret) (k : Nat) (ot v : Bool) : Ret :=
  (if decide (1 = k) != ot then v else r.1, if decide (2 = k) != ot then v else r.2.1, if decide (3 = k) != ot then v else r.2.2.1, if decide (4 = k) != ot then v else r.2.2.2)
def turnA (r : Ret) (a : List UInt8) : Option Ret :=
  if outW (Go.Lib.trimPrefix (Go.Lib.cut a [61]).1 [33]) = 0 ∨ ¬ ((Go.Lib.cut a [61]).2.1 = wRet ∨ (Go.Lib.cut a [61]).2.1 = wCon) then none
  else some (setR r (outW (Go.Lib.trimPrefix (Go.Lib.cut a [61]).1 [33])) (Go.Lib.hasPrefix (Go.Lib.cut a [61]).1 [33]) (decide ((Go.Lib.cut a [61]).2.1 = wRet)))
def turnsA : Ret → List (List UInt8) → Option Ret
  | r, [] => some r
  | r, a :: l => match turnA r a with
    | none => none
    | some q => turnsA q l
def r0 : Ret := (true, false, false, false)
def firstF : List (List UInt8) → Option (Src × List (List UInt8))
  | [] => none
  | x :: t => if kindW x = 0 then none else
    if t.head? = some [91] then
      (if (t.tail.takeWhile fun y => y != [93]).length < t.tail.length then
        match turnsA r0 (t.tail.takeWhile fun y => y != [93]) with
        | none => none
        | some r => some ((kindW x, r), t.tail.drop ((t.tail.takeWhile fun y => y != [93]).length + 1))
      else none)
    else some ((kindW x, r0), t)
def parseN : Nat → List (List UInt8) → Option (List Src)
  | 0, [] => some []
  | 0, _ :: _ => none
  | _ + 1, [] => some []
  | n + 1, x :: t => match firstF (x :: t) with
    | none => none
    | some (s, r) => match parseN n r with
      | none => none
      | some l => some (s :: l)
def parseW (w : List (List UInt8)) : Option (List Src) := parseN w.length w
def cntF : Bool → List (List UInt8) → Nat
  | _, [] => 0
  | b, x :: t => if x = [91] then cntF true t else if x = [93] then cntF false t else (if b = false ∧ kindW x ≠ 0 then 1 else 0) + cntF b t
def dflt : List Src := [(1, r0), (2, r0), (3, r0)]
def parseO (s : List UInt8) : Nat × List Src :=
  if wordsL (apart s) = [] then (0, dflt) else if 4 < cntF false (wordsL (apart s)) then (2, []) else
  match parseW (wordsL (apart s)) with
  | none => (6, [])
  | some l => (0, l)
theorem firstF_len {w r : List (List UInt8)} {s : Src} (h : firstF w = some (s, r)) : r.length < w.length := by
  cases w with
  | nil => cases h
  | cons x t =>
    rw [firstF] at h
    split at h
    · cases h
    · split at h
      · split at h
        · split at h
          · cases h
          · injection h with h
            injection h with _ h
            subst h
            rw [List.length_drop, List.length_tail, List.length_cons]; omega
        · cases h
      · injection h with h
        injection h with _ h
        subst h
        simp
theorem parseN_fuel : ∀ (n m : Nat) (w : List (List UInt8)), w.length ≤ n → w.length ≤ m → parseN n w = parseN m w
  | 0, m, w, h, _ => by
    have : w = [] := List.length_eq_zero_iff.1 (by omega)
    subst this
    cases m <;> rfl
  | n + 1, 0, w, _, h => by
    have : w = [] := List.length_eq_zero_iff.1 (by omega)
    subst this
    rfl
  | n + 1, m + 1, [], _, _ => rfl
  | n + 1, m + 1, x :: t, h, h' => by
    rw [parseN, parseN]
    cases hf : firstF (x :: t) with
    | none => rfl
    | some p =>
      obtain ⟨s, r⟩ := p
      have := firstF_len hf
      simp only
      rw [parseN_fuel n m r (by omega) (by omega)]
theorem parseW_nil : parseW [] = some [] := rfl
theorem parseW_none {w : List (List UInt8)} (hw : w ≠ []) (h : firstF w = none) : parseW w = none := by
  cases w with
  | nil => exact absurd rfl hw
  | cons x t => unfold parseW; rw [List.length_cons, parseN, h]
theorem parseW_some {w r : List (List UInt8)} {s : Src} (h : firstF w = some (s, r)) : parseW w = (parseW r).map (s :: ·) := by
  cases w with
  | nil => cases h
  | cons x t =>
    have hl := firstF_len h
    unfold parseW
    rw [List.length_cons, parseN, h]
    simp only
    rw [List.length_cons] at hl
    rw [parseN_fuel t.length r.length r (by omega) (Nat.le_refl _)]
    cases parseN r.length r <;> rfl
theorem kindW_le (w : List UInt8) : kindW w ≤ 3 := by unfold kindW; (repeat' split) <;> omega
theorem firstF_kind {w r : List (List UInt8)} {s : Src} (h : firstF w = some (s, r)) : 1 ≤ s.1 ∧ s.1 ≤ 3 := by
  cases w with
  | nil => cases h
  | cons x t =>
    have := kindW_le x
    rw [firstF] at h
    split at h
    · cases h
    · split at h
      · split at h
        · split at h
          · cases h
          · injection h with h
            injection h with h _
            subst h
            simp only; omega
        · cases h
      · injection h with h
        injection h with h _
        subst h
        simp only; omega
theorem kindW_91 : kindW [91] = 0 := by decide +kernel
theorem kindW_93 : kindW [93] = 0 := by decide +kernel
theorem cntF_true : ∀ (u : List (List UInt8)), (u.takeWhile fun y => y != [93]).length < u.length → cntF true u = cntF false (u.drop ((u.takeWhile fun y => y != [93]).length + 1))
  | [], h => by simp at h
  | y :: u, h => by
    by_cases hy : y = [93]
    · subst hy
      rw [cntF, if_neg (by decide), if_pos rfl]
      rw [List.takeWhile_cons_of_neg (by decide)]
      rfl
    · rw [List.takeWhile_cons_of_pos (by simpa using hy), List.length_cons, List.length_cons] at h
      have ih := cntF_true u (by omega)
      rw [List.takeWhile_cons_of_pos (by simpa using hy), List.length_cons, List.drop_succ_cons, ← ih, cntF]
      by_cases h91 : y = [91]
      · rw [if_pos h91]
      · rw [if_neg h91, if_neg hy, if_neg (by simp), Nat.zero_add]
theorem firstF_cnt {w r : List (List UInt8)} {s : Src} (h : firstF w = some (s, r)) : cntF false w = 1 + cntF false r := by
  cases w with
  | nil => cases h
  | cons x t =>
    rw [firstF] at h
    split at h
    · cases h
    · rename_i hk
      have h1 : ¬ x = [91] := fun e => hk (by rw [e]; exact kindW_91)
      have h2 : ¬ x = [93] := fun e => hk (by rw [e]; exact kindW_93)
      rw [cntF, if_neg h1, if_neg h2, if_pos ⟨rfl, hk⟩]
      split at h
      · rename_i ht
        split at h
        · rename_i hl
          split at h
          · cases h
          · injection h with h
            injection h with _ h
            subst h
            rw [← cntF_true _ hl]
            cases t with
            | nil => cases ht
            | cons y u =>
              rw [List.head?_cons] at ht
              injection ht with ht
              subst ht
              rw [cntF, if_pos rfl]; rfl
        · cases h
      · injection h with h
        injection h with _ h
        subst h
        rfl
theorem parseN_cnt : ∀ (n : Nat) (w : List (List UInt8)) (l : List Src), parseN n w = some l → cntF false w = l.length ∧ ∀ s ∈ l, 1 ≤ s.1 ∧ s.1 ≤ 3
  | 0, [], l, h => by
    rw [parseN] at h
    injection h with h
    subst h
    exact ⟨rfl, fun s hs => by cases hs⟩
  | n + 1, [], l, h => by
    rw [parseN] at h
    injection h with h
    subst h
    exact ⟨rfl, fun s hs => by cases hs⟩
  | 0, x :: t, l, h => by
    rw [parseN] at h
    cases h
  | n + 1, x :: t, l, h => by
    rw [parseN] at h
    split at h
    · cases h
    · rename_i s r hf
      split at h
      · cases h
      · rename_i l' hp
        injection h with h
        subst h
        have ih := parseN_cnt n r l' hp
        exact ⟨by rw [firstF_cnt hf, ih.1, List.length_cons]; omega, fun y hy => by
          rcases List.mem_cons.1 hy with rfl | hy
          · exact firstF_kind hf
          · exact ih.2 y hy⟩
theorem parseO_ok {s : List UInt8} {l : List Src} (h : parseO s = (0, l)) : 1 ≤ l.length ∧ l.length ≤ 4 ∧ ∀ x ∈ l, 1 ≤ x.1 ∧ x.1 ≤ 3 := by
  unfold parseO at h
  split at h
  · injection h with _ h
    subst h
    exact ⟨by decide, by decide, by decide⟩
  · rename_i hw
    split at h
    · injection h with h _
      cases h
    · rename_i h4
      split at h
      · injection h with h _
        cases h
      · rename_i l' hp
        injection h with _ h
        subst h
        have hc := parseN_cnt _ _ _ hp
        refine ⟨?_, by omega, hc.2⟩
        rcases Nat.eq_zero_or_pos l'.length with h0 | h0
        · have hn : l' = [] := List.length_eq_zero_iff.1 h0
          subst hn
          revert hp
          unfold parseW
          cases hq : wordsL (apart s) with
          | nil => exact absurd hq hw
          | cons x t =>
            rw [List.length_cons, parseN]
            intro hp
            split at hp
            · cases hp
            · split at hp
              · cases hp
              · cases hp
        · exact h0
theorem parseO_err {s : List UInt8} {l : List Src} {e : Nat} (h : parseO s = (e, l)) (he : e ≠ 0) : l = [] ∧ (e = 2 ∨ e = 6) := by
  unfold parseO at h
  split at h
  · injection h with h _
    exact absurd h.symm he
  · split at h
    · injection h with h h'
      exact ⟨h'.symm, .inl h.symm⟩
    · split at h
      · injection h with h h'
        exact ⟨h'.symm, .inr h.symm⟩
      · injection h with h _
        exact absurd h.symm he

/-! The line that tells it. -/
def eRet : List UInt8 := 61 :: wRet
def eCon : List UInt8 := 61 :: wCon
def actsP (r : Ret) : List (List UInt8) :=
  (if r.1 = true then [] else [nameO 1 ++ eCon]) ++ (if r.2.1 = true then [nameO 2 ++ eRet] else []) ++ (if r.2.2.1 = true then [nameO 3 ++ eRet] else []) ++ (if r.2.2.2 = true then [nameO 4 ++ eRet] else [])
def srcW (s : Src) : List (List UInt8) := nameK s.1 :: if actsP s.2 = [] then [] else [91 :: (Go.Lib.join (actsP s.2) [32] ++ [93])]
def printO (l : List Src) : List UInt8 := Go.Lib.join (l.flatMap srcW) [32]
def srcT (s : Src) : List UInt8 := Go.Lib.join (srcW s) [32]
/-- the words of a source's text -/
def toks (s : Src) : List (List UInt8) := nameK s.1 :: if actsP s.2 = [] then [] else [91] :: (actsP s.2 ++ [[93]])
theorem join_cons (x : List UInt8) {l : List (List UInt8)} (h : l ≠ []) : Go.Lib.join (x :: l) [32] = x ++ 32 :: Go.Lib.join l [32] := by
  cases l with
  | nil => exact absurd rfl h
  | cons y t => unfold Go.Lib.join; simp [List.intercalate]
theorem join_one (x : List UInt8) : Go.Lib.join [x] [32] = x := Go.Lib.join_one _ _
theorem srcW_ne (s : Src) : srcW s ≠ [] := by unfold srcW; simp
theorem join_append : ∀ {a b : List (List UInt8)}, a ≠ [] → b ≠ [] → Go.Lib.join (a ++ b) [32] = Go.Lib.join a [32] ++ 32 :: Go.Lib.join b [32]
  | [], b, h, _ => absurd rfl h
  | [x], b, _, h => by rw [List.singleton_append, join_cons x h, join_one]
  | x :: y :: t, b, _, h => by
    rw [List.cons_append, join_cons x (by simp), join_append (by simp) h, join_cons x (l := y :: t) (by simp), List.append_assoc]; rfl
theorem printO_cons (s : Src) {l : List Src} (h : l ≠ []) : printO (s :: l) = srcT s ++ 32 :: printO l := by
  unfold printO srcT
  rw [List.flatMap_cons, join_append (srcW_ne s)]
  cases l with
  | nil => exact absurd rfl h
  | cons a t => rw [List.flatMap_cons]; simp [srcW_ne a]
theorem printO_one (s : Src) : printO [s] = srcT s := by unfold printO srcT; simp
def allS (p : Src → Prop) : Prop := ∀ k : Fin 3, ∀ a b c d : Bool, p (k.val + 1, a, b, c, d)
theorem of_allS {p : Src → Prop} (h : allS p) {s : Src} (hs : 1 ≤ s.1 ∧ s.1 ≤ 3) : p s := by
  obtain ⟨k, a, b, c, d⟩ := s
  have := h ⟨k - 1, by simp only at hs; omega⟩ a b c d
  rwa [show k - 1 + 1 = k by simp only at hs; omega] at this
theorem told_words : allS fun s => wordsL (apart (srcT s)) = toks s := by unfold allS; decide +kernel
theorem told_plain : allS fun s => (35 : UInt8) ∉ apart (srcT s) := by unfold allS; decide +kernel
theorem words_print : ∀ {l : List Src}, (∀ s ∈ l, 1 ≤ s.1 ∧ s.1 ≤ 3) → wordsL (apart (printO l)) = l.flatMap toks
  | [], _ => rfl
  | [s], h => by rw [printO_one, of_allS told_words (h s List.mem_cons_self)]; simp
  | s :: a :: t, h => by
    have hs := h s List.mem_cons_self
    rw [printO_cons s (by simp), show (32 : UInt8) :: printO (a :: t) = [32] ++ printO (a :: t) from rfl, apart_append, apart_append, show apart [32] = [32] from rfl, List.singleton_append,
      words_blank (by decide) (of_allS told_plain hs), of_allS told_words hs, words_print (fun x hx => h x (List.mem_cons_of_mem _ hx))]
    exact (List.flatMap_cons).symm
theorem first_toks {s : Src} (hs : 1 ≤ s.1 ∧ s.1 ≤ 3) {r : List (List UInt8)} (hr : r.head? ≠ some [91]) : firstF (toks s ++ r) = some (s, r) := by
  cases r with
  | nil => exact of_allS (p := fun s => firstF (toks s ++ []) = some (s, [])) (fun k a b c d => by
      obtain ⟨k, hk⟩ := k
      have hk : k = 0 ∨ k = 1 ∨ k = 2 := by omega
      rcases hk with rfl | rfl | rfl <;> cases a <;> cases b <;> cases c <;> cases d <;> rfl) hs
  | cons y u =>
    obtain ⟨k, a, b, c, d⟩ := s
    have hk : k = 1 ∨ k = 2 ∨ k = 3 := by simp only at hs; omega
    have hy : ¬ y = [91] := fun e => hr (by rw [e]; rfl)
    have hb : ∀ b : Bool, b = true ∨ b = false := by decide
    rcases hk with rfl | rfl | rfl <;> rcases hb a with rfl | rfl <;> rcases hb b with rfl | rfl <;> rcases hb c with rfl | rfl <;> rcases hb d with rfl | rfl <;>
      first
        | rfl
        | (show (if some y = some [91] then _ else _) = _; rw [if_neg (fun e => hy (by injection e))]; rfl)
theorem toks_head {s : Src} (hs : 1 ≤ s.1 ∧ s.1 ≤ 3) : (toks s).head? ≠ some [91] := of_allS (p := fun s => (toks s).head? ≠ some [91]) (by unfold allS; decide +kernel) hs
theorem flat_head : ∀ {l : List Src}, (∀ s ∈ l, 1 ≤ s.1 ∧ s.1 ≤ 3) → (l.flatMap toks).head? ≠ some [91]
  | [], _ => by simp
  | s :: l, h => by
    have := toks_head (h s List.mem_cons_self)
    rw [List.flatMap_cons]
    unfold toks at this ⊢
    simpa using this
theorem parseW_toks : ∀ {l : List Src}, (∀ s ∈ l, 1 ≤ s.1 ∧ s.1 ≤ 3) → parseW (l.flatMap toks) = some l ∧ cntF false (l.flatMap toks) = l.length
  | [], _ => ⟨rfl, rfl⟩
  | s :: l, h => by
    have hl := fun x hx => h x (List.mem_cons_of_mem _ hx)
    have hf := first_toks (h s List.mem_cons_self) (flat_head hl)
    have ih := parseW_toks hl
    rw [List.flatMap_cons]
    exact ⟨by rw [parseW_some hf, ih.1]; rfl, by rw [firstF_cnt hf, ih.2, List.length_cons]; omega⟩
theorem parse_print {l : List Src} (h : ∀ s ∈ l, 1 ≤ s.1 ∧ s.1 ≤ 3) (h1 : 1 ≤ l.length) (h4 : l.length ≤ 4) : parseO (printO l) = (0, l) := by
  have hp := parseW_toks h
  unfold parseO
  rw [words_print h, if_neg, if_neg (by omega), hp.1]
  cases l with
  | nil => simp at h1
  | cons s l => rw [List.flatMap_cons]; unfold toks; simp
theorem srcT_len : allS fun s => (srcT s).length ≤ 100 := by unfold allS; decide +kernel
theorem print_len : ∀ {l : List Src}, (∀ s ∈ l, 1 ≤ s.1 ∧ s.1 ≤ 3) → (printO l).length ≤ 101 * l.length
  | [], _ => Nat.le_refl _
  | [s], h => by
    have := of_allS srcT_len (h s List.mem_cons_self)
    rw [printO_one, List.length_singleton]; omega
  | s :: a :: t, h => by
    have := of_allS srcT_len (h s List.mem_cons_self)
    have ih := print_len (l := a :: t) (fun x hx => h x (List.mem_cons_of_mem _ hx))
    rw [printO_cons s (by simp), List.length_append, List.length_cons]
    simp only [List.length_cons] at *; omega
end Go.Proofs.YtpgkopnnfhlhbaaDoor
