/-
  Plain facts on addresses and their texts, no program: what is printed is read again. No condition.
-/
import Derived.Test.YtpnlgojbmjfhhaaGreatDoorAddrSep
import Derived.Lib.ItoaNum
import Derived.Lib.IndexMore
namespace Go.Proofs.YtpnlgojbmjfhhaaGreatDoor

/-- a digit, in base 16 -/
def hexD (k : Nat) : UInt8 := UInt8.ofNat (if k < 10 then 48 + k else 87 + k)
/-- a number below 65536 in base 16 -/
def hexN (n : Nat) : List UInt8 :=
  if n < 16 then [hexD n] else if n < 256 then [hexD (n / 16), hexD (n % 16)]
  else if n < 4096 then [hexD (n / 256), hexD (n / 16 % 16), hexD (n % 16)]
  else [hexD (n / 4096), hexD (n / 256 % 16), hexD (n / 16 % 16), hexD (n % 16)]
/-- a number below 1000 in base 10 -/
def decN (n : Nat) : List UInt8 :=
  if n < 10 then [hexD n] else if n < 100 then [hexD (n / 10), hexD (n % 10)] else [hexD (n / 100), hexD (n / 10 % 10), hexD (n % 10)]
theorem hexD_low {k : Nat} (h : k < 10) : hexD k = UInt8.ofNat (48 + k) := by unfold hexD; rw [if_pos h]
theorem decN_digits {n : Nat} (h : n < 1000) : Go.Lib.decDigits n = decN n := by
  unfold decN
  split
  · rw [Go.Lib.decDigits_one (by assumption), hexD_low (by assumption)]
  · split
    · rw [Go.Lib.decDigits_two (by assumption) (by assumption), hexD_low (by omega), hexD_low (by omega)]
    · rw [Go.Lib.decDigits, dif_neg (by assumption), Go.Lib.decDigits_two (by omega) (by omega), hexD_low (by omega), hexD_low (by omega), hexD_low (by omega)]
      rw [Nat.div_div_eq_div_mul]; rfl
/-- what a sign stands for -/
def dv (c : UInt8) : Option Nat :=
  if 48 ≤ c.toNat ∧ c.toNat ≤ 57 then some (c.toNat - 48)
  else if 97 ≤ (c ||| 32).toNat ∧ (c ||| 32).toNat ≤ 122 then some ((c ||| 32).toNat - 87) else none
def rdN (b M : Nat) : Nat → List UInt8 → Option Nat
  | acc, [] => some acc
  | acc, c :: l => match dv c with
    | none => none
    | some d => if d < b ∧ acc * b + d ≤ M then rdN b M (acc * b + d) l else none
def rdT (b M : Nat) (l : List UInt8) : Option Nat := if l = [] then none else rdN b M 0 l
theorem dv_hexD : ∀ k : Fin 16, dv (hexD k.val) = some k.val := by decide +kernel
theorem rdN_cons {b M acc k : Nat} {l : List UInt8} (hk : k < 16) (hb : k < b) (hM : acc * b + k ≤ M) : rdN b M acc (hexD k :: l) = rdN b M (acc * b + k) l := by
  rw [rdN, dv_hexD ⟨k, hk⟩]
  exact if_pos ⟨hb, hM⟩
theorem rd_hexN {n : Nat} (h : n < 65536) : rdT 16 65535 (hexN n) = some n := by
  unfold hexN rdT
  split
  · rw [if_neg (by simp), rdN_cons (by omega) (by omega) (by omega), rdN]; congr 1; omega
  · split
    · rw [if_neg (by simp), rdN_cons (by omega) (by omega) (by omega), rdN_cons (by omega) (by omega) (by omega), rdN]; congr 1; omega
    · split
      · rw [if_neg (by simp), rdN_cons (by omega) (by omega) (by omega), rdN_cons (by omega) (by omega) (by omega), rdN_cons (by omega) (by omega) (by omega), rdN]; congr 1; omega
      · rw [if_neg (by simp), rdN_cons (by omega) (by omega) (by omega), rdN_cons (by omega) (by omega) (by omega), rdN_cons (by omega) (by omega) (by omega), rdN_cons (by omega) (by omega) (by omega), rdN]; congr 1; omega
theorem rd_decN {n : Nat} (h : n < 256) : rdT 10 255 (decN n) = some n := by
  unfold decN rdT
  split
  · rw [if_neg (by simp), rdN_cons (by omega) (by omega) (by omega), rdN]; congr 1; omega
  · split
    · rw [if_neg (by simp), rdN_cons (by omega) (by omega) (by omega), rdN_cons (by omega) (by omega) (by omega), rdN]; congr 1; omega
    · rw [if_neg (by simp), rdN_cons (by omega) (by omega) (by omega), rdN_cons (by omega) (by omega) (by omega), rdN_cons (by omega) (by omega) (by omega), rdN]; congr 1; omega
def digB (c : UInt8) : Bool := decide (48 ≤ c.toNat ∧ c.toNat ≤ 57)
def hexB (c : UInt8) : Bool := digB c || decide (97 ≤ c.toNat ∧ c.toNat ≤ 102)
theorem hexB_D : ∀ k : Fin 16, hexB (hexD k.val) = true := by decide +kernel
theorem digB_D : ∀ k : Fin 10, digB (hexD k.val) = true := by decide +kernel
theorem hexD_nought : ∀ k : Fin 16, hexD k.val = 48 → k.val = 0 := by decide +kernel
/-- a number's text -/
structure Num (g : List UInt8) : Prop where
  ne : g ≠ []
  hex : ∀ c ∈ g, hexB c = true
  lead : ∀ r, g = 48 :: r → r = []
  len : g.length ≤ 4
theorem lead_of {k : Nat} (h : k < 16) (h0 : 0 < k) {l r : List UInt8} (e : hexD k :: l = 48 :: r) : r = [] := by
  injection e with e _
  have : k = 0 := hexD_nought ⟨k, h⟩ e
  omega
theorem hexN_num {n : Nat} (h : n < 65536) : Num (hexN n) := by
  have D : ∀ k : Nat, k < 16 → hexB (hexD k) = true := fun k hk => hexB_D ⟨k, hk⟩
  unfold hexN
  split
  · exact ⟨by simp, by simp only [List.mem_cons, List.not_mem_nil, or_false]; rintro c rfl; exact D _ (by omega), fun r e => by injection e with _ e; exact e.symm, by simp⟩
  · split
    · exact ⟨by simp, by simp only [List.mem_cons, List.not_mem_nil, or_false]; rintro c (rfl | rfl) <;> exact D _ (by omega), fun r e => lead_of (by omega) (by omega) e, by simp⟩
    · split
      · exact ⟨by simp, by simp only [List.mem_cons, List.not_mem_nil, or_false]; rintro c (rfl | rfl | rfl) <;> exact D _ (by omega), fun r e => lead_of (by omega) (by omega) e, by simp⟩
      · exact ⟨by simp, by simp only [List.mem_cons, List.not_mem_nil, or_false]; rintro c (rfl | rfl | rfl | rfl) <;> exact D _ (by omega), fun r e => lead_of (by omega) (by omega) e, by simp⟩
/-- a number's text in base 10 -/
structure DecT (g : List UInt8) : Prop where
  ne : g ≠ []
  dig : ∀ c ∈ g, digB c = true
  lead : ∀ r, g = 48 :: r → r = []
  len : g.length ≤ 3
theorem decN_dec {n : Nat} (h : n < 256) : DecT (decN n) := by
  have D : ∀ k : Nat, k < 10 → digB (hexD k) = true := fun k hk => digB_D ⟨k, hk⟩
  unfold decN
  split
  · exact ⟨by simp, by simp only [List.mem_cons, List.not_mem_nil, or_false]; rintro c rfl; exact D _ (by omega), fun r e => by injection e with _ e; exact e.symm, by simp⟩
  · split
    · exact ⟨by simp, by simp only [List.mem_cons, List.not_mem_nil, or_false]; rintro c (rfl | rfl) <;> exact D _ (by omega), fun r e => lead_of (by omega) (by omega) e, by simp⟩
    · exact ⟨by simp, by simp only [List.mem_cons, List.not_mem_nil, or_false]; rintro c (rfl | rfl | rfl) <;> exact D _ (by omega), fun r e => lead_of (by omega) (by omega) e, by simp⟩
theorem digB_no {c : UInt8} (h : digB c = true) : c ≠ 46 ∧ c ≠ 58 := by
  unfold digB at h
  simp only [decide_eq_true_eq] at h
  exact ⟨fun e => by subst e; exact absurd h (by decide), fun e => by subst e; exact absurd h (by decide)⟩
theorem hexB_no {c : UInt8} (h : hexB c = true) : c ≠ 46 ∧ c ≠ 58 :=
  ⟨fun e => by subst e; exact absurd h (by decide), fun e => by subst e; exact absurd h (by decide)⟩
theorem Num.no58 {g : List UInt8} (h : Num g) : (58 : UInt8) ∉ g := fun hm => (hexB_no (h.hex _ hm)).2 rfl
theorem Num.no46 {g : List UInt8} (h : Num g) : (46 : UInt8) ∉ g := fun hm => (hexB_no (h.hex _ hm)).1 rfl
theorem DecT.no58 {g : List UInt8} (h : DecT g) : (58 : UInt8) ∉ g := fun hm => (digB_no (h.dig _ hm)).2 rfl
theorem DecT.no46 {g : List UInt8} (h : DecT g) : (46 : UInt8) ∉ g := fun hm => (digB_no (h.dig _ hm)).1 rfl

/-- the eight numbers of sixteen bytes, and back -/
def grp : List UInt8 → List Nat
  | a :: b :: l => (a.toNat * 256 + b.toNat) :: grp l
  | _ => []
def ung : List Nat → List UInt8
  | [] => []
  | v :: l => UInt8.ofNat (v / 256) :: UInt8.ofNat v :: ung l
theorem ung_grp : ∀ (k : Nat) (a : List UInt8), a.length = 2 * k → ung (grp a) = a
  | 0, a, h => by rw [List.length_eq_zero_iff.1 (by omega : a.length = 0)]; rfl
  | k + 1, a, h => by
    match a, h with
    | x :: y :: l, h =>
      simp only [List.length_cons] at h
      rw [grp, ung, ung_grp k l (by omega)]
      have hx := x.toNat_lt
      have hy := y.toNat_lt
      have e1 : UInt8.ofNat ((x.toNat * 256 + y.toNat) / 256) = x := by
        rw [show (x.toNat * 256 + y.toNat) / 256 = x.toNat by omega]; exact UInt8.ofNat_toNat
      have e2 : UInt8.ofNat (x.toNat * 256 + y.toNat) = y := by
        apply UInt8.toNat_inj.1
        rw [UInt8.toNat_ofNat']
        omega
      rw [e1, e2]
theorem grp_lt : ∀ (k : Nat) (a : List UInt8), a.length = 2 * k → ∀ v ∈ grp a, v < 65536
  | 0, a, h => by rw [List.length_eq_zero_iff.1 (by omega : a.length = 0)]; simp [grp]
  | k + 1, a, h => by
    match a, h with
    | x :: y :: l, h =>
      simp only [List.length_cons] at h
      have hx := x.toNat_lt
      have hy := y.toNat_lt
      intro v hv
      rw [grp] at hv
      rcases List.mem_cons.1 hv with rfl | hv
      · omega
      · exact grp_lt k l (by omega) v hv
theorem grp_length : ∀ (k : Nat) (a : List UInt8), a.length = 2 * k → (grp a).length = k
  | 0, a, h => by rw [List.length_eq_zero_iff.1 (by omega : a.length = 0)]; rfl
  | k + 1, a, h => by
    match a, h with
    | x :: y :: l, h =>
      simp only [List.length_cons] at h
      rw [grp, List.length_cons, grp_length k l (by omega)]
theorem ung_length : ∀ n : List Nat, (ung n).length = 2 * n.length
  | [] => rfl
  | v :: l => by rw [ung, List.length_cons, List.length_cons, List.length_cons, ung_length l]; omega
theorem ung_append : ∀ a b : List Nat, ung (a ++ b) = ung a ++ ung b
  | [], b => rfl
  | v :: l, b => by rw [List.cons_append, ung, ung, ung_append l b]; rfl

/-- how many zeros stand first -/
def zr : List Nat → Nat
  | [] => 0
  | v :: l => if v = 0 then zr l + 1 else 0
theorem zr_le : ∀ l : List Nat, zr l ≤ l.length
  | [] => Nat.le_refl _
  | v :: l => by unfold zr; split <;> simp [zr_le l]
theorem zr_at : ∀ (l : List Nat) (j : Nat), j < zr l → l[j]? = some 0
  | [], j, h => by simp [zr] at h
  | v :: l, j, h => by
    unfold zr at h
    split at h
    · rename_i hv
      cases j with
      | zero => simp [hv]
      | succ j => rw [List.getElem?_cons_succ]; exact zr_at l j (by omega)
    · omega
/-- the longest stretch of two or more zeros so far: where it begins, behind which it ends, and how many are to be beaten -/
def stF : List Nat → Nat → Nat × Nat × Nat → Nat × Nat × Nat
  | [], _, s => s
  | v :: l, i, s => stF l (i + 1) (if s.2.2 < zr (v :: l) then (i, i + zr (v :: l), zr (v :: l)) else s)
def st (n : List Nat) : Nat × Nat := ((stF n 0 (0, 0, 1)).1, (stF n 0 (0, 0, 1)).2.1)
/-- what holds of it -/
def StOk (n : List Nat) (i : Nat) (s : Nat × Nat × Nat) : Prop :=
  ((s.1 = 0 ∧ s.2.1 = 0 ∧ s.2.2 = 1) ∨ (2 ≤ s.2.2 ∧ s.2.1 = s.1 + s.2.2 ∧ s.2.1 ≤ n.length ∧ ∀ j, s.1 ≤ j → j < s.2.1 → n[j]? = some 0)) ∧ ∀ j, j < i → zr (n.drop j) ≤ s.2.2
theorem StOk.step {n : List Nat} {i : Nat} {s : Nat × Nat × Nat} (h : StOk n i s) : StOk n (i + 1) (if s.2.2 < zr (n.drop i) then (i, i + zr (n.drop i), zr (n.drop i)) else s) := by
  obtain ⟨h1, h2⟩ := h
  split
  · rename_i hlt
    have hp : 2 ≤ zr (n.drop i) := by rcases h1 with ⟨_, _, h1⟩ | ⟨h1, _⟩ <;> omega
    have hle := zr_le (n.drop i)
    rw [List.length_drop] at hle
    refine ⟨.inr ⟨hp, rfl, by show i + zr (n.drop i) ≤ n.length; omega, fun j ha hb => ?_⟩, fun j hj => ?_⟩
    · have := zr_at (n.drop i) (j - i) (by simp only at ha hb; omega)
      rw [List.getElem?_drop] at this
      rw [← this]; congr 1; simp only at ha; omega
    · rcases Nat.lt_or_ge j i with hj' | hj'
      · have := h2 j hj'; show zr (n.drop j) ≤ zr (n.drop i); omega
      · rw [show j = i by omega]; exact Nat.le_refl _
  · refine ⟨h1, fun j hj => ?_⟩
    rcases Nat.lt_or_ge j i with hj' | hj'
    · exact h2 j hj'
    · rw [show j = i by omega]; omega
theorem stF_ok : ∀ (l : List Nat) (n : List Nat) (i : Nat) (s : Nat × Nat × Nat), n.drop i = l → StOk n i s → StOk n (i + l.length) (stF l i s)
  | [], n, i, s, _, h => h
  | v :: l, n, i, s, hd, h => by
    rw [stF, List.length_cons, ← hd]
    have := stF_ok l n (i + 1) _ (by rw [← List.drop_drop, hd]; rfl) h.step
    rw [show i + (l.length + 1) = i + 1 + l.length by omega]
    exact this
theorem st_ok (n : List Nat) : StOk n n.length (stF n 0 (0, 0, 1)) := by
  have := stF_ok n n 0 (0, 0, 1) rfl ⟨.inl ⟨rfl, rfl, rfl⟩, fun j h => absurd h (Nat.not_lt_zero _)⟩
  rwa [Nat.zero_add] at this
/-- in the words that the texts need -/
theorem st_cases (n : List Nat) : (st n = (0, 0) ∧ ∀ j, j < n.length → zr (n.drop j) ≤ 1) ∨ ((st n).1 + 2 ≤ (st n).2 ∧ (st n).2 ≤ n.length ∧ ∀ j, (st n).1 ≤ j → j < (st n).2 → n[j]? = some 0) := by
  obtain ⟨h1, h2⟩ := st_ok n
  unfold st
  rcases h1 with ⟨a, b, c⟩ | ⟨a, b, c, d⟩
  · left
    rw [a, b]
    exact ⟨rfl, fun j hj => by have := h2 j hj; omega⟩
  · right
    exact ⟨by simp only; omega, c, d⟩

def four12 : List UInt8 := [0, 0, 0, 0, 0, 0, 0, 0, 0, 0, 255, 255]
def isV4 (a : List UInt8) : Bool := a == four12 ++ a.drop 12
def txt4 (a : List UInt8) : List UInt8 := jn ((a.drop 12).map fun c => decN c.toNat)
def txt6 (n : List Nat) : List UInt8 := if (st n).1 = (st n).2 then jq (n.map hexN) else jq ((n.take (st n).1).map hexN) ++ 58 :: 58 :: jq ((n.drop (st n).2).map hexN)
/-- an address's text -/
def txt (a : List UInt8) : List UInt8 := if isV4 a = true then txt4 a else txt6 (grp a)

def rdAll (b M : Nat) : List (List UInt8) → Option (List Nat)
  | [] => some []
  | x :: l => match rdT b M x with
    | none => none
    | some v => (rdAll b M l).map (v :: ·)
def read4 (s : List UInt8) : Option (List UInt8) := match rdAll 10 255 (sp s) with
  | some [a, b, c, d] => some (four12 ++ [UInt8.ofNat a, UInt8.ofNat b, UInt8.ofNat c, UInt8.ofNat d])
  | _ => none
def read16 (s : List UInt8) : Option (List Nat) := if s = [] then some [] else rdAll 16 65535 (sq s)
def put6 (h t : List Nat) (cut : Bool) : Option (List UInt8) :=
  if 8 < h.length + t.length ∨ (cut = false ∧ h.length + t.length < 8) then none else some (ung (h ++ List.replicate (8 - h.length - t.length) 0 ++ t))
def read6 (s : List UInt8) : Option (List UInt8) := match read16 (Go.Lib.cut s [58, 58]).1, read16 (Go.Lib.cut s [58, 58]).2.1 with
  | some h, some t => put6 h t (Go.Lib.cut s [58, 58]).2.2
  | _, _ => none
def readA (s : List UInt8) : Option (List UInt8) := if s.contains 58 = true then read6 s else read4 s
/-- the address whose text it is -/
def parseA (s : List UInt8) : Option (List UInt8) := if 39 < s.length then none else match readA s with
  | some a => if txt a = s then some a else none
  | none => none

theorem rdAll_map {b M : Nat} {f : Nat → List UInt8} : ∀ {gs : List Nat}, (∀ v ∈ gs, rdT b M (f v) = some v) → rdAll b M (gs.map f) = some gs
  | [], _ => rfl
  | v :: l, h => by
    rw [List.map_cons, rdAll, h v List.mem_cons_self]
    simp only [rdAll_map (gs := l) (fun x hx => h x (List.mem_cons_of_mem _ hx)), Option.map_some]
theorem jq_ne {g : List UInt8} {t : List (List UInt8)} (h : g ≠ []) : jq (g :: t) ≠ [] := by
  cases t with
  | nil => exact h
  | cons y t => rw [jq_cons g (by simp)]; simp
theorem read16_jq {gs : List Nat} (h : ∀ v ∈ gs, v < 65536) : read16 (jq (gs.map hexN)) = some gs := by
  cases gs with
  | nil => rfl
  | cons v l =>
    have hn : ∀ x ∈ (v :: l).map hexN, Num x := fun x hx => by
      obtain ⟨y, hy, rfl⟩ := List.mem_map.1 hx
      exact hexN_num (h y hy)
    unfold read16
    rw [if_neg (by rw [List.map_cons]; exact jq_ne (hn _ List.mem_cons_self).ne), sq_jq (by simp) (fun x hx => (hn x hx).no58)]
    exact rdAll_map fun x hx => rd_hexN (h x hx)

/-- the first place of two colons -/
theorem idx_skip {b : UInt8} {l : List UInt8} (h : ¬ (b = 58 ∧ l.head? = some 58)) : Go.Lib.index (b :: l) [58, 58] = if Go.Lib.index l [58, 58] = -1 then -1 else Go.Lib.index l [58, 58] + 1 := by
  rw [Go.Lib.index, if_neg]
  · simp only [beq_iff_eq]
  · intro hp
    apply h
    cases l with
    | nil => simp [List.isPrefixOf] at hp
    | cons c l =>
      simp only [List.isPrefixOf, Bool.and_eq_true, beq_iff_eq] at hp
      exact ⟨hp.1.symm, by rw [List.head?_cons, hp.2.1]⟩
theorem idx_plain : ∀ {g : List UInt8} {r : List UInt8} {k : Nat}, (58 : UInt8) ∉ g → Go.Lib.index r [58, 58] = k → Go.Lib.index (g ++ r) [58, 58] = ((g.length + k : Nat) : Int)
  | [], r, k, _, h => by rw [List.nil_append, h, List.length_nil, Nat.zero_add]
  | c :: g, r, k, hg, h => by
    rw [List.cons_append, idx_skip (fun e => hg (by rw [e.1]; exact List.mem_cons_self)), idx_plain (k := k) (fun hm => hg (List.mem_cons_of_mem _ hm)) h, if_neg (by omega), List.length_cons]
    omega
theorem idx_none : ∀ {g : List UInt8} {r : List UInt8}, (58 : UInt8) ∉ g → Go.Lib.index r [58, 58] = -1 → Go.Lib.index (g ++ r) [58, 58] = -1
  | [], r, _, h => h
  | c :: g, r, hg, h => by
    rw [List.cons_append, idx_skip (fun e => hg (by rw [e.1]; exact List.mem_cons_self)), idx_none (fun hm => hg (List.mem_cons_of_mem _ hm)) h, if_pos rfl]
theorem jq_head {xs : List (List UInt8)} (h : ∀ x ∈ xs, Num x) (hne : xs ≠ []) (r : List UInt8) : (jq xs ++ r).head? ≠ some 58 := by
  match xs, hne with
  | [], hne => exact absurd rfl hne
  | x :: t, _ =>
    have hx := h x List.mem_cons_self
    have e : ∃ z, jq (x :: t) = x ++ z := by
      cases t with
      | nil => exact ⟨[], (List.append_nil _).symm⟩
      | cons y t => exact ⟨_, jq_cons x (by simp)⟩
    obtain ⟨z, e⟩ := e
    rw [e]
    have hxn := hx.no58
    match x, hx.ne with
    | c :: x, _ =>
      intro he
      simp only [List.cons_append, List.head?_cons, Option.some.injEq] at he
      exact hxn (by rw [he]; exact List.mem_cons_self)
theorem idx_gap : ∀ {xs : List (List UInt8)} (T : List UInt8), (∀ x ∈ xs, Num x) → Go.Lib.index (jq xs ++ 58 :: 58 :: T) [58, 58] = ((jq xs).length : Int)
  | [], T, _ => by
    show Go.Lib.index (58 :: 58 :: T) [58, 58] = _
    rw [Go.Lib.index, if_pos (by simp [List.isPrefixOf])]; rfl
  | [x], T, h => by
    have h0 : Go.Lib.index (58 :: 58 :: T) [58, 58] = (0 : Nat) := by rw [Go.Lib.index, if_pos (by simp [List.isPrefixOf])]; rfl
    exact idx_plain (h x List.mem_cons_self).no58 h0
  | x :: y :: t, T, h => by
    have ih := idx_gap (xs := y :: t) T (fun z hz => h z (List.mem_cons_of_mem _ hz))
    rw [jq_cons x (by simp), List.append_assoc, List.cons_append]
    have h1 : Go.Lib.index (58 :: (jq (y :: t) ++ 58 :: 58 :: T)) [58, 58] = (((jq (y :: t)).length + 1 : Nat) : Int) := by
      rw [idx_skip (fun e => jq_head (fun z hz => h z (List.mem_cons_of_mem _ hz)) (by simp) _ e.2), ih, if_neg (by omega)]; omega
    rw [idx_plain (h x List.mem_cons_self).no58 h1, List.length_append, List.length_cons]
theorem idx_no_gap : ∀ {xs : List (List UInt8)}, (∀ x ∈ xs, Num x) → Go.Lib.index (jq xs) [58, 58] = -1
  | [], _ => rfl
  | [x], h => by
    have := idx_none (r := []) (h x List.mem_cons_self).no58 rfl
    rwa [List.append_nil] at this
  | x :: y :: t, h => by
    have ih := idx_no_gap (xs := y :: t) (fun z hz => h z (List.mem_cons_of_mem _ hz))
    rw [jq_cons x (by simp)]
    refine idx_none (h x List.mem_cons_self).no58 ?_
    have := jq_head (fun z hz => h z (List.mem_cons_of_mem _ hz)) (xs := y :: t) (by simp) []
    rw [List.append_nil] at this
    rw [idx_skip (fun e => this e.2), ih, if_pos rfl]
theorem nums {gs : List Nat} (h : ∀ v ∈ gs, v < 65536) : ∀ x ∈ gs.map hexN, Num x := fun x hx => by
  obtain ⟨y, hy, rfl⟩ := List.mem_map.1 hx
  exact hexN_num (h y hy)
theorem read6_gap {f t : List Nat} (hf : ∀ v ∈ f, v < 65536) (ht : ∀ v ∈ t, v < 65536) (hl : f.length + t.length ≤ 8) :
    read6 (jq (f.map hexN) ++ 58 :: 58 :: jq (t.map hexN)) = some (ung (f ++ List.replicate (8 - f.length - t.length) 0 ++ t)) := by
  have hi := idx_gap (jq (t.map hexN)) (nums hf)
  unfold read6 Go.Lib.cut
  rw [hi, if_pos (by omega)]
  simp only [Int.toNat_natCast, List.take_left]
  rw [show (jq (List.map hexN f) ++ 58 :: 58 :: jq (List.map hexN t)).drop ((jq (List.map hexN f)).length + [(58 : UInt8), 58].length) = jq (List.map hexN t) by
    rw [← List.drop_drop, List.drop_left]; rfl]
  rw [read16_jq hf, read16_jq ht]
  show put6 f t true = _
  unfold put6
  rw [if_neg]
  intro h
  rcases h with h | ⟨h, _⟩
  · omega
  · cases h
theorem read6_plain {n : List Nat} (hn : ∀ v ∈ n, v < 65536) (hl : n.length = 8) : read6 (jq (n.map hexN)) = some (ung n) := by
  unfold read6 Go.Lib.cut
  rw [idx_no_gap (nums hn), if_neg (by omega)]
  simp only
  rw [read16_jq hn, show read16 [] = some [] from rfl]
  show put6 n [] false = _
  unfold put6
  rw [if_neg (by simp [hl])]
  simp [hl]
theorem list_gap {n : List Nat} {f t : Nat} (hft : f ≤ t) (ht : t ≤ n.length) (hz : ∀ j, f ≤ j → j < t → n[j]? = some 0) : n.take f ++ List.replicate (t - f) 0 ++ n.drop t = n := by
  apply List.ext_getElem?
  intro j
  rcases Nat.lt_or_ge j f with h1 | h1
  · rw [List.append_assoc, List.getElem?_append_left (by rw [List.length_take]; omega), List.getElem?_take_of_lt h1]
  · rcases Nat.lt_or_ge j t with h2 | h2
    · rw [List.getElem?_append_left (by rw [List.length_append, List.length_take, List.length_replicate]; omega), List.getElem?_append_right (by rw [List.length_take]; omega), List.length_take, List.getElem?_replicate, if_pos (by omega), hz j h1 h2]
    · rw [List.getElem?_append_right (by rw [List.length_append, List.length_take, List.length_replicate]; omega), List.length_append, List.length_take, List.length_replicate, List.getElem?_drop]
      congr 1; omega
theorem read6_txt6 {n : List Nat} (hn : ∀ v ∈ n, v < 65536) (hl : n.length = 8) : read6 (txt6 n) = some (ung n) := by
  unfold txt6
  rcases st_cases n with ⟨h, _⟩ | ⟨h1, h2, h3⟩
  · rw [h]; exact read6_plain hn hl
  · rw [if_neg (by omega), read6_gap (fun v hv => hn v (List.mem_of_mem_take hv)) (fun v hv => hn v (List.mem_of_mem_drop hv)) (by rw [List.length_take, List.length_drop]; omega)]
    congr 2
    rw [List.length_take, List.length_drop, show 8 - min (st n).1 n.length - (n.length - (st n).2) = (st n).2 - (st n).1 by omega]
    exact list_gap (by omega) h2 h3
theorem jq_len {gs : List Nat} (h : ∀ v ∈ gs, v < 65536) (hne : gs ≠ []) : (jq (gs.map hexN)).length + 1 ≤ 5 * gs.length := by
  induction gs with
  | nil => exact absurd rfl hne
  | cons v l ih =>
    have hv := (hexN_num (h v List.mem_cons_self)).len
    cases l with
    | nil => show (hexN v).length + 1 ≤ 5; omega
    | cons y t =>
      have := ih (fun x hx => h x (List.mem_cons_of_mem _ hx)) (by simp)
      rw [List.map_cons, jq_cons _ (by simp), List.length_append, List.length_cons]
      simp only [List.length_cons] at this ⊢
      omega
theorem jq_len' {gs : List Nat} (h : ∀ v ∈ gs, v < 65536) : (jq (gs.map hexN)).length ≤ 5 * gs.length := by
  cases gs with
  | nil => exact Nat.zero_le _
  | cons v l => have := jq_len h (by simp); omega
theorem txt6_len {n : List Nat} (hn : ∀ v ∈ n, v < 65536) (hl : n.length = 8) : (txt6 n).length ≤ 39 := by
  unfold txt6
  rcases st_cases n with ⟨h, _⟩ | ⟨h1, h2, h3⟩
  · rw [h, if_pos rfl]
    have := jq_len hn (by intro e; rw [e] at hl; cases hl)
    omega
  · rw [if_neg (by omega), List.length_append, List.length_cons, List.length_cons]
    have a := jq_len' (gs := n.take (st n).1) (fun v hv => hn v (List.mem_of_mem_take hv))
    have b := jq_len' (gs := n.drop (st n).2) (fun v hv => hn v (List.mem_of_mem_drop hv))
    rw [List.length_take] at a
    rw [List.length_drop] at b
    omega
theorem txt6_colon {n : List Nat} (hl : n.length = 8) : (58 : UInt8) ∈ txt6 n := by
  unfold txt6
  split
  · match n, hl with
    | a :: b :: l, _ =>
      rw [List.map_cons, jq_cons _ (by simp)]
      exact List.mem_append_right _ List.mem_cons_self
  · exact List.mem_append_right _ List.mem_cons_self
theorem isV4_eq {a : List UInt8} (h : isV4 a = true) : a = four12 ++ a.drop 12 := by unfold isV4 at h; exact eq_of_beq h
theorem four_rest {a : List UInt8} (h : a.length = 16) : ∃ x y z u, a.drop 12 = [x, y, z, u] := by
  have hl : (a.drop 12).length = 4 := by rw [List.length_drop, h]
  match a.drop 12, hl with
  | [x, y, z, u], _ => exact ⟨x, y, z, u, rfl⟩
theorem decs {l : List UInt8} : ∀ x ∈ l.map (fun c : UInt8 => decN c.toNat), DecT x := fun x hx => by
  obtain ⟨c, _, rfl⟩ := List.mem_map.1 hx
  exact decN_dec c.toNat_lt
theorem read4_txt4 {a : List UInt8} (h : a.length = 16) (h4 : isV4 a = true) : read4 (txt4 a) = some a := by
  obtain ⟨x, y, z, u, hd⟩ := four_rest h
  have he := isV4_eq h4
  unfold read4 txt4
  rw [hd] at he ⊢
  rw [sp_jn' (by simp) (fun g hg => (decs g hg).no46)]
  have hm : ([x, y, z, u].map fun c : UInt8 => decN c.toNat) = [x.toNat, y.toNat, z.toNat, u.toNat].map decN := rfl
  rw [hm, rdAll_map (fun v hv => by
    simp only [List.mem_cons, List.not_mem_nil, or_false] at hv
    rcases hv with rfl | rfl | rfl | rfl <;> exact rd_decN (UInt8.toNat_lt _))]
  simp only [UInt8.ofNat_toNat]
  rw [← he]
theorem jn_no58 : ∀ {xs : List (List UInt8)}, (∀ x ∈ xs, (58 : UInt8) ∉ x) → (58 : UInt8) ∉ jn xs
  | [], _ => List.not_mem_nil
  | [x], h => h x List.mem_cons_self
  | x :: y :: t, h => by
    rw [jn_cons x (by simp)]
    intro hm
    rcases List.mem_append.1 hm with hm | hm
    · exact h x List.mem_cons_self hm
    · rcases List.mem_cons.1 hm with hm | hm
      · exact absurd hm (by decide)
      · exact jn_no58 (fun z hz => h z (List.mem_cons_of_mem _ hz)) hm
theorem txt4_no58 (a : List UInt8) : (58 : UInt8) ∉ txt4 a := jn_no58 fun x hx => (decs x hx).no58
theorem txt4_len {a : List UInt8} (h : a.length = 16) : (txt4 a).length ≤ 15 := by
  obtain ⟨x, y, z, u, hd⟩ := four_rest h
  unfold txt4
  rw [hd]
  have h1 := (decN_dec x.toNat_lt).len
  have h2 := (decN_dec y.toNat_lt).len
  have h3 := (decN_dec z.toNat_lt).len
  have h4 := (decN_dec u.toNat_lt).len
  simp only [List.map_cons, List.map_nil, jn, List.length_append, List.length_cons]
  omega
theorem readA_txt {a : List UInt8} (h : a.length = 16) : readA (txt a) = some a := by
  unfold readA txt
  by_cases h4 : isV4 a = true
  · rw [if_pos h4, if_neg (by rw [List.contains_iff_mem]; exact txt4_no58 a), read4_txt4 h h4]
  · have hg := grp_length 8 a h
    rw [if_neg h4, if_pos (by rw [List.contains_iff_mem]; exact txt6_colon hg), read6_txt6 (grp_lt 8 a h) hg, ung_grp 8 a h]
theorem txt_len {a : List UInt8} (h : a.length = 16) : (txt a).length ≤ 39 := by
  unfold txt
  split
  · have := txt4_len h; omega
  · exact txt6_len (grp_lt 8 a h) (grp_length 8 a h)
/-- what is printed is read as it was -/
theorem parseA_txt {a : List UInt8} (h : a.length = 16) : parseA (txt a) = some a := by
  unfold parseA
  rw [if_neg (by have := txt_len h; omega), readA_txt h]
  exact if_pos rfl
theorem readA_len {s a : List UInt8} (h : readA s = some a) : a.length = 16 := by
  unfold readA at h
  split at h
  · unfold read6 at h
    split at h
    · unfold put6 at h
      split at h
      · cases h
      · injection h with h
        subst h
        rw [ung_length]
        simp only [List.length_append, List.length_replicate]
        omega
    · cases h
  · unfold read4 at h
    split at h
    · injection h with h; subst h; rfl
    · cases h
/-- what is read is printed as it was -/
theorem parseA_some {s a : List UInt8} (h : parseA s = some a) : txt a = s ∧ a.length = 16 := by
  unfold parseA at h
  split at h
  · cases h
  · split at h
    · rename_i a' hr
      split at h
      · injection h with h; subst h
        exact ⟨by assumption, readA_len hr⟩
      · cases h
    · cases h
theorem txt_inj {a b : List UInt8} (ha : a.length = 16) (hb : b.length = 16) (h : txt a = txt b) : a = b := by
  have := parseA_txt ha
  rw [h, parseA_txt hb] at this
  exact (Option.some.inj this).symm
theorem parseA_iff {s a : List UInt8} : parseA s = some a ↔ txt a = s ∧ a.length = 16 := by
  constructor
  · exact parseA_some
  · rintro ⟨rfl, h⟩; exact parseA_txt h
end Go.Proofs.YtpnlgojbmjfhhaaGreatDoor
