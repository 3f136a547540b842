/-
  Plain facts on the configuration text, no program: what its lines tell, the first fault, that what is told is read again, and what its comments play no part in. No condition.
-/
import Derived.Test.YtpnlgojbmjfhhaaGreatDoorHostsMath
namespace Go.Proofs.YtpnlgojbmjfhhaaGreatDoor

/-- what a text tells -/
structure ConfM where
  servers : List (List UInt8)
  search : List (List UInt8)
  dots : Nat
  timeout : Nat
  attempts : Nat
def ConfM.dflt : ConfM := ⟨[], [], 1, 5, 2⟩
def ConfM.zero : ConfM := ⟨[], [], 0, 0, 0⟩
def wNs : List UInt8 := [110, 97, 109, 101, 115, 101, 114, 118, 101, 114]
def wSe : List UInt8 := [115, 101, 97, 114, 99, 104]
def wOp : List UInt8 := [111, 112, 116, 105, 111, 110, 115]
def wNd : List UInt8 := [110, 100, 111, 116, 115]
def wTi : List UInt8 := [116, 105, 109, 101, 111, 117, 116]
def wAt : List UInt8 := [97, 116, 116, 101, 109, 112, 116, 115]

/-! Numbers, brought to 30. -/
def numG : Nat → List UInt8 → Option Nat
  | n, [] => some n
  | n, c :: l => if 48 ≤ c.toNat ∧ c.toNat ≤ 57 then numG (min (10 * n + (c.toNat - 48)) 30) l else none
def numC (l : List UInt8) : Option Nat := if l = [] ∨ (l.head? = some 48 ∧ 1 < l.length) then none else numG 0 l
theorem numG_append : ∀ (a b : List UInt8) (n : Nat), numG n (a ++ b) = (numG n a).bind fun m => numG m b
  | [], b, n => rfl
  | c :: a, b, n => by
    rw [List.cons_append, numG, numG]
    split
    · exact numG_append a b _
    · rfl
theorem numG_le : ∀ {l : List UInt8} {n m : Nat}, n ≤ 30 → numG n l = some m → m ≤ 30
  | [], n, m, h, e => by rw [numG] at e; injection e with e; omega
  | c :: l, n, m, h, e => by
    rw [numG] at e
    split at e
    · exact numG_le (by omega) e
    · cases e
theorem numC_le {l : List UInt8} {m : Nat} (e : numC l = some m) : m ≤ 30 := by
  unfold numC at e
  split at e
  · cases e
  · exact numG_le (by omega) e
theorem u8_of {k : Nat} (h : k < 256) : (UInt8.ofNat k).toNat = k := by rw [UInt8.toNat_ofNat']; exact Nat.mod_eq_of_lt h
theorem numG_dec (u : Nat) : numG 0 (Go.Lib.decDigits u) = some (min u 30) := by
  induction u using Nat.strongRecOn with
  | _ u ih =>
    by_cases h : u < 10
    · rw [Go.Lib.decDigits, dif_pos h, numG, u8_of (by omega), if_pos (by omega), numG]
      congr 1; omega
    · have h10 : u % 10 < 10 := Nat.mod_lt _ (by omega)
      rw [Go.Lib.decDigits, dif_neg h, numG_append, ih (u / 10) (by omega)]
      show numG (min (u / 10) 30) [UInt8.ofNat (48 + u % 10)] = _
      rw [numG, u8_of (by omega), if_pos (by omega), numG]
      congr 1; omega
theorem dec_head : ∀ u : Nat, Go.Lib.decDigits u ≠ [] ∧ ((Go.Lib.decDigits u).head? = some 48 → u = 0) ∧ ∀ c ∈ Go.Lib.decDigits u, 48 ≤ c.toNat ∧ c.toNat ≤ 57 := by
  intro u
  induction u using Nat.strongRecOn with
  | _ u ih =>
    by_cases h : u < 10
    · rw [Go.Lib.decDigits, dif_pos h]
      refine ⟨by simp, fun e => ?_, fun c hc => ?_⟩
      · rw [List.head?_cons] at e
        injection e with e
        have := congrArg UInt8.toNat e
        rw [u8_of (by omega)] at this
        have e48 : (48 : UInt8).toNat = 48 := rfl
        omega
      · rw [List.mem_singleton.1 hc, u8_of (by omega)]; omega
    · obtain ⟨h1, h2, h3⟩ := ih (u / 10) (by omega)
      rw [Go.Lib.decDigits, dif_neg h]
      refine ⟨by simp, fun e => ?_, fun c hc => ?_⟩
      · rw [List.head?_append, (by obtain ⟨x, hx⟩ := List.exists_mem_of_ne_nil _ h1; cases hd : Go.Lib.decDigits (u / 10) with | nil => exact absurd hd h1 | cons y t => rfl : ((Go.Lib.decDigits (u / 10)).head?.or [UInt8.ofNat (48 + u % 10)].head?) = (Go.Lib.decDigits (u / 10)).head?)] at e
        have := h2 e
        omega
      · rcases List.mem_append.1 hc with hc | hc
        · exact h3 c hc
        · rw [List.mem_singleton.1 hc, u8_of (by omega)]; omega
theorem numC_dec (u : Nat) : numC (Go.Lib.decDigits u) = some (min u 30) := by
  obtain ⟨h1, h2, _⟩ := dec_head u
  unfold numC
  rw [if_neg, numG_dec]
  rintro (h | ⟨h, hl⟩)
  · exact h1 h
  · rw [h2 h] at hl
    rw [Go.Lib.decDigits, dif_pos (by omega)] at hl
    simp at hl

/-! Options. -/
def putO (c : ConfM) (w : List UInt8) (n : Nat) : Option ConfM :=
  if w = wNd then some { c with dots := min n 15 } else if w = wTi then some { c with timeout := min (max n 1) 30 } else if w = wAt then some { c with attempts := min (max n 1) 5 } else none
def setO (c : ConfM) (x : List UInt8) : Option ConfM :=
  match numC (Go.Lib.cut x [58]).2.1 with
  | none => none
  | some n => putO c (Go.Lib.cut x [58]).1 n
def setOs : ConfM → List (List UInt8) → Option ConfM
  | c, [] => some c
  | c, x :: l => match setO c x with
    | none => none
    | some c' => setOs c' l
/-- names as they go out, or the first error -/
inductive NmE : List (List UInt8) → Nat → List (List UInt8) → Prop
  | nil : NmE [] 0 []
  | bad {x t : List UInt8} {l : List (List UInt8)} {e : Nat} (h : TA x e t) (he : e ≠ 0) : NmE (x :: l) e []
  | later {x t : List UInt8} {l : List (List UInt8)} {e : Nat} (h : TA x 0 t) (hl : NmE l e []) (he : e ≠ 0) : NmE (x :: l) e []
  | ok {x t : List UInt8} {l ts : List (List UInt8)} (h : TA x 0 t) (hl : NmE l 0 ts) : NmE (x :: l) 0 (t :: ts)
theorem NmE.det : ∀ {l : List (List UInt8)} {e e' : Nat} {t t' : List (List UInt8)}, NmE l e t → NmE l e' t' → e = e' ∧ t = t'
  | [], _, _, _, _, h, h' => by cases h; cases h'; exact ⟨rfl, rfl⟩
  | x :: l, _, _, _, _, h, h' => by
    cases h with
    | bad h he =>
      cases h' with
      | bad h2 => exact ⟨(h.det h2).1, rfl⟩
      | later h2 => exact absurd (h.det h2).1 he
      | ok h2 => exact absurd (h.det h2).1 he
    | later h hl he =>
      cases h' with
      | bad h2 he2 => exact absurd (h2.det h).1 he2
      | later h2 hl2 => exact hl.det hl2
      | ok h2 hl2 => exact absurd (hl.det hl2).1 he
    | ok h hl =>
      cases h' with
      | bad h2 he2 => exact absurd (h2.det h).1 he2
      | later h2 hl2 he2 => exact absurd (hl2.det hl).1 he2
      | ok h2 hl2 => exact ⟨rfl, by rw [(h.det h2).2, (hl.det hl2).2]⟩
theorem NmE.num : ∀ {l : List (List UInt8)} {e : Nat} {t : List (List UInt8)}, NmE l e t → e ≤ 3
  | [], _, _, h => by cases h; omega
  | x :: l, _, _, h => by
    cases h with
    | bad h he => exact h.num.1
    | later h hl he => exact hl.num
    | ok h hl => omega
theorem NmE.length : ∀ {l t : List (List UInt8)}, NmE l 0 t → t.length = l.length
  | [], _, h => by cases h; rfl
  | x :: l, _, h => by
    cases h with
    | bad h he => exact absurd rfl he
    | later h hl he => exact absurd rfl he
    | ok h hl => rw [List.length_cons, List.length_cons, hl.length]
theorem NmE.out : ∀ {l ts : List (List UInt8)}, NmE l 0 ts → ∀ t ∈ ts, TA t 0 t
  | [], _, h => by cases h; simp
  | x :: l, _, h => by
    cases h with
    | bad h he => exact absurd rfl he
    | later h hl he => exact absurd rfl he
    | ok h hl =>
      intro t ht
      rcases List.mem_cons.1 ht with rfl | ht
      · exact h.back.1
      · exact hl.out t ht
theorem NmE.same : ∀ {ts : List (List UInt8)}, (∀ t ∈ ts, TA t 0 t) → NmE ts 0 ts
  | [], _ => .nil
  | n :: _, h => .ok (h n List.mem_cons_self) (NmE.same fun t ht => h t (List.mem_cons_of_mem _ ht))
theorem NmE.snoc : ∀ {l ts : List (List UInt8)} {x t : List UInt8}, NmE l 0 ts → TA x 0 t → NmE (l ++ [x]) 0 (ts ++ [t])
  | [], _, x, t, h, ht => by cases h; exact .ok ht .nil
  | y :: l, _, x, t, h, ht => by
    cases h with
    | bad h he => exact absurd rfl he
    | later h hl he => exact absurd rfl he
    | ok h2 hl => exact .ok h2 (hl.snoc ht)
theorem NmE.fail : ∀ {l : List (List UInt8)} {k : Nat} {ts : List (List UInt8)} {x t : List UInt8} {e : Nat}, NmE (l.take k) 0 ts → l[k]? = some x → TA x e t → e ≠ 0 → NmE l e []
  | [], k, _, _, _, _, _, h, _, _ => by simp at h
  | y :: l, 0, _, x, t, e, _, h, ht, he => by
    rw [List.getElem?_cons_zero, Option.some.injEq] at h
    subst h
    exact .bad ht he
  | y :: l, k + 1, ts, x, t, e, hn, h, ht, he => by
    rw [List.take_succ_cons] at hn
    cases hn with
    | bad h he => exact absurd rfl he
    | later h hl he => exact absurd rfl he
    | ok h2 hl => exact .later h2 (hl.fail (by simpa using h) ht he) he

/-! A line: its words, and what names are; the error's number, and what is told then. -/
def lnF (c : ConfM) (na : Nat × List (List UInt8)) : List (List UInt8) → Nat × ConfM
  | [] => (0, c)
  | w :: l =>
    if w = wNs then (if l.length ≠ 1 then (6, c) else match parseA (l.headD []) with
      | none => (5, c)
      | some b => if c.servers.length = 3 then (2, c) else (0, { c with servers := c.servers ++ [b] }))
    else if w = wSe then (if na.1 ≠ 0 then (na.1, c) else if 6 < na.2.length then (2, c) else (0, { c with search := na.2 }))
    else if w = wOp then (match setOs c l with
      | none => (6, c)
      | some c' => (0, c'))
    else (6, c)
def LnR (c : ConfM) (ws : List (List UInt8)) (e : Nat) (c' : ConfM) : Prop :=
  ∃ na : Nat × List (List UInt8), (ws.head? = some wSe → NmE (ws.drop 1) na.1 na.2) ∧ (e, c') = lnF c na ws
theorem lnF_other {c : ConfM} {ws : List (List UInt8)} (h : ws.head? ≠ some wSe) (na nb : Nat × List (List UInt8)) : lnF c na ws = lnF c nb ws := by
  cases ws with
  | nil => rfl
  | cons w l =>
    have hw : ¬ w = wSe := fun e => h (by rw [e]; rfl)
    simp only [lnF, if_neg hw]
theorem LnR.det {c : ConfM} {ws : List (List UInt8)} {e e' : Nat} {d d' : ConfM} (h : LnR c ws e d) (h' : LnR c ws e' d') : e = e' ∧ d = d' := by
  obtain ⟨na, hn, h1⟩ := h
  obtain ⟨nb, hm, h2⟩ := h'
  have : (e, d) = (e', d') := by
    rw [h1, h2]
    by_cases hs : ws.head? = some wSe
    · obtain ⟨e1, e2⟩ := (hn hs).det (hm hs)
      rw [show na = nb from Prod.ext e1 e2]
    · exact lnF_other hs _ _
  injection this with a b
  exact ⟨a, b⟩
theorem LnR.blank (c : ConfM) : LnR c [] 0 c := ⟨(0, []), fun h => (by cases h), rfl⟩
/-- lines, from the n-th on: the line of the fault, its number, and what is told -/
inductive PcR : Nat → ConfM → List (List (List UInt8)) → Nat → Nat → ConfM → Prop
  | done {n : Nat} {c : ConfM} : PcR n c [] 0 0 c
  | line {n f e : Nat} {c c' d : ConfM} {ws : List (List UInt8)} {ls : List (List (List UInt8))} (hl : LnR c ws 0 c') (h : PcR (n + 1) c' ls f e d) : PcR n c (ws :: ls) f e d
  | fault {n e : Nat} {c c' : ConfM} {ws : List (List UInt8)} {ls : List (List (List UInt8))} (hl : LnR c ws e c') (he : e ≠ 0) : PcR n c (ws :: ls) n e ConfM.zero
theorem PcR.det : ∀ {ls : List (List (List UInt8))} {n f f' e e' : Nat} {c d d' : ConfM}, PcR n c ls f e d → PcR n c ls f' e' d' → f = f' ∧ e = e' ∧ d = d'
  | [], _, _, _, _, _, _, _, _, h, h' => by cases h; cases h'; exact ⟨rfl, rfl, rfl⟩
  | x :: ls, _, _, _, _, _, _, _, _, h, h' => by
    cases h with
    | line hl h =>
      cases h' with
      | line hl2 h2 =>
        have e := (hl.det hl2).2
        subst e
        exact h.det h2
      | fault hl2 he2 => exact absurd (hl2.det hl).1 he2
    | fault hl he =>
      cases h' with
      | line hl2 h2 => exact absurd (hl.det hl2).1 he
      | fault hl2 he2 => exact ⟨rfl, (hl.det hl2).1, rfl⟩
/-- lines that have no fault, and those behind them -/
theorem PcR.append : ∀ {ls ms : List (List (List UInt8))} {n f e : Nat} {c d d' : ConfM}, PcR n c ls 0 0 d → PcR (n + ls.length) d ms f e d' → n ≠ 0 → PcR n c (ls ++ ms) f e d'
  | [], ms, n, f, e, c, d, d', h, h', _ => by
    cases h
    exact h'
  | x :: ls, ms, n, f, e, c, d, d', h, h', hn => by
    cases h with
    | line hl h => exact .line hl (h.append (by rw [List.length_cons] at h'; rw [show n + 1 + ls.length = n + (ls.length + 1) by omega]; exact h') (by omega))
    | fault hl he => exact absurd rfl hn
theorem PcR.num : ∀ {ls : List (List (List UInt8))} {n f e : Nat} {c d : ConfM}, PcR n c ls f e d → (e = 0 ∧ f = 0) ∨ (n ≤ f ∧ f < n + ls.length ∧ (e = 1 ∨ e = 2 ∨ e = 3 ∨ e = 5 ∨ e = 6) ∧ d = ConfM.zero)
  | [], _, _, _, _, _, h => by cases h; exact .inl ⟨rfl, rfl⟩
  | x :: ls, n, f, e, c, d, h => by
    cases h with
    | line hl h =>
      rcases h.num with h | ⟨h1, h2, h3⟩
      · exact .inl h
      · exact .inr ⟨by omega, by rw [List.length_cons]; omega, h3⟩
    | fault hl he =>
      refine .inr ⟨Nat.le_refl _, by rw [List.length_cons]; omega, ?_, rfl⟩
      obtain ⟨na, hn, h1⟩ := hl
      cases x with
      | nil => injection h1 with h1 _; exact absurd h1 he
      | cons w l =>
        simp only [lnF] at h1
        split at h1
        · split at h1
          · injection h1 with h1 _; omega
          · split at h1
            · injection h1 with h1 _; omega
            · split at h1
              · injection h1 with h1 _; omega
              · injection h1 with h1 _; omega
        · split at h1
          · rename_i hs
            have hn3 := (hn (by rw [hs]; rfl)).num
            split at h1
            · injection h1 with h1 _; omega
            · split at h1
              · injection h1 with h1 _; omega
              · injection h1 with h1 _; omega
          · split at h1
            · split at h1
              · injection h1 with h1 _; omega
              · injection h1 with h1 _; omega
            · injection h1 with h1 _; omega
/-- what stands ahead of a fault's line has none -/
theorem PcR.ahead : ∀ {ls ms : List (List (List UInt8))} {n f e : Nat} {c d : ConfM}, PcR n c (ls ++ ms) f e d → e ≠ 0 → f = n + ls.length → ∃ d', PcR n c (ls ++ [[]]) 0 0 d'
  | [], ms, n, f, e, c, d, _, _, _ => ⟨c, .line (LnR.blank c) .done⟩
  | x :: ls, ms, n, f, e, c, d, h, he, hf => by
    rw [List.cons_append] at h
    rw [List.length_cons] at hf
    cases h with
    | line hl h =>
      obtain ⟨d', hd⟩ := h.ahead he (by omega)
      exact ⟨d', .line hl hd⟩
    | fault hl he => omega

/-! What is told may be. -/
structure RightC (c : ConfM) : Prop where
  srv : c.servers.length ≤ 3
  len : ∀ a ∈ c.servers, a.length = 16
  sea : c.search.length ≤ 6
  out : ∀ t ∈ c.search, TA t 0 t
  dots : c.dots ≤ 15
  t1 : 1 ≤ c.timeout
  t2 : c.timeout ≤ 30
  a1 : 1 ≤ c.attempts
  a2 : c.attempts ≤ 5
theorem RightC.dflt : RightC ConfM.dflt := ⟨by decide, (fun a h => (by cases h)), by decide, (fun a h => (by cases h)), by decide, by decide, by decide, by decide, by decide⟩
theorem RightC.putO {c d : ConfM} {w : List UInt8} {n : Nat} (hc : RightC c) (h : putO c w n = some d) : RightC d := by
  unfold Go.Proofs.YtpnlgojbmjfhhaaGreatDoor.putO at h
  split at h
  · injection h with h; subst h; exact ⟨hc.srv, hc.len, hc.sea, hc.out, by show min n 15 ≤ 15; omega, hc.t1, hc.t2, hc.a1, hc.a2⟩
  · split at h
    · injection h with h; subst h; exact ⟨hc.srv, hc.len, hc.sea, hc.out, hc.dots, by show 1 ≤ min (max n 1) 30; omega, by show min (max n 1) 30 ≤ 30; omega, hc.a1, hc.a2⟩
    · split at h
      · injection h with h; subst h; exact ⟨hc.srv, hc.len, hc.sea, hc.out, hc.dots, hc.t1, hc.t2, by show 1 ≤ min (max n 1) 5; omega, by show min (max n 1) 5 ≤ 5; omega⟩
      · cases h
theorem RightC.setO {c d : ConfM} {x : List UInt8} (hc : RightC c) (h : setO c x = some d) : RightC d := by
  unfold Go.Proofs.YtpnlgojbmjfhhaaGreatDoor.setO at h
  split at h
  · cases h
  · exact hc.putO h
theorem RightC.setOs : ∀ {l : List (List UInt8)} {c d : ConfM}, RightC c → setOs c l = some d → RightC d
  | [], c, d, hc, h => by rw [Go.Proofs.YtpnlgojbmjfhhaaGreatDoor.setOs] at h; injection h with h; rw [← h]; exact hc
  | x :: l, c, d, hc, h => by
    rw [Go.Proofs.YtpnlgojbmjfhhaaGreatDoor.setOs] at h
    split at h
    · cases h
    · rename_i c' hx
      exact RightC.setOs (hc.setO hx) h
theorem LnR.right {c d : ConfM} {ws : List (List UInt8)} (hc : RightC c) (h : LnR c ws 0 d) : RightC d := by
  obtain ⟨na, hn, h1⟩ := h
  cases ws with
  | nil => injection h1 with _ h1; rw [h1]; exact hc
  | cons w l =>
    simp only [lnF] at h1
    split at h1
    · split at h1
      · injection h1 with h1 _; omega
      · split at h1
        · injection h1 with h1 _; omega
        · rename_i b hb
          split at h1
          · injection h1 with h1 _; omega
          · rename_i h3
            injection h1 with _ h1
            subst h1
            have h4 := hc.srv
            refine ⟨by show (c.servers ++ [b]).length ≤ 3; rw [List.length_append]; simp only [List.length_cons, List.length_nil]; omega, fun a ha => ?_, hc.sea, hc.out, hc.dots, hc.t1, hc.t2, hc.a1, hc.a2⟩
            rcases List.mem_append.1 ha with ha | ha
            · exact hc.len a ha
            · rw [List.mem_singleton.1 ha]; exact (parseA_some hb).2
    · split at h1
      · rename_i hs
        have hn := hn (by rw [hs]; rfl)
        split at h1
        · rename_i h0
          injection h1 with h1 _
          omega
        · rename_i h0
          have h0 : na.1 = 0 := by omega
          rw [h0] at hn
          split at h1
          · injection h1 with h1 _; omega
          · injection h1 with _ h1
            subst h1
            exact ⟨hc.srv, hc.len, by show na.2.length ≤ 6; omega, hn.out, hc.dots, hc.t1, hc.t2, hc.a1, hc.a2⟩
      · split at h1
        · split at h1
          · injection h1 with h1 _; omega
          · rename_i c' hx
            injection h1 with _ h1
            rw [h1]; exact hc.setOs hx
        · injection h1 with h1 _; omega
theorem PcR.right : ∀ {ls : List (List (List UInt8))} {n f : Nat} {c d : ConfM}, RightC c → PcR n c ls f 0 d → RightC d
  | [], _, _, _, _, hc, h => by cases h; exact hc
  | x :: ls, _, _, _, _, hc, h => by
    cases h with
    | line hl h => exact PcR.right (hl.right hc) h
    | fault hl he => exact absurd rfl he

/-! What is told is read again. -/
def lineW (w : List UInt8) (ts : List (List UInt8)) : List UInt8 := w ++ nmT ts
def optW (w : List UInt8) (n : Nat) : List UInt8 := w ++ 58 :: Go.Lib.decDigits n
def optsOf (c : ConfM) : List (List UInt8) := [optW wNd c.dots, optW wTi c.timeout, optW wAt c.attempts]
def linesC (c : ConfM) : List (List UInt8 × List (List UInt8)) := c.servers.map (fun a => (wNs, [txt a])) ++ (if c.search = [] then [] else [(wSe, c.search)]) ++ [(wOp, optsOf c)]
def printC (c : ConfM) : List UInt8 := (linesC c).flatMap fun p => lineW p.1 p.2 ++ [10]
def WordOk (w : List UInt8) : Prop := w ≠ [] ∧ ∀ c ∈ w, inW c
theorem words_of {w : List UInt8} {ts : List (List UInt8)} (hw : WordOk w) (ht : ∀ t ∈ ts, WordOk t) : wordsL (lineW w ts) = w :: ts ∧ (10 : UInt8) ∉ lineW w ts := by
  have hs : ∀ c ∈ lineW w ts, c = 32 ∨ inW c := fun c hc => by
    unfold lineW at hc
    rcases List.mem_append.1 hc with hc | hc
    · exact .inr (hw.2 c hc)
    · exact nmT_signs (fun t h => (ht t h).2) hc
  refine ⟨?_, fun hm => ?_⟩
  · unfold wordsL
    rw [toldL_plain (fun hm => by
      rcases hs _ hm with e | e
      · cases e
      · exact e.2.1 rfl)]
    unfold lineW
    rw [fw_plain _ _ _ (fun c hc => (hw.2 c hc).1), List.nil_append]
    exact fw_names (fun t h => ⟨(ht t h).1, fun c hc => ((ht t h).2 c hc).1⟩) hw.1
  · rcases hs _ hm with e | e
    · cases e
    · exact e.2.2 rfl
theorem inW_of {l : List UInt8} (h : l.all (fun c => !(spc c) && !(c == 35) && !(c == 10)) = true) : ∀ c ∈ l, inW c := fun c hc => by
  have := List.all_eq_true.1 h c hc
  simp only [Bool.and_eq_true, Bool.not_eq_true', beq_eq_false_iff_ne] at this
  exact ⟨this.1.1, this.1.2, this.2⟩
theorem wNs_ok : WordOk wNs := ⟨by simp [wNs], inW_of (by decide +kernel)⟩
theorem wSe_ok : WordOk wSe := ⟨by simp [wSe], inW_of (by decide +kernel)⟩
theorem wOp_ok : WordOk wOp := ⟨by simp [wOp], inW_of (by decide +kernel)⟩
theorem dig_inW : ∀ c : UInt8, 48 ≤ c.toNat ∧ c.toNat ≤ 57 → inW c := fun c h => hexB_inW c (.inl (by
  have hh : ∀ k : Fin 256, 48 ≤ (UInt8.ofNat k.val).toNat ∧ (UInt8.ofNat k.val).toNat ≤ 57 → hexB (UInt8.ofNat k.val) = true := by decide +kernel
  have := hh ⟨c.toNat, c.toNat_lt⟩
  simp only [UInt8.ofNat_toNat] at this
  exact this h))
theorem optW_ok {w : List UInt8} (h : WordOk w) (n : Nat) : WordOk (optW w n) := by
  unfold optW
  refine ⟨by simp, fun c hc => ?_⟩
  rcases List.mem_append.1 hc with hc | hc
  · exact h.2 c hc
  · rcases List.mem_cons.1 hc with rfl | hc
    · unfold inW; decide
    · exact dig_inW c ((dec_head n).2.2 c hc)
theorem wNd_ok : WordOk wNd := ⟨by simp [wNd], inW_of (by decide +kernel)⟩
theorem wTi_ok : WordOk wTi := ⟨by simp [wTi], inW_of (by decide +kernel)⟩
theorem wAt_ok : WordOk wAt := ⟨by simp [wAt], inW_of (by decide +kernel)⟩
theorem linesC_ok {c : ConfM} (hc : RightC c) : ∀ p ∈ linesC c, WordOk p.1 ∧ ∀ t ∈ p.2, WordOk t := by
  intro p hp
  unfold linesC at hp
  rcases List.mem_append.1 hp with hp | hp
  · rcases List.mem_append.1 hp with hp | hp
    · obtain ⟨a, ha, rfl⟩ := List.mem_map.1 hp
      refine ⟨wNs_ok, fun t ht => ?_⟩
      rw [List.mem_singleton.1 ht]
      exact ⟨txt_ne (hc.len a ha), fun x hx => hexB_inW x (txt_signs (hc.len a ha) x hx)⟩
    · split at hp
      · cases hp
      · rw [List.mem_singleton.1 hp]
        exact ⟨wSe_ok, fun t ht => out_signs (hc.out t ht)⟩
  · rw [List.mem_singleton.1 hp]
    refine ⟨wOp_ok, fun t ht => ?_⟩
    simp only [optsOf, List.mem_cons, List.not_mem_nil, or_false] at ht
    rcases ht with rfl | rfl | rfl
    · exact optW_ok wNd_ok _
    · exact optW_ok wTi_ok _
    · exact optW_ok wAt_ok _
theorem nl_lines : ∀ {l : List (List UInt8 × List (List UInt8))}, (∀ p ∈ l, WordOk p.1 ∧ ∀ t ∈ p.2, WordOk t) → (nl (l.flatMap fun p => lineW p.1 p.2 ++ [10])).map wordsL = l.map (fun p => p.1 :: p.2) ++ [[]]
  | [], _ => rfl
  | p :: l, h => by
    obtain ⟨h1, h2⟩ := h p List.mem_cons_self
    obtain ⟨h3, h4⟩ := words_of h1 h2
    rw [List.flatMap_cons, List.append_assoc, List.singleton_append, nl_append, nl_plain h4, List.map_append, nl_lines fun q hq => h q (List.mem_cons_of_mem _ hq), List.map_cons, List.map_cons, h3]
    rfl
theorem cut_opt {w : List UInt8} (hw : (58 : UInt8) ∉ w) (d : List UInt8) : Go.Lib.cut (w ++ 58 :: d) [58] = (w, d, true) := by
  have hi : Go.Lib.index (w ++ 58 :: d) [58] = (w.length : Int) := by
    induction w with
    | nil => rw [List.nil_append, Go.Lib.index, if_pos (by simp [List.isPrefixOf])]; rfl
    | cons c w ih =>
      have hc : ¬ (58 : UInt8) = c := fun e => hw (by rw [e]; exact List.mem_cons_self)
      rw [List.cons_append, Go.Lib.index, if_neg (by simp [List.isPrefixOf, hc]), ih (fun h => hw (List.mem_cons_of_mem _ h)), List.length_cons]
      simp only [beq_iff_eq]
      rw [if_neg (by omega)]
      omega
  unfold Go.Lib.cut
  rw [hi, if_pos (by omega)]
  simp
theorem setO_opt {c : ConfM} {w : List UInt8} (hw : (58 : UInt8) ∉ w) (n : Nat) : setO c (optW w n) = putO c w (min n 30) := by
  unfold setO optW
  rw [cut_opt hw]
  simp only
  rw [numC_dec]
theorem put_nd (c : ConfM) (n : Nat) : putO c wNd n = some { c with dots := min n 15 } := by unfold putO; rw [if_pos rfl]
theorem put_ti (c : ConfM) (n : Nat) : putO c wTi n = some { c with timeout := min (max n 1) 30 } := by unfold putO; rw [if_neg (by decide), if_pos rfl]
theorem put_at (c : ConfM) (n : Nat) : putO c wAt n = some { c with attempts := min (max n 1) 5 } := by unfold putO; rw [if_neg (by decide), if_neg (by decide), if_pos rfl]
theorem pc_servers : ∀ (l : List (List UInt8)) {n : Nat} {c : ConfM}, (∀ a ∈ l, a.length = 16) → c.servers.length + l.length ≤ 3 → PcR n c (l.map fun a => [wNs, txt a]) 0 0 { c with servers := c.servers ++ l }
  | [], n, c, _, _ => by rw [List.append_nil]; exact .done
  | a :: l, n, c, h, hl => by
    rw [List.length_cons] at hl
    have ih := pc_servers l (n := n + 1) (c := { c with servers := c.servers ++ [a] }) (fun b hb => h b (List.mem_cons_of_mem _ hb)) (by show (c.servers ++ [a]).length + _ ≤ 3; rw [List.length_append]; simp only [List.length_cons, List.length_nil]; omega)
    have e : ({ c with servers := c.servers ++ a :: l } : ConfM) = { { c with servers := c.servers ++ [a] } with servers := (c.servers ++ [a]) ++ l } := by rw [List.append_assoc]; rfl
    rw [e]
    refine .line ⟨(0, []), fun h => ?_, ?_⟩ ih
    · exact absurd (show wNs = wSe by injection h) (by decide)
    · simp only [lnF]
      rw [if_pos trivial, if_neg (by simp)]
      simp only [List.headD_cons]
      rw [parseA_txt (h a List.mem_cons_self)]
      simp only
      rw [if_neg (by omega)]
theorem pc_search {c : ConfM} {l ts : List (List UInt8)} (h : NmE l 0 ts) (hl : ts.length ≤ 6) : LnR c (wSe :: l) 0 { c with search := ts } := by
  refine ⟨(0, ts), fun _ => h, ?_⟩
  simp only [lnF]
  rw [if_neg (by decide), if_pos trivial, if_neg (by omega), if_neg (by omega)]
theorem pc_opts {c d : ConfM} {l : List (List UInt8)} (h : setOs c l = some d) : LnR c (wOp :: l) 0 d := by
  refine ⟨(0, []), fun h => ?_, ?_⟩
  · exact absurd (show wOp = wSe by injection h) (by decide)
  · simp only [lnF]
    rw [if_neg (by decide), if_neg (by decide), if_pos trivial, h]
theorem opts_of {c d : ConfM} (hd : RightC d) (h1 : c.servers = d.servers) (h2 : c.search = d.search) : setOs c (optsOf d) = some d := by
  have e1 : setO c (optW wNd d.dots) = some { c with dots := d.dots } := by
    rw [setO_opt (by decide), put_nd]
    have := hd.dots
    rw [show min (min d.dots 30) 15 = d.dots by omega]
  have e2 : setO { c with dots := d.dots } (optW wTi d.timeout) = some { c with dots := d.dots, timeout := d.timeout } := by
    rw [setO_opt (by decide), put_ti]
    have := hd.t1
    have := hd.t2
    rw [show min (max (min d.timeout 30) 1) 30 = d.timeout by omega]
  have e3 : setO { c with dots := d.dots, timeout := d.timeout } (optW wAt d.attempts) = some d := by
    rw [setO_opt (by decide), put_at]
    have := hd.a1
    have := hd.a2
    rw [show min (max (min d.attempts 30) 1) 5 = d.attempts by omega]
    obtain ⟨a, b, x, y, z⟩ := d
    simp only at h1 h2 ⊢
    rw [h1, h2]
  unfold optsOf
  rw [setOs, e1]
  simp only
  rw [setOs, e2]
  simp only
  rw [setOs, e3]
  rfl
/-- what was told is read as it was -/
theorem pc_print {d : ConfM} (hd : RightC d) : PcR 1 ConfM.dflt ((nl (printC d)).map wordsL) 0 0 d := by
  unfold printC
  rw [nl_lines (linesC_ok hd)]
  unfold linesC
  rw [List.map_append, List.map_append, List.map_map, List.append_assoc, List.append_assoc]
  refine PcR.append (pc_servers d.servers hd.len (by have := hd.srv; show 0 + _ ≤ 3; omega)) ?_ (by decide)
  show PcR _ { ConfM.dflt with servers := d.servers } _ _ _ _
  generalize 1 + _ = n
  by_cases hs : d.search = []
  · rw [if_pos hs]
    exact .line (pc_opts (opts_of hd rfl (by rw [hs]; rfl))) (.line (LnR.blank _) .done)
  · rw [if_neg hs]
    refine .line (pc_search (NmE.same hd.out) hd.sea) (.line (pc_opts (opts_of hd rfl rfl)) (.line (LnR.blank _) .done))

/-! Comments. -/
def repC : List UInt8 → List UInt8
  | [] => []
  | c :: l => (if c = 10 then [32, 35, 32, 120, 32, 121, 10, 9, 32, 10] else [c]) ++ repC l
def inter : List (List (List UInt8)) → List (List (List UInt8))
  | [] => []
  | [x] => [x]
  | x :: y :: t => x :: [] :: inter (y :: t)
theorem repC_append : ∀ a b : List UInt8, repC (a ++ b) = repC a ++ repC b
  | [], b => rfl
  | c :: a, b => by rw [List.cons_append, repC, repC, repC_append a b, List.append_assoc]
theorem repC_len : ∀ a : List UInt8, (repC a).length ≤ 10 * a.length
  | [] => Nat.le_refl _
  | c :: a => by
    have := repC_len a
    rw [repC, List.length_append, List.length_cons]
    split <;> simp only [List.length_cons, List.length_nil] <;> omega
theorem repC_plain : ∀ {a : List UInt8}, (10 : UInt8) ∉ a → repC a = a
  | [], _ => rfl
  | c :: a, h => by
    rw [repC, if_neg (fun e => h (by rw [e]; exact List.mem_cons_self)), repC_plain fun hm => h (List.mem_cons_of_mem _ hm)]; rfl
theorem fw_tail : ∀ (l cur : List UInt8), fw cur (l ++ [32]) = fw cur l
  | [], cur => by
    rw [List.nil_append, fw_space (by decide), fw, fw, if_pos rfl, List.append_nil]
  | c :: l, cur => by
    rw [List.cons_append, fw, fw, fw_tail l, fw_tail l]
theorem told_tail : ∀ (x r : List UInt8), toldL (x ++ 32 :: 35 :: r) = if (35 : UInt8) ∈ x then toldL x else x ++ [32]
  | [], r => by rw [if_neg (by simp)]; rfl
  | c :: x, r => by
    rw [List.cons_append, toldL, toldL, told_tail x r]
    by_cases hc : c = 35
    · rw [if_pos hc, if_pos hc, if_pos (by rw [hc]; exact List.mem_cons_self)]
    · rw [if_neg hc, if_neg hc]
      by_cases hx : (35 : UInt8) ∈ x
      · rw [if_pos hx, if_pos (List.mem_cons_of_mem _ hx)]
      · rw [if_neg hx, if_neg (fun h => by rcases List.mem_cons.1 h with h | h; exact hc h.symm; exact hx h)]; rfl
theorem words_tail (x r : List UInt8) : wordsL (x ++ 32 :: 35 :: r) = wordsL x := by
  unfold wordsL
  rw [told_tail]
  split
  · rfl
  · rename_i h
    rw [fw_tail, toldL_plain h]
/-- a text: its first line, and the rest behind a newline -/
theorem split10 : ∀ s : List UInt8, (10 : UInt8) ∉ s ∨ ∃ a b, s = a ++ 10 :: b ∧ (10 : UInt8) ∉ a
  | [] => .inl (by simp)
  | c :: s => by
    by_cases hc : c = 10
    · exact .inr ⟨[], s, by rw [hc]; rfl, by simp⟩
    · rcases split10 s with h | ⟨a, b, h, ha⟩
      · exact .inl fun hm => by rcases List.mem_cons.1 hm with hm | hm; exact hc hm.symm; exact h hm
      · exact .inr ⟨c :: a, b, by rw [h]; rfl, fun hm => by rcases List.mem_cons.1 hm with hm | hm; exact hc hm.symm; exact ha hm⟩
theorem inter_cons (x : List (List UInt8)) {l : List (List (List UInt8))} (h : l ≠ []) : inter (x :: l) = x :: [] :: inter l := by
  cases l with
  | nil => exact absurd rfl h
  | cons y t => rfl
theorem nl_repC (n : Nat) : ∀ s : List UInt8, s.length ≤ n → (nl (repC s)).map wordsL = inter ((nl s).map wordsL) := by
  induction n with
  | zero =>
    intro s hs
    obtain rfl := List.length_eq_zero_iff.1 (Nat.le_zero.1 hs)
    rfl
  | succ n ih =>
    intro s hs
    rcases split10 s with h | ⟨a, b, rfl, ha⟩
    · rw [repC_plain h, nl_plain h]; rfl
    · rw [List.length_append, List.length_cons] at hs
      have hx : repC (a ++ 10 :: b) = (a ++ [32, 35, 32, 120, 32, 121]) ++ 10 :: ([9, 32] ++ 10 :: repC b) := by
        rw [repC_append, repC_plain ha, repC, if_pos rfl]; simp
      have hna : (10 : UInt8) ∉ a ++ [32, 35, 32, 120, 32, 121] := fun hm => by
        rcases List.mem_append.1 hm with hm | hm
        · exact ha hm
        · revert hm; decide
      rw [hx, nl_append, nl_append, nl_append, nl_plain hna, nl_plain ha, nl_plain (show (10 : UInt8) ∉ [9, 32] by decide), List.map_append, List.map_append, List.map_append, ih b (by omega), List.map_singleton, List.map_singleton, List.map_singleton,
        words_tail a [32, 120, 32, 121], show wordsL [9, 32] = [] by decide +kernel, List.singleton_append, List.singleton_append, List.singleton_append,
        inter_cons _ (fun e => nl_ne b (List.map_eq_nil_iff.1 e))]
theorem pc_inter : ∀ {ls : List (List (List UInt8))} {n f e m g k : Nat} {c d d' : ConfM}, PcR n c ls f e d → PcR m c (inter ls) g k d' → e = k ∧ d = d'
  | [], _, _, _, _, _, _, _, _, _, h, h' => by cases h; cases h'; exact ⟨rfl, rfl⟩
  | [x], n, f, e, m, g, k, c, d, d', h, h' => by
    cases h with
    | line hl h =>
      cases h
      cases h' with
      | line hl2 h2 => cases h2; exact hl.det hl2
      | fault hl2 he2 => exact absurd (hl2.det hl).1 he2
    | fault hl he =>
      cases h' with
      | line hl2 h2 => exact absurd (hl.det hl2).1 he
      | fault hl2 he2 => exact ⟨(hl.det hl2).1, rfl⟩
  | x :: y :: t, n, f, e, m, g, k, c, d, d', h, h' => by
    rw [inter] at h'
    cases h with
    | line hl h =>
      cases h' with
      | line hl2 h2 =>
        have e1 := (hl.det hl2).2
        subst e1
        cases h2 with
        | line hl3 h3 =>
          have e2 := (hl3.det (LnR.blank _)).2
          subst e2
          exact pc_inter h h3
        | fault hl3 he3 => exact absurd (hl3.det (LnR.blank _)).1 he3
      | fault hl2 he2 => exact absurd (hl2.det hl).1 he2
    | fault hl he =>
      cases h' with
      | line hl2 h2 => exact absurd (hl.det hl2).1 he
      | fault hl2 he2 => exact ⟨(hl.det hl2).1, rfl⟩
end Go.Proofs.YtpnlgojbmjfhhaaGreatDoor
