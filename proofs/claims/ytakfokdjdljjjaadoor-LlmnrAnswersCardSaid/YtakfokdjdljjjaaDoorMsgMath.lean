/-
  Plain facts on messages as bytes, no program: how a message is told, how bytes are read, and that what is told is read as it was. No condition.
-/
import Derived.Test.YtakfokdjdljjjaaDoorRight
namespace Go.Proofs.YtakfokdjdljjjaaDoor

def bs (l : List UInt8) : ByteArray := ⟨l.toArray⟩
theorem bs_data (l : List UInt8) : (bs l).data.toList = l := rfl
theorem bs_of (s : ByteArray) : bs s.data.toList = s := rfl
theorem bs_size (l : List UInt8) : (bs l).size = l.length := rfl
/-- may it be a label? -/
def Rt (l : List UInt8) : Bool := rightB (bs l)
/-- may it be a name? -/
def nmOk (s : List UInt8) : Bool := decide (s.length ≤ 253) && decide (low s = s) && (sp s).all Rt

structure Rec where
  nm : List UInt8
  ty : Nat
  ttl : Nat
  ad : List UInt8
  tx : List UInt8
  da : List UInt8
structure Msg where
  id : Nat
  rp : Bool
  tr : Bool
  rc : Bool
  code : Nat
  qn : List UInt8
  qt : Nat
  an : List Rec
  au : List Rec

def zero16 : List UInt8 := List.replicate 16 0
def pre4 : List UInt8 := [0, 0, 0, 0, 0, 0, 0, 0, 0, 0, 255, 255]
def be2 (n : Nat) : List UInt8 := [UInt8.ofNat (n / 256), UInt8.ofNat n]
def num (l : List UInt8) : Nat := l.foldl (fun n c => n * 256 + c.toNat) 0

/-- what is beside a record's name, type and TTL, as its type has it -/
def dataOk (r : Rec) : Bool :=
  if r.ty = 1 then decide (r.ad.take 12 = pre4) && r.tx.isEmpty && r.da.isEmpty
  else if r.ty = 28 then r.tx.isEmpty && r.da.isEmpty
  else if r.ty = 2 ∨ r.ty = 5 ∨ r.ty = 12 then nmOk r.tx && decide (r.ad = zero16) && r.da.isEmpty
  else decide (r.da.length ≤ 255) && decide (r.ad = zero16) && r.tx.isEmpty
def recOk (r : Rec) : Bool := nmOk r.nm && decide (1 ≤ r.ty) && decide (r.ty ≤ 65535) && decide (r.ttl ≤ 1048576) && dataOk r
def msgOk (m : Msg) : Bool := decide (m.id ≤ 65535) && decide (m.code ≤ 15) && nmOk m.qn && decide (1 ≤ m.qt) && decide (m.qt ≤ 65535)
  && (decide (m.an.length ≤ 32) && m.an.all recOk) && (decide (m.au.length ≤ 32) && m.au.all recOk)

/-! how a message is told -/
abbrev St := List UInt8 → Option Nat
def St.put (st : St) (s : List UInt8) (p : Nat) : St := fun t => if t = s then some p else st t
def encN (pos : Nat) (st : St) : List (List UInt8) → List UInt8 × St
  | [] => ([0], st)
  | x :: l => match st (jn (x :: l)) with
    | some p => (be2 (49152 + p), st)
    | none => (UInt8.ofNat x.length :: x ++ (encN (pos + 1 + x.length) (if pos < 16384 then st.put (jn (x :: l)) pos else st) l).1,
        (encN (pos + 1 + x.length) (if pos < 16384 then st.put (jn (x :: l)) pos else st) l).2)
def encQ (pos : Nat) (st : St) (nm : List UInt8) (ty : Nat) : List UInt8 × St := ((encN pos st (sp nm)).1 ++ (be2 ty ++ be2 1), (encN pos st (sp nm)).2)
def encD (pos : Nat) (st : St) (r : Rec) : List UInt8 × St :=
  if r.ty = 1 then (r.ad.drop 12, st) else if r.ty = 28 then (r.ad, st)
  else if r.ty = 2 ∨ r.ty = 5 ∨ r.ty = 12 then encN pos st (sp r.tx) else (r.da, st)
/-- where a record's data begin -/
def posD (pos : Nat) (st : St) (r : Rec) : Nat := pos + (encQ pos st r.nm r.ty).1.length + 6
def encR (pos : Nat) (st : St) (r : Rec) : List UInt8 × St :=
  ((encQ pos st r.nm r.ty).1 ++ (be2 (r.ttl / 65536) ++ be2 r.ttl ++ [0, UInt8.ofNat (encD (posD pos st r) (encQ pos st r.nm r.ty).2 r).1.length] ++ (encD (posD pos st r) (encQ pos st r.nm r.ty).2 r).1),
    (encD (posD pos st r) (encQ pos st r.nm r.ty).2 r).2)
def encRs (pos : Nat) (st : St) : List Rec → List UInt8 × St
  | [] => ([], st)
  | r :: l => ((encR pos st r).1 ++ (encRs (pos + (encR pos st r).1.length) (encR pos st r).2 l).1, (encRs (pos + (encR pos st r).1.length) (encR pos st r).2 l).2)
def bitsN (m : Msg) : Nat := (if m.rp then 32768 else 0) + (if m.tr then 512 else 0) + (if m.rc then 256 else 0) + m.code
def headB (m : Msg) : List UInt8 := be2 m.id ++ be2 (bitsN m) ++ be2 1 ++ be2 m.an.length ++ be2 m.au.length ++ be2 0
def encA (m : Msg) : List UInt8 × St := encQ 12 (fun _ => none) m.qn m.qt
def encB (m : Msg) : List UInt8 × St := encRs (12 + (encA m).1.length) (encA m).2 m.an
def encC (m : Msg) : List UInt8 × St := encRs (12 + (encA m).1.length + (encB m).1.length) (encB m).2 m.au
def enc (m : Msg) : List UInt8 := headB m ++ ((encA m).1 ++ ((encB m).1 ++ (encC m).1))

/-! how bytes are read -/
structure NS where
  at_ : Nat
  acc : List (List UInt8)
  sg : Nat
  td : Nat
  bh : Nat
def cutB (b : List UInt8) (p n : Nat) : List UInt8 := (b.drop p).take n
def nstep (b : List UInt8) (x : NS) : Option (List UInt8 × Nat) ⊕ NS :=
  match b[x.at_]? with
  | none => .inl none
  | some c =>
    if c.toNat = 0 then .inl (some (jn x.acc, if x.td = 0 then x.at_ + 1 else x.bh))
    else if c.toNat ≤ 63 then
      if x.at_ + 1 + c.toNat ≤ b.length ∧ Rt (low (cutB b (x.at_ + 1) c.toNat)) = true ∧ x.sg + c.toNat + 1 ≤ 254 then
        .inr ⟨x.at_ + 1 + c.toNat, x.acc ++ [low (cutB b (x.at_ + 1) c.toNat)], x.sg + c.toNat + 1, x.td, x.bh⟩
      else .inl none
    else if 192 ≤ c.toNat then
      match b[x.at_ + 1]? with
      | none => .inl none
      | some d =>
        if x.td + 1 ≤ 16 ∧ (c.toNat - 192) * 256 + d.toNat < x.at_ then .inr ⟨(c.toNat - 192) * 256 + d.toNat, x.acc, x.sg, x.td + 1, if x.td = 0 then x.at_ + 2 else x.bh⟩
        else .inl none
    else .inl none
inductive NRun (b : List UInt8) : NS → Option (List UInt8 × Nat) → Prop
  | done {x : NS} {r} (h : nstep b x = .inl r) : NRun b x r
  | next {x y : NS} {r} (h : nstep b x = .inr y) (g : NRun b y r) : NRun b x r
theorem NRun.det {b : List UInt8} {x : NS} {r s : Option (List UInt8 × Nat)} (h : NRun b x r) (g : NRun b x s) : r = s := by
  induction h with
  | done h =>
    cases g with
    | done g => rw [h] at g; exact Sum.inl.inj g
    | next g _ => rw [h] at g; cases g
  | next h _ ih =>
    cases g with
    | done g => rw [h] at g; cases g
    | next g gg =>
      rw [h] at g
      have := Sum.inr.inj g
      subst this
      exact ih gg
open Classical in
noncomputable def nameF (b : List UInt8) (p : Nat) : Option (List UInt8 × Nat) := if h : ∃ r, NRun b ⟨p, [], 0, 0, 0⟩ r then h.choose else none
theorem nameF_eq {b : List UInt8} {p : Nat} {r : Option (List UInt8 × Nat)} (h : NRun b ⟨p, [], 0, 0, 0⟩ r) : nameF b p = r := by
  unfold nameF
  rw [dif_pos ⟨r, h⟩]
  exact (Exists.choose_spec (⟨r, h⟩ : ∃ r, NRun b ⟨p, [], 0, 0, 0⟩ r)).det h
def nrunF (b : List UInt8) : Nat → NS → Option (Option (List UInt8 × Nat))
  | 0, _ => none
  | n + 1, x => match nstep b x with
    | .inl r => some r
    | .inr y => nrunF b n y
theorem nrunF_run {b : List UInt8} {n : Nat} {x : NS} {r : Option (List UInt8 × Nat)} (h : nrunF b n x = some r) : NRun b x r := by
  induction n generalizing x with
  | zero => cases h
  | succ n ih =>
    unfold nrunF at h
    cases hs : nstep b x with
    | inl q => rw [hs] at h; cases h; exact .done hs
    | inr y => rw [hs] at h; exact .next hs (ih h)

def numF (b : List UInt8) (p k : Nat) : Option (Nat × Nat) := if p + k ≤ b.length then some (num (cutB b p k), p + k) else none
noncomputable def qF (b : List UInt8) (p : Nat) : Option ((List UInt8 × Nat) × Nat) :=
  (nameF b p).bind fun n => (numF b n.2 2).bind fun t => (numF b t.2 2).bind fun c => if c.1 = 1 then some ((n.1, t.1), c.2) else none
def withD (nm : List UInt8) (ty ttl : Nat) (d : List UInt8) : Rec :=
  if ty = 1 ∧ d.length = 4 then ⟨nm, ty, ttl, pre4 ++ d, [], []⟩ else if ty = 28 ∧ d.length = 16 then ⟨nm, ty, ttl, d, [], []⟩ else ⟨nm, ty, ttl, zero16, [], d⟩
noncomputable def recF (b : List UInt8) (p : Nat) : Option (Rec × Nat) :=
  (qF b p).bind fun q => (numF b q.2 4).bind fun t => (numF b t.2 2).bind fun z =>
    if q.1.2 = 2 ∨ q.1.2 = 5 ∨ q.1.2 = 12 then (nameF b z.2).bind fun x => if x.2 = z.2 + z.1 then some (⟨q.1.1, q.1.2, min t.1 1048576, zero16, x.1, []⟩, x.2) else none
    else if z.2 + z.1 ≤ b.length then some (withD q.1.1 q.1.2 (min t.1 1048576) (cutB b z.2 z.1), z.2 + z.1) else none
noncomputable def recsF (b : List UInt8) : Nat → Nat → Option (List Rec × Nat)
  | p, 0 => some ([], p)
  | p, n + 1 => (recF b p).bind fun r => (recsF b r.2 n).bind fun l => some (r.1 :: l.1, l.2)
def bit (n k : Nat) : Bool := decide (n / k % 2 = 1)
def hd (b : List UInt8) (i : Nat) : Nat := num (cutB b (2 * i) 2)
noncomputable def decF (b : List UInt8) : Option Msg :=
  if b.length < 12 ∨ hd b 1 / 2048 % 16 ≠ 0 ∨ hd b 2 ≠ 1 ∨ 32 < hd b 3 ∨ 32 < hd b 4 then none
  else (qF b 12).bind fun q => (recsF b q.2 (hd b 3 + hd b 4)).bind fun l =>
    if msgOk ⟨hd b 0, bit (hd b 1) 32768, bit (hd b 1) 512, bit (hd b 1) 256, hd b 1 % 16, q.1.1, q.1.2, l.1.take (hd b 3), l.1.drop (hd b 3)⟩
    then some ⟨hd b 0, bit (hd b 1) 32768, bit (hd b 1) 512, bit (hd b 1) 256, hd b 1 % 16, q.1.1, q.1.2, l.1.take (hd b 3), l.1.drop (hd b 3)⟩ else none
end Go.Proofs.YtakfokdjdljjjaaDoor
