/-
  Inserts into a map of the call's own with keys that are texts and numbers for elements, as steps of a walk; the seven entries of LinkLongest's map. Conditions: each states its own.
-/
import Derived.Test.YtnjcbkolniemnaaDoorLinkShort
import Derived.Maps.RangeWalk
import Derived.WideMake
namespace Go.Proofs.YtnjcbkolniemnaaDoor
open Go.RowKit Go.Maps

/-- the map that the walk holds -/
abbrev OwnsS (w : World) (b n : Nat) (D : DataW Unit) : Prop := w.ownsMap Tryd.prog 9 (plainElem Tryd.prog 3) b n D
abbrev RangesS (w : World) (b r n : Nat) (D : DataW Unit) (left : Lit → Bool) (cnt : Nat) : Prop := w.ranges Tryd.prog 9 (plainElem Tryd.prog 3) b r n D left cnt
theorem lawS : Maps.Keyed Tryd.prog 9 := string_keyed Tryd.underlying9
theorem keyS_mk {s : ByteArray} (h : s.size ≤ maxLen) : keyOf Tryd.prog 9 (.string s) = some (.string s.data.toList) := by
  simp [keyOf, Tryd.underlying9, mapKey, h]
theorem keyS_inv {key : Value} {kl : Lit} (h : keyOf Tryd.prog 9 key = some kl) : ∃ s : ByteArray, key = .string s ∧ kl = .string s.data.toList := by
  cases key <;> simp [keyOf, Tryd.underlying9, mapKey] at h
  rename_i s
  obtain ⟨_, rfl⟩ := h
  exact ⟨s, rfl, rfl⟩
theorem wpList_insS {ops : Array Oper} {rest : List Oper} {o : Oper} {a : Act} {Q : Exit → Act → World → Prop} {w : World} (hgd : o.guard = none) (m x v : Operand) (hop : o.op = .insert 43 m x v) (b n : Nat) (D : DataW Unit) (s : ByteArray) (z : Int)
    (hm : a.eval m = .map (some b)) (hx : a.eval x = .string s) (hv : a.eval v = .int .i64 z) (hs : s.size ≤ maxLen) (hz : (Lit.int .i64 z).wf = true) (hn : n < maxLen) (hown : OwnsS w b n D)
    (hK : ∀ w', OwnsS w' b (n + 1) (D.put (.string s.data.toList) (.lit (.int .i64 z))) → Below b w w' → wpList Tryd.prog ops Q rest (a.put o.dst undef) w') : wpList Tryd.prog ops Q (o :: rest) a w := by
  refine wpList_plain hgd fun K' hK' => ?_
  obtain ⟨w', hrun, r1, r2⟩ := hown.update lawS Tryd.underlying43 hn (keyS_mk hs) (plainElem_int Tryd.underlying3 hz)
  have hk := hK' _ _ (hK w' r1 ⟨r2.os, r2.tape, r2.output, r2.size, fun i hi => r2.block i (Nat.lt_trans hi hown.lt) (fun e => by injection e with e; omega)⟩)
  unfold Oper.wp execOp
  simp [hop, hm, hx, hv, hrun, Result.andThen]
  first
    | exact hk
    | (unfold Oper.upon; exact hk)
    | (simp only [Oper.upon]; exact hk)
theorem wpList_rangeS {ops : Array Oper} {rest : List Oper} {o : Oper} {a : Act} {Q : Exit → Act → World → Prop} {w : World} (hgd : o.guard = none) (m : Operand) (hop : o.op = .range 43 m) (b n : Nat) (D : DataW Unit)
    (hm : a.eval m = .map (some b)) (hown : OwnsS w b n D)
    (hK : ∀ w', RangesS w' b w.heap.size n D (Maps.has D) (Maps.size D) → Below w.heap.size w w' → wpList Tryd.prog ops Q rest (a.put o.dst (.pointer (some ⟨w.heap.size, 0, none⟩))) w') :
    wpList Tryd.prog ops Q (o :: rest) a w :=
  wpList_range_own w hgd m 43 hop 9 3 lawS Tryd.underlying43 _ b n D hm hown fun w' h1 h2 _ => hK w' h1 ⟨h2.os, h2.tape, h2.output, h2.size, fun i hi => h2.block i hi (by simp)⟩
theorem wpList_nextS {ops : Array Oper} {rest : List Oper} {o : Oper} {a : Act} {Q : Exit → Act → World → Prop} {w : World} (hgd : o.guard = none) (it : Operand) (hop : o.op = Op.next it false) (b r n : Nat) (D : DataW Unit) (left : Lit → Bool) (cnt : Nat)
    (hit : a.eval it = .pointer (some ⟨r, 0, none⟩)) (h : RangesS w b r n D left cnt)
    (hDone : wpList Tryd.prog ops Q rest (a.put o.dst (.tuple #[.bool false])) w)
    (hMore : ∀ (s : ByteArray) (c : Int) (w' : World) (cnt' : Nat), left (.string s.data.toList) = true → (∀ zd, D.atKey (.string s.data.toList) zd = .lit (.int .i64 c)) → RangesS w' b r n D (fun z => left z && !z.sameKey (.string s.data.toList)) cnt' → cnt' < cnt →
      Below r w w' → (Instr.entry (.pointer (some ⟨r, 0, none⟩))).run Tryd.prog w' = .ok (.tuple #[.string s, .int .i64 c]) w' → wpList Tryd.prog ops Q rest (a.put o.dst (.tuple #[.bool true, .string s, .int .i64 c])) w') :
    wpList Tryd.prog ops Q (o :: rest) a w :=
  wpList_next_ranges w hgd it hop 9 lawS _ Value.string (Value.int .i64) (fun key kl hk => by obtain ⟨s, hs, _⟩ := keyS_inv hk; exact ⟨s, hs⟩) (fun v y hv => by obtain ⟨c, rfl, _⟩ := plainElem_int_inv Tryd.underlying3 hv; exact ⟨c, rfl⟩)
    b r n D left cnt hit h (fun _ _ => hDone) (fun s c kl y w' cnt' hkey hlk hv hat hrg hlt hgr hsz hen => by
      obtain ⟨s', es, rfl⟩ := keyS_inv hkey
      injection es with es
      subst es
      obtain ⟨c', ec, rfl, _⟩ := plainElem_int_inv Tryd.underlying3 hv
      injection ec with _ ec
      subst ec
      exact hMore s c w' cnt' hlk hat hrg hlt ⟨hgr.os, hgr.tape, hgr.output, hgr.size, fun i hi => hgr.block i (Nat.lt_trans hi h.lt) (fun e => by injection e with e; omega)⟩ hen)
/-- LinkLongest's seven names, and the number of each one's domain -/
def sevenL : List (List UInt8 × Int) := [([97, 46, 98, 46, 110, 101, 116], 3), ([110, 101, 116], 1), ([120], 0), ([120, 46, 98, 46, 110, 101, 116], 2), ([120, 46, 110, 101, 116], 1), ([120, 98, 46, 110, 101, 116], 1), ([121, 46, 97, 46, 98, 46, 110, 101, 116], 3)]
def sevenD : DataW Unit := .map (sevenL.map fun p => (.string p.1, .lit (.int .i64 p.2)))
theorem sevenD_eq : (((((((DataW.map [] : DataW Unit).put (.string [120]) (.lit (.int .i64 0))).put (.string [120, 46, 110, 101, 116]) (.lit (.int .i64 1))).put (.string [110, 101, 116]) (.lit (.int .i64 1))).put (.string [120, 46, 98, 46, 110, 101, 116]) (.lit (.int .i64 2))).put (.string [97, 46, 98, 46, 110, 101, 116]) (.lit (.int .i64 3))).put (.string [121, 46, 97, 46, 98, 46, 110, 101, 116]) (.lit (.int .i64 3))).put (.string [120, 98, 46, 110, 101, 116]) (.lit (.int .i64 1)) = sevenD := by rfl
theorem seven_at {s : List UInt8} {c : Int} (h : Maps.has sevenD (.string s) = true) (ha : ∀ zd, sevenD.atKey (.string s) zd = .lit (.int .i64 c)) : (s, c) ∈ sevenL := by
  unfold sevenD at h ha
  rw [Maps.has_eq, List.any_map] at h
  replace ha := ha .nil
  unfold DataW.atKey at ha
  dsimp only at ha
  rw [List.find?_map] at ha
  obtain ⟨p, hp, hs⟩ := List.any_eq_true.1 h
  cases hf : sevenL.find? ((fun p : Lit × DataW Unit => p.1.sameKey (.string s)) ∘ fun p : List UInt8 × Int => (Lit.string p.1, DataW.lit (.int .i64 p.2))) with
  | none => exact absurd hs (by have := List.find?_eq_none.1 hf p hp; exact this)
  | some q =>
    rw [hf] at ha
    have h1 := List.find?_some hf
    have h2 := List.mem_of_find?_eq_some hf
    simp [Lit.sameKey] at h1 ha
    obtain ⟨q1, q2⟩ := q
    dsimp only at h1 ha
    obtain rfl := h1
    obtain rfl := ha
    exact h2
end Go.Proofs.YtnjcbkolniemnaaDoor
