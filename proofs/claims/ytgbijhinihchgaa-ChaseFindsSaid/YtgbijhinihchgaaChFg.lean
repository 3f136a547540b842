/-
  Two findings of one statement, as they are made and stored; records held against one another in a region that draws; what messages of seeds say of other names. Conditions: each states its own.
-/
import Derived.Test.YtgbijhinihchgaaChEq
namespace Go.Proofs.Ytgbijhinihchgaa
open Go.RowKit

section
variable {P : Program} {ops : Array Oper} {o : Oper} {a : Act}
theorem yieldsIf_build {S : World → Prop} (hw : Region.wanted o (yielded ops a.tmps) = true) (t : TypeId) (parts : Array (Nat × Operand)) (ho : o.op = .build t parts) (vals : List (Nat × Value)) (cs : Array Value)
    (hv : (parts.toList.map fun (i, x) => (i, a.eval x)) = vals) (hf : P.built t vals = some cs) : YieldsIf P ops S o (.agg cs) a :=
  .inl ⟨hw, fun w _ => by
    rw [← hv, ← Array.toList_map] at hf
    unfold execOp
    simp only [ho, Sem.run_bind, run_build w t _ cs hf, Result.andThen_ok, Sem.run_pure]⟩
theorem yieldsIf_neq {S : World → Prop} (hw : Region.wanted o (yielded ops a.tmps) = true) (t : TypeId) (x y : Operand) (s : TypeId) (ho : o.op = .binOp .neq t x y s) (xs ys : Array Value) (b : Bool) (hx : a.eval x = .agg xs) (hy : a.eval y = .agg ys)
    (hm : P.eqGuardType P.depth t = false) (hr : ∀ w, S w → (Op.equalIn 10000 t (.agg xs) (.agg ys)).run P w = .ok b w) : YieldsIf P ops S o (.bool (!b)) a :=
  .inl ⟨hw, fun w hS => by
    have h1 := run_eqGuard_agg (P := P) w .neq t x y xs ys hm
    have h2 := run_neq_struct (P := P) w t xs ys
    rw [hr w hS] at h2
    unfold execOp
    simp only [ho, hx, hy, Sem.run_bind, h1, h2, Result.andThen_ok, Sem.run_pure]⟩
theorem yieldsIf_eql {S : World → Prop} (hw : Region.wanted o (yielded ops a.tmps) = true) (t : TypeId) (x y : Operand) (s : TypeId) (ho : o.op = .binOp .eql t x y s) (xs ys : Array Value) (b : Bool) (hx : a.eval x = .agg xs) (hy : a.eval y = .agg ys)
    (hm : P.eqGuardType P.depth t = false) (hr : ∀ w, S w → (Op.equalIn 10000 t (.agg xs) (.agg ys)).run P w = .ok b w) : YieldsIf P ops S o (.bool b) a :=
  .inl ⟨hw, fun w hS => by
    have h1 := run_eqGuard_agg (P := P) w .eql t x y xs ys hm
    have h2 := run_eql_struct (P := P) w t xs ys
    rw [hr w hS] at h2
    unfold execOp
    simp only [ho, hx, hy, Sem.run_bind, h1, h2, Result.andThen_ok, Sem.run_pure]⟩
end
def zF : Array Value := FC 0 (.slice none 0 0) ⟨#[]⟩ 0
/-- what is made while two findings are asked for -/
structure FgAt (rs : List RV) (W0 u : World) (pa pb : Option Nat) (pr : Option (Option Addr)) : Prop where
  below : Below W0.heap.size W0 u
  a : ∀ g, pa = some g → u.heap[g]? = some (.cells zF 35 (0, 0)) ∧ W0.heap.size ≤ g
  b : ∀ g, pb = some g → u.heap[g]? = some (.cells zF 35 (0, 0)) ∧ W0.heap.size ≤ g
  ne : ∀ g h, pa = some g → pb = some h → g ≠ h
  r : ∀ A, pr = some A → RecsAt u A rs
section
variable {rs : List RV} {W0 u u' : World} {a b : Option Nat} {r : Option (Option Addr)}
theorem FgAt.to (h : FgAt rs W0 u a b r) (hb : Below u.heap.size u u') : FgAt rs W0 u' a b r :=
  ⟨h.below.trans (hb.mono h.below.size), fun g hg => ⟨(hb.block g (heap_lt (h.a g hg).1)).trans (h.a g hg).1, (h.a g hg).2⟩, fun g hg => ⟨(hb.block g (heap_lt (h.b g hg).1)).trans (h.b g hg).1, (h.b g hg).2⟩, h.ne, fun x hx => (h.r x hx).below hb⟩
theorem FgAt.withA (h : FgAt rs W0 u none b r) : FgAt rs W0 (u.alloc (.cells zF 35)) (some u.heap.size) b r := by
  have h2 := h.to ((Below.refl _ u).alloc (Nat.le_refl _) (.cells zF 35))
  refine ⟨h2.below, fun g hg => ?_, h2.b, fun g k hg hk => ?_, h2.r⟩
  · injection hg with hg
    subst hg
    exact ⟨heap_alloc_last u _, h.below.size⟩
  · injection hg with hg
    have := heap_lt (h.b k hk).1
    omega
theorem FgAt.withB (h : FgAt rs W0 u a none r) : FgAt rs W0 (u.alloc (.cells zF 35)) a (some u.heap.size) r := by
  have h2 := h.to ((Below.refl _ u).alloc (Nat.le_refl _) (.cells zF 35))
  refine ⟨h2.below, h2.a, fun g hg => ?_, fun g k hg hk => ?_, h2.r⟩
  · injection hg with hg
    subst hg
    exact ⟨heap_alloc_last u _, h.below.size⟩
  · injection hk with hk
    have := heap_lt (h.a g hg).1
    omega
theorem FgAt.withR {A : Option Addr} (h : FgAt rs W0 u a b none) (hl : RecsAt u A rs) : FgAt rs W0 u a b (some A) :=
  ⟨h.below, h.a, h.b, h.ne, fun y hy => by injection hy with hy; subst hy; exact hl⟩
/-- the first is stored -/
structure FgOne (rs : List RV) (W0 u : World) (g h : Nat) (C : Array Value) (A : Option Addr) : Prop where
  below : Below W0.heap.size W0 u
  f : u.heap[g]? = some (.cells C 35 (0, 0))
  b : u.heap[h]? = some (.cells zF 35 (0, 0))
  hb : W0.heap.size ≤ h
  ne : g ≠ h
  r : RecsAt u A rs
theorem FgAt.one {g h : Nat} {A : Option Addr} {C : Array Value} (x : FgAt rs W0 u (some g) (some h) (some A)) (hg : u'.heap[g]? = some (.cells C 35 (0, 0))) (hw : u.grownBy u' (some g)) : FgOne rs W0 u' g h C A :=
  ⟨x.below.grown hw x.below.size (fun k e => by injection e with e; have := (x.a g rfl).2; omega), hg,
   (hw.block h (heap_lt (x.b h rfl).1) (fun e => by injection e with e; exact x.ne g h rfl rfl e.symm)).trans (x.b h rfl).1, (x.b h rfl).2, x.ne g h rfl rfl, recs_past (x := zF) (x.r A rfl) (x.a g rfl).1 hw⟩
/-- both are stored -/
structure FgFin (rs : List RV) (W0 u : World) (g h : Nat) (C D : Array Value) (A : Option Addr) : Prop where
  below : Below W0.heap.size W0 u
  f : u.heap[g]? = some (.cells C 35 (0, 0))
  s : u.heap[h]? = some (.cells D 35 (0, 0))
  r : RecsAt u A rs
theorem FgOne.fin {g h : Nat} {A : Option Addr} {C D : Array Value} (x : FgOne rs W0 u g h C A) (hg : u'.heap[h]? = some (.cells D 35 (0, 0))) (hw : u.grownBy u' (some h)) : FgFin rs W0 u' g h C D A :=
  ⟨x.below.grown hw x.below.size (fun k e => by injection e with e; have := x.hb; omega), (hw.block g (heap_lt x.f) (fun e => by injection e with e; exact x.ne e)).trans x.f, hg, recs_past (x := zF) x.r x.b hw⟩
end
theorem kin_nil {l : List RV} {S : ByteArray} (ty : Int) (h : ∀ r ∈ l, (r.nm.toList == S.toList) = false) : kin l S ty = [] := by
  unfold kin
  rw [List.filter_eq_nil_iff]
  intro r hr
  rw [h r hr]; simp
/-- where no answer has the name: nothing is told -/
theorem of_noname {code : Int} {S : ByteArray} {qt : Int} {an au : List RV} (h : ∀ r ∈ an, (r.nm.toList == S.toList) = false) : ofF code S qt an au = if code ≠ 0 ∧ code ≠ 3 then ⟨4, [], ⟨#[]⟩, 0⟩ else nothF code au := by
  unfold ofF
  rw [chF_end (n := 7) (by rw [kin_nil _ h]; rfl) (by rw [kin_nil _ h]; rfl)]
  simp
/-- where just the first answer has the name -/
theorem of_first {code : Int} {S : ByteArray} {qt : Int} {r : RV} {an au : List RV} (h : ∀ x ∈ an, (x.nm.toList == S.toList) = false) (hn : (r.nm.toList == S.toList) = true) (ht : r.ty = qt) : ofF code S qt (r :: an) au = if code ≠ 0 ∧ code ≠ 3 then ⟨4, [], ⟨#[]⟩, 0⟩ else ⟨1, [r], ⟨#[]⟩, r.ttl⟩ := by
  have hk : kin (r :: an) S qt = [r] := by
    have := kin_nil qt h
    unfold kin at this ⊢
    rw [List.filter_cons, hn, ht, this]
    simp
  unfold ofF
  rw [chF_hit (n := 7) (by rw [hk]; exact Nat.zero_lt_one), hk]
  simp [lstI, lsm]
def nmOwn : ByteArray := ⟨#[111, 119, 110]⟩
theorem pl_own : ∀ i : Fin 8, ((plN i.val) == [111, 119, 110]) = false := by decide +kernel
theorem srV_nm (S S2 : ByteArray) (T : Nat) (ad : List UInt8) (da : ByteArray) (j : Nat) : (srV S S2 T ad da j).nm = S := by
  unfold srV
  split <;> rfl
theorem seedR_own (s : SV) : ((seedR s).nm.toList == nmOwn.toList) = false := by
  unfold seedR
  rw [srV_nm, Lib.toList_data, Lib.toList_data]
  exact pl_own ⟨bN s.n 7, by have := (bN_e s.n 7 (by omega)).2; omega⟩
theorem an_own (l : List SV) : ∀ r ∈ anL l, (r.nm.toList == nmOwn.toList) = false := fun r hr => by
  unfold anL at hr
  obtain ⟨h1, _⟩ := List.mem_filter.1 hr
  obtain ⟨s, _, rfl⟩ := List.mem_map.1 h1
  exact seedR_own s
theorem codeN_is (n : Nat) : codeN n = 0 ∨ codeN n = 3 ∨ codeN n = 2 := by
  unfold codeN
  rcases n with _ | _ | _ | _ | n <;> simp
end Go.Proofs.Ytgbijhinihchgaa
