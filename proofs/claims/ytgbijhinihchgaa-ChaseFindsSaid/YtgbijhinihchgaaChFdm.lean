/-
  Where the names lead, told by hand and told by Of, are the same. Condition: no TTL is above the greatest one.
-/
import Derived.Test.YtgbijhinihchgaaChFind
namespace Go.Proofs.Ytgbijhinihchgaa
open Go.RowKit

theorem find_congr {p q : RV → Bool} : ∀ {l : List RV}, (∀ r ∈ l, p r = q r) → l.find? p = l.find? q
  | [], _ => rfl
  | x :: l, h => by
    rw [List.find?_cons, List.find?_cons, h x List.mem_cons_self, find_congr (l := l) (fun r hr => h r (List.mem_cons_of_mem _ hr))]
theorem kin_cn {an : List RV} {S : ByteArray} {qt : Int} (h : (kin an S qt).length = 0) : an.find? (cnP S qt) = (kin an S 5).head? := by
  have h0 : kin an S qt = [] := List.length_eq_zero_iff.1 h
  unfold kin at h0 ⊢
  rw [List.head?_filter]
  rw [List.filter_eq_nil_iff] at h0
  refine find_congr fun r hr => ?_
  have := h0 r hr
  unfold cnP
  cases hn : (r.nm.toList == S.toList) with
  | false => rfl
  | true =>
    rw [hn] at this
    simp only [Bool.true_and, Bool.not_eq_true] at this
    have hne : (r.ty != qt) = true := by rw [bne, this]; rfl
    rw [hne]; simp
theorem fd_ch (an : List RV) (qt : Int) : ∀ (n : Nat) (nm : ByteArray) (way : List RV), fdF an qt n nm (lsm 1048576 way) = match chF an qt n nm way with
    | (nm', way', some l) => (nm', l, lsm 1048576 way', true)
    | (nm', way', none) => (nm', [], lsm 1048576 way', false)
  | 0, nm, way => rfl
  | n + 1, nm, way => by
    rcases Nat.eq_zero_or_pos (kin an nm qt).length with h | h
    · have hc := kin_cn h
      rcases hk : kin an nm 5 with _ | ⟨r, t⟩
      · rw [fdF_end h (by rw [hc, hk]; rfl), chF_end h (by rw [hk]; rfl)]
      · rw [fdF_on h (r := r) (by rw [hc, hk]; rfl), chF_on h (r := r) (by rw [hk]; rfl), ← lsm_snoc]
        exact fd_ch an qt n _ _
    · rw [fdF_hit h, chF_hit h]
theorem chF_mem (an : List RV) (qt : Int) : ∀ (n : Nat) (nm : ByteArray) (way : List RV), (∀ r ∈ way, r ∈ an) → (∀ r ∈ (chF an qt n nm way).2.1, r ∈ an) ∧ ∀ l, (chF an qt n nm way).2.2 = some l → (∀ r ∈ l, r ∈ an) ∧ l.length ≤ an.length
  | 0, nm, way, h => ⟨h, fun l e => by cases e⟩
  | n + 1, nm, way, hw => by
    rcases Nat.eq_zero_or_pos (kin an nm qt).length with h | h
    · rcases hk : kin an nm 5 with _ | ⟨r, t⟩
      · rw [chF_end h (by rw [hk]; rfl)]
        exact ⟨hw, fun l e => by cases e⟩
      · rw [chF_on h (r := r) (by rw [hk]; rfl)]
        refine chF_mem an qt n _ _ (fun x hx => ?_)
        rcases List.mem_append.1 hx with hx | hx
        · exact hw x hx
        · rw [List.mem_singleton.1 hx]
          exact (kin_mem (S := nm) (ty := 5) (by rw [hk]; exact List.mem_cons_self)).1
    · rw [chF_hit h]
      exact ⟨hw, fun l e => by injection e with e; subst e; exact ⟨fun r hr => (kin_mem hr).1, kin_len _ _ _⟩⟩
theorem lsm_min : ∀ (l : List RV) (a b : Int), lsm (min a b) l = min a (lsm b l)
  | [], a, b => rfl
  | x :: l, a, b => by
    show lsm (min (min a b) x.ttl) l = min a (lsm (min b x.ttl) l)
    rw [Int.min_assoc, lsm_min l a (min b x.ttl)]
theorem lsm_app (a : Int) (l1 l2 : List RV) : lsm a (l1 ++ l2) = lsm (lsm a l1) l2 := by unfold lsm; rw [List.foldl_append]
theorem lsm_le (l : List RV) (a : Int) : lsm a l ≤ a := by
  have h := lsm_min l a a
  rw [Int.min_self] at h
  rw [h]; exact Int.min_le_left _ _
theorem lstI_lsm {l : List RV} (h : ∀ r ∈ l, r.ttl ≤ 1048576) : lstI l = lsm 1048576 l := by
  rcases l with _ | ⟨x, l⟩
  · rfl
  · show lsm x.ttl l = lsm (min 1048576 x.ttl) l
    rw [Int.min_eq_right (h x List.mem_cons_self)]
theorem lstI_app {l1 l2 : List RV} (h1 : ∀ r ∈ l1, r.ttl ≤ 1048576) (h2 : ∀ r ∈ l2, r.ttl ≤ 1048576) : lstI (l1 ++ l2) = min (lsm 1048576 l1) (lstI l2) := by
  rw [lstI_lsm (fun r hr => by rcases List.mem_append.1 hr with h | h; exact h1 r h; exact h2 r h), lsm_app, lstI_lsm h2]
  have h := lsm_min l2 (lsm 1048576 l1) 1048576
  rw [Int.min_eq_left (lsm_le l1 1048576)] at h
  exact h
/-- what Of answers, by what is told by hand -/
theorem of_fd {code qt : Int} {qn : ByteArray} {an au : List RV} (hc : code = 0 ∨ code = 3) (ht : ∀ r ∈ an, r.ttl ≤ 1048576) : ∃ nm rs le ok, fdF an qt 8 qn 1048576 = (nm, rs, le, ok) ∧ (∀ r ∈ rs, r ∈ an) ∧ rs.length ≤ an.length ∧
    ((ok = true ∧ ofF code qn qt an au = ⟨1, rs, ⟨#[]⟩, min le (lstI rs)⟩) ∨ (ok = false ∧ rs = [] ∧ ofF code qn qt an au = if (nm.toList == qn.toList) = false ∧ code = 0 then ⟨0, [], nm, le⟩ else nothF code au)) := by
  have hcn : ¬ (code ≠ 0 ∧ code ≠ 3) := by omega
  have h1 := fd_ch an qt 8 qn []
  have h2 := chF_mem an qt 8 qn [] (fun r hr => by cases hr)
  have h1 : fdF an qt 8 qn 1048576 = match chF an qt 8 qn [] with
    | (nm', way', some l) => (nm', l, lsm 1048576 way', true)
    | (nm', way', none) => (nm', [], lsm 1048576 way', false) := h1
  unfold ofF
  rw [if_neg hcn]
  rcases hch : chF an qt 8 qn [] with ⟨nm, way, _ | l⟩
  · rw [hch] at h1 h2
    refine ⟨nm, [], lsm 1048576 way, false, h1, (fun r hr => by cases hr), Nat.zero_le _, .inr ⟨rfl, rfl, ?_⟩⟩
    simp only
    rw [lstI_lsm (fun r hr => ht r (h2.1 r hr))]
  · rw [hch] at h1 h2
    obtain ⟨h3, h4⟩ := h2.2 l rfl
    refine ⟨nm, l, lsm 1048576 way, true, h1, h3, h4, .inl ⟨rfl, ?_⟩⟩
    simp only
    rw [lstI_app (fun r hr => ht r (h2.1 r hr)) (fun r hr => ht r (h3 r hr))]
theorem srV_ttl (S S2 : ByteArray) (T : Nat) (ad : List UInt8) (da : ByteArray) (j : Nat) : (srV S S2 T ad da j).ttl = (T : Int) := by
  unfold srV
  split <;> rfl
theorem anL_ttl (l : List SV) : ∀ r ∈ anL l, r.ttl ≤ 1048576 := fun r hr => by
  unfold anL at hr
  obtain ⟨h1, _⟩ := List.mem_filter.1 hr
  obtain ⟨s, _, rfl⟩ := List.mem_map.1 h1
  unfold seedR
  rw [srV_ttl]
  have := (bN_e s.t 65535 (by omega)).2
  omega
/-- the first SOA from a place on -/
theorem soaT_drop {l : List RV} {j : Nat} {r : RV} (h : l[j]? = some r) : soaT (l.drop j) = if soaB r then r.ttl else soaT (l.drop (j + 1)) := by
  obtain ⟨hj, he⟩ := List.getElem?_eq_some_iff.1 h
  rw [List.drop_eq_getElem_cons hj, he]
  unfold soaT
  rw [List.find?_cons]
  cases soaB r <;> rfl
end Go.Proofs.Ytgbijhinihchgaa
