/-
  The walk of puny.Decode: the runes whose Punycode a text is, or that there are none. Conditions: none for a text of at most 63 bytes; a longer one is none of a fit length.
-/
import Derived.Test.YtclfmokdjmnjcaaGreatDoorPunyParts
namespace Go.Proofs.YtclfmokdjmnjcaaGreatDoor
open Go.RowKit

/-- how Decode's loop stands: what is left leads on just where the whole led from the start -/
structure DecAt (base : Nat) (w wq : World) (bs ds : List UInt8) (v : Value) (t : ByteArray) (n a p b : Nat) : Prop where
  row : ∃ cur : List Nat, cur.length = n ∧ wq.ownsRow base 21 1 v n (rvs cur) ∧ ∀ l, Dec bs.length cur a p b (t.data.toList.map dg) l ↔ Dec bs.length (bs.map (·.toNat)) 128 0 72 (ds.map dg) l
  below : Below base w wq
  tail : ∃ us, ds = us ++ t.data.toList ∧ ∀ c ∈ us, dg c < 36
  pn : p ≤ n
  len : n + t.size ≤ 63
  ab : a ≤ 1114111
  bb : b ≤ 10000000000
theorem DecAt.start {base : Nat} {w wq : World} {bs ds : List UInt8} {v : Value} {t : ByteArray} (h : wq.ownsRow base 21 1 v bs.length (rvs (bs.map (·.toNat)))) (hb : Below base w wq) (ht : t.data.toList = ds) (hl : bs.length + ds.length ≤ 63) :
    DecAt base w wq bs ds v t bs.length 128 0 72 := by
  refine ⟨⟨bs.map (·.toNat), by simp, h, fun l => by rw [ht]⟩, hb, ⟨[], by simp [ht], by simp⟩, Nat.zero_le _, ?_, by omega, by omega⟩
  rw [Lib.size_eq, ht]; exact hl
theorem sub_tail {ds us t : List UInt8} (h : ds = us ++ t) (hd : ∀ c ∈ ds, dg c < 36) : ∀ c ∈ t, dg c < 36 := fun c hc => hd c (by rw [h]; exact List.mem_append_right _ hc)
/-- a step of Dec, from its outside -/
theorem Dec.first {f : Nat} {cur : List Nat} {a p b : Nat} {ds l : List Nat} (h : Dec f cur a p b ds l) (hne : ds ≠ []) : ∃ delta rest, rd 36 b ds = some (delta, rest) ∧ okR (a + (p + delta) / (cur.length + 1)) ∧
    Dec f (ins ((p + delta) % (cur.length + 1)) (a + (p + delta) / (cur.length + 1)) cur) (a + (p + delta) / (cur.length + 1)) ((p + delta) % (cur.length + 1) + 1) (adp delta (cur.length + 1) (cur.length == f)) rest l := by
  cases h with
  | stop => exact absurd rfl hne
  | step _ _ _ _ delta _ rest _ h hv ht => exact ⟨delta, rest, h, hv, ht⟩
theorem map_ne {t : ByteArray} (h : 0 < t.size) : t.data.toList.map dg ≠ [] := by
  intro e
  have := congrArg List.length e
  rw [List.length_map, ← Lib.size_eq, List.length_nil] at this
  omega
theorem DecAt.none {base : Nat} {w wq : World} {bs ds : List UInt8} {v : Value} {t : ByteArray} {n a p b : Nat} (h : DecAt base w wq bs ds v t n a p b) (h0 : 0 < t.size) (hn : NoNum b t.data.toList) :
    ∀ l, (∀ c ∈ ds, dg c < 36) → ¬ Dec bs.length (bs.map (·.toNat)) 128 0 72 (ds.map dg) l := by
  intro l hd hdec
  obtain ⟨cur, h1, _, h3⟩ := h.row
  obtain ⟨us, hu, _⟩ := h.tail
  obtain ⟨delta, rest, r1, r2, _⟩ := ((h3 l).2 hdec).first (map_ne h0)
  have h4 := hn delta rest (sub_tail hu hd) r1
  have h5 := h.len
  have h6 : 1114112 ≤ (p + delta) / (cur.length + 1) := by
    rw [Nat.le_div_iff_mul_le (by omega)]
    have : 1114112 * (cur.length + 1) ≤ 1114112 * 64 := Nat.mul_le_mul_left _ (by omega)
    omega
  have := okR_le r2
  omega
theorem DecAt.bad {base : Nat} {w wq : World} {bs ds : List UInt8} {v : Value} {t : ByteArray} {n a p b delta : Nat} {rest : List Nat} (h : DecAt base w wq bs ds v t n a p b) (h0 : 0 < t.size) (hr : rd 36 b (t.data.toList.map dg) = some (delta, rest))
    (hv : ¬ okR (a + (p + delta) / (n + 1))) : ∀ l, ¬ Dec bs.length (bs.map (·.toNat)) 128 0 72 (ds.map dg) l := by
  intro l hdec
  obtain ⟨cur, h1, _, h3⟩ := h.row
  obtain ⟨delta', rest', r1, r2, _⟩ := ((h3 l).2 hdec).first (map_ne h0)
  rw [hr] at r1
  simp only [Option.some.injEq, Prod.mk.injEq] at r1
  obtain ⟨rfl, rfl⟩ := r1
  rw [h1] at r2
  exact hv r2
theorem DecAt.next {base : Nat} {w wq w' : World} {bs ds : List UInt8} {v : Value} {t : ByteArray} {n a p b delta u : Nat} {cur : List Nat} (h : DecAt base w wq bs ds v t n a p b) (hc : cur.length = n)
    (hiff : ∀ l, Dec bs.length cur a p b (t.data.toList.map dg) l ↔ Dec bs.length (bs.map (·.toNat)) 128 0 72 (ds.map dg) l)
    (hr : rd 36 b (t.data.toList.map dg) = some (delta, (t.data.toList.drop u).map dg)) (hu1 : 1 ≤ u) (hu : u ≤ t.size) (huv : ∀ c ∈ t.data.toList.take u, dg c < 36) (hdl : delta ≤ 71303168) (hv : okR (a + (p + delta) / (n + 1)))
    {v' : Value} (hown : w'.ownsRow base 21 1 v' (n + 1) (rvs (ins ((p + delta) % (n + 1)) (a + (p + delta) / (n + 1)) cur))) (hb : Below base w w') :
    DecAt base w w' bs ds v' (t.extract u t.size) (n + 1) (a + (p + delta) / (n + 1)) ((p + delta) % (n + 1) + 1) (adp delta (n + 1) (n == bs.length)) := by
  have hp := pl_le (p + delta) cur
  rw [hc] at hp
  have hte : (t.extract u t.size).data.toList = t.data.toList.drop u := Lib.extract_to_end t u
  have hts : (t.extract u t.size).size = t.size - u := by rw [Lib.size_eq, hte, List.length_drop, ← Lib.size_eq]
  obtain ⟨us, e1, e2⟩ := h.tail
  have hlen := h.len
  refine ⟨⟨_, by rw [ins_length (by omega), hc], hown, fun l => ?_⟩, hb, ⟨us ++ t.data.toList.take u, ?_, ?_⟩, by omega, by rw [hts]; omega, okR_le hv, ?_⟩
  · rw [hte, ← hiff l]
    constructor
    · intro hd
      refine .step _ _ _ _ delta _ _ _ hr (by rw [hc]; exact hv) ?_
      rw [hc]; exact hd
    · intro hd
      obtain ⟨delta', rest', r1, r2, r3⟩ := hd.first (by intro e; rw [e] at hr; simp [rd] at hr)
      rw [hr] at r1
      simp only [Option.some.injEq, Prod.mk.injEq] at r1
      obtain ⟨rfl, rfl⟩ := r1
      rw [hc] at r3
      exact r3
  · rw [hte, List.append_assoc, List.take_append_drop]; exact e1
  · intro c hc'
    rcases List.mem_append.1 hc' with hc' | hc'
    · exact e2 c hc'
    · exact huv c hc'
  · have := adp_le delta (n + 1) (n == bs.length); omega
theorem DecAt.done {base : Nat} {w wq : World} {bs ds : List UInt8} {v : Value} {t : ByteArray} {n a p b : Nat} (h : DecAt base w wq bs ds v t n a p b) (h0 : t.size = 0) :
    ∃ l : List Nat, l.length = n ∧ wq.ownsRow base 21 1 v n (rvs l) ∧ Dec bs.length (bs.map (·.toNat)) 128 0 72 (ds.map dg) l ∧ ∀ c ∈ ds, dg c < 36 := by
  obtain ⟨cur, h1, h2, h3⟩ := h.row
  obtain ⟨us, e1, e2⟩ := h.tail
  have ht : t.data.toList = [] := List.length_eq_zero_iff.1 (by rw [← Lib.size_eq]; exact h0)
  rw [ht] at h3 e1
  refine ⟨cur, h1, h2, (h3 cur).1 (.stop _ _ _ _), ?_⟩
  rw [e1, List.append_nil]; exact e2

/-- what Decode answers -/
def DecPost (s : ByteArray) (w : World) (e : Ending) (w' : World) : Prop :=
  (e = .returned (.tuple #[.slice none 0 0, .int .i64 3]) ∧ Below w.heap.size w w' ∧ ∀ l, ¬ Puny s.data.toList l) ∨
  ∃ (v : Value) (n : Nat) (l : List Nat), e = .returned (.tuple #[v, .int .i64 0]) ∧ w'.ownsRow w.heap.size 21 1 v n (rvs l) ∧ Below w.heap.size w w' ∧ Puny s.data.toList l
theorem puny_none {s bs ds : List UInt8} (hs : s = shp bs ds) (hd : (45 : UInt8) ∉ ds) (h : ∀ l, (∀ c ∈ ds, dg c < 36) → ¬ Dec bs.length (bs.map (·.toNat)) 128 0 72 (ds.map dg) l) : ∀ l, ¬ Puny s l := by
  rintro l ⟨cs, es, e1, e2, _, e4⟩
  obtain ⟨rfl, rfl⟩ := shp_inj hd (dash_free e2) (hs.symm.trans e1)
  exact h l e2 e4

set_option maxHeartbeats 400000 in
theorem decode_long (s : ByteArray) (w : World) (hs : 63 < s.size) (hs2 : s.size ≤ 9223372036854775807) :
    Calls Tryz.prog 100 #[.string s] w fun e w' => e = .returned (.tuple #[.slice none 0 0, .int .i64 3]) ∧ w = w' := by
  go_enter Tryz.func100, Tryz.ntmps100
  go_wp2
  go_ret2
  exact ⟨rfl, rfl⟩

theorem is_wrong_at (x : Int) (r : Nat) (v : Bool) (w : World) (hx : x = r) (h : (!Lib.validRune r) = v) : Calls Tryz.prog 95 #[.int .i32 x] w fun e w' => e = .returned (.bool v) ∧ w = w' := by
  subst hx; exact is_wrong r v w h
theorem insert_at (base : Nat) (v : Value) (n p a : Nat) (x : Int) (xs : List Nat) (w w1 : World) (hown : w.ownsRow base 21 1 v n (rvs xs)) (hbase : base ≤ w.heap.size) (hn : n ≤ 1000) (hp : p ≤ n) (hx : x = a)
    (hw1 : w1 = w.alloc (.cells #[.int .i32 x] 21)) :
    Calls Tryz.prog 118 #[v, .int .i64 p, .slice (some ⟨w.heap.size, 0, none⟩) 1 1] w1 fun e w' => ∃ v', e = .returned v' ∧ w'.ownsRow base 21 1 v' (xs.length + 1) (rvs (ins p a xs)) ∧ Below base w w' := by
  subst hx hw1
  have hb1 : Below base w (w.alloc (.cells #[.int .i32 (a : Int)] 21)) := (Below.refl _ w).alloc hbase _
  refine (insert_any base v n p w.heap.size a xs _ (hown.alloc _) (Nat.le_trans hbase hb1.size) hn hp (heap_alloc_new _ _) (fun e => by have := (hown.lt _ e).2; omega)).mono ?_
  rintro e w' ⟨v', rfl, h1, h2⟩
  exact ⟨v', rfl, h1, hb1.trans h2⟩
set_option maxRecDepth 100000 in
set_option maxHeartbeats 4000000 in
theorem decode_any (s : ByteArray) (w : World) (hs : s.size ≤ 63) :
    Calls Tryz.prog 100 #[.string s] w fun e w' => DecPost s w e w' := by
  have C := parts_any s w hs
  go_enter Tryz.func100, Tryz.ntmps100
  go_wp2_with fail
  refine C.mono ?_
  clear C
  rintro e w1 (⟨rfl, hb, hno⟩ | ⟨v, t, bs, rfl, hown, hb, hshp, hbs, hdash⟩)
  · have H := Lib.hid hno
    have HB := Lib.hid hb
    clear hno hb
    go_wp2
    go_ret2
    refine .inl ⟨rfl, HB.out, ?_⟩
    rintro l ⟨cs, es, e1, e2, e3, _⟩
    exact H.out cs es e1 e3 (dash_free e2)
  · obtain ⟨B, cap, rfl⟩ := own_form hown
    have hlen : bs.length + t.data.toList.length ≤ 63 := by
      have := congrArg List.length hshp
      rw [← Lib.size_eq] at this
      unfold shp at this
      split at this
      · rename_i hb0; subst hb0; simp only [List.length_nil]; omega
      · rw [List.length_append, List.length_cons] at this; omega
    obtain ⟨ds, hds⟩ : ∃ ds, ds = t.data.toList := ⟨_, rfl⟩
    have AT := Lib.hid (DecAt.start (ds := ds) hown hb hds.symm (by rw [hds]; exact hlen))
    rw [← hds] at hshp hdash
    have HS := Lib.hid hshp
    have HD := Lib.hid hdash
    have HBS := Lib.hid hbs
    clear hown hb hlen hds hshp hdash hbs
    revert AT HBS HS
    obtain ⟨f, hf⟩ : ∃ f, f = bs.length := ⟨_, rfl⟩
    rw [← hf]
    have HF := Lib.hid hf; clear hf
    intro AT HS HBS
    have hf1 : f ≤ 63 := by have := AT.out.len; omega
    go_wp2_with fail
    go_loopw [4, 5, 8, 9, 10] (fun x4 x5 x8 x9 x10 wq => ∃ (B : Option Addr) (cap n a p b : Nat) (t : ByteArray), x4 = .slice B n cap ∧ x5 = .string t ∧ x8 = .int .i64 a ∧ x9 = .int .i64 p ∧ x10 = .int .i64 b ∧ Hid (DecAt w.heap.size w wq bs ds (.slice B n cap) t n a p b)) (fun _ x5 _ _ _ _ => match x5 with | .string t => t.size | _ => 0)
    case atStart => exact ⟨B, cap, f, 128, 0, 72, t, rfl, rfl, rfl, rfl, rfl, AT⟩
    case round =>
      clear AT hf1
      obtain ⟨B, cap, n, a, p, b, t, rfl, rfl, rfl, rfl, rfl, HA⟩ := hrel
      obtain ⟨wo, hwo⟩ : ∃ wo : World, wo = wr := ⟨_, rfl⟩
      subst hwo
      have k1 := HA.out.pn
      have k2 := HA.out.len
      have k3 := HA.out.ab
      have k4 := HA.out.bb
      have hsz := HA.out.below.size
      by_cases h0 : 0 < t.size
      · have C := read_any t b wo (by omega) (by omega)
        go_wp2_with fail
        refine C.mono ?_
        clear C
        rintro e w2 ⟨⟨rfl, hnn⟩ | ⟨dl, u, rfl, hu1, hu2, hdl, hrd, huv⟩, rfl⟩
        · have HN := Lib.hid (HA.out.none h0 hnn)
          clear hnn
          go_wp2
          go_ret2
          exact .inl ⟨rfl, HA.out.below, puny_none HS.out HD.out HN.out⟩
        · rw [← Lib.size_eq] at hu2
          have HRD := Lib.hid hrd
          have HUV := Lib.hid huv
          clear hrd huv
          have hu0 : ((u : Int) == 0) = false := by rw [beq_eq_false_iff_ne]; omega
          obtain ⟨q, hq⟩ : ∃ q, q = (p + dl) / (n + 1) := ⟨_, rfl⟩
          have hqi : ((p : Int) + (dl : Int)) / ((n : Int) + 1) = (q : Int) := by rw [hq]; simp
          have hq1 : q ≤ p + dl := by rw [hq]; exact Nat.div_le_self _ _
          have HQ := Lib.hid hq; clear hq
          obtain ⟨r, hr⟩ : ∃ r, r = (p + dl) % (n + 1) := ⟨_, rfl⟩
          have hri : ((p : Int) + (dl : Int)) % ((n : Int) + 1) = (r : Int) := by rw [hr]; simp
          have hr1 : r ≤ n := by have := Nat.mod_lt (p + dl) (show n + 1 > 0 by omega); omega
          have HR := Lib.hid hr; clear hr
          go_wp2_with fail
          refine (adp_at (dl : Int) ((n : Int) + 1) ((n : Int) == (f : Int)) dl (n + 1) (n == f) _ rfl (by omega) (by rw [Bool.eq_iff_iff]; simp; omega) (by omega) (by omega) (by omega)).mono ?_; rintro e w3 ⟨rfl, rfl⟩
          by_cases hok : okR (a + q)
          · have HOK := Lib.hid hok
            have hle := okR_le hok
            have hv := (okR_iff (a + q)).2 hok
            clear hok
            go_wp2_with fail
            refine (is_wrong_at ((a : Int) + (q : Int)) (a + q) false _ (by omega) (by rw [hv]; rfl)).mono ?_; rintro e w4 ⟨rfl, rfl⟩
            clear hv
            obtain ⟨cur, hcl, hown, hiff⟩ := HA.out.row
            have HC := Lib.hid hcl
            have HI := Lib.hid hiff
            have HO := Lib.hid hown
            clear hcl hiff hown
            go_wp2_with fail
            refine (insert_at w.heap.size _ n r (a + q) ((a : Int) + (q : Int)) cur wo _ HO.out (by omega) (by omega) hr1 (by omega) rfl).mono ?_; rintro e w5 ⟨v5, rfl, hown5, hb5⟩
            rw [HC.out] at hown5
            obtain ⟨B5, cap5, rfl⟩ := own_form hown5
            have HN : Hid (DecAt w.heap.size w w5 bs ds (.slice B5 (n + 1) cap5) (t.extract u t.size) (n + 1) (a + q) (r + 1) (adp dl (n + 1) (n == f))) := by
              have := HA.out.next HC.out HI.out HRD.out hu1 hu2 HUV.out hdl (by rw [← HQ.out]; exact HOK.out) (by rw [← HQ.out, ← HR.out]; exact hown5) (HA.out.below.trans hb5)
              rw [← HQ.out, ← HR.out, ← HF.out] at this
              exact this
            clear hown5 hb5 HO HI HC HUV HRD HA
            revert HN
            generalize adp dl (n + 1) (n == f) = b2
            intro HN
            go_wp2_with fail
            go_roundw
            case rel => exact ⟨B5, cap5, n + 1, a + q, r + 1, b2, t.extract u t.size, rfl, rfl, by go_num, by go_num, rfl, HN⟩
            case measure =>
              have hts : (t.extract u t.size).size = t.size - u := by rw [Lib.size_eq, Lib.extract_to_end, List.length_drop, ← Lib.size_eq]
              show (t.extract u t.size).size < t.size
              omega
          · have hv : Lib.validRune ((a + q : Nat) : Int) = false := by rw [Bool.eq_false_iff]; intro e; exact hok ((okR_iff _).1 e)
            have HN := Lib.hid (HA.out.bad h0 HRD.out (by rw [← HQ.out]; exact hok))
            clear hok
            go_wp2_with fail
            refine (is_wrong_at ((a : Int) + (q : Int)) (a + q) true _ (by omega) (by rw [hv]; rfl)).mono ?_; rintro e w4 ⟨rfl, rfl⟩
            clear hv
            go_wp2
            go_ret2
            exact .inl ⟨rfl, HA.out.below, puny_none HS.out HD.out (fun l _ => HN.out l)⟩
      · obtain ⟨l, hl1, hl2, hl3, hl4⟩ := HA.out.done (by omega)
        have H1 := Lib.hid hl1
        have H2 := Lib.hid hl2
        have H3 := Lib.hid hl3
        have H4 := Lib.hid hl4
        clear hl1 hl2 hl3 hl4
        go_wp2_with fail
        go_ret2
        exact .inr ⟨_, n, l, rfl, H2.out, HA.out.below, ⟨bs, ds, HS.out, H4.out, HBS.out, H3.out⟩⟩
end Go.Proofs.YtclfmokdjmnjcaaGreatDoor
