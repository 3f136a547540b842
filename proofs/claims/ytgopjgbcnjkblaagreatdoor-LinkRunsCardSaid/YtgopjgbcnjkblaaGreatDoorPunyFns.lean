/-
  What the walk of puny.Encode leans on: how its loops stand, and what each step does to that. Conditions: each states its own.
  The walk of puny.Encode. Conditions: the list is in memory; each theorem states its own.
  The walk of slices.Insert at runes, one of them put into a row of the call's own. Conditions: the row is of the call's own, the list short.
  The walk of puny.parts: what stands as it is, and the digits behind it. Condition: the text is short.
  The walk of puny.Decode: the runes whose Punycode a text is, or that there are none. Conditions: none for a text of at most 63 bytes; a longer one is none of a fit length.
-/
import Derived.Test.YtgopjgbcnjkblaaGreatDoorPunyAny
import Derived.Laws.IdiomStrings
import Derived.Lib.BufferRead
import Derived.Deep.AppendLies
import Derived.Lib.LazyBuf
import Derived.Lib.AppendZerosOnto
import Derived.Shelf.Spec.SlicesInsert
import Derived.Deep.RegionLaw
import Derived.Laws.NewBlocks
import Derived.Test.YtgopjgbcnjkblaaGreatDoorPunyRunes
import Derived.RegionTactic
namespace Go.Proofs.YtgopjgbcnjkblaaGreatDoor
open Go.RowKit

/-- what is written ahead of the digits -/
def preB (l : List Nat) : List UInt8 := if (l.filter (· < 128)).map UInt8.ofNat = [] then [] else (l.filter (· < 128)).map UInt8.ofNat ++ [45]
theorem preB_shp (l : List Nat) (ds : List UInt8) : preB l ++ ds = shp ((l.filter (· < 128)).map UInt8.ofNat) ds := by
  unfold preB shp
  split <;> simp
theorem preB_none {l : List Nat} (h : (l.filter (· < 128)).length = 0) : (l.filter (· < 128)).map UInt8.ofNat = [] ∧ preB l = [] := by
  have e : (l.filter (· < 128)).map UInt8.ofNat = [] := by rw [List.length_eq_zero_iff.1 h]; rfl
  refine ⟨e, ?_⟩
  unfold preB; rw [if_pos e]
theorem preB_some {l : List Nat} (h : 0 < (l.filter (· < 128)).length) : preB l = (l.filter (· < 128)).map UInt8.ofNat ++ [45] := by
  unfold preB
  rw [if_neg]
  intro e
  have := congrArg List.length e
  rw [List.length_map, List.length_nil] at this; omega
theorem own_form {w : World} {base n : Nat} {e : TypeId} {k : Nat} {v : Value} {xs : List Value} (h : w.ownsRow base e k v n xs) : ∃ B cap, v = .slice B n cap := by
  rcases h.2 with ⟨rfl, rfl⟩ | ⟨g, cap, _, rfl, _⟩
  · exact ⟨_, _, rfl⟩
  · exact ⟨_, _, rfl⟩
theorem own_len {w : World} {base n : Nat} {v : Value} {xs : List UInt8} (h : w.ownsRow base 5 1 v n (bvs xs)) : n = xs.length := by
  have := h.1; unfold bvs at this; rw [List.length_map] at this; omega
/-- a row of the call's own, as a string -/
theorem own_string {w : World} {base n : Nat} {v : Value} {xs : List UInt8} (h : w.ownsRow base 5 1 v n (bvs xs)) : (convert 106 9 v).run Tryz.prog w = .ok (.string ⟨xs.toArray⟩) w := by
  have hl := own_len h
  rcases Nat.eq_zero_or_pos n with h0 | h0
  · subst h0
    have e : xs = [] := List.length_eq_zero_iff.1 hl.symm
    subst e
    rcases h.2 with ⟨rfl, _⟩ | ⟨g, cap, _, rfl, _⟩
    · exact Lib.run_convert_nil_bytes w 106 9 5 0 Tryz.underlying106 Tryz.underlying5 Tryz.underlying9
    · exact run_convert_bytes_back (P := Tryz.prog) w 106 9 5 ⟨g, 0, none⟩ cap [] Tryz.underlying106 Tryz.underlying5 Tryz.underlying9 (fun j hj => by simp at hj)
  · obtain ⟨g, cap, rfl, _, hlt⟩ := h.form h0
    have := run_convert_bytes_back (P := Tryz.prog) w 106 9 5 ⟨g, 0, none⟩ cap xs Tryz.underlying106 Tryz.underlying5 Tryz.underlying9 (fun j hj => by
      rw [Addr.add_lit, Nat.zero_add, h.cellAt j (by omega)]
      unfold bvs
      rw [List.getElem?_map, List.getElem?_eq_getElem hj]; rfl)
    rw [← hl] at this
    exact this

/-- how Encode's loops stand: all runes below a are written, and of those that are a the ones ahead of place j -/
structure EncAt (base : Nat) (w wq : World) (l : List Nat) (v : Value) (a j delta b dn : Nat) : Prop where
  row : ∃ m ws, wq.ownsRow base 5 1 v m (bvs (preB l ++ ws.map sg)) ∧ Enc l a j delta b ws ∧ m ≤ 64 + dn * 80000000
  below : Below base w wq
  dn : dn = (sel l a j).length
  bb : b ≤ 10000000000
theorem sel_le (l : List Nat) (a j : Nat) : (sel l a j).length ≤ l.length := by
  unfold sel
  conv => rhs; rw [← List.take_append_drop j l]
  simp only [List.length_append]
  have := List.length_filter_le (· < a + 1) (l.take j)
  have := List.length_filter_le (· < a) (l.drop j)
  omega
theorem EncAt.start {base : Nat} {w wq : World} {l : List Nat} {v : Value} {m : Nat} (h : wq.ownsRow base 5 1 v m (bvs (preB l))) (hb : Below base w wq) (hm : m ≤ 64) : EncAt base w wq l v 128 0 0 72 (l.filter (· < 128)).length :=
  ⟨⟨m, [], by simpa using h, Enc.start l, by omega⟩, hb, by rw [sel_zero], by omega⟩
theorem EncAt.delta_le {base : Nat} {w wq : World} {l : List Nat} {v : Value} {a j delta b dn : Nat} (h : EncAt base w wq l v a j delta b dn) (hl : l.length ≤ 63) : delta ≤ a * 64 + 63 := by
  obtain ⟨m, ws, _, h2, _⟩ := h.row
  exact h2.bound hl
theorem EncAt.dn_le {base : Nat} {w wq : World} {l : List Nat} {v : Value} {a j delta b dn : Nat} (h : EncAt base w wq l v a j delta b dn) : dn ≤ l.length := by rw [h.dn]; exact sel_le _ _ _
theorem EncAt.less {base : Nat} {w wq : World} {l : List Nat} {v : Value} {a j delta b dn : Nat} (h : EncAt base w wq l v a j delta b dn) (hj : j < l.length) (ha : l.getD j 0 < a) : EncAt base w wq l v a (j + 1) (delta + 1) b dn := by
  rw [getD_at hj] at ha
  obtain ⟨m, ws, h1, h2, h3⟩ := h.row
  exact ⟨⟨m, ws, h1, h2.less hj ha, h3⟩, h.below, by rw [(sel_less hj ha).1]; exact h.dn, h.bb⟩
theorem EncAt.more {base : Nat} {w wq : World} {l : List Nat} {v : Value} {a j delta b dn : Nat} (h : EncAt base w wq l v a j delta b dn) (hj : j < l.length) (ha : a < l.getD j 0) : EncAt base w wq l v a (j + 1) delta b dn := by
  rw [getD_at hj] at ha
  obtain ⟨m, ws, h1, h2, h3⟩ := h.row
  exact ⟨⟨m, ws, h1, h2.more hj ha, h3⟩, h.below, by rw [(sel_more hj ha).1]; exact h.dn, h.bb⟩
theorem EncAt.same {base : Nat} {w wq w' : World} {l : List Nat} {v : Value} {a j delta b dn m : Nat} {ws : List Nat} (h : EncAt base w wq l v a j delta b dn) (he : Enc l a j delta b ws) (hm : m ≤ 64 + dn * 80000000) (hj : j < l.length) (ha : l.getD j 0 = a) (hv : okR a) (hl : l.length ≤ 63)
    {v' : Value} {n' : Nat} (hown : w'.ownsRow base 5 1 v' n' (bvs ((preB l ++ ws.map sg) ++ (dgs 36 b delta).map sg))) (hb : Below base wq w') (hn : n' ≤ m + delta + 1) : EncAt base w w' l v' a (j + 1) 0 (adp delta (dn + 1) (dn == (l.filter (· < 128)).length)) (dn + 1) := by
  rw [getD_at hj] at ha
  have hd := h.delta_le hl
  have ha' := okR_le hv
  refine ⟨⟨n', ws ++ dgs 36 b delta, by rw [List.map_append, ← List.append_assoc]; exact hown, ?_, by omega⟩, h.below.trans hb, ?_, ?_⟩
  · rw [h.dn]; exact he.same hj ha hv
  · rw [(sel_same hj ha).1, ins_length (selP_le _ _ _), h.dn]
  · have := adp_le delta (dn + 1) (dn == (l.filter (· < 128)).length); omega
theorem EncAt.jump {base : Nat} {w wq : World} {l : List Nat} {v : Value} {a delta b dn : Nat} (h : EncAt base w wq l v a 0 delta b dn) (ha : a ≤ 1114111) : EncAt base w wq l v (lst l a) 0 (delta + (lst l a - a) * (dn + 1)) b dn := by
  obtain ⟨m, ws, h1, h2, h3⟩ := h.row
  obtain ⟨j1, j2⟩ := h2.jump ha
  have hdn := h.dn
  rw [sel_zero] at hdn
  refine ⟨⟨m, ws, h1, by rw [hdn]; exact j1, h3⟩, h.below, by rw [sel_zero, j2]; exact hdn, h.bb⟩
theorem EncAt.next {base : Nat} {w wq : World} {l : List Nat} {v : Value} {a delta b dn j : Nat} (h : EncAt base w wq l v a j delta b dn) (hj : j = l.length) : EncAt base w wq l v (a + 1) 0 (delta + 1) b dn := by
  subst hj
  obtain ⟨m, ws, h1, h2, h3⟩ := h.row
  refine ⟨⟨m, ws, h1, h2.next, h3⟩, h.below, ?_, h.bb⟩
  rw [h.dn, sel_zero, sel_end]
theorem EncAt.room {base : Nat} {w wq : World} {l : List Nat} {v : Value} {a delta b dn : Nat} (h : EncAt base w wq l v a 0 delta b dn) (hlt : dn < l.length) (hv : ∀ r ∈ l, okR r) : a ≤ 1114111 := by
  have hdn := h.dn
  rw [sel_zero] at hdn
  obtain ⟨r, hr, hge⟩ := exists_ge (l := l) (a := a) (by omega)
  have := okR_le (hv r hr)
  omega
theorem EncAt.done {base : Nat} {w wq : World} {l : List Nat} {v : Value} {a delta b dn : Nat} (h : EncAt base w wq l v a 0 delta b dn) (hd : ¬ dn < l.length) : ∃ m t, wq.ownsRow base 5 1 v m (bvs t) ∧ PunyW t l ∧ m ≤ 10000000000 ∨ 63 < l.length := by
  rcases Nat.lt_or_ge 63 l.length with h63 | h63
  · exact ⟨0, [], .inr h63⟩
  obtain ⟨m, ws, h1, h2, h3⟩ := h.row
  have hdn := h.dn
  rw [sel_zero] at hdn
  have hle := h.dn_le
  refine ⟨m, preB l ++ ws.map sg, .inl ⟨h1, ?_, by omega⟩⟩
  rw [preB_shp]
  exact punyW_of h2.dig (h2.done (by omega))

/-- what Encode answers to runes -/
def EncPost (w : World) (l : List Nat) (e : Ending) (w' : World) : Prop := ∃ t : List UInt8, PunyW t l ∧ Below w.heap.size w w' ∧
  ((t.length ≤ 63 ∧ e = .returned (.tuple #[.string ⟨t.toArray⟩, .int .i64 0])) ∨ (63 < t.length ∧ e = .returned (.tuple #[.string ⟨#[]⟩, .int .i64 2])))
theorem adp_at (x y : Int) (fb : Bool) (delta count : Nat) (f : Bool) (w : World) (hx : x = delta) (hy : y = count) (hf : fb = f) (hd : delta ≤ 1000000000000) (hc : 1 ≤ count) (hc2 : count ≤ 1000000) :
    Calls Tryz.prog 90 #[.int .i64 x, .int .i64 y, .bool fb] w fun e w' => e = .returned (.int .i64 (adp delta count f)) ∧ w = w' := by
  subst hx hy hf; exact adp_any delta count fb w hd hc hc2
end Go.Proofs.YtgopjgbcnjkblaaGreatDoor
namespace Go.Proofs.YtgopjgbcnjkblaaGreatDoor
open Go.RowKit

set_option maxHeartbeats 400000 in
theorem encode_long (A : Option Addr) (n c : Nat) (w : World) (hn : 63 < n) (hn63 : n ≤ 9223372036854775807) :
    Calls Tryz.prog 72 #[.slice A n c] w fun e w' => e = .returned (.tuple #[.string ⟨#[]⟩, .int .i64 2]) ∧ w = w' := by
  go_enter Tryz.func72, Tryz.ntmps72
  go_wp2
  go_ret2
  exact ⟨rfl, rfl⟩

set_option maxRecDepth 100000 in
set_option maxHeartbeats 4000000 in
theorem encode_plain (A : Option Addr) (n c f : Nat) (l : List Nat) (w : World) (hn : l.length = n) (hn63 : n ≤ 63) (hr : Runes w A l) (hv : ∀ r ∈ l, okR r) (hF : (l.filter (· < 128)).length = f) (hf : ¬ 0 < f) :
    Calls Tryz.prog 72 #[.slice A n c] w fun e w' => EncPost w l e w' := by
  have hle : ∀ r ∈ l, r ≤ 1114111 := fun r h => okR_le (hv r h)
  have hfn : f ≤ n := by rw [← hF, ← hn]; exact List.length_filter_le _ _
  have HN := Lib.hid hn
  have HF := Lib.hid hF
  have C1 := containsW A n c l w hn (by omega) hr
  rw [anyW_ok hv] at C1
  have C2 := basics_any A n c l w hn (by omega) hle hr
  clear hn hF
  go_enter Tryz.func72, Tryz.ntmps72
  go_wp2_with fail
  refine C1.mono ?_; rintro e w' ⟨rfl, rfl⟩
  clear C1
  go_wp2_with fail
  refine C2.mono ?_; rintro e w1 ⟨v, m, rfl, hown, hb⟩
  clear C2
  have hmf : m = f := by have := own_len hown; rw [this, List.length_map]; exact HF.out
  subst hmf
  obtain ⟨f, rfl⟩ : ∃ f, f = m := ⟨_, rfl⟩
  obtain ⟨B, cap, rfl⟩ := own_form hown
  have P1 := Lib.hid (preB_none (l := l) (by have := HF.out; omega))
  have AT : Hid (EncAt w.heap.size w w1 l (.slice B f cap) 128 0 0 72 f) := by
    have := EncAt.start (l := l) (by rw [P1.out.2]; rw [P1.out.1] at hown; exact hown) hb (by omega)
    rw [HF.out] at this
    exact this
  clear hown hb P1
  go_wp2_with fail
  go_loopw [4, 6, 7, 8, 9] (fun x4 x6 x7 x8 x9 wq => ∃ a delta b dn : Nat, x6 = .int .i32 a ∧ x7 = .int .i64 delta ∧ x8 = .int .i64 b ∧ x9 = .int .i64 dn ∧ a ≤ 1114112 ∧ Hid (EncAt w.heap.size w wq l x4 a 0 delta b dn)) (fun _ x6 _ _ _ _ => 1114112 - (intOf x6).toNat)
  case atStart => exact ⟨128, 0, 72, f, rfl, rfl, rfl, rfl, by omega, AT⟩
  case round =>
    clear AT
    obtain ⟨a, delta, b, dn, rfl, rfl, rfl, rfl, ha, HA⟩ := hrel
    obtain ⟨wo, hwo⟩ : ∃ wo : World, wo = wr := ⟨_, rfl⟩
    subst hwo
    have hdn : dn ≤ n := by have := HA.out.dn_le; have := HN.out; omega
    have hdl : delta ≤ a * 64 + 63 := HA.out.delta_le (by have := HN.out; omega)
    by_cases hlt : dn < n
    · have hroom : a ≤ 1114111 := HA.out.room (by have := HN.out; omega) hv
      have HJ := Lib.hid (HA.out.jump hroom)
      have hbl := HA.out.below
      have hszo := hbl.size
      have C3 := least_any A n c a l wo HN.out (by omega) hle (hr.below hbl)
      have j1 : lst l a ≤ 1114111 := lst_le _ _
      have j2 : a ≤ lst l a := lst_ge hroom
      clear hbl
      revert HJ C3 j1 j2
      generalize lst l a = nx
      intro HJ C3 j1 j2
      obtain ⟨q, hq⟩ : ∃ q, q = (nx - a) * (dn + 1) := ⟨_, rfl⟩
      have hqi : ((nx : Int) - (a : Int)) * ((dn : Int) + 1) = (q : Int) := by
        rw [hq, show (nx : Int) - (a : Int) = ((nx - a : Nat) : Int) by omega]; simp
      have hq1 : q ≤ 1114112 * 64 := by rw [hq]; exact Nat.mul_le_mul (by omega) (by omega)
      have HQ := Lib.hid hq; clear hq
      have HJ2 : Hid (EncAt w.heap.size w wo l u4 nx 0 (delta + q) b dn) := by have := HJ.out; rw [← HQ.out] at this; exact this
      clear HJ
      go_wp2_with fail
      refine C3.mono ?_; rintro e w' ⟨rfl, rfl⟩
      clear C3
      go_wp2_with fail
      clear hdl hdn hlt HQ hq1 hqi ha
      go_loopw [4, 7, 8, 9, 49] (fun x4 x7 x8 x9 x49 wq => ∃ j delta b dn : Nat, x49 = .int .i64 j ∧ x7 = .int .i64 delta ∧ x8 = .int .i64 b ∧ x9 = .int .i64 dn ∧ j ≤ n ∧ Hid (EncAt w.heap.size w wq l x4 nx j delta b dn)) (fun _ _ _ _ x49 _ => n - (intOf x49).toNat)
      case atStart => exact ⟨0, delta + q, b, dn, rfl, by go_num, rfl, rfl, Nat.zero_le _, HJ2⟩
      case round =>
        clear HJ2 hszo
        obtain ⟨j, delta, b, dn, rfl, rfl, rfl, rfl, hj, HA⟩ := hrel
        obtain ⟨wi, hwi⟩ : ∃ wi : World, wi = wr := ⟨_, rfl⟩
        subst hwi
        have hdn : dn ≤ n := by have := HA.out.dn_le; have := HN.out; omega
        have hdl : delta ≤ nx * 64 + 63 := HA.out.delta_le (by have := HN.out; omega)
        by_cases hlt : j < n
        · have hjl : j < l.length := by rw [HN.out]; exact hlt
          have hbl := HA.out.below
          have hszi := hbl.size
          obtain ⟨bb, o, rfl, hbb, hcell⟩ := hr.below hbl (by omega)
          have c0 := hcell j hjl
          have r1 := hle _ (getD_mem_nat hjl)
          have RV := Lib.hid (hv _ (getD_mem_nat hjl))
          clear hcell hbl
          rcases Nat.lt_trichotomy (l.getD j 0) nx with h | h | h
          · have HS := Lib.hid (HA.out.less hjl h)
            clear HA RV
            revert c0 r1 h
            generalize l.getD j 0 = r
            intro c0 r1 h
            go_wp2_with fail
            go_roundw
            case rel => exact ⟨j + 1, delta + 1, b, dn, by go_num, by go_num, rfl, rfl, by omega, HS⟩
            case measure => simp [intOf]; omega
          · obtain ⟨m, ws, hown, henc, hm⟩ := HA.out.row
            have HM := Lib.hid h
            have hbb2 := HA.out.bb
            have W := write_any w.heap.size _ m delta b _ wi hown hszi (by omega) (by omega) (by omega)
            have HE := Lib.hid henc
            rw [h] at c0 RV
            clear henc hown h
            go_wp2_with fail
            refine W.mono ?_; rintro e w' ⟨v', n', rfl, hown', hb', hn'⟩
            have HS := Lib.hid (HA.out.same HE.out hm hjl HM.out RV.out (by have := HN.out; omega) hown' hb' hn')
            clear W HE hown' hb' hn'
            go_wp2_with fail
            refine (adp_at (delta : Int) ((dn : Int) + 1) ((dn : Int) == (f : Int)) delta (dn + 1) (dn == (l.filter (· < 128)).length) _ rfl (by omega) (by rw [HF.out, Bool.eq_iff_iff]; simp; omega) (by omega) (by omega) (by omega)).mono ?_; rintro e w3 ⟨rfl, rfl⟩
            clear HA
            revert HS
            generalize adp delta (dn + 1) (dn == (l.filter (· < 128)).length) = b2
            intro HS
            go_wp2_with fail
            go_roundw
            case rel => exact ⟨j + 1, 0, b2, dn + 1, by go_num, rfl, rfl, by go_num, by omega, HS⟩
            case measure => simp [intOf]; omega
          · have HS := Lib.hid (HA.out.more hjl h)
            clear HA RV
            revert c0 r1 h
            generalize l.getD j 0 = r
            intro c0 r1 h
            go_wp2_with fail
            go_roundw
            case rel => exact ⟨j + 1, delta, b, dn, by go_num, rfl, rfl, rfl, by omega, HS⟩
            case measure => simp [intOf]; omega
        · obtain rfl : j = n := by omega
          go_wp2_with fail
          go_roundw
          case rel => exact ⟨nx + 1, delta + 1, b, dn, by go_num, by go_num, rfl, rfl, by omega, Lib.hid (HA.out.next HN.out.symm)⟩
          case measure => simp [intOf]; omega
    · obtain ⟨m, t, hdone⟩ := HA.out.done (by rw [HN.out]; exact hlt)
      have hbl := Lib.hid HA.out.below
      rcases hdone with ⟨hown, hpw, hm⟩ | hno
      · obtain ⟨B2, cap2, rfl⟩ := own_form hown
        have hcv := own_string hown
        have hlen := own_len hown
        have HP := Lib.hid hpw
        clear hpw HA hown
        by_cases h63 : m ≤ 63
        · have HL := Lib.hid hlen; clear hlen
          go_wp2_with fail
          go_ret2
          exact ⟨t, HP.out, hbl.out, .inl ⟨by rw [← HL.out]; exact h63, rfl⟩⟩
        · have HL := Lib.hid hlen; clear hlen
          clear hcv
          go_wp2_with fail
          go_ret2
          exact ⟨t, HP.out, hbl.out, .inr ⟨by rw [← HL.out]; omega, rfl⟩⟩
      · exact absurd HN.out (by omega)
set_option maxRecDepth 100000 in
set_option maxHeartbeats 4000000 in
theorem encode_dash (A : Option Addr) (n c f : Nat) (l : List Nat) (w : World) (hn : l.length = n) (hn63 : n ≤ 63) (hr : Runes w A l) (hv : ∀ r ∈ l, okR r) (hF : (l.filter (· < 128)).length = f) (hf : 0 < f) :
    Calls Tryz.prog 72 #[.slice A n c] w fun e w' => EncPost w l e w' := by
  have hle : ∀ r ∈ l, r ≤ 1114111 := fun r h => okR_le (hv r h)
  have hfn : f ≤ n := by rw [← hF, ← hn]; exact List.length_filter_le _ _
  have HN := Lib.hid hn
  have HF := Lib.hid hF
  have C1 := containsW A n c l w hn (by omega) hr
  rw [anyW_ok hv] at C1
  have C2 := basics_any A n c l w hn (by omega) hle hr
  clear hn hF
  go_enter Tryz.func72, Tryz.ntmps72
  go_wp2_with fail
  refine C1.mono ?_; rintro e w' ⟨rfl, rfl⟩
  clear C1
  go_wp2_with fail
  refine C2.mono ?_; rintro e w1 ⟨v, m, rfl, hown, hb⟩
  clear C2
  have hmf : m = f := by have := own_len hown; rw [this, List.length_map]; exact HF.out
  subst hmf
  obtain ⟨f, rfl⟩ : ∃ f, f = m := ⟨_, rfl⟩
  have P1 := Lib.hid (preB_some (l := l) (by have := HF.out; omega))
  obtain ⟨B, cap, rfl⟩ := own_form hown
  have hsz1 := hb.size
  have HB := Lib.hid hb; clear hb
  go_wp2_with (at_builtin; refine wpList_append_b rfl (.tmp 24) (.tmp 25) rfl w.heap.size _ ((l.filter (· < 128)).map UInt8.ofNat) f rfl (hown.alloc _) ⟨w1.heap.size, 0, none⟩ 45 rfl (cell_new _ _ _ _ _ rfl) (by omega) (by simp; omega) ?_; intro v2 w2 hown2 hb2; have AT := Lib.hid (EncAt.start (l := l) (by rw [P1.out]; exact hown2) ((HB.out.alloc hsz1 _).trans hb2) (by omega)); rw [HF.out] at AT; clear hown hown2 hb2 hsz1 HB P1)
  go_loopw [4, 6, 7, 8, 9] (fun x4 x6 x7 x8 x9 wq => ∃ a delta b dn : Nat, x6 = .int .i32 a ∧ x7 = .int .i64 delta ∧ x8 = .int .i64 b ∧ x9 = .int .i64 dn ∧ a ≤ 1114112 ∧ Hid (EncAt w.heap.size w wq l x4 a 0 delta b dn)) (fun _ x6 _ _ _ _ => 1114112 - (intOf x6).toNat)
  case atStart => exact ⟨128, 0, 72, f, rfl, rfl, rfl, rfl, by omega, AT⟩
  case round =>
    clear AT
    obtain ⟨a, delta, b, dn, rfl, rfl, rfl, rfl, ha, HA⟩ := hrel
    obtain ⟨wo, hwo⟩ : ∃ wo : World, wo = wr := ⟨_, rfl⟩
    subst hwo
    have hdn : dn ≤ n := by have := HA.out.dn_le; have := HN.out; omega
    have hdl : delta ≤ a * 64 + 63 := HA.out.delta_le (by have := HN.out; omega)
    by_cases hlt : dn < n
    · have hroom : a ≤ 1114111 := HA.out.room (by have := HN.out; omega) hv
      have HJ := Lib.hid (HA.out.jump hroom)
      have hbl := HA.out.below
      have hszo := hbl.size
      have C3 := least_any A n c a l wo HN.out (by omega) hle (hr.below hbl)
      have j1 : lst l a ≤ 1114111 := lst_le _ _
      have j2 : a ≤ lst l a := lst_ge hroom
      clear hbl
      revert HJ C3 j1 j2
      generalize lst l a = nx
      intro HJ C3 j1 j2
      obtain ⟨q, hq⟩ : ∃ q, q = (nx - a) * (dn + 1) := ⟨_, rfl⟩
      have hqi : ((nx : Int) - (a : Int)) * ((dn : Int) + 1) = (q : Int) := by
        rw [hq, show (nx : Int) - (a : Int) = ((nx - a : Nat) : Int) by omega]; simp
      have hq1 : q ≤ 1114112 * 64 := by rw [hq]; exact Nat.mul_le_mul (by omega) (by omega)
      have HQ := Lib.hid hq; clear hq
      have HJ2 : Hid (EncAt w.heap.size w wo l u4 nx 0 (delta + q) b dn) := by have := HJ.out; rw [← HQ.out] at this; exact this
      clear HJ
      go_wp2_with fail
      refine C3.mono ?_; rintro e w' ⟨rfl, rfl⟩
      clear C3
      go_wp2_with fail
      clear hdl hdn hlt HQ hq1 hqi ha
      go_loopw [4, 7, 8, 9, 49] (fun x4 x7 x8 x9 x49 wq => ∃ j delta b dn : Nat, x49 = .int .i64 j ∧ x7 = .int .i64 delta ∧ x8 = .int .i64 b ∧ x9 = .int .i64 dn ∧ j ≤ n ∧ Hid (EncAt w.heap.size w wq l x4 nx j delta b dn)) (fun _ _ _ _ x49 _ => n - (intOf x49).toNat)
      case atStart => exact ⟨0, delta + q, b, dn, rfl, by go_num, rfl, rfl, Nat.zero_le _, HJ2⟩
      case round =>
        clear HJ2 hszo
        obtain ⟨j, delta, b, dn, rfl, rfl, rfl, rfl, hj, HA⟩ := hrel
        obtain ⟨wi, hwi⟩ : ∃ wi : World, wi = wr := ⟨_, rfl⟩
        subst hwi
        have hdn : dn ≤ n := by have := HA.out.dn_le; have := HN.out; omega
        have hdl : delta ≤ nx * 64 + 63 := HA.out.delta_le (by have := HN.out; omega)
        by_cases hlt : j < n
        · have hjl : j < l.length := by rw [HN.out]; exact hlt
          have hbl := HA.out.below
          have hszi := hbl.size
          obtain ⟨bb, o, rfl, hbb, hcell⟩ := hr.below hbl (by omega)
          have c0 := hcell j hjl
          have r1 := hle _ (getD_mem_nat hjl)
          have RV := Lib.hid (hv _ (getD_mem_nat hjl))
          clear hcell hbl
          rcases Nat.lt_trichotomy (l.getD j 0) nx with h | h | h
          · have HS := Lib.hid (HA.out.less hjl h)
            clear HA RV
            revert c0 r1 h
            generalize l.getD j 0 = r
            intro c0 r1 h
            go_wp2_with fail
            go_roundw
            case rel => exact ⟨j + 1, delta + 1, b, dn, by go_num, by go_num, rfl, rfl, by omega, HS⟩
            case measure => simp [intOf]; omega
          · obtain ⟨m, ws, hown, henc, hm⟩ := HA.out.row
            have HM := Lib.hid h
            have hbb2 := HA.out.bb
            have W := write_any w.heap.size _ m delta b _ wi hown hszi (by omega) (by omega) (by omega)
            have HE := Lib.hid henc
            rw [h] at c0 RV
            clear henc hown h
            go_wp2_with fail
            refine W.mono ?_; rintro e w' ⟨v', n', rfl, hown', hb', hn'⟩
            have HS := Lib.hid (HA.out.same HE.out hm hjl HM.out RV.out (by have := HN.out; omega) hown' hb' hn')
            clear W HE hown' hb' hn'
            go_wp2_with fail
            refine (adp_at (delta : Int) ((dn : Int) + 1) ((dn : Int) == (f : Int)) delta (dn + 1) (dn == (l.filter (· < 128)).length) _ rfl (by omega) (by rw [HF.out, Bool.eq_iff_iff]; simp; omega) (by omega) (by omega) (by omega)).mono ?_; rintro e w3 ⟨rfl, rfl⟩
            clear HA
            revert HS
            generalize adp delta (dn + 1) (dn == (l.filter (· < 128)).length) = b2
            intro HS
            go_wp2_with fail
            go_roundw
            case rel => exact ⟨j + 1, 0, b2, dn + 1, by go_num, rfl, rfl, by go_num, by omega, HS⟩
            case measure => simp [intOf]; omega
          · have HS := Lib.hid (HA.out.more hjl h)
            clear HA RV
            revert c0 r1 h
            generalize l.getD j 0 = r
            intro c0 r1 h
            go_wp2_with fail
            go_roundw
            case rel => exact ⟨j + 1, delta, b, dn, by go_num, rfl, rfl, rfl, by omega, HS⟩
            case measure => simp [intOf]; omega
        · obtain rfl : j = n := by omega
          go_wp2_with fail
          go_roundw
          case rel => exact ⟨nx + 1, delta + 1, b, dn, by go_num, by go_num, rfl, rfl, by omega, Lib.hid (HA.out.next HN.out.symm)⟩
          case measure => simp [intOf]; omega
    · obtain ⟨m, t, hdone⟩ := HA.out.done (by rw [HN.out]; exact hlt)
      have hbl := Lib.hid HA.out.below
      rcases hdone with ⟨hown, hpw, hm⟩ | hno
      · obtain ⟨B2, cap2, rfl⟩ := own_form hown
        have hcv := own_string hown
        have hlen := own_len hown
        have HP := Lib.hid hpw
        clear hpw HA hown
        by_cases h63 : m ≤ 63
        · have HL := Lib.hid hlen; clear hlen
          go_wp2_with fail
          go_ret2
          exact ⟨t, HP.out, hbl.out, .inl ⟨by rw [← HL.out]; exact h63, rfl⟩⟩
        · have HL := Lib.hid hlen; clear hlen
          clear hcv
          go_wp2_with fail
          go_ret2
          exact ⟨t, HP.out, hbl.out, .inr ⟨by rw [← HL.out]; omega, rfl⟩⟩
      · exact absurd HN.out (by omega)

theorem encode_any (A : Option Addr) (n c : Nat) (l : List Nat) (w : World) (hn : l.length = n) (hn63 : n ≤ 63) (hr : Runes w A l) (hv : ∀ r ∈ l, okR r) :
    Calls Tryz.prog 72 #[.slice A n c] w fun e w' => EncPost w l e w' := by
  by_cases h : 0 < (l.filter (· < 128)).length
  · exact encode_dash A n c _ l w hn hn63 hr hv rfl h
  · exact encode_plain A n c _ l w hn hn63 hr hv rfl h
set_option maxHeartbeats 400000 in
theorem encode_bad (A : Option Addr) (n c : Nat) (l : List Nat) (w : World) (hn : l.length = n) (hn63 : n ≤ 63) (hr : Runes w A l) (hv : ¬ ∀ r ∈ l, okR r) :
    Calls Tryz.prog 72 #[.slice A n c] w fun e w' => e = .returned (.tuple #[.string ⟨#[]⟩, .int .i64 13]) ∧ w = w' := by
  have C1 := containsW A n c l w hn (by omega) hr
  rw [anyW_bad hv] at C1
  clear hn
  go_enter Tryz.func72, Tryz.ntmps72
  go_wp2_with fail
  refine C1.mono ?_; rintro e w' ⟨rfl, rfl⟩
  go_wp2
  go_ret2
  exact ⟨rfl, rfl⟩
end Go.Proofs.YtgopjgbcnjkblaaGreatDoor
namespace Go.Proofs.YtgopjgbcnjkblaaGreatDoor
open Go.RowKit

def rvs (xs : List Nat) : List Value := xs.map fun (r : Nat) => .int .i32 r
theorem infoI32 : (Tryz.prog.info? 21).map (fun i => (i.zero, i.size, i.bytes)) = some (some (.int .i32 0), 1, 4) := by kernel_rfl
theorem rvs_length (xs : List Nat) : (rvs xs).length = xs.length := by unfold rvs; simp
theorem rvs_at {xs : List Nat} {j : Nat} (h : j < xs.length) : (rvs xs)[j]? = some (.int .i32 (xs[j] : Nat)) := by
  unfold rvs; rw [List.getElem?_map, List.getElem?_eq_getElem h]; rfl
theorem rvs_one (xs : List Nat) : ∀ v ∈ rvs xs, v.oneCell' = true := fun v hv => by
  unfold rvs at hv
  obtain ⟨r, _, rfl⟩ := List.mem_map.1 hv
  rfl
theorem own_of_row {w : World} {base g cap n : Nat} {e : TypeId} {xs : List Value} {f : Nat → Value} (hr : w.rowIs g e cap f) (hb : base ≤ g) (hn : xs.length = n) (hc : n ≤ cap) (hm : cap ≤ maxLen) (hf : ∀ j, j < n → some (f j) = xs[j]?) :
    w.ownsRow base e 1 (.slice (some ⟨g, 0, none⟩) n cap) n xs := by
  obtain ⟨c, h1, h2, h3⟩ := hr
  refine ⟨by omega, .inr ⟨g, cap, c, rfl, hb, h1, hc, hm, by omega, ?_⟩⟩
  rw [Nat.mul_one]
  apply List.ext_getElem?
  intro j
  rw [List.getElem?_take]
  split
  · rename_i hj
    rw [← hf j hj, ← h3 j (by omega)]; simp
  · rw [List.getElem?_eq_none (by omega)]
theorem row_of_own {w : World} {base g cap n : Nat} {e : TypeId} {xs : List Value} (h : w.ownsRow base e 1 (.slice (some ⟨g, 0, none⟩) n cap) n xs) :
    base ≤ g ∧ n ≤ cap ∧ cap ≤ maxLen ∧ xs.length = n ∧ ∃ f, w.rowIs g e cap f ∧ ∀ j, j < n → some (f j) = xs[j]? := by
  obtain ⟨h1, h2⟩ := h
  rcases h2 with ⟨e1, _⟩ | ⟨g', cap', cur, e1, hb, hg, hc, hm, hs, ht⟩
  · cases e1
  · injection e1 with e1 _ e2
    injection e1 with e1
    injection e1 with e1
    subst e1 e2
    rw [Nat.mul_one] at hs ht
    refine ⟨hb, hc, hm, by omega, fun j => (cur[j]?).getD undef, ⟨cur, hg, hs, fun i hi => ?_⟩, fun j hj => ?_⟩
    · show cur[i]? = some ((cur[i]?).getD undef)
      rw [Array.getElem?_eq_getElem (by omega)]; rfl
    · show some ((cur[j]?).getD undef) = xs[j]?
      rw [← ht, List.getElem?_take, if_pos hj, Array.getElem?_toList, Array.getElem?_eq_getElem (by omega)]; rfl
/-- append of one rune to a row of the call's own -/
theorem wpList_append_r {w : World} {ops : Array Oper} {rest : List Oper} {o : Oper} {a : Act} {Q : Exit → Act → World → Prop} (hgd : o.guard = none) (s x : Operand)
    (ho : o.op = .call { callee := .builtin .append, args := #[s, x], argTypes := #[110, 110] })
    (base : Nat) (v : Value) (xs : List Nat) (n : Nat) (hs : a.eval s = v) (hown : w.ownsRow base 21 1 v n (rvs xs))
    (ad : Addr) (r : Nat) (hx : a.eval x = .slice (some ad) 1 1) (hc : w.cell? ad = some (.int .i32 r)) (hn : n ≤ 100000000000) (hbase : base ≤ w.heap.size)
    (h : ∀ v' w', w'.ownsRow base 21 1 v' (n + 1) (rvs (xs ++ [r])) → Below base w w' → wpList Tryz.prog ops Q rest (a.put o.dst v') w') : wpList Tryz.prog ops Q (o :: rest) a w := by
  obtain ⟨i0, hi, hz0, hz1, hz2⟩ := info_parts infoI32
  refine wpList_append_own (w := w) hgd s x 110 ho base 21 i0 (.int .i32 0) 1 4 Tryz.underlying110 hi hz0 hz1 hz2 rfl (by decide) v n (rvs xs) hs hown ad 1 1 [.int .i32 r] hx (by simp)
    (fun j u hj => by
      cases j with
      | zero =>
        simp only [List.getElem?_cons_zero, Option.some.injEq] at hj
        subst hj
        obtain ⟨b, o, sp⟩ := ad
        have e : (⟨b, o, sp⟩ : Addr).add 0 = ⟨b, o, sp⟩ := by unfold Addr.add; split <;> simp_all
        rw [e]; exact hc
      | succ j => simp at hj)
    (fun u hu => by rw [List.mem_singleton.1 hu]; rfl) (by unfold maxLen; omega) (by omega) hbase (fun v' w' h2 h3 _ => h v' w' (by unfold rvs at h2 ⊢; rw [List.map_append]; exact h2) ((Below.refl _ _).grown h3 hbase fun k hk => (hown.lt k hk).1))
/-- what Insert answers -/
def InsPost (base : Nat) (w : World) (xs : List Nat) (p a : Nat) (e : Ending) (w' : World) : Prop := ∃ v', e = .returned v' ∧ w'.ownsRow base 21 1 v' (xs.length + 1) (rvs (ins p a xs)) ∧ Below base w w'

theorem ins_end (a : Nat) (xs : List Nat) : ins xs.length a xs = xs ++ [a] := by unfold ins; simp
set_option maxHeartbeats 1000000 in
set_option maxRecDepth 100000 in
theorem insert_end (base : Nat) (v : Value) (n vb a : Nat) (xs : List Nat) (w : World) (hown : w.ownsRow base 21 1 v n (rvs xs)) (hbase : base ≤ w.heap.size) (hn : n ≤ 1000) (hvb : w.cell? ⟨vb, 0, none⟩ = some (.int .i32 a)) :
    Calls Tryz.prog 102 #[v, .int .i64 n, .slice (some ⟨vb, 0, none⟩) 1 1] w fun e w' => InsPost base w xs n a e w' := by
  have hlen : xs.length = n := by have := hown.1; rw [rvs_length] at this; omega
  have HL := Lib.hid hlen; clear hlen
  have HV := Lib.hid hvb; clear hvb
  rcases (show (v = .slice none 0 0 ∧ n = 0) ∨ ∃ g cap, v = .slice (some ⟨g, 0, none⟩) n cap by
    rcases hown.2 with h | ⟨g, cap, _, h, _⟩
    · exact .inl h
    · exact .inr ⟨g, cap, h⟩) with ⟨rfl, rfl⟩ | ⟨g, cap, rfl⟩
  · go_enter Tryz.func102, Tryz.ntmps102
    go_wp2_with (at_builtin; refine wpList_append_r rfl (.tmp 23) (.tmp 24) rfl base _ xs 0 rfl hown ⟨vb, 0, none⟩ a rfl HV.out (by omega) hbase ?_; intro v' w1 hown2 hb2)
    go_ret
    have e := ins_end a xs
    rw [HL.out] at e
    exact ⟨v', rfl, by rw [HL.out, e]; exact hown2, hb2⟩
  · go_enter Tryz.func102, Tryz.ntmps102
    go_wp2_with (at_builtin; refine wpList_append_r rfl (.tmp 23) (.tmp 24) rfl base _ xs n rfl hown ⟨vb, 0, none⟩ a rfl HV.out (by omega) hbase ?_; intro v' w1 hown2 hb2)
    all_goals
      go_ret
      have e := ins_end a xs
      rw [HL.out] at e
      exact ⟨v', rfl, by rw [HL.out, e]; exact hown2, hb2⟩

theorem ins_cells {p a j : Nat} {xs : List Nat} (hp : p ≤ xs.length) : (rvs (ins p a xs))[j]? = if j < p then (rvs xs)[j]? else if j = p then some (.int .i32 a) else (rvs xs)[j - 1]? := by
  have e : rvs (ins p a xs) = (rvs xs).take p ++ .int .i32 a :: (rvs xs).drop p := by unfold rvs ins; simp
  have hl : ((rvs xs).take p).length = p := by rw [List.length_take, rvs_length]; omega
  rw [e]
  by_cases h1 : j < p
  · rw [if_pos h1, List.getElem?_append_left (by omega), List.getElem?_take, if_pos h1]
  · rw [if_neg h1, List.getElem?_append_right (by omega), hl]
    by_cases h2 : j = p
    · rw [if_pos h2, h2, Nat.sub_self]; rfl
    · rw [if_neg h2, show j - p = (j - p - 1) + 1 by omega, List.getElem?_cons_succ, List.getElem?_drop, show p + (j - p - 1) = j - 1 by omega]
set_option maxHeartbeats 4000000 in
set_option maxRecDepth 100000 in
theorem insert_room (base : Nat) (g cap n p vb a : Nat) (xs : List Nat) (w : World) (hown : w.ownsRow base 21 1 (.slice (some ⟨g, 0, none⟩) n cap) n (rvs xs)) (hn : n ≤ 1000) (hp : p < n) (hroom : n + 1 ≤ cap)
    (hvb : w.heap[vb]? = some (.cells #[.int .i32 a] 21 (0, 0))) (hne : vb ≠ g) :
    Calls Tryz.prog 102 #[.slice (some ⟨g, 0, none⟩) n cap, .int .i64 p, .slice (some ⟨vb, 0, none⟩) 1 1] w fun e w' => InsPost base w xs p a e w' := by
  obtain ⟨o1, o2, o3, o4, f, hrow, hf⟩ := row_of_own hown
  rw [rvs_length] at o4
  have HL := Lib.hid o4; clear o4
  have hov : ∀ lb cb, (callFunc 109 #[.slice (some ⟨vb, 0, none⟩) 1 1, .slice (some ⟨g, p + 1, none⟩) lb cb]).run Tryz.prog w = .ok (.value (.bool false)) w := fun lb cb => by
    obtain ⟨c, h1, h2, _⟩ := hrow
    rw [run_callFunc_extern Tryz.func109 (by kernel_rfl) (by kernel_rfl) (by kernel_rfl) (e := Extern.SlicesOverlaps.overlaps #[110, 110] #[4]) (by kernel_rfl),
      Lib.run_overlaps_apart w 110 4 21 Tryz.underlying110 1 Tryz.sizeOf21 ⟨vb, 0, none⟩ ⟨g, p + 1, none⟩ 1 1 lb cb hne 21 21 1 cap (by unfold World.shape?; rw [hvb]; rfl) (by unfold World.shape?; rw [h1]; simp [h2]) (by omega) (by unfold World.frozen?; rw [hvb]; rfl) (by unfold World.frozen?; rw [hvb]; rfl)]
    rfl
  have w1 : IntKind.i64.wrap ((p : Int) + 1) = (p : Int) + 1 := by rw [IntKind.wrap_i64]; omega
  have c1 : ¬ cap = p := by omega
  have c2 : ¬ cap = p + 1 := by omega
  have c3 : (p : Int) ≤ (n : Int) + 1 := by omega
  have c4 : cap ≤ 9223372036854775807 := by unfold maxLen at o3; omega
  have c5 : ((p : Int) + 1).toNat = p + 1 := by omega
  have c6 : (0 : Int) ≤ (p : Int) + 1 := by omega
  have c7 : p ≤ n := by omega
  have hdl : ((rvs xs).drop p).length = n - p := by rw [List.length_drop, rvs_length, HL.out]
  have hsz : (Tryz.prog.info? 21).map (·.size) = some 1 := by
    obtain ⟨i0, hi, _, hz1, _⟩ := info_parts infoI32
    rw [hi]; simp [hz1]
  have hcell : ∀ (W : World), (∀ x, W.cell? x = w.cell? x) → ∀ j, j < cap → W.cell? ⟨g, j, none⟩ = some (f j) := fun W hW j hj => by rw [hW]; exact hrow.cell hj
  have hcs : ∀ j v, (rvs xs)[j]? = some v → w.cell? ⟨g, j, none⟩ = some v := fun j v hj => by
    have hjl : j < n := by have := (List.getElem?_eq_some_iff.1 hj).1; rw [rvs_length, HL.out] at this; exact this
    rw [hrow.cell (by omega), hf j hjl, hj]
  have hfz : ∀ j, w.frozen? ⟨g, j, none⟩ = false := fun j => by
    obtain ⟨c, h1, _⟩ := hrow
    unfold World.frozen?; rw [h1]; simp
  have hcp1 : ∀ ty dl dc sl sc, dl = n - p → sl = n + 1 - p → (Builtin.copy_ #[110, 110] ty #[.slice (some ⟨g, p + 1, none⟩) dl dc, .slice (some ⟨g, p, none⟩) sl sc]).run Tryz.prog w.drew = .ok (goInt ((rvs xs).drop p).length) (w.drew.setCells g (p + 1) ((rvs xs).drop p)) := fun ty dl dc sl sc e1 e2 =>
    run_copy_cells w.drew _ _ ty 21 g (p + 1) dl dc ⟨g, p, none⟩ sl sc ((rvs xs).drop p) Tryz.underlying110 hsz (by rw [hdl, e1, e2]; simp only [Nat.min_def]; split <;> omega)
      (fun j v hj => by rw [Addr.add_lit]; exact hcs (p + j) v (by rwa [List.getElem?_drop] at hj))
      (fun j hj => by show (w.cell? _).isSome = true; rw [hrow.cell (by omega)]; rfl) (fun j hj => hfz _) (fun v hv => rvs_one xs v (List.mem_of_mem_drop hv))
  obtain ⟨W1, hW1⟩ : ∃ W1, W1 = w.drew.setCells g (p + 1) ((rvs xs).drop p) := ⟨_, rfl⟩
  have hrow1 : W1.rowIs g 21 cap (fun j => if p + 1 ≤ j ∧ j < p + 1 + ((rvs xs).drop p).length then ((rvs xs).drop p)[j - (p + 1)]?.getD default else f j) := by
    rw [hW1]
    exact rowIs_setCells _ _ _ _ (by obtain ⟨c, h1, h2⟩ := hrow; exact ⟨c, h1, h2⟩)
  have hcp2 : ∀ (W : World), (∀ x, W.cell? x = W1.cell? x) → (∀ x, W.frozen? x = W1.frozen? x) → ∀ ty dl dc, dl = n + 1 - p → (Builtin.copy_ #[110, 110] ty #[.slice (some ⟨g, p, none⟩) dl dc, .slice (some ⟨vb, 0, none⟩) 1 1]).run Tryz.prog W = .ok (goInt ([Value.int .i32 (a : Int)]).length) (W.setCells g p [.int .i32 a]) := fun W hWc hWf ty dl dc e1 =>
    run_copy_cells W _ _ ty 21 g p dl dc ⟨vb, 0, none⟩ 1 1 [.int .i32 a] Tryz.underlying110 hsz (by rw [e1]; simp only [Nat.min_def, List.length_singleton]; split <;> omega)
      (fun j v hj => by
        obtain rfl : j = 0 := by have := (List.getElem?_eq_some_iff.1 hj).1; simpa using this
        rw [Addr.add_lit, hWc, hW1, World.cell?_setCells_out g _ _ _ _ (fun h _ => absurd h hne)]
        simp only [List.getElem?_cons_zero, Option.some.injEq] at hj
        subst hj
        show w.cell? _ = _
        unfold World.cell?; rw [hvb]; rfl)
      (fun j hj => by
        have hj0 : j = 0 := by simpa using hj
        subst hj0
        rw [hWc, hrow1.cell (by omega)]; rfl)
      (fun j hj => by
        rw [hWf, hW1, World.frozen?_setCells]; exact hfz _) (fun v hv => by rw [List.mem_singleton.1 hv]; rfl)
  have hfin : ∀ W : World, W.rowIs g 21 cap (fun j => if p + 1 ≤ j ∧ j < p + 1 + ((rvs xs).drop p).length then ((rvs xs).drop p)[j - (p + 1)]?.getD default else f j) → (W.setCells g p [.int .i32 a]).ownsRow base 21 1 (.slice (some ⟨g, 0, none⟩) (n + 1) cap) (n + 1) (rvs (ins p a xs)) := fun W hW =>
    own_of_row (rowIs_setCells _ _ _ _ hW) o1 (by rw [rvs_length, ins_length (by rw [HL.out]; omega), HL.out]) hroom o3 (fun j hj => by
      rw [ins_cells (by rw [HL.out]; omega)]
      by_cases h1 : j < p
      · rw [if_neg (by omega), if_neg (by omega), if_pos h1, hf j (by omega)]
      · by_cases h2 : j = p
        · subst h2
          rw [if_pos (by simp), if_neg (by omega), if_pos rfl]; simp
        · rw [if_neg (by simp; omega), if_pos ⟨by omega, by rw [hdl]; omega⟩, if_neg h1, if_neg h2, List.getElem?_drop, show p + (j - (p + 1)) = j - 1 by omega]
          rw [List.getElem?_eq_getElem (by rw [rvs_length, HL.out]; omega)]; rfl)
  have HF := Lib.hid hfin
  have HR1 := Lib.hid hrow1
  have HB : Hid (Below base w W1) := by
    show Below base w W1
    rw [hW1]; exact below_setCells o1 _ _ _ (Below.refl _ w).drew
  rw [← hW1] at hcp1
  clear hfin hrow1 hcs hcell hf hrow hsz hdl hvb hown hW1
  go_enter Tryz.func102, Tryz.ntmps102
  go_wp2_with (simp only [hov])
  go_region_law (refine step_copy_runI rfl _ _ 110 110 rfl (.slice (some ⟨g, p + 1, none⟩) (n - p) (cap - (p + 1))) (.slice (some ⟨g, p, none⟩) (n + 1 - p) (cap - p)) (by simp [Act.eval, Act.put]) (by simp [Act.eval, Act.put]) (hcp1 _ _ _ _ _ rfl rfl) ?_)
  go_wp2_with (at_builtin; refine wpList_copy_runI _ rfl _ _ 110 110 rfl _ _ rfl rfl (hcp2 _ (fun _ => rfl) (fun _ => rfl) _ _ _ rfl) ?_)
  go_ret
  exact ⟨_, rfl, by rw [HL.out]; exact HF.out _ HR1.out, below_setCells o1 _ _ _ HB.out⟩

set_option maxHeartbeats 4000000 in
set_option maxRecDepth 100000 in
theorem insert_grow (base : Nat) (g cap n p vb a : Nat) (xs : List Nat) (w : World) (hown : w.ownsRow base 21 1 (.slice (some ⟨g, 0, none⟩) n cap) n (rvs xs)) (hbase : base ≤ w.heap.size) (hn : n ≤ 1000) (hp : p < n) (hroom : cap < n + 1)
    (hvb : w.cell? ⟨vb, 0, none⟩ = some (.int .i32 a)) (hvl : vb < w.heap.size) :
    Calls Tryz.prog 102 #[.slice (some ⟨g, 0, none⟩) n cap, .int .i64 p, .slice (some ⟨vb, 0, none⟩) 1 1] w fun e w' => InsPost base w xs p a e w' := by
  obtain ⟨o1, o2, o3, o4, f, hrow, hf⟩ := row_of_own hown
  rw [rvs_length] at o4
  have HL := Lib.hid o4; clear o4
  have hgw : g < w.heap.size := by obtain ⟨c, h1, _⟩ := hrow; exact (Array.getElem?_eq_some_iff.1 h1).1
  obtain ⟨i0, hi, hz0, hz1, hz2⟩ := info_parts infoI32
  have hsz : (Tryz.prog.info? 21).map (·.size) = some 1 := by rw [hi]; simp [hz1]
  have hcs : ∀ j v, (rvs xs)[j]? = some v → w.cell? ⟨g, j, none⟩ = some v := fun j v hj => by
    have hjl : j < n := by have := (List.getElem?_eq_some_iff.1 hj).1; rw [rvs_length, HL.out] at this; exact this
    rw [hrow.cell (by omega), hf j hjl, hj]
  have htl : ((rvs xs).take p).length = p := by rw [List.length_take, rvs_length, HL.out]; omega
  have hdl : ((rvs xs).drop p).length = n - p := by rw [List.length_drop, rvs_length, HL.out]
  have hold : (Builtin.firstCells i0.size p (.slice (some ⟨g, 0, none⟩) p cap)).run Tryz.prog w.drew = .ok ((rvs xs).take p).toArray w.drew := by
    rw [hz1]
    exact run_firstCells_some w.drew 1 p ⟨g, 0, none⟩ p cap ((rvs xs).take p) (by omega) (fun j v hj => by
      rw [Addr.add_lit, Nat.zero_add]
      rw [List.getElem?_take] at hj
      split at hj
      · exact hcs j v hj
      · cases hj)
  obtain ⟨G, hG⟩ : ∃ G, G = grownCap w (n + 1) cap 21 := ⟨_, rfl⟩
  have hGn : n + 1 ≤ G := by rw [hG]; exact grownCap_ge w _ _ _
  have hGm : G ≤ maxLen := by rw [hG]; exact grownCap_le_maxLen w _ _ _ (by unfold maxLen; omega)
  obtain ⟨ROW, hROW⟩ : ∃ ROW : Array Value, ROW = ((rvs xs).take p).toArray ++ Builtin.zeroCells (Value.int .i32 0).cells (n + 1 - p) ++ Builtin.zeroCells (Value.int .i32 0).cells (G - (n + 1)) := ⟨_, rfl⟩
  have hkk : (n : Int) + 1 - (p : Int) = ((n + 1 - p : Nat) : Int) := by omega
  have hik : p + (n + 1 - p) = n + 1 := by omega
  have hrz : ∀ ty, (Builtin.append_ #[110, 3] ty #[.slice (some ⟨g, 0, none⟩) p cap, .int .i64 ((n : Int) + 1 - (p : Int))]).run Tryz.prog w = .ok (.slice (some ⟨w.heap.size, 0, none⟩) (n + 1) G) (w.drew.alloc (.cells ROW 21)) := fun ty => by
    have h := Lib.run_append_grow_zeros w 110 3 ty 21 i0 _ .i64 .i64 Tryz.underlying110 Tryz.underlying3 hi hz0 (some ⟨g, 0, none⟩) p cap ((rvs xs).take p) hold (n + 1 - p) (by omega) (by omega) (by omega) (by omega) (by rw [hz2]; omega) (by rw [hz2, hik]; exact growslice_fits hroom (by omega))
    rw [hik] at h
    rw [hkk, hROW, hG]
    exact h
  have hRs : ROW.size = G := by
    rw [hROW]
    simp [Builtin.zeroCells, Value.cells, rvs_length, HL.out]
    omega
  obtain ⟨W1, hW1⟩ : ∃ W1, W1 = w.drew.alloc (.cells ROW 21) := ⟨_, rfl⟩
  have hrow1 : W1.rowIs w.heap.size 21 G (fun j => (ROW[j]?).getD undef) := by
    rw [hW1]
    have := World.rowIs_alloc w.drew ROW 21 (fun j => (ROW[j]?).getD undef) (fun i hi => by rw [Array.getElem?_eq_getElem hi]; rfl)
    rw [hRs] at this
    exact this
  have hRp : ∀ j, j < p → some ((ROW[j]?).getD undef) = (rvs xs)[j]? := fun j hj => by
    rw [hROW, Array.append_assoc, Array.getElem?_append_left (by simp [rvs_length, HL.out]; omega), List.getElem?_toArray, List.getElem?_take, if_pos hj, List.getElem?_eq_getElem (by rw [rvs_length, HL.out]; omega)]; rfl
  have hO : ∀ b j v, b < w.heap.size → w.cell? ⟨b, j, none⟩ = some v → W1.cell? ⟨b, j, none⟩ = some v := fun b j v hb h => by rw [hW1, World.cell?_alloc_past (w := w.drew) _ b j hb]; exact h
  have hcp1 : ∀ (W : World), (∀ x, W.cell? x = W1.cell? x) → (∀ x, W.frozen? x = W1.frozen? x) → ∀ ty dl dc, dl = n + 1 - p → (Builtin.copy_ #[110, 110] ty #[.slice (some ⟨w.heap.size, p, none⟩) dl dc, .slice (some ⟨vb, 0, none⟩) 1 1]).run Tryz.prog W = .ok (goInt ([Value.int .i32 (a : Int)]).length) (W.setCells w.heap.size p [.int .i32 a]) := fun W hWc hWf ty dl dc e1 =>
    run_copy_cells W _ _ ty 21 w.heap.size p dl dc ⟨vb, 0, none⟩ 1 1 [.int .i32 a] Tryz.underlying110 hsz (by rw [e1]; simp only [Nat.min_def, List.length_singleton]; split <;> omega)
      (fun j v hj => by
        obtain rfl : j = 0 := by have := (List.getElem?_eq_some_iff.1 hj).1; simpa using this
        simp only [List.getElem?_cons_zero, Option.some.injEq] at hj
        subst hj
        rw [Addr.add_lit, hWc]
        exact hO vb 0 _ hvl hvb)
      (fun j hj => by
        have hj0 : j = 0 := by simpa using hj
        subst hj0
        rw [hWc, hrow1.cell (by omega)]; rfl)
      (fun j hj => by
        rw [hWf]
        obtain ⟨c, h1, _⟩ := hrow1
        unfold World.frozen?; rw [h1]; simp) (fun v hv => by rw [List.mem_singleton.1 hv]; rfl)
  have hrow2 := rowIs_setCells [Value.int .i32 (a : Int)] p W1 _ hrow1
  have hcp2 : ∀ (W : World), (∀ x, W.cell? x = (W1.setCells w.heap.size p [.int .i32 a]).cell? x) → (∀ x, W.frozen? x = (W1.setCells w.heap.size p [.int .i32 a]).frozen? x) → ∀ ty dl dc sl sc, dl = n - p → sl = n - p → (Builtin.copy_ #[110, 110] ty #[.slice (some ⟨w.heap.size, p + 1, none⟩) dl dc, .slice (some ⟨g, p, none⟩) sl sc]).run Tryz.prog W = .ok (goInt ((rvs xs).drop p).length) (W.setCells w.heap.size (p + 1) ((rvs xs).drop p)) := fun W hWc hWf ty dl dc sl sc e1 e2 =>
    run_copy_cells W _ _ ty 21 w.heap.size (p + 1) dl dc ⟨g, p, none⟩ sl sc ((rvs xs).drop p) Tryz.underlying110 hsz (by rw [hdl, e1, e2]; simp only [Nat.min_def]; split <;> omega)
      (fun j v hj => by
        rw [Addr.add_lit, hWc, World.cell?_setCells_out _ _ _ _ _ (fun h _ => absurd h (by show g ≠ w.heap.size; omega))]
        exact hO g _ _ hgw (hcs (p + j) v (by rwa [List.getElem?_drop] at hj)))
      (fun j hj => by rw [hWc, hrow2.cell (by omega)]; rfl)
      (fun j hj => by
        rw [hWf]
        obtain ⟨c, h1, _⟩ := hrow2
        unfold World.frozen?; rw [h1]; simp) (fun v hv => rvs_one xs v (List.mem_of_mem_drop hv))
  have hrow3 := rowIs_setCells ((rvs xs).drop p) (p + 1) _ _ hrow2
  have hfin : ∀ W : World, W.heap[w.heap.size]? = ((W1.setCells w.heap.size p [.int .i32 a]).setCells w.heap.size (p + 1) ((rvs xs).drop p)).heap[w.heap.size]? → W.ownsRow base 21 1 (.slice (some ⟨w.heap.size, 0, none⟩) (n + 1) G) (n + 1) (rvs (ins p a xs)) := fun W hW => by
    obtain ⟨c, h1, h2⟩ := hrow3
    refine own_of_row ⟨c, hW.trans h1, h2⟩ hbase (by rw [rvs_length, ins_length (by rw [HL.out]; omega), HL.out]) hGn hGm (fun j hj => ?_)
    rw [ins_cells (by rw [HL.out]; omega)]
    by_cases h1 : j < p
    · rw [if_neg (by omega), if_neg (by simp; omega), if_pos h1, hRp j h1]
    · by_cases h2 : j = p
      · subst h2
        rw [if_neg (by omega), if_pos (by simp), if_neg (by omega), if_pos rfl]; simp
      · rw [if_pos ⟨by omega, by rw [hdl]; omega⟩, if_neg h1, if_neg h2, List.getElem?_drop, show p + (j - (p + 1)) = j - 1 by omega]
        rw [List.getElem?_eq_getElem (by rw [rvs_length, HL.out]; omega)]; rfl
  have HF := Lib.hid hfin
  have hbel : Below base w ((W1.setCells w.heap.size p [.int .i32 a]).setCells w.heap.size (p + 1) ((rvs xs).drop p)) := by
    rw [hW1]
    exact below_setCells hbase _ _ _ (below_setCells hbase _ _ _ ((Below.refl _ w).drew.alloc hbase _))
  have HB := Lib.hid hbel
  have w1 : IntKind.i64.wrap ((p : Int) + 1) = (p : Int) + 1 := by rw [IntKind.wrap_i64]; omega
  have d1 : ¬ cap = p := by omega
  have d2 : ¬ G = p := by omega
  have d3 : ¬ G = p + 1 := by omega
  have d4 : cap ≤ 9223372036854775807 := by unfold maxLen at o3; omega
  have d5 : G ≤ 9223372036854775807 := by unfold maxLen at hGm; omega
  have d6 : ((p : Int) + 1).toNat = p + 1 := by omega
  have d7 : (0 : Int) ≤ (p : Int) + 1 := by omega
  have d8 : p ≤ n := by omega
  have hE1 : ∀ x, ((w.alloc (.cells ROW 21)).drew).cell? x = W1.cell? x := fun x => by rw [hW1]; rfl
  have hE2 : ∀ x, ((w.alloc (.cells ROW 21)).drew).frozen? x = W1.frozen? x := fun x => by rw [hW1]; rfl
  have HW := Lib.hid hW1
  clear hfin hbel hrow3 hrow2 hrow1 hRp hO hcs hold hik hkk hdl htl hsz hi hz0 hz1 hz2 hf hrow hown hvb hROW hG hRs o3 hGm hW1
  go_enter Tryz.func102, Tryz.ntmps102
  go_wp2_with (at_builtin; refine Lib.wpList_append_run _ rfl _ _ _ _ rfl _ _ rfl rfl _ _ (hrz _) ?_)
  have hF1 : ∀ x, (((w.alloc (.cells ROW 21)).drew.setCells w.heap.size p [.int .i32 a]).drew).cell? x = (W1.setCells w.heap.size p [.int .i32 a]).cell? x := fun x => by rw [HW.out]; rfl
  have hF2 : ∀ x, (((w.alloc (.cells ROW 21)).drew.setCells w.heap.size p [.int .i32 a]).drew).frozen? x = (W1.setCells w.heap.size p [.int .i32 a]).frozen? x := fun x => by rw [HW.out]; rfl
  go_region_law (refine step_copy_runI rfl _ _ 110 110 rfl (.slice (some ⟨w.heap.size, p + 1, none⟩) (n - p) (G - (p + 1))) (.slice (some ⟨g, p, none⟩) (n - p) (cap - p)) (by simp [Act.eval, Act.put]) (by simp [Act.eval, Act.put]) (hcp2 _ hF1 hF2 _ _ _ _ _ rfl rfl) ?_)
  go_wp2
  go_ret
  refine ⟨_, rfl, by rw [HL.out]; exact HF.out _ (by rw [HW.out, ← drew_setCells w.heap.size ((rvs xs).drop p)]; rfl), ?_⟩
  have hb := HB.out
  rw [HW.out] at hb
  rw [← drew_setCells w.heap.size ((rvs xs).drop p)]
  exact hb.drew

/-- one rune put into a row of the call's own; it lies in a block of one cell, another one than the row's -/
theorem insert_any (base : Nat) (v : Value) (n p vb a : Nat) (xs : List Nat) (w : World) (hown : w.ownsRow base 21 1 v n (rvs xs)) (hbase : base ≤ w.heap.size) (hn : n ≤ 1000) (hp : p ≤ n)
    (hvb : w.heap[vb]? = some (.cells #[.int .i32 a] 21 (0, 0))) (hne : v.ownBlock ≠ some vb) :
    Calls Tryz.prog 102 #[v, .int .i64 p, .slice (some ⟨vb, 0, none⟩) 1 1] w fun e w' => InsPost base w xs p a e w' := by
  have hc : w.cell? ⟨vb, 0, none⟩ = some (.int .i32 a) := by unfold World.cell?; rw [hvb]; rfl
  rcases Nat.lt_or_ge p n with h | h
  · obtain ⟨g, cap, rfl, _⟩ := hown.form (by omega)
    rcases Nat.lt_or_ge cap (n + 1) with h2 | h2
    · exact insert_grow base g cap n p vb a xs w hown hbase hn h h2 hc (Array.getElem?_eq_some_iff.1 hvb).1
    · exact insert_room base g cap n p vb a xs w hown hn h h2 hvb (fun e => hne (by rw [e]; rfl))
  · obtain rfl : p = n := by omega
    exact insert_end base v p vb a xs w hown hbase hn hc
end Go.Proofs.YtgopjgbcnjkblaaGreatDoor
namespace Go.Proofs.YtgopjgbcnjkblaaGreatDoor
open Go.RowKit

theorem runesN_eq (s : ByteArray) : ∀ (b i : Nat) (acc : Array Value), (Conv.runesFrom s b i acc).toList = acc.toList ++ rvs (runesN s b i)
  | 0, _, acc => by simp [Conv.runesFrom, runesN, rvs]
  | b + 1, i, acc => by
    unfold Conv.runesFrom runesN
    split
    · have := runesN_eq s b (i + (Utf8.decode s i).2) (acc.push (.int .i32 (Int.ofNat (Utf8.decode s i).1)))
      rw [this]
      simp [rvs]
    · simp [rvs]
/-- what parts answers -/
def PtPost (s : ByteArray) (w : World) (e : Ending) (w' : World) : Prop :=
  (e = .returned (.tuple #[.slice none 0 0, .string ⟨#[]⟩, .bool false]) ∧ Below w.heap.size w w' ∧ ∀ bs ds : List UInt8, s.data.toList = shp bs ds → (∀ c ∈ bs, c.toNat < 128) → (45 : UInt8) ∉ ds → False) ∨
  ∃ (v : Value) (t : ByteArray) (bs : List UInt8), e = .returned (.tuple #[v, .string t, .bool true]) ∧ w'.ownsRow w.heap.size 21 1 v bs.length (rvs (bs.map (·.toNat))) ∧ Below w.heap.size w w' ∧
    s.data.toList = shp bs t.data.toList ∧ (∀ c ∈ bs, c.toNat < 128) ∧ (45 : UInt8) ∉ t.data.toList
theorem byte_list {s : ByteArray} {j : Nat} (h : j < s.size) : s.data.toList[j]? = some (s.data[j]!) := by
  have : j < s.data.size := h
  rw [List.getElem?_eq_getElem (by simpa using this), getElem!_pos s.data j this]
  simp
theorem dash_none {s : ByteArray} (h : ∀ j, j < s.size → ((s.data[j]!).toNat : Int) ≠ 45) : (45 : UInt8) ∉ s.data.toList := fun hm => by
  obtain ⟨j, hj, e⟩ := List.getElem_of_mem hm
  have hj' : j < s.size := by rw [Lib.size_eq]; exact hj
  have := byte_list hj'
  rw [List.getElem?_eq_getElem hj, e] at this
  injection this with this
  exact h j hj' (by rw [← this]; rfl)
theorem dash_at {s : ByteArray} {i : Nat} (hi : i < s.size) (h1 : ((s.data[i]!).toNat : Int) = 45) (h2 : ∀ j, i < j → j < s.size → ((s.data[j]!).toNat : Int) ≠ 45) :
    s.data.toList = s.data.toList.take i ++ 45 :: s.data.toList.drop (i + 1) ∧ (45 : UInt8) ∉ s.data.toList.drop (i + 1) := by
  have hl : i < s.data.toList.length := by rw [← Lib.size_eq]; exact hi
  have e : s.data.toList[i] = 45 := by
    have := byte_list hi
    rw [List.getElem?_eq_getElem hl] at this
    injection this with this
    rw [this]
    exact UInt8.toNat_inj.1 (by show _ = 45; omega)
  refine ⟨?_, fun hm => ?_⟩
  · conv => lhs; rw [← List.take_append_drop i s.data.toList, List.drop_eq_getElem_cons hl, e]
  · obtain ⟨j, hj, e2⟩ := List.getElem_of_mem hm
    rw [List.getElem_drop] at e2
    simp only [List.length_drop] at hj
    have hj' : i + 1 + j < s.size := by rw [Lib.size_eq]; omega
    have := byte_list hj'
    rw [List.getElem?_eq_getElem (by rw [← Lib.size_eq]; exact hj'), e2] at this
    injection this with this
    exact h2 (i + 1 + j) (by omega) hj' (by rw [← this]; rfl)
/-- the runes of bytes that are below 128 all, or not -/
theorem runes_all {s : ByteArray} : (anyB (runesN s s.size 0) = false → (∀ c ∈ s.data.toList, c.toNat < 128) ∧ runesN s s.size 0 = s.data.toList.map (·.toNat)) ∧ (anyB (runesN s s.size 0) = true → ¬ ∀ c ∈ s.data.toList, c.toNat < 128) := by
  have key : (∀ c ∈ s.data.toList, c.toNat < 128) → runesN s s.size 0 = s.data.toList.map (·.toNat) := fun h => by
    have := runesN_ascii s (fun j hj => h _ (List.mem_of_getElem? (Lib.data_getElem? s j hj))) s.size 0 (by omega)
    rwa [List.drop_zero] at this
  constructor
  · intro h
    have hall : ∀ c ∈ s.data.toList, c.toNat < 128 := fun c hc => by
      obtain ⟨k, hk, e⟩ := List.getElem_of_mem hc
      have hk' : k < s.size := by rw [Lib.size_eq]; exact hk
      rcases Nat.lt_or_ge c.toNat 128 with h1 | h1
      · exact h1
      · exfalso
        have e2 : s[k]'hk' = c := by
          have := Lib.data_getElem? s k hk'
          rw [List.getElem?_eq_getElem hk, e] at this
          exact (Option.some.inj this).symm
        obtain ⟨r, hr, hge⟩ := runesN_high s k hk' (by rw [e2]; exact h1) s.size 0 (Nat.zero_le _) (by omega)
        have := anyB_iff.1 h r hr
        omega
    exact ⟨hall, key hall⟩
  · intro h hall
    have : anyB (runesN s s.size 0) = false := anyB_iff.2 fun r hr => by
      rw [key hall] at hr
      obtain ⟨c, hc, rfl⟩ := List.mem_map.1 hr
      exact hall c hc
    rw [this] at h; cases h

theorem parts_no {s : ByteArray} {i : Nat} (hs : s.data.toList = s.data.toList.take i ++ 45 :: s.data.toList.drop (i + 1)) (hd : (45 : UInt8) ∉ s.data.toList.drop (i + 1)) (h : i = 0 ∨ ¬ ∀ c ∈ s.data.toList.take i, c.toNat < 128) :
    ∀ bs ds : List UInt8, s.data.toList = shp bs ds → (∀ c ∈ bs, c.toNat < 128) → (45 : UInt8) ∉ ds → False := by
  intro bs ds e1 e2 e3
  unfold shp at e1
  split at e1
  · rw [← e1, hs] at e3
    exact e3 (List.mem_append_right _ List.mem_cons_self)
  · rename_i hne
    obtain ⟨a1, a2⟩ := tail_inj hd e3 (hs.symm.trans e1)
    rcases h with h | h
    · subst h
      exact hne (by rw [← a1]; simp)
    · exact h (by rw [a1]; exact e2)
theorem parts_yes {s : ByteArray} {i : Nat} (hs : s.data.toList = s.data.toList.take i ++ 45 :: s.data.toList.drop (i + 1)) (h0 : i ≠ 0) (hl : i < s.size) : s.data.toList = shp (s.data.toList.take i) (s.data.toList.drop (i + 1)) := by
  unfold shp
  rw [if_neg]
  · exact hs
  · intro e
    have := congrArg List.length e
    rw [List.length_take, List.length_nil, ← Lib.size_eq] at this
    omega

set_option maxRecDepth 100000 in
set_option maxHeartbeats 400000 in
theorem parts_none (s : ByteArray) (w : World) (hs : s.size ≤ 63) (h : Lib.lastIndexByte s 45 = -1) (hno : (45 : UInt8) ∉ s.data.toList) :
    Calls Tryz.prog 100 #[.string s] w fun e w' => PtPost s w e w' := by
  have C := Tryz.strings_LastIndexByte s 45 (by omega) w
  rw [h] at C
  clear h
  have HN := Lib.hid hno
  clear hno
  go_enter Tryz.func100, Tryz.ntmps100
  go_wp2_with fail
  refine C.mono ?_; rintro e w' ⟨rfl, rfl⟩
  go_wp2
  go_ret3
  exact .inr ⟨_, s, [], rfl, World.ownsRow_nil _ _ _ _, Below.refl _ _, rfl, by simp, HN.out⟩

/-- the runes of a text's first bytes, as the conversion lays them -/
theorem conv_runes (t : ByteArray) (w : World) (ht : t.size ≤ 100000) : ∃ g cap W1, (convert 9 110 (.string t)).run Tryz.prog w = .ok (.slice (some ⟨g, 0, none⟩) (runesN t t.size 0).length cap) W1 ∧
    W1.ownsRow w.heap.size 21 1 (.slice (some ⟨g, 0, none⟩) (runesN t t.size 0).length cap) (runesN t t.size 0).length (rvs (runesN t t.size 0)) ∧ Below w.heap.size w W1 := by
  have hl := runesN_length t t.size 0
  have e := runesN_eq t t.size 0 #[]
  have hsz : (Conv.runesFrom t t.size 0 #[]).size = (runesN t t.size 0).length := by
    have := congrArg List.length e
    simpa [rvs_length] using this
  have hr := run_runes_of_string (P := Tryz.prog) w 9 110 21 t Tryz.underlying9 Tryz.underlying110 Tryz.underlying21 (by omega)
  rw [hsz] at hr
  have hG := grownCap_ge w (runesN t t.size 0).length 0 21
  have hM := grownCap_le_maxLen w (runesN t t.size 0).length 0 21 (by unfold maxLen; omega)
  refine ⟨_, _, _, hr, ⟨by rw [rvs_length]; omega, .inr ⟨w.heap.size, _, _, rfl, Nat.le_refl _, heap_alloc_new _ _, hG, hM, ?_, ?_⟩⟩, (Below.refl _ w).drew.alloc (Nat.le_refl _) _⟩
  · simp [hsz]; omega
  · rw [Nat.mul_one, Array.toList_append, e, List.take_append_of_le_length (by simp [rvs_length]), List.take_of_length_le (by simp [rvs_length])]; rfl
theorem own_runes {w : World} {base n : Nat} {v : Value} {xs : List Nat} (h : w.ownsRow base 21 1 v n (rvs xs)) (A : Option Addr) (c : Nat) (hv : v = .slice A n c) : Runes w A xs := fun h0 => by
  have hl : n = xs.length := by have := h.1; rw [rvs_length] at this; omega
  obtain ⟨g, cap, hv2, _, hlt⟩ := h.form (by omega)
  have e := hv.symm.trans hv2
  injection e with e1 _ e2
  subst e1 e2 hv
  refine ⟨g, 0, rfl, hlt, fun j hj => ?_⟩
  rw [Nat.zero_add, h.cellAt j (by omega), rvs_at hj, getD_at hj]

set_option maxRecDepth 100000 in
set_option maxHeartbeats 1000000 in
theorem parts_at (s : ByteArray) (i : Nat) (w : World) (hs : s.size ≤ 63) (h : Lib.lastIndexByte s 45 = (i : Int)) (hi : i < s.size) (he : s.data.toList = s.data.toList.take i ++ 45 :: s.data.toList.drop (i + 1)) (hd : (45 : UInt8) ∉ s.data.toList.drop (i + 1)) :
    Calls Tryz.prog 100 #[.string s] w fun e w' => PtPost s w e w' := by
  have C := Tryz.strings_LastIndexByte s 45 (by omega) w
  rw [h] at C
  clear h
  have HD := Lib.hid hd
  have HE := Lib.hid he
  clear hd he
  obtain ⟨t, ht⟩ : ∃ t, t = s.extract 0 i := ⟨_, rfl⟩
  have htd : t.data.toList = s.data.toList.take i := by rw [ht, Lib.extract_data]; simp
  have hts : t.size ≤ 1000 := by rw [Lib.size_eq, htd, List.length_take, ← Lib.size_eq]; omega
  obtain ⟨g, cap, W1, hcv, hown, hb⟩ := conv_runes t w (by omega)
  have hrl : (runesN t t.size 0).length ≤ 1000 := by have := runesN_length t t.size 0; omega
  have CB := containsB _ _ cap (runesN t t.size 0) W1 rfl (by omega) (own_runes hown _ cap rfl)
  have RA := Lib.hid (runes_all (s := t))
  have HT := Lib.hid htd
  have HO := Lib.hid hown
  have HB := Lib.hid hb
  clear htd hown hb hts
  revert hcv CB RA HO hrl
  generalize runesN t t.size 0 = L
  intro hcv hrl CB RA HO
  obtain ⟨m, hm⟩ : ∃ m, m = L.length := ⟨_, rfl⟩
  rw [← hm] at hcv CB HO hrl
  have HM := Lib.hid hm; clear hm
  by_cases h0 : i = 0
  · have N := Lib.hid (parts_no HE.out HD.out (.inl h0))
    have hte : t = ByteArray.empty := by
      apply ByteArray.ext
      apply Array.toList_inj.1
      rw [HT.out, h0]; rfl
    rw [hte] at hcv
    clear CB hte ht RA HO HT HD HE hi
    subst h0
    go_enter Tryz.func100, Tryz.ntmps100
    go_wp2_with fail
    refine C.mono ?_; rintro e w' ⟨rfl, rfl⟩
    clear C
    go_wp2
    go_ret3
    exact .inl ⟨rfl, HB.out, N.out⟩
  · have h0' : ((i : Int) == 0) = false := by rw [beq_eq_false_iff_ne]; omega
    have h0n : 0 < i := by omega
    have H0 := Lib.hid h0; clear h0
    rw [ht] at hcv
    have HTE := Lib.hid ht; clear ht
    cases hb : anyB L with
    | true =>
      have N := Lib.hid (parts_no HE.out HD.out (.inr (by rw [← HT.out]; exact RA.out.2 hb)))
      rw [hb] at CB
      clear hb RA HO
      go_enter Tryz.func100, Tryz.ntmps100
      go_wp2_with fail
      refine C.mono ?_; rintro e w' ⟨rfl, rfl⟩
      clear C
      go_wp2_with fail
      refine CB.mono ?_; rintro e w2 ⟨rfl, rfl⟩
      go_wp2
      go_ret3
      exact .inl ⟨rfl, HB.out, N.out⟩
    | false =>
      have N := Lib.hid (parts_yes HE.out H0.out hi)
      have R := Lib.hid (RA.out.1 hb)
      rw [hb] at CB
      clear hb RA
      have k1 : (i : Int) + 1 ≤ (s.size : Int) := by omega
      have k2 : (0 : Int) ≤ (i : Int) + 1 := by omega
      have k3 : ((i : Int) + 1).toNat = i + 1 := by omega
      have k4 : IntKind.i64.wrap ((i : Int) + 1) = (i : Int) + 1 := by rw [IntKind.wrap_i64]; omega
      go_enter Tryz.func100, Tryz.ntmps100
      go_wp2_with fail
      refine C.mono ?_; rintro e w' ⟨rfl, rfl⟩
      clear C
      go_wp2_with fail
      refine CB.mono ?_; rintro e w2 ⟨rfl, rfl⟩
      go_wp2
      go_region
      go_wp2
      go_ret3
      have hm : m = (s.data.toList.take i).length := by
        rw [HM.out, R.out.2, List.length_map, HT.out]
      have hx : (s.extract (i + 1) s.size).data.toList = s.data.toList.drop (i + 1) := by
        rw [Lib.extract_data]
        rw [List.take_of_length_le (by rw [List.length_drop, ← Lib.size_eq]; omega)]
      refine .inr ⟨_, _, s.data.toList.take i, rfl, ?_, HB.out.drew, by rw [hx]; exact N.out, by rw [← HT.out]; exact R.out.1, by rw [hx]; exact HD.out⟩
      have ho := HO.out.drew
      rw [R.out.2, HT.out] at ho
      rw [← hm]
      exact ho

theorem parts_any (s : ByteArray) (w : World) (hs : s.size ≤ 63) : Calls Tryz.prog 100 #[.string s] w fun e w' => PtPost s w e w' := by
  rcases Lib.lastIndexByte_spec s 45 with ⟨h1, h2⟩ | ⟨i, hi, h1, h2, h3⟩
  · exact parts_none s w hs h1 (dash_none h2)
  · obtain ⟨e1, e2⟩ := dash_at hi h2 h3
    exact parts_at s i w hs h1 hi e1 e2
end Go.Proofs.YtgopjgbcnjkblaaGreatDoor
namespace Go.Proofs.YtgopjgbcnjkblaaGreatDoor
open Go.RowKit

/-- how Decode's loop stands: what is left leads on just where the whole led from the start -/
structure DecAt (base : Nat) (w wq : World) (bs ds : List UInt8) (v : Value) (t : ByteArray) (n a p b : Nat) : Prop where
  row : ∃ cur : List Nat, cur.length = n ∧ wq.ownsRow base 21 1 v n (rvs cur) ∧ ∀ l, Dec bs.length cur a p b (t.data.toList.map dg) l ↔ Dec bs.length (bs.map (·.toNat)) 128 0 72 (ds.map dg) l
  below : Below base w wq
  tail : ∃ us, ds = us ++ t.data.toList ∧ ∀ c ∈ us, dg c < 36
  pn : p ≤ n
  len : n + t.size ≤ 63
  ab : a ≤ 1114111
  bb : b ≤ 10000000000
theorem DecAt.start {base : Nat} {w wq : World} {bs ds : List UInt8} {v : Value} {t : ByteArray} (h : wq.ownsRow base 21 1 v bs.length (rvs (bs.map (·.toNat)))) (hb : Below base w wq) (ht : t.data.toList = ds) (hl : bs.length + ds.length ≤ 63) :
    DecAt base w wq bs ds v t bs.length 128 0 72 := by
  refine ⟨⟨bs.map (·.toNat), by simp, h, fun l => by rw [ht]⟩, hb, ⟨[], by simp [ht], by simp⟩, Nat.zero_le _, ?_, by omega, by omega⟩
  rw [Lib.size_eq, ht]; exact hl
theorem sub_tail {ds us t : List UInt8} (h : ds = us ++ t) (hd : ∀ c ∈ ds, dg c < 36) : ∀ c ∈ t, dg c < 36 := fun c hc => hd c (by rw [h]; exact List.mem_append_right _ hc)
/-- a step of Dec, from its outside -/
theorem Dec.first {f : Nat} {cur : List Nat} {a p b : Nat} {ds l : List Nat} (h : Dec f cur a p b ds l) (hne : ds ≠ []) : ∃ delta rest, rd 36 b ds = some (delta, rest) ∧ okR (a + (p + delta) / (cur.length + 1)) ∧
    Dec f (ins ((p + delta) % (cur.length + 1)) (a + (p + delta) / (cur.length + 1)) cur) (a + (p + delta) / (cur.length + 1)) ((p + delta) % (cur.length + 1) + 1) (adp delta (cur.length + 1) (cur.length == f)) rest l := by
  cases h with
  | stop => exact absurd rfl hne
  | step _ _ _ _ delta _ rest _ h hv ht => exact ⟨delta, rest, h, hv, ht⟩
theorem map_ne {t : ByteArray} (h : 0 < t.size) : t.data.toList.map dg ≠ [] := by
  intro e
  have := congrArg List.length e
  rw [List.length_map, ← Lib.size_eq, List.length_nil] at this
  omega
theorem DecAt.none {base : Nat} {w wq : World} {bs ds : List UInt8} {v : Value} {t : ByteArray} {n a p b : Nat} (h : DecAt base w wq bs ds v t n a p b) (h0 : 0 < t.size) (hn : NoNum b t.data.toList) :
    ∀ l, (∀ c ∈ ds, dg c < 36) → ¬ Dec bs.length (bs.map (·.toNat)) 128 0 72 (ds.map dg) l := by
  intro l hd hdec
  obtain ⟨cur, h1, _, h3⟩ := h.row
  obtain ⟨us, hu, _⟩ := h.tail
  obtain ⟨delta, rest, r1, r2, _⟩ := ((h3 l).2 hdec).first (map_ne h0)
  have h4 := hn delta rest (sub_tail hu hd) r1
  have h5 := h.len
  have h6 : 1114112 ≤ (p + delta) / (cur.length + 1) := by
    rw [Nat.le_div_iff_mul_le (by omega)]
    have : 1114112 * (cur.length + 1) ≤ 1114112 * 64 := Nat.mul_le_mul_left _ (by omega)
    omega
  have := okR_le r2
  omega
theorem DecAt.bad {base : Nat} {w wq : World} {bs ds : List UInt8} {v : Value} {t : ByteArray} {n a p b delta : Nat} {rest : List Nat} (h : DecAt base w wq bs ds v t n a p b) (h0 : 0 < t.size) (hr : rd 36 b (t.data.toList.map dg) = some (delta, rest))
    (hv : ¬ okR (a + (p + delta) / (n + 1))) : ∀ l, ¬ Dec bs.length (bs.map (·.toNat)) 128 0 72 (ds.map dg) l := by
  intro l hdec
  obtain ⟨cur, h1, _, h3⟩ := h.row
  obtain ⟨delta', rest', r1, r2, _⟩ := ((h3 l).2 hdec).first (map_ne h0)
  rw [hr] at r1
  simp only [Option.some.injEq, Prod.mk.injEq] at r1
  obtain ⟨rfl, rfl⟩ := r1
  rw [h1] at r2
  exact hv r2
theorem DecAt.next {base : Nat} {w wq w' : World} {bs ds : List UInt8} {v : Value} {t : ByteArray} {n a p b delta u : Nat} {cur : List Nat} (h : DecAt base w wq bs ds v t n a p b) (hc : cur.length = n)
    (hiff : ∀ l, Dec bs.length cur a p b (t.data.toList.map dg) l ↔ Dec bs.length (bs.map (·.toNat)) 128 0 72 (ds.map dg) l)
    (hr : rd 36 b (t.data.toList.map dg) = some (delta, (t.data.toList.drop u).map dg)) (hu1 : 1 ≤ u) (hu : u ≤ t.size) (huv : ∀ c ∈ t.data.toList.take u, dg c < 36) (hdl : delta ≤ 71303168) (hv : okR (a + (p + delta) / (n + 1)))
    {v' : Value} (hown : w'.ownsRow base 21 1 v' (n + 1) (rvs (ins ((p + delta) % (n + 1)) (a + (p + delta) / (n + 1)) cur))) (hb : Below base w w') :
    DecAt base w w' bs ds v' (t.extract u t.size) (n + 1) (a + (p + delta) / (n + 1)) ((p + delta) % (n + 1) + 1) (adp delta (n + 1) (n == bs.length)) := by
  have hp := pl_le (p + delta) cur
  rw [hc] at hp
  have hte : (t.extract u t.size).data.toList = t.data.toList.drop u := Lib.extract_to_end t u
  have hts : (t.extract u t.size).size = t.size - u := by rw [Lib.size_eq, hte, List.length_drop, ← Lib.size_eq]
  obtain ⟨us, e1, e2⟩ := h.tail
  have hlen := h.len
  refine ⟨⟨_, by rw [ins_length (by omega), hc], hown, fun l => ?_⟩, hb, ⟨us ++ t.data.toList.take u, ?_, ?_⟩, by omega, by rw [hts]; omega, okR_le hv, ?_⟩
  · rw [hte, ← hiff l]
    constructor
    · intro hd
      refine .step _ _ _ _ delta _ _ _ hr (by rw [hc]; exact hv) ?_
      rw [hc]; exact hd
    · intro hd
      obtain ⟨delta', rest', r1, r2, r3⟩ := hd.first (by intro e; rw [e] at hr; simp [rd] at hr)
      rw [hr] at r1
      simp only [Option.some.injEq, Prod.mk.injEq] at r1
      obtain ⟨rfl, rfl⟩ := r1
      rw [hc] at r3
      exact r3
  · rw [hte, List.append_assoc, List.take_append_drop]; exact e1
  · intro c hc'
    rcases List.mem_append.1 hc' with hc' | hc'
    · exact e2 c hc'
    · exact huv c hc'
  · have := adp_le delta (n + 1) (n == bs.length); omega
theorem DecAt.done {base : Nat} {w wq : World} {bs ds : List UInt8} {v : Value} {t : ByteArray} {n a p b : Nat} (h : DecAt base w wq bs ds v t n a p b) (h0 : t.size = 0) :
    ∃ l : List Nat, l.length = n ∧ wq.ownsRow base 21 1 v n (rvs l) ∧ Dec bs.length (bs.map (·.toNat)) 128 0 72 (ds.map dg) l ∧ ∀ c ∈ ds, dg c < 36 := by
  obtain ⟨cur, h1, h2, h3⟩ := h.row
  obtain ⟨us, e1, e2⟩ := h.tail
  have ht : t.data.toList = [] := List.length_eq_zero_iff.1 (by rw [← Lib.size_eq]; exact h0)
  rw [ht] at h3 e1
  refine ⟨cur, h1, h2, (h3 cur).1 (.stop _ _ _ _), ?_⟩
  rw [e1, List.append_nil]; exact e2

/-- what Decode answers -/
def DecPost (s : ByteArray) (w : World) (e : Ending) (w' : World) : Prop :=
  (e = .returned (.tuple #[.slice none 0 0, .int .i64 3]) ∧ Below w.heap.size w w' ∧ ∀ l, ¬ Puny s.data.toList l) ∨
  ∃ (v : Value) (n : Nat) (l : List Nat), e = .returned (.tuple #[v, .int .i64 0]) ∧ w'.ownsRow w.heap.size 21 1 v n (rvs l) ∧ Below w.heap.size w w' ∧ Puny s.data.toList l
theorem puny_none {s bs ds : List UInt8} (hs : s = shp bs ds) (hd : (45 : UInt8) ∉ ds) (h : ∀ l, (∀ c ∈ ds, dg c < 36) → ¬ Dec bs.length (bs.map (·.toNat)) 128 0 72 (ds.map dg) l) : ∀ l, ¬ Puny s l := by
  rintro l ⟨cs, es, e1, e2, _, e4⟩
  obtain ⟨rfl, rfl⟩ := shp_inj hd (dash_free e2) (hs.symm.trans e1)
  exact h l e2 e4

set_option maxHeartbeats 400000 in
theorem decode_long (s : ByteArray) (w : World) (hs : 63 < s.size) (hs2 : s.size ≤ 9223372036854775807) :
    Calls Tryz.prog 91 #[.string s] w fun e w' => e = .returned (.tuple #[.slice none 0 0, .int .i64 3]) ∧ w = w' := by
  go_enter Tryz.func91, Tryz.ntmps91
  go_wp2
  go_ret2
  exact ⟨rfl, rfl⟩

theorem is_wrong_at (x : Int) (r : Nat) (v : Bool) (w : World) (hx : x = r) (h : (!Lib.validRune r) = v) : Calls Tryz.prog 86 #[.int .i32 x] w fun e w' => e = .returned (.bool v) ∧ w = w' := by
  subst hx; exact is_wrong r v w h
theorem insert_at (base : Nat) (v : Value) (n p a : Nat) (x : Int) (xs : List Nat) (w w1 : World) (hown : w.ownsRow base 21 1 v n (rvs xs)) (hbase : base ≤ w.heap.size) (hn : n ≤ 1000) (hp : p ≤ n) (hx : x = a)
    (hw1 : w1 = w.alloc (.cells #[.int .i32 x] 21)) :
    Calls Tryz.prog 102 #[v, .int .i64 p, .slice (some ⟨w.heap.size, 0, none⟩) 1 1] w1 fun e w' => ∃ v', e = .returned v' ∧ w'.ownsRow base 21 1 v' (xs.length + 1) (rvs (ins p a xs)) ∧ Below base w w' := by
  subst hx hw1
  have hb1 : Below base w (w.alloc (.cells #[.int .i32 (a : Int)] 21)) := (Below.refl _ w).alloc hbase _
  refine (insert_any base v n p w.heap.size a xs _ (hown.alloc _) (Nat.le_trans hbase hb1.size) hn hp (heap_alloc_new _ _) (fun e => by have := (hown.lt _ e).2; omega)).mono ?_
  rintro e w' ⟨v', rfl, h1, h2⟩
  exact ⟨v', rfl, h1, hb1.trans h2⟩
set_option maxRecDepth 100000 in
set_option maxHeartbeats 4000000 in
theorem decode_any (s : ByteArray) (w : World) (hs : s.size ≤ 63) :
    Calls Tryz.prog 91 #[.string s] w fun e w' => DecPost s w e w' := by
  have C := parts_any s w hs
  go_enter Tryz.func91, Tryz.ntmps91
  go_wp2_with fail
  refine C.mono ?_
  clear C
  rintro e w1 (⟨rfl, hb, hno⟩ | ⟨v, t, bs, rfl, hown, hb, hshp, hbs, hdash⟩)
  · have H := Lib.hid hno
    have HB := Lib.hid hb
    clear hno hb
    go_wp2
    go_ret2
    refine .inl ⟨rfl, HB.out, ?_⟩
    rintro l ⟨cs, es, e1, e2, e3, _⟩
    exact H.out cs es e1 e3 (dash_free e2)
  · obtain ⟨B, cap, rfl⟩ := own_form hown
    have hlen : bs.length + t.data.toList.length ≤ 63 := by
      have := congrArg List.length hshp
      rw [← Lib.size_eq] at this
      unfold shp at this
      split at this
      · rename_i hb0; subst hb0; simp only [List.length_nil]; omega
      · rw [List.length_append, List.length_cons] at this; omega
    obtain ⟨ds, hds⟩ : ∃ ds, ds = t.data.toList := ⟨_, rfl⟩
    have AT := Lib.hid (DecAt.start (ds := ds) hown hb hds.symm (by rw [hds]; exact hlen))
    rw [← hds] at hshp hdash
    have HS := Lib.hid hshp
    have HD := Lib.hid hdash
    have HBS := Lib.hid hbs
    clear hown hb hlen hds hshp hdash hbs
    revert AT HBS HS
    obtain ⟨f, hf⟩ : ∃ f, f = bs.length := ⟨_, rfl⟩
    rw [← hf]
    have HF := Lib.hid hf; clear hf
    intro AT HS HBS
    have hf1 : f ≤ 63 := by have := AT.out.len; omega
    go_wp2_with fail
    go_loopw [4, 5, 8, 9, 10] (fun x4 x5 x8 x9 x10 wq => ∃ (B : Option Addr) (cap n a p b : Nat) (t : ByteArray), x4 = .slice B n cap ∧ x5 = .string t ∧ x8 = .int .i64 a ∧ x9 = .int .i64 p ∧ x10 = .int .i64 b ∧ Hid (DecAt w.heap.size w wq bs ds (.slice B n cap) t n a p b)) (fun _ x5 _ _ _ _ => match x5 with | .string t => t.size | _ => 0)
    case atStart => exact ⟨B, cap, f, 128, 0, 72, t, rfl, rfl, rfl, rfl, rfl, AT⟩
    case round =>
      clear AT hf1
      obtain ⟨B, cap, n, a, p, b, t, rfl, rfl, rfl, rfl, rfl, HA⟩ := hrel
      obtain ⟨wo, hwo⟩ : ∃ wo : World, wo = wr := ⟨_, rfl⟩
      subst hwo
      have k1 := HA.out.pn
      have k2 := HA.out.len
      have k3 := HA.out.ab
      have k4 := HA.out.bb
      have hsz := HA.out.below.size
      by_cases h0 : 0 < t.size
      · have C := read_any t b wo (by omega) (by omega)
        go_wp2_with fail
        refine C.mono ?_
        clear C
        rintro e w2 ⟨⟨rfl, hnn⟩ | ⟨dl, u, rfl, hu1, hu2, hdl, hrd, huv⟩, rfl⟩
        · have HN := Lib.hid (HA.out.none h0 hnn)
          clear hnn
          go_wp2
          go_ret2
          exact .inl ⟨rfl, HA.out.below, puny_none HS.out HD.out HN.out⟩
        · rw [← Lib.size_eq] at hu2
          have HRD := Lib.hid hrd
          have HUV := Lib.hid huv
          clear hrd huv
          have hu0 : ((u : Int) == 0) = false := by rw [beq_eq_false_iff_ne]; omega
          obtain ⟨q, hq⟩ : ∃ q, q = (p + dl) / (n + 1) := ⟨_, rfl⟩
          have hqi : ((p : Int) + (dl : Int)) / ((n : Int) + 1) = (q : Int) := by rw [hq]; simp
          have hq1 : q ≤ p + dl := by rw [hq]; exact Nat.div_le_self _ _
          have HQ := Lib.hid hq; clear hq
          obtain ⟨r, hr⟩ : ∃ r, r = (p + dl) % (n + 1) := ⟨_, rfl⟩
          have hri : ((p : Int) + (dl : Int)) % ((n : Int) + 1) = (r : Int) := by rw [hr]; simp
          have hr1 : r ≤ n := by have := Nat.mod_lt (p + dl) (show n + 1 > 0 by omega); omega
          have HR := Lib.hid hr; clear hr
          go_wp2_with fail
          refine (adp_at (dl : Int) ((n : Int) + 1) ((n : Int) == (f : Int)) dl (n + 1) (n == f) _ rfl (by omega) (by rw [Bool.eq_iff_iff]; simp; omega) (by omega) (by omega) (by omega)).mono ?_; rintro e w3 ⟨rfl, rfl⟩
          by_cases hok : okR (a + q)
          · have HOK := Lib.hid hok
            have hle := okR_le hok
            have hv := (okR_iff (a + q)).2 hok
            clear hok
            go_wp2_with fail
            refine (is_wrong_at ((a : Int) + (q : Int)) (a + q) false _ (by omega) (by rw [hv]; rfl)).mono ?_; rintro e w4 ⟨rfl, rfl⟩
            clear hv
            obtain ⟨cur, hcl, hown, hiff⟩ := HA.out.row
            have HC := Lib.hid hcl
            have HI := Lib.hid hiff
            have HO := Lib.hid hown
            clear hcl hiff hown
            go_wp2_with fail
            refine (insert_at w.heap.size _ n r (a + q) ((a : Int) + (q : Int)) cur wo _ HO.out (by omega) (by omega) hr1 (by omega) rfl).mono ?_; rintro e w5 ⟨v5, rfl, hown5, hb5⟩
            rw [HC.out] at hown5
            obtain ⟨B5, cap5, rfl⟩ := own_form hown5
            have HN : Hid (DecAt w.heap.size w w5 bs ds (.slice B5 (n + 1) cap5) (t.extract u t.size) (n + 1) (a + q) (r + 1) (adp dl (n + 1) (n == f))) := by
              have := HA.out.next HC.out HI.out HRD.out hu1 hu2 HUV.out hdl (by rw [← HQ.out]; exact HOK.out) (by rw [← HQ.out, ← HR.out]; exact hown5) (HA.out.below.trans hb5)
              rw [← HQ.out, ← HR.out, ← HF.out] at this
              exact this
            clear hown5 hb5 HO HI HC HUV HRD HA
            revert HN
            generalize adp dl (n + 1) (n == f) = b2
            intro HN
            go_wp2_with fail
            go_roundw
            case rel => exact ⟨B5, cap5, n + 1, a + q, r + 1, b2, t.extract u t.size, rfl, rfl, by go_num, by go_num, rfl, HN⟩
            case measure =>
              have hts : (t.extract u t.size).size = t.size - u := by rw [Lib.size_eq, Lib.extract_to_end, List.length_drop, ← Lib.size_eq]
              show (t.extract u t.size).size < t.size
              omega
          · have hv : Lib.validRune ((a + q : Nat) : Int) = false := by rw [Bool.eq_false_iff]; intro e; exact hok ((okR_iff _).1 e)
            have HN := Lib.hid (HA.out.bad h0 HRD.out (by rw [← HQ.out]; exact hok))
            clear hok
            go_wp2_with fail
            refine (is_wrong_at ((a : Int) + (q : Int)) (a + q) true _ (by omega) (by rw [hv]; rfl)).mono ?_; rintro e w4 ⟨rfl, rfl⟩
            clear hv
            go_wp2
            go_ret2
            exact .inl ⟨rfl, HA.out.below, puny_none HS.out HD.out (fun l _ => HN.out l)⟩
      · obtain ⟨l, hl1, hl2, hl3, hl4⟩ := HA.out.done (by omega)
        have H1 := Lib.hid hl1
        have H2 := Lib.hid hl2
        have H3 := Lib.hid hl3
        have H4 := Lib.hid hl4
        clear hl1 hl2 hl3 hl4
        go_wp2_with fail
        go_ret2
        exact .inr ⟨_, n, l, rfl, H2.out, HA.out.below, ⟨bs, ds, HS.out, H4.out, HBS.out, H3.out⟩⟩
end Go.Proofs.YtgopjgbcnjkblaaGreatDoor
