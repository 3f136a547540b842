/-
  Rows of bytes of the call's own, runes that lie in a slice, and the walks of puny.write, puny.basics and puny.least. Conditions: each states its own.
-/
import Derived.Test.YtgopjgbcnjkblaaGreatDoorPunyRead
import Derived.Laws.AppendOwnNone
import Derived.OwnWalk
namespace Go.Proofs.YtgopjgbcnjkblaaGreatDoor
open Go.RowKit

def bvs (xs : List UInt8) : List Value := xs.map fun c => .int .u8 c.toNat
theorem infoU8 : (Tryz.prog.info? 5).map (fun i => (i.zero, i.size, i.bytes)) = some (some (.int .u8 0), 1, 1) := by kernel_rfl
/-- append of one byte to a row of the call's own -/
theorem wpList_append_b {w : World} {ops : Array Oper} {rest : List Oper} {o : Oper} {a : Act} {Q : Exit → Act → World → Prop} (hgd : o.guard = none) (s x : Operand)
    (ho : o.op = .call { callee := .builtin .append, args := #[s, x], argTypes := #[106, 106] })
    (base : Nat) (v : Value) (xs : List UInt8) (n : Nat) (hs : a.eval s = v) (hown : w.ownsRow base 5 1 v n (bvs xs))
    (ad : Addr) (c : UInt8) (hx : a.eval x = .slice (some ad) 1 1) (hc : w.cell? ad = some (.int .u8 c.toNat)) (hn : n ≤ 100000000000) (hbase : base ≤ w.heap.size)
    (h : ∀ v' w', w'.ownsRow base 5 1 v' (n + 1) (bvs (xs ++ [c])) → Below base w w' → wpList Tryz.prog ops Q rest (a.put o.dst v') w') : wpList Tryz.prog ops Q (o :: rest) a w := by
  obtain ⟨i0, hi, hz0, hz1, hz2⟩ := info_parts infoU8
  refine wpList_append_own (w := w) hgd s x 106 ho base 5 i0 (.int .u8 0) 1 1 Tryz.underlying106 hi hz0 hz1 hz2 rfl (by decide) v n (bvs xs) hs hown ad 1 1 [.int .u8 c.toNat] hx (by simp)
    (fun j u hj => by
      cases j with
      | zero =>
        simp only [List.getElem?_cons_zero, Option.some.injEq] at hj
        subst hj
        obtain ⟨b, o, sp⟩ := ad
        have e : (⟨b, o, sp⟩ : Addr).add 0 = ⟨b, o, sp⟩ := by unfold Addr.add; split <;> simp_all
        rw [e]; exact hc
      | succ j => simp at hj)
    (fun u hu => by rw [List.mem_singleton.1 hu]; rfl) (by unfold maxLen; omega) (by omega) hbase (fun v' w' h2 h3 _ => h v' w' (by unfold bvs at h2 ⊢; rw [List.map_append]; exact h2) ((Below.refl _ _).grown h3 hbase fun k hk => (hown.lt k hk).1))

theorem cell_new (w : World) (x y : Value) (t : TypeId) (m : Nat × Nat) (h : x = y) : (w.alloc (.cells #[x] t m)).cell? ⟨w.heap.size, 0, none⟩ = some y := by
  subst h; rw [World.cell?_alloc_mark]; rfl
theorem byteV {a b : UInt8} (h : a = b) : Value.int .u8 a.toNat = Value.int .u8 b.toNat := by rw [h]
theorem signs_at (d : Nat) (h : d < 36) (h' : d < (ByteArray.mk #[97, 98, 99, 100, 101, 102, 103, 104, 105, 106, 107, 108, 109, 110, 111, 112, 113, 114, 115, 116, 117, 118, 119, 120, 121, 122, 48, 49, 50, 51, 52, 53, 54, 55, 56, 57]).size) :
    (ByteArray.mk #[97, 98, 99, 100, 101, 102, 103, 104, 105, 106, 107, 108, 109, 110, 111, 112, 113, 114, 115, 116, 117, 118, 119, 120, 121, 122, 48, 49, 50, 51, 52, 53, 54, 55, 56, 57])[d] = sg d := by
  have : ∀ k : Fin 36, (ByteArray.mk #[97, 98, 99, 100, 101, 102, 103, 104, 105, 106, 107, 108, 109, 110, 111, 112, 113, 114, 115, 116, 117, 118, 119, 120, 121, 122, 48, 49, 50, 51, 52, 53, 54, 55, 56, 57])[k.val]'(by have := k.isLt; show k.val < 36; omega) = sg k.val := by decide +kernel
  exact this ⟨d, h⟩

/-- how write's loop stands -/
structure WrAt (base : Nat) (w wr : World) (b : Nat) (all : List UInt8) (n0 num0 : Nat) (v : Value) (num k : Nat) : Prop where
  row : ∃ n xs, wr.ownsRow base 5 1 v n (bvs xs) ∧ n + num ≤ n0 + num0 ∧ xs ++ (dgs k b num).map sg = all
  below : Below base w wr
  kb : k + 36 * num ≤ 36 + 36 * num0

/-- what write answers -/
def WrPost (base : Nat) (w : World) (all : List UInt8) (m : Nat) (e : Ending) (w' : World) : Prop := ∃ v' n', e = .returned v' ∧ w'.ownsRow base 5 1 v' n' (bvs all) ∧ Below base w w' ∧ n' ≤ m
theorem Below.alloc' {B : Nat} {w w1 : World} (h : Below B w w1) (hB : B ≤ w.heap.size) (o : Obj) : Below B w (w1.alloc o) := h.alloc (Nat.le_trans hB h.size) o
set_option maxRecDepth 100000 in
set_option maxHeartbeats 1000000 in
theorem write_any (base : Nat) (v : Value) (n num b : Nat) (xs : List UInt8) (w : World) (hown : w.ownsRow base 5 1 v n (bvs xs)) (hbase : base ≤ w.heap.size) (hn : n ≤ 10000000000) (hnum : num ≤ 1000000000) (hb : b ≤ 100000000000) :
    Calls Tryz.prog 89 #[v, .int .i64 num, .int .i64 b] w fun e w' => WrPost base w (xs ++ (dgs 36 b num).map sg) (n + num + 1) e w' := by
  go_enter Tryz.func89, Tryz.ntmps89
  go_wp2
  go_loopw [0, 1, 7] (fun x y z wr' => ∃ (num' k : Nat), y = .int .i64 num' ∧ z = .int .i64 k ∧ WrAt base w wr' b (xs ++ (dgs 36 b num).map sg) n num x num' k) (fun _ y _ _ => (intOf y).toNat)
  case atStart => exact ⟨num, 36, rfl, rfl, ⟨n, xs, hown, Nat.le_refl _, rfl⟩, Below.refl _ _, Nat.le_refl _⟩
  case round =>
    obtain ⟨num', k, rfl, rfl, hat⟩ := hrel
    have HA := Lib.hid hat
    have k1 := hat.kb
    obtain ⟨n1, xs1, hown1, hle1, hall1⟩ := hat.row
    have hb1 := hat.below
    have hsz1 := hb1.size
    clear hat
    have HALL := Lib.hid hall1; clear hall1
    obtain ⟨t, ht⟩ : ∃ t, t = thr k b := ⟨_, rfl⟩
    obtain ⟨ht1, ht2⟩ : 1 ≤ t ∧ t ≤ 26 := by rw [ht]; exact thr_bd _ _
    have HT := Lib.hid ht.symm; clear ht
    by_cases hlt : num' < t
    · go_wp2_with fail
      refine (thr_to _ _ k b t _ HT.out rfl rfl (by omega) (by omega)).mono ?_; rintro e w' ⟨rfl, rfl⟩
      go_wp2_with (at_builtin; refine wpList_append_b rfl (.tmp 17) (.tmp 20) rfl base _ xs1 n1 rfl (hown1.alloc _) ⟨wr.heap.size, 0, none⟩ (sg num') rfl (cell_new _ _ _ _ _ ?_) (by omega) (by simp; omega) ?_; (focus (exact byteV (signs_at num' (by omega) _))); intro v' w1 hown2 hb2)
      go_ret
      refine ⟨v', n1 + 1, rfl, ?_, ?_, by omega⟩
      · have e := HALL.out
        rw [wr_end (by rw [HT.out]; exact hlt)] at e
        rw [← e]; exact hown2
      · exact (Below.alloc' hb1 hbase _).trans hb2
    · obtain ⟨d, hd⟩ : ∃ d, d = t + (num' - t) % (36 - t) := ⟨_, rfl⟩
      have hdi : (t : Int) + ((num' : Int) - (t : Int)) % (36 - (t : Int)) = (d : Int) := by
        rw [hd, show (36 : Int) - (t : Int) = ((36 - t : Nat) : Int) by omega, show (num' : Int) - (t : Int) = ((num' - t : Nat) : Int) by omega]; simp
      have hd36 : d < 36 := by have := Nat.mod_lt (num' - t) (show 36 - t > 0 by omega); omega
      have HD := Lib.hid hd; clear hd
      obtain ⟨q, hq⟩ : ∃ q, q = (num' - t) / (36 - t) := ⟨_, rfl⟩
      have hqi : ((num' : Int) - (t : Int)) / (36 - (t : Int)) = (q : Int) := by
        rw [hq, show (36 : Int) - (t : Int) = ((36 - t : Nat) : Int) by omega, show (num' : Int) - (t : Int) = ((num' - t : Nat) : Int) by omega]; simp
      have hq1 : q ≤ num' - t := by rw [hq]; exact Nat.div_le_self _ _
      have HQ := Lib.hid hq; clear hq
      go_wp2_with fail
      refine (thr_to _ _ k b t _ HT.out rfl rfl (by omega) (by omega)).mono ?_; rintro e w' ⟨rfl, rfl⟩
      go_wp2_with (at_builtin; refine wpList_append_b rfl (.tmp 22) (.tmp 32) rfl base _ xs1 n1 rfl (hown1.alloc _) ⟨wr.heap.size, 0, none⟩ (sg d) rfl (cell_new _ _ _ _ _ ?_) (by omega) (by simp; omega) ?_; (focus (exact byteV (signs_at d hd36 _))); intro v' w1 hown2 hb2)
      go_roundw
      case rel =>
        refine ⟨q, k + 36, by rw [hqi], by go_num, ⟨n1 + 1, xs1 ++ [sg d], hown2, by omega, ?_⟩, (Below.alloc' hb1 hbase _).trans hb2, by omega⟩
        have e := HALL.out
        rw [wr_go (by rw [HT.out]; exact hlt), HT.out, ← HD.out, ← HQ.out] at e
        rw [← e]; simp
      case measure => simp [intOf, hqi]; omega

/-- the slice at A holds these runes -/
def Runes (w : World) (A : Option Addr) (l : List Nat) : Prop := 0 < l.length → ∃ b o, A = some ⟨b, o, none⟩ ∧ b < w.heap.size ∧ ∀ j, j < l.length → w.cell? ⟨b, o + j, none⟩ = some (.int .i32 (l.getD j 0 : Nat))
theorem Runes.below {w w' : World} {A : Option Addr} {l : List Nat} (h : Runes w A l) (hb : Below w.heap.size w w') : Runes w' A l := fun h0 => by
  obtain ⟨b, o, rfl, hlt, hc⟩ := h h0
  exact ⟨b, o, rfl, Nat.lt_of_lt_of_le hlt hb.size, fun j hj => (hb.cell (p := ⟨b, o + j, none⟩) hlt).trans (hc j hj)⟩
theorem Runes.drewN {w : World} {A : Option Addr} {l : List Nat} (h : Runes w A l) (q : Nat) : Runes (w.drewN q) A l := h.below (below_drewN (Below.refl _ _) q)
theorem getD_mem_nat {l : List Nat} {j : Nat} (h : j < l.length) : l.getD j 0 ∈ l := by
  rw [List.getD, List.getElem?_eq_getElem h]; exact List.getElem_mem h
theorem getD_at {l : List Nat} {j : Nat} (h : j < l.length) : l.getD j 0 = l[j] := by
  rw [List.getD, List.getElem?_eq_getElem h]; rfl
theorem take_nextD {l : List Nat} {j : Nat} (h : j < l.length) : l.take (j + 1) = l.take j ++ [l.getD j 0] := by
  rw [getD_at h]; exact take_next h

theorem i32V {a b : Int} (h : a = b) : Value.int .i32 a = Value.int .i32 b := by rw [h]
/-- the least one from a on among the first j -/
def lstK (l : List Nat) (a j : Nat) : Nat := lst (l.take j) a
theorem lstK_next {l : List Nat} {a j : Nat} (h : j < l.length) : lstK l a (j + 1) = if a ≤ l.getD j 0 then min (lstK l a j) (l.getD j 0) else lstK l a j := by
  unfold lstK lst
  rw [take_nextD h, List.filter_append, List.foldl_append, List.filter_cons, List.filter_nil]
  split
  · rename_i h1
    rw [if_pos (by simpa using h1)]; rfl
  · rename_i h1
    rw [if_neg (by simpa using h1)]; rfl
set_option maxHeartbeats 400000 in
theorem least_any (A : Option Addr) (n c a : Nat) (l : List Nat) (w : World) (hn : l.length = n) (hn63 : n ≤ 1000000) (hl : ∀ r ∈ l, r ≤ 1114111) (hr : Runes w A l) :
    Calls Tryz.prog 88 #[.slice A n c, .int .i32 a] w fun e w' => e = .returned (.int .i32 (lst l a)) ∧ w = w' := by
  have HN := Lib.hid hn; clear hn
  go_enter Tryz.func88, Tryz.ntmps88
  go_wp2
  go_loop [5, 10] (fun x y => ∃ k : Nat, k ≤ n ∧ y = .int .i64 k ∧ x = .int .i32 (lstK l a k)) (fun _ y => n - (intOf y).toNat)
  case atStart => exact ⟨0, Nat.zero_le _, rfl, rfl⟩
  case round =>
    obtain ⟨k, hk, rfl, rfl⟩ := hrel
    by_cases hlt : k < n
    · have hkl : k < l.length := by rw [HN.out]; exact hlt
      obtain ⟨b, o, rfl, hbl, hcell⟩ := hr (by omega)
      have c0 := hcell k hkl
      have r1 := hl _ (getD_mem_nat hkl)
      have m1 : lstK l a k ≤ 1114111 := lst_le _ _
      have N := Lib.hid (lstK_next (a := a) hkl)
      have N2 : lstK l a k ≤ lstK l a k := Nat.le_refl _
      clear hcell hr
      revert c0 r1 m1 N N2
      generalize l.getD k 0 = r
      generalize lstK l a k = m
      intro c0 r1 m1 N N2
      by_cases h1 : a ≤ r
      · go_wp2
        all_goals
          go_round
          case rel => exact ⟨k + 1, by omega, by go_num, by rw [N.out, if_pos h1]; exact i32V (by omega)⟩
          case measure => simp [intOf]; omega
      · go_wp2
        go_round
        case rel => exact ⟨k + 1, by omega, by go_num, by rw [N.out, if_neg h1]⟩
        case measure => simp [intOf]; omega
    · obtain rfl : k = n := by omega
      have E0 : lstK l a k = lst l a := by unfold lstK; rw [List.take_of_length_le (by rw [HN.out]; exact Nat.le_refl _)]
      have E := Lib.hid E0; clear E0
      go_wp2
      go_ret
      exact ⟨by rw [← E.out]; rfl, rfl⟩

/-- what basics answers -/
def BsPost (w : World) (l : List Nat) (e : Ending) (w' : World) : Prop := ∃ v n, e = .returned v ∧ w'.ownsRow w.heap.size 5 1 v n (bvs ((l.filter (· < 128)).map UInt8.ofNat)) ∧ Below w.heap.size w w'
def bsK (l : List Nat) (k : Nat) : List UInt8 := ((l.take k).filter (· < 128)).map UInt8.ofNat
theorem bsK_next {l : List Nat} {j : Nat} (h : j < l.length) : bsK l (j + 1) = if l.getD j 0 < 128 then bsK l j ++ [UInt8.ofNat (l.getD j 0)] else bsK l j := by
  unfold bsK
  rw [take_nextD h, List.filter_append, List.filter_cons, List.filter_nil, List.map_append]
  split
  · rename_i h1
    rw [if_pos (by simpa using h1)]; rfl
  · rename_i h1
    rw [if_neg (by simpa using h1)]; simp
theorem byteN {r : Nat} (h : r < 128) : Value.int .u8 (r : Int) = Value.int .u8 (UInt8.ofNat r).toNat := by
  congr 1
  rw [UInt8.toNat_ofNat']; omega
set_option maxRecDepth 100000 in
set_option maxHeartbeats 1000000 in
theorem basics_any (A : Option Addr) (n c : Nat) (l : List Nat) (w : World) (hn : l.length = n) (hn63 : n ≤ 1000000) (hl : ∀ r ∈ l, r ≤ 1114111) (hr : Runes w A l) :
    Calls Tryz.prog 87 #[.slice A n c] w fun e w' => BsPost w l e w' := by
  have HN := Lib.hid hn; clear hn
  go_enter Tryz.func87, Tryz.ntmps87
  go_wp2
  go_loopw [3, 8] (fun x y wq => ∃ k m : Nat, k ≤ n ∧ y = .int .i64 k ∧ m ≤ k ∧ wq.ownsRow w.heap.size 5 1 x m (bvs (bsK l k)) ∧ Below w.heap.size w wq) (fun _ y _ => n - (intOf y).toNat)
  case atStart => exact ⟨0, 0, Nat.zero_le _, rfl, Nat.le_refl _, World.ownsRow_nil _ _ _ _, Below.refl _ _⟩
  case round =>
    obtain ⟨k, m, hk, rfl, hmk, hown, hb⟩ := hrel
    have hsz := hb.size
    by_cases hlt : k < n
    · have hkl : k < l.length := by rw [HN.out]; exact hlt
      obtain ⟨b, o, rfl, hbl, hcell⟩ := hr.below hb (by omega)
      have c0 := hcell k hkl
      have r1 := hl _ (getD_mem_nat hkl)
      have N := Lib.hid (bsK_next hkl)
      clear hcell hr
      revert c0 r1 N
      generalize l.getD k 0 = r
      intro c0 r1 N
      by_cases h1 : r < 128
      · go_wp2_with (at_builtin; refine wpList_append_b rfl (.tmp 14) (.tmp 17) rfl w.heap.size _ (bsK l k) m rfl (hown.alloc _) ⟨wr.heap.size, 0, none⟩ (UInt8.ofNat r) rfl (cell_new _ _ _ _ _ ?_) (by omega) (by simp; omega) ?_; (focus (exact byteN h1)); intro v' w1 hown2 hb2)
        go_roundw
        case rel => exact ⟨k + 1, m + 1, by omega, by go_num, by omega, by rw [N.out, if_pos h1]; exact hown2, (Below.alloc' hb (Nat.le_refl _) _).trans hb2⟩
        case measure => simp [intOf]; omega
      · go_wp2
        go_roundw
        case rel => exact ⟨k + 1, m, by omega, by go_num, by omega, by rw [N.out, if_neg h1]; exact hown, hb⟩
        case measure => simp [intOf]; omega
    · obtain rfl : k = n := by omega
      have E0 : bsK l k = (l.filter (· < 128)).map UInt8.ofNat := by unfold bsK; rw [List.take_of_length_le (by rw [HN.out]; exact Nat.le_refl _)]
      have E := Lib.hid E0; clear E0
      go_wp2
      go_ret
      exact ⟨_, m, rfl, by rw [← E.out]; exact hown, hb⟩
end Go.Proofs.YtgopjgbcnjkblaaGreatDoor
