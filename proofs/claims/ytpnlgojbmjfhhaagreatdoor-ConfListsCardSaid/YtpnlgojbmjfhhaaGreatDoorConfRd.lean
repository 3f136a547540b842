/-
  The walk of conf.number: a number of digits without noughts ahead, brought to 30. No condition.
  A configuration as it lies in memory while its lines are read, and as it is handed on. Conditions: each states its own.
  The walks of conf.setOptions and conf.setSearch. Conditions: the configuration lies in memory of the call's own; the words lie in memory; the library's variables hold what their initialisers lay.
  The walk of conf.setSearch. Conditions: the configuration lies in memory of the call's own; the words lie in memory; the library's variables hold what their initialisers lay.
  The walk of conf.addServer. Conditions: the configuration lies in memory of the call's own; the words lie in memory; the library's variables hold what their initialisers lay.
  The walks of conf.turn, Default and Parse: what a text tells, or the first line's fault. Conditions: a text that may come in; the library's variables hold what their initialisers lay.
  The walk of conf.Parse: what a text tells, or the first line's fault. Conditions: a text that may come in; the library's variables hold what their initialisers lay.
-/
import Derived.Test.YtpnlgojbmjfhhaaGreatDoorAddrPu
import Derived.Test.YtpnlgojbmjfhhaaGreatDoorConfMath
import Derived.Test.YtpnlgojbmjfhhaaGreatDoorConfWd
import Derived.Lib.OwnKind
import Derived.Deep.Heap
import Derived.Deep.RegionHeld3
import Derived.Deep.MidRow
import Derived.Deep.RegionLaw
namespace Go.Proofs.YtpnlgojbmjfhhaaGreatDoor
open Go.RowKit

def NumPost (w : World) (s : List UInt8) (e : Ending) (w' : World) : Prop :=
  Below w.heap.size w w' ∧ ((∃ n : Nat, numC s = some n ∧ e = .returned (.tuple #[.int .i64 n, .bool true])) ∨ (numC s = none ∧ e = .returned (.tuple #[.int .i64 0, .bool false])))
set_option maxRecDepth 100000 in
set_option maxHeartbeats 4000000 in
theorem number_a (t : ByteArray) (w : World) (hs : t.size ≤ 4294967296) (hemp : t.toList.isEmpty = false) (h0 : 0 < t.size) (hsz : t.data.toList.length = t.size) (hR0 : numC t.data.toList = numG 0 t.data.toList) (b1 : ¬ (t[0].toNat : Int) = 48) : Calls Tryz.prog 67 #[.string t] w (NumPost w t.data.toList) := by
  have hcv := Lib.run_convert_string_bytes (P := Tryz.prog) w 9 62 5 t (u := .string) Tryz.underlying9 Tryz.underlying62 Tryz.underlying5
  have hB : ∀ j, j < t.size → (Lib.bytesWorld w 5 t).cell? ⟨w.heap.size, j, none⟩ = some (.int .u8 (t.data.toList.getD j 0).toNat) := fun j hj => Lib.bytesWorld_cell w 5 t j hj
  have hbel : Below w.heap.size w (Lib.bytesWorld w 5 t) := Joins.below_bytesWorld _ w _ t (Nat.le_refl _)
  obtain ⟨W1, hW1⟩ : ∃ W1, W1 = Lib.bytesWorld w 5 t := ⟨_, rfl⟩
  rw [← hW1] at hcv hB hbel
  obtain ⟨bs, hL⟩ : ∃ bs, bs = t.data.toList := ⟨_, rfl⟩
  have HP : Hid (∀ e w', (Below w.heap.size w w' ∧ ((∃ n : Nat, numG 0 bs = some n ∧ e = .returned (.tuple #[.int .i64 n, .bool true])) ∨ (numG 0 bs = none ∧ e = .returned (.tuple #[.int .i64 0, .bool false])))) → NumPost w t.data.toList e w') := Lib.hid (fun e w' h => by
    unfold NumPost
    rw [hR0, ← hL]; exact h)
  rw [← hL] at hB hsz
  have HB := Lib.hid hB
  have HBel := Lib.hid hbel
  have HS := Lib.hid hsz
  clear hL hR0 hB hbel hW1 hsz
  go_enter Tryz.func67, Tryz.ntmps67
  go_wp2
  go_loop [4, 6, 22] (fun vn _ vi => ∃ (k acc : Nat), vn = .int .i64 acc ∧ vi = .int .i64 k ∧ k ≤ t.size ∧ Hid (acc ≤ 30 ∧ numG 0 bs = numG acc (bs.drop k)))
    (fun _ _ vi => t.size - (intOf vi).toNat)
  case atStart => exact ⟨0, 0, rfl, rfl, by omega, by omega, rfl⟩
  case round =>
    obtain ⟨k, acc, rfl, rfl, hk, hh⟩ := hrel
    obtain ⟨hacc, hdec⟩ := hh.out
    clear hh
    by_cases hkn : k < t.size
    · have hc := HB.out k hkn
      have hlen := HS.out
      have hdrop : bs.drop k = bs[k]'(by omega) :: bs.drop (k + 1) := List.drop_eq_getElem_cons (by omega)
      have hget : bs.getD k 0 = bs[k]'(by omega) := by simp [List.getD, List.getElem?_eq_getElem (show k < bs.length by omega)]
      rw [hdrop] at hdec
      rw [hget] at hc
      generalize bs[k]'(by omega) = c at hc hdec
      have hc256 : c.toNat < 256 := c.toNat_lt
      clear hdrop hget hlen
      by_cases hdig : 48 ≤ c.toNat ∧ c.toNat ≤ 57
      · rw [numG, if_pos hdig] at hdec
        obtain ⟨d0, d1⟩ := hdig
        obtain ⟨m, hm⟩ : ∃ m, m = min (10 * acc + (c.toNat - 48)) 30 := ⟨_, rfl⟩
        rw [← hm] at hdec
        have hmin : min (10 * (acc : Int) + ((c.toNat : Int) - 48)) 30 = (m : Int) := by omega
        have HN : Hid (m ≤ 30 ∧ numG 0 bs = numG m (bs.drop (k + 1))) := Lib.hid ⟨by omega, hdec⟩
        clear hm hdec
        go_wp2
        refine ⟨⟨k + 1, m, rfl, (by first | rfl | (congr 1; omega)), by omega, HN⟩, by simp [intOf]; omega⟩
      · rw [numG, if_neg hdig] at hdec
        have HF := Lib.hid hdec
        have hd : (c.toNat : Int) < 48 ∨ ¬ (c.toNat : Int) < 48 ∧ 57 < (c.toNat : Int) := by omega
        clear hdec hdig
        rcases hd with hd | ⟨hd, hd2⟩
        all_goals
          go_wp2
          go_ret2
          exact HP.out _ _ ⟨HBel.out, .inr ⟨HF.out, rfl⟩⟩
    · obtain rfl : k = t.size := by omega
      have hlen := HS.out
      rw [List.drop_eq_nil_of_le (by omega), numG] at hdec
      have HF := Lib.hid hdec
      clear hdec hlen
      go_wp2
      go_ret2
      exact HP.out _ _ ⟨HBel.out, .inl ⟨acc, HF.out, rfl⟩⟩
set_option maxRecDepth 100000 in
set_option maxHeartbeats 4000000 in
theorem number_b (t : ByteArray) (w : World) (hs : t.size ≤ 4294967296) (hemp : t.toList.isEmpty = false) (h0 : 0 < t.size) (hsz : t.data.toList.length = t.size) (hR0 : numC t.data.toList = numG 0 t.data.toList) (b1 : (t[0].toNat : Int) = 48) (l1 : ¬ (1 : Int) < (t.size : Int)) : Calls Tryz.prog 67 #[.string t] w (NumPost w t.data.toList) := by
  have hcv := Lib.run_convert_string_bytes (P := Tryz.prog) w 9 62 5 t (u := .string) Tryz.underlying9 Tryz.underlying62 Tryz.underlying5
  have hB : ∀ j, j < t.size → (Lib.bytesWorld w 5 t).cell? ⟨w.heap.size, j, none⟩ = some (.int .u8 (t.data.toList.getD j 0).toNat) := fun j hj => Lib.bytesWorld_cell w 5 t j hj
  have hbel : Below w.heap.size w (Lib.bytesWorld w 5 t) := Joins.below_bytesWorld _ w _ t (Nat.le_refl _)
  obtain ⟨W1, hW1⟩ : ∃ W1, W1 = Lib.bytesWorld w 5 t := ⟨_, rfl⟩
  rw [← hW1] at hcv hB hbel
  obtain ⟨bs, hL⟩ : ∃ bs, bs = t.data.toList := ⟨_, rfl⟩
  have HP : Hid (∀ e w', (Below w.heap.size w w' ∧ ((∃ n : Nat, numG 0 bs = some n ∧ e = .returned (.tuple #[.int .i64 n, .bool true])) ∨ (numG 0 bs = none ∧ e = .returned (.tuple #[.int .i64 0, .bool false])))) → NumPost w t.data.toList e w') := Lib.hid (fun e w' h => by
    unfold NumPost
    rw [hR0, ← hL]; exact h)
  rw [← hL] at hB hsz
  have HB := Lib.hid hB
  have HBel := Lib.hid hbel
  have HS := Lib.hid hsz
  clear hL hR0 hB hbel hW1 hsz
  go_enter Tryz.func67, Tryz.ntmps67
  go_wp2
  go_loop [4, 6, 22] (fun vn _ vi => ∃ (k acc : Nat), vn = .int .i64 acc ∧ vi = .int .i64 k ∧ k ≤ t.size ∧ Hid (acc ≤ 30 ∧ numG 0 bs = numG acc (bs.drop k)))
    (fun _ _ vi => t.size - (intOf vi).toNat)
  case atStart => exact ⟨0, 0, rfl, rfl, by omega, by omega, rfl⟩
  case round =>
    obtain ⟨k, acc, rfl, rfl, hk, hh⟩ := hrel
    obtain ⟨hacc, hdec⟩ := hh.out
    clear hh
    by_cases hkn : k < t.size
    · have hc := HB.out k hkn
      have hlen := HS.out
      have hdrop : bs.drop k = bs[k]'(by omega) :: bs.drop (k + 1) := List.drop_eq_getElem_cons (by omega)
      have hget : bs.getD k 0 = bs[k]'(by omega) := by simp [List.getD, List.getElem?_eq_getElem (show k < bs.length by omega)]
      rw [hdrop] at hdec
      rw [hget] at hc
      generalize bs[k]'(by omega) = c at hc hdec
      have hc256 : c.toNat < 256 := c.toNat_lt
      clear hdrop hget hlen
      by_cases hdig : 48 ≤ c.toNat ∧ c.toNat ≤ 57
      · rw [numG, if_pos hdig] at hdec
        obtain ⟨d0, d1⟩ := hdig
        obtain ⟨m, hm⟩ : ∃ m, m = min (10 * acc + (c.toNat - 48)) 30 := ⟨_, rfl⟩
        rw [← hm] at hdec
        have hmin : min (10 * (acc : Int) + ((c.toNat : Int) - 48)) 30 = (m : Int) := by omega
        have HN : Hid (m ≤ 30 ∧ numG 0 bs = numG m (bs.drop (k + 1))) := Lib.hid ⟨by omega, hdec⟩
        clear hm hdec
        go_wp2
        refine ⟨⟨k + 1, m, rfl, (by first | rfl | (congr 1; omega)), by omega, HN⟩, by simp [intOf]; omega⟩
      · rw [numG, if_neg hdig] at hdec
        have HF := Lib.hid hdec
        have hd : (c.toNat : Int) < 48 ∨ ¬ (c.toNat : Int) < 48 ∧ 57 < (c.toNat : Int) := by omega
        clear hdec hdig
        rcases hd with hd | ⟨hd, hd2⟩
        all_goals
          go_wp2
          go_ret2
          exact HP.out _ _ ⟨HBel.out, .inr ⟨HF.out, rfl⟩⟩
    · obtain rfl : k = t.size := by omega
      have hlen := HS.out
      rw [List.drop_eq_nil_of_le (by omega), numG] at hdec
      have HF := Lib.hid hdec
      clear hdec hlen
      go_wp2
      go_ret2
      exact HP.out _ _ ⟨HBel.out, .inl ⟨acc, HF.out, rfl⟩⟩
set_option maxRecDepth 100000 in
set_option maxHeartbeats 4000000 in
theorem number_e (t : ByteArray) (w : World) (hs : t.size ≤ 4294967296) : Calls Tryz.prog 67 #[.string t] w (NumPost w t.data.toList) := by
  by_cases hne : t.data.toList = []
  · obtain rfl : t = ⟨#[]⟩ := bytes_inj hne
    have hr := Lib.hid (show numC [] = none by rfl)
    clear hne
    go_enter Tryz.func67, Tryz.ntmps67
    go_wp2
    go_ret2
    exact ⟨Below.refl _ _, Or.inr ⟨hr.out, rfl⟩⟩
  have h0 : 0 < t.size := by rw [Lib.size_eq]; exact List.length_pos_iff.2 hne
  have hd0 : t.data.toList.head? = some t[0] := by rw [List.head?_eq_getElem?]; exact Lib.data_getElem? t 0 h0
  have hemp : t.toList.isEmpty = false := by
    rw [← decide_eq_emptyBytes]
    exact decide_eq_false (fun h => hne (by rw [h]; rfl))
  have hsz : t.data.toList.length = t.size := (Lib.size_eq t).symm
  have h48 : t[0] = 48 ↔ (t[0].toNat : Int) = 48 := by
    constructor
    · intro h; rw [h]; rfl
    · intro h; apply UInt8.toNat_inj.1; show t[0].toNat = 48; omega
  by_cases hz : (t[0].toNat : Int) = 48 ∧ 1 < t.size
  · have hr := Lib.hid (show numC t.data.toList = none from if_pos (.inr ⟨by rw [hd0, h48.2 hz.1], by rw [hsz]; exact hz.2⟩))
    obtain ⟨b1, l1⟩ := hz
    have l2 : (1 : Int) < (t.size : Int) := by omega
    clear hd0 h48 hsz
    go_enter Tryz.func67, Tryz.ntmps67
    go_wp2
    go_ret2
    exact ⟨Below.refl _ _, Or.inr ⟨hr.out, rfl⟩⟩
  have hR0 : numC t.data.toList = numG 0 t.data.toList := if_neg (by
    rintro (h | ⟨h, hl⟩)
    · exact hne h
    · rw [hd0] at h
      injection h with h
      exact hz ⟨h48.1 h, by rw [← hsz]; exact hl⟩)
  by_cases h : (t[0].toNat : Int) = 48
  · exact number_b t w hs hemp h0 hsz hR0 h (fun hl => hz ⟨h, by omega⟩)
  · exact number_a t w hs hemp h0 hsz hR0 h
end Go.Proofs.YtpnlgojbmjfhhaaGreatDoor
namespace Go.Proofs.YtpnlgojbmjfhhaaGreatDoor
open Go.RowKit

def avs (l : List (List UInt8)) : List Value := l.flatMap bvs
theorem avs_snoc (l : List (List UInt8)) (a : List UInt8) : avs (l ++ [a]) = avs l ++ bvs a := by unfold avs; rw [List.flatMap_append]; simp
theorem avs_len : ∀ {l : List (List UInt8)}, (∀ a ∈ l, a.length = 16) → (avs l).length = l.length * 16
  | [], _ => rfl
  | a :: l, h => by
    have ih := avs_len (l := l) fun b hb => h b (List.mem_cons_of_mem _ hb)
    unfold avs at ih ⊢
    rw [List.flatMap_cons, List.length_append, ih, bvs_length, h a List.mem_cons_self, List.length_cons]; omega
theorem avs_at : ∀ {l : List (List UInt8)} {i : Nat} {a : List UInt8} {j : Nat}, (∀ a ∈ l, a.length = 16) → l[i]? = some a → j < 16 → (avs l)[i * 16 + j]? = (bvs a)[j]?
  | [], i, a, j, _, h, _ => by simp at h
  | b :: l, 0, a, j, hl, h, hj => by
    rw [List.getElem?_cons_zero, Option.some.injEq] at h
    subst h
    unfold avs
    rw [List.flatMap_cons, Nat.zero_mul, Nat.zero_add, List.getElem?_append_left (by rw [bvs_length, hl b List.mem_cons_self]; exact hj)]
  | b :: l, i + 1, a, j, hl, h, hj => by
    have ih := avs_at (l := l) (i := i) (a := a) (j := j) (fun z hz => hl z (List.mem_cons_of_mem _ hz)) (by simpa using h) hj
    unfold avs at ih ⊢
    rw [List.flatMap_cons, List.getElem?_append_right (by rw [bvs_length, hl b List.mem_cons_self]; omega), bvs_length, hl b List.mem_cons_self, show (i + 1) * 16 + j - 16 = i * 16 + j by omega, ih]
/-- search domains -/
def SeaV (w : World) (x : Value) (l : List (List UInt8)) : Prop := ∃ A, x = .slice A l.length l.length ∧ (l ≠ [] → ∃ b, A = some ⟨b, 0, none⟩ ∧ Strs w b (l.map tb))
theorem SeaV.below {w w' : World} {x : Value} {l : List (List UInt8)} (h : SeaV w x l) (hb : Below w.heap.size w w') : SeaV w' x l := by
  obtain ⟨A, e, hA⟩ := h
  refine ⟨A, e, fun h => ?_⟩
  obtain ⟨b, e2, hs⟩ := hA h
  exact ⟨b, e2, hs.below hb⟩
/-- servers that are handed on -/
def SrvV (w : World) (v : Value) (l : List (List UInt8)) : Prop := ∃ A cap, v = .slice A l.length cap ∧ (l ≠ [] → ∃ b, A = some ⟨b, 0, none⟩ ∧ b < w.heap.size ∧ ∀ k u, (avs l)[k]? = some u → w.cell? ⟨b, k, none⟩ = some u)
theorem SrvV.below {w w' : World} {x : Value} {l : List (List UInt8)} (h : SrvV w x l) (hb : Below w.heap.size w w') : SrvV w' x l := by
  obtain ⟨A, cap, e, hA⟩ := h
  refine ⟨A, cap, e, fun h => ?_⟩
  obtain ⟨b, e2, hl, hs⟩ := hA h
  exact ⟨b, e2, Nat.lt_of_lt_of_le hl hb.size, fun k u hk => (hb.cell (p := ⟨b, k, none⟩) hl).trans (hs k u hk)⟩
theorem own_sl {w : World} {B e size n : Nat} {v : Value} {xs : List Value} (h : w.ownsRow B e size v n xs) : ∃ A cap, v = .slice A n cap := by
  rcases h.2 with ⟨rfl, h0⟩ | ⟨g, cap, cur, rfl, _⟩
  · exact ⟨none, 0, by rw [h0]⟩
  · exact ⟨_, cap, rfl⟩
theorem SrvV.own {w : World} {B : Nat} {v : Value} {l : List (List UInt8)} (h : w.ownsRow B 48 16 v l.length (avs l)) : SrvV w v l := by
  by_cases h0 : l = []
  · obtain ⟨A, cap, e⟩ := own_sl h
    exact ⟨A, cap, e, fun h1 => absurd h0 h1⟩
  · obtain ⟨g, cap, hv, _⟩ := h.form (List.length_pos_iff.2 h0)
    subst hv
    refine ⟨_, cap, rfl, fun _ => ⟨g, rfl, (h.lt g rfl).2, fun k u hk => ?_⟩⟩
    have := h.cells (g := g) rfl k u hk
    rwa [Addr.add_lit, Nat.zero_add] at this
def cfV (v x : Value) (c : ConfM) : Array Value := #[v, x, .int .i64 c.dots, .int .i64 c.timeout, .int .i64 c.attempts]
/-- the configuration at block g, all of whose memory is the call's own -/
structure CfAt (B : Nat) (w : World) (g : Nat) (c : ConfM) (v x : Value) : Prop where
  base : B ≤ g
  blk : w.heap[g]? = some (.cells (cfV v x c) 26 (0, 0))
  row : w.ownsRow B 48 16 v c.servers.length (avs c.servers)
  sea : SeaV w x c.search
  right : RightC c
  nil : c.servers = [] → v = .slice none 0 0
section
variable {B g : Nat} {w : World} {c : ConfM} {v x : Value}
theorem CfAt.lt (h : CfAt B w g c v x) : g < w.heap.size := (Array.getElem?_eq_some_iff.1 h.blk).1
theorem CfAt.c0 (h : CfAt B w g c v x) : w.cell? ⟨g, 0, none⟩ = some v := cell_of_row w g 0 _ _ _ h.blk
theorem CfAt.c1 (h : CfAt B w g c v x) : w.cell? ⟨g, 1, none⟩ = some x := cell_of_row w g 1 _ _ _ h.blk
theorem CfAt.c2 (h : CfAt B w g c v x) : w.cell? ⟨g, 2, none⟩ = some (.int .i64 c.dots) := cell_of_row w g 2 _ _ _ h.blk
theorem CfAt.c3 (h : CfAt B w g c v x) : w.cell? ⟨g, 3, none⟩ = some (.int .i64 c.timeout) := cell_of_row w g 3 _ _ _ h.blk
theorem CfAt.c4 (h : CfAt B w g c v x) : w.cell? ⟨g, 4, none⟩ = some (.int .i64 c.attempts) := cell_of_row w g 4 _ _ _ h.blk
theorem CfAt.fz (h : CfAt B w g c v x) (j : Nat) : w.frozen? ⟨g, j, none⟩ = false := frozen_of_row w g j _ _ h.blk
theorem CfAt.ne (h : CfAt B w g c v x) : v.ownBlock ≠ some g := fun e => by
  obtain ⟨cs, fz, hk⟩ := Lib.ownsRow_kind h.row g e
  have := hk.symm.trans h.blk
  injection this with this
  injection this with _ h2 _
  exact absurd h2 (by decide)
theorem SeaV.keep {w w' : World} {x : Value} {l : List (List UInt8)} (h : SeaV w x l) (hk : ∀ k, k < w.heap.size → (∃ s, w.cell? ⟨k, 0, none⟩ = some (.string s)) → w'.heap[k]? = w.heap[k]?) (hs : w.heap.size ≤ w'.heap.size) : SeaV w' x l := by
  obtain ⟨A, e, hA⟩ := h
  refine ⟨A, e, fun h => ?_⟩
  obtain ⟨b, e2, hb, hc⟩ := hA h
  refine ⟨b, e2, Nat.lt_of_lt_of_le hb hs, fun j hj => ?_⟩
  have h0 := hc 0 (by rw [List.length_map]; exact List.length_pos_iff.2 h)
  exact (World.cell?_of_block (a := ⟨b, 0 + j, none⟩) (hk b hb ⟨_, h0⟩)).trans (hc j hj)
/-- behind steps that leave all blocks that are there as they are -/
theorem CfAt.below {w' : World} (h : CfAt B w g c v x) (hb : Below w.heap.size w w') : CfAt B w' g c v x :=
  ⟨h.base, (hb.block g h.lt).trans h.blk, h.row.kept ⟨hb.os, hb.tape, hb.output, hb.size, fun k hk _ => hb.block k hk⟩ (.inr (by
    intro e
    exact h.ne e) : v.ownBlock = none ∨ v.ownBlock ≠ some g), h.sea.below hb, h.right, h.nil⟩
/-- behind a store into the block's cell j -/
theorem CfAt.put {c' : ConfM} {u : Value} (h : CfAt B w g c v x) (j : Nat) (hc : (cfV v x c).setIfInBounds j u = cfV v x c') (h1 : c'.servers = c.servers) (h2 : c'.search = c.search) (hr : RightC c') : CfAt B (w.setCell ⟨g, j, none⟩ u) g c' v x := by
  have hg : w.grownBy (w.setCell ⟨g, j, none⟩ u) (some g) := ⟨rfl, rfl, rfl, Nat.le_of_eq (by simp [World.setCell]), fun k hk hne => Go.Deep.blk_setCell_other _ _ _ _ (fun e => hne (by rw [e]))⟩
  refine ⟨h.base, ?_, ?_, ?_, hr, fun e => h.nil (by rw [← h1]; exact e)⟩
  · rw [← hc]; exact heap_setCell_same w g j _ _ u h.blk
  · rw [h1]; exact h.row.kept hg (.inr h.ne)
  · rw [h2]
    refine h.sea.keep (fun k hk hs => Go.Deep.blk_setCell_other _ _ _ _ ?_) (Nat.le_of_eq (by simp [World.setCell]))
    rintro rfl
    obtain ⟨s, hs⟩ := hs
    obtain ⟨A, cap, hv⟩ := own_sl h.row
    rw [h.c0, hv] at hs
    cases hs
theorem CfAt.search {c' : ConfM} {u : Value} (h : CfAt B w g c v x) (hc : cfV v u c = cfV v u c') (h1 : c'.servers = c.servers) (hs : SeaV w u c'.search) (hr : RightC c') : CfAt B (w.setCell ⟨g, 1, none⟩ u) g c' v u := by
  have hg : w.grownBy (w.setCell ⟨g, 1, none⟩ u) (some g) := ⟨rfl, rfl, rfl, Nat.le_of_eq (by simp [World.setCell]), fun k hk hne => Go.Deep.blk_setCell_other _ _ _ _ (fun e => hne (by rw [e]))⟩
  refine ⟨h.base, ?_, ?_, ?_, hr, fun e => h.nil (by rw [← h1]; exact e)⟩
  · rw [← hc]; exact heap_setCell_same w g 1 _ _ u h.blk
  · rw [h1]; exact h.row.kept hg (.inr h.ne)
  · refine hs.keep (fun k hk hs => Go.Deep.blk_setCell_other _ _ _ _ ?_) (Nat.le_of_eq (by simp [World.setCell]))
    rintro rfl
    obtain ⟨s, hs⟩ := hs
    obtain ⟨A, cap, hv⟩ := own_sl h.row
    rw [h.c0, hv] at hs
    cases hs
end
/-- a configuration as a value -/
def CV (w : World) (val : Value) (c : ConfM) : Prop := ∃ v x, val = .agg (cfV v x c) ∧ SrvV w v c.servers ∧ SeaV w x c.search ∧ (∀ a ∈ c.servers, a.length = 16)
theorem CV.below {w w' : World} {val : Value} {c : ConfM} (h : CV w val c) (hb : Below w.heap.size w w') : CV w' val c := by
  obtain ⟨v, x, e, h1, h2, h3⟩ := h
  exact ⟨v, x, e, h1.below hb, h2.below hb, h3⟩
theorem CfAt.val {B g : Nat} {w : World} {c : ConfM} {v x : Value} (h : CfAt B w g c v x) : CV w (.agg (cfV v x c)) c := ⟨v, x, rfl, SrvV.own h.row, h.sea, h.right.len⟩
theorem CV.zero (w : World) : CV w (.agg (cfV (.slice none 0 0) (.slice none 0 0) ConfM.zero)) ConfM.zero :=
  ⟨_, _, rfl, ⟨none, 0, rfl, fun h => absurd rfl h⟩, ⟨none, rfl, fun h => absurd rfl h⟩, fun a h => (by cases h)⟩
end Go.Proofs.YtpnlgojbmjfhhaaGreatDoor
namespace Go.Proofs.YtpnlgojbmjfhhaaGreatDoor
open Go.RowKit

theorem str_ne {y : ByteArray} {l : List UInt8} (h : ¬ y.data.toList = l) : (y.toList == l) = false := by
  rw [Lib.toList_data]; exact beq_eq_false_iff_ne.2 h
theorem str_eq {y : ByteArray} {l : List UInt8} (h : y.data.toList = l) : (y.toList == l) = true := by
  rw [Lib.toList_data, h]; exact beq_self_eq_true _
/-- words behind a line's first one -/
def WordsV (w : World) (A : Option Addr) (l : List ByteArray) : Prop := l ≠ [] → ∃ b o, A = some ⟨b, o, none⟩ ∧ b < w.heap.size ∧ ∀ j, j < l.length → w.cell? ⟨b, o + j, none⟩ = some (.string (l.getD j ByteArray.empty))
theorem CfAt.no_string {B g o : Nat} {w : World} {c : ConfM} {v x : Value} {s : ByteArray} (h : CfAt B w g c v x) (hs : w.cell? ⟨g, o, none⟩ = some (.string s)) : False := by
  rw [cell_of_row w g o _ _ _ h.blk] at hs
  obtain ⟨A, cap, hv⟩ := own_sl h.row
  obtain ⟨A', hx, _⟩ := h.sea
  subst hv hx
  rcases o with _ | _ | _ | _ | _ | o
  · cases hs
  · cases hs
  · cases hs
  · cases hs
  · cases hs
  · simp [cfV] at hs
theorem WordsV.at_ {B g : Nat} {w wr : World} {A : Option Addr} {l : List ByteArray} {c : ConfM} {v x : Value} (h : WordsV w A l) (hc : CfAt B w g c v x) (hg : w.grownBy wr (some g)) {k : Nat} (hk : k < l.length) :
    ∃ b o, A = some ⟨b, o, none⟩ ∧ wr.cell? ⟨b, o + k, none⟩ = some (.string (l.getD k ByteArray.empty)) := by
  obtain ⟨b, o, e, hb, hj⟩ := h (List.length_pos_iff.1 (by omega))
  have h0 := hj k hk
  refine ⟨b, o, e, (World.cell?_of_block (a := ⟨b, o + k, none⟩) (hg.block b hb (fun e => ?_))).trans h0⟩
  injection e with e
  subst e
  exact hc.no_string h0
theorem grown_put {w wr : World} {g : Nat} (h : w.grownBy wr (some g)) (j : Nat) (u : Value) : w.grownBy (wr.setCell ⟨g, j, none⟩ u) (some g) :=
  ⟨h.os, h.tape, h.output, Nat.le_trans h.size (Nat.le_of_eq (by simp [World.setCell])), fun k hk hne => (Go.Deep.blk_setCell_other _ _ _ _ (fun e => hne (by rw [e]))).trans (h.block k hk hne)⟩
theorem grown_below {w wr w2 : World} {g : Nat} (h : w.grownBy wr (some g)) (hb : Below wr.heap.size wr w2) : w.grownBy w2 (some g) :=
  ⟨hb.os.trans h.os, hb.tape.trans h.tape, hb.output.trans h.output, Nat.le_trans h.size hb.size, fun k hk hne => (hb.block k (Nat.lt_of_lt_of_le hk h.size)).trans (h.block k hk hne)⟩
def OptPost (B g : Nat) (w : World) (c : ConfM) (v x : Value) (ws : List (List UInt8)) (e : Ending) (w' : World) : Prop :=
  Below B w w' ∧ ((setOs c ws = none ∧ e = .returned (.int .i64 6)) ∨ (∃ c', setOs c ws = some c' ∧ e = .returned (.int .i64 0) ∧ CfAt B w' g c' v x))
theorem cut_le (s : List UInt8) (b : UInt8) : (Go.Lib.cut s [b]).1.length ≤ s.length ∧ (Go.Lib.cut s [b]).2.1.length ≤ s.length := by
  unfold Go.Lib.cut
  split
  · exact ⟨by simp only [List.length_take]; omega, by simp only [List.length_drop]; omega⟩
  · exact ⟨Nat.le_refl _, Nat.zero_le _⟩
theorem Below.of_grown {B g : Nat} {w w' : World} (h : w.grownBy w' (some g)) (hg : B ≤ g) (hb : B ≤ w.heap.size) : Below B w w' :=
  ⟨h.os, h.tape, h.output, h.size, fun k hk => h.block k (by omega) (fun e => by injection e with e; omega)⟩
set_option maxRecDepth 100000 in
set_option maxHeartbeats 4000000 in
theorem setOptions_e (g n : Nat) (A : Option Addr) (xs : List ByteArray) (c : ConfM) (v x : Value) (w0 w : World) (he : AEnv w0) (hb : Below w0.heap.size w0 w) (hx : WordsV w A xs) (hn : xs.length = n) (hs : ∀ y ∈ xs, y.size < 4294967281) (hn2 : n ≤ 4294967281)
    (h : CfAt w0.heap.size w g c v x) : Calls Tryz.prog 47 #[.pointer (some ⟨g, 0, none⟩), .slice A n n] w (OptPost w0.heap.size g w c v x (xs.map (·.data.toList))) := by
  have HE := Lib.hid he
  have HX := Lib.hid hx
  have HS := Lib.hid hs
  have HC := Lib.hid h
  have HB := Lib.hid hb
  have HN := Lib.hid hn
  obtain ⟨ws, hws⟩ : ∃ ws, ws = xs.map (·.data.toList) := ⟨_, rfl⟩
  have HW := Lib.hid hws
  rw [← hws]
  have HWl : Hid (ws.length = n) := Lib.hid (by rw [hws, List.length_map, hn])
  have HG0 : Hid (w.grownBy w (some g)) := Lib.hid ⟨rfl, rfl, rfl, Nat.le_refl _, fun _ _ _ => rfl⟩
  clear he hx hs h hb hn hws
  go_enter Tryz.func47, Tryz.ntmps47
  go_wp2_with fail
  go_loopg [14, 6, 7, 8, 9, 10, 11] n (fun gk i _ _ _ _ _ _ wr => ∃ (k : Nat) (c' : ConfM), i = .int .i64 k ∧ k + gk = n ∧ Hid (CfAt w0.heap.size wr g c' v x) ∧ Hid (w.grownBy wr (some g)) ∧ Hid (setOs c ws = setOs c' (ws.drop k)))
  case atStart => exact ⟨0, c, rfl, by omega, HC, HG0, Lib.hid (by rw [List.drop_zero])⟩
  case round =>
    obtain ⟨k, c', rfl, hk, HC1, HG1, HO1⟩ := hrel
    have hbw := HB.out.trans (Below.of_grown HG1.out HC.out.base HB.out.size)
    by_cases hkn : k < n
    · obtain ⟨g2, rfl⟩ : ∃ g', gk = g' + 1 := ⟨gk - 1, by omega⟩
      have hkI : (k : Int) < (n : Int) := by omega
      obtain ⟨b, o, rfl, hcell⟩ := HX.out.at_ HC.out HG1.out (show k < xs.length by rw [HN.out]; exact hkn)
      have hwk : ws.drop k = (xs.getD k ByteArray.empty).data.toList :: ws.drop (k + 1) := by
        rw [List.drop_eq_getElem_cons (by rw [HWl.out]; exact hkn)]
        congr 1
        have h1 := HW.out
        subst h1
        rw [List.getElem_map, List.getD_eq_getElem?_getD, List.getElem?_eq_getElem (by rw [HN.out]; exact hkn)]; rfl
      have hys : (xs.getD k ByteArray.empty).size < 4294967281 := HS.out _ (by
        rw [List.getD_eq_getElem?_getD, List.getElem?_eq_getElem (by rw [HN.out]; exact hkn)]; exact List.getElem_mem _)
      generalize xs.getD k ByteArray.empty = y at hcell hwk hys
      have ho := HO1.out
      rw [hwk, setOs] at ho
      obtain ⟨m, hm⟩ := (HE.out.below hbw).env.2
      have hcut := Tryz.strings_Cut y ⟨#[58]⟩ m wr hys hm
      have hcl := cut_le y.data.toList 58
      have hso : setO c' y.data.toList = match numC (Go.Lib.cut y.data.toList [58]).2.1 with
        | none => none
        | some n => putO c' (Go.Lib.cut y.data.toList [58]).1 n := rfl
      rw [show (ByteArray.mk #[58]).data.toList = [58] from rfl] at hcut
      have hw1 : (Go.Lib.cut y.data.toList [58]).1 = (ByteArray.mk (Go.Lib.cut y.data.toList [58]).1.toArray).data.toList := rfl
      have hw2 : (Go.Lib.cut y.data.toList [58]).2.1 = (ByteArray.mk (Go.Lib.cut y.data.toList [58]).2.1.toArray).data.toList := rfl
      rw [hw1, hw2] at hso
      have hds : (ByteArray.mk (Go.Lib.cut y.data.toList [58]).2.1.toArray).size ≤ 4294967296 := by
        rw [Lib.size_eq]
        have h2 := hcl.2
        rw [← Lib.size_eq] at h2
        show (Go.Lib.cut y.data.toList [58]).2.1.length ≤ _
        omega
      clear hw1 hw2 hcl
      generalize (ByteArray.mk (Go.Lib.cut y.data.toList [58]).1.toArray) = word at hcut hso
      generalize (ByteArray.mk (Go.Lib.cut y.data.toList [58]).2.1.toArray) = digits at hcut hso hds
      generalize (Go.Lib.cut y.data.toList [58]).2.2 = found at hcut
      rw [hso] at ho
      have HO := Lib.hid ho
      have HBW := Lib.hid hbw
      clear ho hso hwk hm hys hbw
      go_wp2_with fail
      refine hcut.mono ?_
      rintro e w1 ⟨rfl, q, rfl⟩
      have hd1 : Below wr.heap.size wr (wr.drewN q) := ⟨rfl, rfl, rfl, Nat.le_refl _, fun _ _ => rfl⟩
      have hnum := number_e digits (wr.drewN q) hds
      clear hcut
      go_wp2_with fail
      refine hnum.mono ?_
      rintro e w2 ⟨hb2, hp⟩
      have hb12 := hd1.trans hb2
      have HC2 := Lib.hid (HC1.out.below hb12)
      have HG2 := Lib.hid (grown_below HG1.out hb12)
      clear hnum hb2 hd1 hb12
      rcases hp with ⟨m, hm, rfl⟩ | ⟨hm, rfl⟩
      · have ho := HO.out
        rw [hm] at ho
        simp only at ho
        have hm30 := numC_le hm
        have f2 := HC2.out.fz 2
        have f3 := HC2.out.fz 3
        have f4 := HC2.out.fz 4
        have c2 := HC2.out.c2
        have c3 := HC2.out.c3
        have c4 := HC2.out.c4
        have hR := HC2.out.right
        by_cases e1 : word.data.toList = wNd
        · have s1 := str_eq e1
          unfold wNd at s1
          rw [e1, put_nd] at ho
          simp only at ho
          have hmin : min (m : Int) 15 = ((min m 15 : Nat) : Int) := by omega
          obtain ⟨q2, hq2⟩ : ∃ q2, q2 = min m 15 := ⟨_, rfl⟩
          rw [← hq2] at hmin ho
          have HN2 : Hid (CfAt w0.heap.size (w2.setCell ⟨g, 2, none⟩ (.int .i64 q2)) g { c' with dots := q2 } v x) := Lib.hid (HC2.out.put 2 rfl rfl rfl ⟨hR.srv, hR.len, hR.sea, hR.out, by show q2 ≤ 15; omega, hR.t1, hR.t2, hR.a1, hR.a2⟩)
          have HO2 := Lib.hid ho
          clear ho hR e1 hm hq2
          go_wp2_with fail
          go_roundg g2
          case measure => omega
          case rel => exact ⟨k + 1, _, by go_num, by omega, HN2, Lib.hid (grown_put HG2.out _ _), HO2⟩
        · have s1 := str_ne e1
          unfold wNd at s1
          by_cases e2 : word.data.toList = wTi
          · have s2 := str_eq e2
            unfold wTi at s2
            rw [e2, put_ti] at ho
            simp only at ho
            obtain ⟨q1, hq1⟩ : ∃ q1, q1 = max m 1 := ⟨_, rfl⟩
            obtain ⟨q2, hq2⟩ : ∃ q2, q2 = min q1 30 := ⟨_, rfl⟩
            rw [← hq1, ← hq2] at ho
            have hmax : max (m : Int) 1 = (q1 : Int) := by omega
            have hmin : min (q1 : Int) 30 = (q2 : Int) := by omega
            have HN2 : Hid (CfAt w0.heap.size (w2.setCell ⟨g, 3, none⟩ (.int .i64 q2)) g { c' with timeout := q2 } v x) := Lib.hid (HC2.out.put 3 rfl rfl rfl ⟨hR.srv, hR.len, hR.sea, hR.out, hR.dots, by show 1 ≤ q2; omega, by show q2 ≤ 30; omega, hR.a1, hR.a2⟩)
            have HO2 := Lib.hid ho
            clear ho hR e1 e2 hm hq2 hq1
            go_wp2_with fail
            go_roundg g2
            case measure => omega
            case rel => exact ⟨k + 1, _, by go_num, by omega, HN2, Lib.hid (grown_put HG2.out _ _), HO2⟩
          · have s2 := str_ne e2
            unfold wTi at s2
            by_cases e3 : word.data.toList = wAt
            · have s3 := str_eq e3
              unfold wAt at s3
              rw [e3, put_at] at ho
              simp only at ho
              obtain ⟨q1, hq1⟩ : ∃ q1, q1 = max m 1 := ⟨_, rfl⟩
              obtain ⟨q2, hq2⟩ : ∃ q2, q2 = min q1 5 := ⟨_, rfl⟩
              rw [← hq1, ← hq2] at ho
              have hmax : max (m : Int) 1 = (q1 : Int) := by omega
              have hmin : min (q1 : Int) 5 = (q2 : Int) := by omega
              have HN2 : Hid (CfAt w0.heap.size (w2.setCell ⟨g, 4, none⟩ (.int .i64 q2)) g { c' with attempts := q2 } v x) := Lib.hid (HC2.out.put 4 rfl rfl rfl ⟨hR.srv, hR.len, hR.sea, hR.out, hR.dots, hR.t1, hR.t2, by show 1 ≤ q2; omega, by show q2 ≤ 5; omega⟩)
              have HO2 := Lib.hid ho
              clear ho hR e1 e2 e3 hm hq2 hq1
              go_wp2_with fail
              go_roundg g2
              case measure => omega
              case rel => exact ⟨k + 1, _, by go_num, by omega, HN2, Lib.hid (grown_put HG2.out _ _), HO2⟩
            · have s3 := str_ne e3
              unfold wAt at s3
              have hf : putO c' word.data.toList m = none := by unfold putO; rw [if_neg e1, if_neg e2, if_neg e3]
              rw [hf] at ho
              simp only at ho
              have HF := Lib.hid ho
              clear ho hR e1 e2 e3 hm hf
              go_wp2_with fail
              go_ret
              exact ⟨Below.of_grown HG2.out HC.out.base HB.out.size, .inl ⟨HF.out, rfl⟩⟩
      · have ho := HO.out
        rw [hm] at ho
        simp only at ho
        have HF := Lib.hid ho
        clear ho hm
        go_wp2_with fail
        go_ret
        exact ⟨Below.of_grown HG2.out HC.out.base HB.out.size, .inl ⟨HF.out, rfl⟩⟩
    · have hkI : ¬ (k : Int) < (n : Int) := by omega
      have ho := HO1.out
      rw [List.drop_eq_nil_of_le (by rw [HWl.out]; omega), setOs] at ho
      have HF := Lib.hid ho
      clear ho hbw
      go_wp2_with fail
      go_ret
      exact ⟨Below.of_grown HG1.out HC.out.base HB.out.size, .inr ⟨c', HF.out, rfl, HC1.out⟩⟩
end Go.Proofs.YtpnlgojbmjfhhaaGreatDoor
namespace Go.Proofs.YtpnlgojbmjfhhaaGreatDoor
open Go.RowKit

/-- how the names' loop stands: the first are turned -/
structure SeAt (w0 wr : World) (g n : Nat) (ws : List (List UInt8)) (ys : List ByteArray) : Prop where
  below : Below w0.heap.size w0 wr
  row : StrsF wr g (ys ++ List.replicate (n - ys.length) ByteArray.empty)
  len : ys.length ≤ n
  out : NmE (ws.take ys.length) 0 (ys.map (·.data.toList))
theorem SeAt.step {w0 wr w2 : World} {g n : Nat} {ws : List (List UInt8)} {ys : List ByteArray} {y : ByteArray} {x : List UInt8} (h : SeAt w0 wr g n ws ys) (hk : ys.length < n) (hg : w0.heap.size ≤ g) (hb : Below wr.heap.size wr w2) (hx : ws[ys.length]? = some x) (ht : TA x 0 y.data.toList) :
    SeAt w0 (w2.setCell ⟨g, ys.length, none⟩ (.string y)) g n ws (ys ++ [y]) := by
  refine ⟨(h.below.trans (hb.mono h.below.size)).setCell hg _, ?_, by rw [List.length_append, List.length_singleton]; omega, ?_⟩
  · rw [← set_next ys y n hk]
    exact (h.row.below hb).set ys.length y (by rw [List.length_append, List.length_replicate]; omega)
  · rw [List.length_append, List.length_singleton, List.take_add_one, hx, List.map_append]
    exact h.out.snoc ht
theorem SeAt.cell {w0 wr w2 : World} {g n : Nat} {ws : List (List UInt8)} {ys : List ByteArray} (h : SeAt w0 wr g n ws ys) (hk : ys.length < n) (hb : Below wr.heap.size wr w2) : (∃ u, w2.cell? ⟨g, ys.length, none⟩ = some u) ∧ w2.frozen? ⟨g, ys.length, none⟩ = false :=
  ⟨⟨_, (h.row.below hb).cells ys.length (by rw [List.length_append, List.length_replicate]; omega)⟩, (h.row.below hb).free ys.length (by rw [List.length_append, List.length_replicate]; omega)⟩
/-- what a line comes to: the error's number, and the configuration, if there is none -/
def TnPost (B g : Nat) (w : World) (P : Nat → ConfM → Prop) (e : Ending) (w' : World) : Prop :=
  Below B w w' ∧ ∃ (n : Nat) (c' : ConfM), P n c' ∧ e = .returned (.int .i64 n) ∧ (n = 0 → ∃ v' x', CfAt B w' g c' v' x')
theorem ln_search {c : ConfM} {l ts : List (List UInt8)} {e : Nat} (h : NmE l e ts) : LnR c (wSe :: l) (lnF c (e, ts) (wSe :: l)).1 (lnF c (e, ts) (wSe :: l)).2 := ⟨(e, ts), fun _ => h, rfl⟩
theorem ln_sea_bad {c : ConfM} {l : List (List UInt8)} {e : Nat} (h : NmE l e []) (he : e ≠ 0) : LnR c (wSe :: l) e c := by
  have := ln_search (c := c) h
  simp only [lnF] at this
  rwa [if_neg (by decide), if_pos trivial, if_pos he] at this
theorem ln_sea_long {c : ConfM} {l ts : List (List UInt8)} (h : NmE l 0 ts) (hl : 6 < ts.length) : LnR c (wSe :: l) 2 c := by
  have := ln_search (c := c) h
  simp only [lnF] at this
  rwa [if_neg (by decide), if_pos trivial, if_neg (by omega), if_pos hl] at this
set_option maxRecDepth 100000 in
set_option maxHeartbeats 4000000 in
theorem setSearch_e (g n : Nat) (A : Option Addr) (xs : List ByteArray) (c : ConfM) (v x : Value) (w0 w : World) (he : AEnv w0) (hb : Below w0.heap.size w0 w) (hx : WordsV w A xs) (hn : xs.length = n) (hs : ∀ y ∈ xs, y.size < 4294967281) (hn2 : n ≤ 4294967281)
    (h : CfAt w0.heap.size w g c v x) : Calls Tryz.prog 46 #[.pointer (some ⟨g, 0, none⟩), .slice A n n] w (TnPost w0.heap.size g w (fun k c' => LnR c (wSe :: xs.map (·.data.toList)) k c')) := by
  have HE := Lib.hid (he.below hb)
  have HX := Lib.hid hx
  have HS := Lib.hid hs
  have HC := Lib.hid h
  have HB := Lib.hid hb
  have HN := Lib.hid hn
  obtain ⟨ws, hws⟩ : ∃ ws, ws = xs.map (·.data.toList) := ⟨_, rfl⟩
  have HW := Lib.hid hws
  rw [← hws]
  have HWl : Hid (ws.length = n) := Lib.hid (by rw [hws, List.length_map, hn])
  have hmk := mk_str n (by omega)
  have hst0 : SeAt w (w.alloc (.cells (madeCells #[.string ⟨#[]⟩] n) 9)) w.heap.size n ws [] := by
    have hS0 := fill_start (n := n) (F := fun _ => .string ByteArray.empty) (z := .string ⟨#[]⟩) (t := 9) (Below.refl w.heap.size w)
    refine ⟨(Below.refl _ _).alloc (Nat.le_refl _) _, ⟨hS0.lt, fun j hj => ?_, fun j hj => ?_⟩, Nat.zero_le _, .nil⟩
    · rw [List.nil_append, List.length_nil, Nat.sub_zero, List.length_replicate] at hj
      rw [hS0.cells j hj]
      unfold fillF
      rw [if_neg (Nat.not_lt_zero j), List.nil_append, List.length_nil, Nat.sub_zero, List.getD_eq_getElem?_getD, List.getElem?_replicate, if_pos hj]; rfl
    · rw [List.nil_append, List.length_nil, Nat.sub_zero, List.length_replicate] at hj
      exact hS0.free j hj
  have HS0 := Lib.hid hst0
  clear he hx hs h hb hn hws hst0
  go_enter Tryz.func46, Tryz.ntmps46
  go_wp2_with fail
  go_loopg [14, 6, 7, 8] n (fun gk i _ _ _ wr => ∃ (zs : List ByteArray), i = .int .i64 zs.length ∧ zs.length + gk = n ∧ Hid (SeAt w wr w.heap.size n ws zs))
  case atStart => exact ⟨[], rfl, by simp, HS0⟩
  case round =>
    obtain ⟨zs, rfl, hzk, HNM⟩ := hrel
    by_cases hkn : zs.length < n
    · obtain ⟨g2, rfl⟩ : ∃ g2, gk = g2 + 1 := ⟨gk - 1, by omega⟩
      have hbw := HNM.out.below
      obtain ⟨b, o, rfl, hbl, hcl⟩ := HX.out (List.length_pos_iff.1 (by rw [HN.out]; omega))
      have hcx : wr.cell? ⟨b, o + zs.length, none⟩ = some (.string (xs.getD zs.length ByteArray.empty)) := (hbw.cell (p := ⟨b, o + zs.length, none⟩) hbl).trans (hcl _ (by rw [HN.out]; exact hkn))
      have hwx : ws[zs.length]? = some (xs.getD zs.length ByteArray.empty).data.toList := by
        rw [HW.out, List.getElem?_map, List.getD_eq_getElem?_getD, List.getElem?_eq_getElem (by rw [HN.out]; exact hkn)]; rfl
      have hxs2 : (xs.getD zs.length ByteArray.empty).size ≤ 9223372036854775807 := by
        have := HS.out (xs.getD zs.length ByteArray.empty) (by rw [List.getD_eq_getElem?_getD, List.getElem?_eq_getElem (by rw [HN.out]; exact hkn)]; exact List.getElem_mem _)
        omega
      have hkI : (zs.length : Int) < (n : Int) := by omega
      generalize xs.getD zs.length ByteArray.empty = y at hcx hwx hxs2
      have hta := toASCII_any y wr (HE.out.below hbw).env hxs2
      have HWX := Lib.hid hwx
      have HBW := Lib.hid hbw
      clear hbw hwx hcl hmk
      go_wp2_with fail
      refine hta.mono ?_
      rintro e w6 ⟨m, z, rfl, hb6, hty⟩
      obtain ⟨⟨u, hcu⟩, hfu⟩ := HNM.out.cell hkn hb6
      have HB6 := Lib.hid hb6
      have HTY := Lib.hid hty
      clear hta hb6 hty
      by_cases hm0 : m = 0
      · subst hm0
        have HN2 := Lib.hid (HNM.out.step hkn (Nat.le_refl _) HB6.out HWX.out HTY.out)
        go_wp2_with fail
        go_roundg g2
        case measure => omega
        case rel => exact ⟨zs ++ [z], by rw [List.length_append, List.length_singleton]; go_num, by rw [List.length_append, List.length_singleton]; omega, HN2⟩
      · have hmI : ¬ (m : Int) = 0 := by omega
        have HBs := Lib.hid ((HBW.out.trans (HB6.out.mono HBW.out.size)).setCell (p := ⟨w.heap.size, zs.length, none⟩) (Nat.le_refl _) (.string z))
        have HLn : Hid (LnR c (wSe :: ws) m c) := Lib.hid (ln_sea_bad (HNM.out.out.fail HWX.out HTY.out hm0) hm0)
        go_wp2_with fail
        go_ret
        exact ⟨HBs.out.mono HB.out.size, m, c, HLn.out, rfl, fun h0 => absurd h0 hm0⟩
    · have hzn : zs.length = n := by have := HNM.out.len; omega
      have hbw := HNM.out.below
      have hrow : StrsF wr w.heap.size zs := by
        have := HNM.out.row
        rwa [hzn, Nat.sub_self, List.replicate_zero, List.append_nil] at this
      have hout := HNM.out.out
      rw [List.take_of_length_le (by rw [HWl.out]; omega)] at hout
      have hkI : ¬ (zs.length : Int) < (n : Int) := by omega
      have HBW := Lib.hid (hbw.mono HB.out.size)
      have HO := Lib.hid hout
      have HC2 := Lib.hid (HC.out.below hbw)
      have HR := Lib.hid hrow
      have HZ := Lib.hid hzn
      have c1 := HC2.out.c1
      have f1 := HC2.out.fz 1
      clear hbw hrow hout hzn hmk
      by_cases h6 : 6 < n
      · have h6I : (6 : Int) < (n : Int) := by omega
        have HLn : Hid (LnR c (wSe :: ws) 2 c) := Lib.hid (ln_sea_long HO.out (by rw [List.length_map, HZ.out]; exact h6))
        go_wp2_with fail
        go_ret
        exact ⟨HBW.out, 2, c, HLn.out, rfl, fun h0 => absurd h0 (by decide)⟩
      · have h6I : ¬ (6 : Int) < (n : Int) := by omega
        have hl6 : (zs.map (·.data.toList)).length ≤ 6 := by rw [List.length_map, HZ.out]; omega
        have HLn : Hid (LnR c (wSe :: ws) 0 { c with search := zs.map (·.data.toList) }) := Lib.hid (pc_search HO.out hl6)
        have hzt : (zs.map (·.data.toList)).map tb = zs := by
          rw [List.map_map]
          conv => rhs; rw [← List.map_id zs]
          exact List.map_congr_left fun z _ => bytes_inj rfl
        have HN2 : Hid (CfAt w0.heap.size (wr.setCell ⟨g, 1, none⟩ (.slice (some ⟨w.heap.size, 0, none⟩) n n)) g { c with search := zs.map (·.data.toList) } v (.slice (some ⟨w.heap.size, 0, none⟩) n n)) :=
          Lib.hid (HC2.out.search rfl rfl ⟨_, by rw [List.length_map, HZ.out], fun _ => ⟨_, rfl, by rw [hzt]; exact HR.out.strs⟩⟩ (HLn.out.right HC2.out.right))
        have HBs := Lib.hid (HBW.out.setCell (p := ⟨g, 1, none⟩) HC.out.base (.slice (some ⟨w.heap.size, 0, none⟩) n n))
        clear hzt hl6
        go_wp2_with fail
        go_ret
        exact ⟨HBs.out, 0, _, HLn.out, rfl, fun _ => ⟨_, _, HN2.out⟩⟩
end Go.Proofs.YtpnlgojbmjfhhaaGreatDoor
namespace Go.Proofs.YtpnlgojbmjfhhaaGreatDoor
open Go.RowKit

theorem range_row {w : World} {g : Nat} {cs : List Value} {t : TypeId} {fr : Nat × Nat} (hg : w.heap[g]? = some (.cells cs.toArray t fr)) : w.rangeAt g 0 cs := fun j v hj => by
  rw [cell_of_row w g (0 + j) _ _ _ hg, Nat.zero_add, List.getElem?_toArray]; exact hj
theorem info_addr : ∃ i, Tryz.prog.info? 48 = some i ∧ i.zero = some (.agg (bvs zero16).toArray) ∧ i.size = 16 := by
  obtain ⟨i0, hi, hz0, hz1, _⟩ := info_parts (show (Tryz.prog.info? 48).map (fun i => (i.zero, i.size, i.bytes)) = some (some (.agg (bvs zero16).toArray), 16, 16) by kernel_rfl)
  exact ⟨i0, hi, hz0, hz1⟩
theorem fill_one {cs : List Value} (h : cs.length = 16) : Instr.fill (fun i => some (i * 16, 16)) ((Array.range (1 * 16)).map ((Value.agg (bvs zero16).toArray).cells[· % (Value.agg (bvs zero16).toArray).cells.size]!)) [(0, .agg cs.toArray)] = some cs.toArray := by
  have := Great.fill_whole (s := 16) (by decide) [Value.agg cs.toArray] ((Array.range (1 * 16)).map ((Value.agg (bvs zero16).toArray).cells[· % (Value.agg (bvs zero16).toArray).cells.size]!)) (by simp [Value.cells, h]) (by simp)
  simpa [Value.cells] using this
theorem ln_srv_bad {c : ConfM} {l : List (List UInt8)} (h : l.length ≠ 1) : LnR c (wNs :: l) 6 c := by
  refine ⟨(0, []), fun h => ?_, ?_⟩
  · exact absurd (show wNs = wSe by injection h) (by decide)
  · simp only [lnF]
    rw [if_pos trivial, if_pos h]
theorem ln_srv_no {c : ConfM} {x : List UInt8} (h : parseA x = none) : LnR c [wNs, x] 5 c := by
  refine ⟨(0, []), fun h => ?_, ?_⟩
  · exact absurd (show wNs = wSe by injection h) (by decide)
  · simp only [lnF]
    rw [if_pos trivial, if_neg (by simp)]
    simp only [List.headD_cons]
    rw [h]
theorem ln_srv_long {c : ConfM} {x a : List UInt8} (h : parseA x = some a) (h3 : c.servers.length = 3) : LnR c [wNs, x] 2 c := by
  refine ⟨(0, []), fun h => ?_, ?_⟩
  · exact absurd (show wNs = wSe by injection h) (by decide)
  · simp only [lnF]
    rw [if_pos trivial, if_neg (by simp)]
    simp only [List.headD_cons]
    rw [h]
    simp only
    rw [if_pos h3]
theorem ln_srv_ok {c : ConfM} {x a : List UInt8} (h : parseA x = some a) (h3 : ¬ c.servers.length = 3) : LnR c [wNs, x] 0 { c with servers := c.servers ++ [a] } := by
  refine ⟨(0, []), fun h => ?_, ?_⟩
  · exact absurd (show wNs = wSe by injection h) (by decide)
  · simp only [lnF]
    rw [if_pos trivial, if_neg (by simp)]
    simp only [List.headD_cons]
    rw [h]
    simp only
    rw [if_neg h3]
/-- behind an append to the servers, and the store of what it gives -/
theorem CfAt.app {B g : Nat} {w w1 : World} {c : ConfM} {v x v1 : Value} {a : List UInt8} (h : CfAt B w g c v x) (hr : w1.ownsRow B 48 16 v1 (c.servers.length + 1) (avs (c.servers ++ [a]))) (hg : w.grownBy w1 v.ownBlock)
    (hrt : RightC { c with servers := c.servers ++ [a] }) : w1.heap[g]? = some (.cells (cfV v x c) 26 (0, 0)) ∧ CfAt B (w1.setCell ⟨g, 0, none⟩ v1) g { c with servers := c.servers ++ [a] } v1 x := by
  have hbk : w1.heap[g]? = some (.cells (cfV v x c) 26 (0, 0)) := (hg.block g h.lt (fun e => h.ne e.symm)).trans h.blk
  have hgg : w1.grownBy (w1.setCell ⟨g, 0, none⟩ v1) (some g) := ⟨rfl, rfl, rfl, Nat.le_of_eq (by simp [World.setCell]), fun k hk hne => Go.Deep.blk_setCell_other _ _ _ _ (fun e => hne (by rw [e]))⟩
  have hne1 : v1.ownBlock ≠ some g := fun e => by
    obtain ⟨cs, fz, hk⟩ := Lib.ownsRow_kind hr g e
    have := hk.symm.trans hbk
    injection this with this
    injection this with _ h2 _
    exact absurd h2 (by decide)
  have hsea : SeaV w1 x c.search := h.sea.keep (fun k hk ⟨s, hs⟩ => hg.block k hk (fun e => by
    obtain ⟨cs, fz, hkk⟩ := Lib.ownsRow_kind h.row k e.symm
    by_cases h0 : c.servers = []
    · rw [h.nil h0] at e; cases e
    · have hc := h.row.cells (g := k) e.symm 0 (.int .u8 ((c.servers.headD []).getD 0 0).toNat) (by
        obtain ⟨y, t, hy⟩ := List.exists_cons_of_ne_nil h0
        have hl := h.right.len
        rw [hy] at hl ⊢
        have := avs_at (l := y :: t) (i := 0) (a := y) (j := 0) hl rfl (by decide)
        rw [show 0 * 16 + 0 = 0 by rfl] at this
        rw [this, bvs_at (by rw [hl y List.mem_cons_self]; decide)]; rfl)
      rw [Addr.add_lit] at hc
      rw [hs] at hc
      cases hc)) hg.size
  refine ⟨hbk, h.base, ?_, ?_, ?_, hrt, fun e => by simp at e⟩
  · exact heap_setCell_same w1 g 0 _ _ v1 hbk
  · have := hr.kept hgg (.inr hne1)
    show (w1.setCell _ v1).ownsRow B 48 16 v1 (c.servers ++ [a]).length (avs (c.servers ++ [a]))
    rw [List.length_append]; exact this
  · refine hsea.keep (fun k hk hs => Go.Deep.blk_setCell_other _ _ _ _ ?_) (Nat.le_of_eq (by simp [World.setCell]))
    rintro rfl
    obtain ⟨s, hs⟩ := hs
    obtain ⟨A, cap, hv⟩ := own_sl h.row
    rw [cell_of_row w1 _ 0 _ _ _ hbk] at hs
    have hs' : some v = some (Value.string s) := hs
    rw [hv] at hs'
    cases hs'
set_option maxRecDepth 100000 in
set_option maxHeartbeats 4000000 in
theorem addServer_e (g n : Nat) (A : Option Addr) (xs : List ByteArray) (c : ConfM) (v x : Value) (w0 w : World) (he : AEnv w0) (hb : Below w0.heap.size w0 w) (hx : WordsV w A xs) (hn : xs.length = n) (hs : ∀ y ∈ xs, y.size < 4294967281) (hn2 : n ≤ 4294967281)
    (h : CfAt w0.heap.size w g c v x) : Calls Tryz.prog 45 #[.pointer (some ⟨g, 0, none⟩), .slice A n n] w (TnPost w0.heap.size g w (fun k c' => LnR c (wNs :: xs.map (·.data.toList)) k c')) := by
  by_cases hn1 : n = 1
  · subst hn1
    obtain ⟨y, rfl⟩ : ∃ y, xs = [y] := List.length_eq_one_iff.1 hn
    obtain ⟨b, o, rfl, hbl, hcl⟩ := hx (by simp)
    have c0 : w.cell? ⟨b, o, none⟩ = some (.string y) := hcl 0 (by simp)
    have hys := hs y List.mem_cons_self
    have hpa := parse_e y w (he.below hb) (by omega)
    have HB := Lib.hid hb
    have HC := Lib.hid h
    obtain ⟨Z, hZ⟩ : ∃ Z, Z = (bvs zero16).toArray := ⟨_, rfl⟩
    have ZA : Hid ((Tryz.prog.info? 48).map (·.zero) = some (some (.agg Z))) := by rw [hZ]; exact zeroAddr
    have ZS : Hid ((Tryz.prog.info? 48).map (·.size) = some Z.size) := by rw [hZ]; exact sizeBv rfl
    have Z1 : Hid (Z.all (·.oneCell') = true) := by rw [hZ]; exact oneBv _
    have ZN : Hid (Z.size = 16) := by rw [hZ]; rfl
    have HZ := Lib.hid hZ
    obtain ⟨yl, hyl⟩ : ∃ yl, yl = y.data.toList := ⟨_, rfl⟩
    show Calls _ _ _ _ (TnPost w0.heap.size g w (fun k c' => LnR c [wNs, y.data.toList] k c'))
    rw [← hyl]
    have HY := Lib.hid hyl
    clear he hb hx hn hs hn2 h hcl hZ hyl hys
    go_enter Tryz.func45, Tryz.ntmps45
    go_wp2_with fail
    refine hpa.mono ?_
    rintro e w3 ⟨hb3, hp⟩
    clear hpa
    rw [← HY.out] at hp
    rcases hp with ⟨a, hpa, hal, rfl⟩ | ⟨hpn, rfl⟩
    · obtain ⟨cs, hcs⟩ : ∃ cs, cs = bvs a := ⟨_, rfl⟩
      have hS := sizeBv hal
      have h1 := oneBv a
      have hzr : Z.size = (bvs a).toArray.size := by rw [ZN.out, List.size_toArray, bvs_length, hal]
      simp only [← hcs] at hS h1 hzr ⊢
      have hb5 : Below w.heap.size w (w3.alloc (.cells cs.toArray 48)) := hb3.alloc hb3.size _
      have HC5 := Lib.hid (HC.out.below hb5)
      have HR5 : Hid ((w3.alloc (.cells cs.toArray 48)).heap[w3.heap.size]? = some (.cells cs.toArray 48 (0, 0))) := Lib.hid (heap_alloc_last w3 _)
      have HB5 := Lib.hid (hb5.mono HB.out.size)
      have HOwn : Hid (v.ownBlock ≠ some w3.heap.size) := Lib.hid (fun e => by have := (HC.out.row.lt _ e).2; have := hb3.size; omega)
      have HNe : Hid (w3.heap.size ≠ g) := Lib.hid (fun e => by have := HC.out.lt; have := hb3.size; omega)
      have HPA := Lib.hid hpa
      have HAL := Lib.hid hal
      have HCS := Lib.hid hcs
      have hS' := hS
      have HS := Lib.hid hS
      have H1 := Lib.hid h1
      have HZR := Lib.hid hzr
      have c0' := HC5.out.c0
      obtain ⟨A', cap', hv⟩ := own_sl HC5.out.row
      have HV := Lib.hid hv
      subst hv
      generalize hlen : c.servers.length = len at c0' HC5 HC HOwn
      clear hS h1 hzr hpa hal hcs hb3 hb5 hS' c0
      by_cases hl3 : len = 3
      · subst hl3
        have HLn : Hid (LnR c [wNs, yl] 2 c) := Lib.hid (ln_srv_long HPA.out hlen)
        clear hlen
        go_wp2_with (first
          | (refine wpList_alloc_z rfl 48 rfl Z ZA.out ?_; go_simp)
          | (refine wpList_store_new rfl 48 (.tmp 5) (.tmp 15) rfl w3.heap.size rfl Z cs.toArray 48 rfl rfl HS.out HZR.out H1.out ?_; go_simp))
        go_ret
        exact ⟨HB5.out, 2, c, HLn.out, rfl, fun h0 => absurd h0 (by decide)⟩
      · have hl3I : ¬ (len : Int) = 3 := by omega
        have HLn : Hid (LnR c [wNs, yl] 0 { c with servers := c.servers ++ [a] }) := Lib.hid (ln_srv_ok HPA.out (by rw [hlen]; exact hl3))
        have HRT := Lib.hid (HLn.out.right HC.out.right)
        have HLen := Lib.hid hlen
        have hl3' : len ≤ 3 := by rw [← hlen]; exact HC.out.right.srv
        clear hlen hl3
        go_wp2_with (first
          | (refine wpList_alloc_z rfl 48 rfl Z ZA.out ?_; go_simp)
          | (refine wpList_store_new rfl 48 (.tmp 5) (.tmp 15) rfl w3.heap.size rfl Z cs.toArray 48 rfl rfl HS.out HZR.out H1.out ?_; go_simp))
        refine wp_region_held_drew (S := (fun W : World => W.heap[w3.heap.size]? = some (.cells cs.toArray 48 (0, 0)))) (by kernel_rfl) HR5.out (fun hHeld => ?_)
        have HD : Hid (CfAt w0.heap.size (w3.alloc (.cells cs.toArray 48)).drew g c (.slice A' len cap') x) := Lib.hid (HC5.out.below ((Below.refl _ _).drew))
        have HBD : Hid (Below w0.heap.size w (w3.alloc (.cells cs.toArray 48)).drew) := Lib.hid (HB5.out.drew)
        generalize (w3.alloc (.cells cs.toArray 48)).drew = W at hHeld HD HBD ⊢
        clear HC5 HR5 HB5 c0'
        have c0' := HD.out.c0
        refine wpAnyH_take (i := 0) (oi := ({ dst := some 26, op := Go.Op.move (Go.Operand.tmp 0), type := 60, pos := "conf.go:83", after := #[], guard := none } : Oper)) (v := .pointer (some ⟨g, 0, none⟩)) rfl (by kernel_rfl) (by kernel_rfl) (by kernel_rfl) (fun _ _ _ h => h) (Or.inl ⟨by rfl, fun w' _ => ?_⟩) hHeld ?_
        · go_simp
        try simp only [Act.put, List.setIfInBounds_toArray, List.set_cons_zero, List.set_cons_succ]
        refine wpAnyH_take (i := 1) (oi := ({ dst := some 27, op := Go.Op.move (Go.Operand.tmp 0), type := 60, pos := "conf.go:83", after := #[], guard := none } : Oper)) (v := .pointer (some ⟨g, 0, none⟩)) rfl (by kernel_rfl) (by kernel_rfl) (by kernel_rfl) (fun _ _ _ h => h) (Or.inl ⟨by rfl, fun w' _ => ?_⟩) hHeld ?_
        · go_simp
        try simp only [Act.put, List.setIfInBounds_toArray, List.set_cons_zero, List.set_cons_succ]
        refine wpAnyH_take (i := 2) (oi := ({ dst := some 28, op := Go.Op.nilCheck (Go.Operand.tmp 27), type := 0, pos := "conf.go:83", after := #[{ on := 1, ground := Go.Ground.data }], guard := none } : Oper)) (v := .pointer (some ⟨g, 0, none⟩)) rfl (by kernel_rfl) (by kernel_rfl) (by kernel_rfl) (fun _ _ _ h => h) (Or.inl ⟨by rfl, fun w' _ => ?_⟩) hHeld ?_
        · go_simp
        try simp only [Act.put, List.setIfInBounds_toArray, List.set_cons_zero, List.set_cons_succ]
        refine wpAnyH_take (i := 3) (oi := ({ dst := some 29, op := Go.Op.fieldAddr 26 (Go.Operand.tmp 28) 0, type := 0, pos := "conf.go:83", after := #[{ on := 2, ground := Go.Ground.data }], guard := none } : Oper)) (v := .pointer (some ⟨g, 0, none⟩)) rfl (by kernel_rfl) (by kernel_rfl) (by kernel_rfl) (fun _ _ _ h => h) (Or.inl ⟨by rfl, fun w' _ => ?_⟩) hHeld ?_
        · go_simp
        try simp only [Act.put, List.setIfInBounds_toArray, List.set_cons_zero, List.set_cons_succ]
        refine wpAnyH_take (i := 5) (oi := ({ dst := some 31, op := Go.Op.load 48 (Go.Operand.tmp 5), type := 48, pos := "conf.go:83", after := #[], guard := none } : Oper)) (v := .agg cs.toArray) rfl (by kernel_rfl) (by kernel_rfl) (by kernel_rfl) (fun _ _ _ h => h) (yieldsIf_load_mid (by rfl) _ _ rfl _ _ rfl _ _ (fun w h => range_row h) Tryz.underlying48 rfl HS.out) hHeld ?_
        try simp only [Act.put, List.setIfInBounds_toArray, List.set_cons_zero, List.set_cons_succ]
        refine wpAnyH_ready (rs := [4, 6]) (by kernel_rfl) (by simp) ?_
        refine AllReadyH.cons (o := ({ dst := some 30, op := Go.Op.load 23 (Go.Operand.tmp 29), type := 23, pos := "conf.go:83", after := #[{ on := 3, ground := Go.Ground.data }], guard := none } : Oper)) rfl (fun K hK => ?_) (AllReadyH.cons (o := ({ dst := some 32, op := Go.Op.buildSlice 23 1 #[(0, Go.Operand.tmp 31)], type := 23, pos := "conf.go:83", after := #[{ on := 5, ground := Go.Ground.data }], guard := none } : Oper)) rfl (fun K hK => ?_) AllReadyH.nil)
        · go_simp
          refine hK.out _ _ hHeld (fun hHeld1 => ?_)
          clear hK K
          try simp only [Act.put, List.setIfInBounds_toArray, List.set_cons_zero, List.set_cons_succ]
          refine wpAnyH_ready (rs := [6]) (by kernel_rfl) (by simp) ?_
          refine AllReadyH.cons (o := ({ dst := some 32, op := Go.Op.buildSlice 23 1 #[(0, Go.Operand.tmp 31)], type := 23, pos := "conf.go:83", after := #[{ on := 5, ground := Go.Ground.data }], guard := none } : Oper)) rfl (fun K hK => ?_) AllReadyH.nil
          rw [if_pos (by kernel_rfl)]
          obtain ⟨i1, hi1, hz1, hs1⟩ := info_addr
          refine wp_buildSlice 23 48 1 _ rfl cs.toArray i1 _ Tryz.underlying23 hi1 hz1 (by rw [hs1]; decide) (by rw [hs1]; decide) (by rw [hs1]; refine (congrArg _ (?_ : _ = [(0, Value.agg cs.toArray)])).trans (fill_one (cs := cs) (by rw [HCS.out, bvs_length, HAL.out])); rw [Array.toList_map]; rfl) ?_
          refine hK.out _ _ (by exact (Below.heap_alloc _ _ _ (Array.getElem?_eq_some_iff.1 hHeld1).1).trans hHeld1) (fun hHeld2 => ?_)
          clear hK K
          try simp only [Act.put, List.setIfInBounds_toArray, List.set_cons_zero, List.set_cons_succ]
          refine wpAnyH_ready (rs := [7]) (by kernel_rfl) (by simp) ?_
          refine AllReadyH.cons (o := ({ dst := some 33, op := Go.Op.call { callee := Go.Callee.builtin Go.Builtin.append, args := #[Go.Operand.tmp 30, Go.Operand.tmp 32], argTypes := #[23, 23] }, type := 23, pos := "conf.go:83", after := #[{ on := 4, ground := Go.Ground.data }, { on := 6, ground := Go.Ground.data }], guard := none } : Oper)) rfl (fun K hK => ?_) AllReadyH.nil
          rw [if_pos (by kernel_rfl)]
          obtain ⟨i0, hi, hz0, hz1, hz2⟩ := info_parts (show (Tryz.prog.info? 48).map (fun i => (i.zero, i.size, i.bytes)) = some (some (.agg (bvs zero16).toArray), 16, 16) by kernel_rfl)
          have HA := Lib.hid (HD.out.below ((Below.refl _ W).alloc (Nat.le_refl _) (.cells cs.toArray 48)))
          have hrw := HA.out.row
          rw [HLen.out] at hrw
          refine wp_append_own (w := W.alloc (.cells cs.toArray 48)) (.tmp 30) (.tmp 32) 23 rfl w0.heap.size 48 i0 _ 16 16 Tryz.underlying23 hi hz0 hz1 hz2 rfl (by decide) (.slice A' len cap') len (avs c.servers) rfl hrw ⟨W.heap.size, 0, none⟩ 1 1 cs rfl (by rw [HCS.out, bvs_length, HAL.out]) (fun j u hj => by rw [Addr.add_lit, Nat.zero_add, World.cell?_alloc_mark, List.getElem?_toArray]; exact hj) (fun u hu => by rw [HCS.out] at hu; exact bvs_one _ u hu) (by unfold maxLen; omega) (by omega) (by have := HBD.out.size; have := HB.out.size; rw [World.size_alloc]; omega) ?_
          intro v1 w1 ho1 hg1 _
          have hap := HA.out.app (a := a) (by rw [HLen.out, avs_snoc, ← HCS.out]; exact ho1) hg1 HRT.out
          have HAP := Lib.hid hap.2
          have hbk1 := hap.1
          have d0 : w1.cell? ⟨g, 0, none⟩ = some (.slice A' len cap') := cell_of_row w1 g 0 _ _ _ hbk1
          have df : w1.frozen? ⟨g, 0, none⟩ = false := frozen_of_row w1 g 0 _ _ hbk1
          obtain ⟨A1, cap1, hv1⟩ := own_sl ho1
          subst hv1
          have hS1 : w1.heap[w3.heap.size]? = some (.cells cs.toArray 48 (0, 0)) := (hg1.block _ (Array.getElem?_eq_some_iff.1 hHeld2).1 (fun e => HOwn.out e.symm)).trans hHeld2
          have HB1 : Hid (Below w0.heap.size w (w1.setCell ⟨g, 0, none⟩ (.slice A1 (len + 1) cap1))) := Lib.hid (((HBD.out.alloc (Nat.le_trans HB.out.size HBD.out.size) _).grown hg1 (by have := HBD.out.size; have := HB.out.size; rw [World.size_alloc]; omega) (fun k hk => (HA.out.row.lt k hk).1)).setCell (p := ⟨g, 0, none⟩) HC.out.base _)
          have hS2 : (w1.setCell ⟨g, 0, none⟩ (.slice A1 (len + 1) cap1)).heap[w3.heap.size]? = some (.cells cs.toArray 48 (0, 0)) := (Go.Deep.blk_setCell_other _ _ _ _ (by show w3.heap.size ≠ g; exact HNe.out)).trans hS1
          clear hap ho1 hg1 hbk1 hi hz0 hz1 hz2 HA hrw
          refine hK.out _ _ hS1 (fun hHeld4 => ?_)
          clear hK K
          try simp only [Act.put, List.setIfInBounds_toArray, List.set_cons_zero, List.set_cons_succ]
          refine wpAnyH_take (i := 8) (oi := ({ dst := some 34, op := Go.Op.nilCheck (Go.Operand.tmp 26), type := 0, pos := "conf.go:83", after := #[{ on := 0, ground := Go.Ground.data }, { on := 0, ground := Go.Ground.phase }, { on := 1, ground := Go.Ground.phase }, { on := 2, ground := Go.Ground.phase }, { on := 3, ground := Go.Ground.phase }, { on := 4, ground := Go.Ground.phase }, { on := 5, ground := Go.Ground.phase }, { on := 6, ground := Go.Ground.phase }, { on := 7, ground := Go.Ground.phase }], guard := none } : Oper)) (v := .pointer (some ⟨g, 0, none⟩)) rfl (by kernel_rfl) (by kernel_rfl) (by kernel_rfl) (fun _ _ _ h => h) (Or.inl ⟨by rfl, fun w' _ => ?_⟩) hHeld4 ?_
          · go_simp
          try simp only [Act.put, List.setIfInBounds_toArray, List.set_cons_zero, List.set_cons_succ]
          refine wpAnyH_take (i := 9) (oi := ({ dst := some 35, op := Go.Op.fieldAddr 26 (Go.Operand.tmp 34) 0, type := 0, pos := "conf.go:83", after := #[{ on := 8, ground := Go.Ground.data }, { on := 0, ground := Go.Ground.phase }, { on := 1, ground := Go.Ground.phase }, { on := 2, ground := Go.Ground.phase }, { on := 3, ground := Go.Ground.phase }, { on := 4, ground := Go.Ground.phase }, { on := 5, ground := Go.Ground.phase }, { on := 6, ground := Go.Ground.phase }, { on := 7, ground := Go.Ground.phase }], guard := none } : Oper)) (v := .pointer (some ⟨g, 0, none⟩)) rfl (by kernel_rfl) (by kernel_rfl) (by kernel_rfl) (fun _ _ _ h => h) (Or.inl ⟨by rfl, fun w' _ => ?_⟩) hHeld4 ?_
          · go_simp
          try simp only [Act.put, List.setIfInBounds_toArray, List.set_cons_zero, List.set_cons_succ]
          refine wpAnyH_ready (rs := [10]) (by kernel_rfl) (by simp) ?_
          refine AllReadyH.cons (o := ({ dst := none, op := Go.Op.store 23 (Go.Operand.tmp 35) (Go.Operand.tmp 33), type := 0, pos := "conf.go:83", after := #[{ on := 9, ground := Go.Ground.data }, { on := 7, ground := Go.Ground.data }, { on := 7, ground := Go.Ground.chain }, { on := 0, ground := Go.Ground.phase }, { on := 1, ground := Go.Ground.phase }, { on := 2, ground := Go.Ground.phase }, { on := 3, ground := Go.Ground.phase }, { on := 4, ground := Go.Ground.phase }, { on := 5, ground := Go.Ground.phase }, { on := 6, ground := Go.Ground.phase }, { on := 7, ground := Go.Ground.phase }], guard := none } : Oper)) rfl (fun K hK => ?_) AllReadyH.nil
          go_simp
          refine hK.out _ _ hS2 (fun hHeld5 => ?_)
          clear hK K
          refine wpAnyH_done (by kernel_rfl) ?_ _
          clear hHeld4 hHeld5 hS1 hS2 d0 df
          go_wp2_with fail
          go_ret
          exact ⟨HB1.out, 0, _, HLn.out, rfl, fun _ => ⟨_, _, HAP.out⟩⟩
        · rw [if_pos (by kernel_rfl)]
          obtain ⟨i1, hi1, hz1, hs1⟩ := info_addr
          refine wp_buildSlice 23 48 1 _ rfl cs.toArray i1 _ Tryz.underlying23 hi1 hz1 (by rw [hs1]; decide) (by rw [hs1]; decide) (by rw [hs1]; refine (congrArg _ (?_ : _ = [(0, Value.agg cs.toArray)])).trans (fill_one (cs := cs) (by rw [HCS.out, bvs_length, HAL.out])); rw [Array.toList_map]; rfl) ?_
          refine hK.out _ _ (by exact (Below.heap_alloc _ _ _ (Array.getElem?_eq_some_iff.1 hHeld).1).trans hHeld) (fun hHeld1 => ?_)
          clear hK K
          try simp only [Act.put, List.setIfInBounds_toArray, List.set_cons_zero, List.set_cons_succ]
          refine wpAnyH_ready (rs := [4]) (by kernel_rfl) (by simp) ?_
          refine AllReadyH.cons (o := ({ dst := some 30, op := Go.Op.load 23 (Go.Operand.tmp 29), type := 23, pos := "conf.go:83", after := #[{ on := 3, ground := Go.Ground.data }], guard := none } : Oper)) rfl (fun K hK => ?_) AllReadyH.nil
          have c0a := (HD.out.below ((Below.refl _ W).alloc (Nat.le_refl _) (.cells cs.toArray 48))).c0
          go_simp
          refine hK.out _ _ hHeld1 (fun hHeld2 => ?_)
          clear hK K
          try simp only [Act.put, List.setIfInBounds_toArray, List.set_cons_zero, List.set_cons_succ]
          refine wpAnyH_ready (rs := [7]) (by kernel_rfl) (by simp) ?_
          refine AllReadyH.cons (o := ({ dst := some 33, op := Go.Op.call { callee := Go.Callee.builtin Go.Builtin.append, args := #[Go.Operand.tmp 30, Go.Operand.tmp 32], argTypes := #[23, 23] }, type := 23, pos := "conf.go:83", after := #[{ on := 4, ground := Go.Ground.data }, { on := 6, ground := Go.Ground.data }], guard := none } : Oper)) rfl (fun K hK => ?_) AllReadyH.nil
          rw [if_pos (by kernel_rfl)]
          obtain ⟨i0, hi, hz0, hz1, hz2⟩ := info_parts (show (Tryz.prog.info? 48).map (fun i => (i.zero, i.size, i.bytes)) = some (some (.agg (bvs zero16).toArray), 16, 16) by kernel_rfl)
          have HA := Lib.hid (HD.out.below ((Below.refl _ W).alloc (Nat.le_refl _) (.cells cs.toArray 48)))
          have hrw := HA.out.row
          rw [HLen.out] at hrw
          refine wp_append_own (w := W.alloc (.cells cs.toArray 48)) (.tmp 30) (.tmp 32) 23 rfl w0.heap.size 48 i0 _ 16 16 Tryz.underlying23 hi hz0 hz1 hz2 rfl (by decide) (.slice A' len cap') len (avs c.servers) rfl hrw ⟨W.heap.size, 0, none⟩ 1 1 cs rfl (by rw [HCS.out, bvs_length, HAL.out]) (fun j u hj => by rw [Addr.add_lit, Nat.zero_add, World.cell?_alloc_mark, List.getElem?_toArray]; exact hj) (fun u hu => by rw [HCS.out] at hu; exact bvs_one _ u hu) (by unfold maxLen; omega) (by omega) (by have := HBD.out.size; have := HB.out.size; rw [World.size_alloc]; omega) ?_
          intro v1 w1 ho1 hg1 _
          have hap := HA.out.app (a := a) (by rw [HLen.out, avs_snoc, ← HCS.out]; exact ho1) hg1 HRT.out
          have HAP := Lib.hid hap.2
          have hbk1 := hap.1
          have d0 : w1.cell? ⟨g, 0, none⟩ = some (.slice A' len cap') := cell_of_row w1 g 0 _ _ _ hbk1
          have df : w1.frozen? ⟨g, 0, none⟩ = false := frozen_of_row w1 g 0 _ _ hbk1
          obtain ⟨A1, cap1, hv1⟩ := own_sl ho1
          subst hv1
          have hS1 : w1.heap[w3.heap.size]? = some (.cells cs.toArray 48 (0, 0)) := (hg1.block _ (Array.getElem?_eq_some_iff.1 hHeld2).1 (fun e => HOwn.out e.symm)).trans hHeld2
          have HB1 : Hid (Below w0.heap.size w (w1.setCell ⟨g, 0, none⟩ (.slice A1 (len + 1) cap1))) := Lib.hid (((HBD.out.alloc (Nat.le_trans HB.out.size HBD.out.size) _).grown hg1 (by have := HBD.out.size; have := HB.out.size; rw [World.size_alloc]; omega) (fun k hk => (HA.out.row.lt k hk).1)).setCell (p := ⟨g, 0, none⟩) HC.out.base _)
          have hS2 : (w1.setCell ⟨g, 0, none⟩ (.slice A1 (len + 1) cap1)).heap[w3.heap.size]? = some (.cells cs.toArray 48 (0, 0)) := (Go.Deep.blk_setCell_other _ _ _ _ (by show w3.heap.size ≠ g; exact HNe.out)).trans hS1
          clear hap ho1 hg1 hbk1 hi hz0 hz1 hz2 HA hrw
          refine hK.out _ _ hS1 (fun hHeld4 => ?_)
          clear hK K
          try simp only [Act.put, List.setIfInBounds_toArray, List.set_cons_zero, List.set_cons_succ]
          refine wpAnyH_take (i := 8) (oi := ({ dst := some 34, op := Go.Op.nilCheck (Go.Operand.tmp 26), type := 0, pos := "conf.go:83", after := #[{ on := 0, ground := Go.Ground.data }, { on := 0, ground := Go.Ground.phase }, { on := 1, ground := Go.Ground.phase }, { on := 2, ground := Go.Ground.phase }, { on := 3, ground := Go.Ground.phase }, { on := 4, ground := Go.Ground.phase }, { on := 5, ground := Go.Ground.phase }, { on := 6, ground := Go.Ground.phase }, { on := 7, ground := Go.Ground.phase }], guard := none } : Oper)) (v := .pointer (some ⟨g, 0, none⟩)) rfl (by kernel_rfl) (by kernel_rfl) (by kernel_rfl) (fun _ _ _ h => h) (Or.inl ⟨by rfl, fun w' _ => ?_⟩) hHeld4 ?_
          · go_simp
          try simp only [Act.put, List.setIfInBounds_toArray, List.set_cons_zero, List.set_cons_succ]
          refine wpAnyH_take (i := 9) (oi := ({ dst := some 35, op := Go.Op.fieldAddr 26 (Go.Operand.tmp 34) 0, type := 0, pos := "conf.go:83", after := #[{ on := 8, ground := Go.Ground.data }, { on := 0, ground := Go.Ground.phase }, { on := 1, ground := Go.Ground.phase }, { on := 2, ground := Go.Ground.phase }, { on := 3, ground := Go.Ground.phase }, { on := 4, ground := Go.Ground.phase }, { on := 5, ground := Go.Ground.phase }, { on := 6, ground := Go.Ground.phase }, { on := 7, ground := Go.Ground.phase }], guard := none } : Oper)) (v := .pointer (some ⟨g, 0, none⟩)) rfl (by kernel_rfl) (by kernel_rfl) (by kernel_rfl) (fun _ _ _ h => h) (Or.inl ⟨by rfl, fun w' _ => ?_⟩) hHeld4 ?_
          · go_simp
          try simp only [Act.put, List.setIfInBounds_toArray, List.set_cons_zero, List.set_cons_succ]
          refine wpAnyH_ready (rs := [10]) (by kernel_rfl) (by simp) ?_
          refine AllReadyH.cons (o := ({ dst := none, op := Go.Op.store 23 (Go.Operand.tmp 35) (Go.Operand.tmp 33), type := 0, pos := "conf.go:83", after := #[{ on := 9, ground := Go.Ground.data }, { on := 7, ground := Go.Ground.data }, { on := 7, ground := Go.Ground.chain }, { on := 0, ground := Go.Ground.phase }, { on := 1, ground := Go.Ground.phase }, { on := 2, ground := Go.Ground.phase }, { on := 3, ground := Go.Ground.phase }, { on := 4, ground := Go.Ground.phase }, { on := 5, ground := Go.Ground.phase }, { on := 6, ground := Go.Ground.phase }, { on := 7, ground := Go.Ground.phase }], guard := none } : Oper)) rfl (fun K hK => ?_) AllReadyH.nil
          go_simp
          refine hK.out _ _ hS2 (fun hHeld5 => ?_)
          clear hK K
          refine wpAnyH_done (by kernel_rfl) ?_ _
          clear hHeld4 hHeld5 hS1 hS2 d0 df
          go_wp2_with fail
          go_ret
          exact ⟨HB1.out, 0, _, HLn.out, rfl, fun _ => ⟨_, _, HAP.out⟩⟩
    · rw [← HZ.out]
      have HLn : Hid (LnR c [wNs, yl] 5 c) := Lib.hid (ln_srv_no hpn)
      have HB5 := Lib.hid ((hb3.alloc hb3.size (.cells Z 48)).mono HB.out.size)
      clear hb3 hpn c0
      go_wp2_with (first
        | (refine wpList_alloc_z rfl 48 rfl Z ZA.out ?_; go_simp)
        | (refine wpList_store_new rfl 48 (.tmp 5) (.tmp 15) rfl w3.heap.size rfl Z Z 48 rfl rfl ZS.out rfl Z1.out ?_; go_simp))
      go_ret
      exact ⟨HB5.out, 5, c, HLn.out, rfl, fun h0 => absurd h0 (by decide)⟩
  · have hnI : ¬ (n : Int) = 1 := by omega
    have HLn : Hid (LnR c (wNs :: xs.map (·.data.toList)) 6 c) := Lib.hid (ln_srv_bad (by rw [List.length_map, hn]; exact hn1))
    have HB := Lib.hid hb
    clear he hb hx hn hs hn2 h hn1
    go_enter Tryz.func45, Tryz.ntmps45
    go_wp2_with fail
    go_ret
    exact ⟨Below.refl _ _, 6, c, HLn.out, rfl, fun h0 => absurd h0 (by decide)⟩
end Go.Proofs.YtpnlgojbmjfhhaaGreatDoor
namespace Go.Proofs.YtpnlgojbmjfhhaaGreatDoor
open Go.RowKit

theorem ln_opt_no {c : ConfM} {l : List (List UInt8)} (h : setOs c l = none) : LnR c (wOp :: l) 6 c := by
  refine ⟨(0, []), fun h => ?_, ?_⟩
  · exact absurd (show wOp = wSe by injection h) (by decide)
  · simp only [lnF]
    rw [if_neg (by decide), if_neg (by decide), if_pos trivial, h]
theorem ln_other {c : ConfM} {x : List UInt8} {l : List (List UInt8)} (h1 : ¬ x = wNs) (h2 : ¬ x = wSe) (h3 : ¬ x = wOp) : LnR c (x :: l) 6 c := by
  refine ⟨(0, []), fun h => ?_, ?_⟩
  · exact absurd (show x = wSe by injection h) h2
  · simp only [lnF]
    rw [if_neg h1, if_neg h2, if_neg h3]
set_option maxRecDepth 100000 in
set_option maxHeartbeats 4000000 in
theorem turn_e (g n : Nat) (A : Option Addr) (y : ByteArray) (xs : List ByteArray) (c : ConfM) (v x : Value) (w0 w : World) (he : AEnv w0) (hb : Below w0.heap.size w0 w) (hx : WordsV w A xs) (hn : xs.length = n) (hs : ∀ y ∈ xs, y.size < 4294967281) (hn2 : n ≤ 4294967281)
    (h : CfAt w0.heap.size w g c v x) : Calls Tryz.prog 27 #[.pointer (some ⟨g, 0, none⟩), .string y, .slice A n n] w (TnPost w0.heap.size g w (fun k c' => LnR c (y.data.toList :: xs.map (·.data.toList)) k c')) := by
  by_cases h1 : y.data.toList = wNs
  · have hc := addServer_e g n A xs c v x w0 w he hb hx hn hs hn2 h
    have s1 := str_eq h1
    unfold wNs at s1
    rw [h1]
    clear he hb hx hn hs hn2 h h1
    go_enter Tryz.func27, Tryz.ntmps27
    go_wp2_with (go_at_call 45; refine hc.mono ?_; rintro e w' ⟨hb, k, c', hl, rfl, hh⟩)
    go_ret
    exact ⟨hb, k, c', hl, rfl, hh⟩
  · have s1 := str_ne h1
    unfold wNs at s1
    by_cases h2 : y.data.toList = wSe
    · have hc := setSearch_e g n A xs c v x w0 w he hb hx hn hs hn2 h
      have s2 := str_eq h2
      unfold wSe at s2
      rw [h2]
      clear he hb hx hn hs hn2 h h1 h2
      go_enter Tryz.func27, Tryz.ntmps27
      go_wp2_with (go_at_call 46; refine hc.mono ?_; rintro e w' ⟨hb, k, c', hl, rfl, hh⟩)
      go_ret
      exact ⟨hb, k, c', hl, rfl, hh⟩
    · have s2 := str_ne h2
      unfold wSe at s2
      by_cases h3 : y.data.toList = wOp
      · have hc := setOptions_e g n A xs c v x w0 w he hb hx hn hs hn2 h
        have s3 := str_eq h3
        unfold wOp at s3
        have HL : Hid (∀ e w', OptPost w0.heap.size g w c v x (xs.map (·.data.toList)) e w' → TnPost w0.heap.size g w (fun k c' => LnR c (y.data.toList :: xs.map (·.data.toList)) k c') e w') := Lib.hid (fun e w' h => by
          rw [h3]
          rcases h with ⟨hb, ⟨ho, he⟩ | ⟨c', ho, he, hc⟩⟩
          · exact ⟨hb, 6, c, ln_opt_no ho, he, fun h => absurd h (by decide)⟩
          · exact ⟨hb, 0, c', pc_opts ho, he, fun _ => ⟨_, _, hc⟩⟩)
        clear he hb hx hn hs hn2 h h1 h2 h3
        have hc2 : Calls Tryz.prog 47 #[.pointer (some ⟨g, 0, none⟩), .slice A n n] w fun e w' => ∃ k : Nat, e = .returned (.int .i64 k) ∧ OptPost w0.heap.size g w c v x (xs.map (·.data.toList)) (.returned (.int .i64 k)) w' := hc.mono (by
          rintro e w' h
          rcases h with ⟨hb, ⟨ho, rfl⟩ | ⟨c', ho, rfl, hc⟩⟩
          · exact ⟨6, rfl, hb, .inl ⟨ho, rfl⟩⟩
          · exact ⟨0, rfl, hb, .inr ⟨c', ho, rfl, hc⟩⟩)
        clear hc
        go_enter Tryz.func27, Tryz.ntmps27
        go_wp2_with (go_at_call 47; refine hc2.mono ?_; rintro e w' ⟨k, rfl, hp⟩)
        go_ret
        exact HL.out _ _ hp
      · have s3 := str_ne h3
        unfold wOp at s3
        have HLn := Lib.hid (ln_other (c := c) (l := xs.map (·.data.toList)) h1 h2 h3)
        clear he hb hx hn hs hn2 h h1 h2 h3
        go_enter Tryz.func27, Tryz.ntmps27
        go_wp2_with fail
        go_ret
        exact ⟨Below.refl _ _, 6, c, HLn.out, rfl, fun h => absurd h (by decide)⟩
/-- a result that lies in a cell, and one that does not -/
theorem results_cell_tmp {P : Program} {fn : Func} {p q : Tmp} {ty : TypeId} (h : fn.results = #[.cell p ty, .tmp q]) (tmps : Array Value) (w : World) (g : Nat) (t : TypeId) (cs : Array Value) (fr : Nat × Nat) (d : TypeDesc)
    (hp : tmps.getD p undef = .pointer (some ⟨g, 0, none⟩)) (hg : w.heap[g]? = some (.cells cs t fr))
    (hu : P.underlying ty = some d) (hd : (match d with | .struct _ | .array _ _ => true | _ => false) = true) (hi : (P.info? ty).map (·.size) = some cs.size) :
    (results fn tmps).run P w = .ok (.tuple #[.agg cs, tmps.getD q undef]) w := by
  have hp' : tmps[p]?.getD undef = .pointer (some ⟨g, 0, none⟩) := by simpa using hp
  simp [results, h, hp', asAddr, run_loadVar_row w g t ty cs fr d hg hu hd hi]
def zConf : Array Value := cfV (.slice none 0 0) (.slice none 0 0) ConfM.zero
def dConf : Array Value := cfV (.slice none 0 0) (.slice none 0 0) ConfM.dflt
theorem zeroConf : (Tryz.prog.info? 26).map (·.zero) = some (some (.agg zConf)) := by kernel_rfl
theorem sizeConf : (Tryz.prog.info? 26).map (·.size) = some 5 := by kernel_rfl
theorem builtConf : Tryz.prog.built 26 [(2, .int .i64 1), (3, .int .i64 5), (4, .int .i64 2)] = some dConf := by kernel_rfl
theorem builtZero : Tryz.prog.built 26 [] = some zConf := by kernel_rfl
theorem cfV_one (A A' : Option Addr) (n k n' k' : Nat) (c : ConfM) : (cfV (.slice A n k) (.slice A' n' k') c).all (·.oneCell') = true := by simp [cfV, Value.oneCell']
theorem default_e (w : World) : Calls Tryz.prog 25 #[] w fun e w' => e = .returned (.agg dConf) ∧ Below w.heap.size w w' := by
  have HZ := Lib.hid zeroConf
  have HS : Hid ((Tryz.prog.info? 26).map (·.size) = some dConf.size) := Lib.hid sizeConf
  have HE : Hid (zConf.size = dConf.size) := Lib.hid rfl
  have H1 : Hid (dConf.all (·.oneCell') = true) := Lib.hid (cfV_one _ _ _ _ _ _ _)
  have HBu := Lib.hid builtConf
  generalize zConf = Z at HZ HE
  generalize dConf = D at HS HE H1 HBu
  have HB : Hid (Below w.heap.size w (w.alloc (.cells D 26))) := Lib.hid ((Below.refl _ w).alloc (Nat.le_refl _) _)
  go_enter Tryz.func25, Tryz.ntmps25
  go_wp2_with (first
    | (refine wpList_alloc_z rfl 26 rfl Z HZ.out ?_; go_simp)
    | (refine wpList_build_z rfl 26 #[(2, .const (.int .i64 1)), (3, .const (.int .i64 5)), (4, .const (.int .i64 2))] rfl D HBu.out ?_; go_simp)
    | (refine wpList_store_new rfl 26 (.tmp 0) (.tmp 1) rfl w.heap.size rfl Z D 26 rfl rfl HS.out HE.out H1.out ?_; go_simp))
  exact bodyPost_ret (results_cell_row rfl _ _ w.heap.size 26 D (0, 0) _ rfl (heap_alloc_last w _) Tryz.underlying26 rfl HS.out) rfl ⟨rfl, HB.out⟩
/-- a fault -/
def FaultAt (w : World) (p f k : Nat) : Prop := p < w.heap.size ∧ w.cell? ⟨p, 0, none⟩ = some (.int .i64 f) ∧ w.cell? ⟨p, 1, none⟩ = some (.iface 36 (.int .i64 k))
theorem FaultAt.below {w w' : World} {p f k : Nat} (h : FaultAt w p f k) (hb : Below w.heap.size w w') : FaultAt w' p f k :=
  ⟨Nat.lt_of_lt_of_le h.1 hb.size, (hb.cell (p := ⟨p, 0, none⟩) h.1).trans h.2.1, (hb.cell (p := ⟨p, 1, none⟩) h.1).trans h.2.2⟩
/-- what Parse answers -/
def PcPost (w : World) (s : List UInt8) (e : Ending) (w' : World) : Prop :=
  Below w.heap.size w w' ∧ ∃ (f k : Nat) (d : ConfM) (val : Value), PcR 1 ConfM.dflt ((nl s).map wordsL) f k d ∧ CV w' val d ∧
    ((k = 0 ∧ e = .returned (.tuple #[val, .nilIface])) ∨ (k ≠ 0 ∧ ∃ p, e = .returned (.tuple #[val, .iface 35 (.pointer (some ⟨p, 0, none⟩))]) ∧ FaultAt w' p f k))
structure PcAt (w0 wr : World) (g : Nat) (S : List UInt8) (t : ByteArray) (more : Bool) (n : Nat) (c : ConfM) (v x : Value) : Prop where
  below : Below w0.heap.size w0 wr
  cf : CfAt w0.heap.size wr g c v x
  small : t.size ≤ S.length
  rest : ∀ f k d, PcR n c ((if more = true then nl t.data.toList else []).map wordsL) f k d → PcR 1 ConfM.dflt ((nl S).map wordsL) f k d
theorem PcAt.next {w0 wr w2 : World} {g n : Nat} {S : List UInt8} {t line after : ByteArray} {found : Bool} {c c' : ConfM} {v x v' x' : Value} (h : PcAt w0 wr g S t true n c v x) (hc : CutAt t line after found) (hl : LnR c (wordsL line.data.toList) 0 c')
    (hb : Below w0.heap.size wr w2) (h2 : CfAt w0.heap.size w2 g c' v' x') : PcAt w0 w2 g S after found (n + 1) c' v' x' :=
  ⟨h.below.trans hb, h2, Nat.le_trans hc.le.2 h.small, fun f k d hp => h.rest f k d (by
    rw [if_pos rfl, hc.lines, List.map_cons]
    exact .line hl hp)⟩
theorem PcAt.fault {w0 wr : World} {g n k : Nat} {S : List UInt8} {t line after : ByteArray} {found : Bool} {c c' : ConfM} {v x : Value} (h : PcAt w0 wr g S t true n c v x) (hc : CutAt t line after found) (hl : LnR c (wordsL line.data.toList) k c') (hk : k ≠ 0) :
    PcR 1 ConfM.dflt ((nl S).map wordsL) n k ConfM.zero :=
  h.rest _ _ _ (by
    rw [if_pos rfl, hc.lines, List.map_cons]
    exact .fault hl hk)
theorem PcAt.done {w0 wr : World} {g n : Nat} {S : List UInt8} {t : ByteArray} {c : ConfM} {v x : Value} (h : PcAt w0 wr g S t false n c v x) : PcR 1 ConfM.dflt ((nl S).map wordsL) 0 0 c :=
  h.rest _ _ _ (by rw [if_neg (by decide)]; exact .done)
theorem sl_any (b n : Nat) (hn2 : n ≤ 1099511627776) : ∃ A : Option Addr, (n ≠ 0 → A = some ⟨b, 1, none⟩) ∧ ∀ W : World, (Instr.sliceAt 24 (.slice (some ⟨b, 0, none⟩) (n + 1) (n + 1)) (some (.int .i64 1)) none none).run Tryz.prog W = .ok (.slice A n n) W := by
  by_cases h0 : n = 0
  · subst h0
    refine ⟨some ⟨b, 0, none⟩, fun h => absurd rfl h, fun W => ?_⟩
    have hE : Tryz.prog.elem 24 = 9 := by kernel_rfl
    have hZ : ∀ W : World, (sizeOf 9).run Tryz.prog W = .ok 1 W := fun W => by kernel_rfl
    rw [run_sliceAt_slice (P := Tryz.prog) (w := W) 24 _ (some (.int .i64 1)) none none (by rw [hE]; exact Tryz.underlying24)]
    go_simp
  · exact ⟨_, fun _ => rfl, sl_one b n (by omega) hn2⟩
/-- a configuration as a value, behind a store elsewhere -/
theorem SrvV.keep {w w' : World} {v : Value} {l : List (List UInt8)} (h : SrvV w v l) (hl : ∀ a ∈ l, a.length = 16) (hk : ∀ k, k < w.heap.size → (∃ z, w.cell? ⟨k, 0, none⟩ = some (.int .u8 z)) → w'.heap[k]? = w.heap[k]?) (hs : w.heap.size ≤ w'.heap.size) : SrvV w' v l := by
  obtain ⟨A, cap, e, hA⟩ := h
  refine ⟨A, cap, e, fun h => ?_⟩
  obtain ⟨b, e2, hb, hc⟩ := hA h
  obtain ⟨y, t, rfl⟩ := List.exists_cons_of_ne_nil h
  have h0 := hc 0 (.int .u8 (y.getD 0 0).toNat) (by
    have := avs_at (l := y :: t) (i := 0) (a := y) (j := 0) hl rfl (by decide)
    rw [show 0 * 16 + 0 = 0 by rfl] at this
    rw [this, bvs_at (by rw [hl y List.mem_cons_self]; decide)])
  exact ⟨b, e2, Nat.lt_of_lt_of_le hb hs, fun k u hku => (World.cell?_of_block (a := ⟨b, k, none⟩) (hk b hb ⟨_, h0⟩)).trans (hc k u hku)⟩
theorem CV.keep {w w' : World} {val : Value} {c : ConfM} {g : Nat} {A A' : Option Addr} {n k n' k' : Nat} {c0 : ConfM} (h : CV w val c) (hg : w.heap[g]? = some (.cells (cfV (.slice A n k) (.slice A' n' k') c0) 26 (0, 0))) (hw : w.grownBy w' (some g)) : CV w' val c := by
  obtain ⟨v, x, e, h1, h2, h3⟩ := h
  have h0 := cell_of_row w g 0 _ _ _ hg
  refine ⟨v, x, e, h1.keep h3 (fun k hk ⟨z, hz⟩ => hw.block k hk (fun e => ?_)) hw.size, h2.keep (fun k hk ⟨z, hz⟩ => hw.block k hk (fun e => ?_)) hw.size, h3⟩
  · injection e with e; subst e
    rw [h0] at hz; cases hz
  · injection e with e; subst e
    rw [h0] at hz; cases hz
end Go.Proofs.YtpnlgojbmjfhhaaGreatDoor
namespace Go.Proofs.YtpnlgojbmjfhhaaGreatDoor
open Go.RowKit

set_option maxRecDepth 100000 in
set_option maxHeartbeats 8000000 in
theorem cparse_e (s : ByteArray) (w : World) (he : AEnv w) (hs : s.size ≤ 1099511627) : Calls Tryz.prog 10 #[.string s] w (PcPost w s.data.toList) := by
  obtain ⟨S, hS⟩ : ∃ S, S = s.data.toList := ⟨_, rfl⟩
  have hSl : S.length ≤ 1099511627 := by rw [hS, ← Lib.size_eq]; exact hs
  have HSS := Lib.hid hS
  rw [← hS]
  have HZ := Lib.hid zeroConf
  have HE := Lib.hid he
  have HSl := Lib.hid hSl
  have hbz : Below w.heap.size w (w.alloc (.cells zConf 26)) := (Below.refl _ w).alloc (Nat.le_refl _) _
  have hz0 : (w.alloc (.cells zConf 26)).heap[w.heap.size]? = some (.cells zConf 26 (0, 0)) := heap_alloc_last w _
  have hdef := default_e (w.alloc (.cells zConf 26))
  obtain ⟨Z, hZ⟩ : ∃ Z, Z = zConf := ⟨_, rfl⟩
  obtain ⟨D, hD⟩ : ∃ D, D = dConf := ⟨_, rfl⟩
  rw [← hZ] at HZ hbz hz0 hdef
  rw [← hD] at hdef
  have HZ0 := Lib.hid hz0
  have HBZ := Lib.hid hbz
  have HZe := Lib.hid hZ
  have HDe := Lib.hid hD
  have HSD : Hid ((Tryz.prog.info? 26).map (·.size) = some D.size) := Lib.hid (by rw [hD]; exact sizeConf)
  have HED : Hid (Z.size = D.size) := Lib.hid (by rw [hZ, hD]; rfl)
  have H1D : Hid (D.all (·.oneCell') = true) := Lib.hid (by rw [hD]; exact cfV_one _ _ _ _ _ _ _)
  clear he hSl hbz hz0 hS hZ hD
  go_enter Tryz.func10, Tryz.ntmps10
  go_wp2_with (first
    | (refine wpList_alloc_z rfl 26 rfl Z HZ.out ?_; go_simp)
    | (go_at_call 25; refine hdef.mono ?_; rintro e w2 ⟨rfl, hb2⟩; have HB2 := Lib.hid hb2; clear hb2)
    | (refine wpList_store_new rfl 26 (.tmp 4) (.tmp 10) rfl w2.heap.size rfl Z D 26 rfl rfl HSD.out HED.out H1D.out ?_; go_simp))
  have HEw2 := Lib.hid (HE.out.below (HBZ.out.trans (HB2.out.mono (by rw [World.size_alloc]; omega))))
  have HBw2 := Lib.hid (HBZ.out.trans (HB2.out.mono (by rw [World.size_alloc]; omega)))
  have HZ2 : Hid (w2.heap[w.heap.size]? = some (.cells Z 26 (0, 0)) ∧ w.heap.size < w2.heap.size) := Lib.hid (by
    have h1 := HB2.out.size
    rw [World.size_alloc] at h1
    exact ⟨(HB2.out.block _ (by rw [World.size_alloc]; omega)).trans HZ0.out, by omega⟩)
  have HST : Hid (PcAt w2 (w2.alloc (.cells D 26)) w2.heap.size S s true 1 ConfM.dflt (.slice none 0 0) (.slice none 0 0)) := Lib.hid (by
    refine ⟨(Below.refl _ _).alloc (Nat.le_refl _) _, ⟨Nat.le_refl _, ?_, World.ownsRow_nil _ _ _ _, ⟨none, rfl, fun h => absurd rfl h⟩, RightC.dflt, fun _ => rfl⟩, by rw [HSS.out, Lib.size_eq]; exact Nat.le_refl _, fun f k d h => by rw [if_pos rfl] at h; rw [HSS.out]; exact h⟩
    rw [heap_alloc_last, HDe.out]; rfl)
  clear hdef
  go_loopg [0, 5, 6, 7, 8, 9] (s.size + 1) (fun gk t n m _ _ _ wr => ∃ (tt : ByteArray) (mm : Bool) (nn : Nat) (c : ConfM) (v x : Value), t = .string tt ∧ n = .int .i64 nn ∧ m = .bool mm ∧ tt.size + more1 mm ≤ gk ∧ nn + gk = s.size + 2 ∧ Hid (PcAt w2 wr w2.heap.size S tt mm nn c v x))
  case atStart => exact ⟨s, true, 1, _, _, _, rfl, rfl, rfl, Nat.le_refl _, by omega, HST⟩
  case round =>
    obtain ⟨t, more, n, c, v, x, rfl, rfl, rfl, hgk, hng, HAT⟩ := hrel
    cases more
    · obtain ⟨A, cap, hv⟩ := own_sl HAT.out.cf.row
      obtain ⟨A', hx, _⟩ := HAT.out.cf.sea
      have hr1 : (cfV v x c).all (·.oneCell') = true := by rw [hv, hx]; exact cfV_one _ _ _ _ _ _ _
      have hrb := HAT.out.cf.blk
      have hval := HAT.out.cf.val
      have HPC := Lib.hid HAT.out.done
      obtain ⟨r, hr⟩ : ∃ r, r = cfV v x c := ⟨_, rfl⟩
      rw [← hr] at hr1 hrb hval
      have HS5 : Hid ((Tryz.prog.info? 26).map (·.size) = some r.size) := Lib.hid (by rw [hr]; exact sizeConf)
      have HZr : Hid (Z.size = r.size) := Lib.hid (by rw [hr, HZe.out]; rfl)
      have HR1 := Lib.hid hr1
      have HRB := Lib.hid hrb
      have HVAL := Lib.hid hval
      have HZr2 := Lib.hid ((HAT.out.below.block _ HZ2.out.2).trans HZ2.out.1)
      have HBr := Lib.hid (HBw2.out.trans (HAT.out.below.mono HBw2.out.size))
      have huC := Tryz.underlying26
      clear hv hx hr1 hrb hval hr hgk hng
      go_wp2_with (first
        | (refine wpList_load_row rfl 26 (.tmp 4) rfl w2.heap.size rfl 26 r (0, 0) _ HRB.out huC rfl HS5.out ?_; go_simp)
        | (refine wpList_store_blk rfl 26 (.tmp 2) (.tmp 40) rfl w.heap.size Z r 26 HZr2.out rfl rfl HS5.out HZr.out HR1.out ?_; intro w9 hg9 hw9 hs9; clear hs9; go_simp))
      refine bodyPost_ret (results_cell_tmp rfl _ w9 w.heap.size 26 r (0, 0) _ rfl hg9.out huC rfl HS5.out) rfl ?_
      have hz := HZr2.out
      rw [HZe.out] at hz
      exact ⟨HBr.out.grown hw9.out HBr.out.size (fun k e => by injection e with e; omega), 0, 0, c, _, HPC.out, CV.keep HVAL.out hz hw9.out, .inl ⟨rfl, rfl⟩⟩
    · obtain ⟨g, rfl⟩ : ∃ g, gk = g + 1 := ⟨gk - 1, by unfold more1 at hgk; rw [if_pos rfl] at hgk; omega⟩
      have htg : t.size ≤ g := by unfold more1 at hgk; rw [if_pos rfl] at hgk; omega
      have hts : t.size < 4294967281 := by have := HAT.out.small; have := HSl.out; omega
      have hnb : n ≤ 1099511629 := by omega
      obtain ⟨m, hm⟩ := (HEw2.out.below HAT.out.below).env.2
      have hcut := Tryz.strings_Cut t ⟨#[10]⟩ m wr hts hm
      have hca := cut_at10 t
      rw [show (ByteArray.mk #[10]).data.toList = [10] from rfl] at hcut
      generalize (ByteArray.mk (Go.Lib.cut t.data.toList [10]).1.toArray) = line at hcut hca
      generalize (ByteArray.mk (Go.Lib.cut t.data.toList [10]).2.1.toArray) = after at hcut hca
      generalize (Go.Lib.cut t.data.toList [10]).2.2 = found at hcut hca
      have hg' : after.size + more1 found ≤ g := by
        have := hca.le.2
        unfold more1
        cases found
        · rw [if_neg (by decide)]; omega
        · have := hca.less rfl
          rw [if_pos rfl]; omega
      have hls : line.size < 4294967281 := by have := hca.le.1; omega
      have HCA := Lib.hid hca
      have HEr := Lib.hid (HEw2.out.below HAT.out.below)
      clear hm hgk hca
      go_wp2_with fail
      refine hcut.mono ?_
      rintro e w3 ⟨rfl, q, rfl⟩
      clear hcut
      have hb3 : Below wr.heap.size wr (wr.drewN q) := below_drewQ (Below.refl _ wr) q
      have HB3 := Lib.hid hb3
      have hwd := words_e line (wr.drewN q) (HEr.out.below hb3) hls
      clear hb3
      go_wp2_with fail
      refine hwd.mono ?_
      rintro e w4 ⟨b, xs, hxs, rfl, hst, hb4⟩
      have HB4 := Lib.hid (HB3.out.trans (hb4.mono HB3.out.size))
      have HSTR := Lib.hid hst
      have HXS := Lib.hid hxs
      clear hwd hst hb4 hxs
      by_cases hx0 : xs.length = 0
      · have hr : LnR c (wordsL line.data.toList) 0 c := by
          rw [← HXS.out, List.length_eq_zero_iff.1 hx0]; exact LnR.blank c
        have HN := Lib.hid (HAT.out.next HCA.out hr (HB4.out.mono HAT.out.below.size) (HAT.out.cf.below HB4.out))
        clear hr
        rw [hx0]
        go_wp2_with fail
        go_roundg g
        case measure => omega
        case rel => exact ⟨after, found, n + 1, c, v, x, rfl, by go_num, rfl, hg', by omega, HN⟩
      · obtain ⟨k, hxl⟩ : ∃ k, xs.length = k + 1 := ⟨xs.length - 1, by omega⟩
        have hwl : wordsL line.data.toList = (xs.getD 0 ByteArray.empty).data.toList :: xs.tail.map (·.data.toList) := by
          rw [← HXS.out]
          cases xs with
          | nil => simp at hxl
          | cons x t => rfl
        have hsz : ∀ y ∈ xs, y.size < 4294967281 := fun y hy => by
          have : y.data.toList ∈ wordsL line.data.toList := by rw [← HXS.out]; exact List.mem_map_of_mem hy
          have := words_len this
          rw [← Lib.size_eq, ← Lib.size_eq] at this
          omega
        have hkl : k ≤ 4294967281 := by
          have h1 := congrArg List.length HXS.out
          rw [List.length_map] at h1
          have h2 := fw_count (toldL line.data.toList) []
          have h3 := toldL_len line.data.toList
          rw [← Lib.size_eq] at h3
          unfold wordsL at h1
          omega
        obtain ⟨A, hA, hsl⟩ := sl_any b k (by omega)
        have c0 : w4.cell? ⟨b, 0, none⟩ = some (.string (xs.getD 0 ByteArray.empty)) := HSTR.out.2 0 (by omega)
        have hxt : xs.tail.length = k := by rw [List.length_tail, hxl]; rfl
        have hwv : WordsV w4 A xs.tail := fun hne => by
          have hk0 : k ≠ 0 := fun e => hne (List.length_eq_zero_iff.1 (by rw [hxt, e]))
          refine ⟨b, 1, hA hk0, HSTR.out.1, fun j hj => ?_⟩
          have := HSTR.out.2 (1 + j) (by omega)
          rw [Nat.zero_add] at this
          rw [this, List.getD_eq_getElem?_getD, List.getD_eq_getElem?_getD, List.getElem?_tail, Nat.add_comm 1 j]
        have htn := turn_e w2.heap.size k A (xs.getD 0 ByteArray.empty) xs.tail c v x w2 w4.drew HEw2.out (HAT.out.below.trans (HB4.out.mono HAT.out.below.size)).drew hwv hxt (fun y hy => hsz y (List.mem_of_mem_tail hy)) hkl (HAT.out.cf.below HB4.out.drew)
        rw [← hwl] at htn
        have hxI : ((xs.length : Nat) : Int) = (k : Int) + 1 := by omega
        rw [hxl]
        generalize xs.getD 0 ByteArray.empty = y0 at c0 htn
        have HT := Lib.hid htn
        clear hwl hsz hxt hwv htn hA hx0 hxl hxI
        go_wp2_with fail
        go_region_law (first
          | (go_simp; go_at_call 27; refine HT.out.mono ?_; rintro e' w5 ⟨hb5, j, c', hl5, rfl, hc5⟩; have HB5 := Lib.hid hb5; have HL5 := Lib.hid hl5; have HC5 := Lib.hid hc5; clear hb5 hl5 hc5))
        all_goals
          by_cases hj : j = 0
          · subst hj
            obtain ⟨v', x', hc'⟩ := HC5.out rfl
            have HN := Lib.hid (HAT.out.next HCA.out HL5.out ((HB4.out.drew.mono HAT.out.below.size).trans HB5.out) hc')
            clear hc'
            go_wp2_with fail
            go_roundg g
            case measure => omega
            case rel => exact ⟨after, found, n + 1, c', v', x', rfl, by go_num, rfl, hg', by omega, HN⟩
          · have hjI : ¬ (j : Int) = 0 := by omega
            have HPC := Lib.hid (HAT.out.fault HCA.out HL5.out hj)
            have hbw5 : Below w2.heap.size w2 w5 := HAT.out.below.trans ((HB4.out.drew.mono HAT.out.below.size).trans HB5.out)
            have HZ5 := Lib.hid ((hbw5.block _ HZ2.out.2).trans HZ2.out.1)
            have HBr := Lib.hid (HBw2.out.trans (hbw5.mono HBw2.out.size))
            have HBu : Hid (Tryz.prog.built 26 [] = some Z) := Lib.hid (by rw [HZe.out]; exact builtZero)
            have HSZ : Hid ((Tryz.prog.info? 26).map (·.size) = some Z.size) := Lib.hid (by rw [HZe.out]; exact sizeConf)
            have H1Z : Hid (Z.all (·.oneCell') = true) := Lib.hid (by rw [HZe.out]; exact cfV_one _ _ _ _ _ _ _)
            have huC := Tryz.underlying26
            have hlt5 : w.heap.size < w5.heap.size := Nat.lt_of_lt_of_le HZ2.out.2 hbw5.size
            have HZ6 : Hid ((w5.alloc (.cells #[.int .i64 (n : Int), .iface 36 (.int .i64 (j : Int))] 43)).heap[w.heap.size]? = some (.cells Z 26 (0, 0))) := Lib.hid ((Below.heap_alloc _ _ _ hlt5).trans HZ5.out)
            have HF6 : Hid (FaultAt (w5.alloc (.cells #[.int .i64 (n : Int), .iface 36 (.int .i64 (j : Int))] 43)) w5.heap.size n j) := Lib.hid ⟨by rw [World.size_alloc]; omega, by rw [World.cell?_alloc_mark]; rfl, by rw [World.cell?_alloc_mark]; rfl⟩
            have HB6 := Lib.hid (HBr.out.alloc HBr.out.size (.cells #[.int .i64 (n : Int), .iface 36 (.int .i64 (j : Int))] 43))
            have HNe : Hid (w5.heap.size ≠ w.heap.size) := Lib.hid (by omega)
            clear hbw5 hlt5
            go_wp2_with (first
              | (refine wpList_build_z rfl 26 #[] rfl Z HBu.out ?_; go_simp)
              | (refine wpList_store_blk rfl 26 (.tmp 2) (.tmp 33) rfl w.heap.size Z Z 26 HZ6.out rfl rfl HSZ.out rfl H1Z.out ?_; intro w9 hg9 hw9 hs9; clear hs9; go_simp))
            refine bodyPost_ret (results_cell_tmp rfl _ w9 w.heap.size 26 Z (0, 0) _ rfl hg9.out huC rfl HSZ.out) rfl ?_
            refine ⟨HB6.out.grown hw9.out (by rw [World.size_alloc]; have := HBr.out.size; omega) (fun k e => by injection e with e; omega), n, j, ConfM.zero, _, HPC.out, (by rw [HZe.out]; exact CV.zero _), .inr ⟨hj, w5.heap.size, rfl, ?_⟩⟩
            have hk := hw9.out.block w5.heap.size (by rw [World.size_alloc]; omega) (fun e => by injection e with e; exact HNe.out e)
            exact ⟨Nat.lt_of_lt_of_le HF6.out.1 hw9.out.size, (World.cell?_of_block (a := ⟨w5.heap.size, 0, none⟩) hk).trans HF6.out.2.1, (World.cell?_of_block (a := ⟨w5.heap.size, 1, none⟩) hk).trans HF6.out.2.2⟩
end Go.Proofs.YtpnlgojbmjfhhaaGreatDoor
