/-
  The walk of LinkLongest. Condition: the library's variable MaxLen holds some number.
-/
import Derived.Test.YtnjcbkolniemnaaDoorLinkLong
namespace Go.Proofs.YtnjcbkolniemnaaDoor
open Go.RowKit

theorem Below.up {b c : Nat} {w w' : World} (h : Below c w w') (hbc : b ≤ c) : Below b w w' := h.mono hbc
/-- how far the loop over the four links has come -/
def Far4 (m : Nat) (df : Bool) (k : Nat) (ss : List Sl) : Prop := ∀ j, j < k → ∃ s, ss[j]? = some s ∧ IsL m df j s
theorem Far4.next {m : Nat} {df : Bool} {k : Nat} {ss : List Sl} {s : Sl} (h : Far4 m df k ss) (hk : k < ss.length) (hs : IsL m df k s) : Far4 m df (k + 1) (ss.set k s) := fun j hj => by
  by_cases e : j = k
  · subst e
    exact ⟨s, by rw [List.getElem?_set_self hk], hs⟩
  · obtain ⟨t, ht, hl⟩ := h j (by omega)
    exact ⟨t, by rw [List.getElem?_set_ne (Ne.symm e)]; exact ht, hl⟩
theorem Far4.all {m : Nat} {df : Bool} {ss : List Sl} (h : Far4 m df 4 ss) (h4 : ss.length = 4) : ∃ a b c d, ss = [a, b, c, d] ∧ IsL m df 0 a ∧ IsL m df 1 b ∧ IsL m df 2 c ∧ IsL m df 3 d := by
  match ss, h4 with
  | [a, b, c, d], _ =>
    obtain ⟨_, e0, h0⟩ := h 0 (by omega)
    obtain ⟨_, e1, h1⟩ := h 1 (by omega)
    obtain ⟨_, e2, h2⟩ := h 2 (by omega)
    obtain ⟨_, e3, h3⟩ := h 3 (by omega)
    injection e0 with e0; injection e1 with e1; injection e2 with e2; injection e3 with e3
    subst e0 e1 e2 e3
    exact ⟨_, _, _, _, rfl, h0, h1, h2, h3⟩
/-- the four domains as they lie -/
def domsL : Array Value := #[.string (domN 0), .string (domN 1), .string (domN 2), .string (domN 3)]
theorem dom_cell {w : World} {g q : Nat} (h : w.heap[g]? = some (.cells domsL 9 (0, 0))) (hq : q < 4) : w.cell? ⟨g, q, none⟩ = some (.string (domN q)) := by
  rw [cell_of_row w g q _ _ _ h]
  match q, hq with
  | 0, _ => rfl
  | 1, _ => rfl
  | 2, _ => rfl
  | 3, _ => rfl
set_option maxRecDepth 100000 in
set_option maxHeartbeats 4000000 in
theorem linkLongest_walk (n : Int) (df : Bool) (W : World) (he : Env W) : Calls Tryd.prog 4 #[.int .i64 n, .bool df] W fun e w' => e = .returned (.bool true) ∧ Below W.heap.size W w' := by
  have hme := he.1
  have hmk := mk_addr
  obtain ⟨m, hm4, hat⟩ := and3 n
  go_enter Tryd.func4, Tryd.ntmps4
  go_wp2_with fail
  refine (fit11_e W he).mono ?_
  rintro e w1 ⟨rfl, hb, hE1⟩
  have HB1 := Lib.hid hb
  have HE1 := Lib.hid hE1
  have HE0 := Lib.hid he
  clear hb hE1 he
  go_wp2_with fail
  refine (newT_e w1).mono ?_
  rintro e w2 ⟨T, rfl, hT2, hb⟩
  have HT2 := Lib.hid hT2
  have HB2 := Lib.hid (HB1.out.trans (hb.mono HB1.out.size))
  have HE2 := Lib.hid (HE1.out.below hb)
  have hTb := hT2.ge
  have hT2l := hT2.lt
  have hz1 := HB1.out.size
  clear hT2 hb HB1 HE1
  have hz2 := HB2.out.size
  have hbs := (Below.refl _ w2).alloc (Nat.le_refl _) (.cells z16.toArray 53)
  have hbd := hbs.alloc (by simp) (.cells domsL 9)
  have hS0 := (Below.heap_alloc (w2.alloc (.cells z16.toArray 53)) (.cells domsL 9) w2.heap.size (by simp)).trans (heap_alloc_last w2 (.cells z16.toArray 53))
  have hD0 := heap_alloc_last (w2.alloc (.cells z16.toArray 53)) (.cells domsL 9)
  rw [World.size_alloc] at hD0
  have HS0 := Lib.hid hS0
  have HD0 := Lib.hid hD0
  have HT3 := Lib.hid (HT2.out.below hbd)
  have HE3 := Lib.hid (HE2.out.below hbd)
  have HB3 := Lib.hid (HB2.out.trans (hbd.mono hz2))
  have hz3 : ((w2.alloc (.cells z16.toArray 53)).alloc (.cells domsL 9)).heap.size = w2.heap.size + 1 + 1 := by simp
  clear hbs hbd hS0 hD0 HT2 HE2 HB2
  obtain ⟨w3, hw3⟩ : ∃ w3, (w2.alloc (.cells z16.toArray 53)).alloc (.cells domsL 9) = w3 := ⟨_, rfl⟩
  rw [hw3] at HS0 HD0 HT3 HE3 HB3 hz3
  have HW3 : Hid ((w2.alloc (.cells z16.toArray 53)).alloc (.cells #[.string ⟨#[46]⟩, .string ⟨#[110, 101, 116]⟩, .string ⟨#[98, 46, 110, 101, 116]⟩, .string ⟨#[97, 46, 98, 46, 110, 101, 116]⟩] 9) = w3) := Lib.hid hw3
  clear hw3
  go_wp2_with fail
  rw [HW3.out]
  go_loopw [22] (fun i wr => ∃ (k : Nat) (ss : List Sl), k ≤ 4 ∧ i = .int .i64 k ∧ TAt w1.heap.size wr T ss k ∧ Far4 m df k ss ∧ wr.heap[w2.heap.size]? = some (.cells z16.toArray 53 (0, 0)) ∧ wr.heap[w2.heap.size + 1]? = some (.cells domsL 9 (0, 0)) ∧ Below W.heap.size W wr ∧ Env wr) (fun i _ => 4 - (intOf i).toNat)
  case atStart => exact ⟨0, _, by omega, rfl, HT3.out, (fun j hj => by omega), HS0.out, HD0.out, HB3.out, HE3.out⟩
  case round =>
    obtain ⟨k, ss, hk, rfl, hT, hF, hS, hD, hb, hE⟩ := hrel
    have HT := Lib.hid hT
    have HF := Lib.hid hF
    have HS := Lib.hid hS
    have HD := Lib.hid hD
    have HB := Lib.hid hb
    have HE := Lib.hid hE
    clear hT hF hS hD hb hE
    by_cases hlt : k < 4
    · have hadd := add3_dec ⟨k, hlt⟩ ⟨m, hm4⟩
      have hq4 : (k + m) % 4 < 4 := Nat.mod_lt _ (by omega)
      have HQ : Hid (domN ((k + m) % 4) = domN ((k + m) % 4)) := Lib.hid rfl
      have hIs : ∀ s : Sl, s.live = true → s.ds = [domN ((k + m) % 4)] → s.df = df → s.ns = 1 → IsL m df k s := fun s h1 h2 h3 h4 => ⟨h1, h2, h3, h4⟩
      have HIs := Lib.hid hIs
      dsimp only at hadd
      have hadd2 : bits BinOp.and IntKind.i64 ((k : Int) + (m : Int)) 3 = (((k + m) % 4 : Nat) : Int) := by rw [← hadd, IntWalk.i64_in _ (by omega)]
      clear hIs HQ
      revert hadd hadd2 hq4 HIs
      generalize (k + m) % 4 = q
      intro hadd hq4 HIs hadd2
      have hcell := dom_cell HD.out hq4
      have hszr := HB.out.size
      go_wp2_with fail
      have hbl := (Below.refl _ wr).alloc (Nat.le_refl _) (.cells #[.string (domN q)] 9)
      have hset := setS_e (base := w1.heap.size) (T := T) (last := k) (k := k) (g1 := wr.heap.size) (g2 := w2.heap.size) (ss := ss) (W := wr.alloc (.cells #[.string (domN q)] 9)) (d := domN q) (df := df)
        (HT.out.below hbl) (HE.out.below hbl) (by omega) (by omega) hlt (heap_alloc_last wr _) ((Below.heap_alloc _ _ _ (heap_ltk HS.out)).trans HS.out) (domN_ok q)
      refine Calls.mono hset ?_
      rintro e w5 ⟨s5, rfl, hT5, hg5, hE5, l5, d5, f5, n5⟩
      have HT5 := Lib.hid hT5
      have HE5 := Lib.hid hE5
      have HF5 := Lib.hid (HF.out.next (by rw [HT.out.four]; omega) (HIs.out s5 l5 d5 f5 n5))
      have hbT := HT.out.ge
      have hS5 := (hg5.block w2.heap.size (by have := heap_ltk HS.out; simp; omega) (fun e => by injection e with e; omega)).trans ((Below.heap_alloc wr (.cells #[.string (domN q)] 9) _ (heap_ltk HS.out)).trans HS.out)
      have hD5 := (hg5.block (w2.heap.size + 1) (by have := heap_ltk HD.out; simp; omega) (fun e => by injection e with e; omega)).trans ((Below.heap_alloc wr (.cells #[.string (domN q)] 9) _ (heap_ltk HD.out)).trans HD.out)
      have HS5 := Lib.hid hS5
      have HD5 := Lib.hid hD5
      have HB5 := Lib.hid ((HB.out.trans (hbl.mono HB.out.size)).grown hg5 (by simp; omega) (fun k e => by injection e with e; omega))
      clear hset hT5 hg5 hE5 hS5 hD5 hbl hcell
      go_wp2_with fail
      go_roundw
      case rel => exact ⟨k + 1, _, by omega, by simp, HT5.out, HF5.out, HS5.out, HD5.out, HB5.out, HE5.out⟩
      case measure => simp [intOf]; omega
    · obtain rfl : k = 4 := by omega
      obtain ⟨a, b, c, d, rfl, ia, ib, ic, id'⟩ := HF.out.all HT.out.four
      have H7 := Lib.hid (fun (s : ByteArray) (k : Int) h => seven_route (s := s) (k := k) hm4 ia ib ic id' h)
      have HG := Lib.hid (gone_route hm4 ia ib ic id')
      have hlive : ∀ j, j < 4 → ∃ s, ([a, b, c, d] : List Sl)[j]? = some s ∧ s.live = true := fun j hj => by obtain ⟨s, h1, h2⟩ := HF.out j hj; exact ⟨s, h1, h2.1⟩
      have HL := Lib.hid hlive
      have hzw := HB.out.size
      have HM0 := Lib.hid (World.ownsMap_made wr Tryd.prog 9 (plainElem (H := Unit) Tryd.prog 3))
      have HA0 := Lib.hid ((Below.refl wr.heap.size wr).alloc (Nat.le_refl _) (.map #[] 0))
      clear ia ib ic id' hlive HF HS HD HS0 HD0 HT3 HE3 HB3 HW3 hz3
      have hmm := @run_makeMap Tryd.prog
      go_wp2_with (first
        | (refine wpList_insS rfl (.tmp 42) (.const (.string ⟨#[120]⟩)) (.const (.int .i64 0)) rfl wr.heap.size _ _ ⟨#[120]⟩ 0 rfl rfl rfl (by decide) (by decide) (by decide) HM0.out ?_; intro v1 h1 h2; have HM1 := Lib.hid h1; have HA1 := Lib.hid (HA0.out.trans h2); clear h1 h2; go_simp)
        | (refine wpList_insS rfl (.tmp 42) (.const (.string ⟨#[120, 46, 110, 101, 116]⟩)) (.const (.int .i64 1)) rfl wr.heap.size _ _ ⟨#[120, 46, 110, 101, 116]⟩ 1 rfl rfl rfl (by decide) (by decide) (by decide) HM1.out ?_; intro v2 h1 h2; have HM2 := Lib.hid h1; have HA2 := Lib.hid (HA1.out.trans h2); clear h1 h2; go_simp)
        | (refine wpList_insS rfl (.tmp 42) (.const (.string ⟨#[110, 101, 116]⟩)) (.const (.int .i64 1)) rfl wr.heap.size _ _ ⟨#[110, 101, 116]⟩ 1 rfl rfl rfl (by decide) (by decide) (by decide) HM2.out ?_; intro v3 h1 h2; have HM3 := Lib.hid h1; have HA3 := Lib.hid (HA2.out.trans h2); clear h1 h2; go_simp)
        | (refine wpList_insS rfl (.tmp 42) (.const (.string ⟨#[120, 46, 98, 46, 110, 101, 116]⟩)) (.const (.int .i64 2)) rfl wr.heap.size _ _ ⟨#[120, 46, 98, 46, 110, 101, 116]⟩ 2 rfl rfl rfl (by decide) (by decide) (by decide) HM3.out ?_; intro v4 h1 h2; have HM4 := Lib.hid h1; have HA4 := Lib.hid (HA3.out.trans h2); clear h1 h2; go_simp)
        | (refine wpList_insS rfl (.tmp 42) (.const (.string ⟨#[97, 46, 98, 46, 110, 101, 116]⟩)) (.const (.int .i64 3)) rfl wr.heap.size _ _ ⟨#[97, 46, 98, 46, 110, 101, 116]⟩ 3 rfl rfl rfl (by decide) (by decide) (by decide) HM4.out ?_; intro v5 h1 h2; have HM5 := Lib.hid h1; have HA5 := Lib.hid (HA4.out.trans h2); clear h1 h2; go_simp)
        | (refine wpList_insS rfl (.tmp 42) (.const (.string ⟨#[121, 46, 97, 46, 98, 46, 110, 101, 116]⟩)) (.const (.int .i64 3)) rfl wr.heap.size _ _ ⟨#[121, 46, 97, 46, 98, 46, 110, 101, 116]⟩ 3 rfl rfl rfl (by decide) (by decide) (by decide) HM5.out ?_; intro v6 h1 h2; have HM6 := Lib.hid h1; have HA6 := Lib.hid (HA5.out.trans h2); clear h1 h2; go_simp)
        | (refine wpList_insS rfl (.tmp 42) (.const (.string ⟨#[120, 98, 46, 110, 101, 116]⟩)) (.const (.int .i64 1)) rfl wr.heap.size _ _ ⟨#[120, 98, 46, 110, 101, 116]⟩ 1 rfl rfl rfl (by decide) (by decide) (by decide) HM6.out ?_; intro v7 h1 h2; have HM7 := Lib.hid (show OwnsS v7 wr.heap.size 7 sevenD from h1); have HA7 := Lib.hid (HA6.out.trans h2); clear h1 h2; go_simp)
        | (at_range; refine wpList_rangeS rfl (.tmp 43) rfl wr.heap.size 7 sevenD rfl HM7.out ?_; intro v8 h1 h2; have HR8 := Lib.hid h1; have HA8 := Lib.hid (HA7.out.trans (h2.mono HA7.out.size)); clear h1 h2))
      go_loopw [] (fun wq => ∃ left cnt, RangesS wq wr.heap.size v7.heap.size 7 sevenD left cnt ∧ (∀ z, left z = true → Maps.has sevenD z = true) ∧ Below wr.heap.size wr wq) (fun wq => wq.rangeLeft wr.heap.size v7.heap.size)
      case atStart => exact ⟨_, _, HR8.out, fun z h => h, HA8.out⟩
      case round =>
        obtain ⟨left, cnt, hR, hL, hb⟩ := hrel
        have hz7 := HA7.out.size
        have HR := Lib.hid hR
        have HLF := Lib.hid hL
        have HX := Lib.hid hb
        clear hR hL hb HR8 HA8 HM7 HA0 HA7 HM0 HM1 HM2 HM3 HM4 HM5 HM6 HA1 HA2 HA3 HA4 HA5 HA6 hmm hmk hat
        have HTq := Lib.hid (HT.out.below HX.out)
        have HEq := Lib.hid (HE.out.below HX.out)
        have HBq := Lib.hid (HB.out.trans (HX.out.mono hzw))
        clear HE HB
        go_wp2_with (first
          | (at_next; refine wpList_nextS rfl (.tmp 44) rfl _ v7.heap.size 7 sevenD left cnt rfl HR.out ?_ ?_))
        · have hneg := neg3_dec ⟨m, hm4⟩
          dsimp only at hneg
          have hneg2 : bits BinOp.and IntKind.i64 (-(m : Int)) 3 = (((4 - m) % 4 : Nat) : Int) := by rw [← hneg, IntWalk.i64_in _ (by omega)]
          have hr4 : (4 - m) % 4 < 4 := Nat.mod_lt _ (by omega)
          have HG' := HG
          revert hneg hneg2 hr4 HG'
          generalize (4 - m) % 4 = r
          intro hneg hneg2 hr4 HG'
          obtain ⟨s, hs, hsl⟩ := HL.out r hr4
          have hrem := remove_yes HTq.out hs hsl
          go_wp2_with fail
          rw [hneg2]
          refine Calls.mono hrem ?_
          rintro e w9 ⟨rfl, hT9, hg9⟩
          have HT9 := Lib.hid hT9
          have HE9 := Lib.hid (HEq.out.kept hg9 (by omega))
          have HB9 := Lib.hid (HBq.out.grown hg9 HBq.out.size (fun k e => by injection e with e; omega))
          clear hrem hT9 hg9 HTq HEq HBq
          go_wp2_with fail
          have hrt := route_e xT w9 HT9.out (by decide) HE9.out
          refine Calls.mono hrt ?_
          rintro e w10 ⟨v, rfl, ho, hb⟩
          obtain ⟨vA, vc, rfl⟩ := own_fm ho
          have HB10 := Lib.hid (HB9.out.trans (hb.mono HB9.out.size))
          rw [HG'.out]
          clear hrt ho hb
          cases df
          · go_wp2
            go_ret
            exact ⟨rfl, HB10.out⟩
          · go_wp2
            go_ret
            exact ⟨rfl, HB10.out⟩
        · intro s c w9 cnt9 hlk hat hR9 hlt9 hb9 hen
          have hmem := seven_at (HLF.out _ hlk) hat
          obtain ⟨hsz, hrt⟩ := H7.out s c hmem
          obtain ⟨hc0, hc4⟩ := sevenK hmem
          have hs1 : bits BinOp.and IntKind.i64 (c - (m : Int)) 3 = bits BinOp.and IntKind.i64 (IntKind.wrap .i64 (c - (m : Int))) 3 := by rw [IntWalk.i64_in _ (by omega)]
          obtain ⟨z, hz⟩ : ∃ z, bits BinOp.and IntKind.i64 (IntKind.wrap .i64 (c - (m : Int))) 3 = z := ⟨_, rfl⟩
          rw [hz] at hs1 hrt
          have HRT := Lib.hid hrt
          have HR9 := Lib.hid hR9
          have hv7 := HR.out.lt
          have HX9 := Lib.hid (HX.out.trans (hb9.mono (by have := HR.out.owns.lt; omega)))
          have HT9 := Lib.hid (HT.out.below HX9.out)
          have HB9 := Lib.hid (HBq.out.trans (hb9.mono (by omega)))
          have HE9 := Lib.hid (HE0.out.below HB9.out)
          have HLF9 := Lib.hid (fun (q : Lit) (hq : (left q && !q.sameKey (.string s.data.toList)) = true) => HLF.out q (by rw [Bool.and_eq_true] at hq; exact hq.1))
          clear hmem hrt hR9 hb9 hat hlk HLF
          go_wp2_with fail
          refine Calls.mono (route_e s w9 HT9.out hsz HE9.out) ?_
          rintro e w10 ⟨v, rfl, ho, hb⟩
          obtain ⟨g, cp, rfl, hcell⟩ := NumPost.one ho HRT.out
          have hr9 := HR9.out.lt
          have hm9 := HR9.out.owns.lt
          have HR10 := Lib.hid (HR9.out.kept (grown_of_below none hb) (by simp) (by simp))
          have HX10 := Lib.hid (HX9.out.trans (hb.mono HX9.out.size))
          clear ho hb HTq HEq HBq HT9 HE9 HB9 HX9 HRT H7 HG HL
          go_wp2_with fail
          go_roundw
          case rel => exact ⟨_, cnt9, HR10.out, HLF9.out, HX10.out⟩
          case measure => rw [HR10.out.left_eq, HR.out.left_eq]; exact hlt9
end Go.Proofs.YtnjcbkolniemnaaDoor
