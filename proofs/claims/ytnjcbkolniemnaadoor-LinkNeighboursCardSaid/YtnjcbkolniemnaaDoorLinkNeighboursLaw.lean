/-
  The walk of LinkNeighbours. Conditions: the calls came in, the text has a length that may be, and the library's variable MaxLen holds some number.
-/
import Derived.Test.YtnjcbkolniemnaaDoorLinkCalls
namespace Go.Proofs.YtnjcbkolniemnaaDoor
open Go.RowKit

/-- the numbers of the first k links that speak so -/
def nbTo (ss : List Sl) (b : Bool) (k : Nat) : List Int := if b = true then numsOf (·.ll) (comeTo ss k) else []
theorem nbTo_miss {ss : List Sl} {k : Nat} {s : Sl} {b : Bool} (h : ss[k]? = some s) (hm : (s.live && s.ll && b) = false) : nbTo ss b (k + 1) = nbTo ss b k := by
  unfold nbTo
  cases b
  · rfl
  · rw [if_pos rfl, if_pos rfl, nums_step _ h]
    have : selL (·.ll) k s = [] := by unfold selL; rw [Bool.and_true] at hm; rw [hm]; rfl
    rw [this, List.append_nil]
theorem nbTo_hit {ss : List Sl} {k : Nat} {s : Sl} {b : Bool} (h : ss[k]? = some s) (h1 : s.live = true) (h2 : s.ll = true) (h3 : b = true) : nbTo ss b (k + 1) = nbTo ss b k ++ [(k : Int)] := by
  subst h3
  unfold nbTo
  rw [if_pos rfl, if_pos rfl, nums_step _ h]
  have : selL (·.ll) k s = [(k : Int)] := by unfold selL; simp [h1, h2]
  rw [this]
theorem nbTo_len (ss : List Sl) (b : Bool) (k : Nat) : (nbTo ss b k).length ≤ k := by
  unfold nbTo
  split
  · exact Nat.le_trans (numsOf_le _ _) (comeTo_len ss k)
  · exact Nat.zero_le _
theorem nbL_to (ss : List Sl) (n : ByteArray) : nbL ss n = nbTo ss (decide (n.data.toList.count 46 = 0)) 4 := by
  unfold nbL nbTo
  by_cases h : n.data.toList.count 46 = 0 <;> simp [h]
def aDotB : ByteArray := ⟨#[97, 46, 98]⟩
theorem nb_ab (ss : List Sl) : nbL ss aDotB = [] := by unfold nbL; rw [if_neg (by decide)]
theorem rowOfNum {w : World} {b n : Nat} {v : Value} {L : List Int} (h : w.ownsRow b 3 1 v n (ints L)) : RowIn 1 w v n (L.map (.int .i64)) :=
  RowIn.of_own h (fun u hu => by obtain ⟨z, _, rfl⟩ := List.mem_map.1 hu; rfl)
set_option maxRecDepth 100000 in
set_option maxHeartbeats 4000000 in
theorem linkNeighbours_walk (A : Option Addr) (m c : Nat) (ls : List Cl) (nm : ByteArray) (W : World) (he : Env W) (hm : ls.length = m) (hI : (∀ x ∈ ls, InS W x.s) ∧ RowIn 9 W (.slice A m c) m (ls.map Cl.cells).flatten ∧ m ≤ maxLen) (hn : nm.size ≤ 140737488351232) :
    Calls Tryd.prog 3 #[.slice A m c, .string nm] W fun e w' => e = .returned (.bool true) ∧ Below W.heap.size W w' := by
  have hme := he.1
  have HI := Lib.hid hI.1
  have HR := Lib.hid hI.2.1
  have hbig' := hI.2.2
  unfold maxLen at hbig'
  have HE0 := Lib.hid he
  clear hI he
  go_enter Tryd.func3, Tryd.ntmps3
  go_wp2_with fail
  refine (fit11_e W HE0.out).mono ?_
  rintro e w1 ⟨rfl, hb, hE1⟩
  have HB1 := Lib.hid hb
  have HE1 := Lib.hid hE1
  clear hb hE1 HE0
  have hli := light_e hm (fun x hx => (HI.out x hx).inl.below HB1.out) (HR.out.below HB1.out) hbig'
  go_wp2_with fail
  refine hli.mono ?_
  rintro e w2 ⟨b, rfl, hb, h60⟩
  have HB2 := Lib.hid (HB1.out.trans (hb.mono HB1.out.size))
  have HE2 := Lib.hid (HE1.out.below hb)
  clear hb hli HB1 HE1
  cases b with
  | false =>
    go_wp2
    go_ret
    exact ⟨rfl, HB2.out⟩
  | true =>
  by_cases hlong : 300 < nm.size
  · go_wp2
    go_ret
    exact ⟨rfl, HB2.out⟩
  have hn3 : nm.size ≤ 300 := by omega
  have h60' := h60 rfl
  clear hlong h60
  go_wp2_with fail
  refine (newT_e w2).mono ?_
  rintro e w3 ⟨T, rfl, hT, hb⟩
  have hTb := hT.ge
  have hz2 := HB2.out.size
  have HT3 := Lib.hid hT
  have HB3 := Lib.hid (HB2.out.trans (hb.mono hz2))
  have HE3 := Lib.hid (HE2.out.below hb)
  clear hT hb HB2 HE2
  go_wp2
  go_loopw [26] (fun i wr => ∃ (k : Nat) (ss : List Sl) (last : Nat), k ≤ m ∧ i = .int .i64 k ∧ TAt w2.heap.size wr T ss last ∧ last ≤ k ∧ Below W.heap.size W wr ∧ Env wr) (fun i _ => m - (intOf i).toNat)
  case atStart => exact ⟨0, _, 0, Nat.zero_le _, rfl, HT3.out, Nat.le_refl _, HB3.out, HE3.out⟩
  case round =>
    obtain ⟨k, ss, last, hk, rfl, hT, hlast, hb, hE⟩ := hrel
    by_cases hlt : k < m
    · obtain ⟨x, hx⟩ : ∃ x, ls[k]? = some x := ⟨_, List.getElem?_eq_getElem (by omega)⟩
      obtain ⟨b, o, rfl, hc⟩ := (HR.out.below hb).elem Cl.clen (by decide) hx
      have hxi := (HI.out x (List.mem_of_getElem? hx)).inl
      have hba := (Below.refl _ wr).alloc (Nat.le_refl _) (.cells x.cells.toArray 33)
      have hset := set_any x.num (hT.below hba) (hxi.below (hb.trans (hba.mono hb.size))) (hxi.far (by omega)) (hE.below hba) (by omega) (by omega)
      have HC := Lib.hid hc
      have HS := Lib.hid (sizeCall x)
      have HB := Lib.hid hb
      have HBA := Lib.hid hba
      clear hc hx hxi hb hba hT hE
      obtain ⟨kind, num, ⟨live, gen, dA, dc, ds, df, ll, sA, sc, ns, ss', lA, lc, nl, ls', ca⟩⟩ := x
      simp only [Cl.cells, Sl.lk] at HC HS hset HBA
      go_wp2_with (first
        | (refine wpList_load_agg rfl 33 _ rfl ⟨b, o + k * 9, none⟩ rfl _ _ (fun j v hj => HC.out j v (by simpa using hj)) Tryd.underlying33 rfl HS.out ?_; go_simp))
      refine hset.mono ?_
      rintro e w4 ⟨z, ss4, last4, rfl, hT4, hl4, hE4, hg4⟩
      clear hset
      have HT4 := Lib.hid hT4
      have HE4 := Lib.hid hE4
      have HB4 := Lib.hid ((HB.out.trans (HBA.out.mono HB.out.size)).grown hg4 (Nat.le_trans HB.out.size HBA.out.size) (fun j e => by injection e with e; omega))
      clear hT4 hE4 hg4
      go_wp2
      go_roundw
      case rel => exact ⟨k + 1, ss4, last4, by omega, by simp, HT4.out, by omega, HB4.out, HE4.out⟩
      case measure => simp [intOf]; omega
    · obtain rfl : k = m := by omega
      have HT := Lib.hid hT
      have HB := Lib.hid hb
      have HE := Lib.hid hE
      clear hb hE hT HT3 HB3 HE3 HI HR
      go_wp2_with fail
      refine (neighbours_e nm wr HT.out).mono ?_
      rintro e w4 ⟨v, rfl, ho, hb⟩
      rw [nbL_to] at ho
      obtain ⟨vA, vc, rfl⟩ := own_fm ho
      have hz := HB.out.size
      have HT4 := Lib.hid (HT.out.below hb)
      have HB4 := Lib.hid (HB.out.trans (hb.mono hz))
      have HO4 := Lib.hid (rowOfNum ho)
      clear ho hb HT HB HE
      have HDot := Lib.hid (fun w => dots_l nm w)
      have hcnt : (List.count 46 nm.data.toList : Nat) ≤ 300 := by have := List.count_le_length (a := (46 : UInt8)) (l := nm.data.toList); rw [← Lib.size_eq] at this; omega
      obtain ⟨bb, hbb⟩ : ∃ bb, bb = decide (List.count 46 nm.data.toList = 0) := ⟨_, rfl⟩
      rw [← hbb] at HO4 ⊢
      obtain ⟨i0, zz, hi, hzz, hzc, hs, hby⟩ := info_int
      have HI := Lib.hid hi
      have HZ := Lib.hid hzz
      have HZC := Lib.hid hzc
      have HS := Lib.hid hs
      have HBY := Lib.hid hby
      have hsz4 := HB4.out.size
      have HBBQ : Hid ((((List.count 46 nm.data.toList : Nat) : Int) == 0) = bb) := Lib.hid (by rw [hbb, Bool.eq_iff_iff]; simp)
      clear hi hzz hzc hs hby hcnt hbb
      go_wp2
      go_loopw [9, 40] (fun v i w5 => ∃ k : Nat, k ≤ 4 ∧ i = .int .i64 k ∧ w5.ownsRow w4.heap.size 3 1 v (nbTo ss bb k).length (ints (nbTo ss bb k)) ∧ Below w4.heap.size w4 w5) (fun _ i _ => 4 - (intOf i).toNat)
      case atStart =>
        refine ⟨0, Nat.zero_le _, rfl, ?_, Below.refl _ _⟩
        have : nbTo ss bb 0 = [] := List.length_eq_zero_iff.1 (by have := nbTo_len ss bb 0; omega)
        rw [this]; exact World.ownsRow_nil _ _ _ _
      case round =>
        obtain ⟨k, hk, rfl, ho, hb⟩ := hrel
        by_cases hlt : k < 4
        · obtain ⟨s, hs⟩ : ∃ s, ss[k]? = some s := ⟨_, List.getElem?_eq_getElem (by rw [HT4.out.four]; exact hlt)⟩
          have hTw := HT4.out.below hb
          have hlen := nbTo_len ss bb k
          obtain ⟨vA, vc, rfl⟩ := own_fm ho
          have HO := Lib.hid ho
          have HB := Lib.hid hb
          have hbs := hb.size
          clear ho hb
          cases hl : s.live with
          | false =>
            have hget := get_dead hTw hs hl
            have HM := Lib.hid (nbTo_miss (b := bb) hs (by rw [hl]; rfl))
            clear hTw hs hl
            go_wp2_with fail
            refine hget.mono ?_
            rintro e w6 ⟨rfl, hb6⟩
            clear hget
            have HB6 := Lib.hid (HB.out.trans (hb6.mono hbs))
            have HO6 := Lib.hid (own_below HO.out hb6)
            have hz6 := HB6.out.size
            clear hb6
            simp only [zSl, Sl.lk]
            go_wp2
            go_roundw
            case rel => exact ⟨k + 1, by omega, by simp, by rw [HM.out]; exact own_below HO6.out ((Below.refl _ w6).alloc (Nat.le_refl _) _), HB6.out.alloc hz6 _⟩
            case measure => simp [intOf]; omega
          | true =>
            have hget := get_yes hTw hs hl
            have HMiss := Lib.hid (fun h => nbTo_miss (b := bb) hs h)
            have HHit := Lib.hid (fun h => nbTo_hit (b := bb) hs hl h)
            clear hTw hs
            obtain ⟨live, gen, dA, dc, ds, df, ll, sA, sc, ns, ss', lA, lc, nl, ls', ca⟩ := s
            obtain rfl : live = true := hl
            dsimp only at HMiss HHit
            go_wp2_with fail
            refine hget.mono ?_
            rintro e w6 ⟨dA', dc', sA', sc', lA', lc', rfl, _, hb6⟩
            clear hget
            have HB6 := Lib.hid (HB.out.trans (hb6.mono hbs))
            have HO6 := Lib.hid (own_below HO.out hb6)
            have hz6 := HB6.out.size
            clear hb6
            simp only [Sl.at, Sl.lk]
            cases ll with
            | false =>
              have HM := Lib.hid (HMiss.out (by rfl))
              go_wp2
              go_roundw
              case rel => exact ⟨k + 1, by omega, by simp, by rw [HM.out]; exact own_below HO6.out ((Below.refl _ w6).alloc (Nat.le_refl _) _), HB6.out.alloc hz6 _⟩
              case measure => simp [intOf]; omega
            | true =>
              have hba := (Below.refl _ w6).alloc (Nat.le_refl _) (.cells #[.bool true, .int .i64 gen, .slice dA' ds.length dc', .bool df, .bool true, .slice sA' ns sc', .slice lA' nl lc'] 31)
              have HB7 := Lib.hid (HB6.out.trans (hba.mono hz6))
              have HO7 := Lib.hid (own_below HO6.out hba)
              clear hba HB6 HO6
              go_wp2_with fail
              generalize w6.alloc _ = w7 at HB7 HO7 ⊢
              have hz7 := HB7.out.size
              refine (HDot.out w7).mono ?_
              rintro e w8 ⟨rfl, rfl⟩
              revert HBBQ
              generalize (List.count 46 nm.data.toList : Nat) = cnt
              intro HBBQ
              cases bb with
              | false =>
                have hq := HBBQ.out
                have HM := Lib.hid (HMiss.out (by rfl))
                go_wp2
                go_roundw
                case rel => exact ⟨k + 1, by omega, by simp, by rw [HM.out]; exact HO7.out, HB7.out⟩
                case measure => simp [intOf]; omega
              | true =>
                have hq := HBBQ.out
                have HM := Lib.hid (HHit.out trivial rfl)
                go_wp2_with (first
                  | (at_builtin; refine wpList_append_own _ rfl _ _ 36 rfl w4.heap.size 3 i0 zz 1 8 Tryd.underlying36 HI.out HZ.out HS.out HBY.out HZC.out (by decide) _ _ _ rfl (own_below HO7.out ((Below.refl _ w7).alloc (Nat.le_refl _) _)) ⟨w7.heap.size, 0, none⟩ 1 1 [.int .i64 (k : Int)] rfl rfl (cell_one_new _ _ _) (by simp [Value.oneCell']) (by unfold maxLen; omega) (by omega) (by simp; omega) ?_; intro v' w9 ho9 hg9 hnil9; clear hnil9; obtain ⟨va9, vc9, rfl⟩ := own_fm ho9; have HO9 := Lib.hid ho9; have HB9 := Lib.hid ((HB7.out.alloc hz7 _).grown hg9 (by simp; omega) (fun j hj => (HO7.out.lt j hj).1)); clear ho9 hg9; go_simp))
                go_roundw
                case rel => exact ⟨k + 1, by omega, by simp, by rw [HM.out, List.length_append]; have h := HO9.out; simpa [ints] using h, HB9.out⟩
                case measure => simp [intOf]; omega
        · obtain rfl : k = 4 := by omega
          obtain ⟨vA2, vc2, rfl⟩ := own_fm ho
          have hl4 := nbTo_len ss bb 4
          have heq := eqn_e (HO4.out.below hb) (rowOfNum ho) (by omega)
          have hnb := fun w7 (h : Below wr.heap.size wr w7) => neighbours_e aDotB w7 (HT4.out.below (hb.trans (h.mono hb.size)))
          have HNB := Lib.hid hnb
          have HB := Lib.hid (HB4.out.trans (hb.mono hsz4))
          have hz := HB.out.size
          clear ho hb hnb HO4 HT4
          go_wp2_with fail
          refine heq.mono ?_
          rintro e w7 ⟨rfl, hb7⟩
          clear heq
          have hnb := HNB.out w7 hb7
          rw [nb_ab] at hnb
          have HB7 := Lib.hid (HB.out.trans (hb7.mono hz))
          clear hb7 HNB HB
          go_wp2_with fail
          refine Calls.mono hnb ?_
          rintro e w8 ⟨v8, rfl, ho8, hb8⟩
          obtain ⟨va8, vc8, rfl⟩ := own_fm ho8
          have HB8 := Lib.hid (HB7.out.trans (hb8.mono HB7.out.size))
          clear ho8 hb8 hnb
          rw [List.length_nil]
          go_wp2
          go_ret
          exact ⟨rfl, HB8.out⟩
end Go.Proofs.YtnjcbkolniemnaaDoor
