/-
  The walk of order's Print: the line that tells some sources. Conditions: there is at least one, and each is of a kind that there is.
-/
import Derived.Test.YtpgkopnnfhlhbaaDoorOrdActs
namespace Go.Proofs.YtpgkopnnfhlhbaaDoor
open Go.RowKit

section
variable {ops : Array Oper} {rest : List Oper} {o : Oper} {a : Act} {Q : Exit → Act → World → Prop} {w : World}
set_option maxRecDepth 100000 in
/-- one text more behind a row of the call's own; no other block is touched -/
theorem wpList_append_str1 (hgd : o.guard = none) (s x : Operand) (ho : o.op = .call { callee := .builtin .append, args := #[s, x], argTypes := #[33, 33] })
    (base n : Nat) (v : Value) (xs : List ByteArray) (y : ByteArray) (hs : a.eval s = v) (hown : w.ownsRow base 9 1 v n (xs.map Value.string)) (hn : n + 1 ≤ 1000000) (hbase : base ≤ w.heap.size)
    (ad : Addr) (c1 : Nat) (hx : a.eval x = .slice (some ad) 1 c1) (hy : w.cell? (ad.add 0) = some (.string y))
    (h : ∀ v' w', w'.ownsRow base 9 1 v' (n + 1) ((xs ++ [y]).map Value.string) → w.grownBy w' v.ownBlock → wpList Tryd.prog ops Q rest (a.put o.dst v') w') : wpList Tryd.prog ops Q (o :: rest) a w := by
  obtain ⟨i0, hi, hz0, hz1, hz2⟩ := info_parts (show (Tryd.prog.info? 9).map (fun i => (i.zero, i.size, i.bytes)) = some (some (.string ⟨#[]⟩), 1, 16) by kernel_rfl)
  refine wpList_append_own (w := w) hgd s x 33 ho base 9 i0 (.string ⟨#[]⟩) 1 16 Tryd.underlying33 hi hz0 hz1 hz2 rfl (by decide) v n (xs.map Value.string) hs hown ad 1 c1 [.string y] hx rfl (fun j u hj => ?_)
    (fun u hu => by rw [List.mem_singleton] at hu; subst hu; rfl) (by unfold maxLen; omega) (by omega) hbase (fun v' w' h2 h3 _ => h v' w' (by rw [List.map_append]; exact h2) h3)
  match j, hj with
  | 0, hj => simp only [List.getElem?_cons_zero, Option.some.injEq] at hj; rw [← hj]; exact hy
  | j + 1, hj => simp at hj
end
/-- strings.Join of a row of the call's own -/
theorem join_e (B n c : Nat) (A : Option Addr) (xs : List ByteArray) (w : World) (hr : w.ownsRow B 9 1 (.slice A n c) n (xs.map Value.string)) (h0 : 0 < n) (h1 : n ≤ 1000000) (hl : (Lib.join (xs.map (·.data.toList)) [32]).length ≤ 1000000) :
    Calls Tryd.prog 20 #[.slice A n c, .string ⟨#[32]⟩] w fun e w' => e = .returned (.string (tb (Lib.join (xs.map (·.data.toList)) [32]))) ∧ Below w.heap.size w w' := by
  have hn : xs.length = n := by have := hr.1; rw [List.length_map, Nat.mul_one] at this; exact this
  have hr2 := hr
  rcases hr2.2 with ⟨_, h⟩ | ⟨g, cap, cur, hv, _, _, hnc, hmx, _⟩
  · omega
  injection hv with e1 _ e3
  subst e1
  subst e3
  have hj := Tryd.strings_Join g 0 c xs ⟨#[32]⟩ w (fun j x hx => by
    have := hr.cells (g := g) rfl j (.string x) (by rw [List.getElem?_map, hx]; rfl)
    rwa [Addr.add_lit] at this) (hr.lt g rfl).2 (by omega) (by omega) (by
    show (Lib.join (xs.map (·.data.toList)) [32]).length ≤ _
    omega)
  rw [hn] at hj
  exact hj
/-- the words so far -/
structure PAt (w wr : World) (l : List Src) (k : Nat) (v : Value) (xs : List ByteArray) : Prop where
  below : Below w.heap.size w wr
  row : wr.ownsRow w.heap.size 9 1 v xs.length (xs.map Value.string)
  data : xs.map (·.data.toList) = (l.take k).flatMap srcW
  len : xs.length ≤ 2 * k
theorem acts_len : allS fun s => (Go.Lib.join (actsP s.2) [32]).length ≤ 100 ∧ (actsP s.2).length ≤ 4 := by unfold allS; decide +kernel
theorem take_snoc {l : List Src} {k : Nat} {s : Src} (h : l[k]? = some s) : (l.take (k + 1)).flatMap srcW = (l.take k).flatMap srcW ++ srcW s := by
  rw [List.take_add_one, h, List.flatMap_append]
  simp
theorem srcW_more {s : Src} (h : actsP s.2 ≠ []) : srcW s = [nameK s.1, 91 :: (Lib.join (actsP s.2) [32] ++ [93])] := by unfold srcW; rw [if_neg h]
/-- what Print answers -/
def PrPost (w : World) (l : List Src) (e : Ending) (w' : World) : Prop := e = .returned (.string (tb (printO l))) ∧ Below w.heap.size w w'
set_option maxRecDepth 100000 in
set_option maxHeartbeats 4000000 in
theorem print_e (n c : Nat) (A : Option Addr) (l : List Src) (w : World) (hl : SlS w (.slice A n c) l) (hln : l.length = n) (hn : 0 < n) (hn2 : n ≤ 1000) (hk : ∀ s ∈ l, 1 ≤ s.1 ∧ s.1 ≤ 3) : Calls Tryd.prog 11 #[.slice A n c] w (PrPost w l) := by
  obtain ⟨A', c', e, hA⟩ := hl
  injection e with e1 e2 e3
  subst e1
  subst e3
  clear e2
  obtain ⟨b, rfl, hbl, hcl⟩ := hA (List.length_pos_iff.1 (by omega))
  have HCL := Lib.hid hcl
  have HBL := Lib.hid hbl
  have HK := Lib.hid hk
  have HLN := Lib.hid hln
  have HPL := Lib.hid (print_len hk)
  have HZS := Lib.hid zeroSrc
  have HZD : Hid (zS.size = 6) := Lib.hid rfl
  obtain ⟨Z, hZ⟩ : ∃ Z, Z = zS := ⟨_, rfl⟩
  rw [← hZ] at HZS HZD
  clear hA hbl hcl hk hZ hln
  go_enter Tryd.func11, Tryd.ntmps11
  go_wp2_with fail
  go_loopg [9, 3] n (fun gk i v wr => ∃ (k : Nat) (xs : List ByteArray), i = .int .i64 k ∧ k + gk = n ∧ Hid (PAt w wr l k v xs))
  case atStart => exact ⟨0, [], rfl, by omega, Lib.hid ⟨Below.refl _ _, World.ownsRow_nil _ _ _ _, rfl, Nat.zero_le _⟩⟩
  case round =>
    obtain ⟨k, xs, rfl, hkg, HP⟩ := hrel
    by_cases hkn : k < n
    · obtain ⟨g2, rfl⟩ : ∃ g2, gk = g2 + 1 := ⟨gk - 1, by omega⟩
      have hkI : (k : Int) < (n : Int) := by omega
      obtain ⟨s, hs⟩ : ∃ s, l[k]? = some s := ⟨_, List.getElem?_eq_getElem (by rw [HLN.out]; exact hkn)⟩
      have hsk := HK.out s (List.mem_of_getElem? hs)
      have hld : ∀ j v, (srcV s).toList[j]? = some v → wr.cell? ((⟨b, k * 6, none⟩ : Addr).add j) = some v := fun j v hj => by
        have h6 : j < 6 := by
          rcases Nat.lt_or_ge j 6 with h | h
          · exact h
          · rw [List.getElem?_eq_none (by exact h)] at hj; cases hj
        rw [Addr.add_lit]
        exact (HP.out.below.cell (p := ⟨b, k * 6 + j, none⟩) HBL.out).trans (HCL.out _ _ (by rw [svs_at hs h6]; exact hj))
      have HLD := Lib.hid hld
      have HSk : Hid ((Tryd.prog.info? 30).map (·.size) = some (srcV s).size) := Lib.hid sizeSrc
      have HZk : Hid (Z.size = (srcV s).size) := Lib.hid HZD.out
      have H1k := Lib.hid (srcV_one s)
      have HAC := Lib.hid (fun W => actions_e s W)
      have HTS := Lib.hid (take_snoc hs)
      have hb1 : Below wr.heap.size wr (wr.alloc (.cells (srcV s) 30)) := (Below.refl _ _).alloc (Nat.le_refl _) _
      have hg1 := heap_alloc_last wr (.cells (srcV s) 30)
      have hs1 : (wr.alloc (.cells (srcV s) 30)).heap.size = wr.heap.size + 1 := World.size_alloc _ _
      have c0 : (wr.alloc (.cells (srcV s) 30)).cell? ⟨wr.heap.size, 0, none⟩ = some (.int .i64 s.1) := by rw [cell_of_row _ wr.heap.size 0 _ _ (0, 0) hg1]; rfl
      have hnm := fun W => sourceName_e s.1 W
      have hnd : (tb (nameK s.1)).data.toList = nameK s.1 := rfl
      generalize tb (nameK s.1) = N at hnm hnd
      have HND := Lib.hid hnd
      have hb2 := hb1.alloc (by omega) (.cells #[.string N] 9)
      have HRW := Lib.hid (own_step HP.out.row hb2)
      have HLX : Hid (xs.length ≤ 2000) := Lib.hid (by have := HP.out.len; omega)
      obtain ⟨D, hD⟩ : ∃ D, D = srcV s := ⟨_, rfl⟩
      rw [← hD] at HLD HSk HZk H1k HAC hb1 hg1 hs1 c0 hb2 HRW
      have HDg : Hid (((wr.alloc (.cells D 30)).alloc (.cells #[.string N] 9)).heap[wr.heap.size]? = some (.cells D 30 (0, 0))) := Lib.hid (by
        have h := (Below.refl (wr.alloc (.cells D 30)).heap.size (wr.alloc (.cells D 30))).alloc (Nat.le_refl _) (.cells #[.string N] 9)
        exact (h.block _ (by omega)).trans hg1)
      have HB2 := Lib.hid (HP.out.below.trans (hb2.mono HP.out.below.size))
      have HVB : Hid (u3.ownBlock ≠ some wr.heap.size) := Lib.hid fun e => by have := (HP.out.row.lt _ e).2; omega
      clear hld hb1 hg1 hnd hb2 hD
      go_wp2_with (first
        | (refine wpList_load_agg rfl 30 (.tmp 11) rfl ⟨b, k * 6, none⟩ rfl D _ HLD.out Tryd.underlying30 rfl HSk.out ?_; go_simp)
        | (refine wpList_alloc_z rfl 30 rfl Z HZS.out ?_; go_simp)
        | (refine wpList_store_new rfl 30 (.tmp 5) (.tmp 12) rfl wr.heap.size rfl Z D 30 rfl rfl HSk.out HZk.out H1k.out ?_; go_simp)
        | (go_at_call 18; refine (hnm _).mono ?_; rintro e w6 ⟨rfl, rfl⟩)
        | (refine wpList_append_str1 rfl (.tmp 13) (.tmp 17) rfl w.heap.size xs.length _ xs N rfl HRW.out (by have := HLX.out; omega) HB2.out.size ⟨wr.heap.size + 1, 0, none⟩ 1 rfl (by rw [Addr.add_lit, Nat.zero_add, ← hs1, World.cell?_alloc_mark]; rfl) ?_
           intro v5 w5 ho5 hg5
           have HO5 := Lib.hid ho5
           have HB5 := Lib.hid (HB2.out.grown hg5 HB2.out.size (fun k e => (HRW.out.lt k e).1))
           have HD5 : Hid (w5.heap[wr.heap.size]? = some (.cells D 30 (0, 0))) := Lib.hid ((hg5.block _ (by rw [World.size_alloc, hs1]; omega) (fun e => HVB.out e.symm)).trans HDg.out)
           clear ho5 hg5; go_simp)
        | (refine wpList_load_row rfl 30 (.tmp 5) rfl wr.heap.size rfl 30 D (0, 0) _ HD5.out Tryd.underlying30 rfl HSk.out ?_; go_simp))
      refine (HAC.out _).mono ?_
      rintro e w7 ⟨v7, ys, rfl, hr7, hd7, hb7⟩
      have HR7 := Lib.hid (own_step HO5.out hb7)
      have HB7 := Lib.hid (HB5.out.trans (hb7.mono HB5.out.size))
      obtain ⟨A7, c7, e7⟩ := own_sl hr7
      subst e7
      have hal := of_allS acts_len hsk
      obtain ⟨m, hm⟩ : ∃ m, m = ys.length := ⟨_, rfl⟩
      rw [← hm] at hr7 ⊢
      by_cases hm0 : m = 0
      · have hy : actsP s.2 = [] := by rw [← hd7]; exact List.map_eq_nil_iff.2 (List.length_eq_zero_iff.1 (by omega))
        have HP2 : Hid (PAt w w7 l (k + 1) v5 (xs ++ [N])) := Lib.hid ⟨HB7.out, (by rw [List.length_append, List.length_singleton]; exact HR7.out), (by
          rw [HTS.out, map_snoc HP.out.data HND.out]
          unfold srcW
          rw [if_pos hy]), by rw [List.length_append, List.length_singleton]; have := HP.out.len; omega⟩
        clear hr7 hd7 hb7 hal hy hm
        subst hm0
        go_wp2_with fail
        go_roundg g2
        case measure => omega
        case rel => exact ⟨k + 1, xs ++ [N], by go_num, by omega, HP2⟩
      · have hmI : (0 : Int) < (m : Int) := by omega
        have hml : m ≤ 4 := by rw [hm, ← List.length_map (f := fun (x : ByteArray) => x.data.toList), hd7]; exact hal.2
        have hjn := join_e w5.heap.size m c7 A7 ys w7 hr7 (by omega) (by omega) (by rw [hd7]; have := hal.1; omega)
        rw [hd7] at hjn
        have hjs : (tb (Lib.join (actsP s.2) [32])).size ≤ 100 := by rw [size_eq, tb_data]; exact hal.1
        have hjd : (tb (Lib.join (actsP s.2) [32])).data.toList = Lib.join (actsP s.2) [32] := rfl
        generalize tb (Lib.join (actsP s.2) [32]) = J at hjn hjs hjd
        have hya : actsP s.2 ≠ [] := fun e => by rw [e] at hd7; have := List.map_eq_nil_iff.1 hd7; rw [this] at hm; exact hm0 hm
        obtain ⟨T1, hT1⟩ : ∃ T1, (⟨#[91]⟩ : ByteArray) ++ J = T1 := ⟨_, rfl⟩
        have hT1s : T1.size ≤ 101 := by rw [← hT1, ByteArray.size_append]; show 1 + J.size ≤ 101; omega
        obtain ⟨T, hT⟩ : ∃ T, T1 ++ (⟨#[93]⟩ : ByteArray) = T := ⟨_, rfl⟩
        have HTD : Hid (T.data.toList = 91 :: (Lib.join (actsP s.2) [32] ++ [93])) := Lib.hid (by
          rw [← hT, Joins.data_append, ← hT1, Joins.data_append, hjd]; rfl)
        have HYA := Lib.hid hya
        have HHM := Lib.hid hm0
        have hs91 : (⟨#[91]⟩ : ByteArray).size ≤ 1 := by decide
        have hs93 : (⟨#[93]⟩ : ByteArray).size ≤ 1 := by decide
        clear hr7 hd7 hb7 hal hjd hya hm hm0
        go_wp2_with fail
        refine hjn.mono ?_
        rintro e w8 ⟨rfl, hb8⟩
        have hb9 : Below w8.heap.size w8 (w8.alloc (.cells #[.string T] 9)) := (Below.refl _ _).alloc (Nat.le_refl _) _
        have HR9 := Lib.hid (own_step (own_step HR7.out hb8) hb9)
        have HB9 := Lib.hid (HB7.out.trans ((hb8.trans (hb9.mono hb8.size)).mono HB7.out.size))
        clear hjn hb8 hb9
        go_wp2_with (first
          | (refine wpList_append_str1 rfl (.tmp 24) (.tmp 29) rfl w.heap.size (xs.length + 1) _ (xs ++ [N]) T rfl HR9.out (by have := HLX.out; omega) HB9.out.size ⟨w8.heap.size, 0, none⟩ 1 rfl (by rw [Addr.add_lit, Nat.zero_add, World.cell?_alloc_mark]; rfl) ?_
             intro v10 w10 ho10 hg10
             have HP2 : Hid (PAt w w10 l (k + 1) v10 (xs ++ [N] ++ [T])) := Lib.hid ⟨HB9.out.grown hg10 HB9.out.size (fun k e => (HR9.out.lt k e).1), (by simp only [List.length_append, List.length_singleton]; exact ho10), (by
               rw [HTS.out, map_snoc (map_snoc HP.out.data HND.out) HTD.out, List.append_assoc, srcW_more HYA.out]; rfl), by simp only [List.length_append, List.length_singleton]; have := HP.out.len; omega⟩
             clear ho10 hg10; go_simp))
        go_roundg g2
        case measure => omega
        case rel => exact ⟨k + 1, xs ++ [N] ++ [T], by go_num, by omega, HP2⟩
    · obtain rfl : k = n := by omega
      have hd := HP.out.data
      rw [List.take_of_length_le (by rw [HLN.out]; exact Nat.le_refl _)] at hd
      obtain ⟨A7, c7, e7⟩ := own_sl HP.out.row
      subst e7
      have hx0 : 0 < xs.length := by
        rw [← List.length_map (f := fun (x : ByteArray) => x.data.toList), hd]
        have := HLN.out
        cases l with
        | nil => simp at this; omega
        | cons a t => rw [List.flatMap_cons, List.length_append]; unfold srcW; simp; omega
      have hjn := join_e w.heap.size xs.length c7 A7 xs wr HP.out.row hx0 (by have := HP.out.len; omega) (by rw [hd]; have := HPL.out; have := HLN.out; show (printO l).length ≤ _; omega)
      rw [hd] at hjn
      have hpr : Lib.join (l.flatMap srcW) [32] = printO l := rfl
      rw [hpr] at hjn
      obtain ⟨T, hT⟩ : ∃ T, T = tb (printO l) := ⟨_, rfl⟩
      rw [← hT] at hjn
      have HT := Lib.hid hT
      have hkI : ¬ (k : Int) < (k : Int) := by omega
      clear hd hpr hx0 hT
      go_wp2_with fail
      refine hjn.mono ?_
      rintro e w8 ⟨rfl, hb8⟩
      have HB8 := Lib.hid (HP.out.below.trans (hb8.mono HP.out.below.size))
      clear hjn hb8
      go_wp2
      go_ret
      exact ⟨by rw [← HT.out]; rfl, HB8.out⟩
end Go.Proofs.YtpgkopnnfhlhbaaDoor
