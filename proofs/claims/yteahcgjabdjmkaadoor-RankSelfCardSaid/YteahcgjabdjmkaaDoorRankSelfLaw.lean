/-
  The walk of RankSelf. Condition: the two tables hold what their initialisers lay.
-/
import Derived.Test.YteahcgjabdjmkaaDoorRankSelfLib
namespace Go.Proofs.YteahcgjabdjmkaaDoor
open Go.RowKit

set_option maxRecDepth 100000 in
set_option maxHeartbeats 16000000 in
theorem rankSelf_walk (ls : List LV) (hls : ∀ x ∈ ls, x.addr.length = 16) (A : Option Addr) (cap : Nat) (a0 : List UInt8) (ha : a0.length = 16) (b0 : List UInt8) (hb : b0.length = 16) (w : World) (he : REnv w) (hA : LocsAt w A ls) :
    Calls Tryd.prog 7 #[.slice A ls.length cap, .agg (bvs a0).toArray, .agg (bvs b0).toArray] w fun e w' => e = .returned (.bool true) ∧ Below w.heap.size w w' := by
  have hSa := sizeBv ha
  have hSb := sizeBv hb
  rw [List.size_toArray] at hSa hSb
  have hu := Tryd.underlying27
  have hfit := fun W (hW : REnv W) => fit10_e W hW
  have h16 : (bvs a0).length = 16 := by rw [bvs_length, ha]
  obtain ⟨self, hself⟩ : ∃ s : LV, s = ⟨a0, true, false⟩ := ⟨_, rfl⟩
  have hmem : ∀ x ∈ ls ++ [self], x.addr.length = 16 := fun x hx => by
    rcases List.mem_append.1 hx with h | h
    · exact hls x h
    · rw [List.mem_singleton.1 h, hself]; exact ha
  have hsl : self.addr.length = 16 := by rw [hself]; exact ha
  have hsc : self.cells = bvs a0 ++ [Value.bool true, Value.bool false] := by rw [hself]; rfl
  obtain ⟨x0, hx0, hxa⟩ := self_best ls a0 true false
  rw [← hself] at hx0
  have hxl : x0.addr.length = 16 := by rw [hxa]; exact ha
  have cS := fun (hn : (ls ++ [self]).length < 1000000) (A' : Option Addr) (c' : Nat) W (hW : REnv W) (h : LocsAt W A' (ls ++ [self])) => source_e (ls ++ [self]) hmem A' c' a0 ha hn W hW h
  simp only [hx0, Option.getD_some, Option.isSome_some] at cS
  obtain ⟨i0, z, by0, hi, hz, hzc, hs, hby, hb64⟩ := info_loc
  have hfl := flatL_len hls
  have hZL := lZeroAt
  obtain ⟨Z, hZd⟩ : ∃ Z, Z = lvZero.cells.toArray := ⟨_, rfl⟩
  rw [← hZd] at hZL
  have hZ1 : Z.size = 18 := by rw [hZd, List.size_toArray]; exact LV.size rfl
  have HXs := Lib.hid (lSize hxl)
  have HXz := Lib.hid (show Z.size = x0.cells.toArray.size by rw [hZ1, List.size_toArray, LV.size hxl])
  have HXo := Lib.hid (LV.one x0)
  have HSl := Lib.hid (show self.cells.length = 1 * 18 by rw [LV.size hsl])
  have HSo := Lib.hid (show ∀ u ∈ self.cells, u.oneCell' = true from fun u hu => Array.all_eq_true'.1 (LV.one self) u (by simpa using hu))
  have HMem := Lib.hid hmem
  have HI := Lib.hid hi
  have HZ := Lib.hid hz
  have HZC := Lib.hid hzc
  have HS := Lib.hid hs
  have HBY := Lib.hid hby
  have HB64 := Lib.hid hb64
  have HFl := Lib.hid hfl
  have HZL := Lib.hid hZL
  have HLS := Lib.hid hls
  have HSC := Lib.hid hsc
  have CS := Lib.hid cS
  have hul := Tryd.underlying42
  have huk := Tryd.underlying38
  have HXA := Lib.hid (fun (j : Nat) (v : Value) (h : (bvs a0)[j]? = some v) => (by rw [List.getElem?_toArray]; exact (LV.has hxl).1 j v (by rw [hxa]; exact h) : x0.cells.toArray[j]? = some v))
  obtain ⟨lzc, hlzc⟩ : ∃ l, l = lvZero.cells := ⟨_, rfl⟩
  obtain ⟨kac, hkac⟩ : ∃ l, l = (keyA [] a0).map (Value.int .i64) := ⟨_, rfl⟩
  obtain ⟨kbc, hkbc⟩ : ∃ l, l = (keyA [] b0).map (Value.int .i64) := ⟨_, rfl⟩
  have sn : ∀ W, REnv W → Calls Tryd.prog 17 #[.slice none 0 0, .agg (bvs a0).toArray] W fun e w' => e = .returned (.tuple #[.agg lvZero.cells.toArray, .bool false]) ∧ Below W.heap.size W w' := fun W hW => source_e [] (fun _ h => by cases h) none 0 a0 ha (by decide) W hW (locs_nil W none)
  have ka0 : ∀ W, REnv W → Calls Tryd.prog 16 #[.slice none 0 0, .agg (bvs a0).toArray] W fun e w' => e = .returned (.agg ((keyA [] a0).map (Value.int .i64)).toArray) ∧ Below W.heap.size W w' := fun W hW => key_e [] (fun _ h => by cases h) none 0 a0 ha (by decide) W hW (locs_nil W none)
  have kb0 : ∀ W, REnv W → Calls Tryd.prog 16 #[.slice none 0 0, .agg (bvs b0).toArray] W fun e w' => e = .returned (.agg ((keyA [] b0).map (Value.int .i64)).toArray) ∧ Below W.heap.size W w' := fun W hW => key_e [] (fun _ h => by cases h) none 0 b0 hb (by decide) W hW (locs_nil W none)
  have hk0 : ((keyA [] a0).map (Value.int .i64))[0]? = some (.int .i64 0) ∧ ((keyA [] a0).map (Value.int .i64))[5]? = some (.int .i64 (PP a0 : Int)) ∧ ((keyA [] a0).map (Value.int .i64))[6]? = some (.int .i64 (-(scopeR a0 : Int))) := by rw [keyA_nil]; exact ⟨rfl, rfl, rfl⟩
  have hk1 : ((keyA [] b0).map (Value.int .i64))[5]? = some (.int .i64 (PP b0 : Int)) ∧ ((keyA [] b0).map (Value.int .i64))[6]? = some (.int .i64 (-(scopeR b0 : Int))) := by rw [keyA_nil]; exact ⟨rfl, rfl⟩
  have hka : (Tryd.prog.info? 38).map (·.size) = some ((keyA [] a0).map (Value.int .i64)).toArray.size := kSize (keyA_len [] a0)
  have hkb : (Tryd.prog.info? 38).map (·.size) = some ((keyA [] b0).map (Value.int .i64)).toArray.size := kSize (keyA_len [] b0)
  have hkao : ((keyA [] a0).map (Value.int .i64)).toArray.all (·.oneCell') = true := kOne (keyA [] a0)
  have hkbo : ((keyA [] b0).map (Value.int .i64)).toArray.all (·.oneCell') = true := kOne (keyA [] b0)
  have hkn : 8 = ((keyA [] a0).map (Value.int .i64)).toArray.size := by rw [List.size_toArray, List.length_map, keyA_len]
  have hkm : 8 = ((keyA [] b0).map (Value.int .i64)).toArray.size := by rw [List.size_toArray, List.length_map, keyA_len]
  have eqk : ∀ W, (Op.equalIn 10000 38 (.agg ((keyA [] a0).map (Value.int .i64)).toArray) (.agg ((keyA [] b0).map (Value.int .i64)).toArray)).run Tryd.prog W = .ok (((PP a0 : Int) == (PP b0 : Int)) && (-(scopeR a0 : Int) == -(scopeR b0 : Int))) W := fun W => by rw [← key_eqB]; exact eq_key W _ _ (keyA_len [] a0) (keyA_len [] b0)
  have eqa : ∀ W, (Op.equalIn 10000 27 (.agg (bvs a0).toArray) (.agg (bvs a0).toArray)).run Tryd.prog W = .ok true W := fun W => by have := eq_addr 9998 W ha ha; rw [beq_self_eq_true] at this; exact this
  have eql : ∀ W, (Op.equalIn 10000 42 (.agg lvZero.cells.toArray) (.agg lvZero.cells.toArray)).run Tryd.prog W = .ok true W := fun W => eq_loc W lvZero lvZero rfl rfl
  have po : ∀ W, REnv W → Calls Tryd.prog 12 #[.agg (bvs a0).toArray] W fun e w' => e = .returned (.tuple #[.int .i64 (PP a0 : Int), .int .i64 (PL a0 : Int)]) ∧ Below W.heap.size W w' := fun W hW => policy_e a0 ha W hW
  have sc := fun W (hW : REnv W) => scope_e a0 ha W hW
  have is := fun W => is4_e a0 ha W
  have hwn : IntKind.i64.wrap (-(scopeR a0 : Int)) = -(scopeR a0 : Int) := by have := scopeR_le a0; rw [IntKind.wrap_i64]; omega
  have hzl9 := lZeroAt
  have hls9 := lSize (r := lvZero) rfl
  have hlo9 := LV.one lvZero
  have hbz9 := builtLocZero
  rw [← hlzc] at sn eql hzl9 hls9 hlo9 hbz9
  rw [← hkac] at ka0 hk0 hka hkao hkn eqk
  rw [← hkbc] at kb0 hk1 hkb hkbo hkm eqk
  have hsl9 := hls9
  have hsk := hka
  have hskb := hkb
  rw [List.size_toArray] at hsl9 hsk hskb
  generalize (PP a0 : Int) = pa at *
  generalize (PP b0 : Int) = pb at *
  generalize (PL a0 : Int) = plb at *
  generalize -(scopeR b0 : Int) = nb at *
  generalize scopeR a0 = st at *
  obtain ⟨pe, hpe⟩ : ∃ pe, (pa == pb) = pe := ⟨_, rfl⟩
  obtain ⟨se, hse⟩ : ∃ se, (-(st : Int) == nb) = se := ⟨_, rfl⟩
  rw [hpe, hse] at eqk
  have HPE := Lib.hid hpe
  have HSE := Lib.hid hse
  have SN0 := Lib.hid sn
  have KA0 := Lib.hid ka0
  have KB0 := Lib.hid kb0
  have HK0 := Lib.hid hk0
  have HK1 := Lib.hid hk1
  have HKa := Lib.hid hka
  have HKb := Lib.hid hkb
  have HKao := Lib.hid hkao
  have HKbo := Lib.hid hkbo
  have HKn := Lib.hid hkn
  have HKm := Lib.hid hkm
  have EQK := Lib.hid eqk
  have EQA := Lib.hid eqa
  have EQL := Lib.hid eql
  have PO0 := Lib.hid po
  have SC0 := Lib.hid sc
  have IS := Lib.hid is
  have HWN := Lib.hid hwn
  have HZL9 := Lib.hid hzl9
  have HLs := Lib.hid hls9
  have HLo := Lib.hid hlo9
  have HBZ := Lib.hid hbz9
  have HSl9 := Lib.hid hsl9
  have HSk := Lib.hid hsk
  have HSkb := Lib.hid hskb
  have HSaA := Lib.hid (sizeBv ha)
  clear sn ka0 kb0 hk0 hk1 hka hkb hkao hkbo hkn hkm eqk eqa eql po sc is hwn hzl9 hls9 hlo9 hbz9 hsl9 hsk hskb hpe hse hlzc hkac hkbc
  obtain ⟨xc, hxc⟩ : ∃ xc, xc = x0.cells.toArray := ⟨_, rfl⟩
  rw [← hxc] at HXs HXz HXo CS HXA
  clear cS hi hz hzc hs hby hb64 hfl hZL hmem hx0 hZd hxl hsl hls hself hxa hxc
  generalize bvs a0 = ta at *
  generalize bvs b0 = tb at *
  clear ha hb
  obtain ⟨w2, hw2⟩ : ∃ w2, w2 = ((w.alloc (.cells ta.toArray 27)).alloc (.cells tb.toArray 27)) := ⟨_, rfl⟩
  have hz2 : w2.heap.size = w.heap.size + 2 := by rw [hw2, World.size_alloc, World.size_alloc]
  have b1 : w2.heap[w.heap.size]? = some (.cells ta.toArray 27 (0, 0)) := by rw [hw2]; exact heap_alloc2_old _ _ _
  have b2 : w2.heap[w.heap.size + 1]? = some (.cells tb.toArray 27 (0, 0)) := by rw [hw2]; exact heap_alloc2_new _ _ _
  have hb2 : Below w.heap.size w w2 := by
    rw [hw2]
    exact ((Below.refl _ w).alloc (Nat.le_refl _) _).alloc (by rw [World.size_alloc]; omega) _
  have HE2 := Lib.hid (he.below hb2)
  have HA2 := Lib.hid (show LocsAt w2 A ls from RowsAt.below hA hb2)
  have HB2 := Lib.hid hb2
  have B1 := Lib.hid b1
  have B2 := Lib.hid b2
  have Z2 := Lib.hid hz2
  have HF := Lib.hid hfit
  have HSa := Lib.hid hSa
  have HSb := Lib.hid hSb
  have HW2 := Lib.hid hw2
  clear he hA hb2 b1 b2 hz2 hfit hSa hSb hw2
  go_enter Tryd.func7, Tryd.ntmps7
  go_wp2_with fail
  rw [← HW2.out]
  clear HW2
  refine (HF.out _ HE2.out).mono ?_
  rintro e W0 ⟨rfl, hb1⟩
  have HB3 := Lib.hid (HB2.out.trans (hb1.mono HB2.out.size))
  by_cases hl20 : 20 < ls.length
  · have h1 : (20 : Int) < (ls.length : Int) := by omega
    go_wp2_with fail
    go_ret
    exact ⟨rfl, HB3.out⟩
  have h1 : ¬ (20 : Int) < (ls.length : Int) := by omega
  have hn : ls.length < 1000000 := by omega
  have he0 := HE2.out.below hb1
  have hA0 : LocsAt W0 A ls := RowsAt.below HA2.out hb1
  have c1 := (hb1.block w.heap.size (by have := Z2.out; omega)).trans B1.out
  have c2 := (hb1.block (w.heap.size + 1) (by have := Z2.out; omega)).trans B2.out
  have hz0 : w.heap.size + 2 ≤ W0.heap.size := by have := hb1.size; have := Z2.out; omega
  have cellA : ∀ W, Below W0.heap.size W0 W → ∀ j v, ta[j]? = some v → W.cell? ⟨w.heap.size, j, none⟩ = some v := fun W hb j v hj => by
    rw [hb.cell (p := ⟨w.heap.size, j, none⟩) (by show w.heap.size < _; omega), cell_of_row _ _ _ _ _ _ c1, List.getElem?_toArray]; exact hj
  have cellB : ∀ W, Below W0.heap.size W0 W → ∀ j v, tb[j]? = some v → W.cell? ⟨w.heap.size + 1, j, none⟩ = some v := fun W hb j v hj => by
    rw [hb.cell (p := ⟨w.heap.size + 1, j, none⟩) (by show w.heap.size + 1 < _; omega), cell_of_row _ _ _ _ _ _ c2, List.getElem?_toArray]; exact hj
  have LA := Lib.hid (fun (W : World) (hb : Below W0.heap.size W0 W) (j : Nat) (v : Value) (hj : ta.toArray.toList[j]? = some v) => (by rw [Addr.add_lit, Nat.zero_add]; exact cellA W hb j v hj : W.cell? ((⟨w.heap.size, 0, none⟩ : Addr).add j) = some v))
  have LB := Lib.hid (fun (W : World) (hb : Below W0.heap.size W0 W) (j : Nat) (v : Value) (hj : tb.toArray.toList[j]? = some v) => (by rw [Addr.add_lit, Nat.zero_add]; exact cellB W hb j v hj : W.cell? ((⟨w.heap.size + 1, 0, none⟩ : Addr).add j) = some v))
  have RA := Lib.hid (fun (W : World) (hb : Below W0.heap.size W0 W) => (fun j v hj => by rw [Nat.zero_add]; exact cellA W hb j v hj : W.rangeAt w.heap.size 0 ta))
  have RB := Lib.hid (fun (W : World) (hb : Below W0.heap.size W0 W) => (fun j v hj => by rw [Nat.zero_add]; exact cellB W hb j v hj : W.rangeAt (w.heap.size + 1) 0 tb))
  obtain ⟨nn, hnn⟩ : ∃ nn : Nat, nn = (ls ++ [self]).length := ⟨_, rfl⟩
  have KS : Hid (∀ (W : World), Below W0.heap.size W0 W → ∀ (A' : Option Addr) (c' : Nat), LocsAt W A' (ls ++ [self]) → Calls Tryd.prog 17 #[.slice A' nn c', .agg ta.toArray] W fun e w' => e = .returned (.tuple #[.agg xc, .bool true]) ∧ Below W.heap.size W w') := Lib.hid (by
    rw [hnn]
    exact fun W hb A' c' h => CS.out (by rw [List.length_append, List.length_singleton]; omega) A' c' W (he0.below hb) h)
  have HNN := Lib.hid hnn
  clear hnn
  have SN := Lib.hid (fun (W : World) (hb : Below W0.heap.size W0 W) => SN0.out W (he0.below hb))
  have KNA := Lib.hid (fun (W : World) (hb : Below W0.heap.size W0 W) => KA0.out W (he0.below hb))
  have KNB := Lib.hid (fun (W : World) (hb : Below W0.heap.size W0 W) => KB0.out W (he0.below hb))
  have PO := Lib.hid (fun (W : World) (hb : Below W0.heap.size W0 W) => PO0.out W (he0.below hb))
  have SCC := Lib.hid (fun (W : World) (hb : Below W0.heap.size W0 W) => SC0.out W (he0.below hb))
  clear CS SN0 KA0 KB0 PO0 SC0
  have hlen20 : ls.length ≤ 20 := by omega
  clear hb1 he0 c1 c2 hz0 cellA cellB hn HE2 HA2 B1 B2 Z2 HB2 HF
  rw [hsc] at HSl HSo
  have HFill := Lib.hid (fill_18 (cs := ta ++ [Value.bool true, Value.bool false]) (z := z) (by simp [h16]))
  have HBT := Lib.hid (builtLoc h16)
  have HNil := Lib.hid (news_any HLS.out hA0).1
  have HNews := Lib.hid (fun (W : World) (hb : Below W0.heap.size W0 W) => (news_any HLS.out (show LocsAt W A ls from RowsAt.below hA0 hb)).2)
  have HN20 := Lib.hid hl20
  clear hA0
  go_upto_region 5 with fail
  go_cut [7, 8] from 21 to 30 (fun t7 t8 wx => ∃ G : Nat, t7 = .pointer (some ⟨G, 0, none⟩) ∧ t8 = .bool true ∧ Hid (Below W0.heap.size W0 wx ∧ wx.heap[G]? = some (.cells xc 42 (0, 0))))
  case first =>
    refine wp_region_held_drew (S := (fun W : World => Below W0.heap.size W0 W)) (by kernel_rfl) (Below.refl _ W0).drew (fun hHeld => ?_)
    generalize W0.drew = wn0 at *
    have hb := Lib.hid hHeld
    clear hHeld
    refine wpAnyH_take (i := 0) (oi := ({ dst := some 21, op := Go.Op.move (Go.Operand.tmp 0), type := 22, pos := "law.go:128", after := #[], guard := none } : Oper)) (v := .slice A ls.length cap) rfl (by kernel_rfl) (by kernel_rfl) (by kernel_rfl) (fun _ _ _ h => h) (Or.inl ⟨by rfl, fun w' _ => ?_⟩) hb.out ?_
    · go_simp
    simp only [Act.put, List.setIfInBounds_toArray, List.set_cons_zero, List.set_cons_succ]
    refine wpAnyH_take (i := 2) (oi := ({ dst := some 23, op := Go.Op.load 27 (Go.Operand.tmp 4), type := 27, pos := "law.go:128", after := #[], guard := none } : Oper)) (v := .agg (ta).toArray) rfl (by kernel_rfl) (by kernel_rfl) (by kernel_rfl) (fun _ _ _ h => h) (yieldsIf_load_mid (by rfl) _ _ rfl _ _ rfl _ _ (fun W h => RA.out W h) hu rfl HSa.out) hb.out ?_
    simp only [Act.put, List.setIfInBounds_toArray, List.set_cons_zero, List.set_cons_succ]
    refine wpAnyH_take (i := 3) (oi := ({ dst := some 24, op := Go.Op.build 42 #[(0, Go.Operand.tmp 23), (1, Go.Operand.const (Go.Value.bool true))], type := 42, pos := "law.go:128", after := #[{ on := 2, ground := Go.Ground.data }], guard := none } : Oper)) (v := .agg (ta ++ [Value.bool true, Value.bool false]).toArray) rfl (by kernel_rfl) (by kernel_rfl) (by kernel_rfl) (fun _ _ _ h => h) (yieldsIf_build (by rfl) _ _ rfl [(0, .agg ta.toArray), (1, .bool true)] (ta ++ [Value.bool true, Value.bool false]).toArray rfl HBT.out) hb.out ?_
    simp only [Act.put, List.setIfInBounds_toArray, List.set_cons_zero, List.set_cons_succ]
    refine wpAnyH_take (i := 6) (oi := ({ dst := some 27, op := Go.Op.load 27 (Go.Operand.tmp 4), type := 27, pos := "law.go:128", after := #[], guard := none } : Oper)) (v := .agg (ta).toArray) rfl (by kernel_rfl) (by kernel_rfl) (by kernel_rfl) (fun _ _ _ h => h) (yieldsIf_load_mid (by rfl) _ _ rfl _ _ rfl _ _ (fun W h => RA.out W h) hu rfl HSa.out) hb.out ?_
    simp only [Act.put, List.setIfInBounds_toArray, List.set_cons_zero, List.set_cons_succ]
    refine wpAnyH_ready (rs := [1, 4, 11]) (by kernel_rfl) (by simp) ?_
    refine (AllReadyH.cons (o := ({ dst := some 22, op := Go.Op.call { callee := Go.Callee.builtin Go.Builtin.append, args := #[Go.Operand.const (Go.Value.slice none 0 0), Go.Operand.tmp 21], argTypes := #[22, 22] }, type := 22, pos := "law.go:128", after := #[{ on := 0, ground := Go.Ground.data }], guard := none } : Oper)) rfl (fun K hK => ?_) (AllReadyH.cons (o := ({ dst := some 25, op := Go.Op.buildSlice 22 1 #[(0, Go.Operand.tmp 24)], type := 22, pos := "law.go:128", after := #[{ on := 3, ground := Go.Ground.data }], guard := none } : Oper)) rfl (fun K hK => ?_) (AllReadyH.cons (o := ({ dst := some 7, op := Go.Op.alloc 42, type := 0, pos := "law.go:128", after := #[], guard := none } : Oper)) rfl (fun K hK => ?_) AllReadyH.nil)))
    · rw [if_pos (by kernel_rfl)]
      obtain ⟨bs2, hbs2⟩ : ∃ b, b = (wn0).heap.size := ⟨_, rfl⟩
      refine wp_append_opt (w := wn0) (.const (.slice none 0 0)) (.tmp 21) 22 rfl bs2 42 i0 z 18 by0 Tryd.underlying22 HI.out HZ.out HS.out HBY.out HZC.out (by decide) (.slice none 0 0) 0 [] rfl (World.ownsRow_nil _ _ _ _) A ls.length cap (flatL ls) rfl HNil.out HFl.out (HNews.out _ hb.out) (flatL_one ls) (by unfold maxLen; omega) (by have := HB64.out; rw [Nat.zero_add]; exact Nat.le_trans (Nat.mul_le_mul (show ls.length ≤ 20 by omega) this) (by decide)) (by omega) ?_
      intro v1 wn1 ho1 hg1
      rw [List.nil_append, Nat.zero_add] at ho1
      obtain ⟨A1, c1, rfl⟩ := own_slL ho1
      have hbd : Below (wn0).heap.size (wn0) wn1 := ⟨hg1.os, hg1.tape, hg1.output, hg1.size, fun k hk => hg1.block k hk (by simp [Value.ownBlock])⟩
      have hbase : W0.heap.size ≤ bs2 := by rw [hbs2]; exact hb.out.size
      have hb := Lib.hid (hb.out.trans (hbd.mono hb.out.size))
      have HBL := Lib.hid (show bs2 ≤ (wn1).heap.size by rw [hbs2]; exact hg1.size)
      have HO1 := Lib.hid ho1
      clear ho1 hg1 hbd hbs2
      refine hK.out _ _ hb.out (fun _ => ?_)
      clear hK K
      try simp only [Act.put, List.setIfInBounds_toArray, List.set_cons_zero, List.set_cons_succ]
      refine wpAnyH_ready (rs := [4, 11]) (by kernel_rfl) (by simp) ?_
      refine (AllReadyH.cons (o := ({ dst := some 25, op := Go.Op.buildSlice 22 1 #[(0, Go.Operand.tmp 24)], type := 22, pos := "law.go:128", after := #[{ on := 3, ground := Go.Ground.data }], guard := none } : Oper)) rfl (fun K hK => ?_) (AllReadyH.cons (o := ({ dst := some 7, op := Go.Op.alloc 42, type := 0, pos := "law.go:128", after := #[], guard := none } : Oper)) rfl (fun K hK => ?_) AllReadyH.nil))
      · rw [if_pos (by kernel_rfl)]
        refine wp_buildSlice 22 42 1 _ rfl (ta ++ [Value.bool true, Value.bool false]).toArray i0 z Tryd.underlying22 HI.out HZ.out (by rw [HS.out]; decide) (by rw [HS.out]; decide) (by rw [HS.out, Array.toList_map]; exact HFill.out) ?_
        refine hK.out _ _ (hb.out.alloc hb.out.size _) (fun _ => ?_)
        clear hK K
        try simp only [Act.put, List.setIfInBounds_toArray, List.set_cons_zero, List.set_cons_succ]
        obtain ⟨hb2, hG4, hpG4, hlG4, hold⟩ := alloc_pack hb.out (.cells (ta ++ [Value.bool true, Value.bool false]).toArray 42)
        have hneG4 : ∀ k, (Value.slice A1 ls.length c1).ownBlock = some k → k ≠ (wn1).heap.size := fun k e => by have := (HO1.out.lt k e).2; omega
        have HBM := Lib.hid (Nat.le_trans HBL.out (Nat.le_of_lt hlG4))
        clear HBL
        have HBL := HBM
        clear HBM
        have HO1 := Lib.hid (HO1.out.alloc (.cells (ta ++ [Value.bool true, Value.bool false]).toArray 42))
        clear hold
        have hb := Lib.hid hb2
        clear hb2
        generalize World.alloc wn1 (.cells (ta ++ [Value.bool true, Value.bool false]).toArray 42) = wn3 at *
        generalize (wn1).heap.size = G4 at *
        have hG4 := Lib.hid hG4
        refine wpAnyH_ready (rs := [5, 11]) (by kernel_rfl) (by simp) ?_
        refine (AllReadyH.cons (o := ({ dst := some 26, op := Go.Op.call { callee := Go.Callee.builtin Go.Builtin.append, args := #[Go.Operand.tmp 22, Go.Operand.tmp 25], argTypes := #[22, 22] }, type := 22, pos := "law.go:128", after := #[{ on := 1, ground := Go.Ground.data }, { on := 4, ground := Go.Ground.data }, { on := 1, ground := Go.Ground.chain }], guard := none } : Oper)) rfl (fun K hK => ?_) (AllReadyH.cons (o := ({ dst := some 7, op := Go.Op.alloc 42, type := 0, pos := "law.go:128", after := #[], guard := none } : Oper)) rfl (fun K hK => ?_) AllReadyH.nil))
        · rw [if_pos (by kernel_rfl)]
          refine wp_append_own (w := wn3) (.tmp 22) (.tmp 25) 22 rfl bs2 42 i0 z 18 by0 Tryd.underlying22 HI.out HZ.out HS.out HBY.out HZC.out (by decide) (.slice A1 ls.length c1) ls.length (flatL ls) rfl HO1.out ⟨G4, 0, none⟩ 1 1 (ta ++ [Value.bool true, Value.bool false]) rfl HSl.out (fun j u hj => by rw [Addr.add_lit, Nat.zero_add, cell_of_row _ _ _ _ _ _ hG4.out]; simpa using hj) HSo.out (by unfold maxLen; omega) (by have := HB64.out; exact Nat.le_trans (Nat.mul_le_mul (show ls.length + 1 ≤ 21 by omega) this) (by decide)) HBL.out ?_
          intro v2 wn5 ho2 hg2 _
          rw [← HSC.out, flatL_snoc] at ho2
          have hb2 := hb.out.grown hg2 hb.out.size (fun k e => Nat.le_trans hbase (HO1.out.lt k e).1)
          have hb := Lib.hid hb2
          obtain ⟨A2, c2, hv2, hloc⟩ := own_locs HMem.out (show World.ownsRow _ _ _ _ _ (ls ++ [self]).length _ by rw [List.length_append]; exact ho2)
          rw [← HNN.out] at hv2
          subst hv2
          have HLoc := Lib.hid hloc
          clear ho2 hg2 hb2 hloc HO1 HBL hG4
          refine hK.out _ _ hb.out (fun _ => ?_)
          clear hK K
          try simp only [Act.put, List.setIfInBounds_toArray, List.set_cons_zero, List.set_cons_succ]
          refine wpAnyH_ready (rs := [7, 11]) (by kernel_rfl) (by simp) ?_
          refine (AllReadyH.cons (o := ({ dst := some 28, op := Go.Op.call { callee := Go.Callee.value (Go.Operand.func 17), args := #[Go.Operand.tmp 26, Go.Operand.tmp 27], argTypes := #[22, 27] }, type := 43, pos := "law.go:128", after := #[{ on := 5, ground := Go.Ground.data }, { on := 6, ground := Go.Ground.data }, { on := 5, ground := Go.Ground.chain }], guard := none } : Oper)) rfl (fun K hK => ?_) (AllReadyH.cons (o := ({ dst := some 7, op := Go.Op.alloc 42, type := 0, pos := "law.go:128", after := #[], guard := none } : Oper)) rfl (fun K hK => ?_) AllReadyH.nil))
          · go_simp
            go_at_call 17
            refine (KS.out _ hb.out A2 c2 HLoc.out).mono ?_
            rintro e' wn6 ⟨rfl, hbc⟩
            have hb := Lib.hid (hb.out.trans (hbc.mono hb.out.size))
            clear hbc HLoc
            refine hK.out _ _ hb.out (fun _ => ?_)
            clear hK K
            try simp only [Act.put, List.setIfInBounds_toArray, List.set_cons_zero, List.set_cons_succ]
            refine wpAnyH_take (i := 8) (oi := ({ dst := some 20, op := Go.Op.move (Go.Operand.tmp 28), type := 43, pos := "law.go:128", after := #[{ on := 7, ground := Go.Ground.data }], guard := none } : Oper)) (v := .tuple #[.agg xc, .bool true]) rfl (by kernel_rfl) (by kernel_rfl) (by kernel_rfl) (fun _ _ _ h => h) (Or.inl ⟨by rfl, fun w' _ => ?_⟩) hb.out ?_
            · go_simp
            simp only [Act.put, List.setIfInBounds_toArray, List.set_cons_zero, List.set_cons_succ]
            refine wpAnyH_take (i := 9) (oi := ({ dst := some 29, op := Go.Op.extract (Go.Operand.tmp 20) 0, type := 42, pos := "law.go:128", after := #[{ on := 8, ground := Go.Ground.data }], guard := none } : Oper)) (v := .agg xc) rfl (by kernel_rfl) (by kernel_rfl) (by kernel_rfl) (fun _ _ _ h => h) (Or.inl ⟨by rfl, fun w' _ => ?_⟩) hb.out ?_
            · go_simp
            simp only [Act.put, List.setIfInBounds_toArray, List.set_cons_zero, List.set_cons_succ]
            refine wpAnyH_take (i := 10) (oi := ({ dst := some 30, op := Go.Op.extract (Go.Operand.tmp 20) 1, type := 4, pos := "law.go:128", after := #[{ on := 8, ground := Go.Ground.data }, { on := 12, ground := Go.Ground.gcOnly Go.Departure.lateStores }], guard := none } : Oper)) (v := .bool true) rfl (by kernel_rfl) (by kernel_rfl) (by kernel_rfl) (fun _ _ _ h => h) (Or.inl ⟨by rfl, fun w' _ => ?_⟩) hb.out ?_
            · go_simp
            simp only [Act.put, List.setIfInBounds_toArray, List.set_cons_zero, List.set_cons_succ]
            refine wpAnyH_ready (rs := [11]) (by kernel_rfl) (by simp) ?_
            refine (AllReadyH.cons (o := ({ dst := some 7, op := Go.Op.alloc 42, type := 0, pos := "law.go:128", after := #[], guard := none } : Oper)) rfl (fun K hK => ?_) AllReadyH.nil)
            · rw [if_pos (by kernel_rfl)]
              refine wp_alloc_zz 42 rfl Z HZL.out ?_
              refine hK.out _ _ (hb.out.alloc hb.out.size _) (fun _ => ?_)
              clear hK K
              try simp only [Act.put, List.setIfInBounds_toArray, List.set_cons_zero, List.set_cons_succ]
              obtain ⟨hb2, hG8, hpG8, hlG8, hold⟩ := alloc_pack hb.out (.cells Z 42)
              clear hold
              have hb := Lib.hid hb2
              clear hb2
              generalize World.alloc wn6 (.cells Z 42) = wn7 at *
              generalize (wn6).heap.size = G8 at *
              have hG8 := Lib.hid hG8
              refine wpAnyH_ready (rs := [12]) (by kernel_rfl) (by simp) ?_
              refine AllReadyH.cons (o := ({ dst := none, op := Go.Op.store 42 (Go.Operand.tmp 7) (Go.Operand.tmp 29), type := 0, pos := "law.go:128", after := #[{ on := 11, ground := Go.Ground.data }, { on := 9, ground := Go.Ground.data }, { on := 7, ground := Go.Ground.chain }, { on := 0, ground := Go.Ground.phase }, { on := 1, ground := Go.Ground.phase }, { on := 2, ground := Go.Ground.phase }, { on := 3, ground := Go.Ground.phase }, { on := 4, ground := Go.Ground.phase }, { on := 5, ground := Go.Ground.phase }, { on := 6, ground := Go.Ground.phase }, { on := 7, ground := Go.Ground.phase }, { on := 8, ground := Go.Ground.phase }, { on := 9, ground := Go.Ground.phase }, { on := 10, ground := Go.Ground.textOnly Go.Departure.lateStores }, { on := 11, ground := Go.Ground.phase }], guard := none } : Oper)) rfl (fun K hK => ?_) AllReadyH.nil
              refine wp_store_row 42 (.tmp 7) (.tmp 29) rfl G8 xc rfl rfl 42 _ hG8.out HXs.out HXz.out HXo.out ?_
              have kG8 := setRow_heap _ _ _ xc _ _ hG8.out
              have hb := Lib.hid (below_setRow hb.out hpG8 xc)
              refine hK.out _ _ hb.out (fun _ => ?_)
              clear hK K
              try simp only [Act.put]
              refine wpAnyH_take (i := 13) (oi := ({ dst := some 8, op := Go.Op.assign (Go.Operand.tmp 30), type := 4, pos := "law.go:128", after := #[{ on := 10, ground := Go.Ground.data }, { on := 12, ground := Go.Ground.chain }, { on := 0, ground := Go.Ground.phase }, { on := 1, ground := Go.Ground.phase }, { on := 2, ground := Go.Ground.phase }, { on := 3, ground := Go.Ground.phase }, { on := 4, ground := Go.Ground.phase }, { on := 5, ground := Go.Ground.phase }, { on := 6, ground := Go.Ground.phase }, { on := 7, ground := Go.Ground.phase }, { on := 8, ground := Go.Ground.phase }, { on := 9, ground := Go.Ground.phase }, { on := 10, ground := Go.Ground.phase }, { on := 11, ground := Go.Ground.phase }, { on := 12, ground := Go.Ground.phase }], guard := none } : Oper)) (v := .bool true) rfl (by kernel_rfl) (by kernel_rfl) (by kernel_rfl) (fun _ _ _ h => h) (Or.inl ⟨by rfl, fun w' _ => ?_⟩) hb.out ?_
              · go_simp
              simp only [Act.put, List.setIfInBounds_toArray, List.set_cons_zero, List.set_cons_succ]
              refine wpAnyH_done (by kernel_rfl) ?_ _
              try (go_wp2_with fail)
              go_meet
              case rel => exact ⟨G8, rfl, rfl, Lib.hid ⟨hb.out, kG8⟩⟩
          · rw [if_pos (by kernel_rfl)]
            refine wp_alloc_zz 42 rfl Z HZL.out ?_
            refine hK.out _ _ (hb.out.alloc hb.out.size _) (fun _ => ?_)
            clear hK K
            try simp only [Act.put, List.setIfInBounds_toArray, List.set_cons_zero, List.set_cons_succ]
            obtain ⟨hb2, hG10, hpG10, hlG10, hold⟩ := alloc_pack hb.out (.cells Z 42)
            have HLoc := Lib.hid (show LocsAt _ A2 (ls ++ [self]) from RowsAt.below HLoc.out ((Below.refl _ (wn5)).alloc (Nat.le_refl _) (.cells Z 42)))
            clear hold
            have hb := Lib.hid hb2
            clear hb2
            generalize World.alloc wn5 (.cells Z 42) = wn9 at *
            generalize (wn5).heap.size = G10 at *
            have hG10 := Lib.hid hG10
            refine wpAnyH_ready (rs := [7]) (by kernel_rfl) (by simp) ?_
            refine (AllReadyH.cons (o := ({ dst := some 28, op := Go.Op.call { callee := Go.Callee.value (Go.Operand.func 17), args := #[Go.Operand.tmp 26, Go.Operand.tmp 27], argTypes := #[22, 27] }, type := 43, pos := "law.go:128", after := #[{ on := 5, ground := Go.Ground.data }, { on := 6, ground := Go.Ground.data }, { on := 5, ground := Go.Ground.chain }], guard := none } : Oper)) rfl (fun K hK => ?_) AllReadyH.nil)
            · go_simp
              go_at_call 17
              refine (KS.out _ hb.out A2 c2 HLoc.out).mono ?_
              rintro e' wn11 ⟨rfl, hbc⟩
              have hG10 := Lib.hid ((hbc.block _ (heap_lt hG10.out)).trans hG10.out)
              have hb := Lib.hid (hb.out.trans (hbc.mono hb.out.size))
              clear hbc HLoc
              refine hK.out _ _ hb.out (fun _ => ?_)
              clear hK K
              try simp only [Act.put, List.setIfInBounds_toArray, List.set_cons_zero, List.set_cons_succ]
              refine wpAnyH_take (i := 8) (oi := ({ dst := some 20, op := Go.Op.move (Go.Operand.tmp 28), type := 43, pos := "law.go:128", after := #[{ on := 7, ground := Go.Ground.data }], guard := none } : Oper)) (v := .tuple #[.agg xc, .bool true]) rfl (by kernel_rfl) (by kernel_rfl) (by kernel_rfl) (fun _ _ _ h => h) (Or.inl ⟨by rfl, fun w' _ => ?_⟩) hb.out ?_
              · go_simp
              simp only [Act.put, List.setIfInBounds_toArray, List.set_cons_zero, List.set_cons_succ]
              refine wpAnyH_take (i := 9) (oi := ({ dst := some 29, op := Go.Op.extract (Go.Operand.tmp 20) 0, type := 42, pos := "law.go:128", after := #[{ on := 8, ground := Go.Ground.data }], guard := none } : Oper)) (v := .agg xc) rfl (by kernel_rfl) (by kernel_rfl) (by kernel_rfl) (fun _ _ _ h => h) (Or.inl ⟨by rfl, fun w' _ => ?_⟩) hb.out ?_
              · go_simp
              simp only [Act.put, List.setIfInBounds_toArray, List.set_cons_zero, List.set_cons_succ]
              refine wpAnyH_take (i := 10) (oi := ({ dst := some 30, op := Go.Op.extract (Go.Operand.tmp 20) 1, type := 4, pos := "law.go:128", after := #[{ on := 8, ground := Go.Ground.data }, { on := 12, ground := Go.Ground.gcOnly Go.Departure.lateStores }], guard := none } : Oper)) (v := .bool true) rfl (by kernel_rfl) (by kernel_rfl) (by kernel_rfl) (fun _ _ _ h => h) (Or.inl ⟨by rfl, fun w' _ => ?_⟩) hb.out ?_
              · go_simp
              simp only [Act.put, List.setIfInBounds_toArray, List.set_cons_zero, List.set_cons_succ]
              refine wpAnyH_ready (rs := [12]) (by kernel_rfl) (by simp) ?_
              refine AllReadyH.cons (o := ({ dst := none, op := Go.Op.store 42 (Go.Operand.tmp 7) (Go.Operand.tmp 29), type := 0, pos := "law.go:128", after := #[{ on := 11, ground := Go.Ground.data }, { on := 9, ground := Go.Ground.data }, { on := 7, ground := Go.Ground.chain }, { on := 0, ground := Go.Ground.phase }, { on := 1, ground := Go.Ground.phase }, { on := 2, ground := Go.Ground.phase }, { on := 3, ground := Go.Ground.phase }, { on := 4, ground := Go.Ground.phase }, { on := 5, ground := Go.Ground.phase }, { on := 6, ground := Go.Ground.phase }, { on := 7, ground := Go.Ground.phase }, { on := 8, ground := Go.Ground.phase }, { on := 9, ground := Go.Ground.phase }, { on := 10, ground := Go.Ground.textOnly Go.Departure.lateStores }, { on := 11, ground := Go.Ground.phase }], guard := none } : Oper)) rfl (fun K hK => ?_) AllReadyH.nil
              refine wp_store_row 42 (.tmp 7) (.tmp 29) rfl G10 xc rfl rfl 42 _ hG10.out HXs.out HXz.out HXo.out ?_
              have kG10 := setRow_heap _ _ _ xc _ _ hG10.out
              have hb := Lib.hid (below_setRow hb.out hpG10 xc)
              refine hK.out _ _ hb.out (fun _ => ?_)
              clear hK K
              try simp only [Act.put]
              refine wpAnyH_take (i := 13) (oi := ({ dst := some 8, op := Go.Op.assign (Go.Operand.tmp 30), type := 4, pos := "law.go:128", after := #[{ on := 10, ground := Go.Ground.data }, { on := 12, ground := Go.Ground.chain }, { on := 0, ground := Go.Ground.phase }, { on := 1, ground := Go.Ground.phase }, { on := 2, ground := Go.Ground.phase }, { on := 3, ground := Go.Ground.phase }, { on := 4, ground := Go.Ground.phase }, { on := 5, ground := Go.Ground.phase }, { on := 6, ground := Go.Ground.phase }, { on := 7, ground := Go.Ground.phase }, { on := 8, ground := Go.Ground.phase }, { on := 9, ground := Go.Ground.phase }, { on := 10, ground := Go.Ground.phase }, { on := 11, ground := Go.Ground.phase }, { on := 12, ground := Go.Ground.phase }], guard := none } : Oper)) (v := .bool true) rfl (by kernel_rfl) (by kernel_rfl) (by kernel_rfl) (fun _ _ _ h => h) (Or.inl ⟨by rfl, fun w' _ => ?_⟩) hb.out ?_
              · go_simp
              simp only [Act.put, List.setIfInBounds_toArray, List.set_cons_zero, List.set_cons_succ]
              refine wpAnyH_done (by kernel_rfl) ?_ _
              try (go_wp2_with fail)
              go_meet
              case rel => exact ⟨G10, rfl, rfl, Lib.hid ⟨hb.out, kG10⟩⟩
        · rw [if_pos (by kernel_rfl)]
          refine wp_alloc_zz 42 rfl Z HZL.out ?_
          refine hK.out _ _ (hb.out.alloc hb.out.size _) (fun _ => ?_)
          clear hK K
          try simp only [Act.put, List.setIfInBounds_toArray, List.set_cons_zero, List.set_cons_succ]
          obtain ⟨hb2, hG13, hpG13, hlG13, hold⟩ := alloc_pack hb.out (.cells Z 42)
          obtain ⟨hG4x, hneG4G13⟩ := hold _ _ hG4.out
          have hG4 := Lib.hid hG4x
          clear hG4x
          have hneG13 : ∀ k, (Value.slice A1 ls.length c1).ownBlock = some k → k ≠ (wn3).heap.size := fun k e => by have := (HO1.out.lt k e).2; omega
          have HBM := Lib.hid (Nat.le_trans HBL.out (Nat.le_of_lt hlG13))
          clear HBL
          have HBL := HBM
          clear HBM
          have HO1 := Lib.hid (HO1.out.alloc (.cells Z 42))
          clear hold
          have hb := Lib.hid hb2
          clear hb2
          generalize World.alloc wn3 (.cells Z 42) = wn12 at *
          generalize (wn3).heap.size = G13 at *
          have hG13 := Lib.hid hG13
          refine wpAnyH_ready (rs := [5]) (by kernel_rfl) (by simp) ?_
          refine (AllReadyH.cons (o := ({ dst := some 26, op := Go.Op.call { callee := Go.Callee.builtin Go.Builtin.append, args := #[Go.Operand.tmp 22, Go.Operand.tmp 25], argTypes := #[22, 22] }, type := 22, pos := "law.go:128", after := #[{ on := 1, ground := Go.Ground.data }, { on := 4, ground := Go.Ground.data }, { on := 1, ground := Go.Ground.chain }], guard := none } : Oper)) rfl (fun K hK => ?_) AllReadyH.nil)
          · rw [if_pos (by kernel_rfl)]
            refine wp_append_own (w := wn12) (.tmp 22) (.tmp 25) 22 rfl bs2 42 i0 z 18 by0 Tryd.underlying22 HI.out HZ.out HS.out HBY.out HZC.out (by decide) (.slice A1 ls.length c1) ls.length (flatL ls) rfl HO1.out ⟨G4, 0, none⟩ 1 1 (ta ++ [Value.bool true, Value.bool false]) rfl HSl.out (fun j u hj => by rw [Addr.add_lit, Nat.zero_add, cell_of_row _ _ _ _ _ _ hG4.out]; simpa using hj) HSo.out (by unfold maxLen; omega) (by have := HB64.out; exact Nat.le_trans (Nat.mul_le_mul (show ls.length + 1 ≤ 21 by omega) this) (by decide)) HBL.out ?_
            intro v2 wn14 ho2 hg2 _
            rw [← HSC.out, flatL_snoc] at ho2
            have hb2 := hb.out.grown hg2 hb.out.size (fun k e => Nat.le_trans hbase (HO1.out.lt k e).1)
            have hG13 := Lib.hid ((hg2.block _ (heap_lt hG13.out) (fun e => hneG13 _ e.symm rfl)).trans hG13.out)
            have hb := Lib.hid hb2
            obtain ⟨A2, c2, hv2, hloc⟩ := own_locs HMem.out (show World.ownsRow _ _ _ _ _ (ls ++ [self]).length _ by rw [List.length_append]; exact ho2)
            rw [← HNN.out] at hv2
            subst hv2
            have HLoc := Lib.hid hloc
            clear ho2 hg2 hb2 hloc HO1 HBL hG4
            refine hK.out _ _ hb.out (fun _ => ?_)
            clear hK K
            try simp only [Act.put, List.setIfInBounds_toArray, List.set_cons_zero, List.set_cons_succ]
            refine wpAnyH_ready (rs := [7]) (by kernel_rfl) (by simp) ?_
            refine (AllReadyH.cons (o := ({ dst := some 28, op := Go.Op.call { callee := Go.Callee.value (Go.Operand.func 17), args := #[Go.Operand.tmp 26, Go.Operand.tmp 27], argTypes := #[22, 27] }, type := 43, pos := "law.go:128", after := #[{ on := 5, ground := Go.Ground.data }, { on := 6, ground := Go.Ground.data }, { on := 5, ground := Go.Ground.chain }], guard := none } : Oper)) rfl (fun K hK => ?_) AllReadyH.nil)
            · go_simp
              go_at_call 17
              refine (KS.out _ hb.out A2 c2 HLoc.out).mono ?_
              rintro e' wn15 ⟨rfl, hbc⟩
              have hG13 := Lib.hid ((hbc.block _ (heap_lt hG13.out)).trans hG13.out)
              have hb := Lib.hid (hb.out.trans (hbc.mono hb.out.size))
              clear hbc HLoc
              refine hK.out _ _ hb.out (fun _ => ?_)
              clear hK K
              try simp only [Act.put, List.setIfInBounds_toArray, List.set_cons_zero, List.set_cons_succ]
              refine wpAnyH_take (i := 8) (oi := ({ dst := some 20, op := Go.Op.move (Go.Operand.tmp 28), type := 43, pos := "law.go:128", after := #[{ on := 7, ground := Go.Ground.data }], guard := none } : Oper)) (v := .tuple #[.agg xc, .bool true]) rfl (by kernel_rfl) (by kernel_rfl) (by kernel_rfl) (fun _ _ _ h => h) (Or.inl ⟨by rfl, fun w' _ => ?_⟩) hb.out ?_
              · go_simp
              simp only [Act.put, List.setIfInBounds_toArray, List.set_cons_zero, List.set_cons_succ]
              refine wpAnyH_take (i := 9) (oi := ({ dst := some 29, op := Go.Op.extract (Go.Operand.tmp 20) 0, type := 42, pos := "law.go:128", after := #[{ on := 8, ground := Go.Ground.data }], guard := none } : Oper)) (v := .agg xc) rfl (by kernel_rfl) (by kernel_rfl) (by kernel_rfl) (fun _ _ _ h => h) (Or.inl ⟨by rfl, fun w' _ => ?_⟩) hb.out ?_
              · go_simp
              simp only [Act.put, List.setIfInBounds_toArray, List.set_cons_zero, List.set_cons_succ]
              refine wpAnyH_take (i := 10) (oi := ({ dst := some 30, op := Go.Op.extract (Go.Operand.tmp 20) 1, type := 4, pos := "law.go:128", after := #[{ on := 8, ground := Go.Ground.data }, { on := 12, ground := Go.Ground.gcOnly Go.Departure.lateStores }], guard := none } : Oper)) (v := .bool true) rfl (by kernel_rfl) (by kernel_rfl) (by kernel_rfl) (fun _ _ _ h => h) (Or.inl ⟨by rfl, fun w' _ => ?_⟩) hb.out ?_
              · go_simp
              simp only [Act.put, List.setIfInBounds_toArray, List.set_cons_zero, List.set_cons_succ]
              refine wpAnyH_ready (rs := [12]) (by kernel_rfl) (by simp) ?_
              refine AllReadyH.cons (o := ({ dst := none, op := Go.Op.store 42 (Go.Operand.tmp 7) (Go.Operand.tmp 29), type := 0, pos := "law.go:128", after := #[{ on := 11, ground := Go.Ground.data }, { on := 9, ground := Go.Ground.data }, { on := 7, ground := Go.Ground.chain }, { on := 0, ground := Go.Ground.phase }, { on := 1, ground := Go.Ground.phase }, { on := 2, ground := Go.Ground.phase }, { on := 3, ground := Go.Ground.phase }, { on := 4, ground := Go.Ground.phase }, { on := 5, ground := Go.Ground.phase }, { on := 6, ground := Go.Ground.phase }, { on := 7, ground := Go.Ground.phase }, { on := 8, ground := Go.Ground.phase }, { on := 9, ground := Go.Ground.phase }, { on := 10, ground := Go.Ground.textOnly Go.Departure.lateStores }, { on := 11, ground := Go.Ground.phase }], guard := none } : Oper)) rfl (fun K hK => ?_) AllReadyH.nil
              refine wp_store_row 42 (.tmp 7) (.tmp 29) rfl G13 xc rfl rfl 42 _ hG13.out HXs.out HXz.out HXo.out ?_
              have kG13 := setRow_heap _ _ _ xc _ _ hG13.out
              have hb := Lib.hid (below_setRow hb.out hpG13 xc)
              refine hK.out _ _ hb.out (fun _ => ?_)
              clear hK K
              try simp only [Act.put]
              refine wpAnyH_take (i := 13) (oi := ({ dst := some 8, op := Go.Op.assign (Go.Operand.tmp 30), type := 4, pos := "law.go:128", after := #[{ on := 10, ground := Go.Ground.data }, { on := 12, ground := Go.Ground.chain }, { on := 0, ground := Go.Ground.phase }, { on := 1, ground := Go.Ground.phase }, { on := 2, ground := Go.Ground.phase }, { on := 3, ground := Go.Ground.phase }, { on := 4, ground := Go.Ground.phase }, { on := 5, ground := Go.Ground.phase }, { on := 6, ground := Go.Ground.phase }, { on := 7, ground := Go.Ground.phase }, { on := 8, ground := Go.Ground.phase }, { on := 9, ground := Go.Ground.phase }, { on := 10, ground := Go.Ground.phase }, { on := 11, ground := Go.Ground.phase }, { on := 12, ground := Go.Ground.phase }], guard := none } : Oper)) (v := .bool true) rfl (by kernel_rfl) (by kernel_rfl) (by kernel_rfl) (fun _ _ _ h => h) (Or.inl ⟨by rfl, fun w' _ => ?_⟩) hb.out ?_
              · go_simp
              simp only [Act.put, List.setIfInBounds_toArray, List.set_cons_zero, List.set_cons_succ]
              refine wpAnyH_done (by kernel_rfl) ?_ _
              try (go_wp2_with fail)
              go_meet
              case rel => exact ⟨G13, rfl, rfl, Lib.hid ⟨hb.out, kG13⟩⟩
      · rw [if_pos (by kernel_rfl)]
        refine wp_alloc_zz 42 rfl Z HZL.out ?_
        refine hK.out _ _ (hb.out.alloc hb.out.size _) (fun _ => ?_)
        clear hK K
        try simp only [Act.put, List.setIfInBounds_toArray, List.set_cons_zero, List.set_cons_succ]
        obtain ⟨hb2, hG17, hpG17, hlG17, hold⟩ := alloc_pack hb.out (.cells Z 42)
        have hneG17 : ∀ k, (Value.slice A1 ls.length c1).ownBlock = some k → k ≠ (wn1).heap.size := fun k e => by have := (HO1.out.lt k e).2; omega
        have HBM := Lib.hid (Nat.le_trans HBL.out (Nat.le_of_lt hlG17))
        clear HBL
        have HBL := HBM
        clear HBM
        have HO1 := Lib.hid (HO1.out.alloc (.cells Z 42))
        clear hold
        have hb := Lib.hid hb2
        clear hb2
        generalize World.alloc wn1 (.cells Z 42) = wn16 at *
        generalize (wn1).heap.size = G17 at *
        have hG17 := Lib.hid hG17
        refine wpAnyH_ready (rs := [4]) (by kernel_rfl) (by simp) ?_
        refine (AllReadyH.cons (o := ({ dst := some 25, op := Go.Op.buildSlice 22 1 #[(0, Go.Operand.tmp 24)], type := 22, pos := "law.go:128", after := #[{ on := 3, ground := Go.Ground.data }], guard := none } : Oper)) rfl (fun K hK => ?_) AllReadyH.nil)
        · rw [if_pos (by kernel_rfl)]
          refine wp_buildSlice 22 42 1 _ rfl (ta ++ [Value.bool true, Value.bool false]).toArray i0 z Tryd.underlying22 HI.out HZ.out (by rw [HS.out]; decide) (by rw [HS.out]; decide) (by rw [HS.out, Array.toList_map]; exact HFill.out) ?_
          refine hK.out _ _ (hb.out.alloc hb.out.size _) (fun _ => ?_)
          clear hK K
          try simp only [Act.put, List.setIfInBounds_toArray, List.set_cons_zero, List.set_cons_succ]
          obtain ⟨hb2, hG19, hpG19, hlG19, hold⟩ := alloc_pack hb.out (.cells (ta ++ [Value.bool true, Value.bool false]).toArray 42)
          obtain ⟨hG17x, hneG17G19⟩ := hold _ _ hG17.out
          have hG17 := Lib.hid hG17x
          clear hG17x
          have hneG19 : ∀ k, (Value.slice A1 ls.length c1).ownBlock = some k → k ≠ (wn16).heap.size := fun k e => by have := (HO1.out.lt k e).2; omega
          have HBM := Lib.hid (Nat.le_trans HBL.out (Nat.le_of_lt hlG19))
          clear HBL
          have HBL := HBM
          clear HBM
          have HO1 := Lib.hid (HO1.out.alloc (.cells (ta ++ [Value.bool true, Value.bool false]).toArray 42))
          clear hold
          have hb := Lib.hid hb2
          clear hb2
          generalize World.alloc wn16 (.cells (ta ++ [Value.bool true, Value.bool false]).toArray 42) = wn18 at *
          generalize (wn16).heap.size = G19 at *
          have hG19 := Lib.hid hG19
          refine wpAnyH_ready (rs := [5]) (by kernel_rfl) (by simp) ?_
          refine (AllReadyH.cons (o := ({ dst := some 26, op := Go.Op.call { callee := Go.Callee.builtin Go.Builtin.append, args := #[Go.Operand.tmp 22, Go.Operand.tmp 25], argTypes := #[22, 22] }, type := 22, pos := "law.go:128", after := #[{ on := 1, ground := Go.Ground.data }, { on := 4, ground := Go.Ground.data }, { on := 1, ground := Go.Ground.chain }], guard := none } : Oper)) rfl (fun K hK => ?_) AllReadyH.nil)
          · rw [if_pos (by kernel_rfl)]
            refine wp_append_own (w := wn18) (.tmp 22) (.tmp 25) 22 rfl bs2 42 i0 z 18 by0 Tryd.underlying22 HI.out HZ.out HS.out HBY.out HZC.out (by decide) (.slice A1 ls.length c1) ls.length (flatL ls) rfl HO1.out ⟨G19, 0, none⟩ 1 1 (ta ++ [Value.bool true, Value.bool false]) rfl HSl.out (fun j u hj => by rw [Addr.add_lit, Nat.zero_add, cell_of_row _ _ _ _ _ _ hG19.out]; simpa using hj) HSo.out (by unfold maxLen; omega) (by have := HB64.out; exact Nat.le_trans (Nat.mul_le_mul (show ls.length + 1 ≤ 21 by omega) this) (by decide)) HBL.out ?_
            intro v2 wn20 ho2 hg2 _
            rw [← HSC.out, flatL_snoc] at ho2
            have hb2 := hb.out.grown hg2 hb.out.size (fun k e => Nat.le_trans hbase (HO1.out.lt k e).1)
            have hG17 := Lib.hid ((hg2.block _ (heap_lt hG17.out) (fun e => hneG17 _ e.symm rfl)).trans hG17.out)
            have hb := Lib.hid hb2
            obtain ⟨A2, c2, hv2, hloc⟩ := own_locs HMem.out (show World.ownsRow _ _ _ _ _ (ls ++ [self]).length _ by rw [List.length_append]; exact ho2)
            rw [← HNN.out] at hv2
            subst hv2
            have HLoc := Lib.hid hloc
            clear ho2 hg2 hb2 hloc HO1 HBL hG19
            refine hK.out _ _ hb.out (fun _ => ?_)
            clear hK K
            try simp only [Act.put, List.setIfInBounds_toArray, List.set_cons_zero, List.set_cons_succ]
            refine wpAnyH_ready (rs := [7]) (by kernel_rfl) (by simp) ?_
            refine (AllReadyH.cons (o := ({ dst := some 28, op := Go.Op.call { callee := Go.Callee.value (Go.Operand.func 17), args := #[Go.Operand.tmp 26, Go.Operand.tmp 27], argTypes := #[22, 27] }, type := 43, pos := "law.go:128", after := #[{ on := 5, ground := Go.Ground.data }, { on := 6, ground := Go.Ground.data }, { on := 5, ground := Go.Ground.chain }], guard := none } : Oper)) rfl (fun K hK => ?_) AllReadyH.nil)
            · go_simp
              go_at_call 17
              refine (KS.out _ hb.out A2 c2 HLoc.out).mono ?_
              rintro e' wn21 ⟨rfl, hbc⟩
              have hG17 := Lib.hid ((hbc.block _ (heap_lt hG17.out)).trans hG17.out)
              have hb := Lib.hid (hb.out.trans (hbc.mono hb.out.size))
              clear hbc HLoc
              refine hK.out _ _ hb.out (fun _ => ?_)
              clear hK K
              try simp only [Act.put, List.setIfInBounds_toArray, List.set_cons_zero, List.set_cons_succ]
              refine wpAnyH_take (i := 8) (oi := ({ dst := some 20, op := Go.Op.move (Go.Operand.tmp 28), type := 43, pos := "law.go:128", after := #[{ on := 7, ground := Go.Ground.data }], guard := none } : Oper)) (v := .tuple #[.agg xc, .bool true]) rfl (by kernel_rfl) (by kernel_rfl) (by kernel_rfl) (fun _ _ _ h => h) (Or.inl ⟨by rfl, fun w' _ => ?_⟩) hb.out ?_
              · go_simp
              simp only [Act.put, List.setIfInBounds_toArray, List.set_cons_zero, List.set_cons_succ]
              refine wpAnyH_take (i := 9) (oi := ({ dst := some 29, op := Go.Op.extract (Go.Operand.tmp 20) 0, type := 42, pos := "law.go:128", after := #[{ on := 8, ground := Go.Ground.data }], guard := none } : Oper)) (v := .agg xc) rfl (by kernel_rfl) (by kernel_rfl) (by kernel_rfl) (fun _ _ _ h => h) (Or.inl ⟨by rfl, fun w' _ => ?_⟩) hb.out ?_
              · go_simp
              simp only [Act.put, List.setIfInBounds_toArray, List.set_cons_zero, List.set_cons_succ]
              refine wpAnyH_take (i := 10) (oi := ({ dst := some 30, op := Go.Op.extract (Go.Operand.tmp 20) 1, type := 4, pos := "law.go:128", after := #[{ on := 8, ground := Go.Ground.data }, { on := 12, ground := Go.Ground.gcOnly Go.Departure.lateStores }], guard := none } : Oper)) (v := .bool true) rfl (by kernel_rfl) (by kernel_rfl) (by kernel_rfl) (fun _ _ _ h => h) (Or.inl ⟨by rfl, fun w' _ => ?_⟩) hb.out ?_
              · go_simp
              simp only [Act.put, List.setIfInBounds_toArray, List.set_cons_zero, List.set_cons_succ]
              refine wpAnyH_ready (rs := [12]) (by kernel_rfl) (by simp) ?_
              refine AllReadyH.cons (o := ({ dst := none, op := Go.Op.store 42 (Go.Operand.tmp 7) (Go.Operand.tmp 29), type := 0, pos := "law.go:128", after := #[{ on := 11, ground := Go.Ground.data }, { on := 9, ground := Go.Ground.data }, { on := 7, ground := Go.Ground.chain }, { on := 0, ground := Go.Ground.phase }, { on := 1, ground := Go.Ground.phase }, { on := 2, ground := Go.Ground.phase }, { on := 3, ground := Go.Ground.phase }, { on := 4, ground := Go.Ground.phase }, { on := 5, ground := Go.Ground.phase }, { on := 6, ground := Go.Ground.phase }, { on := 7, ground := Go.Ground.phase }, { on := 8, ground := Go.Ground.phase }, { on := 9, ground := Go.Ground.phase }, { on := 10, ground := Go.Ground.textOnly Go.Departure.lateStores }, { on := 11, ground := Go.Ground.phase }], guard := none } : Oper)) rfl (fun K hK => ?_) AllReadyH.nil
              refine wp_store_row 42 (.tmp 7) (.tmp 29) rfl G17 xc rfl rfl 42 _ hG17.out HXs.out HXz.out HXo.out ?_
              have kG17 := setRow_heap _ _ _ xc _ _ hG17.out
              have hb := Lib.hid (below_setRow hb.out hpG17 xc)
              refine hK.out _ _ hb.out (fun _ => ?_)
              clear hK K
              try simp only [Act.put]
              refine wpAnyH_take (i := 13) (oi := ({ dst := some 8, op := Go.Op.assign (Go.Operand.tmp 30), type := 4, pos := "law.go:128", after := #[{ on := 10, ground := Go.Ground.data }, { on := 12, ground := Go.Ground.chain }, { on := 0, ground := Go.Ground.phase }, { on := 1, ground := Go.Ground.phase }, { on := 2, ground := Go.Ground.phase }, { on := 3, ground := Go.Ground.phase }, { on := 4, ground := Go.Ground.phase }, { on := 5, ground := Go.Ground.phase }, { on := 6, ground := Go.Ground.phase }, { on := 7, ground := Go.Ground.phase }, { on := 8, ground := Go.Ground.phase }, { on := 9, ground := Go.Ground.phase }, { on := 10, ground := Go.Ground.phase }, { on := 11, ground := Go.Ground.phase }, { on := 12, ground := Go.Ground.phase }], guard := none } : Oper)) (v := .bool true) rfl (by kernel_rfl) (by kernel_rfl) (by kernel_rfl) (fun _ _ _ h => h) (Or.inl ⟨by rfl, fun w' _ => ?_⟩) hb.out ?_
              · go_simp
              simp only [Act.put, List.setIfInBounds_toArray, List.set_cons_zero, List.set_cons_succ]
              refine wpAnyH_done (by kernel_rfl) ?_ _
              try (go_wp2_with fail)
              go_meet
              case rel => exact ⟨G17, rfl, rfl, Lib.hid ⟨hb.out, kG17⟩⟩
    · rw [if_pos (by kernel_rfl)]
      refine wp_buildSlice 22 42 1 _ rfl (ta ++ [Value.bool true, Value.bool false]).toArray i0 z Tryd.underlying22 HI.out HZ.out (by rw [HS.out]; decide) (by rw [HS.out]; decide) (by rw [HS.out, Array.toList_map]; exact HFill.out) ?_
      refine hK.out _ _ (hb.out.alloc hb.out.size _) (fun _ => ?_)
      clear hK K
      try simp only [Act.put, List.setIfInBounds_toArray, List.set_cons_zero, List.set_cons_succ]
      obtain ⟨hb2, hG23, hpG23, hlG23, hold⟩ := alloc_pack hb.out (.cells (ta ++ [Value.bool true, Value.bool false]).toArray 42)
      clear hold
      have hb := Lib.hid hb2
      clear hb2
      generalize World.alloc wn0 (.cells (ta ++ [Value.bool true, Value.bool false]).toArray 42) = wn22 at *
      generalize (wn0).heap.size = G23 at *
      have hG23 := Lib.hid hG23
      refine wpAnyH_ready (rs := [1, 11]) (by kernel_rfl) (by simp) ?_
      refine (AllReadyH.cons (o := ({ dst := some 22, op := Go.Op.call { callee := Go.Callee.builtin Go.Builtin.append, args := #[Go.Operand.const (Go.Value.slice none 0 0), Go.Operand.tmp 21], argTypes := #[22, 22] }, type := 22, pos := "law.go:128", after := #[{ on := 0, ground := Go.Ground.data }], guard := none } : Oper)) rfl (fun K hK => ?_) (AllReadyH.cons (o := ({ dst := some 7, op := Go.Op.alloc 42, type := 0, pos := "law.go:128", after := #[], guard := none } : Oper)) rfl (fun K hK => ?_) AllReadyH.nil))
      · rw [if_pos (by kernel_rfl)]
        obtain ⟨bs25, hbs25⟩ : ∃ b, b = (wn22).heap.size := ⟨_, rfl⟩
        refine wp_append_opt (w := wn22) (.const (.slice none 0 0)) (.tmp 21) 22 rfl bs25 42 i0 z 18 by0 Tryd.underlying22 HI.out HZ.out HS.out HBY.out HZC.out (by decide) (.slice none 0 0) 0 [] rfl (World.ownsRow_nil _ _ _ _) A ls.length cap (flatL ls) rfl HNil.out HFl.out (HNews.out _ hb.out) (flatL_one ls) (by unfold maxLen; omega) (by have := HB64.out; rw [Nat.zero_add]; exact Nat.le_trans (Nat.mul_le_mul (show ls.length ≤ 20 by omega) this) (by decide)) (by omega) ?_
        intro v1 wn24 ho1 hg1
        rw [List.nil_append, Nat.zero_add] at ho1
        obtain ⟨A1, c1, rfl⟩ := own_slL ho1
        have hbd : Below (wn22).heap.size (wn22) wn24 := ⟨hg1.os, hg1.tape, hg1.output, hg1.size, fun k hk => hg1.block k hk (by simp [Value.ownBlock])⟩
        have hbase : W0.heap.size ≤ bs25 := by rw [hbs25]; exact hb.out.size
        have hltG23 : G23 < bs25 := by rw [hbs25]; exact heap_lt hG23.out
        have hG23 := Lib.hid ((hbd.block _ (heap_lt hG23.out)).trans hG23.out)
        have hb := Lib.hid (hb.out.trans (hbd.mono hb.out.size))
        have hneG23 : ∀ k, (Value.slice A1 ls.length c1).ownBlock = some k → k ≠ G23 := fun k e => by have := (ho1.lt k e).1; omega
        have HBL := Lib.hid (show bs25 ≤ (wn24).heap.size by rw [hbs25]; exact hg1.size)
        have HO1 := Lib.hid ho1
        clear ho1 hg1 hbd hbs25
        refine hK.out _ _ hb.out (fun _ => ?_)
        clear hK K
        try simp only [Act.put, List.setIfInBounds_toArray, List.set_cons_zero, List.set_cons_succ]
        refine wpAnyH_ready (rs := [5, 11]) (by kernel_rfl) (by simp) ?_
        refine (AllReadyH.cons (o := ({ dst := some 26, op := Go.Op.call { callee := Go.Callee.builtin Go.Builtin.append, args := #[Go.Operand.tmp 22, Go.Operand.tmp 25], argTypes := #[22, 22] }, type := 22, pos := "law.go:128", after := #[{ on := 1, ground := Go.Ground.data }, { on := 4, ground := Go.Ground.data }, { on := 1, ground := Go.Ground.chain }], guard := none } : Oper)) rfl (fun K hK => ?_) (AllReadyH.cons (o := ({ dst := some 7, op := Go.Op.alloc 42, type := 0, pos := "law.go:128", after := #[], guard := none } : Oper)) rfl (fun K hK => ?_) AllReadyH.nil))
        · rw [if_pos (by kernel_rfl)]
          refine wp_append_own (w := wn24) (.tmp 22) (.tmp 25) 22 rfl bs25 42 i0 z 18 by0 Tryd.underlying22 HI.out HZ.out HS.out HBY.out HZC.out (by decide) (.slice A1 ls.length c1) ls.length (flatL ls) rfl HO1.out ⟨G23, 0, none⟩ 1 1 (ta ++ [Value.bool true, Value.bool false]) rfl HSl.out (fun j u hj => by rw [Addr.add_lit, Nat.zero_add, cell_of_row _ _ _ _ _ _ hG23.out]; simpa using hj) HSo.out (by unfold maxLen; omega) (by have := HB64.out; exact Nat.le_trans (Nat.mul_le_mul (show ls.length + 1 ≤ 21 by omega) this) (by decide)) HBL.out ?_
          intro v2 wn26 ho2 hg2 _
          rw [← HSC.out, flatL_snoc] at ho2
          have hb2 := hb.out.grown hg2 hb.out.size (fun k e => Nat.le_trans hbase (HO1.out.lt k e).1)
          have hb := Lib.hid hb2
          obtain ⟨A2, c2, hv2, hloc⟩ := own_locs HMem.out (show World.ownsRow _ _ _ _ _ (ls ++ [self]).length _ by rw [List.length_append]; exact ho2)
          rw [← HNN.out] at hv2
          subst hv2
          have HLoc := Lib.hid hloc
          clear ho2 hg2 hb2 hloc HO1 HBL hG23
          refine hK.out _ _ hb.out (fun _ => ?_)
          clear hK K
          try simp only [Act.put, List.setIfInBounds_toArray, List.set_cons_zero, List.set_cons_succ]
          refine wpAnyH_ready (rs := [7, 11]) (by kernel_rfl) (by simp) ?_
          refine (AllReadyH.cons (o := ({ dst := some 28, op := Go.Op.call { callee := Go.Callee.value (Go.Operand.func 17), args := #[Go.Operand.tmp 26, Go.Operand.tmp 27], argTypes := #[22, 27] }, type := 43, pos := "law.go:128", after := #[{ on := 5, ground := Go.Ground.data }, { on := 6, ground := Go.Ground.data }, { on := 5, ground := Go.Ground.chain }], guard := none } : Oper)) rfl (fun K hK => ?_) (AllReadyH.cons (o := ({ dst := some 7, op := Go.Op.alloc 42, type := 0, pos := "law.go:128", after := #[], guard := none } : Oper)) rfl (fun K hK => ?_) AllReadyH.nil))
          · go_simp
            go_at_call 17
            refine (KS.out _ hb.out A2 c2 HLoc.out).mono ?_
            rintro e' wn27 ⟨rfl, hbc⟩
            have hb := Lib.hid (hb.out.trans (hbc.mono hb.out.size))
            clear hbc HLoc
            refine hK.out _ _ hb.out (fun _ => ?_)
            clear hK K
            try simp only [Act.put, List.setIfInBounds_toArray, List.set_cons_zero, List.set_cons_succ]
            refine wpAnyH_take (i := 8) (oi := ({ dst := some 20, op := Go.Op.move (Go.Operand.tmp 28), type := 43, pos := "law.go:128", after := #[{ on := 7, ground := Go.Ground.data }], guard := none } : Oper)) (v := .tuple #[.agg xc, .bool true]) rfl (by kernel_rfl) (by kernel_rfl) (by kernel_rfl) (fun _ _ _ h => h) (Or.inl ⟨by rfl, fun w' _ => ?_⟩) hb.out ?_
            · go_simp
            simp only [Act.put, List.setIfInBounds_toArray, List.set_cons_zero, List.set_cons_succ]
            refine wpAnyH_take (i := 9) (oi := ({ dst := some 29, op := Go.Op.extract (Go.Operand.tmp 20) 0, type := 42, pos := "law.go:128", after := #[{ on := 8, ground := Go.Ground.data }], guard := none } : Oper)) (v := .agg xc) rfl (by kernel_rfl) (by kernel_rfl) (by kernel_rfl) (fun _ _ _ h => h) (Or.inl ⟨by rfl, fun w' _ => ?_⟩) hb.out ?_
            · go_simp
            simp only [Act.put, List.setIfInBounds_toArray, List.set_cons_zero, List.set_cons_succ]
            refine wpAnyH_take (i := 10) (oi := ({ dst := some 30, op := Go.Op.extract (Go.Operand.tmp 20) 1, type := 4, pos := "law.go:128", after := #[{ on := 8, ground := Go.Ground.data }, { on := 12, ground := Go.Ground.gcOnly Go.Departure.lateStores }], guard := none } : Oper)) (v := .bool true) rfl (by kernel_rfl) (by kernel_rfl) (by kernel_rfl) (fun _ _ _ h => h) (Or.inl ⟨by rfl, fun w' _ => ?_⟩) hb.out ?_
            · go_simp
            simp only [Act.put, List.setIfInBounds_toArray, List.set_cons_zero, List.set_cons_succ]
            refine wpAnyH_ready (rs := [11]) (by kernel_rfl) (by simp) ?_
            refine (AllReadyH.cons (o := ({ dst := some 7, op := Go.Op.alloc 42, type := 0, pos := "law.go:128", after := #[], guard := none } : Oper)) rfl (fun K hK => ?_) AllReadyH.nil)
            · rw [if_pos (by kernel_rfl)]
              refine wp_alloc_zz 42 rfl Z HZL.out ?_
              refine hK.out _ _ (hb.out.alloc hb.out.size _) (fun _ => ?_)
              clear hK K
              try simp only [Act.put, List.setIfInBounds_toArray, List.set_cons_zero, List.set_cons_succ]
              obtain ⟨hb2, hG29, hpG29, hlG29, hold⟩ := alloc_pack hb.out (.cells Z 42)
              clear hold
              have hb := Lib.hid hb2
              clear hb2
              generalize World.alloc wn27 (.cells Z 42) = wn28 at *
              generalize (wn27).heap.size = G29 at *
              have hG29 := Lib.hid hG29
              refine wpAnyH_ready (rs := [12]) (by kernel_rfl) (by simp) ?_
              refine AllReadyH.cons (o := ({ dst := none, op := Go.Op.store 42 (Go.Operand.tmp 7) (Go.Operand.tmp 29), type := 0, pos := "law.go:128", after := #[{ on := 11, ground := Go.Ground.data }, { on := 9, ground := Go.Ground.data }, { on := 7, ground := Go.Ground.chain }, { on := 0, ground := Go.Ground.phase }, { on := 1, ground := Go.Ground.phase }, { on := 2, ground := Go.Ground.phase }, { on := 3, ground := Go.Ground.phase }, { on := 4, ground := Go.Ground.phase }, { on := 5, ground := Go.Ground.phase }, { on := 6, ground := Go.Ground.phase }, { on := 7, ground := Go.Ground.phase }, { on := 8, ground := Go.Ground.phase }, { on := 9, ground := Go.Ground.phase }, { on := 10, ground := Go.Ground.textOnly Go.Departure.lateStores }, { on := 11, ground := Go.Ground.phase }], guard := none } : Oper)) rfl (fun K hK => ?_) AllReadyH.nil
              refine wp_store_row 42 (.tmp 7) (.tmp 29) rfl G29 xc rfl rfl 42 _ hG29.out HXs.out HXz.out HXo.out ?_
              have kG29 := setRow_heap _ _ _ xc _ _ hG29.out
              have hb := Lib.hid (below_setRow hb.out hpG29 xc)
              refine hK.out _ _ hb.out (fun _ => ?_)
              clear hK K
              try simp only [Act.put]
              refine wpAnyH_take (i := 13) (oi := ({ dst := some 8, op := Go.Op.assign (Go.Operand.tmp 30), type := 4, pos := "law.go:128", after := #[{ on := 10, ground := Go.Ground.data }, { on := 12, ground := Go.Ground.chain }, { on := 0, ground := Go.Ground.phase }, { on := 1, ground := Go.Ground.phase }, { on := 2, ground := Go.Ground.phase }, { on := 3, ground := Go.Ground.phase }, { on := 4, ground := Go.Ground.phase }, { on := 5, ground := Go.Ground.phase }, { on := 6, ground := Go.Ground.phase }, { on := 7, ground := Go.Ground.phase }, { on := 8, ground := Go.Ground.phase }, { on := 9, ground := Go.Ground.phase }, { on := 10, ground := Go.Ground.phase }, { on := 11, ground := Go.Ground.phase }, { on := 12, ground := Go.Ground.phase }], guard := none } : Oper)) (v := .bool true) rfl (by kernel_rfl) (by kernel_rfl) (by kernel_rfl) (fun _ _ _ h => h) (Or.inl ⟨by rfl, fun w' _ => ?_⟩) hb.out ?_
              · go_simp
              simp only [Act.put, List.setIfInBounds_toArray, List.set_cons_zero, List.set_cons_succ]
              refine wpAnyH_done (by kernel_rfl) ?_ _
              try (go_wp2_with fail)
              go_meet
              case rel => exact ⟨G29, rfl, rfl, Lib.hid ⟨hb.out, kG29⟩⟩
          · rw [if_pos (by kernel_rfl)]
            refine wp_alloc_zz 42 rfl Z HZL.out ?_
            refine hK.out _ _ (hb.out.alloc hb.out.size _) (fun _ => ?_)
            clear hK K
            try simp only [Act.put, List.setIfInBounds_toArray, List.set_cons_zero, List.set_cons_succ]
            obtain ⟨hb2, hG31, hpG31, hlG31, hold⟩ := alloc_pack hb.out (.cells Z 42)
            have HLoc := Lib.hid (show LocsAt _ A2 (ls ++ [self]) from RowsAt.below HLoc.out ((Below.refl _ (wn26)).alloc (Nat.le_refl _) (.cells Z 42)))
            clear hold
            have hb := Lib.hid hb2
            clear hb2
            generalize World.alloc wn26 (.cells Z 42) = wn30 at *
            generalize (wn26).heap.size = G31 at *
            have hG31 := Lib.hid hG31
            refine wpAnyH_ready (rs := [7]) (by kernel_rfl) (by simp) ?_
            refine (AllReadyH.cons (o := ({ dst := some 28, op := Go.Op.call { callee := Go.Callee.value (Go.Operand.func 17), args := #[Go.Operand.tmp 26, Go.Operand.tmp 27], argTypes := #[22, 27] }, type := 43, pos := "law.go:128", after := #[{ on := 5, ground := Go.Ground.data }, { on := 6, ground := Go.Ground.data }, { on := 5, ground := Go.Ground.chain }], guard := none } : Oper)) rfl (fun K hK => ?_) AllReadyH.nil)
            · go_simp
              go_at_call 17
              refine (KS.out _ hb.out A2 c2 HLoc.out).mono ?_
              rintro e' wn32 ⟨rfl, hbc⟩
              have hG31 := Lib.hid ((hbc.block _ (heap_lt hG31.out)).trans hG31.out)
              have hb := Lib.hid (hb.out.trans (hbc.mono hb.out.size))
              clear hbc HLoc
              refine hK.out _ _ hb.out (fun _ => ?_)
              clear hK K
              try simp only [Act.put, List.setIfInBounds_toArray, List.set_cons_zero, List.set_cons_succ]
              refine wpAnyH_take (i := 8) (oi := ({ dst := some 20, op := Go.Op.move (Go.Operand.tmp 28), type := 43, pos := "law.go:128", after := #[{ on := 7, ground := Go.Ground.data }], guard := none } : Oper)) (v := .tuple #[.agg xc, .bool true]) rfl (by kernel_rfl) (by kernel_rfl) (by kernel_rfl) (fun _ _ _ h => h) (Or.inl ⟨by rfl, fun w' _ => ?_⟩) hb.out ?_
              · go_simp
              simp only [Act.put, List.setIfInBounds_toArray, List.set_cons_zero, List.set_cons_succ]
              refine wpAnyH_take (i := 9) (oi := ({ dst := some 29, op := Go.Op.extract (Go.Operand.tmp 20) 0, type := 42, pos := "law.go:128", after := #[{ on := 8, ground := Go.Ground.data }], guard := none } : Oper)) (v := .agg xc) rfl (by kernel_rfl) (by kernel_rfl) (by kernel_rfl) (fun _ _ _ h => h) (Or.inl ⟨by rfl, fun w' _ => ?_⟩) hb.out ?_
              · go_simp
              simp only [Act.put, List.setIfInBounds_toArray, List.set_cons_zero, List.set_cons_succ]
              refine wpAnyH_take (i := 10) (oi := ({ dst := some 30, op := Go.Op.extract (Go.Operand.tmp 20) 1, type := 4, pos := "law.go:128", after := #[{ on := 8, ground := Go.Ground.data }, { on := 12, ground := Go.Ground.gcOnly Go.Departure.lateStores }], guard := none } : Oper)) (v := .bool true) rfl (by kernel_rfl) (by kernel_rfl) (by kernel_rfl) (fun _ _ _ h => h) (Or.inl ⟨by rfl, fun w' _ => ?_⟩) hb.out ?_
              · go_simp
              simp only [Act.put, List.setIfInBounds_toArray, List.set_cons_zero, List.set_cons_succ]
              refine wpAnyH_ready (rs := [12]) (by kernel_rfl) (by simp) ?_
              refine AllReadyH.cons (o := ({ dst := none, op := Go.Op.store 42 (Go.Operand.tmp 7) (Go.Operand.tmp 29), type := 0, pos := "law.go:128", after := #[{ on := 11, ground := Go.Ground.data }, { on := 9, ground := Go.Ground.data }, { on := 7, ground := Go.Ground.chain }, { on := 0, ground := Go.Ground.phase }, { on := 1, ground := Go.Ground.phase }, { on := 2, ground := Go.Ground.phase }, { on := 3, ground := Go.Ground.phase }, { on := 4, ground := Go.Ground.phase }, { on := 5, ground := Go.Ground.phase }, { on := 6, ground := Go.Ground.phase }, { on := 7, ground := Go.Ground.phase }, { on := 8, ground := Go.Ground.phase }, { on := 9, ground := Go.Ground.phase }, { on := 10, ground := Go.Ground.textOnly Go.Departure.lateStores }, { on := 11, ground := Go.Ground.phase }], guard := none } : Oper)) rfl (fun K hK => ?_) AllReadyH.nil
              refine wp_store_row 42 (.tmp 7) (.tmp 29) rfl G31 xc rfl rfl 42 _ hG31.out HXs.out HXz.out HXo.out ?_
              have kG31 := setRow_heap _ _ _ xc _ _ hG31.out
              have hb := Lib.hid (below_setRow hb.out hpG31 xc)
              refine hK.out _ _ hb.out (fun _ => ?_)
              clear hK K
              try simp only [Act.put]
              refine wpAnyH_take (i := 13) (oi := ({ dst := some 8, op := Go.Op.assign (Go.Operand.tmp 30), type := 4, pos := "law.go:128", after := #[{ on := 10, ground := Go.Ground.data }, { on := 12, ground := Go.Ground.chain }, { on := 0, ground := Go.Ground.phase }, { on := 1, ground := Go.Ground.phase }, { on := 2, ground := Go.Ground.phase }, { on := 3, ground := Go.Ground.phase }, { on := 4, ground := Go.Ground.phase }, { on := 5, ground := Go.Ground.phase }, { on := 6, ground := Go.Ground.phase }, { on := 7, ground := Go.Ground.phase }, { on := 8, ground := Go.Ground.phase }, { on := 9, ground := Go.Ground.phase }, { on := 10, ground := Go.Ground.phase }, { on := 11, ground := Go.Ground.phase }, { on := 12, ground := Go.Ground.phase }], guard := none } : Oper)) (v := .bool true) rfl (by kernel_rfl) (by kernel_rfl) (by kernel_rfl) (fun _ _ _ h => h) (Or.inl ⟨by rfl, fun w' _ => ?_⟩) hb.out ?_
              · go_simp
              simp only [Act.put, List.setIfInBounds_toArray, List.set_cons_zero, List.set_cons_succ]
              refine wpAnyH_done (by kernel_rfl) ?_ _
              try (go_wp2_with fail)
              go_meet
              case rel => exact ⟨G31, rfl, rfl, Lib.hid ⟨hb.out, kG31⟩⟩
        · rw [if_pos (by kernel_rfl)]
          refine wp_alloc_zz 42 rfl Z HZL.out ?_
          refine hK.out _ _ (hb.out.alloc hb.out.size _) (fun _ => ?_)
          clear hK K
          try simp only [Act.put, List.setIfInBounds_toArray, List.set_cons_zero, List.set_cons_succ]
          obtain ⟨hb2, hG34, hpG34, hlG34, hold⟩ := alloc_pack hb.out (.cells Z 42)
          obtain ⟨hG23x, hneG23G34⟩ := hold _ _ hG23.out
          have hG23 := Lib.hid hG23x
          clear hG23x
          have hneG34 : ∀ k, (Value.slice A1 ls.length c1).ownBlock = some k → k ≠ (wn24).heap.size := fun k e => by have := (HO1.out.lt k e).2; omega
          have HBM := Lib.hid (Nat.le_trans HBL.out (Nat.le_of_lt hlG34))
          clear HBL
          have HBL := HBM
          clear HBM
          have HO1 := Lib.hid (HO1.out.alloc (.cells Z 42))
          clear hold
          have hb := Lib.hid hb2
          clear hb2
          generalize World.alloc wn24 (.cells Z 42) = wn33 at *
          generalize (wn24).heap.size = G34 at *
          have hG34 := Lib.hid hG34
          refine wpAnyH_ready (rs := [5]) (by kernel_rfl) (by simp) ?_
          refine (AllReadyH.cons (o := ({ dst := some 26, op := Go.Op.call { callee := Go.Callee.builtin Go.Builtin.append, args := #[Go.Operand.tmp 22, Go.Operand.tmp 25], argTypes := #[22, 22] }, type := 22, pos := "law.go:128", after := #[{ on := 1, ground := Go.Ground.data }, { on := 4, ground := Go.Ground.data }, { on := 1, ground := Go.Ground.chain }], guard := none } : Oper)) rfl (fun K hK => ?_) AllReadyH.nil)
          · rw [if_pos (by kernel_rfl)]
            refine wp_append_own (w := wn33) (.tmp 22) (.tmp 25) 22 rfl bs25 42 i0 z 18 by0 Tryd.underlying22 HI.out HZ.out HS.out HBY.out HZC.out (by decide) (.slice A1 ls.length c1) ls.length (flatL ls) rfl HO1.out ⟨G23, 0, none⟩ 1 1 (ta ++ [Value.bool true, Value.bool false]) rfl HSl.out (fun j u hj => by rw [Addr.add_lit, Nat.zero_add, cell_of_row _ _ _ _ _ _ hG23.out]; simpa using hj) HSo.out (by unfold maxLen; omega) (by have := HB64.out; exact Nat.le_trans (Nat.mul_le_mul (show ls.length + 1 ≤ 21 by omega) this) (by decide)) HBL.out ?_
            intro v2 wn35 ho2 hg2 _
            rw [← HSC.out, flatL_snoc] at ho2
            have hb2 := hb.out.grown hg2 hb.out.size (fun k e => Nat.le_trans hbase (HO1.out.lt k e).1)
            have hG34 := Lib.hid ((hg2.block _ (heap_lt hG34.out) (fun e => hneG34 _ e.symm rfl)).trans hG34.out)
            have hb := Lib.hid hb2
            obtain ⟨A2, c2, hv2, hloc⟩ := own_locs HMem.out (show World.ownsRow _ _ _ _ _ (ls ++ [self]).length _ by rw [List.length_append]; exact ho2)
            rw [← HNN.out] at hv2
            subst hv2
            have HLoc := Lib.hid hloc
            clear ho2 hg2 hb2 hloc HO1 HBL hG23
            refine hK.out _ _ hb.out (fun _ => ?_)
            clear hK K
            try simp only [Act.put, List.setIfInBounds_toArray, List.set_cons_zero, List.set_cons_succ]
            refine wpAnyH_ready (rs := [7]) (by kernel_rfl) (by simp) ?_
            refine (AllReadyH.cons (o := ({ dst := some 28, op := Go.Op.call { callee := Go.Callee.value (Go.Operand.func 17), args := #[Go.Operand.tmp 26, Go.Operand.tmp 27], argTypes := #[22, 27] }, type := 43, pos := "law.go:128", after := #[{ on := 5, ground := Go.Ground.data }, { on := 6, ground := Go.Ground.data }, { on := 5, ground := Go.Ground.chain }], guard := none } : Oper)) rfl (fun K hK => ?_) AllReadyH.nil)
            · go_simp
              go_at_call 17
              refine (KS.out _ hb.out A2 c2 HLoc.out).mono ?_
              rintro e' wn36 ⟨rfl, hbc⟩
              have hG34 := Lib.hid ((hbc.block _ (heap_lt hG34.out)).trans hG34.out)
              have hb := Lib.hid (hb.out.trans (hbc.mono hb.out.size))
              clear hbc HLoc
              refine hK.out _ _ hb.out (fun _ => ?_)
              clear hK K
              try simp only [Act.put, List.setIfInBounds_toArray, List.set_cons_zero, List.set_cons_succ]
              refine wpAnyH_take (i := 8) (oi := ({ dst := some 20, op := Go.Op.move (Go.Operand.tmp 28), type := 43, pos := "law.go:128", after := #[{ on := 7, ground := Go.Ground.data }], guard := none } : Oper)) (v := .tuple #[.agg xc, .bool true]) rfl (by kernel_rfl) (by kernel_rfl) (by kernel_rfl) (fun _ _ _ h => h) (Or.inl ⟨by rfl, fun w' _ => ?_⟩) hb.out ?_
              · go_simp
              simp only [Act.put, List.setIfInBounds_toArray, List.set_cons_zero, List.set_cons_succ]
              refine wpAnyH_take (i := 9) (oi := ({ dst := some 29, op := Go.Op.extract (Go.Operand.tmp 20) 0, type := 42, pos := "law.go:128", after := #[{ on := 8, ground := Go.Ground.data }], guard := none } : Oper)) (v := .agg xc) rfl (by kernel_rfl) (by kernel_rfl) (by kernel_rfl) (fun _ _ _ h => h) (Or.inl ⟨by rfl, fun w' _ => ?_⟩) hb.out ?_
              · go_simp
              simp only [Act.put, List.setIfInBounds_toArray, List.set_cons_zero, List.set_cons_succ]
              refine wpAnyH_take (i := 10) (oi := ({ dst := some 30, op := Go.Op.extract (Go.Operand.tmp 20) 1, type := 4, pos := "law.go:128", after := #[{ on := 8, ground := Go.Ground.data }, { on := 12, ground := Go.Ground.gcOnly Go.Departure.lateStores }], guard := none } : Oper)) (v := .bool true) rfl (by kernel_rfl) (by kernel_rfl) (by kernel_rfl) (fun _ _ _ h => h) (Or.inl ⟨by rfl, fun w' _ => ?_⟩) hb.out ?_
              · go_simp
              simp only [Act.put, List.setIfInBounds_toArray, List.set_cons_zero, List.set_cons_succ]
              refine wpAnyH_ready (rs := [12]) (by kernel_rfl) (by simp) ?_
              refine AllReadyH.cons (o := ({ dst := none, op := Go.Op.store 42 (Go.Operand.tmp 7) (Go.Operand.tmp 29), type := 0, pos := "law.go:128", after := #[{ on := 11, ground := Go.Ground.data }, { on := 9, ground := Go.Ground.data }, { on := 7, ground := Go.Ground.chain }, { on := 0, ground := Go.Ground.phase }, { on := 1, ground := Go.Ground.phase }, { on := 2, ground := Go.Ground.phase }, { on := 3, ground := Go.Ground.phase }, { on := 4, ground := Go.Ground.phase }, { on := 5, ground := Go.Ground.phase }, { on := 6, ground := Go.Ground.phase }, { on := 7, ground := Go.Ground.phase }, { on := 8, ground := Go.Ground.phase }, { on := 9, ground := Go.Ground.phase }, { on := 10, ground := Go.Ground.textOnly Go.Departure.lateStores }, { on := 11, ground := Go.Ground.phase }], guard := none } : Oper)) rfl (fun K hK => ?_) AllReadyH.nil
              refine wp_store_row 42 (.tmp 7) (.tmp 29) rfl G34 xc rfl rfl 42 _ hG34.out HXs.out HXz.out HXo.out ?_
              have kG34 := setRow_heap _ _ _ xc _ _ hG34.out
              have hb := Lib.hid (below_setRow hb.out hpG34 xc)
              refine hK.out _ _ hb.out (fun _ => ?_)
              clear hK K
              try simp only [Act.put]
              refine wpAnyH_take (i := 13) (oi := ({ dst := some 8, op := Go.Op.assign (Go.Operand.tmp 30), type := 4, pos := "law.go:128", after := #[{ on := 10, ground := Go.Ground.data }, { on := 12, ground := Go.Ground.chain }, { on := 0, ground := Go.Ground.phase }, { on := 1, ground := Go.Ground.phase }, { on := 2, ground := Go.Ground.phase }, { on := 3, ground := Go.Ground.phase }, { on := 4, ground := Go.Ground.phase }, { on := 5, ground := Go.Ground.phase }, { on := 6, ground := Go.Ground.phase }, { on := 7, ground := Go.Ground.phase }, { on := 8, ground := Go.Ground.phase }, { on := 9, ground := Go.Ground.phase }, { on := 10, ground := Go.Ground.phase }, { on := 11, ground := Go.Ground.phase }, { on := 12, ground := Go.Ground.phase }], guard := none } : Oper)) (v := .bool true) rfl (by kernel_rfl) (by kernel_rfl) (by kernel_rfl) (fun _ _ _ h => h) (Or.inl ⟨by rfl, fun w' _ => ?_⟩) hb.out ?_
              · go_simp
              simp only [Act.put, List.setIfInBounds_toArray, List.set_cons_zero, List.set_cons_succ]
              refine wpAnyH_done (by kernel_rfl) ?_ _
              try (go_wp2_with fail)
              go_meet
              case rel => exact ⟨G34, rfl, rfl, Lib.hid ⟨hb.out, kG34⟩⟩
      · rw [if_pos (by kernel_rfl)]
        refine wp_alloc_zz 42 rfl Z HZL.out ?_
        refine hK.out _ _ (hb.out.alloc hb.out.size _) (fun _ => ?_)
        clear hK K
        try simp only [Act.put, List.setIfInBounds_toArray, List.set_cons_zero, List.set_cons_succ]
        obtain ⟨hb2, hG38, hpG38, hlG38, hold⟩ := alloc_pack hb.out (.cells Z 42)
        obtain ⟨hG23x, hneG23G38⟩ := hold _ _ hG23.out
        have hG23 := Lib.hid hG23x
        clear hG23x
        clear hold
        have hb := Lib.hid hb2
        clear hb2
        generalize World.alloc wn22 (.cells Z 42) = wn37 at *
        generalize (wn22).heap.size = G38 at *
        have hG38 := Lib.hid hG38
        refine wpAnyH_ready (rs := [1]) (by kernel_rfl) (by simp) ?_
        refine (AllReadyH.cons (o := ({ dst := some 22, op := Go.Op.call { callee := Go.Callee.builtin Go.Builtin.append, args := #[Go.Operand.const (Go.Value.slice none 0 0), Go.Operand.tmp 21], argTypes := #[22, 22] }, type := 22, pos := "law.go:128", after := #[{ on := 0, ground := Go.Ground.data }], guard := none } : Oper)) rfl (fun K hK => ?_) AllReadyH.nil)
        · rw [if_pos (by kernel_rfl)]
          obtain ⟨bs40, hbs40⟩ : ∃ b, b = (wn37).heap.size := ⟨_, rfl⟩
          refine wp_append_opt (w := wn37) (.const (.slice none 0 0)) (.tmp 21) 22 rfl bs40 42 i0 z 18 by0 Tryd.underlying22 HI.out HZ.out HS.out HBY.out HZC.out (by decide) (.slice none 0 0) 0 [] rfl (World.ownsRow_nil _ _ _ _) A ls.length cap (flatL ls) rfl HNil.out HFl.out (HNews.out _ hb.out) (flatL_one ls) (by unfold maxLen; omega) (by have := HB64.out; rw [Nat.zero_add]; exact Nat.le_trans (Nat.mul_le_mul (show ls.length ≤ 20 by omega) this) (by decide)) (by omega) ?_
          intro v1 wn39 ho1 hg1
          rw [List.nil_append, Nat.zero_add] at ho1
          obtain ⟨A1, c1, rfl⟩ := own_slL ho1
          have hbd : Below (wn37).heap.size (wn37) wn39 := ⟨hg1.os, hg1.tape, hg1.output, hg1.size, fun k hk => hg1.block k hk (by simp [Value.ownBlock])⟩
          have hbase : W0.heap.size ≤ bs40 := by rw [hbs40]; exact hb.out.size
          have hltG23 : G23 < bs40 := by rw [hbs40]; exact heap_lt hG23.out
          have hG23 := Lib.hid ((hbd.block _ (heap_lt hG23.out)).trans hG23.out)
          have hltG38 : G38 < bs40 := by rw [hbs40]; exact heap_lt hG38.out
          have hG38 := Lib.hid ((hbd.block _ (heap_lt hG38.out)).trans hG38.out)
          have hb := Lib.hid (hb.out.trans (hbd.mono hb.out.size))
          have hneG23 : ∀ k, (Value.slice A1 ls.length c1).ownBlock = some k → k ≠ G23 := fun k e => by have := (ho1.lt k e).1; omega
          have hneG38 : ∀ k, (Value.slice A1 ls.length c1).ownBlock = some k → k ≠ G38 := fun k e => by have := (ho1.lt k e).1; omega
          have HBL := Lib.hid (show bs40 ≤ (wn39).heap.size by rw [hbs40]; exact hg1.size)
          have HO1 := Lib.hid ho1
          clear ho1 hg1 hbd hbs40
          refine hK.out _ _ hb.out (fun _ => ?_)
          clear hK K
          try simp only [Act.put, List.setIfInBounds_toArray, List.set_cons_zero, List.set_cons_succ]
          refine wpAnyH_ready (rs := [5]) (by kernel_rfl) (by simp) ?_
          refine (AllReadyH.cons (o := ({ dst := some 26, op := Go.Op.call { callee := Go.Callee.builtin Go.Builtin.append, args := #[Go.Operand.tmp 22, Go.Operand.tmp 25], argTypes := #[22, 22] }, type := 22, pos := "law.go:128", after := #[{ on := 1, ground := Go.Ground.data }, { on := 4, ground := Go.Ground.data }, { on := 1, ground := Go.Ground.chain }], guard := none } : Oper)) rfl (fun K hK => ?_) AllReadyH.nil)
          · rw [if_pos (by kernel_rfl)]
            refine wp_append_own (w := wn39) (.tmp 22) (.tmp 25) 22 rfl bs40 42 i0 z 18 by0 Tryd.underlying22 HI.out HZ.out HS.out HBY.out HZC.out (by decide) (.slice A1 ls.length c1) ls.length (flatL ls) rfl HO1.out ⟨G23, 0, none⟩ 1 1 (ta ++ [Value.bool true, Value.bool false]) rfl HSl.out (fun j u hj => by rw [Addr.add_lit, Nat.zero_add, cell_of_row _ _ _ _ _ _ hG23.out]; simpa using hj) HSo.out (by unfold maxLen; omega) (by have := HB64.out; exact Nat.le_trans (Nat.mul_le_mul (show ls.length + 1 ≤ 21 by omega) this) (by decide)) HBL.out ?_
            intro v2 wn41 ho2 hg2 _
            rw [← HSC.out, flatL_snoc] at ho2
            have hb2 := hb.out.grown hg2 hb.out.size (fun k e => Nat.le_trans hbase (HO1.out.lt k e).1)
            have hG38 := Lib.hid ((hg2.block _ (heap_lt hG38.out) (fun e => hneG38 _ e.symm rfl)).trans hG38.out)
            have hb := Lib.hid hb2
            obtain ⟨A2, c2, hv2, hloc⟩ := own_locs HMem.out (show World.ownsRow _ _ _ _ _ (ls ++ [self]).length _ by rw [List.length_append]; exact ho2)
            rw [← HNN.out] at hv2
            subst hv2
            have HLoc := Lib.hid hloc
            clear ho2 hg2 hb2 hloc HO1 HBL hG23
            refine hK.out _ _ hb.out (fun _ => ?_)
            clear hK K
            try simp only [Act.put, List.setIfInBounds_toArray, List.set_cons_zero, List.set_cons_succ]
            refine wpAnyH_ready (rs := [7]) (by kernel_rfl) (by simp) ?_
            refine (AllReadyH.cons (o := ({ dst := some 28, op := Go.Op.call { callee := Go.Callee.value (Go.Operand.func 17), args := #[Go.Operand.tmp 26, Go.Operand.tmp 27], argTypes := #[22, 27] }, type := 43, pos := "law.go:128", after := #[{ on := 5, ground := Go.Ground.data }, { on := 6, ground := Go.Ground.data }, { on := 5, ground := Go.Ground.chain }], guard := none } : Oper)) rfl (fun K hK => ?_) AllReadyH.nil)
            · go_simp
              go_at_call 17
              refine (KS.out _ hb.out A2 c2 HLoc.out).mono ?_
              rintro e' wn42 ⟨rfl, hbc⟩
              have hG38 := Lib.hid ((hbc.block _ (heap_lt hG38.out)).trans hG38.out)
              have hb := Lib.hid (hb.out.trans (hbc.mono hb.out.size))
              clear hbc HLoc
              refine hK.out _ _ hb.out (fun _ => ?_)
              clear hK K
              try simp only [Act.put, List.setIfInBounds_toArray, List.set_cons_zero, List.set_cons_succ]
              refine wpAnyH_take (i := 8) (oi := ({ dst := some 20, op := Go.Op.move (Go.Operand.tmp 28), type := 43, pos := "law.go:128", after := #[{ on := 7, ground := Go.Ground.data }], guard := none } : Oper)) (v := .tuple #[.agg xc, .bool true]) rfl (by kernel_rfl) (by kernel_rfl) (by kernel_rfl) (fun _ _ _ h => h) (Or.inl ⟨by rfl, fun w' _ => ?_⟩) hb.out ?_
              · go_simp
              simp only [Act.put, List.setIfInBounds_toArray, List.set_cons_zero, List.set_cons_succ]
              refine wpAnyH_take (i := 9) (oi := ({ dst := some 29, op := Go.Op.extract (Go.Operand.tmp 20) 0, type := 42, pos := "law.go:128", after := #[{ on := 8, ground := Go.Ground.data }], guard := none } : Oper)) (v := .agg xc) rfl (by kernel_rfl) (by kernel_rfl) (by kernel_rfl) (fun _ _ _ h => h) (Or.inl ⟨by rfl, fun w' _ => ?_⟩) hb.out ?_
              · go_simp
              simp only [Act.put, List.setIfInBounds_toArray, List.set_cons_zero, List.set_cons_succ]
              refine wpAnyH_take (i := 10) (oi := ({ dst := some 30, op := Go.Op.extract (Go.Operand.tmp 20) 1, type := 4, pos := "law.go:128", after := #[{ on := 8, ground := Go.Ground.data }, { on := 12, ground := Go.Ground.gcOnly Go.Departure.lateStores }], guard := none } : Oper)) (v := .bool true) rfl (by kernel_rfl) (by kernel_rfl) (by kernel_rfl) (fun _ _ _ h => h) (Or.inl ⟨by rfl, fun w' _ => ?_⟩) hb.out ?_
              · go_simp
              simp only [Act.put, List.setIfInBounds_toArray, List.set_cons_zero, List.set_cons_succ]
              refine wpAnyH_ready (rs := [12]) (by kernel_rfl) (by simp) ?_
              refine AllReadyH.cons (o := ({ dst := none, op := Go.Op.store 42 (Go.Operand.tmp 7) (Go.Operand.tmp 29), type := 0, pos := "law.go:128", after := #[{ on := 11, ground := Go.Ground.data }, { on := 9, ground := Go.Ground.data }, { on := 7, ground := Go.Ground.chain }, { on := 0, ground := Go.Ground.phase }, { on := 1, ground := Go.Ground.phase }, { on := 2, ground := Go.Ground.phase }, { on := 3, ground := Go.Ground.phase }, { on := 4, ground := Go.Ground.phase }, { on := 5, ground := Go.Ground.phase }, { on := 6, ground := Go.Ground.phase }, { on := 7, ground := Go.Ground.phase }, { on := 8, ground := Go.Ground.phase }, { on := 9, ground := Go.Ground.phase }, { on := 10, ground := Go.Ground.textOnly Go.Departure.lateStores }, { on := 11, ground := Go.Ground.phase }], guard := none } : Oper)) rfl (fun K hK => ?_) AllReadyH.nil
              refine wp_store_row 42 (.tmp 7) (.tmp 29) rfl G38 xc rfl rfl 42 _ hG38.out HXs.out HXz.out HXo.out ?_
              have kG38 := setRow_heap _ _ _ xc _ _ hG38.out
              have hb := Lib.hid (below_setRow hb.out hpG38 xc)
              refine hK.out _ _ hb.out (fun _ => ?_)
              clear hK K
              try simp only [Act.put]
              refine wpAnyH_take (i := 13) (oi := ({ dst := some 8, op := Go.Op.assign (Go.Operand.tmp 30), type := 4, pos := "law.go:128", after := #[{ on := 10, ground := Go.Ground.data }, { on := 12, ground := Go.Ground.chain }, { on := 0, ground := Go.Ground.phase }, { on := 1, ground := Go.Ground.phase }, { on := 2, ground := Go.Ground.phase }, { on := 3, ground := Go.Ground.phase }, { on := 4, ground := Go.Ground.phase }, { on := 5, ground := Go.Ground.phase }, { on := 6, ground := Go.Ground.phase }, { on := 7, ground := Go.Ground.phase }, { on := 8, ground := Go.Ground.phase }, { on := 9, ground := Go.Ground.phase }, { on := 10, ground := Go.Ground.phase }, { on := 11, ground := Go.Ground.phase }, { on := 12, ground := Go.Ground.phase }], guard := none } : Oper)) (v := .bool true) rfl (by kernel_rfl) (by kernel_rfl) (by kernel_rfl) (fun _ _ _ h => h) (Or.inl ⟨by rfl, fun w' _ => ?_⟩) hb.out ?_
              · go_simp
              simp only [Act.put, List.setIfInBounds_toArray, List.set_cons_zero, List.set_cons_succ]
              refine wpAnyH_done (by kernel_rfl) ?_ _
              try (go_wp2_with fail)
              go_meet
              case rel => exact ⟨G38, rfl, rfl, Lib.hid ⟨hb.out, kG38⟩⟩
    · rw [if_pos (by kernel_rfl)]
      refine wp_alloc_zz 42 rfl Z HZL.out ?_
      refine hK.out _ _ (hb.out.alloc hb.out.size _) (fun _ => ?_)
      clear hK K
      try simp only [Act.put, List.setIfInBounds_toArray, List.set_cons_zero, List.set_cons_succ]
      obtain ⟨hb2, hG44, hpG44, hlG44, hold⟩ := alloc_pack hb.out (.cells Z 42)
      clear hold
      have hb := Lib.hid hb2
      clear hb2
      generalize World.alloc wn0 (.cells Z 42) = wn43 at *
      generalize (wn0).heap.size = G44 at *
      have hG44 := Lib.hid hG44
      refine wpAnyH_ready (rs := [1, 4]) (by kernel_rfl) (by simp) ?_
      refine (AllReadyH.cons (o := ({ dst := some 22, op := Go.Op.call { callee := Go.Callee.builtin Go.Builtin.append, args := #[Go.Operand.const (Go.Value.slice none 0 0), Go.Operand.tmp 21], argTypes := #[22, 22] }, type := 22, pos := "law.go:128", after := #[{ on := 0, ground := Go.Ground.data }], guard := none } : Oper)) rfl (fun K hK => ?_) (AllReadyH.cons (o := ({ dst := some 25, op := Go.Op.buildSlice 22 1 #[(0, Go.Operand.tmp 24)], type := 22, pos := "law.go:128", after := #[{ on := 3, ground := Go.Ground.data }], guard := none } : Oper)) rfl (fun K hK => ?_) AllReadyH.nil))
      · rw [if_pos (by kernel_rfl)]
        obtain ⟨bs46, hbs46⟩ : ∃ b, b = (wn43).heap.size := ⟨_, rfl⟩
        refine wp_append_opt (w := wn43) (.const (.slice none 0 0)) (.tmp 21) 22 rfl bs46 42 i0 z 18 by0 Tryd.underlying22 HI.out HZ.out HS.out HBY.out HZC.out (by decide) (.slice none 0 0) 0 [] rfl (World.ownsRow_nil _ _ _ _) A ls.length cap (flatL ls) rfl HNil.out HFl.out (HNews.out _ hb.out) (flatL_one ls) (by unfold maxLen; omega) (by have := HB64.out; rw [Nat.zero_add]; exact Nat.le_trans (Nat.mul_le_mul (show ls.length ≤ 20 by omega) this) (by decide)) (by omega) ?_
        intro v1 wn45 ho1 hg1
        rw [List.nil_append, Nat.zero_add] at ho1
        obtain ⟨A1, c1, rfl⟩ := own_slL ho1
        have hbd : Below (wn43).heap.size (wn43) wn45 := ⟨hg1.os, hg1.tape, hg1.output, hg1.size, fun k hk => hg1.block k hk (by simp [Value.ownBlock])⟩
        have hbase : W0.heap.size ≤ bs46 := by rw [hbs46]; exact hb.out.size
        have hltG44 : G44 < bs46 := by rw [hbs46]; exact heap_lt hG44.out
        have hG44 := Lib.hid ((hbd.block _ (heap_lt hG44.out)).trans hG44.out)
        have hb := Lib.hid (hb.out.trans (hbd.mono hb.out.size))
        have hneG44 : ∀ k, (Value.slice A1 ls.length c1).ownBlock = some k → k ≠ G44 := fun k e => by have := (ho1.lt k e).1; omega
        have HBL := Lib.hid (show bs46 ≤ (wn45).heap.size by rw [hbs46]; exact hg1.size)
        have HO1 := Lib.hid ho1
        clear ho1 hg1 hbd hbs46
        refine hK.out _ _ hb.out (fun _ => ?_)
        clear hK K
        try simp only [Act.put, List.setIfInBounds_toArray, List.set_cons_zero, List.set_cons_succ]
        refine wpAnyH_ready (rs := [4]) (by kernel_rfl) (by simp) ?_
        refine (AllReadyH.cons (o := ({ dst := some 25, op := Go.Op.buildSlice 22 1 #[(0, Go.Operand.tmp 24)], type := 22, pos := "law.go:128", after := #[{ on := 3, ground := Go.Ground.data }], guard := none } : Oper)) rfl (fun K hK => ?_) AllReadyH.nil)
        · rw [if_pos (by kernel_rfl)]
          refine wp_buildSlice 22 42 1 _ rfl (ta ++ [Value.bool true, Value.bool false]).toArray i0 z Tryd.underlying22 HI.out HZ.out (by rw [HS.out]; decide) (by rw [HS.out]; decide) (by rw [HS.out, Array.toList_map]; exact HFill.out) ?_
          refine hK.out _ _ (hb.out.alloc hb.out.size _) (fun _ => ?_)
          clear hK K
          try simp only [Act.put, List.setIfInBounds_toArray, List.set_cons_zero, List.set_cons_succ]
          obtain ⟨hb2, hG48, hpG48, hlG48, hold⟩ := alloc_pack hb.out (.cells (ta ++ [Value.bool true, Value.bool false]).toArray 42)
          obtain ⟨hG44x, hneG44G48⟩ := hold _ _ hG44.out
          have hG44 := Lib.hid hG44x
          clear hG44x
          have hneG48 : ∀ k, (Value.slice A1 ls.length c1).ownBlock = some k → k ≠ (wn45).heap.size := fun k e => by have := (HO1.out.lt k e).2; omega
          have HBM := Lib.hid (Nat.le_trans HBL.out (Nat.le_of_lt hlG48))
          clear HBL
          have HBL := HBM
          clear HBM
          have HO1 := Lib.hid (HO1.out.alloc (.cells (ta ++ [Value.bool true, Value.bool false]).toArray 42))
          clear hold
          have hb := Lib.hid hb2
          clear hb2
          generalize World.alloc wn45 (.cells (ta ++ [Value.bool true, Value.bool false]).toArray 42) = wn47 at *
          generalize (wn45).heap.size = G48 at *
          have hG48 := Lib.hid hG48
          refine wpAnyH_ready (rs := [5]) (by kernel_rfl) (by simp) ?_
          refine (AllReadyH.cons (o := ({ dst := some 26, op := Go.Op.call { callee := Go.Callee.builtin Go.Builtin.append, args := #[Go.Operand.tmp 22, Go.Operand.tmp 25], argTypes := #[22, 22] }, type := 22, pos := "law.go:128", after := #[{ on := 1, ground := Go.Ground.data }, { on := 4, ground := Go.Ground.data }, { on := 1, ground := Go.Ground.chain }], guard := none } : Oper)) rfl (fun K hK => ?_) AllReadyH.nil)
          · rw [if_pos (by kernel_rfl)]
            refine wp_append_own (w := wn47) (.tmp 22) (.tmp 25) 22 rfl bs46 42 i0 z 18 by0 Tryd.underlying22 HI.out HZ.out HS.out HBY.out HZC.out (by decide) (.slice A1 ls.length c1) ls.length (flatL ls) rfl HO1.out ⟨G48, 0, none⟩ 1 1 (ta ++ [Value.bool true, Value.bool false]) rfl HSl.out (fun j u hj => by rw [Addr.add_lit, Nat.zero_add, cell_of_row _ _ _ _ _ _ hG48.out]; simpa using hj) HSo.out (by unfold maxLen; omega) (by have := HB64.out; exact Nat.le_trans (Nat.mul_le_mul (show ls.length + 1 ≤ 21 by omega) this) (by decide)) HBL.out ?_
            intro v2 wn49 ho2 hg2 _
            rw [← HSC.out, flatL_snoc] at ho2
            have hb2 := hb.out.grown hg2 hb.out.size (fun k e => Nat.le_trans hbase (HO1.out.lt k e).1)
            have hG44 := Lib.hid ((hg2.block _ (heap_lt hG44.out) (fun e => hneG44 _ e.symm rfl)).trans hG44.out)
            have hb := Lib.hid hb2
            obtain ⟨A2, c2, hv2, hloc⟩ := own_locs HMem.out (show World.ownsRow _ _ _ _ _ (ls ++ [self]).length _ by rw [List.length_append]; exact ho2)
            rw [← HNN.out] at hv2
            subst hv2
            have HLoc := Lib.hid hloc
            clear ho2 hg2 hb2 hloc HO1 HBL hG48
            refine hK.out _ _ hb.out (fun _ => ?_)
            clear hK K
            try simp only [Act.put, List.setIfInBounds_toArray, List.set_cons_zero, List.set_cons_succ]
            refine wpAnyH_ready (rs := [7]) (by kernel_rfl) (by simp) ?_
            refine (AllReadyH.cons (o := ({ dst := some 28, op := Go.Op.call { callee := Go.Callee.value (Go.Operand.func 17), args := #[Go.Operand.tmp 26, Go.Operand.tmp 27], argTypes := #[22, 27] }, type := 43, pos := "law.go:128", after := #[{ on := 5, ground := Go.Ground.data }, { on := 6, ground := Go.Ground.data }, { on := 5, ground := Go.Ground.chain }], guard := none } : Oper)) rfl (fun K hK => ?_) AllReadyH.nil)
            · go_simp
              go_at_call 17
              refine (KS.out _ hb.out A2 c2 HLoc.out).mono ?_
              rintro e' wn50 ⟨rfl, hbc⟩
              have hG44 := Lib.hid ((hbc.block _ (heap_lt hG44.out)).trans hG44.out)
              have hb := Lib.hid (hb.out.trans (hbc.mono hb.out.size))
              clear hbc HLoc
              refine hK.out _ _ hb.out (fun _ => ?_)
              clear hK K
              try simp only [Act.put, List.setIfInBounds_toArray, List.set_cons_zero, List.set_cons_succ]
              refine wpAnyH_take (i := 8) (oi := ({ dst := some 20, op := Go.Op.move (Go.Operand.tmp 28), type := 43, pos := "law.go:128", after := #[{ on := 7, ground := Go.Ground.data }], guard := none } : Oper)) (v := .tuple #[.agg xc, .bool true]) rfl (by kernel_rfl) (by kernel_rfl) (by kernel_rfl) (fun _ _ _ h => h) (Or.inl ⟨by rfl, fun w' _ => ?_⟩) hb.out ?_
              · go_simp
              simp only [Act.put, List.setIfInBounds_toArray, List.set_cons_zero, List.set_cons_succ]
              refine wpAnyH_take (i := 9) (oi := ({ dst := some 29, op := Go.Op.extract (Go.Operand.tmp 20) 0, type := 42, pos := "law.go:128", after := #[{ on := 8, ground := Go.Ground.data }], guard := none } : Oper)) (v := .agg xc) rfl (by kernel_rfl) (by kernel_rfl) (by kernel_rfl) (fun _ _ _ h => h) (Or.inl ⟨by rfl, fun w' _ => ?_⟩) hb.out ?_
              · go_simp
              simp only [Act.put, List.setIfInBounds_toArray, List.set_cons_zero, List.set_cons_succ]
              refine wpAnyH_take (i := 10) (oi := ({ dst := some 30, op := Go.Op.extract (Go.Operand.tmp 20) 1, type := 4, pos := "law.go:128", after := #[{ on := 8, ground := Go.Ground.data }, { on := 12, ground := Go.Ground.gcOnly Go.Departure.lateStores }], guard := none } : Oper)) (v := .bool true) rfl (by kernel_rfl) (by kernel_rfl) (by kernel_rfl) (fun _ _ _ h => h) (Or.inl ⟨by rfl, fun w' _ => ?_⟩) hb.out ?_
              · go_simp
              simp only [Act.put, List.setIfInBounds_toArray, List.set_cons_zero, List.set_cons_succ]
              refine wpAnyH_ready (rs := [12]) (by kernel_rfl) (by simp) ?_
              refine AllReadyH.cons (o := ({ dst := none, op := Go.Op.store 42 (Go.Operand.tmp 7) (Go.Operand.tmp 29), type := 0, pos := "law.go:128", after := #[{ on := 11, ground := Go.Ground.data }, { on := 9, ground := Go.Ground.data }, { on := 7, ground := Go.Ground.chain }, { on := 0, ground := Go.Ground.phase }, { on := 1, ground := Go.Ground.phase }, { on := 2, ground := Go.Ground.phase }, { on := 3, ground := Go.Ground.phase }, { on := 4, ground := Go.Ground.phase }, { on := 5, ground := Go.Ground.phase }, { on := 6, ground := Go.Ground.phase }, { on := 7, ground := Go.Ground.phase }, { on := 8, ground := Go.Ground.phase }, { on := 9, ground := Go.Ground.phase }, { on := 10, ground := Go.Ground.textOnly Go.Departure.lateStores }, { on := 11, ground := Go.Ground.phase }], guard := none } : Oper)) rfl (fun K hK => ?_) AllReadyH.nil
              refine wp_store_row 42 (.tmp 7) (.tmp 29) rfl G44 xc rfl rfl 42 _ hG44.out HXs.out HXz.out HXo.out ?_
              have kG44 := setRow_heap _ _ _ xc _ _ hG44.out
              have hb := Lib.hid (below_setRow hb.out hpG44 xc)
              refine hK.out _ _ hb.out (fun _ => ?_)
              clear hK K
              try simp only [Act.put]
              refine wpAnyH_take (i := 13) (oi := ({ dst := some 8, op := Go.Op.assign (Go.Operand.tmp 30), type := 4, pos := "law.go:128", after := #[{ on := 10, ground := Go.Ground.data }, { on := 12, ground := Go.Ground.chain }, { on := 0, ground := Go.Ground.phase }, { on := 1, ground := Go.Ground.phase }, { on := 2, ground := Go.Ground.phase }, { on := 3, ground := Go.Ground.phase }, { on := 4, ground := Go.Ground.phase }, { on := 5, ground := Go.Ground.phase }, { on := 6, ground := Go.Ground.phase }, { on := 7, ground := Go.Ground.phase }, { on := 8, ground := Go.Ground.phase }, { on := 9, ground := Go.Ground.phase }, { on := 10, ground := Go.Ground.phase }, { on := 11, ground := Go.Ground.phase }, { on := 12, ground := Go.Ground.phase }], guard := none } : Oper)) (v := .bool true) rfl (by kernel_rfl) (by kernel_rfl) (by kernel_rfl) (fun _ _ _ h => h) (Or.inl ⟨by rfl, fun w' _ => ?_⟩) hb.out ?_
              · go_simp
              simp only [Act.put, List.setIfInBounds_toArray, List.set_cons_zero, List.set_cons_succ]
              refine wpAnyH_done (by kernel_rfl) ?_ _
              try (go_wp2_with fail)
              go_meet
              case rel => exact ⟨G44, rfl, rfl, Lib.hid ⟨hb.out, kG44⟩⟩
      · rw [if_pos (by kernel_rfl)]
        refine wp_buildSlice 22 42 1 _ rfl (ta ++ [Value.bool true, Value.bool false]).toArray i0 z Tryd.underlying22 HI.out HZ.out (by rw [HS.out]; decide) (by rw [HS.out]; decide) (by rw [HS.out, Array.toList_map]; exact HFill.out) ?_
        refine hK.out _ _ (hb.out.alloc hb.out.size _) (fun _ => ?_)
        clear hK K
        try simp only [Act.put, List.setIfInBounds_toArray, List.set_cons_zero, List.set_cons_succ]
        obtain ⟨hb2, hG52, hpG52, hlG52, hold⟩ := alloc_pack hb.out (.cells (ta ++ [Value.bool true, Value.bool false]).toArray 42)
        obtain ⟨hG44x, hneG44G52⟩ := hold _ _ hG44.out
        have hG44 := Lib.hid hG44x
        clear hG44x
        clear hold
        have hb := Lib.hid hb2
        clear hb2
        generalize World.alloc wn43 (.cells (ta ++ [Value.bool true, Value.bool false]).toArray 42) = wn51 at *
        generalize (wn43).heap.size = G52 at *
        have hG52 := Lib.hid hG52
        refine wpAnyH_ready (rs := [1]) (by kernel_rfl) (by simp) ?_
        refine (AllReadyH.cons (o := ({ dst := some 22, op := Go.Op.call { callee := Go.Callee.builtin Go.Builtin.append, args := #[Go.Operand.const (Go.Value.slice none 0 0), Go.Operand.tmp 21], argTypes := #[22, 22] }, type := 22, pos := "law.go:128", after := #[{ on := 0, ground := Go.Ground.data }], guard := none } : Oper)) rfl (fun K hK => ?_) AllReadyH.nil)
        · rw [if_pos (by kernel_rfl)]
          obtain ⟨bs54, hbs54⟩ : ∃ b, b = (wn51).heap.size := ⟨_, rfl⟩
          refine wp_append_opt (w := wn51) (.const (.slice none 0 0)) (.tmp 21) 22 rfl bs54 42 i0 z 18 by0 Tryd.underlying22 HI.out HZ.out HS.out HBY.out HZC.out (by decide) (.slice none 0 0) 0 [] rfl (World.ownsRow_nil _ _ _ _) A ls.length cap (flatL ls) rfl HNil.out HFl.out (HNews.out _ hb.out) (flatL_one ls) (by unfold maxLen; omega) (by have := HB64.out; rw [Nat.zero_add]; exact Nat.le_trans (Nat.mul_le_mul (show ls.length ≤ 20 by omega) this) (by decide)) (by omega) ?_
          intro v1 wn53 ho1 hg1
          rw [List.nil_append, Nat.zero_add] at ho1
          obtain ⟨A1, c1, rfl⟩ := own_slL ho1
          have hbd : Below (wn51).heap.size (wn51) wn53 := ⟨hg1.os, hg1.tape, hg1.output, hg1.size, fun k hk => hg1.block k hk (by simp [Value.ownBlock])⟩
          have hbase : W0.heap.size ≤ bs54 := by rw [hbs54]; exact hb.out.size
          have hltG52 : G52 < bs54 := by rw [hbs54]; exact heap_lt hG52.out
          have hG52 := Lib.hid ((hbd.block _ (heap_lt hG52.out)).trans hG52.out)
          have hltG44 : G44 < bs54 := by rw [hbs54]; exact heap_lt hG44.out
          have hG44 := Lib.hid ((hbd.block _ (heap_lt hG44.out)).trans hG44.out)
          have hb := Lib.hid (hb.out.trans (hbd.mono hb.out.size))
          have hneG52 : ∀ k, (Value.slice A1 ls.length c1).ownBlock = some k → k ≠ G52 := fun k e => by have := (ho1.lt k e).1; omega
          have hneG44 : ∀ k, (Value.slice A1 ls.length c1).ownBlock = some k → k ≠ G44 := fun k e => by have := (ho1.lt k e).1; omega
          have HBL := Lib.hid (show bs54 ≤ (wn53).heap.size by rw [hbs54]; exact hg1.size)
          have HO1 := Lib.hid ho1
          clear ho1 hg1 hbd hbs54
          refine hK.out _ _ hb.out (fun _ => ?_)
          clear hK K
          try simp only [Act.put, List.setIfInBounds_toArray, List.set_cons_zero, List.set_cons_succ]
          refine wpAnyH_ready (rs := [5]) (by kernel_rfl) (by simp) ?_
          refine (AllReadyH.cons (o := ({ dst := some 26, op := Go.Op.call { callee := Go.Callee.builtin Go.Builtin.append, args := #[Go.Operand.tmp 22, Go.Operand.tmp 25], argTypes := #[22, 22] }, type := 22, pos := "law.go:128", after := #[{ on := 1, ground := Go.Ground.data }, { on := 4, ground := Go.Ground.data }, { on := 1, ground := Go.Ground.chain }], guard := none } : Oper)) rfl (fun K hK => ?_) AllReadyH.nil)
          · rw [if_pos (by kernel_rfl)]
            refine wp_append_own (w := wn53) (.tmp 22) (.tmp 25) 22 rfl bs54 42 i0 z 18 by0 Tryd.underlying22 HI.out HZ.out HS.out HBY.out HZC.out (by decide) (.slice A1 ls.length c1) ls.length (flatL ls) rfl HO1.out ⟨G52, 0, none⟩ 1 1 (ta ++ [Value.bool true, Value.bool false]) rfl HSl.out (fun j u hj => by rw [Addr.add_lit, Nat.zero_add, cell_of_row _ _ _ _ _ _ hG52.out]; simpa using hj) HSo.out (by unfold maxLen; omega) (by have := HB64.out; exact Nat.le_trans (Nat.mul_le_mul (show ls.length + 1 ≤ 21 by omega) this) (by decide)) HBL.out ?_
            intro v2 wn55 ho2 hg2 _
            rw [← HSC.out, flatL_snoc] at ho2
            have hb2 := hb.out.grown hg2 hb.out.size (fun k e => Nat.le_trans hbase (HO1.out.lt k e).1)
            have hG44 := Lib.hid ((hg2.block _ (heap_lt hG44.out) (fun e => hneG44 _ e.symm rfl)).trans hG44.out)
            have hb := Lib.hid hb2
            obtain ⟨A2, c2, hv2, hloc⟩ := own_locs HMem.out (show World.ownsRow _ _ _ _ _ (ls ++ [self]).length _ by rw [List.length_append]; exact ho2)
            rw [← HNN.out] at hv2
            subst hv2
            have HLoc := Lib.hid hloc
            clear ho2 hg2 hb2 hloc HO1 HBL hG52
            refine hK.out _ _ hb.out (fun _ => ?_)
            clear hK K
            try simp only [Act.put, List.setIfInBounds_toArray, List.set_cons_zero, List.set_cons_succ]
            refine wpAnyH_ready (rs := [7]) (by kernel_rfl) (by simp) ?_
            refine (AllReadyH.cons (o := ({ dst := some 28, op := Go.Op.call { callee := Go.Callee.value (Go.Operand.func 17), args := #[Go.Operand.tmp 26, Go.Operand.tmp 27], argTypes := #[22, 27] }, type := 43, pos := "law.go:128", after := #[{ on := 5, ground := Go.Ground.data }, { on := 6, ground := Go.Ground.data }, { on := 5, ground := Go.Ground.chain }], guard := none } : Oper)) rfl (fun K hK => ?_) AllReadyH.nil)
            · go_simp
              go_at_call 17
              refine (KS.out _ hb.out A2 c2 HLoc.out).mono ?_
              rintro e' wn56 ⟨rfl, hbc⟩
              have hG44 := Lib.hid ((hbc.block _ (heap_lt hG44.out)).trans hG44.out)
              have hb := Lib.hid (hb.out.trans (hbc.mono hb.out.size))
              clear hbc HLoc
              refine hK.out _ _ hb.out (fun _ => ?_)
              clear hK K
              try simp only [Act.put, List.setIfInBounds_toArray, List.set_cons_zero, List.set_cons_succ]
              refine wpAnyH_take (i := 8) (oi := ({ dst := some 20, op := Go.Op.move (Go.Operand.tmp 28), type := 43, pos := "law.go:128", after := #[{ on := 7, ground := Go.Ground.data }], guard := none } : Oper)) (v := .tuple #[.agg xc, .bool true]) rfl (by kernel_rfl) (by kernel_rfl) (by kernel_rfl) (fun _ _ _ h => h) (Or.inl ⟨by rfl, fun w' _ => ?_⟩) hb.out ?_
              · go_simp
              simp only [Act.put, List.setIfInBounds_toArray, List.set_cons_zero, List.set_cons_succ]
              refine wpAnyH_take (i := 9) (oi := ({ dst := some 29, op := Go.Op.extract (Go.Operand.tmp 20) 0, type := 42, pos := "law.go:128", after := #[{ on := 8, ground := Go.Ground.data }], guard := none } : Oper)) (v := .agg xc) rfl (by kernel_rfl) (by kernel_rfl) (by kernel_rfl) (fun _ _ _ h => h) (Or.inl ⟨by rfl, fun w' _ => ?_⟩) hb.out ?_
              · go_simp
              simp only [Act.put, List.setIfInBounds_toArray, List.set_cons_zero, List.set_cons_succ]
              refine wpAnyH_take (i := 10) (oi := ({ dst := some 30, op := Go.Op.extract (Go.Operand.tmp 20) 1, type := 4, pos := "law.go:128", after := #[{ on := 8, ground := Go.Ground.data }, { on := 12, ground := Go.Ground.gcOnly Go.Departure.lateStores }], guard := none } : Oper)) (v := .bool true) rfl (by kernel_rfl) (by kernel_rfl) (by kernel_rfl) (fun _ _ _ h => h) (Or.inl ⟨by rfl, fun w' _ => ?_⟩) hb.out ?_
              · go_simp
              simp only [Act.put, List.setIfInBounds_toArray, List.set_cons_zero, List.set_cons_succ]
              refine wpAnyH_ready (rs := [12]) (by kernel_rfl) (by simp) ?_
              refine AllReadyH.cons (o := ({ dst := none, op := Go.Op.store 42 (Go.Operand.tmp 7) (Go.Operand.tmp 29), type := 0, pos := "law.go:128", after := #[{ on := 11, ground := Go.Ground.data }, { on := 9, ground := Go.Ground.data }, { on := 7, ground := Go.Ground.chain }, { on := 0, ground := Go.Ground.phase }, { on := 1, ground := Go.Ground.phase }, { on := 2, ground := Go.Ground.phase }, { on := 3, ground := Go.Ground.phase }, { on := 4, ground := Go.Ground.phase }, { on := 5, ground := Go.Ground.phase }, { on := 6, ground := Go.Ground.phase }, { on := 7, ground := Go.Ground.phase }, { on := 8, ground := Go.Ground.phase }, { on := 9, ground := Go.Ground.phase }, { on := 10, ground := Go.Ground.textOnly Go.Departure.lateStores }, { on := 11, ground := Go.Ground.phase }], guard := none } : Oper)) rfl (fun K hK => ?_) AllReadyH.nil
              refine wp_store_row 42 (.tmp 7) (.tmp 29) rfl G44 xc rfl rfl 42 _ hG44.out HXs.out HXz.out HXo.out ?_
              have kG44 := setRow_heap _ _ _ xc _ _ hG44.out
              have hb := Lib.hid (below_setRow hb.out hpG44 xc)
              refine hK.out _ _ hb.out (fun _ => ?_)
              clear hK K
              try simp only [Act.put]
              refine wpAnyH_take (i := 13) (oi := ({ dst := some 8, op := Go.Op.assign (Go.Operand.tmp 30), type := 4, pos := "law.go:128", after := #[{ on := 10, ground := Go.Ground.data }, { on := 12, ground := Go.Ground.chain }, { on := 0, ground := Go.Ground.phase }, { on := 1, ground := Go.Ground.phase }, { on := 2, ground := Go.Ground.phase }, { on := 3, ground := Go.Ground.phase }, { on := 4, ground := Go.Ground.phase }, { on := 5, ground := Go.Ground.phase }, { on := 6, ground := Go.Ground.phase }, { on := 7, ground := Go.Ground.phase }, { on := 8, ground := Go.Ground.phase }, { on := 9, ground := Go.Ground.phase }, { on := 10, ground := Go.Ground.phase }, { on := 11, ground := Go.Ground.phase }, { on := 12, ground := Go.Ground.phase }], guard := none } : Oper)) (v := .bool true) rfl (by kernel_rfl) (by kernel_rfl) (by kernel_rfl) (fun _ _ _ h => h) (Or.inl ⟨by rfl, fun w' _ => ?_⟩) hb.out ?_
              · go_simp
              simp only [Act.put, List.setIfInBounds_toArray, List.set_cons_zero, List.set_cons_succ]
              refine wpAnyH_done (by kernel_rfl) ?_ _
              try (go_wp2_with fail)
              go_meet
              case rel => exact ⟨G44, rfl, rfl, Lib.hid ⟨hb.out, kG44⟩⟩
  case rest =>
    obtain ⟨G, rfl, rfl, hcut⟩ := hcut
    have HB := Lib.hid hcut.out.1
    have CG := Lib.hid hcut.out.2
    clear hcut
    go_wp2_with (first | (refine wpList_load_agg rfl 27 (.tmp 4) rfl ⟨w.heap.size, 0, none⟩ rfl ta.toArray _ (LA.out _ HB.out) Tryd.underlying27 rfl HSaA.out ?_; go_simp))
    refine (SN.out _ HB.out).mono ?_
    rintro e wy ⟨rfl, hby⟩
    have hGy := (hby.block G (heap_lt CG.out)).trans CG.out
    have HB4 := Lib.hid (HB.out.trans (hby.mono HB.out.size))
    clear hby HB CG
    obtain ⟨w5, hw5⟩ : ∃ w5, w5 = wy.alloc (.cells lzc.toArray 42) := ⟨_, rfl⟩
    obtain ⟨H9, hH9⟩ : ∃ H9, H9 = wy.heap.size := ⟨_, rfl⟩
    obtain ⟨hb5, h9, _, _, hold⟩ := alloc_pack HB4.out (.cells lzc.toArray 42)
    have hg5 := (hold _ _ hGy).1
    rw [← hw5] at hb5 h9 hg5
    rw [← hH9] at h9
    have HB5 := Lib.hid hb5
    have C9 := Lib.hid h9
    have CG5 := Lib.hid hg5
    have HW5 := Lib.hid hw5
    have HH9 := Lib.hid hH9
    clear hb5 h9 hg5 hw5 hH9 hold hGy HB4
    go_upto_region 7 with (first
      | (refine wpList_alloc_z rfl 42 rfl lzc.toArray HZL9.out ?_; go_simp)
      | (refine wpList_store_new rfl 42 (.tmp 9) (.tmp 34) rfl wy.heap.size rfl lzc.toArray lzc.toArray 42 rfl rfl HLs.out rfl HLo.out ?_; go_simp))
    rw [← HW5.out, ← HH9.out]
    clear HW5 HH9
    have RA5 := Lib.hid (fun (W : World) (hb : Below w5.heap.size w5 W) => RA.out W (HB5.out.trans (hb.mono HB5.out.size)))
    have RB5 := Lib.hid (fun (W : World) (hb : Below w5.heap.size w5 W) => RB.out W (HB5.out.trans (hb.mono HB5.out.size)))
    have KA := Lib.hid (fun (W : World) (hb : Below w5.heap.size w5 W) => KNA.out W (HB5.out.trans (hb.mono HB5.out.size)))
    have KB := Lib.hid (fun (W : World) (hb : Below w5.heap.size w5 W) => KNB.out W (HB5.out.trans (hb.mono HB5.out.size)))
    go_cut [11, 12] from 36 to 39 (fun t11 t12 wx => ∃ P Q : Nat, t11 = .pointer (some ⟨P, 0, none⟩) ∧ t12 = .pointer (some ⟨Q, 0, none⟩) ∧ Hid (Below w5.heap.size w5 wx ∧ wx.heap[P]? = some (.cells kac.toArray 38 (0, 0)) ∧ wx.heap[Q]? = some (.cells kbc.toArray 38 (0, 0))))
    case first =>
      refine wp_region_held_drew (S := (fun W : World => Below w5.heap.size w5 W)) (by kernel_rfl) (Below.refl _ w5).drew (fun hHeld => ?_)
      generalize w5.drew = wm0 at *
      have hb := Lib.hid hHeld
      clear hHeld
      refine wpAnyH_take (i := 0) (oi := ({ dst := some 36, op := Go.Op.load 27 (Go.Operand.tmp 4), type := 27, pos := "law.go:130", after := #[], guard := none } : Oper)) (v := .agg (ta).toArray) rfl (by kernel_rfl) (by kernel_rfl) (by kernel_rfl) (fun _ _ _ h => h) (yieldsIf_load_mid (by rfl) _ _ rfl _ _ rfl _ _ (fun W h => RA5.out W h) hu rfl HSa.out) hb.out ?_
      simp only [Act.put, List.setIfInBounds_toArray, List.set_cons_zero, List.set_cons_succ]
      refine wpAnyH_take (i := 2) (oi := ({ dst := some 38, op := Go.Op.load 27 (Go.Operand.tmp 5), type := 27, pos := "law.go:130", after := #[], guard := none } : Oper)) (v := .agg (tb).toArray) rfl (by kernel_rfl) (by kernel_rfl) (by kernel_rfl) (fun _ _ _ h => h) (yieldsIf_load_mid (by rfl) _ _ rfl _ _ rfl _ _ (fun W h => RB5.out W h) hu rfl HSb.out) hb.out ?_
      simp only [Act.put, List.setIfInBounds_toArray, List.set_cons_zero, List.set_cons_succ]
      refine wpAnyH_ready (rs := [1, 4, 5]) (by kernel_rfl) (by simp) ?_
      refine (AllReadyH.cons (o := ({ dst := some 37, op := Go.Op.call { callee := Go.Callee.value (Go.Operand.func 16), args := #[Go.Operand.const (Go.Value.slice none 0 0), Go.Operand.tmp 36], argTypes := #[22, 27] }, type := 38, pos := "law.go:130", after := #[{ on := 0, ground := Go.Ground.data }], guard := none } : Oper)) rfl (fun K hK => ?_) (AllReadyH.cons (o := ({ dst := some 11, op := Go.Op.alloc 38, type := 0, pos := "law.go:130", after := #[], guard := none } : Oper)) rfl (fun K hK => ?_) (AllReadyH.cons (o := ({ dst := some 12, op := Go.Op.alloc 38, type := 0, pos := "law.go:130", after := #[], guard := none } : Oper)) rfl (fun K hK => ?_) AllReadyH.nil)))
      · go_simp
        go_at_call 16
        refine (KA.out _ hb.out).mono ?_
        rintro e' wn57 ⟨rfl, hbc⟩
        have hb := Lib.hid (hb.out.trans (hbc.mono hb.out.size))
        clear hbc
        refine hK.out _ _ hb.out (fun _ => ?_)
        clear hK K
        try simp only [Act.put, List.setIfInBounds_toArray, List.set_cons_zero, List.set_cons_succ]
        refine wpAnyH_ready (rs := [3, 4, 5]) (by kernel_rfl) (by simp) ?_
        refine (AllReadyH.cons (o := ({ dst := some 39, op := Go.Op.call { callee := Go.Callee.value (Go.Operand.func 16), args := #[Go.Operand.const (Go.Value.slice none 0 0), Go.Operand.tmp 38], argTypes := #[22, 27] }, type := 38, pos := "law.go:130", after := #[{ on := 2, ground := Go.Ground.data }, { on := 1, ground := Go.Ground.chain }], guard := none } : Oper)) rfl (fun K hK => ?_) (AllReadyH.cons (o := ({ dst := some 11, op := Go.Op.alloc 38, type := 0, pos := "law.go:130", after := #[], guard := none } : Oper)) rfl (fun K hK => ?_) (AllReadyH.cons (o := ({ dst := some 12, op := Go.Op.alloc 38, type := 0, pos := "law.go:130", after := #[], guard := none } : Oper)) rfl (fun K hK => ?_) AllReadyH.nil)))
        · go_simp
          go_at_call 16
          refine (KB.out _ hb.out).mono ?_
          rintro e' wn58 ⟨rfl, hbc⟩
          have hb := Lib.hid (hb.out.trans (hbc.mono hb.out.size))
          clear hbc
          refine hK.out _ _ hb.out (fun _ => ?_)
          clear hK K
          try simp only [Act.put, List.setIfInBounds_toArray, List.set_cons_zero, List.set_cons_succ]
          refine wpAnyH_ready (rs := [4, 5]) (by kernel_rfl) (by simp) ?_
          refine (AllReadyH.cons (o := ({ dst := some 11, op := Go.Op.alloc 38, type := 0, pos := "law.go:130", after := #[], guard := none } : Oper)) rfl (fun K hK => ?_) (AllReadyH.cons (o := ({ dst := some 12, op := Go.Op.alloc 38, type := 0, pos := "law.go:130", after := #[], guard := none } : Oper)) rfl (fun K hK => ?_) AllReadyH.nil))
          · go_simp
            refine hK.out _ _ (hb.out.alloc hb.out.size _) (fun _ => ?_)
            clear hK K
            try simp only [Act.put, List.setIfInBounds_toArray, List.set_cons_zero, List.set_cons_succ]
            obtain ⟨hb, hG60, hpG60, hlG60, hold⟩ := alloc_pack hb.out (.cells #[.int .i64 0, .int .i64 0, .int .i64 0, .int .i64 0, .int .i64 0, .int .i64 0, .int .i64 0, .int .i64 0] 38)
            clear hold
            generalize World.alloc wn58 (.cells #[.int .i64 0, .int .i64 0, .int .i64 0, .int .i64 0, .int .i64 0, .int .i64 0, .int .i64 0, .int .i64 0] 38) = wn59 at *
            generalize (wn58).heap.size = G60 at *
            have hb := Lib.hid hb
            have hG60 := Lib.hid hG60
            refine wpAnyH_ready (rs := [5]) (by kernel_rfl) (by simp) ?_
            refine (AllReadyH.cons (o := ({ dst := some 12, op := Go.Op.alloc 38, type := 0, pos := "law.go:130", after := #[], guard := none } : Oper)) rfl (fun K hK => ?_) AllReadyH.nil)
            · go_simp
              refine hK.out _ _ (hb.out.alloc hb.out.size _) (fun _ => ?_)
              clear hK K
              try simp only [Act.put, List.setIfInBounds_toArray, List.set_cons_zero, List.set_cons_succ]
              obtain ⟨hb, hG62, hpG62, hlG62, hold⟩ := alloc_pack hb.out (.cells #[.int .i64 0, .int .i64 0, .int .i64 0, .int .i64 0, .int .i64 0, .int .i64 0, .int .i64 0, .int .i64 0] 38)
              obtain ⟨hG60, hneG60G62⟩ := hold _ _ hG60.out
              have hG60 := Lib.hid hG60
              clear hold
              generalize World.alloc wn59 (.cells #[.int .i64 0, .int .i64 0, .int .i64 0, .int .i64 0, .int .i64 0, .int .i64 0, .int .i64 0, .int .i64 0] 38) = wn61 at *
              generalize (wn59).heap.size = G62 at *
              have hb := Lib.hid hb
              have hG62 := Lib.hid hG62
              refine wpAnyH_ready (rs := [6]) (by kernel_rfl) (by simp) ?_
              refine AllReadyH.cons (o := ({ dst := none, op := Go.Op.store 38 (Go.Operand.tmp 11) (Go.Operand.tmp 37), type := 0, pos := "law.go:130", after := #[{ on := 4, ground := Go.Ground.data }, { on := 1, ground := Go.Ground.data }, { on := 3, ground := Go.Ground.chain }, { on := 0, ground := Go.Ground.phase }, { on := 1, ground := Go.Ground.phase }, { on := 2, ground := Go.Ground.textOnly Go.Departure.lateStores }, { on := 3, ground := Go.Ground.textOnly Go.Departure.lateStoresUnsure }, { on := 4, ground := Go.Ground.phase }, { on := 5, ground := Go.Ground.phase }], guard := none } : Oper)) rfl (fun K hK => ?_) AllReadyH.nil
              have hab : G60 ≠ G62 := (fun e => hneG60G62 e)
              refine wp_store_row 38 (.tmp 11) (.tmp 37) rfl G60 kac.toArray rfl rfl 38 _ hG60.out HKa.out HKn.out HKao.out ?_
              have gG60 := setRow_heap _ _ _ kac.toArray _ _ hG60.out
              have gG62 := (setRow_other wn61 G60 G62 kac.toArray (fun e => hab e.symm)).trans hG62.out
              have hb := below_setRow hb.out hpG60 kac.toArray
              refine hK.out _ _ hb (fun _ => ?_)
              clear hK K
              try simp only [Act.put]
              generalize World.setRow wn61 G60 kac.toArray = wn63 at *
              refine wpAnyH_ready (rs := [7]) (by kernel_rfl) (by simp) ?_
              refine AllReadyH.cons (o := ({ dst := none, op := Go.Op.store 38 (Go.Operand.tmp 12) (Go.Operand.tmp 39), type := 0, pos := "law.go:130", after := #[{ on := 5, ground := Go.Ground.data }, { on := 3, ground := Go.Ground.data }, { on := 6, ground := Go.Ground.chain }, { on := 0, ground := Go.Ground.phase }, { on := 1, ground := Go.Ground.phase }, { on := 2, ground := Go.Ground.phase }, { on := 3, ground := Go.Ground.phase }, { on := 4, ground := Go.Ground.phase }, { on := 5, ground := Go.Ground.phase }, { on := 6, ground := Go.Ground.phase }], guard := none } : Oper)) rfl (fun K hK => ?_) AllReadyH.nil
              refine wp_store_row 38 (.tmp 12) (.tmp 39) rfl G62 kbc.toArray rfl rfl 38 _ gG62 HKb.out HKm.out HKbo.out ?_
              have kG62 := setRow_heap _ _ _ kbc.toArray _ _ gG62
              have kG60 := (setRow_other wn63 G62 G60 kbc.toArray hab).trans gG60
              have hb := below_setRow hb hpG62 kbc.toArray
              refine hK.out _ _ hb (fun _ => ?_)
              clear hK K
              try simp only [Act.put]
              refine wpAnyH_done (by kernel_rfl) ?_ _
              try (go_wp2_with fail)
              go_meet
              case rel => exact ⟨G60, G62, rfl, rfl, Lib.hid ⟨hb, kG60, kG62⟩⟩
          · go_simp
            refine hK.out _ _ (hb.out.alloc hb.out.size _) (fun _ => ?_)
            clear hK K
            try simp only [Act.put, List.setIfInBounds_toArray, List.set_cons_zero, List.set_cons_succ]
            obtain ⟨hb, hG65, hpG65, hlG65, hold⟩ := alloc_pack hb.out (.cells #[.int .i64 0, .int .i64 0, .int .i64 0, .int .i64 0, .int .i64 0, .int .i64 0, .int .i64 0, .int .i64 0] 38)
            clear hold
            generalize World.alloc wn58 (.cells #[.int .i64 0, .int .i64 0, .int .i64 0, .int .i64 0, .int .i64 0, .int .i64 0, .int .i64 0, .int .i64 0] 38) = wn64 at *
            generalize (wn58).heap.size = G65 at *
            have hb := Lib.hid hb
            have hG65 := Lib.hid hG65
            refine wpAnyH_ready (rs := [4]) (by kernel_rfl) (by simp) ?_
            refine (AllReadyH.cons (o := ({ dst := some 11, op := Go.Op.alloc 38, type := 0, pos := "law.go:130", after := #[], guard := none } : Oper)) rfl (fun K hK => ?_) AllReadyH.nil)
            · go_simp
              refine hK.out _ _ (hb.out.alloc hb.out.size _) (fun _ => ?_)
              clear hK K
              try simp only [Act.put, List.setIfInBounds_toArray, List.set_cons_zero, List.set_cons_succ]
              obtain ⟨hb, hG67, hpG67, hlG67, hold⟩ := alloc_pack hb.out (.cells #[.int .i64 0, .int .i64 0, .int .i64 0, .int .i64 0, .int .i64 0, .int .i64 0, .int .i64 0, .int .i64 0] 38)
              obtain ⟨hG65, hneG65G67⟩ := hold _ _ hG65.out
              have hG65 := Lib.hid hG65
              clear hold
              generalize World.alloc wn64 (.cells #[.int .i64 0, .int .i64 0, .int .i64 0, .int .i64 0, .int .i64 0, .int .i64 0, .int .i64 0, .int .i64 0] 38) = wn66 at *
              generalize (wn64).heap.size = G67 at *
              have hb := Lib.hid hb
              have hG67 := Lib.hid hG67
              refine wpAnyH_ready (rs := [6]) (by kernel_rfl) (by simp) ?_
              refine AllReadyH.cons (o := ({ dst := none, op := Go.Op.store 38 (Go.Operand.tmp 11) (Go.Operand.tmp 37), type := 0, pos := "law.go:130", after := #[{ on := 4, ground := Go.Ground.data }, { on := 1, ground := Go.Ground.data }, { on := 3, ground := Go.Ground.chain }, { on := 0, ground := Go.Ground.phase }, { on := 1, ground := Go.Ground.phase }, { on := 2, ground := Go.Ground.textOnly Go.Departure.lateStores }, { on := 3, ground := Go.Ground.textOnly Go.Departure.lateStoresUnsure }, { on := 4, ground := Go.Ground.phase }, { on := 5, ground := Go.Ground.phase }], guard := none } : Oper)) rfl (fun K hK => ?_) AllReadyH.nil
              have hab : G67 ≠ G65 := (fun e => hneG65G67 e.symm)
              refine wp_store_row 38 (.tmp 11) (.tmp 37) rfl G67 kac.toArray rfl rfl 38 _ hG67.out HKa.out HKn.out HKao.out ?_
              have gG67 := setRow_heap _ _ _ kac.toArray _ _ hG67.out
              have gG65 := (setRow_other wn66 G67 G65 kac.toArray (fun e => hab e.symm)).trans hG65.out
              have hb := below_setRow hb.out hpG67 kac.toArray
              refine hK.out _ _ hb (fun _ => ?_)
              clear hK K
              try simp only [Act.put]
              generalize World.setRow wn66 G67 kac.toArray = wn68 at *
              refine wpAnyH_ready (rs := [7]) (by kernel_rfl) (by simp) ?_
              refine AllReadyH.cons (o := ({ dst := none, op := Go.Op.store 38 (Go.Operand.tmp 12) (Go.Operand.tmp 39), type := 0, pos := "law.go:130", after := #[{ on := 5, ground := Go.Ground.data }, { on := 3, ground := Go.Ground.data }, { on := 6, ground := Go.Ground.chain }, { on := 0, ground := Go.Ground.phase }, { on := 1, ground := Go.Ground.phase }, { on := 2, ground := Go.Ground.phase }, { on := 3, ground := Go.Ground.phase }, { on := 4, ground := Go.Ground.phase }, { on := 5, ground := Go.Ground.phase }, { on := 6, ground := Go.Ground.phase }], guard := none } : Oper)) rfl (fun K hK => ?_) AllReadyH.nil
              refine wp_store_row 38 (.tmp 12) (.tmp 39) rfl G65 kbc.toArray rfl rfl 38 _ gG65 HKb.out HKm.out HKbo.out ?_
              have kG65 := setRow_heap _ _ _ kbc.toArray _ _ gG65
              have kG67 := (setRow_other wn68 G65 G67 kbc.toArray hab).trans gG67
              have hb := below_setRow hb hpG65 kbc.toArray
              refine hK.out _ _ hb (fun _ => ?_)
              clear hK K
              try simp only [Act.put]
              refine wpAnyH_done (by kernel_rfl) ?_ _
              try (go_wp2_with fail)
              go_meet
              case rel => exact ⟨G67, G65, rfl, rfl, Lib.hid ⟨hb, kG67, kG65⟩⟩
        · go_simp
          refine hK.out _ _ (hb.out.alloc hb.out.size _) (fun _ => ?_)
          clear hK K
          try simp only [Act.put, List.setIfInBounds_toArray, List.set_cons_zero, List.set_cons_succ]
          obtain ⟨hb, hG70, hpG70, hlG70, hold⟩ := alloc_pack hb.out (.cells #[.int .i64 0, .int .i64 0, .int .i64 0, .int .i64 0, .int .i64 0, .int .i64 0, .int .i64 0, .int .i64 0] 38)
          clear hold
          generalize World.alloc wn57 (.cells #[.int .i64 0, .int .i64 0, .int .i64 0, .int .i64 0, .int .i64 0, .int .i64 0, .int .i64 0, .int .i64 0] 38) = wn69 at *
          generalize (wn57).heap.size = G70 at *
          have hb := Lib.hid hb
          have hG70 := Lib.hid hG70
          refine wpAnyH_ready (rs := [3, 5]) (by kernel_rfl) (by simp) ?_
          refine (AllReadyH.cons (o := ({ dst := some 39, op := Go.Op.call { callee := Go.Callee.value (Go.Operand.func 16), args := #[Go.Operand.const (Go.Value.slice none 0 0), Go.Operand.tmp 38], argTypes := #[22, 27] }, type := 38, pos := "law.go:130", after := #[{ on := 2, ground := Go.Ground.data }, { on := 1, ground := Go.Ground.chain }], guard := none } : Oper)) rfl (fun K hK => ?_) (AllReadyH.cons (o := ({ dst := some 12, op := Go.Op.alloc 38, type := 0, pos := "law.go:130", after := #[], guard := none } : Oper)) rfl (fun K hK => ?_) AllReadyH.nil))
          · go_simp
            go_at_call 16
            refine (KB.out _ hb.out).mono ?_
            rintro e' wn71 ⟨rfl, hbc⟩
            have hG70 := Lib.hid ((hbc.block _ (heap_lt hG70.out)).trans hG70.out)
            have hb := Lib.hid (hb.out.trans (hbc.mono hb.out.size))
            clear hbc
            refine hK.out _ _ hb.out (fun _ => ?_)
            clear hK K
            try simp only [Act.put, List.setIfInBounds_toArray, List.set_cons_zero, List.set_cons_succ]
            refine wpAnyH_ready (rs := [5]) (by kernel_rfl) (by simp) ?_
            refine (AllReadyH.cons (o := ({ dst := some 12, op := Go.Op.alloc 38, type := 0, pos := "law.go:130", after := #[], guard := none } : Oper)) rfl (fun K hK => ?_) AllReadyH.nil)
            · go_simp
              refine hK.out _ _ (hb.out.alloc hb.out.size _) (fun _ => ?_)
              clear hK K
              try simp only [Act.put, List.setIfInBounds_toArray, List.set_cons_zero, List.set_cons_succ]
              obtain ⟨hb, hG73, hpG73, hlG73, hold⟩ := alloc_pack hb.out (.cells #[.int .i64 0, .int .i64 0, .int .i64 0, .int .i64 0, .int .i64 0, .int .i64 0, .int .i64 0, .int .i64 0] 38)
              obtain ⟨hG70, hneG70G73⟩ := hold _ _ hG70.out
              have hG70 := Lib.hid hG70
              clear hold
              generalize World.alloc wn71 (.cells #[.int .i64 0, .int .i64 0, .int .i64 0, .int .i64 0, .int .i64 0, .int .i64 0, .int .i64 0, .int .i64 0] 38) = wn72 at *
              generalize (wn71).heap.size = G73 at *
              have hb := Lib.hid hb
              have hG73 := Lib.hid hG73
              refine wpAnyH_ready (rs := [6]) (by kernel_rfl) (by simp) ?_
              refine AllReadyH.cons (o := ({ dst := none, op := Go.Op.store 38 (Go.Operand.tmp 11) (Go.Operand.tmp 37), type := 0, pos := "law.go:130", after := #[{ on := 4, ground := Go.Ground.data }, { on := 1, ground := Go.Ground.data }, { on := 3, ground := Go.Ground.chain }, { on := 0, ground := Go.Ground.phase }, { on := 1, ground := Go.Ground.phase }, { on := 2, ground := Go.Ground.textOnly Go.Departure.lateStores }, { on := 3, ground := Go.Ground.textOnly Go.Departure.lateStoresUnsure }, { on := 4, ground := Go.Ground.phase }, { on := 5, ground := Go.Ground.phase }], guard := none } : Oper)) rfl (fun K hK => ?_) AllReadyH.nil
              have hab : G70 ≠ G73 := (fun e => hneG70G73 e)
              refine wp_store_row 38 (.tmp 11) (.tmp 37) rfl G70 kac.toArray rfl rfl 38 _ hG70.out HKa.out HKn.out HKao.out ?_
              have gG70 := setRow_heap _ _ _ kac.toArray _ _ hG70.out
              have gG73 := (setRow_other wn72 G70 G73 kac.toArray (fun e => hab e.symm)).trans hG73.out
              have hb := below_setRow hb.out hpG70 kac.toArray
              refine hK.out _ _ hb (fun _ => ?_)
              clear hK K
              try simp only [Act.put]
              generalize World.setRow wn72 G70 kac.toArray = wn74 at *
              refine wpAnyH_ready (rs := [7]) (by kernel_rfl) (by simp) ?_
              refine AllReadyH.cons (o := ({ dst := none, op := Go.Op.store 38 (Go.Operand.tmp 12) (Go.Operand.tmp 39), type := 0, pos := "law.go:130", after := #[{ on := 5, ground := Go.Ground.data }, { on := 3, ground := Go.Ground.data }, { on := 6, ground := Go.Ground.chain }, { on := 0, ground := Go.Ground.phase }, { on := 1, ground := Go.Ground.phase }, { on := 2, ground := Go.Ground.phase }, { on := 3, ground := Go.Ground.phase }, { on := 4, ground := Go.Ground.phase }, { on := 5, ground := Go.Ground.phase }, { on := 6, ground := Go.Ground.phase }], guard := none } : Oper)) rfl (fun K hK => ?_) AllReadyH.nil
              refine wp_store_row 38 (.tmp 12) (.tmp 39) rfl G73 kbc.toArray rfl rfl 38 _ gG73 HKb.out HKm.out HKbo.out ?_
              have kG73 := setRow_heap _ _ _ kbc.toArray _ _ gG73
              have kG70 := (setRow_other wn74 G73 G70 kbc.toArray hab).trans gG70
              have hb := below_setRow hb hpG73 kbc.toArray
              refine hK.out _ _ hb (fun _ => ?_)
              clear hK K
              try simp only [Act.put]
              refine wpAnyH_done (by kernel_rfl) ?_ _
              try (go_wp2_with fail)
              go_meet
              case rel => exact ⟨G70, G73, rfl, rfl, Lib.hid ⟨hb, kG70, kG73⟩⟩
          · go_simp
            refine hK.out _ _ (hb.out.alloc hb.out.size _) (fun _ => ?_)
            clear hK K
            try simp only [Act.put, List.setIfInBounds_toArray, List.set_cons_zero, List.set_cons_succ]
            obtain ⟨hb, hG76, hpG76, hlG76, hold⟩ := alloc_pack hb.out (.cells #[.int .i64 0, .int .i64 0, .int .i64 0, .int .i64 0, .int .i64 0, .int .i64 0, .int .i64 0, .int .i64 0] 38)
            obtain ⟨hG70, hneG70G76⟩ := hold _ _ hG70.out
            have hG70 := Lib.hid hG70
            clear hold
            generalize World.alloc wn69 (.cells #[.int .i64 0, .int .i64 0, .int .i64 0, .int .i64 0, .int .i64 0, .int .i64 0, .int .i64 0, .int .i64 0] 38) = wn75 at *
            generalize (wn69).heap.size = G76 at *
            have hb := Lib.hid hb
            have hG76 := Lib.hid hG76
            refine wpAnyH_ready (rs := [3]) (by kernel_rfl) (by simp) ?_
            refine (AllReadyH.cons (o := ({ dst := some 39, op := Go.Op.call { callee := Go.Callee.value (Go.Operand.func 16), args := #[Go.Operand.const (Go.Value.slice none 0 0), Go.Operand.tmp 38], argTypes := #[22, 27] }, type := 38, pos := "law.go:130", after := #[{ on := 2, ground := Go.Ground.data }, { on := 1, ground := Go.Ground.chain }], guard := none } : Oper)) rfl (fun K hK => ?_) AllReadyH.nil)
            · go_simp
              go_at_call 16
              refine (KB.out _ hb.out).mono ?_
              rintro e' wn77 ⟨rfl, hbc⟩
              have hG70 := Lib.hid ((hbc.block _ (heap_lt hG70.out)).trans hG70.out)
              have hG76 := Lib.hid ((hbc.block _ (heap_lt hG76.out)).trans hG76.out)
              have hb := Lib.hid (hb.out.trans (hbc.mono hb.out.size))
              clear hbc
              refine hK.out _ _ hb.out (fun _ => ?_)
              clear hK K
              try simp only [Act.put, List.setIfInBounds_toArray, List.set_cons_zero, List.set_cons_succ]
              refine wpAnyH_ready (rs := [6]) (by kernel_rfl) (by simp) ?_
              refine AllReadyH.cons (o := ({ dst := none, op := Go.Op.store 38 (Go.Operand.tmp 11) (Go.Operand.tmp 37), type := 0, pos := "law.go:130", after := #[{ on := 4, ground := Go.Ground.data }, { on := 1, ground := Go.Ground.data }, { on := 3, ground := Go.Ground.chain }, { on := 0, ground := Go.Ground.phase }, { on := 1, ground := Go.Ground.phase }, { on := 2, ground := Go.Ground.textOnly Go.Departure.lateStores }, { on := 3, ground := Go.Ground.textOnly Go.Departure.lateStoresUnsure }, { on := 4, ground := Go.Ground.phase }, { on := 5, ground := Go.Ground.phase }], guard := none } : Oper)) rfl (fun K hK => ?_) AllReadyH.nil
              have hab : G70 ≠ G76 := (fun e => hneG70G76 e)
              refine wp_store_row 38 (.tmp 11) (.tmp 37) rfl G70 kac.toArray rfl rfl 38 _ hG70.out HKa.out HKn.out HKao.out ?_
              have gG70 := setRow_heap _ _ _ kac.toArray _ _ hG70.out
              have gG76 := (setRow_other wn77 G70 G76 kac.toArray (fun e => hab e.symm)).trans hG76.out
              have hb := below_setRow hb.out hpG70 kac.toArray
              refine hK.out _ _ hb (fun _ => ?_)
              clear hK K
              try simp only [Act.put]
              generalize World.setRow wn77 G70 kac.toArray = wn78 at *
              refine wpAnyH_ready (rs := [7]) (by kernel_rfl) (by simp) ?_
              refine AllReadyH.cons (o := ({ dst := none, op := Go.Op.store 38 (Go.Operand.tmp 12) (Go.Operand.tmp 39), type := 0, pos := "law.go:130", after := #[{ on := 5, ground := Go.Ground.data }, { on := 3, ground := Go.Ground.data }, { on := 6, ground := Go.Ground.chain }, { on := 0, ground := Go.Ground.phase }, { on := 1, ground := Go.Ground.phase }, { on := 2, ground := Go.Ground.phase }, { on := 3, ground := Go.Ground.phase }, { on := 4, ground := Go.Ground.phase }, { on := 5, ground := Go.Ground.phase }, { on := 6, ground := Go.Ground.phase }], guard := none } : Oper)) rfl (fun K hK => ?_) AllReadyH.nil
              refine wp_store_row 38 (.tmp 12) (.tmp 39) rfl G76 kbc.toArray rfl rfl 38 _ gG76 HKb.out HKm.out HKbo.out ?_
              have kG76 := setRow_heap _ _ _ kbc.toArray _ _ gG76
              have kG70 := (setRow_other wn78 G76 G70 kbc.toArray hab).trans gG70
              have hb := below_setRow hb hpG76 kbc.toArray
              refine hK.out _ _ hb (fun _ => ?_)
              clear hK K
              try simp only [Act.put]
              refine wpAnyH_done (by kernel_rfl) ?_ _
              try (go_wp2_with fail)
              go_meet
              case rel => exact ⟨G70, G76, rfl, rfl, Lib.hid ⟨hb, kG70, kG76⟩⟩
        · go_simp
          refine hK.out _ _ (hb.out.alloc hb.out.size _) (fun _ => ?_)
          clear hK K
          try simp only [Act.put, List.setIfInBounds_toArray, List.set_cons_zero, List.set_cons_succ]
          obtain ⟨hb, hG80, hpG80, hlG80, hold⟩ := alloc_pack hb.out (.cells #[.int .i64 0, .int .i64 0, .int .i64 0, .int .i64 0, .int .i64 0, .int .i64 0, .int .i64 0, .int .i64 0] 38)
          clear hold
          generalize World.alloc wn57 (.cells #[.int .i64 0, .int .i64 0, .int .i64 0, .int .i64 0, .int .i64 0, .int .i64 0, .int .i64 0, .int .i64 0] 38) = wn79 at *
          generalize (wn57).heap.size = G80 at *
          have hb := Lib.hid hb
          have hG80 := Lib.hid hG80
          refine wpAnyH_ready (rs := [3, 4]) (by kernel_rfl) (by simp) ?_
          refine (AllReadyH.cons (o := ({ dst := some 39, op := Go.Op.call { callee := Go.Callee.value (Go.Operand.func 16), args := #[Go.Operand.const (Go.Value.slice none 0 0), Go.Operand.tmp 38], argTypes := #[22, 27] }, type := 38, pos := "law.go:130", after := #[{ on := 2, ground := Go.Ground.data }, { on := 1, ground := Go.Ground.chain }], guard := none } : Oper)) rfl (fun K hK => ?_) (AllReadyH.cons (o := ({ dst := some 11, op := Go.Op.alloc 38, type := 0, pos := "law.go:130", after := #[], guard := none } : Oper)) rfl (fun K hK => ?_) AllReadyH.nil))
          · go_simp
            go_at_call 16
            refine (KB.out _ hb.out).mono ?_
            rintro e' wn81 ⟨rfl, hbc⟩
            have hG80 := Lib.hid ((hbc.block _ (heap_lt hG80.out)).trans hG80.out)
            have hb := Lib.hid (hb.out.trans (hbc.mono hb.out.size))
            clear hbc
            refine hK.out _ _ hb.out (fun _ => ?_)
            clear hK K
            try simp only [Act.put, List.setIfInBounds_toArray, List.set_cons_zero, List.set_cons_succ]
            refine wpAnyH_ready (rs := [4]) (by kernel_rfl) (by simp) ?_
            refine (AllReadyH.cons (o := ({ dst := some 11, op := Go.Op.alloc 38, type := 0, pos := "law.go:130", after := #[], guard := none } : Oper)) rfl (fun K hK => ?_) AllReadyH.nil)
            · go_simp
              refine hK.out _ _ (hb.out.alloc hb.out.size _) (fun _ => ?_)
              clear hK K
              try simp only [Act.put, List.setIfInBounds_toArray, List.set_cons_zero, List.set_cons_succ]
              obtain ⟨hb, hG83, hpG83, hlG83, hold⟩ := alloc_pack hb.out (.cells #[.int .i64 0, .int .i64 0, .int .i64 0, .int .i64 0, .int .i64 0, .int .i64 0, .int .i64 0, .int .i64 0] 38)
              obtain ⟨hG80, hneG80G83⟩ := hold _ _ hG80.out
              have hG80 := Lib.hid hG80
              clear hold
              generalize World.alloc wn81 (.cells #[.int .i64 0, .int .i64 0, .int .i64 0, .int .i64 0, .int .i64 0, .int .i64 0, .int .i64 0, .int .i64 0] 38) = wn82 at *
              generalize (wn81).heap.size = G83 at *
              have hb := Lib.hid hb
              have hG83 := Lib.hid hG83
              refine wpAnyH_ready (rs := [6]) (by kernel_rfl) (by simp) ?_
              refine AllReadyH.cons (o := ({ dst := none, op := Go.Op.store 38 (Go.Operand.tmp 11) (Go.Operand.tmp 37), type := 0, pos := "law.go:130", after := #[{ on := 4, ground := Go.Ground.data }, { on := 1, ground := Go.Ground.data }, { on := 3, ground := Go.Ground.chain }, { on := 0, ground := Go.Ground.phase }, { on := 1, ground := Go.Ground.phase }, { on := 2, ground := Go.Ground.textOnly Go.Departure.lateStores }, { on := 3, ground := Go.Ground.textOnly Go.Departure.lateStoresUnsure }, { on := 4, ground := Go.Ground.phase }, { on := 5, ground := Go.Ground.phase }], guard := none } : Oper)) rfl (fun K hK => ?_) AllReadyH.nil
              have hab : G83 ≠ G80 := (fun e => hneG80G83 e.symm)
              refine wp_store_row 38 (.tmp 11) (.tmp 37) rfl G83 kac.toArray rfl rfl 38 _ hG83.out HKa.out HKn.out HKao.out ?_
              have gG83 := setRow_heap _ _ _ kac.toArray _ _ hG83.out
              have gG80 := (setRow_other wn82 G83 G80 kac.toArray (fun e => hab e.symm)).trans hG80.out
              have hb := below_setRow hb.out hpG83 kac.toArray
              refine hK.out _ _ hb (fun _ => ?_)
              clear hK K
              try simp only [Act.put]
              generalize World.setRow wn82 G83 kac.toArray = wn84 at *
              refine wpAnyH_ready (rs := [7]) (by kernel_rfl) (by simp) ?_
              refine AllReadyH.cons (o := ({ dst := none, op := Go.Op.store 38 (Go.Operand.tmp 12) (Go.Operand.tmp 39), type := 0, pos := "law.go:130", after := #[{ on := 5, ground := Go.Ground.data }, { on := 3, ground := Go.Ground.data }, { on := 6, ground := Go.Ground.chain }, { on := 0, ground := Go.Ground.phase }, { on := 1, ground := Go.Ground.phase }, { on := 2, ground := Go.Ground.phase }, { on := 3, ground := Go.Ground.phase }, { on := 4, ground := Go.Ground.phase }, { on := 5, ground := Go.Ground.phase }, { on := 6, ground := Go.Ground.phase }], guard := none } : Oper)) rfl (fun K hK => ?_) AllReadyH.nil
              refine wp_store_row 38 (.tmp 12) (.tmp 39) rfl G80 kbc.toArray rfl rfl 38 _ gG80 HKb.out HKm.out HKbo.out ?_
              have kG80 := setRow_heap _ _ _ kbc.toArray _ _ gG80
              have kG83 := (setRow_other wn84 G80 G83 kbc.toArray hab).trans gG83
              have hb := below_setRow hb hpG80 kbc.toArray
              refine hK.out _ _ hb (fun _ => ?_)
              clear hK K
              try simp only [Act.put]
              refine wpAnyH_done (by kernel_rfl) ?_ _
              try (go_wp2_with fail)
              go_meet
              case rel => exact ⟨G83, G80, rfl, rfl, Lib.hid ⟨hb, kG83, kG80⟩⟩
          · go_simp
            refine hK.out _ _ (hb.out.alloc hb.out.size _) (fun _ => ?_)
            clear hK K
            try simp only [Act.put, List.setIfInBounds_toArray, List.set_cons_zero, List.set_cons_succ]
            obtain ⟨hb, hG86, hpG86, hlG86, hold⟩ := alloc_pack hb.out (.cells #[.int .i64 0, .int .i64 0, .int .i64 0, .int .i64 0, .int .i64 0, .int .i64 0, .int .i64 0, .int .i64 0] 38)
            obtain ⟨hG80, hneG80G86⟩ := hold _ _ hG80.out
            have hG80 := Lib.hid hG80
            clear hold
            generalize World.alloc wn79 (.cells #[.int .i64 0, .int .i64 0, .int .i64 0, .int .i64 0, .int .i64 0, .int .i64 0, .int .i64 0, .int .i64 0] 38) = wn85 at *
            generalize (wn79).heap.size = G86 at *
            have hb := Lib.hid hb
            have hG86 := Lib.hid hG86
            refine wpAnyH_ready (rs := [3]) (by kernel_rfl) (by simp) ?_
            refine (AllReadyH.cons (o := ({ dst := some 39, op := Go.Op.call { callee := Go.Callee.value (Go.Operand.func 16), args := #[Go.Operand.const (Go.Value.slice none 0 0), Go.Operand.tmp 38], argTypes := #[22, 27] }, type := 38, pos := "law.go:130", after := #[{ on := 2, ground := Go.Ground.data }, { on := 1, ground := Go.Ground.chain }], guard := none } : Oper)) rfl (fun K hK => ?_) AllReadyH.nil)
            · go_simp
              go_at_call 16
              refine (KB.out _ hb.out).mono ?_
              rintro e' wn87 ⟨rfl, hbc⟩
              have hG86 := Lib.hid ((hbc.block _ (heap_lt hG86.out)).trans hG86.out)
              have hG80 := Lib.hid ((hbc.block _ (heap_lt hG80.out)).trans hG80.out)
              have hb := Lib.hid (hb.out.trans (hbc.mono hb.out.size))
              clear hbc
              refine hK.out _ _ hb.out (fun _ => ?_)
              clear hK K
              try simp only [Act.put, List.setIfInBounds_toArray, List.set_cons_zero, List.set_cons_succ]
              refine wpAnyH_ready (rs := [6]) (by kernel_rfl) (by simp) ?_
              refine AllReadyH.cons (o := ({ dst := none, op := Go.Op.store 38 (Go.Operand.tmp 11) (Go.Operand.tmp 37), type := 0, pos := "law.go:130", after := #[{ on := 4, ground := Go.Ground.data }, { on := 1, ground := Go.Ground.data }, { on := 3, ground := Go.Ground.chain }, { on := 0, ground := Go.Ground.phase }, { on := 1, ground := Go.Ground.phase }, { on := 2, ground := Go.Ground.textOnly Go.Departure.lateStores }, { on := 3, ground := Go.Ground.textOnly Go.Departure.lateStoresUnsure }, { on := 4, ground := Go.Ground.phase }, { on := 5, ground := Go.Ground.phase }], guard := none } : Oper)) rfl (fun K hK => ?_) AllReadyH.nil
              have hab : G86 ≠ G80 := (fun e => hneG80G86 e.symm)
              refine wp_store_row 38 (.tmp 11) (.tmp 37) rfl G86 kac.toArray rfl rfl 38 _ hG86.out HKa.out HKn.out HKao.out ?_
              have gG86 := setRow_heap _ _ _ kac.toArray _ _ hG86.out
              have gG80 := (setRow_other wn87 G86 G80 kac.toArray (fun e => hab e.symm)).trans hG80.out
              have hb := below_setRow hb.out hpG86 kac.toArray
              refine hK.out _ _ hb (fun _ => ?_)
              clear hK K
              try simp only [Act.put]
              generalize World.setRow wn87 G86 kac.toArray = wn88 at *
              refine wpAnyH_ready (rs := [7]) (by kernel_rfl) (by simp) ?_
              refine AllReadyH.cons (o := ({ dst := none, op := Go.Op.store 38 (Go.Operand.tmp 12) (Go.Operand.tmp 39), type := 0, pos := "law.go:130", after := #[{ on := 5, ground := Go.Ground.data }, { on := 3, ground := Go.Ground.data }, { on := 6, ground := Go.Ground.chain }, { on := 0, ground := Go.Ground.phase }, { on := 1, ground := Go.Ground.phase }, { on := 2, ground := Go.Ground.phase }, { on := 3, ground := Go.Ground.phase }, { on := 4, ground := Go.Ground.phase }, { on := 5, ground := Go.Ground.phase }, { on := 6, ground := Go.Ground.phase }], guard := none } : Oper)) rfl (fun K hK => ?_) AllReadyH.nil
              refine wp_store_row 38 (.tmp 12) (.tmp 39) rfl G80 kbc.toArray rfl rfl 38 _ gG80 HKb.out HKm.out HKbo.out ?_
              have kG80 := setRow_heap _ _ _ kbc.toArray _ _ gG80
              have kG86 := (setRow_other wn88 G80 G86 kbc.toArray hab).trans gG86
              have hb := below_setRow hb hpG80 kbc.toArray
              refine hK.out _ _ hb (fun _ => ?_)
              clear hK K
              try simp only [Act.put]
              refine wpAnyH_done (by kernel_rfl) ?_ _
              try (go_wp2_with fail)
              go_meet
              case rel => exact ⟨G86, G80, rfl, rfl, Lib.hid ⟨hb, kG86, kG80⟩⟩
      · go_simp
        refine hK.out _ _ (hb.out.alloc hb.out.size _) (fun _ => ?_)
        clear hK K
        try simp only [Act.put, List.setIfInBounds_toArray, List.set_cons_zero, List.set_cons_succ]
        obtain ⟨hb, hG90, hpG90, hlG90, hold⟩ := alloc_pack hb.out (.cells #[.int .i64 0, .int .i64 0, .int .i64 0, .int .i64 0, .int .i64 0, .int .i64 0, .int .i64 0, .int .i64 0] 38)
        clear hold
        generalize World.alloc wm0 (.cells #[.int .i64 0, .int .i64 0, .int .i64 0, .int .i64 0, .int .i64 0, .int .i64 0, .int .i64 0, .int .i64 0] 38) = wn89 at *
        generalize (wm0).heap.size = G90 at *
        have hb := Lib.hid hb
        have hG90 := Lib.hid hG90
        refine wpAnyH_ready (rs := [1, 5]) (by kernel_rfl) (by simp) ?_
        refine (AllReadyH.cons (o := ({ dst := some 37, op := Go.Op.call { callee := Go.Callee.value (Go.Operand.func 16), args := #[Go.Operand.const (Go.Value.slice none 0 0), Go.Operand.tmp 36], argTypes := #[22, 27] }, type := 38, pos := "law.go:130", after := #[{ on := 0, ground := Go.Ground.data }], guard := none } : Oper)) rfl (fun K hK => ?_) (AllReadyH.cons (o := ({ dst := some 12, op := Go.Op.alloc 38, type := 0, pos := "law.go:130", after := #[], guard := none } : Oper)) rfl (fun K hK => ?_) AllReadyH.nil))
        · go_simp
          go_at_call 16
          refine (KA.out _ hb.out).mono ?_
          rintro e' wn91 ⟨rfl, hbc⟩
          have hG90 := Lib.hid ((hbc.block _ (heap_lt hG90.out)).trans hG90.out)
          have hb := Lib.hid (hb.out.trans (hbc.mono hb.out.size))
          clear hbc
          refine hK.out _ _ hb.out (fun _ => ?_)
          clear hK K
          try simp only [Act.put, List.setIfInBounds_toArray, List.set_cons_zero, List.set_cons_succ]
          refine wpAnyH_ready (rs := [3, 5]) (by kernel_rfl) (by simp) ?_
          refine (AllReadyH.cons (o := ({ dst := some 39, op := Go.Op.call { callee := Go.Callee.value (Go.Operand.func 16), args := #[Go.Operand.const (Go.Value.slice none 0 0), Go.Operand.tmp 38], argTypes := #[22, 27] }, type := 38, pos := "law.go:130", after := #[{ on := 2, ground := Go.Ground.data }, { on := 1, ground := Go.Ground.chain }], guard := none } : Oper)) rfl (fun K hK => ?_) (AllReadyH.cons (o := ({ dst := some 12, op := Go.Op.alloc 38, type := 0, pos := "law.go:130", after := #[], guard := none } : Oper)) rfl (fun K hK => ?_) AllReadyH.nil))
          · go_simp
            go_at_call 16
            refine (KB.out _ hb.out).mono ?_
            rintro e' wn92 ⟨rfl, hbc⟩
            have hG90 := Lib.hid ((hbc.block _ (heap_lt hG90.out)).trans hG90.out)
            have hb := Lib.hid (hb.out.trans (hbc.mono hb.out.size))
            clear hbc
            refine hK.out _ _ hb.out (fun _ => ?_)
            clear hK K
            try simp only [Act.put, List.setIfInBounds_toArray, List.set_cons_zero, List.set_cons_succ]
            refine wpAnyH_ready (rs := [5]) (by kernel_rfl) (by simp) ?_
            refine (AllReadyH.cons (o := ({ dst := some 12, op := Go.Op.alloc 38, type := 0, pos := "law.go:130", after := #[], guard := none } : Oper)) rfl (fun K hK => ?_) AllReadyH.nil)
            · go_simp
              refine hK.out _ _ (hb.out.alloc hb.out.size _) (fun _ => ?_)
              clear hK K
              try simp only [Act.put, List.setIfInBounds_toArray, List.set_cons_zero, List.set_cons_succ]
              obtain ⟨hb, hG94, hpG94, hlG94, hold⟩ := alloc_pack hb.out (.cells #[.int .i64 0, .int .i64 0, .int .i64 0, .int .i64 0, .int .i64 0, .int .i64 0, .int .i64 0, .int .i64 0] 38)
              obtain ⟨hG90, hneG90G94⟩ := hold _ _ hG90.out
              have hG90 := Lib.hid hG90
              clear hold
              generalize World.alloc wn92 (.cells #[.int .i64 0, .int .i64 0, .int .i64 0, .int .i64 0, .int .i64 0, .int .i64 0, .int .i64 0, .int .i64 0] 38) = wn93 at *
              generalize (wn92).heap.size = G94 at *
              have hb := Lib.hid hb
              have hG94 := Lib.hid hG94
              refine wpAnyH_ready (rs := [6]) (by kernel_rfl) (by simp) ?_
              refine AllReadyH.cons (o := ({ dst := none, op := Go.Op.store 38 (Go.Operand.tmp 11) (Go.Operand.tmp 37), type := 0, pos := "law.go:130", after := #[{ on := 4, ground := Go.Ground.data }, { on := 1, ground := Go.Ground.data }, { on := 3, ground := Go.Ground.chain }, { on := 0, ground := Go.Ground.phase }, { on := 1, ground := Go.Ground.phase }, { on := 2, ground := Go.Ground.textOnly Go.Departure.lateStores }, { on := 3, ground := Go.Ground.textOnly Go.Departure.lateStoresUnsure }, { on := 4, ground := Go.Ground.phase }, { on := 5, ground := Go.Ground.phase }], guard := none } : Oper)) rfl (fun K hK => ?_) AllReadyH.nil
              have hab : G90 ≠ G94 := (fun e => hneG90G94 e)
              refine wp_store_row 38 (.tmp 11) (.tmp 37) rfl G90 kac.toArray rfl rfl 38 _ hG90.out HKa.out HKn.out HKao.out ?_
              have gG90 := setRow_heap _ _ _ kac.toArray _ _ hG90.out
              have gG94 := (setRow_other wn93 G90 G94 kac.toArray (fun e => hab e.symm)).trans hG94.out
              have hb := below_setRow hb.out hpG90 kac.toArray
              refine hK.out _ _ hb (fun _ => ?_)
              clear hK K
              try simp only [Act.put]
              generalize World.setRow wn93 G90 kac.toArray = wn95 at *
              refine wpAnyH_ready (rs := [7]) (by kernel_rfl) (by simp) ?_
              refine AllReadyH.cons (o := ({ dst := none, op := Go.Op.store 38 (Go.Operand.tmp 12) (Go.Operand.tmp 39), type := 0, pos := "law.go:130", after := #[{ on := 5, ground := Go.Ground.data }, { on := 3, ground := Go.Ground.data }, { on := 6, ground := Go.Ground.chain }, { on := 0, ground := Go.Ground.phase }, { on := 1, ground := Go.Ground.phase }, { on := 2, ground := Go.Ground.phase }, { on := 3, ground := Go.Ground.phase }, { on := 4, ground := Go.Ground.phase }, { on := 5, ground := Go.Ground.phase }, { on := 6, ground := Go.Ground.phase }], guard := none } : Oper)) rfl (fun K hK => ?_) AllReadyH.nil
              refine wp_store_row 38 (.tmp 12) (.tmp 39) rfl G94 kbc.toArray rfl rfl 38 _ gG94 HKb.out HKm.out HKbo.out ?_
              have kG94 := setRow_heap _ _ _ kbc.toArray _ _ gG94
              have kG90 := (setRow_other wn95 G94 G90 kbc.toArray hab).trans gG90
              have hb := below_setRow hb hpG94 kbc.toArray
              refine hK.out _ _ hb (fun _ => ?_)
              clear hK K
              try simp only [Act.put]
              refine wpAnyH_done (by kernel_rfl) ?_ _
              try (go_wp2_with fail)
              go_meet
              case rel => exact ⟨G90, G94, rfl, rfl, Lib.hid ⟨hb, kG90, kG94⟩⟩
          · go_simp
            refine hK.out _ _ (hb.out.alloc hb.out.size _) (fun _ => ?_)
            clear hK K
            try simp only [Act.put, List.setIfInBounds_toArray, List.set_cons_zero, List.set_cons_succ]
            obtain ⟨hb, hG97, hpG97, hlG97, hold⟩ := alloc_pack hb.out (.cells #[.int .i64 0, .int .i64 0, .int .i64 0, .int .i64 0, .int .i64 0, .int .i64 0, .int .i64 0, .int .i64 0] 38)
            obtain ⟨hG90, hneG90G97⟩ := hold _ _ hG90.out
            have hG90 := Lib.hid hG90
            clear hold
            generalize World.alloc wn91 (.cells #[.int .i64 0, .int .i64 0, .int .i64 0, .int .i64 0, .int .i64 0, .int .i64 0, .int .i64 0, .int .i64 0] 38) = wn96 at *
            generalize (wn91).heap.size = G97 at *
            have hb := Lib.hid hb
            have hG97 := Lib.hid hG97
            refine wpAnyH_ready (rs := [3]) (by kernel_rfl) (by simp) ?_
            refine (AllReadyH.cons (o := ({ dst := some 39, op := Go.Op.call { callee := Go.Callee.value (Go.Operand.func 16), args := #[Go.Operand.const (Go.Value.slice none 0 0), Go.Operand.tmp 38], argTypes := #[22, 27] }, type := 38, pos := "law.go:130", after := #[{ on := 2, ground := Go.Ground.data }, { on := 1, ground := Go.Ground.chain }], guard := none } : Oper)) rfl (fun K hK => ?_) AllReadyH.nil)
            · go_simp
              go_at_call 16
              refine (KB.out _ hb.out).mono ?_
              rintro e' wn98 ⟨rfl, hbc⟩
              have hG90 := Lib.hid ((hbc.block _ (heap_lt hG90.out)).trans hG90.out)
              have hG97 := Lib.hid ((hbc.block _ (heap_lt hG97.out)).trans hG97.out)
              have hb := Lib.hid (hb.out.trans (hbc.mono hb.out.size))
              clear hbc
              refine hK.out _ _ hb.out (fun _ => ?_)
              clear hK K
              try simp only [Act.put, List.setIfInBounds_toArray, List.set_cons_zero, List.set_cons_succ]
              refine wpAnyH_ready (rs := [6]) (by kernel_rfl) (by simp) ?_
              refine AllReadyH.cons (o := ({ dst := none, op := Go.Op.store 38 (Go.Operand.tmp 11) (Go.Operand.tmp 37), type := 0, pos := "law.go:130", after := #[{ on := 4, ground := Go.Ground.data }, { on := 1, ground := Go.Ground.data }, { on := 3, ground := Go.Ground.chain }, { on := 0, ground := Go.Ground.phase }, { on := 1, ground := Go.Ground.phase }, { on := 2, ground := Go.Ground.textOnly Go.Departure.lateStores }, { on := 3, ground := Go.Ground.textOnly Go.Departure.lateStoresUnsure }, { on := 4, ground := Go.Ground.phase }, { on := 5, ground := Go.Ground.phase }], guard := none } : Oper)) rfl (fun K hK => ?_) AllReadyH.nil
              have hab : G90 ≠ G97 := (fun e => hneG90G97 e)
              refine wp_store_row 38 (.tmp 11) (.tmp 37) rfl G90 kac.toArray rfl rfl 38 _ hG90.out HKa.out HKn.out HKao.out ?_
              have gG90 := setRow_heap _ _ _ kac.toArray _ _ hG90.out
              have gG97 := (setRow_other wn98 G90 G97 kac.toArray (fun e => hab e.symm)).trans hG97.out
              have hb := below_setRow hb.out hpG90 kac.toArray
              refine hK.out _ _ hb (fun _ => ?_)
              clear hK K
              try simp only [Act.put]
              generalize World.setRow wn98 G90 kac.toArray = wn99 at *
              refine wpAnyH_ready (rs := [7]) (by kernel_rfl) (by simp) ?_
              refine AllReadyH.cons (o := ({ dst := none, op := Go.Op.store 38 (Go.Operand.tmp 12) (Go.Operand.tmp 39), type := 0, pos := "law.go:130", after := #[{ on := 5, ground := Go.Ground.data }, { on := 3, ground := Go.Ground.data }, { on := 6, ground := Go.Ground.chain }, { on := 0, ground := Go.Ground.phase }, { on := 1, ground := Go.Ground.phase }, { on := 2, ground := Go.Ground.phase }, { on := 3, ground := Go.Ground.phase }, { on := 4, ground := Go.Ground.phase }, { on := 5, ground := Go.Ground.phase }, { on := 6, ground := Go.Ground.phase }], guard := none } : Oper)) rfl (fun K hK => ?_) AllReadyH.nil
              refine wp_store_row 38 (.tmp 12) (.tmp 39) rfl G97 kbc.toArray rfl rfl 38 _ gG97 HKb.out HKm.out HKbo.out ?_
              have kG97 := setRow_heap _ _ _ kbc.toArray _ _ gG97
              have kG90 := (setRow_other wn99 G97 G90 kbc.toArray hab).trans gG90
              have hb := below_setRow hb hpG97 kbc.toArray
              refine hK.out _ _ hb (fun _ => ?_)
              clear hK K
              try simp only [Act.put]
              refine wpAnyH_done (by kernel_rfl) ?_ _
              try (go_wp2_with fail)
              go_meet
              case rel => exact ⟨G90, G97, rfl, rfl, Lib.hid ⟨hb, kG90, kG97⟩⟩
        · go_simp
          refine hK.out _ _ (hb.out.alloc hb.out.size _) (fun _ => ?_)
          clear hK K
          try simp only [Act.put, List.setIfInBounds_toArray, List.set_cons_zero, List.set_cons_succ]
          obtain ⟨hb, hG101, hpG101, hlG101, hold⟩ := alloc_pack hb.out (.cells #[.int .i64 0, .int .i64 0, .int .i64 0, .int .i64 0, .int .i64 0, .int .i64 0, .int .i64 0, .int .i64 0] 38)
          obtain ⟨hG90, hneG90G101⟩ := hold _ _ hG90.out
          have hG90 := Lib.hid hG90
          clear hold
          generalize World.alloc wn89 (.cells #[.int .i64 0, .int .i64 0, .int .i64 0, .int .i64 0, .int .i64 0, .int .i64 0, .int .i64 0, .int .i64 0] 38) = wn100 at *
          generalize (wn89).heap.size = G101 at *
          have hb := Lib.hid hb
          have hG101 := Lib.hid hG101
          refine wpAnyH_ready (rs := [1]) (by kernel_rfl) (by simp) ?_
          refine (AllReadyH.cons (o := ({ dst := some 37, op := Go.Op.call { callee := Go.Callee.value (Go.Operand.func 16), args := #[Go.Operand.const (Go.Value.slice none 0 0), Go.Operand.tmp 36], argTypes := #[22, 27] }, type := 38, pos := "law.go:130", after := #[{ on := 0, ground := Go.Ground.data }], guard := none } : Oper)) rfl (fun K hK => ?_) AllReadyH.nil)
          · go_simp
            go_at_call 16
            refine (KA.out _ hb.out).mono ?_
            rintro e' wn102 ⟨rfl, hbc⟩
            have hG90 := Lib.hid ((hbc.block _ (heap_lt hG90.out)).trans hG90.out)
            have hG101 := Lib.hid ((hbc.block _ (heap_lt hG101.out)).trans hG101.out)
            have hb := Lib.hid (hb.out.trans (hbc.mono hb.out.size))
            clear hbc
            refine hK.out _ _ hb.out (fun _ => ?_)
            clear hK K
            try simp only [Act.put, List.setIfInBounds_toArray, List.set_cons_zero, List.set_cons_succ]
            refine wpAnyH_ready (rs := [3]) (by kernel_rfl) (by simp) ?_
            refine (AllReadyH.cons (o := ({ dst := some 39, op := Go.Op.call { callee := Go.Callee.value (Go.Operand.func 16), args := #[Go.Operand.const (Go.Value.slice none 0 0), Go.Operand.tmp 38], argTypes := #[22, 27] }, type := 38, pos := "law.go:130", after := #[{ on := 2, ground := Go.Ground.data }, { on := 1, ground := Go.Ground.chain }], guard := none } : Oper)) rfl (fun K hK => ?_) AllReadyH.nil)
            · go_simp
              go_at_call 16
              refine (KB.out _ hb.out).mono ?_
              rintro e' wn103 ⟨rfl, hbc⟩
              have hG90 := Lib.hid ((hbc.block _ (heap_lt hG90.out)).trans hG90.out)
              have hG101 := Lib.hid ((hbc.block _ (heap_lt hG101.out)).trans hG101.out)
              have hb := Lib.hid (hb.out.trans (hbc.mono hb.out.size))
              clear hbc
              refine hK.out _ _ hb.out (fun _ => ?_)
              clear hK K
              try simp only [Act.put, List.setIfInBounds_toArray, List.set_cons_zero, List.set_cons_succ]
              refine wpAnyH_ready (rs := [6]) (by kernel_rfl) (by simp) ?_
              refine AllReadyH.cons (o := ({ dst := none, op := Go.Op.store 38 (Go.Operand.tmp 11) (Go.Operand.tmp 37), type := 0, pos := "law.go:130", after := #[{ on := 4, ground := Go.Ground.data }, { on := 1, ground := Go.Ground.data }, { on := 3, ground := Go.Ground.chain }, { on := 0, ground := Go.Ground.phase }, { on := 1, ground := Go.Ground.phase }, { on := 2, ground := Go.Ground.textOnly Go.Departure.lateStores }, { on := 3, ground := Go.Ground.textOnly Go.Departure.lateStoresUnsure }, { on := 4, ground := Go.Ground.phase }, { on := 5, ground := Go.Ground.phase }], guard := none } : Oper)) rfl (fun K hK => ?_) AllReadyH.nil
              have hab : G90 ≠ G101 := (fun e => hneG90G101 e)
              refine wp_store_row 38 (.tmp 11) (.tmp 37) rfl G90 kac.toArray rfl rfl 38 _ hG90.out HKa.out HKn.out HKao.out ?_
              have gG90 := setRow_heap _ _ _ kac.toArray _ _ hG90.out
              have gG101 := (setRow_other wn103 G90 G101 kac.toArray (fun e => hab e.symm)).trans hG101.out
              have hb := below_setRow hb.out hpG90 kac.toArray
              refine hK.out _ _ hb (fun _ => ?_)
              clear hK K
              try simp only [Act.put]
              generalize World.setRow wn103 G90 kac.toArray = wn104 at *
              refine wpAnyH_ready (rs := [7]) (by kernel_rfl) (by simp) ?_
              refine AllReadyH.cons (o := ({ dst := none, op := Go.Op.store 38 (Go.Operand.tmp 12) (Go.Operand.tmp 39), type := 0, pos := "law.go:130", after := #[{ on := 5, ground := Go.Ground.data }, { on := 3, ground := Go.Ground.data }, { on := 6, ground := Go.Ground.chain }, { on := 0, ground := Go.Ground.phase }, { on := 1, ground := Go.Ground.phase }, { on := 2, ground := Go.Ground.phase }, { on := 3, ground := Go.Ground.phase }, { on := 4, ground := Go.Ground.phase }, { on := 5, ground := Go.Ground.phase }, { on := 6, ground := Go.Ground.phase }], guard := none } : Oper)) rfl (fun K hK => ?_) AllReadyH.nil
              refine wp_store_row 38 (.tmp 12) (.tmp 39) rfl G101 kbc.toArray rfl rfl 38 _ gG101 HKb.out HKm.out HKbo.out ?_
              have kG101 := setRow_heap _ _ _ kbc.toArray _ _ gG101
              have kG90 := (setRow_other wn104 G101 G90 kbc.toArray hab).trans gG90
              have hb := below_setRow hb hpG101 kbc.toArray
              refine hK.out _ _ hb (fun _ => ?_)
              clear hK K
              try simp only [Act.put]
              refine wpAnyH_done (by kernel_rfl) ?_ _
              try (go_wp2_with fail)
              go_meet
              case rel => exact ⟨G90, G101, rfl, rfl, Lib.hid ⟨hb, kG90, kG101⟩⟩
      · go_simp
        refine hK.out _ _ (hb.out.alloc hb.out.size _) (fun _ => ?_)
        clear hK K
        try simp only [Act.put, List.setIfInBounds_toArray, List.set_cons_zero, List.set_cons_succ]
        obtain ⟨hb, hG106, hpG106, hlG106, hold⟩ := alloc_pack hb.out (.cells #[.int .i64 0, .int .i64 0, .int .i64 0, .int .i64 0, .int .i64 0, .int .i64 0, .int .i64 0, .int .i64 0] 38)
        clear hold
        generalize World.alloc wm0 (.cells #[.int .i64 0, .int .i64 0, .int .i64 0, .int .i64 0, .int .i64 0, .int .i64 0, .int .i64 0, .int .i64 0] 38) = wn105 at *
        generalize (wm0).heap.size = G106 at *
        have hb := Lib.hid hb
        have hG106 := Lib.hid hG106
        refine wpAnyH_ready (rs := [1, 4]) (by kernel_rfl) (by simp) ?_
        refine (AllReadyH.cons (o := ({ dst := some 37, op := Go.Op.call { callee := Go.Callee.value (Go.Operand.func 16), args := #[Go.Operand.const (Go.Value.slice none 0 0), Go.Operand.tmp 36], argTypes := #[22, 27] }, type := 38, pos := "law.go:130", after := #[{ on := 0, ground := Go.Ground.data }], guard := none } : Oper)) rfl (fun K hK => ?_) (AllReadyH.cons (o := ({ dst := some 11, op := Go.Op.alloc 38, type := 0, pos := "law.go:130", after := #[], guard := none } : Oper)) rfl (fun K hK => ?_) AllReadyH.nil))
        · go_simp
          go_at_call 16
          refine (KA.out _ hb.out).mono ?_
          rintro e' wn107 ⟨rfl, hbc⟩
          have hG106 := Lib.hid ((hbc.block _ (heap_lt hG106.out)).trans hG106.out)
          have hb := Lib.hid (hb.out.trans (hbc.mono hb.out.size))
          clear hbc
          refine hK.out _ _ hb.out (fun _ => ?_)
          clear hK K
          try simp only [Act.put, List.setIfInBounds_toArray, List.set_cons_zero, List.set_cons_succ]
          refine wpAnyH_ready (rs := [3, 4]) (by kernel_rfl) (by simp) ?_
          refine (AllReadyH.cons (o := ({ dst := some 39, op := Go.Op.call { callee := Go.Callee.value (Go.Operand.func 16), args := #[Go.Operand.const (Go.Value.slice none 0 0), Go.Operand.tmp 38], argTypes := #[22, 27] }, type := 38, pos := "law.go:130", after := #[{ on := 2, ground := Go.Ground.data }, { on := 1, ground := Go.Ground.chain }], guard := none } : Oper)) rfl (fun K hK => ?_) (AllReadyH.cons (o := ({ dst := some 11, op := Go.Op.alloc 38, type := 0, pos := "law.go:130", after := #[], guard := none } : Oper)) rfl (fun K hK => ?_) AllReadyH.nil))
          · go_simp
            go_at_call 16
            refine (KB.out _ hb.out).mono ?_
            rintro e' wn108 ⟨rfl, hbc⟩
            have hG106 := Lib.hid ((hbc.block _ (heap_lt hG106.out)).trans hG106.out)
            have hb := Lib.hid (hb.out.trans (hbc.mono hb.out.size))
            clear hbc
            refine hK.out _ _ hb.out (fun _ => ?_)
            clear hK K
            try simp only [Act.put, List.setIfInBounds_toArray, List.set_cons_zero, List.set_cons_succ]
            refine wpAnyH_ready (rs := [4]) (by kernel_rfl) (by simp) ?_
            refine (AllReadyH.cons (o := ({ dst := some 11, op := Go.Op.alloc 38, type := 0, pos := "law.go:130", after := #[], guard := none } : Oper)) rfl (fun K hK => ?_) AllReadyH.nil)
            · go_simp
              refine hK.out _ _ (hb.out.alloc hb.out.size _) (fun _ => ?_)
              clear hK K
              try simp only [Act.put, List.setIfInBounds_toArray, List.set_cons_zero, List.set_cons_succ]
              obtain ⟨hb, hG110, hpG110, hlG110, hold⟩ := alloc_pack hb.out (.cells #[.int .i64 0, .int .i64 0, .int .i64 0, .int .i64 0, .int .i64 0, .int .i64 0, .int .i64 0, .int .i64 0] 38)
              obtain ⟨hG106, hneG106G110⟩ := hold _ _ hG106.out
              have hG106 := Lib.hid hG106
              clear hold
              generalize World.alloc wn108 (.cells #[.int .i64 0, .int .i64 0, .int .i64 0, .int .i64 0, .int .i64 0, .int .i64 0, .int .i64 0, .int .i64 0] 38) = wn109 at *
              generalize (wn108).heap.size = G110 at *
              have hb := Lib.hid hb
              have hG110 := Lib.hid hG110
              refine wpAnyH_ready (rs := [6]) (by kernel_rfl) (by simp) ?_
              refine AllReadyH.cons (o := ({ dst := none, op := Go.Op.store 38 (Go.Operand.tmp 11) (Go.Operand.tmp 37), type := 0, pos := "law.go:130", after := #[{ on := 4, ground := Go.Ground.data }, { on := 1, ground := Go.Ground.data }, { on := 3, ground := Go.Ground.chain }, { on := 0, ground := Go.Ground.phase }, { on := 1, ground := Go.Ground.phase }, { on := 2, ground := Go.Ground.textOnly Go.Departure.lateStores }, { on := 3, ground := Go.Ground.textOnly Go.Departure.lateStoresUnsure }, { on := 4, ground := Go.Ground.phase }, { on := 5, ground := Go.Ground.phase }], guard := none } : Oper)) rfl (fun K hK => ?_) AllReadyH.nil
              have hab : G110 ≠ G106 := (fun e => hneG106G110 e.symm)
              refine wp_store_row 38 (.tmp 11) (.tmp 37) rfl G110 kac.toArray rfl rfl 38 _ hG110.out HKa.out HKn.out HKao.out ?_
              have gG110 := setRow_heap _ _ _ kac.toArray _ _ hG110.out
              have gG106 := (setRow_other wn109 G110 G106 kac.toArray (fun e => hab e.symm)).trans hG106.out
              have hb := below_setRow hb.out hpG110 kac.toArray
              refine hK.out _ _ hb (fun _ => ?_)
              clear hK K
              try simp only [Act.put]
              generalize World.setRow wn109 G110 kac.toArray = wn111 at *
              refine wpAnyH_ready (rs := [7]) (by kernel_rfl) (by simp) ?_
              refine AllReadyH.cons (o := ({ dst := none, op := Go.Op.store 38 (Go.Operand.tmp 12) (Go.Operand.tmp 39), type := 0, pos := "law.go:130", after := #[{ on := 5, ground := Go.Ground.data }, { on := 3, ground := Go.Ground.data }, { on := 6, ground := Go.Ground.chain }, { on := 0, ground := Go.Ground.phase }, { on := 1, ground := Go.Ground.phase }, { on := 2, ground := Go.Ground.phase }, { on := 3, ground := Go.Ground.phase }, { on := 4, ground := Go.Ground.phase }, { on := 5, ground := Go.Ground.phase }, { on := 6, ground := Go.Ground.phase }], guard := none } : Oper)) rfl (fun K hK => ?_) AllReadyH.nil
              refine wp_store_row 38 (.tmp 12) (.tmp 39) rfl G106 kbc.toArray rfl rfl 38 _ gG106 HKb.out HKm.out HKbo.out ?_
              have kG106 := setRow_heap _ _ _ kbc.toArray _ _ gG106
              have kG110 := (setRow_other wn111 G106 G110 kbc.toArray hab).trans gG110
              have hb := below_setRow hb hpG106 kbc.toArray
              refine hK.out _ _ hb (fun _ => ?_)
              clear hK K
              try simp only [Act.put]
              refine wpAnyH_done (by kernel_rfl) ?_ _
              try (go_wp2_with fail)
              go_meet
              case rel => exact ⟨G110, G106, rfl, rfl, Lib.hid ⟨hb, kG110, kG106⟩⟩
          · go_simp
            refine hK.out _ _ (hb.out.alloc hb.out.size _) (fun _ => ?_)
            clear hK K
            try simp only [Act.put, List.setIfInBounds_toArray, List.set_cons_zero, List.set_cons_succ]
            obtain ⟨hb, hG113, hpG113, hlG113, hold⟩ := alloc_pack hb.out (.cells #[.int .i64 0, .int .i64 0, .int .i64 0, .int .i64 0, .int .i64 0, .int .i64 0, .int .i64 0, .int .i64 0] 38)
            obtain ⟨hG106, hneG106G113⟩ := hold _ _ hG106.out
            have hG106 := Lib.hid hG106
            clear hold
            generalize World.alloc wn107 (.cells #[.int .i64 0, .int .i64 0, .int .i64 0, .int .i64 0, .int .i64 0, .int .i64 0, .int .i64 0, .int .i64 0] 38) = wn112 at *
            generalize (wn107).heap.size = G113 at *
            have hb := Lib.hid hb
            have hG113 := Lib.hid hG113
            refine wpAnyH_ready (rs := [3]) (by kernel_rfl) (by simp) ?_
            refine (AllReadyH.cons (o := ({ dst := some 39, op := Go.Op.call { callee := Go.Callee.value (Go.Operand.func 16), args := #[Go.Operand.const (Go.Value.slice none 0 0), Go.Operand.tmp 38], argTypes := #[22, 27] }, type := 38, pos := "law.go:130", after := #[{ on := 2, ground := Go.Ground.data }, { on := 1, ground := Go.Ground.chain }], guard := none } : Oper)) rfl (fun K hK => ?_) AllReadyH.nil)
            · go_simp
              go_at_call 16
              refine (KB.out _ hb.out).mono ?_
              rintro e' wn114 ⟨rfl, hbc⟩
              have hG113 := Lib.hid ((hbc.block _ (heap_lt hG113.out)).trans hG113.out)
              have hG106 := Lib.hid ((hbc.block _ (heap_lt hG106.out)).trans hG106.out)
              have hb := Lib.hid (hb.out.trans (hbc.mono hb.out.size))
              clear hbc
              refine hK.out _ _ hb.out (fun _ => ?_)
              clear hK K
              try simp only [Act.put, List.setIfInBounds_toArray, List.set_cons_zero, List.set_cons_succ]
              refine wpAnyH_ready (rs := [6]) (by kernel_rfl) (by simp) ?_
              refine AllReadyH.cons (o := ({ dst := none, op := Go.Op.store 38 (Go.Operand.tmp 11) (Go.Operand.tmp 37), type := 0, pos := "law.go:130", after := #[{ on := 4, ground := Go.Ground.data }, { on := 1, ground := Go.Ground.data }, { on := 3, ground := Go.Ground.chain }, { on := 0, ground := Go.Ground.phase }, { on := 1, ground := Go.Ground.phase }, { on := 2, ground := Go.Ground.textOnly Go.Departure.lateStores }, { on := 3, ground := Go.Ground.textOnly Go.Departure.lateStoresUnsure }, { on := 4, ground := Go.Ground.phase }, { on := 5, ground := Go.Ground.phase }], guard := none } : Oper)) rfl (fun K hK => ?_) AllReadyH.nil
              have hab : G113 ≠ G106 := (fun e => hneG106G113 e.symm)
              refine wp_store_row 38 (.tmp 11) (.tmp 37) rfl G113 kac.toArray rfl rfl 38 _ hG113.out HKa.out HKn.out HKao.out ?_
              have gG113 := setRow_heap _ _ _ kac.toArray _ _ hG113.out
              have gG106 := (setRow_other wn114 G113 G106 kac.toArray (fun e => hab e.symm)).trans hG106.out
              have hb := below_setRow hb.out hpG113 kac.toArray
              refine hK.out _ _ hb (fun _ => ?_)
              clear hK K
              try simp only [Act.put]
              generalize World.setRow wn114 G113 kac.toArray = wn115 at *
              refine wpAnyH_ready (rs := [7]) (by kernel_rfl) (by simp) ?_
              refine AllReadyH.cons (o := ({ dst := none, op := Go.Op.store 38 (Go.Operand.tmp 12) (Go.Operand.tmp 39), type := 0, pos := "law.go:130", after := #[{ on := 5, ground := Go.Ground.data }, { on := 3, ground := Go.Ground.data }, { on := 6, ground := Go.Ground.chain }, { on := 0, ground := Go.Ground.phase }, { on := 1, ground := Go.Ground.phase }, { on := 2, ground := Go.Ground.phase }, { on := 3, ground := Go.Ground.phase }, { on := 4, ground := Go.Ground.phase }, { on := 5, ground := Go.Ground.phase }, { on := 6, ground := Go.Ground.phase }], guard := none } : Oper)) rfl (fun K hK => ?_) AllReadyH.nil
              refine wp_store_row 38 (.tmp 12) (.tmp 39) rfl G106 kbc.toArray rfl rfl 38 _ gG106 HKb.out HKm.out HKbo.out ?_
              have kG106 := setRow_heap _ _ _ kbc.toArray _ _ gG106
              have kG113 := (setRow_other wn115 G106 G113 kbc.toArray hab).trans gG113
              have hb := below_setRow hb hpG106 kbc.toArray
              refine hK.out _ _ hb (fun _ => ?_)
              clear hK K
              try simp only [Act.put]
              refine wpAnyH_done (by kernel_rfl) ?_ _
              try (go_wp2_with fail)
              go_meet
              case rel => exact ⟨G113, G106, rfl, rfl, Lib.hid ⟨hb, kG113, kG106⟩⟩
        · go_simp
          refine hK.out _ _ (hb.out.alloc hb.out.size _) (fun _ => ?_)
          clear hK K
          try simp only [Act.put, List.setIfInBounds_toArray, List.set_cons_zero, List.set_cons_succ]
          obtain ⟨hb, hG117, hpG117, hlG117, hold⟩ := alloc_pack hb.out (.cells #[.int .i64 0, .int .i64 0, .int .i64 0, .int .i64 0, .int .i64 0, .int .i64 0, .int .i64 0, .int .i64 0] 38)
          obtain ⟨hG106, hneG106G117⟩ := hold _ _ hG106.out
          have hG106 := Lib.hid hG106
          clear hold
          generalize World.alloc wn105 (.cells #[.int .i64 0, .int .i64 0, .int .i64 0, .int .i64 0, .int .i64 0, .int .i64 0, .int .i64 0, .int .i64 0] 38) = wn116 at *
          generalize (wn105).heap.size = G117 at *
          have hb := Lib.hid hb
          have hG117 := Lib.hid hG117
          refine wpAnyH_ready (rs := [1]) (by kernel_rfl) (by simp) ?_
          refine (AllReadyH.cons (o := ({ dst := some 37, op := Go.Op.call { callee := Go.Callee.value (Go.Operand.func 16), args := #[Go.Operand.const (Go.Value.slice none 0 0), Go.Operand.tmp 36], argTypes := #[22, 27] }, type := 38, pos := "law.go:130", after := #[{ on := 0, ground := Go.Ground.data }], guard := none } : Oper)) rfl (fun K hK => ?_) AllReadyH.nil)
          · go_simp
            go_at_call 16
            refine (KA.out _ hb.out).mono ?_
            rintro e' wn118 ⟨rfl, hbc⟩
            have hG117 := Lib.hid ((hbc.block _ (heap_lt hG117.out)).trans hG117.out)
            have hG106 := Lib.hid ((hbc.block _ (heap_lt hG106.out)).trans hG106.out)
            have hb := Lib.hid (hb.out.trans (hbc.mono hb.out.size))
            clear hbc
            refine hK.out _ _ hb.out (fun _ => ?_)
            clear hK K
            try simp only [Act.put, List.setIfInBounds_toArray, List.set_cons_zero, List.set_cons_succ]
            refine wpAnyH_ready (rs := [3]) (by kernel_rfl) (by simp) ?_
            refine (AllReadyH.cons (o := ({ dst := some 39, op := Go.Op.call { callee := Go.Callee.value (Go.Operand.func 16), args := #[Go.Operand.const (Go.Value.slice none 0 0), Go.Operand.tmp 38], argTypes := #[22, 27] }, type := 38, pos := "law.go:130", after := #[{ on := 2, ground := Go.Ground.data }, { on := 1, ground := Go.Ground.chain }], guard := none } : Oper)) rfl (fun K hK => ?_) AllReadyH.nil)
            · go_simp
              go_at_call 16
              refine (KB.out _ hb.out).mono ?_
              rintro e' wn119 ⟨rfl, hbc⟩
              have hG117 := Lib.hid ((hbc.block _ (heap_lt hG117.out)).trans hG117.out)
              have hG106 := Lib.hid ((hbc.block _ (heap_lt hG106.out)).trans hG106.out)
              have hb := Lib.hid (hb.out.trans (hbc.mono hb.out.size))
              clear hbc
              refine hK.out _ _ hb.out (fun _ => ?_)
              clear hK K
              try simp only [Act.put, List.setIfInBounds_toArray, List.set_cons_zero, List.set_cons_succ]
              refine wpAnyH_ready (rs := [6]) (by kernel_rfl) (by simp) ?_
              refine AllReadyH.cons (o := ({ dst := none, op := Go.Op.store 38 (Go.Operand.tmp 11) (Go.Operand.tmp 37), type := 0, pos := "law.go:130", after := #[{ on := 4, ground := Go.Ground.data }, { on := 1, ground := Go.Ground.data }, { on := 3, ground := Go.Ground.chain }, { on := 0, ground := Go.Ground.phase }, { on := 1, ground := Go.Ground.phase }, { on := 2, ground := Go.Ground.textOnly Go.Departure.lateStores }, { on := 3, ground := Go.Ground.textOnly Go.Departure.lateStoresUnsure }, { on := 4, ground := Go.Ground.phase }, { on := 5, ground := Go.Ground.phase }], guard := none } : Oper)) rfl (fun K hK => ?_) AllReadyH.nil
              have hab : G117 ≠ G106 := (fun e => hneG106G117 e.symm)
              refine wp_store_row 38 (.tmp 11) (.tmp 37) rfl G117 kac.toArray rfl rfl 38 _ hG117.out HKa.out HKn.out HKao.out ?_
              have gG117 := setRow_heap _ _ _ kac.toArray _ _ hG117.out
              have gG106 := (setRow_other wn119 G117 G106 kac.toArray (fun e => hab e.symm)).trans hG106.out
              have hb := below_setRow hb.out hpG117 kac.toArray
              refine hK.out _ _ hb (fun _ => ?_)
              clear hK K
              try simp only [Act.put]
              generalize World.setRow wn119 G117 kac.toArray = wn120 at *
              refine wpAnyH_ready (rs := [7]) (by kernel_rfl) (by simp) ?_
              refine AllReadyH.cons (o := ({ dst := none, op := Go.Op.store 38 (Go.Operand.tmp 12) (Go.Operand.tmp 39), type := 0, pos := "law.go:130", after := #[{ on := 5, ground := Go.Ground.data }, { on := 3, ground := Go.Ground.data }, { on := 6, ground := Go.Ground.chain }, { on := 0, ground := Go.Ground.phase }, { on := 1, ground := Go.Ground.phase }, { on := 2, ground := Go.Ground.phase }, { on := 3, ground := Go.Ground.phase }, { on := 4, ground := Go.Ground.phase }, { on := 5, ground := Go.Ground.phase }, { on := 6, ground := Go.Ground.phase }], guard := none } : Oper)) rfl (fun K hK => ?_) AllReadyH.nil
              refine wp_store_row 38 (.tmp 12) (.tmp 39) rfl G106 kbc.toArray rfl rfl 38 _ gG106 HKb.out HKm.out HKbo.out ?_
              have kG106 := setRow_heap _ _ _ kbc.toArray _ _ gG106
              have kG117 := (setRow_other wn120 G106 G117 kbc.toArray hab).trans gG117
              have hb := below_setRow hb hpG106 kbc.toArray
              refine hK.out _ _ hb (fun _ => ?_)
              clear hK K
              try simp only [Act.put]
              refine wpAnyH_done (by kernel_rfl) ?_ _
              try (go_wp2_with fail)
              go_meet
              case rel => exact ⟨G117, G106, rfl, rfl, Lib.hid ⟨hb, kG117, kG106⟩⟩
    case rest =>
      obtain ⟨P, Q, rfl, rfl, hcut⟩ := hcut
      rename_i w6
      have hb6 := hcut.out.1
      have HB6 := Lib.hid (HB5.out.trans (hb6.mono HB5.out.size))
      have CP := Lib.hid hcut.out.2.1
      have CQ := Lib.hid hcut.out.2.2
      have CG6 := Lib.hid ((hb6.block _ (heap_lt CG5.out)).trans CG5.out)
      have C96 := Lib.hid ((hb6.block _ (heap_lt C9.out)).trans C9.out)
      clear hcut hb6 RA5 RB5 KA KB CG5 C9 HB5
      go_wp2_with (first | (refine wpList_load_agg rfl 27 (.tmp 4) rfl ⟨w.heap.size, 0, none⟩ rfl ta.toArray _ (LA.out _ HB6.out) Tryd.underlying27 rfl HSaA.out ?_; go_simp))
      refine (PO.out _ HB6.out).mono ?_
      rintro e w8 ⟨rfl, hb8⟩
      have HB8' := Lib.hid (HB6.out.trans (hb8.mono HB6.out.size))
      have HB8 := Lib.hid (HB3.out.trans (HB8'.out.mono HB3.out.size))
      have gp := (hb8.block _ (heap_lt CP.out)).trans CP.out
      have gq := (hb8.block _ (heap_lt CQ.out)).trans CQ.out
      have gg := (hb8.block _ (heap_lt CG6.out)).trans CG6.out
      have g9 := (hb8.block _ (heap_lt C96.out)).trans C96.out
      have cellP : ∀ W, Below w8.heap.size w8 W → ∀ j v, kac[j]? = some v → W.cell? ⟨P, j, none⟩ = some v := fun W hb j v hj => by
        rw [hb.cell (p := ⟨P, j, none⟩) (heap_lt gp), cell_of_row _ _ _ _ _ _ gp, List.getElem?_toArray]; exact hj
      have cellQ : ∀ W, Below w8.heap.size w8 W → ∀ j v, kbc[j]? = some v → W.cell? ⟨Q, j, none⟩ = some v := fun W hb j v hj => by
        rw [hb.cell (p := ⟨Q, j, none⟩) (heap_lt gq), cell_of_row _ _ _ _ _ _ gq, List.getElem?_toArray]; exact hj
      have cellG : ∀ W, Below w8.heap.size w8 W → ∀ j v, ta[j]? = some v → W.cell? ⟨G, j, none⟩ = some v := fun W hb j v hj => by
        rw [hb.cell (p := ⟨G, j, none⟩) (heap_lt gg), cell_of_row _ _ _ _ _ _ gg]; exact HXA.out j v hj
      have cell9 : ∀ W, Below w8.heap.size w8 W → ∀ j v, lzc[j]? = some v → W.cell? ⟨H9, j, none⟩ = some v := fun W hb j v hj => by
        rw [hb.cell (p := ⟨H9, j, none⟩) (heap_lt g9), cell_of_row _ _ _ _ _ _ g9, List.getElem?_toArray]; exact hj
      have RA8 := Lib.hid (fun (W : World) (hb : Below w8.heap.size w8 W) => RA.out W (HB8'.out.trans (hb.mono HB8'.out.size)))
      have RG8 := Lib.hid (fun (W : World) (hb : Below w8.heap.size w8 W) => (fun j v hj => by rw [Nat.zero_add]; exact cellG W hb j v hj : W.rangeAt G 0 ta))
      have R98 := Lib.hid (fun (W : World) (hb : Below w8.heap.size w8 W) => (fun j v hj => by rw [Nat.zero_add]; exact cell9 W hb j v hj : W.rangeAt H9 0 lzc))
      have RP8 := Lib.hid (fun (W : World) (hb : Below w8.heap.size w8 W) => (fun j v hj => by rw [Nat.zero_add]; exact cellP W hb j v hj : W.rangeAt P 0 kac))
      have RQ8 := Lib.hid (fun (W : World) (hb : Below w8.heap.size w8 W) => (fun j v hj => by rw [Nat.zero_add]; exact cellQ W hb j v hj : W.rangeAt Q 0 kbc))
      have CP0 := Lib.hid (fun (W : World) (hb : Below w8.heap.size w8 W) => cellP W hb 0 _ HK0.out.1)
      have CP5 := Lib.hid (fun (W : World) (hb : Below w8.heap.size w8 W) => cellP W hb 5 _ HK0.out.2.1)
      have CP6 := Lib.hid (fun (W : World) (hb : Below w8.heap.size w8 W) => cellP W hb 6 _ HK0.out.2.2)
      have CQ5 := Lib.hid (fun (W : World) (hb : Below w8.heap.size w8 W) => cellQ W hb 5 _ HK1.out.1)
      have CQ6 := Lib.hid (fun (W : World) (hb : Below w8.heap.size w8 W) => cellQ W hb 6 _ HK1.out.2)
      have SC := Lib.hid (fun (W : World) (hb : Below w8.heap.size w8 W) => SCC.out W (HB8'.out.trans (hb.mono HB8'.out.size)))
      clear hb8 gp gq gg g9 cellP cellQ cellG cell9 CP CQ CG6 C96 HB6 HB8' HB3 LA LB RA RB KNA KNB SN PO SCC KS HXs HXz HXo HSl HSo HMem HI HZ HZC HS HBY HB64 HFl HZL HFill HBT HNil HNews HLS HSC HXA HK0 HK1 HKa HKb HKn HKm HKao HKbo HLs HLo HZL9
      have hwneg := HWN.out
      go_upto_region 9 with fail
      cases pe with
      | false =>
        refine wp_region_held_drew (S := (fun W : World => Below w8.heap.size w8 W)) (by kernel_rfl) (Below.refl _ w8).drew (fun hHeld => ?_)
        refine wpAnyH_take (i := 0) (oi := ({ dst := some 45, op := Go.Op.move (Go.Operand.tmp 8), type := 4, pos := "law.go:132", after := #[], guard := none } : Oper)) (v := .bool true) rfl (by kernel_rfl) (by kernel_rfl) (by kernel_rfl) (fun _ _ _ h => h) (Or.inl ⟨by rfl, fun w' _ => ?_⟩) hHeld ?_
        · go_simp
        simp only [Act.put, List.setIfInBounds_toArray, List.set_cons_zero, List.set_cons_succ]
        refine wpAnyH_take (i := 1) (oi := ({ dst := some 46, op := Go.Op.move (Go.Operand.tmp 45), type := 4, pos := "law.go:132", after := #[{ on := 0, ground := Go.Ground.data }], guard := none } : Oper)) (v := .bool true) rfl (by kernel_rfl) (by kernel_rfl) (by kernel_rfl) (fun _ _ _ h => h) (Or.inl ⟨by rfl, fun w' _ => ?_⟩) hHeld ?_
        · go_simp
        simp only [Act.put, List.setIfInBounds_toArray, List.set_cons_zero, List.set_cons_succ]
        refine wpAnyH_take (i := 2) (oi := ({ dst := some 47, op := Go.Op.fieldAddr 42 (Go.Operand.tmp 7) 0, type := 0, pos := "law.go:132", after := #[{ on := 1, ground := Go.Ground.guard }], guard := some (1, true) } : Oper)) (v := .pointer (some ⟨G, 0, none⟩)) rfl (by kernel_rfl) (by kernel_rfl) (by kernel_rfl) (fun _ _ _ h => h) (Or.inl ⟨by kernel_rfl, fun w' _ => ?_⟩) hHeld ?_
        · go_simp
        simp only [Act.put, List.setIfInBounds_toArray, List.set_cons_zero, List.set_cons_succ]
        refine wpAnyH_take (i := 3) (oi := ({ dst := some 48, op := Go.Op.load 27 (Go.Operand.tmp 47), type := 27, pos := "law.go:132", after := #[{ on := 2, ground := Go.Ground.data }, { on := 1, ground := Go.Ground.guard }], guard := some (1, true) } : Oper)) (v := .agg (ta).toArray) rfl (by kernel_rfl) (by kernel_rfl) (by kernel_rfl) (fun _ _ _ h => h) (yieldsIf_load_mid (by kernel_rfl) _ _ rfl _ _ rfl _ _ (fun W h => RG8.out W h) hu rfl HSa.out) hHeld ?_
        simp only [Act.put, List.setIfInBounds_toArray, List.set_cons_zero, List.set_cons_succ]
        refine wpAnyH_take (i := 4) (oi := ({ dst := some 49, op := Go.Op.load 27 (Go.Operand.tmp 4), type := 27, pos := "law.go:132", after := #[{ on := 1, ground := Go.Ground.guard }], guard := some (1, true) } : Oper)) (v := .agg (ta).toArray) rfl (by kernel_rfl) (by kernel_rfl) (by kernel_rfl) (fun _ _ _ h => h) (yieldsIf_load_mid (by kernel_rfl) _ _ rfl _ _ rfl _ _ (fun W h => RA8.out W h) hu rfl HSa.out) hHeld ?_
        simp only [Act.put, List.setIfInBounds_toArray, List.set_cons_zero, List.set_cons_succ]
        refine wpAnyH_take (i := 5) (oi := ({ dst := some 50, op := Go.Op.binOp Go.BinOp.eql 27 (Go.Operand.tmp 48) (Go.Operand.tmp 49) 27, type := 4, pos := "law.go:132", after := #[{ on := 3, ground := Go.Ground.data }, { on := 4, ground := Go.Ground.data }, { on := 1, ground := Go.Ground.guard }], guard := some (1, true) } : Oper)) (v := .bool true) rfl (by kernel_rfl) (by kernel_rfl) (by kernel_rfl) (fun _ _ _ h => h) (yieldsIf_eql (by kernel_rfl) 27 (.tmp 48) (.tmp 49) 27 rfl ta.toArray ta.toArray true rfl rfl eqGuardAddr (fun W _ => EQA.out W)) hHeld ?_
        simp only [Act.put, List.setIfInBounds_toArray, List.set_cons_zero, List.set_cons_succ]
        refine wpAnyH_take (i := 6) (oi := ({ dst := some 51, op := Go.Op.pick (Go.Operand.tmp 46) (Go.Operand.tmp 50) (Go.Operand.const (Go.Value.bool false)), type := 4, pos := "law.go:132", after := #[{ on := 1, ground := Go.Ground.data }, { on := 5, ground := Go.Ground.data }], guard := none } : Oper)) (v := .bool true) rfl (by kernel_rfl) (by kernel_rfl) (by kernel_rfl) (fun _ _ _ h => h) (Or.inl ⟨by rfl, fun w' _ => ?_⟩) hHeld ?_
        · go_simp
        simp only [Act.put, List.setIfInBounds_toArray, List.set_cons_zero, List.set_cons_succ]
        refine wpAnyH_take (i := 7) (oi := ({ dst := some 52, op := Go.Op.move (Go.Operand.tmp 51), type := 4, pos := "law.go:132", after := #[{ on := 6, ground := Go.Ground.data }, { on := 1, ground := Go.Ground.chain }], guard := none } : Oper)) (v := .bool true) rfl (by kernel_rfl) (by kernel_rfl) (by kernel_rfl) (fun _ _ _ h => h) (Or.inl ⟨by rfl, fun w' _ => ?_⟩) hHeld ?_
        · go_simp
        simp only [Act.put, List.setIfInBounds_toArray, List.set_cons_zero, List.set_cons_succ]
        refine wpAnyH_take (i := 8) (oi := ({ dst := some 53, op := Go.Op.move (Go.Operand.tmp 10), type := 4, pos := "law.go:132", after := #[{ on := 7, ground := Go.Ground.guard }], guard := some (7, true) } : Oper)) (v := .bool false) rfl (by kernel_rfl) (by kernel_rfl) (by kernel_rfl) (fun _ _ _ h => h) (Or.inl ⟨by kernel_rfl, fun w' _ => ?_⟩) hHeld ?_
        · go_simp
        simp only [Act.put, List.setIfInBounds_toArray, List.set_cons_zero, List.set_cons_succ]
        refine wpAnyH_take (i := 9) (oi := ({ dst := some 54, op := Go.Op.unOp Go.UnOp.not 4 (Go.Operand.tmp 53), type := 4, pos := "law.go:132", after := #[{ on := 8, ground := Go.Ground.data }, { on := 7, ground := Go.Ground.guard }], guard := some (7, true) } : Oper)) (v := .bool true) rfl (by kernel_rfl) (by kernel_rfl) (by kernel_rfl) (fun _ _ _ h => h) (Or.inl ⟨by kernel_rfl, fun w' _ => ?_⟩) hHeld ?_
        · go_simp
        simp only [Act.put, List.setIfInBounds_toArray, List.set_cons_zero, List.set_cons_succ]
        refine wpAnyH_take (i := 10) (oi := ({ dst := some 55, op := Go.Op.pick (Go.Operand.tmp 52) (Go.Operand.tmp 54) (Go.Operand.const (Go.Value.bool false)), type := 4, pos := "law.go:132", after := #[{ on := 7, ground := Go.Ground.data }, { on := 9, ground := Go.Ground.data }], guard := none } : Oper)) (v := .bool true) rfl (by kernel_rfl) (by kernel_rfl) (by kernel_rfl) (fun _ _ _ h => h) (Or.inl ⟨by rfl, fun w' _ => ?_⟩) hHeld ?_
        · go_simp
        simp only [Act.put, List.setIfInBounds_toArray, List.set_cons_zero, List.set_cons_succ]
        refine wpAnyH_take (i := 11) (oi := ({ dst := some 56, op := Go.Op.move (Go.Operand.tmp 55), type := 4, pos := "law.go:132", after := #[{ on := 10, ground := Go.Ground.data }, { on := 7, ground := Go.Ground.chain }], guard := none } : Oper)) (v := .bool true) rfl (by kernel_rfl) (by kernel_rfl) (by kernel_rfl) (fun _ _ _ h => h) (Or.inl ⟨by rfl, fun w' _ => ?_⟩) hHeld ?_
        · go_simp
        simp only [Act.put, List.setIfInBounds_toArray, List.set_cons_zero, List.set_cons_succ]
        refine wpAnyH_take (i := 12) (oi := ({ dst := some 57, op := Go.Op.load 42 (Go.Operand.tmp 9), type := 42, pos := "law.go:132", after := #[{ on := 11, ground := Go.Ground.guard }], guard := some (11, true) } : Oper)) (v := .agg (lzc).toArray) rfl (by kernel_rfl) (by kernel_rfl) (by kernel_rfl) (fun _ _ _ h => h) (yieldsIf_load_mid (by kernel_rfl) _ _ rfl _ _ rfl _ _ (fun W h => R98.out W h) hul rfl HSl9.out) hHeld ?_
        simp only [Act.put, List.setIfInBounds_toArray, List.set_cons_zero, List.set_cons_succ]
        refine wpAnyH_take (i := 13) (oi := ({ dst := some 58, op := Go.Op.build 42 #[], type := 42, pos := "law.go:132", after := #[{ on := 11, ground := Go.Ground.guard }], guard := some (11, true) } : Oper)) (v := .agg lzc.toArray) rfl (by kernel_rfl) (by kernel_rfl) (by kernel_rfl) (fun _ _ _ h => h) (yieldsIf_build (by kernel_rfl) _ _ rfl [] lzc.toArray rfl HBZ.out) hHeld ?_
        simp only [Act.put, List.setIfInBounds_toArray, List.set_cons_zero, List.set_cons_succ]
        refine wpAnyH_take (i := 14) (oi := ({ dst := some 59, op := Go.Op.binOp Go.BinOp.eql 42 (Go.Operand.tmp 57) (Go.Operand.tmp 58) 42, type := 4, pos := "law.go:132", after := #[{ on := 12, ground := Go.Ground.data }, { on := 13, ground := Go.Ground.data }, { on := 11, ground := Go.Ground.guard }], guard := some (11, true) } : Oper)) (v := .bool true) rfl (by kernel_rfl) (by kernel_rfl) (by kernel_rfl) (fun _ _ _ h => h) (yieldsIf_eql (by kernel_rfl) 42 (.tmp 57) (.tmp 58) 42 rfl lzc.toArray lzc.toArray true rfl rfl eqGuardLoc (fun W _ => EQL.out W)) hHeld ?_
        simp only [Act.put, List.setIfInBounds_toArray, List.set_cons_zero, List.set_cons_succ]
        refine wpAnyH_take (i := 15) (oi := ({ dst := some 60, op := Go.Op.pick (Go.Operand.tmp 56) (Go.Operand.tmp 59) (Go.Operand.const (Go.Value.bool false)), type := 4, pos := "law.go:132", after := #[{ on := 11, ground := Go.Ground.data }, { on := 14, ground := Go.Ground.data }], guard := none } : Oper)) (v := .bool true) rfl (by kernel_rfl) (by kernel_rfl) (by kernel_rfl) (fun _ _ _ h => h) (Or.inl ⟨by rfl, fun w' _ => ?_⟩) hHeld ?_
        · go_simp
        simp only [Act.put, List.setIfInBounds_toArray, List.set_cons_zero, List.set_cons_succ]
        refine wpAnyH_take (i := 16) (oi := ({ dst := some 61, op := Go.Op.move (Go.Operand.tmp 60), type := 4, pos := "law.go:132", after := #[{ on := 15, ground := Go.Ground.data }, { on := 11, ground := Go.Ground.chain }], guard := none } : Oper)) (v := .bool true) rfl (by kernel_rfl) (by kernel_rfl) (by kernel_rfl) (fun _ _ _ h => h) (Or.inl ⟨by rfl, fun w' _ => ?_⟩) hHeld ?_
        · go_simp
        simp only [Act.put, List.setIfInBounds_toArray, List.set_cons_zero, List.set_cons_succ]
        refine wpAnyH_take (i := 17) (oi := ({ dst := some 62, op := Go.Op.indexAddr 38 (Go.Operand.tmp 11) (Go.Operand.const (Go.Value.int Go.IntKind.i64 0)), type := 0, pos := "law.go:132", after := #[{ on := 16, ground := Go.Ground.guard }], guard := some (16, true) } : Oper)) (v := .pointer (some ⟨P, 0, none⟩)) rfl (by kernel_rfl) (by kernel_rfl) (by kernel_rfl) (fun _ _ _ h => h) (Or.inl ⟨by kernel_rfl, fun w' _ => ?_⟩) hHeld ?_
        · go_simp
        simp only [Act.put, List.setIfInBounds_toArray, List.set_cons_zero, List.set_cons_succ]
        refine wpAnyH_take (i := 18) (oi := ({ dst := some 63, op := Go.Op.load 3 (Go.Operand.tmp 62), type := 3, pos := "law.go:132", after := #[{ on := 17, ground := Go.Ground.data }, { on := 16, ground := Go.Ground.guard }], guard := some (16, true) } : Oper)) (v := .int .i64 0) rfl (by kernel_rfl) (by kernel_rfl) (by kernel_rfl) (fun _ _ _ h => h) (Or.inl ⟨by kernel_rfl, fun w' hS' => ?_⟩) hHeld ?_
        · have hcell := CP0.out _ hS'
          go_simp
        simp only [Act.put, List.setIfInBounds_toArray, List.set_cons_zero, List.set_cons_succ]
        refine wpAnyH_take (i := 19) (oi := ({ dst := some 64, op := Go.Op.binOp Go.BinOp.eql 3 (Go.Operand.tmp 63) (Go.Operand.const (Go.Value.int Go.IntKind.i64 0)) 3, type := 4, pos := "law.go:132", after := #[{ on := 18, ground := Go.Ground.data }, { on := 16, ground := Go.Ground.guard }], guard := some (16, true) } : Oper)) (v := .bool true) rfl (by kernel_rfl) (by kernel_rfl) (by kernel_rfl) (fun _ _ _ h => h) (Or.inl ⟨by kernel_rfl, fun w' _ => ?_⟩) hHeld ?_
        · go_simp
        simp only [Act.put, List.setIfInBounds_toArray, List.set_cons_zero, List.set_cons_succ]
        refine wpAnyH_take (i := 20) (oi := ({ dst := some 65, op := Go.Op.pick (Go.Operand.tmp 61) (Go.Operand.tmp 64) (Go.Operand.const (Go.Value.bool false)), type := 4, pos := "law.go:132", after := #[{ on := 16, ground := Go.Ground.data }, { on := 19, ground := Go.Ground.data }], guard := none } : Oper)) (v := .bool true) rfl (by kernel_rfl) (by kernel_rfl) (by kernel_rfl) (fun _ _ _ h => h) (Or.inl ⟨by rfl, fun w' _ => ?_⟩) hHeld ?_
        · go_simp
        simp only [Act.put, List.setIfInBounds_toArray, List.set_cons_zero, List.set_cons_succ]
        refine wpAnyH_take (i := 21) (oi := ({ dst := some 66, op := Go.Op.move (Go.Operand.tmp 65), type := 4, pos := "law.go:132", after := #[{ on := 20, ground := Go.Ground.data }, { on := 16, ground := Go.Ground.chain }], guard := none } : Oper)) (v := .bool true) rfl (by kernel_rfl) (by kernel_rfl) (by kernel_rfl) (fun _ _ _ h => h) (Or.inl ⟨by rfl, fun w' _ => ?_⟩) hHeld ?_
        · go_simp
        simp only [Act.put, List.setIfInBounds_toArray, List.set_cons_zero, List.set_cons_succ]
        refine wpAnyH_take (i := 22) (oi := ({ dst := some 67, op := Go.Op.indexAddr 38 (Go.Operand.tmp 11) (Go.Operand.const (Go.Value.int Go.IntKind.i64 5)), type := 0, pos := "law.go:132", after := #[{ on := 21, ground := Go.Ground.guard }], guard := some (21, true) } : Oper)) (v := .pointer (some ⟨P, 5, none⟩)) rfl (by kernel_rfl) (by kernel_rfl) (by kernel_rfl) (fun _ _ _ h => h) (Or.inl ⟨by kernel_rfl, fun w' _ => ?_⟩) hHeld ?_
        · go_simp
        simp only [Act.put, List.setIfInBounds_toArray, List.set_cons_zero, List.set_cons_succ]
        refine wpAnyH_take (i := 23) (oi := ({ dst := some 68, op := Go.Op.load 3 (Go.Operand.tmp 67), type := 3, pos := "law.go:132", after := #[{ on := 22, ground := Go.Ground.data }, { on := 21, ground := Go.Ground.guard }], guard := some (21, true) } : Oper)) (v := .int .i64 pa) rfl (by kernel_rfl) (by kernel_rfl) (by kernel_rfl) (fun _ _ _ h => h) (Or.inl ⟨by kernel_rfl, fun w' hS' => ?_⟩) hHeld ?_
        · have hcell := CP5.out _ hS'
          go_simp
        simp only [Act.put, List.setIfInBounds_toArray, List.set_cons_zero, List.set_cons_succ]
        refine wpAnyH_take (i := 24) (oi := ({ dst := some 69, op := Go.Op.move (Go.Operand.tmp 13), type := 3, pos := "law.go:132", after := #[{ on := 21, ground := Go.Ground.guard }], guard := some (21, true) } : Oper)) (v := .int .i64 pa) rfl (by kernel_rfl) (by kernel_rfl) (by kernel_rfl) (fun _ _ _ h => h) (Or.inl ⟨by kernel_rfl, fun w' _ => ?_⟩) hHeld ?_
        · go_simp
        simp only [Act.put, List.setIfInBounds_toArray, List.set_cons_zero, List.set_cons_succ]
        refine wpAnyH_take (i := 25) (oi := ({ dst := some 70, op := Go.Op.binOp Go.BinOp.eql 3 (Go.Operand.tmp 68) (Go.Operand.tmp 69) 3, type := 4, pos := "law.go:132", after := #[{ on := 23, ground := Go.Ground.data }, { on := 24, ground := Go.Ground.data }, { on := 21, ground := Go.Ground.guard }], guard := some (21, true) } : Oper)) (v := .bool true) rfl (by kernel_rfl) (by kernel_rfl) (by kernel_rfl) (fun _ _ _ h => h) (Or.inl ⟨by kernel_rfl, fun w' _ => ?_⟩) hHeld ?_
        · go_simp
        simp only [Act.put, List.setIfInBounds_toArray, List.set_cons_zero, List.set_cons_succ]
        refine wpAnyH_take (i := 26) (oi := ({ dst := some 71, op := Go.Op.pick (Go.Operand.tmp 66) (Go.Operand.tmp 70) (Go.Operand.const (Go.Value.bool false)), type := 4, pos := "law.go:132", after := #[{ on := 21, ground := Go.Ground.data }, { on := 25, ground := Go.Ground.data }], guard := none } : Oper)) (v := .bool true) rfl (by kernel_rfl) (by kernel_rfl) (by kernel_rfl) (fun _ _ _ h => h) (Or.inl ⟨by rfl, fun w' _ => ?_⟩) hHeld ?_
        · go_simp
        simp only [Act.put, List.setIfInBounds_toArray, List.set_cons_zero, List.set_cons_succ]
        refine wpAnyH_take (i := 27) (oi := ({ dst := some 72, op := Go.Op.move (Go.Operand.tmp 71), type := 4, pos := "law.go:132", after := #[{ on := 26, ground := Go.Ground.data }, { on := 21, ground := Go.Ground.chain }], guard := none } : Oper)) (v := .bool true) rfl (by kernel_rfl) (by kernel_rfl) (by kernel_rfl) (fun _ _ _ h => h) (Or.inl ⟨by rfl, fun w' _ => ?_⟩) hHeld ?_
        · go_simp
        simp only [Act.put, List.setIfInBounds_toArray, List.set_cons_zero, List.set_cons_succ]
        refine wpAnyH_take (i := 28) (oi := ({ dst := some 73, op := Go.Op.indexAddr 38 (Go.Operand.tmp 11) (Go.Operand.const (Go.Value.int Go.IntKind.i64 6)), type := 0, pos := "law.go:132", after := #[{ on := 27, ground := Go.Ground.guard }], guard := some (27, true) } : Oper)) (v := .pointer (some ⟨P, 6, none⟩)) rfl (by kernel_rfl) (by kernel_rfl) (by kernel_rfl) (fun _ _ _ h => h) (Or.inl ⟨by kernel_rfl, fun w' _ => ?_⟩) hHeld ?_
        · go_simp
        simp only [Act.put, List.setIfInBounds_toArray, List.set_cons_zero, List.set_cons_succ]
        refine wpAnyH_take (i := 29) (oi := ({ dst := some 74, op := Go.Op.load 3 (Go.Operand.tmp 73), type := 3, pos := "law.go:132", after := #[{ on := 28, ground := Go.Ground.data }, { on := 27, ground := Go.Ground.guard }], guard := some (27, true) } : Oper)) (v := .int .i64 (-(st : Int))) rfl (by kernel_rfl) (by kernel_rfl) (by kernel_rfl) (fun _ _ _ h => h) (Or.inl ⟨by kernel_rfl, fun w' hS' => ?_⟩) hHeld ?_
        · have hcell := CP6.out _ hS'
          go_simp
        simp only [Act.put, List.setIfInBounds_toArray, List.set_cons_zero, List.set_cons_succ]
        refine wpAnyH_take (i := 30) (oi := ({ dst := some 75, op := Go.Op.load 27 (Go.Operand.tmp 4), type := 27, pos := "law.go:132", after := #[{ on := 27, ground := Go.Ground.guard }], guard := some (27, true) } : Oper)) (v := .agg (ta).toArray) rfl (by kernel_rfl) (by kernel_rfl) (by kernel_rfl) (fun _ _ _ h => h) (yieldsIf_load_mid (by kernel_rfl) _ _ rfl _ _ rfl _ _ (fun W h => RA8.out W h) hu rfl HSa.out) hHeld ?_
        simp only [Act.put, List.setIfInBounds_toArray, List.set_cons_zero, List.set_cons_succ]
        refine wpAnyH_ready (rs := [31]) (by kernel_rfl) (by simp) ?_
        refine AllReadyH.cons (o := ({ dst := some 76, op := Go.Op.call { callee := Go.Callee.value (Go.Operand.func 14), args := #[Go.Operand.tmp 75], argTypes := #[27] }, type := 3, pos := "law.go:132", after := #[{ on := 30, ground := Go.Ground.data }, { on := 27, ground := Go.Ground.chain }, { on := 27, ground := Go.Ground.guard }], guard := some (27, true) } : Oper)) rfl (fun K hK => ?_) AllReadyH.nil
        rw [if_pos (by kernel_rfl)]
        go_simp
        go_at_call 14
        refine (SC.out _ hHeld).mono ?_
        rintro e' wc ⟨rfl, hbc⟩
        refine hK.out _ _ (Below.trans hHeld (Below.mono hbc (Below.size hHeld))) (fun hHeld' => ?_)
        clear hK K hbc
        try clear hHeld
        try simp only [Act.put, List.setIfInBounds_toArray, List.set_cons_zero, List.set_cons_succ]
        refine wpAnyH_take (i := 32) (oi := ({ dst := some 77, op := Go.Op.unOp Go.UnOp.neg 3 (Go.Operand.tmp 76), type := 3, pos := "law.go:132", after := #[{ on := 31, ground := Go.Ground.data }, { on := 27, ground := Go.Ground.guard }], guard := some (27, true) } : Oper)) (v := .int .i64 (-(st : Int))) rfl (by kernel_rfl) (by kernel_rfl) (by kernel_rfl) (fun _ _ _ h => h) (Or.inl ⟨by kernel_rfl, fun w' _ => ?_⟩) hHeld' ?_
        · go_simp
        simp only [Act.put, List.setIfInBounds_toArray, List.set_cons_zero, List.set_cons_succ]
        refine wpAnyH_take (i := 33) (oi := ({ dst := some 78, op := Go.Op.binOp Go.BinOp.eql 3 (Go.Operand.tmp 74) (Go.Operand.tmp 77) 3, type := 4, pos := "law.go:132", after := #[{ on := 29, ground := Go.Ground.data }, { on := 32, ground := Go.Ground.data }, { on := 27, ground := Go.Ground.guard }], guard := some (27, true) } : Oper)) (v := .bool true) rfl (by kernel_rfl) (by kernel_rfl) (by kernel_rfl) (fun _ _ _ h => h) (Or.inl ⟨by kernel_rfl, fun w' _ => ?_⟩) hHeld' ?_
        · go_simp
        simp only [Act.put, List.setIfInBounds_toArray, List.set_cons_zero, List.set_cons_succ]
        refine wpAnyH_take (i := 34) (oi := ({ dst := some 79, op := Go.Op.pick (Go.Operand.tmp 72) (Go.Operand.tmp 78) (Go.Operand.const (Go.Value.bool false)), type := 4, pos := "law.go:132", after := #[{ on := 27, ground := Go.Ground.data }, { on := 33, ground := Go.Ground.data }], guard := none } : Oper)) (v := .bool true) rfl (by kernel_rfl) (by kernel_rfl) (by kernel_rfl) (fun _ _ _ h => h) (Or.inl ⟨by rfl, fun w' _ => ?_⟩) hHeld' ?_
        · go_simp
        simp only [Act.put, List.setIfInBounds_toArray, List.set_cons_zero, List.set_cons_succ]
        refine wpAnyH_take (i := 35) (oi := ({ dst := some 80, op := Go.Op.move (Go.Operand.tmp 79), type := 4, pos := "law.go:132", after := #[{ on := 34, ground := Go.Ground.data }, { on := 31, ground := Go.Ground.chain }], guard := none } : Oper)) (v := .bool true) rfl (by kernel_rfl) (by kernel_rfl) (by kernel_rfl) (fun _ _ _ h => h) (Or.inl ⟨by rfl, fun w' _ => ?_⟩) hHeld' ?_
        · go_simp
        simp only [Act.put, List.setIfInBounds_toArray, List.set_cons_zero, List.set_cons_succ]
        refine wpAnyH_take (i := 36) (oi := ({ dst := some 81, op := Go.Op.load 38 (Go.Operand.tmp 11), type := 38, pos := "law.go:132", after := #[{ on := 35, ground := Go.Ground.guard }], guard := some (35, true) } : Oper)) (v := .agg (kac).toArray) rfl (by kernel_rfl) (by kernel_rfl) (by kernel_rfl) (fun _ _ _ h => h) (yieldsIf_load_mid (by kernel_rfl) _ _ rfl _ _ rfl _ _ (fun W h => RP8.out W h) huk rfl HSk.out) hHeld' ?_
        simp only [Act.put, List.setIfInBounds_toArray, List.set_cons_zero, List.set_cons_succ]
        refine wpAnyH_take (i := 37) (oi := ({ dst := some 82, op := Go.Op.load 38 (Go.Operand.tmp 12), type := 38, pos := "law.go:132", after := #[{ on := 35, ground := Go.Ground.guard }], guard := some (35, true) } : Oper)) (v := .agg (kbc).toArray) rfl (by kernel_rfl) (by kernel_rfl) (by kernel_rfl) (fun _ _ _ h => h) (yieldsIf_load_mid (by kernel_rfl) _ _ rfl _ _ rfl _ _ (fun W h => RQ8.out W h) huk rfl HSkb.out) hHeld' ?_
        simp only [Act.put, List.setIfInBounds_toArray, List.set_cons_zero, List.set_cons_succ]
        refine wpAnyH_take (i := 38) (oi := ({ dst := some 83, op := Go.Op.binOp Go.BinOp.eql 38 (Go.Operand.tmp 81) (Go.Operand.tmp 82) 38, type := 4, pos := "law.go:132", after := #[{ on := 36, ground := Go.Ground.data }, { on := 37, ground := Go.Ground.data }, { on := 35, ground := Go.Ground.guard }], guard := some (35, true) } : Oper)) (v := .bool false) rfl (by kernel_rfl) (by kernel_rfl) (by kernel_rfl) (fun _ _ _ h => h) (yieldsIf_eql (by kernel_rfl) 38 (.tmp 81) (.tmp 82) 38 rfl kac.toArray kbc.toArray false rfl rfl eqGuardKey (fun W _ => EQK.out W)) hHeld' ?_
        simp only [Act.put, List.setIfInBounds_toArray, List.set_cons_zero, List.set_cons_succ]
        refine wpAnyH_take (i := 39) (oi := ({ dst := some 84, op := Go.Op.move (Go.Operand.tmp 13), type := 3, pos := "law.go:132", after := #[{ on := 35, ground := Go.Ground.guard }], guard := some (35, true) } : Oper)) (v := .int .i64 pa) rfl (by kernel_rfl) (by kernel_rfl) (by kernel_rfl) (fun _ _ _ h => h) (Or.inl ⟨by kernel_rfl, fun w' _ => ?_⟩) hHeld' ?_
        · go_simp
        simp only [Act.put, List.setIfInBounds_toArray, List.set_cons_zero, List.set_cons_succ]
        refine wpAnyH_take (i := 40) (oi := ({ dst := some 85, op := Go.Op.indexAddr 38 (Go.Operand.tmp 12) (Go.Operand.const (Go.Value.int Go.IntKind.i64 5)), type := 0, pos := "law.go:132", after := #[{ on := 35, ground := Go.Ground.guard }], guard := some (35, true) } : Oper)) (v := .pointer (some ⟨Q, 5, none⟩)) rfl (by kernel_rfl) (by kernel_rfl) (by kernel_rfl) (fun _ _ _ h => h) (Or.inl ⟨by kernel_rfl, fun w' _ => ?_⟩) hHeld' ?_
        · go_simp
        simp only [Act.put, List.setIfInBounds_toArray, List.set_cons_zero, List.set_cons_succ]
        refine wpAnyH_take (i := 41) (oi := ({ dst := some 86, op := Go.Op.load 3 (Go.Operand.tmp 85), type := 3, pos := "law.go:132", after := #[{ on := 40, ground := Go.Ground.data }, { on := 35, ground := Go.Ground.guard }], guard := some (35, true) } : Oper)) (v := .int .i64 pb) rfl (by kernel_rfl) (by kernel_rfl) (by kernel_rfl) (fun _ _ _ h => h) (Or.inl ⟨by kernel_rfl, fun w' hS' => ?_⟩) hHeld' ?_
        · have hcell := CQ5.out _ hS'
          go_simp
        simp only [Act.put, List.setIfInBounds_toArray, List.set_cons_zero, List.set_cons_succ]
        refine wpAnyH_take (i := 42) (oi := ({ dst := some 87, op := Go.Op.binOp Go.BinOp.eql 3 (Go.Operand.tmp 84) (Go.Operand.tmp 86) 3, type := 4, pos := "law.go:132", after := #[{ on := 39, ground := Go.Ground.data }, { on := 41, ground := Go.Ground.data }, { on := 35, ground := Go.Ground.guard }], guard := some (35, true) } : Oper)) (v := .bool (pa == pb)) rfl (by kernel_rfl) (by kernel_rfl) (by kernel_rfl) (fun _ _ _ h => h) (Or.inl ⟨by kernel_rfl, fun w' _ => ?_⟩) hHeld' ?_
        · go_simp
        simp only [Act.put, List.setIfInBounds_toArray, List.set_cons_zero, List.set_cons_succ]
        rw [HPE.out]
        refine wpAnyH_take (i := 43) (oi := ({ dst := some 88, op := Go.Op.move (Go.Operand.tmp 87), type := 4, pos := "law.go:132", after := #[{ on := 42, ground := Go.Ground.data }, { on := 35, ground := Go.Ground.chain }, { on := 35, ground := Go.Ground.guard }], guard := some (35, true) } : Oper)) (v := .bool false) rfl (by kernel_rfl) (by kernel_rfl) (by kernel_rfl) (fun _ _ _ h => h) (Or.inl ⟨by kernel_rfl, fun w' _ => ?_⟩) hHeld' ?_
        · go_simp
        simp only [Act.put, List.setIfInBounds_toArray, List.set_cons_zero, List.set_cons_succ]
        refine wpAnyH_take (i := 44) (oi := ({ dst := some 89, op := Go.Op.indexAddr 38 (Go.Operand.tmp 11) (Go.Operand.const (Go.Value.int Go.IntKind.i64 6)), type := 0, pos := "law.go:132", after := #[{ on := 43, ground := Go.Ground.guard }], guard := some (43, true) } : Oper)) (v := undef) rfl (by kernel_rfl) (by kernel_rfl) (by kernel_rfl) (fun _ _ _ h => h) (.inr ⟨by kernel_rfl, rfl⟩) hHeld' ?_
        simp only [Act.put, List.setIfInBounds_toArray, List.set_cons_zero, List.set_cons_succ]
        refine wpAnyH_take (i := 45) (oi := ({ dst := some 90, op := Go.Op.load 3 (Go.Operand.tmp 89), type := 3, pos := "law.go:132", after := #[{ on := 44, ground := Go.Ground.data }, { on := 43, ground := Go.Ground.guard }], guard := some (43, true) } : Oper)) (v := undef) rfl (by kernel_rfl) (by kernel_rfl) (by kernel_rfl) (fun _ _ _ h => h) (.inr ⟨by kernel_rfl, rfl⟩) hHeld' ?_
        simp only [Act.put, List.setIfInBounds_toArray, List.set_cons_zero, List.set_cons_succ]
        refine wpAnyH_take (i := 46) (oi := ({ dst := some 91, op := Go.Op.indexAddr 38 (Go.Operand.tmp 12) (Go.Operand.const (Go.Value.int Go.IntKind.i64 6)), type := 0, pos := "law.go:132", after := #[{ on := 43, ground := Go.Ground.guard }], guard := some (43, true) } : Oper)) (v := undef) rfl (by kernel_rfl) (by kernel_rfl) (by kernel_rfl) (fun _ _ _ h => h) (.inr ⟨by kernel_rfl, rfl⟩) hHeld' ?_
        simp only [Act.put, List.setIfInBounds_toArray, List.set_cons_zero, List.set_cons_succ]
        refine wpAnyH_take (i := 47) (oi := ({ dst := some 92, op := Go.Op.load 3 (Go.Operand.tmp 91), type := 3, pos := "law.go:132", after := #[{ on := 46, ground := Go.Ground.data }, { on := 43, ground := Go.Ground.guard }], guard := some (43, true) } : Oper)) (v := undef) rfl (by kernel_rfl) (by kernel_rfl) (by kernel_rfl) (fun _ _ _ h => h) (.inr ⟨by kernel_rfl, rfl⟩) hHeld' ?_
        simp only [Act.put, List.setIfInBounds_toArray, List.set_cons_zero, List.set_cons_succ]
        refine wpAnyH_take (i := 48) (oi := ({ dst := some 93, op := Go.Op.binOp Go.BinOp.eql 3 (Go.Operand.tmp 90) (Go.Operand.tmp 92) 3, type := 4, pos := "law.go:132", after := #[{ on := 45, ground := Go.Ground.data }, { on := 47, ground := Go.Ground.data }, { on := 43, ground := Go.Ground.guard }], guard := some (43, true) } : Oper)) (v := undef) rfl (by kernel_rfl) (by kernel_rfl) (by kernel_rfl) (fun _ _ _ h => h) (.inr ⟨by kernel_rfl, rfl⟩) hHeld' ?_
        simp only [Act.put, List.setIfInBounds_toArray, List.set_cons_zero, List.set_cons_succ]
        refine wpAnyH_take (i := 49) (oi := ({ dst := some 94, op := Go.Op.pick (Go.Operand.tmp 88) (Go.Operand.tmp 93) (Go.Operand.const (Go.Value.bool false)), type := 4, pos := "law.go:132", after := #[{ on := 43, ground := Go.Ground.data }, { on := 48, ground := Go.Ground.data }, { on := 35, ground := Go.Ground.guard }], guard := some (35, true) } : Oper)) (v := .bool false) rfl (by kernel_rfl) (by kernel_rfl) (by kernel_rfl) (fun _ _ _ h => h) (Or.inl ⟨by kernel_rfl, fun w' _ => ?_⟩) hHeld' ?_
        · go_simp
        simp only [Act.put, List.setIfInBounds_toArray, List.set_cons_zero, List.set_cons_succ]
        refine wpAnyH_take (i := 50) (oi := ({ dst := some 95, op := Go.Op.binOp Go.BinOp.eql 4 (Go.Operand.tmp 83) (Go.Operand.tmp 94) 4, type := 4, pos := "law.go:132", after := #[{ on := 38, ground := Go.Ground.data }, { on := 49, ground := Go.Ground.data }, { on := 35, ground := Go.Ground.guard }], guard := some (35, true) } : Oper)) (v := .bool true) rfl (by kernel_rfl) (by kernel_rfl) (by kernel_rfl) (fun _ _ _ h => h) (Or.inl ⟨by kernel_rfl, fun w' _ => ?_⟩) hHeld' ?_
        · go_simp
        simp only [Act.put, List.setIfInBounds_toArray, List.set_cons_zero, List.set_cons_succ]
        refine wpAnyH_take (i := 51) (oi := ({ dst := some 96, op := Go.Op.pick (Go.Operand.tmp 80) (Go.Operand.tmp 95) (Go.Operand.const (Go.Value.bool false)), type := 4, pos := "law.go:132", after := #[{ on := 35, ground := Go.Ground.data }, { on := 50, ground := Go.Ground.data }], guard := none } : Oper)) (v := .bool true) rfl (by kernel_rfl) (by kernel_rfl) (by kernel_rfl) (fun _ _ _ h => h) (Or.inl ⟨by rfl, fun w' _ => ?_⟩) hHeld' ?_
        · go_simp
        simp only [Act.put, List.setIfInBounds_toArray, List.set_cons_zero, List.set_cons_succ]
        refine wpAnyH_take (i := 52) (oi := ({ dst := some 97, op := Go.Op.move (Go.Operand.tmp 96), type := 4, pos := "law.go:132", after := #[{ on := 51, ground := Go.Ground.data }, { on := 43, ground := Go.Ground.chain }], guard := none } : Oper)) (v := .bool true) rfl (by kernel_rfl) (by kernel_rfl) (by kernel_rfl) (fun _ _ _ h => h) (Or.inl ⟨by rfl, fun w' _ => ?_⟩) hHeld' ?_
        · go_simp
        simp only [Act.put, List.setIfInBounds_toArray, List.set_cons_zero, List.set_cons_succ]
        refine wpAnyH_take (i := 53) (oi := ({ dst := some 98, op := Go.Op.fieldAddr 42 (Go.Operand.tmp 7) 0, type := 0, pos := "law.go:132", after := #[{ on := 52, ground := Go.Ground.guard }], guard := some (52, true) } : Oper)) (v := .pointer (some ⟨G, 0, none⟩)) rfl (by kernel_rfl) (by kernel_rfl) (by kernel_rfl) (fun _ _ _ h => h) (Or.inl ⟨by kernel_rfl, fun w' _ => ?_⟩) hHeld' ?_
        · go_simp
        simp only [Act.put, List.setIfInBounds_toArray, List.set_cons_zero, List.set_cons_succ]
        refine wpAnyH_take (i := 54) (oi := ({ dst := some 99, op := Go.Op.load 27 (Go.Operand.tmp 98), type := 27, pos := "law.go:132", after := #[{ on := 53, ground := Go.Ground.data }, { on := 52, ground := Go.Ground.guard }], guard := some (52, true) } : Oper)) (v := .agg (ta).toArray) rfl (by kernel_rfl) (by kernel_rfl) (by kernel_rfl) (fun _ _ _ h => h) (yieldsIf_load_mid (by kernel_rfl) _ _ rfl _ _ rfl _ _ (fun W h => RG8.out W h) hu rfl HSa.out) hHeld' ?_
        simp only [Act.put, List.setIfInBounds_toArray, List.set_cons_zero, List.set_cons_succ]
        refine wpAnyH_take (i := 56) (oi := ({ dst := some 101, op := Go.Op.load 27 (Go.Operand.tmp 4), type := 27, pos := "law.go:132", after := #[{ on := 52, ground := Go.Ground.guard }], guard := some (52, true) } : Oper)) (v := .agg (ta).toArray) rfl (by kernel_rfl) (by kernel_rfl) (by kernel_rfl) (fun _ _ _ h => h) (yieldsIf_load_mid (by kernel_rfl) _ _ rfl _ _ rfl _ _ (fun W h => RA8.out W h) hu rfl HSa.out) hHeld' ?_
        simp only [Act.put, List.setIfInBounds_toArray, List.set_cons_zero, List.set_cons_succ]
        refine wpAnyH_ready (rs := [55]) (by kernel_rfl) (by simp) ?_
        refine AllReadyH.cons (o := ({ dst := some 100, op := Go.Op.call { callee := Go.Callee.value (Go.Operand.func 18), args := #[Go.Operand.tmp 99], argTypes := #[27] }, type := 4, pos := "law.go:132", after := #[{ on := 54, ground := Go.Ground.data }, { on := 52, ground := Go.Ground.chain }, { on := 52, ground := Go.Ground.guard }], guard := some (52, true) } : Oper)) rfl (fun K hK => ?_) AllReadyH.nil
        rw [if_pos (by kernel_rfl)]
        go_simp
        go_at_call 18
        refine (IS.out _).mono ?_
        rintro e' wc ⟨rfl, hbc⟩
        refine hK.out _ _ (Below.trans hHeld' (Below.mono hbc (Below.size hHeld'))) (fun hHeld'' => ?_)
        clear hK K hbc
        try clear hHeld'
        try simp only [Act.put, List.setIfInBounds_toArray, List.set_cons_zero, List.set_cons_succ]
        refine wpAnyH_ready (rs := [57]) (by kernel_rfl) (by simp) ?_
        refine AllReadyH.cons (o := ({ dst := some 102, op := Go.Op.call { callee := Go.Callee.value (Go.Operand.func 18), args := #[Go.Operand.tmp 101], argTypes := #[27] }, type := 4, pos := "law.go:132", after := #[{ on := 56, ground := Go.Ground.data }, { on := 55, ground := Go.Ground.chain }, { on := 52, ground := Go.Ground.guard }], guard := some (52, true) } : Oper)) rfl (fun K hK => ?_) AllReadyH.nil
        rw [if_pos (by kernel_rfl)]
        go_simp
        go_at_call 18
        refine (IS.out _).mono ?_
        rintro e' wc ⟨rfl, hbc⟩
        refine hK.out _ _ (Below.trans hHeld'' (Below.mono hbc (Below.size hHeld''))) (fun hHeld''' => ?_)
        clear hK K hbc
        try clear hHeld''
        try simp only [Act.put, List.setIfInBounds_toArray, List.set_cons_zero, List.set_cons_succ]
        refine wpAnyH_take (i := 58) (oi := ({ dst := some 103, op := Go.Op.binOp Go.BinOp.eql 4 (Go.Operand.tmp 100) (Go.Operand.tmp 102) 4, type := 4, pos := "law.go:132", after := #[{ on := 55, ground := Go.Ground.data }, { on := 57, ground := Go.Ground.data }, { on := 52, ground := Go.Ground.guard }], guard := some (52, true) } : Oper)) (v := .bool true) rfl (by kernel_rfl) (by kernel_rfl) (by kernel_rfl) (fun _ _ _ h => h) (Or.inl ⟨by kernel_rfl, fun w' _ => ?_⟩) hHeld''' ?_
        · go_simp
        simp only [Act.put, List.setIfInBounds_toArray, List.set_cons_zero, List.set_cons_succ]
        refine wpAnyH_take (i := 59) (oi := ({ dst := some 104, op := Go.Op.pick (Go.Operand.tmp 97) (Go.Operand.tmp 103) (Go.Operand.const (Go.Value.bool false)), type := 4, pos := "law.go:132", after := #[{ on := 52, ground := Go.Ground.data }, { on := 58, ground := Go.Ground.data }], guard := none } : Oper)) (v := .bool true) rfl (by kernel_rfl) (by kernel_rfl) (by kernel_rfl) (fun _ _ _ h => h) (Or.inl ⟨by rfl, fun w' _ => ?_⟩) hHeld''' ?_
        · go_simp
        simp only [Act.put, List.setIfInBounds_toArray, List.set_cons_zero, List.set_cons_succ]
        refine wpAnyH_take (i := 60) (oi := ({ dst := some 6, op := Go.Op.assign (Go.Operand.tmp 104), type := 4, pos := "law.go:132", after := #[{ on := 59, ground := Go.Ground.data }, { on := 57, ground := Go.Ground.chain }, { on := 0, ground := Go.Ground.phase }, { on := 1, ground := Go.Ground.phase }, { on := 2, ground := Go.Ground.phase }, { on := 3, ground := Go.Ground.phase }, { on := 4, ground := Go.Ground.phase }, { on := 5, ground := Go.Ground.phase }, { on := 6, ground := Go.Ground.phase }, { on := 7, ground := Go.Ground.phase }, { on := 8, ground := Go.Ground.phase }, { on := 9, ground := Go.Ground.phase }, { on := 10, ground := Go.Ground.phase }, { on := 11, ground := Go.Ground.phase }, { on := 12, ground := Go.Ground.phase }, { on := 13, ground := Go.Ground.phase }, { on := 14, ground := Go.Ground.phase }, { on := 15, ground := Go.Ground.phase }, { on := 16, ground := Go.Ground.phase }, { on := 17, ground := Go.Ground.phase }, { on := 18, ground := Go.Ground.phase }, { on := 19, ground := Go.Ground.phase }, { on := 20, ground := Go.Ground.phase }, { on := 21, ground := Go.Ground.phase }, { on := 22, ground := Go.Ground.phase }, { on := 23, ground := Go.Ground.phase }, { on := 24, ground := Go.Ground.phase }, { on := 25, ground := Go.Ground.phase }, { on := 26, ground := Go.Ground.phase }, { on := 27, ground := Go.Ground.phase }, { on := 28, ground := Go.Ground.phase }, { on := 29, ground := Go.Ground.phase }, { on := 30, ground := Go.Ground.phase }, { on := 31, ground := Go.Ground.phase }, { on := 32, ground := Go.Ground.phase }, { on := 33, ground := Go.Ground.phase }, { on := 34, ground := Go.Ground.phase }, { on := 35, ground := Go.Ground.phase }, { on := 36, ground := Go.Ground.phase }, { on := 37, ground := Go.Ground.phase }, { on := 38, ground := Go.Ground.phase }, { on := 39, ground := Go.Ground.phase }, { on := 40, ground := Go.Ground.phase }, { on := 41, ground := Go.Ground.phase }, { on := 42, ground := Go.Ground.phase }, { on := 43, ground := Go.Ground.phase }, { on := 44, ground := Go.Ground.phase }, { on := 45, ground := Go.Ground.phase }, { on := 46, ground := Go.Ground.phase }, { on := 47, ground := Go.Ground.phase }, { on := 48, ground := Go.Ground.phase }, { on := 49, ground := Go.Ground.phase }, { on := 50, ground := Go.Ground.phase }, { on := 51, ground := Go.Ground.phase }, { on := 52, ground := Go.Ground.phase }, { on := 53, ground := Go.Ground.phase }, { on := 54, ground := Go.Ground.phase }, { on := 55, ground := Go.Ground.phase }, { on := 56, ground := Go.Ground.phase }, { on := 57, ground := Go.Ground.phase }, { on := 58, ground := Go.Ground.phase }, { on := 59, ground := Go.Ground.phase }], guard := none } : Oper)) (v := .bool true) rfl (by kernel_rfl) (by kernel_rfl) (by kernel_rfl) (fun _ _ _ h => h) (Or.inl ⟨by rfl, fun w' _ => ?_⟩) hHeld''' ?_
        · go_simp
        simp only [Act.put, List.setIfInBounds_toArray, List.set_cons_zero, List.set_cons_succ]
        refine wpAnyH_done (by kernel_rfl) ?_ _
        try (go_wp2_with fail)
        go_ret
        exact ⟨rfl, HB8.out.trans (Below.mono hHeld''' HB8.out.size)⟩
      | true =>
        cases se with
        | false =>
          refine wp_region_held_drew (S := (fun W : World => Below w8.heap.size w8 W)) (by kernel_rfl) (Below.refl _ w8).drew (fun hHeld => ?_)
          refine wpAnyH_take (i := 0) (oi := ({ dst := some 45, op := Go.Op.move (Go.Operand.tmp 8), type := 4, pos := "law.go:132", after := #[], guard := none } : Oper)) (v := .bool true) rfl (by kernel_rfl) (by kernel_rfl) (by kernel_rfl) (fun _ _ _ h => h) (Or.inl ⟨by rfl, fun w' _ => ?_⟩) hHeld ?_
          · go_simp
          simp only [Act.put, List.setIfInBounds_toArray, List.set_cons_zero, List.set_cons_succ]
          refine wpAnyH_take (i := 1) (oi := ({ dst := some 46, op := Go.Op.move (Go.Operand.tmp 45), type := 4, pos := "law.go:132", after := #[{ on := 0, ground := Go.Ground.data }], guard := none } : Oper)) (v := .bool true) rfl (by kernel_rfl) (by kernel_rfl) (by kernel_rfl) (fun _ _ _ h => h) (Or.inl ⟨by rfl, fun w' _ => ?_⟩) hHeld ?_
          · go_simp
          simp only [Act.put, List.setIfInBounds_toArray, List.set_cons_zero, List.set_cons_succ]
          refine wpAnyH_take (i := 2) (oi := ({ dst := some 47, op := Go.Op.fieldAddr 42 (Go.Operand.tmp 7) 0, type := 0, pos := "law.go:132", after := #[{ on := 1, ground := Go.Ground.guard }], guard := some (1, true) } : Oper)) (v := .pointer (some ⟨G, 0, none⟩)) rfl (by kernel_rfl) (by kernel_rfl) (by kernel_rfl) (fun _ _ _ h => h) (Or.inl ⟨by kernel_rfl, fun w' _ => ?_⟩) hHeld ?_
          · go_simp
          simp only [Act.put, List.setIfInBounds_toArray, List.set_cons_zero, List.set_cons_succ]
          refine wpAnyH_take (i := 3) (oi := ({ dst := some 48, op := Go.Op.load 27 (Go.Operand.tmp 47), type := 27, pos := "law.go:132", after := #[{ on := 2, ground := Go.Ground.data }, { on := 1, ground := Go.Ground.guard }], guard := some (1, true) } : Oper)) (v := .agg (ta).toArray) rfl (by kernel_rfl) (by kernel_rfl) (by kernel_rfl) (fun _ _ _ h => h) (yieldsIf_load_mid (by kernel_rfl) _ _ rfl _ _ rfl _ _ (fun W h => RG8.out W h) hu rfl HSa.out) hHeld ?_
          simp only [Act.put, List.setIfInBounds_toArray, List.set_cons_zero, List.set_cons_succ]
          refine wpAnyH_take (i := 4) (oi := ({ dst := some 49, op := Go.Op.load 27 (Go.Operand.tmp 4), type := 27, pos := "law.go:132", after := #[{ on := 1, ground := Go.Ground.guard }], guard := some (1, true) } : Oper)) (v := .agg (ta).toArray) rfl (by kernel_rfl) (by kernel_rfl) (by kernel_rfl) (fun _ _ _ h => h) (yieldsIf_load_mid (by kernel_rfl) _ _ rfl _ _ rfl _ _ (fun W h => RA8.out W h) hu rfl HSa.out) hHeld ?_
          simp only [Act.put, List.setIfInBounds_toArray, List.set_cons_zero, List.set_cons_succ]
          refine wpAnyH_take (i := 5) (oi := ({ dst := some 50, op := Go.Op.binOp Go.BinOp.eql 27 (Go.Operand.tmp 48) (Go.Operand.tmp 49) 27, type := 4, pos := "law.go:132", after := #[{ on := 3, ground := Go.Ground.data }, { on := 4, ground := Go.Ground.data }, { on := 1, ground := Go.Ground.guard }], guard := some (1, true) } : Oper)) (v := .bool true) rfl (by kernel_rfl) (by kernel_rfl) (by kernel_rfl) (fun _ _ _ h => h) (yieldsIf_eql (by kernel_rfl) 27 (.tmp 48) (.tmp 49) 27 rfl ta.toArray ta.toArray true rfl rfl eqGuardAddr (fun W _ => EQA.out W)) hHeld ?_
          simp only [Act.put, List.setIfInBounds_toArray, List.set_cons_zero, List.set_cons_succ]
          refine wpAnyH_take (i := 6) (oi := ({ dst := some 51, op := Go.Op.pick (Go.Operand.tmp 46) (Go.Operand.tmp 50) (Go.Operand.const (Go.Value.bool false)), type := 4, pos := "law.go:132", after := #[{ on := 1, ground := Go.Ground.data }, { on := 5, ground := Go.Ground.data }], guard := none } : Oper)) (v := .bool true) rfl (by kernel_rfl) (by kernel_rfl) (by kernel_rfl) (fun _ _ _ h => h) (Or.inl ⟨by rfl, fun w' _ => ?_⟩) hHeld ?_
          · go_simp
          simp only [Act.put, List.setIfInBounds_toArray, List.set_cons_zero, List.set_cons_succ]
          refine wpAnyH_take (i := 7) (oi := ({ dst := some 52, op := Go.Op.move (Go.Operand.tmp 51), type := 4, pos := "law.go:132", after := #[{ on := 6, ground := Go.Ground.data }, { on := 1, ground := Go.Ground.chain }], guard := none } : Oper)) (v := .bool true) rfl (by kernel_rfl) (by kernel_rfl) (by kernel_rfl) (fun _ _ _ h => h) (Or.inl ⟨by rfl, fun w' _ => ?_⟩) hHeld ?_
          · go_simp
          simp only [Act.put, List.setIfInBounds_toArray, List.set_cons_zero, List.set_cons_succ]
          refine wpAnyH_take (i := 8) (oi := ({ dst := some 53, op := Go.Op.move (Go.Operand.tmp 10), type := 4, pos := "law.go:132", after := #[{ on := 7, ground := Go.Ground.guard }], guard := some (7, true) } : Oper)) (v := .bool false) rfl (by kernel_rfl) (by kernel_rfl) (by kernel_rfl) (fun _ _ _ h => h) (Or.inl ⟨by kernel_rfl, fun w' _ => ?_⟩) hHeld ?_
          · go_simp
          simp only [Act.put, List.setIfInBounds_toArray, List.set_cons_zero, List.set_cons_succ]
          refine wpAnyH_take (i := 9) (oi := ({ dst := some 54, op := Go.Op.unOp Go.UnOp.not 4 (Go.Operand.tmp 53), type := 4, pos := "law.go:132", after := #[{ on := 8, ground := Go.Ground.data }, { on := 7, ground := Go.Ground.guard }], guard := some (7, true) } : Oper)) (v := .bool true) rfl (by kernel_rfl) (by kernel_rfl) (by kernel_rfl) (fun _ _ _ h => h) (Or.inl ⟨by kernel_rfl, fun w' _ => ?_⟩) hHeld ?_
          · go_simp
          simp only [Act.put, List.setIfInBounds_toArray, List.set_cons_zero, List.set_cons_succ]
          refine wpAnyH_take (i := 10) (oi := ({ dst := some 55, op := Go.Op.pick (Go.Operand.tmp 52) (Go.Operand.tmp 54) (Go.Operand.const (Go.Value.bool false)), type := 4, pos := "law.go:132", after := #[{ on := 7, ground := Go.Ground.data }, { on := 9, ground := Go.Ground.data }], guard := none } : Oper)) (v := .bool true) rfl (by kernel_rfl) (by kernel_rfl) (by kernel_rfl) (fun _ _ _ h => h) (Or.inl ⟨by rfl, fun w' _ => ?_⟩) hHeld ?_
          · go_simp
          simp only [Act.put, List.setIfInBounds_toArray, List.set_cons_zero, List.set_cons_succ]
          refine wpAnyH_take (i := 11) (oi := ({ dst := some 56, op := Go.Op.move (Go.Operand.tmp 55), type := 4, pos := "law.go:132", after := #[{ on := 10, ground := Go.Ground.data }, { on := 7, ground := Go.Ground.chain }], guard := none } : Oper)) (v := .bool true) rfl (by kernel_rfl) (by kernel_rfl) (by kernel_rfl) (fun _ _ _ h => h) (Or.inl ⟨by rfl, fun w' _ => ?_⟩) hHeld ?_
          · go_simp
          simp only [Act.put, List.setIfInBounds_toArray, List.set_cons_zero, List.set_cons_succ]
          refine wpAnyH_take (i := 12) (oi := ({ dst := some 57, op := Go.Op.load 42 (Go.Operand.tmp 9), type := 42, pos := "law.go:132", after := #[{ on := 11, ground := Go.Ground.guard }], guard := some (11, true) } : Oper)) (v := .agg (lzc).toArray) rfl (by kernel_rfl) (by kernel_rfl) (by kernel_rfl) (fun _ _ _ h => h) (yieldsIf_load_mid (by kernel_rfl) _ _ rfl _ _ rfl _ _ (fun W h => R98.out W h) hul rfl HSl9.out) hHeld ?_
          simp only [Act.put, List.setIfInBounds_toArray, List.set_cons_zero, List.set_cons_succ]
          refine wpAnyH_take (i := 13) (oi := ({ dst := some 58, op := Go.Op.build 42 #[], type := 42, pos := "law.go:132", after := #[{ on := 11, ground := Go.Ground.guard }], guard := some (11, true) } : Oper)) (v := .agg lzc.toArray) rfl (by kernel_rfl) (by kernel_rfl) (by kernel_rfl) (fun _ _ _ h => h) (yieldsIf_build (by kernel_rfl) _ _ rfl [] lzc.toArray rfl HBZ.out) hHeld ?_
          simp only [Act.put, List.setIfInBounds_toArray, List.set_cons_zero, List.set_cons_succ]
          refine wpAnyH_take (i := 14) (oi := ({ dst := some 59, op := Go.Op.binOp Go.BinOp.eql 42 (Go.Operand.tmp 57) (Go.Operand.tmp 58) 42, type := 4, pos := "law.go:132", after := #[{ on := 12, ground := Go.Ground.data }, { on := 13, ground := Go.Ground.data }, { on := 11, ground := Go.Ground.guard }], guard := some (11, true) } : Oper)) (v := .bool true) rfl (by kernel_rfl) (by kernel_rfl) (by kernel_rfl) (fun _ _ _ h => h) (yieldsIf_eql (by kernel_rfl) 42 (.tmp 57) (.tmp 58) 42 rfl lzc.toArray lzc.toArray true rfl rfl eqGuardLoc (fun W _ => EQL.out W)) hHeld ?_
          simp only [Act.put, List.setIfInBounds_toArray, List.set_cons_zero, List.set_cons_succ]
          refine wpAnyH_take (i := 15) (oi := ({ dst := some 60, op := Go.Op.pick (Go.Operand.tmp 56) (Go.Operand.tmp 59) (Go.Operand.const (Go.Value.bool false)), type := 4, pos := "law.go:132", after := #[{ on := 11, ground := Go.Ground.data }, { on := 14, ground := Go.Ground.data }], guard := none } : Oper)) (v := .bool true) rfl (by kernel_rfl) (by kernel_rfl) (by kernel_rfl) (fun _ _ _ h => h) (Or.inl ⟨by rfl, fun w' _ => ?_⟩) hHeld ?_
          · go_simp
          simp only [Act.put, List.setIfInBounds_toArray, List.set_cons_zero, List.set_cons_succ]
          refine wpAnyH_take (i := 16) (oi := ({ dst := some 61, op := Go.Op.move (Go.Operand.tmp 60), type := 4, pos := "law.go:132", after := #[{ on := 15, ground := Go.Ground.data }, { on := 11, ground := Go.Ground.chain }], guard := none } : Oper)) (v := .bool true) rfl (by kernel_rfl) (by kernel_rfl) (by kernel_rfl) (fun _ _ _ h => h) (Or.inl ⟨by rfl, fun w' _ => ?_⟩) hHeld ?_
          · go_simp
          simp only [Act.put, List.setIfInBounds_toArray, List.set_cons_zero, List.set_cons_succ]
          refine wpAnyH_take (i := 17) (oi := ({ dst := some 62, op := Go.Op.indexAddr 38 (Go.Operand.tmp 11) (Go.Operand.const (Go.Value.int Go.IntKind.i64 0)), type := 0, pos := "law.go:132", after := #[{ on := 16, ground := Go.Ground.guard }], guard := some (16, true) } : Oper)) (v := .pointer (some ⟨P, 0, none⟩)) rfl (by kernel_rfl) (by kernel_rfl) (by kernel_rfl) (fun _ _ _ h => h) (Or.inl ⟨by kernel_rfl, fun w' _ => ?_⟩) hHeld ?_
          · go_simp
          simp only [Act.put, List.setIfInBounds_toArray, List.set_cons_zero, List.set_cons_succ]
          refine wpAnyH_take (i := 18) (oi := ({ dst := some 63, op := Go.Op.load 3 (Go.Operand.tmp 62), type := 3, pos := "law.go:132", after := #[{ on := 17, ground := Go.Ground.data }, { on := 16, ground := Go.Ground.guard }], guard := some (16, true) } : Oper)) (v := .int .i64 0) rfl (by kernel_rfl) (by kernel_rfl) (by kernel_rfl) (fun _ _ _ h => h) (Or.inl ⟨by kernel_rfl, fun w' hS' => ?_⟩) hHeld ?_
          · have hcell := CP0.out _ hS'
            go_simp
          simp only [Act.put, List.setIfInBounds_toArray, List.set_cons_zero, List.set_cons_succ]
          refine wpAnyH_take (i := 19) (oi := ({ dst := some 64, op := Go.Op.binOp Go.BinOp.eql 3 (Go.Operand.tmp 63) (Go.Operand.const (Go.Value.int Go.IntKind.i64 0)) 3, type := 4, pos := "law.go:132", after := #[{ on := 18, ground := Go.Ground.data }, { on := 16, ground := Go.Ground.guard }], guard := some (16, true) } : Oper)) (v := .bool true) rfl (by kernel_rfl) (by kernel_rfl) (by kernel_rfl) (fun _ _ _ h => h) (Or.inl ⟨by kernel_rfl, fun w' _ => ?_⟩) hHeld ?_
          · go_simp
          simp only [Act.put, List.setIfInBounds_toArray, List.set_cons_zero, List.set_cons_succ]
          refine wpAnyH_take (i := 20) (oi := ({ dst := some 65, op := Go.Op.pick (Go.Operand.tmp 61) (Go.Operand.tmp 64) (Go.Operand.const (Go.Value.bool false)), type := 4, pos := "law.go:132", after := #[{ on := 16, ground := Go.Ground.data }, { on := 19, ground := Go.Ground.data }], guard := none } : Oper)) (v := .bool true) rfl (by kernel_rfl) (by kernel_rfl) (by kernel_rfl) (fun _ _ _ h => h) (Or.inl ⟨by rfl, fun w' _ => ?_⟩) hHeld ?_
          · go_simp
          simp only [Act.put, List.setIfInBounds_toArray, List.set_cons_zero, List.set_cons_succ]
          refine wpAnyH_take (i := 21) (oi := ({ dst := some 66, op := Go.Op.move (Go.Operand.tmp 65), type := 4, pos := "law.go:132", after := #[{ on := 20, ground := Go.Ground.data }, { on := 16, ground := Go.Ground.chain }], guard := none } : Oper)) (v := .bool true) rfl (by kernel_rfl) (by kernel_rfl) (by kernel_rfl) (fun _ _ _ h => h) (Or.inl ⟨by rfl, fun w' _ => ?_⟩) hHeld ?_
          · go_simp
          simp only [Act.put, List.setIfInBounds_toArray, List.set_cons_zero, List.set_cons_succ]
          refine wpAnyH_take (i := 22) (oi := ({ dst := some 67, op := Go.Op.indexAddr 38 (Go.Operand.tmp 11) (Go.Operand.const (Go.Value.int Go.IntKind.i64 5)), type := 0, pos := "law.go:132", after := #[{ on := 21, ground := Go.Ground.guard }], guard := some (21, true) } : Oper)) (v := .pointer (some ⟨P, 5, none⟩)) rfl (by kernel_rfl) (by kernel_rfl) (by kernel_rfl) (fun _ _ _ h => h) (Or.inl ⟨by kernel_rfl, fun w' _ => ?_⟩) hHeld ?_
          · go_simp
          simp only [Act.put, List.setIfInBounds_toArray, List.set_cons_zero, List.set_cons_succ]
          refine wpAnyH_take (i := 23) (oi := ({ dst := some 68, op := Go.Op.load 3 (Go.Operand.tmp 67), type := 3, pos := "law.go:132", after := #[{ on := 22, ground := Go.Ground.data }, { on := 21, ground := Go.Ground.guard }], guard := some (21, true) } : Oper)) (v := .int .i64 pa) rfl (by kernel_rfl) (by kernel_rfl) (by kernel_rfl) (fun _ _ _ h => h) (Or.inl ⟨by kernel_rfl, fun w' hS' => ?_⟩) hHeld ?_
          · have hcell := CP5.out _ hS'
            go_simp
          simp only [Act.put, List.setIfInBounds_toArray, List.set_cons_zero, List.set_cons_succ]
          refine wpAnyH_take (i := 24) (oi := ({ dst := some 69, op := Go.Op.move (Go.Operand.tmp 13), type := 3, pos := "law.go:132", after := #[{ on := 21, ground := Go.Ground.guard }], guard := some (21, true) } : Oper)) (v := .int .i64 pa) rfl (by kernel_rfl) (by kernel_rfl) (by kernel_rfl) (fun _ _ _ h => h) (Or.inl ⟨by kernel_rfl, fun w' _ => ?_⟩) hHeld ?_
          · go_simp
          simp only [Act.put, List.setIfInBounds_toArray, List.set_cons_zero, List.set_cons_succ]
          refine wpAnyH_take (i := 25) (oi := ({ dst := some 70, op := Go.Op.binOp Go.BinOp.eql 3 (Go.Operand.tmp 68) (Go.Operand.tmp 69) 3, type := 4, pos := "law.go:132", after := #[{ on := 23, ground := Go.Ground.data }, { on := 24, ground := Go.Ground.data }, { on := 21, ground := Go.Ground.guard }], guard := some (21, true) } : Oper)) (v := .bool true) rfl (by kernel_rfl) (by kernel_rfl) (by kernel_rfl) (fun _ _ _ h => h) (Or.inl ⟨by kernel_rfl, fun w' _ => ?_⟩) hHeld ?_
          · go_simp
          simp only [Act.put, List.setIfInBounds_toArray, List.set_cons_zero, List.set_cons_succ]
          refine wpAnyH_take (i := 26) (oi := ({ dst := some 71, op := Go.Op.pick (Go.Operand.tmp 66) (Go.Operand.tmp 70) (Go.Operand.const (Go.Value.bool false)), type := 4, pos := "law.go:132", after := #[{ on := 21, ground := Go.Ground.data }, { on := 25, ground := Go.Ground.data }], guard := none } : Oper)) (v := .bool true) rfl (by kernel_rfl) (by kernel_rfl) (by kernel_rfl) (fun _ _ _ h => h) (Or.inl ⟨by rfl, fun w' _ => ?_⟩) hHeld ?_
          · go_simp
          simp only [Act.put, List.setIfInBounds_toArray, List.set_cons_zero, List.set_cons_succ]
          refine wpAnyH_take (i := 27) (oi := ({ dst := some 72, op := Go.Op.move (Go.Operand.tmp 71), type := 4, pos := "law.go:132", after := #[{ on := 26, ground := Go.Ground.data }, { on := 21, ground := Go.Ground.chain }], guard := none } : Oper)) (v := .bool true) rfl (by kernel_rfl) (by kernel_rfl) (by kernel_rfl) (fun _ _ _ h => h) (Or.inl ⟨by rfl, fun w' _ => ?_⟩) hHeld ?_
          · go_simp
          simp only [Act.put, List.setIfInBounds_toArray, List.set_cons_zero, List.set_cons_succ]
          refine wpAnyH_take (i := 28) (oi := ({ dst := some 73, op := Go.Op.indexAddr 38 (Go.Operand.tmp 11) (Go.Operand.const (Go.Value.int Go.IntKind.i64 6)), type := 0, pos := "law.go:132", after := #[{ on := 27, ground := Go.Ground.guard }], guard := some (27, true) } : Oper)) (v := .pointer (some ⟨P, 6, none⟩)) rfl (by kernel_rfl) (by kernel_rfl) (by kernel_rfl) (fun _ _ _ h => h) (Or.inl ⟨by kernel_rfl, fun w' _ => ?_⟩) hHeld ?_
          · go_simp
          simp only [Act.put, List.setIfInBounds_toArray, List.set_cons_zero, List.set_cons_succ]
          refine wpAnyH_take (i := 29) (oi := ({ dst := some 74, op := Go.Op.load 3 (Go.Operand.tmp 73), type := 3, pos := "law.go:132", after := #[{ on := 28, ground := Go.Ground.data }, { on := 27, ground := Go.Ground.guard }], guard := some (27, true) } : Oper)) (v := .int .i64 (-(st : Int))) rfl (by kernel_rfl) (by kernel_rfl) (by kernel_rfl) (fun _ _ _ h => h) (Or.inl ⟨by kernel_rfl, fun w' hS' => ?_⟩) hHeld ?_
          · have hcell := CP6.out _ hS'
            go_simp
          simp only [Act.put, List.setIfInBounds_toArray, List.set_cons_zero, List.set_cons_succ]
          refine wpAnyH_take (i := 30) (oi := ({ dst := some 75, op := Go.Op.load 27 (Go.Operand.tmp 4), type := 27, pos := "law.go:132", after := #[{ on := 27, ground := Go.Ground.guard }], guard := some (27, true) } : Oper)) (v := .agg (ta).toArray) rfl (by kernel_rfl) (by kernel_rfl) (by kernel_rfl) (fun _ _ _ h => h) (yieldsIf_load_mid (by kernel_rfl) _ _ rfl _ _ rfl _ _ (fun W h => RA8.out W h) hu rfl HSa.out) hHeld ?_
          simp only [Act.put, List.setIfInBounds_toArray, List.set_cons_zero, List.set_cons_succ]
          refine wpAnyH_ready (rs := [31]) (by kernel_rfl) (by simp) ?_
          refine AllReadyH.cons (o := ({ dst := some 76, op := Go.Op.call { callee := Go.Callee.value (Go.Operand.func 14), args := #[Go.Operand.tmp 75], argTypes := #[27] }, type := 3, pos := "law.go:132", after := #[{ on := 30, ground := Go.Ground.data }, { on := 27, ground := Go.Ground.chain }, { on := 27, ground := Go.Ground.guard }], guard := some (27, true) } : Oper)) rfl (fun K hK => ?_) AllReadyH.nil
          rw [if_pos (by kernel_rfl)]
          go_simp
          go_at_call 14
          refine (SC.out _ hHeld).mono ?_
          rintro e' wc ⟨rfl, hbc⟩
          refine hK.out _ _ (Below.trans hHeld (Below.mono hbc (Below.size hHeld))) (fun hHeld' => ?_)
          clear hK K hbc
          try clear hHeld
          try simp only [Act.put, List.setIfInBounds_toArray, List.set_cons_zero, List.set_cons_succ]
          refine wpAnyH_take (i := 32) (oi := ({ dst := some 77, op := Go.Op.unOp Go.UnOp.neg 3 (Go.Operand.tmp 76), type := 3, pos := "law.go:132", after := #[{ on := 31, ground := Go.Ground.data }, { on := 27, ground := Go.Ground.guard }], guard := some (27, true) } : Oper)) (v := .int .i64 (-(st : Int))) rfl (by kernel_rfl) (by kernel_rfl) (by kernel_rfl) (fun _ _ _ h => h) (Or.inl ⟨by kernel_rfl, fun w' _ => ?_⟩) hHeld' ?_
          · go_simp
          simp only [Act.put, List.setIfInBounds_toArray, List.set_cons_zero, List.set_cons_succ]
          refine wpAnyH_take (i := 33) (oi := ({ dst := some 78, op := Go.Op.binOp Go.BinOp.eql 3 (Go.Operand.tmp 74) (Go.Operand.tmp 77) 3, type := 4, pos := "law.go:132", after := #[{ on := 29, ground := Go.Ground.data }, { on := 32, ground := Go.Ground.data }, { on := 27, ground := Go.Ground.guard }], guard := some (27, true) } : Oper)) (v := .bool true) rfl (by kernel_rfl) (by kernel_rfl) (by kernel_rfl) (fun _ _ _ h => h) (Or.inl ⟨by kernel_rfl, fun w' _ => ?_⟩) hHeld' ?_
          · go_simp
          simp only [Act.put, List.setIfInBounds_toArray, List.set_cons_zero, List.set_cons_succ]
          refine wpAnyH_take (i := 34) (oi := ({ dst := some 79, op := Go.Op.pick (Go.Operand.tmp 72) (Go.Operand.tmp 78) (Go.Operand.const (Go.Value.bool false)), type := 4, pos := "law.go:132", after := #[{ on := 27, ground := Go.Ground.data }, { on := 33, ground := Go.Ground.data }], guard := none } : Oper)) (v := .bool true) rfl (by kernel_rfl) (by kernel_rfl) (by kernel_rfl) (fun _ _ _ h => h) (Or.inl ⟨by rfl, fun w' _ => ?_⟩) hHeld' ?_
          · go_simp
          simp only [Act.put, List.setIfInBounds_toArray, List.set_cons_zero, List.set_cons_succ]
          refine wpAnyH_take (i := 35) (oi := ({ dst := some 80, op := Go.Op.move (Go.Operand.tmp 79), type := 4, pos := "law.go:132", after := #[{ on := 34, ground := Go.Ground.data }, { on := 31, ground := Go.Ground.chain }], guard := none } : Oper)) (v := .bool true) rfl (by kernel_rfl) (by kernel_rfl) (by kernel_rfl) (fun _ _ _ h => h) (Or.inl ⟨by rfl, fun w' _ => ?_⟩) hHeld' ?_
          · go_simp
          simp only [Act.put, List.setIfInBounds_toArray, List.set_cons_zero, List.set_cons_succ]
          refine wpAnyH_take (i := 36) (oi := ({ dst := some 81, op := Go.Op.load 38 (Go.Operand.tmp 11), type := 38, pos := "law.go:132", after := #[{ on := 35, ground := Go.Ground.guard }], guard := some (35, true) } : Oper)) (v := .agg (kac).toArray) rfl (by kernel_rfl) (by kernel_rfl) (by kernel_rfl) (fun _ _ _ h => h) (yieldsIf_load_mid (by kernel_rfl) _ _ rfl _ _ rfl _ _ (fun W h => RP8.out W h) huk rfl HSk.out) hHeld' ?_
          simp only [Act.put, List.setIfInBounds_toArray, List.set_cons_zero, List.set_cons_succ]
          refine wpAnyH_take (i := 37) (oi := ({ dst := some 82, op := Go.Op.load 38 (Go.Operand.tmp 12), type := 38, pos := "law.go:132", after := #[{ on := 35, ground := Go.Ground.guard }], guard := some (35, true) } : Oper)) (v := .agg (kbc).toArray) rfl (by kernel_rfl) (by kernel_rfl) (by kernel_rfl) (fun _ _ _ h => h) (yieldsIf_load_mid (by kernel_rfl) _ _ rfl _ _ rfl _ _ (fun W h => RQ8.out W h) huk rfl HSkb.out) hHeld' ?_
          simp only [Act.put, List.setIfInBounds_toArray, List.set_cons_zero, List.set_cons_succ]
          refine wpAnyH_take (i := 38) (oi := ({ dst := some 83, op := Go.Op.binOp Go.BinOp.eql 38 (Go.Operand.tmp 81) (Go.Operand.tmp 82) 38, type := 4, pos := "law.go:132", after := #[{ on := 36, ground := Go.Ground.data }, { on := 37, ground := Go.Ground.data }, { on := 35, ground := Go.Ground.guard }], guard := some (35, true) } : Oper)) (v := .bool false) rfl (by kernel_rfl) (by kernel_rfl) (by kernel_rfl) (fun _ _ _ h => h) (yieldsIf_eql (by kernel_rfl) 38 (.tmp 81) (.tmp 82) 38 rfl kac.toArray kbc.toArray false rfl rfl eqGuardKey (fun W _ => EQK.out W)) hHeld' ?_
          simp only [Act.put, List.setIfInBounds_toArray, List.set_cons_zero, List.set_cons_succ]
          refine wpAnyH_take (i := 39) (oi := ({ dst := some 84, op := Go.Op.move (Go.Operand.tmp 13), type := 3, pos := "law.go:132", after := #[{ on := 35, ground := Go.Ground.guard }], guard := some (35, true) } : Oper)) (v := .int .i64 pa) rfl (by kernel_rfl) (by kernel_rfl) (by kernel_rfl) (fun _ _ _ h => h) (Or.inl ⟨by kernel_rfl, fun w' _ => ?_⟩) hHeld' ?_
          · go_simp
          simp only [Act.put, List.setIfInBounds_toArray, List.set_cons_zero, List.set_cons_succ]
          refine wpAnyH_take (i := 40) (oi := ({ dst := some 85, op := Go.Op.indexAddr 38 (Go.Operand.tmp 12) (Go.Operand.const (Go.Value.int Go.IntKind.i64 5)), type := 0, pos := "law.go:132", after := #[{ on := 35, ground := Go.Ground.guard }], guard := some (35, true) } : Oper)) (v := .pointer (some ⟨Q, 5, none⟩)) rfl (by kernel_rfl) (by kernel_rfl) (by kernel_rfl) (fun _ _ _ h => h) (Or.inl ⟨by kernel_rfl, fun w' _ => ?_⟩) hHeld' ?_
          · go_simp
          simp only [Act.put, List.setIfInBounds_toArray, List.set_cons_zero, List.set_cons_succ]
          refine wpAnyH_take (i := 41) (oi := ({ dst := some 86, op := Go.Op.load 3 (Go.Operand.tmp 85), type := 3, pos := "law.go:132", after := #[{ on := 40, ground := Go.Ground.data }, { on := 35, ground := Go.Ground.guard }], guard := some (35, true) } : Oper)) (v := .int .i64 pb) rfl (by kernel_rfl) (by kernel_rfl) (by kernel_rfl) (fun _ _ _ h => h) (Or.inl ⟨by kernel_rfl, fun w' hS' => ?_⟩) hHeld' ?_
          · have hcell := CQ5.out _ hS'
            go_simp
          simp only [Act.put, List.setIfInBounds_toArray, List.set_cons_zero, List.set_cons_succ]
          refine wpAnyH_take (i := 42) (oi := ({ dst := some 87, op := Go.Op.binOp Go.BinOp.eql 3 (Go.Operand.tmp 84) (Go.Operand.tmp 86) 3, type := 4, pos := "law.go:132", after := #[{ on := 39, ground := Go.Ground.data }, { on := 41, ground := Go.Ground.data }, { on := 35, ground := Go.Ground.guard }], guard := some (35, true) } : Oper)) (v := .bool (pa == pb)) rfl (by kernel_rfl) (by kernel_rfl) (by kernel_rfl) (fun _ _ _ h => h) (Or.inl ⟨by kernel_rfl, fun w' _ => ?_⟩) hHeld' ?_
          · go_simp
          simp only [Act.put, List.setIfInBounds_toArray, List.set_cons_zero, List.set_cons_succ]
          rw [HPE.out]
          refine wpAnyH_take (i := 43) (oi := ({ dst := some 88, op := Go.Op.move (Go.Operand.tmp 87), type := 4, pos := "law.go:132", after := #[{ on := 42, ground := Go.Ground.data }, { on := 35, ground := Go.Ground.chain }, { on := 35, ground := Go.Ground.guard }], guard := some (35, true) } : Oper)) (v := .bool true) rfl (by kernel_rfl) (by kernel_rfl) (by kernel_rfl) (fun _ _ _ h => h) (Or.inl ⟨by kernel_rfl, fun w' _ => ?_⟩) hHeld' ?_
          · go_simp
          simp only [Act.put, List.setIfInBounds_toArray, List.set_cons_zero, List.set_cons_succ]
          refine wpAnyH_take (i := 44) (oi := ({ dst := some 89, op := Go.Op.indexAddr 38 (Go.Operand.tmp 11) (Go.Operand.const (Go.Value.int Go.IntKind.i64 6)), type := 0, pos := "law.go:132", after := #[{ on := 43, ground := Go.Ground.guard }], guard := some (43, true) } : Oper)) (v := .pointer (some ⟨P, 6, none⟩)) rfl (by kernel_rfl) (by kernel_rfl) (by kernel_rfl) (fun _ _ _ h => h) (Or.inl ⟨by kernel_rfl, fun w' _ => ?_⟩) hHeld' ?_
          · go_simp
          simp only [Act.put, List.setIfInBounds_toArray, List.set_cons_zero, List.set_cons_succ]
          refine wpAnyH_take (i := 45) (oi := ({ dst := some 90, op := Go.Op.load 3 (Go.Operand.tmp 89), type := 3, pos := "law.go:132", after := #[{ on := 44, ground := Go.Ground.data }, { on := 43, ground := Go.Ground.guard }], guard := some (43, true) } : Oper)) (v := .int .i64 (-(st : Int))) rfl (by kernel_rfl) (by kernel_rfl) (by kernel_rfl) (fun _ _ _ h => h) (Or.inl ⟨by kernel_rfl, fun w' hS' => ?_⟩) hHeld' ?_
          · have hcell := CP6.out _ hS'
            go_simp
          simp only [Act.put, List.setIfInBounds_toArray, List.set_cons_zero, List.set_cons_succ]
          refine wpAnyH_take (i := 46) (oi := ({ dst := some 91, op := Go.Op.indexAddr 38 (Go.Operand.tmp 12) (Go.Operand.const (Go.Value.int Go.IntKind.i64 6)), type := 0, pos := "law.go:132", after := #[{ on := 43, ground := Go.Ground.guard }], guard := some (43, true) } : Oper)) (v := .pointer (some ⟨Q, 6, none⟩)) rfl (by kernel_rfl) (by kernel_rfl) (by kernel_rfl) (fun _ _ _ h => h) (Or.inl ⟨by kernel_rfl, fun w' _ => ?_⟩) hHeld' ?_
          · go_simp
          simp only [Act.put, List.setIfInBounds_toArray, List.set_cons_zero, List.set_cons_succ]
          refine wpAnyH_take (i := 47) (oi := ({ dst := some 92, op := Go.Op.load 3 (Go.Operand.tmp 91), type := 3, pos := "law.go:132", after := #[{ on := 46, ground := Go.Ground.data }, { on := 43, ground := Go.Ground.guard }], guard := some (43, true) } : Oper)) (v := .int .i64 nb) rfl (by kernel_rfl) (by kernel_rfl) (by kernel_rfl) (fun _ _ _ h => h) (Or.inl ⟨by kernel_rfl, fun w' hS' => ?_⟩) hHeld' ?_
          · have hcell := CQ6.out _ hS'
            go_simp
          simp only [Act.put, List.setIfInBounds_toArray, List.set_cons_zero, List.set_cons_succ]
          refine wpAnyH_take (i := 48) (oi := ({ dst := some 93, op := Go.Op.binOp Go.BinOp.eql 3 (Go.Operand.tmp 90) (Go.Operand.tmp 92) 3, type := 4, pos := "law.go:132", after := #[{ on := 45, ground := Go.Ground.data }, { on := 47, ground := Go.Ground.data }, { on := 43, ground := Go.Ground.guard }], guard := some (43, true) } : Oper)) (v := .bool (-(st : Int) == nb)) rfl (by kernel_rfl) (by kernel_rfl) (by kernel_rfl) (fun _ _ _ h => h) (Or.inl ⟨by kernel_rfl, fun w' _ => ?_⟩) hHeld' ?_
          · go_simp
          simp only [Act.put, List.setIfInBounds_toArray, List.set_cons_zero, List.set_cons_succ]
          rw [HSE.out]
          refine wpAnyH_take (i := 49) (oi := ({ dst := some 94, op := Go.Op.pick (Go.Operand.tmp 88) (Go.Operand.tmp 93) (Go.Operand.const (Go.Value.bool false)), type := 4, pos := "law.go:132", after := #[{ on := 43, ground := Go.Ground.data }, { on := 48, ground := Go.Ground.data }, { on := 35, ground := Go.Ground.guard }], guard := some (35, true) } : Oper)) (v := .bool false) rfl (by kernel_rfl) (by kernel_rfl) (by kernel_rfl) (fun _ _ _ h => h) (Or.inl ⟨by kernel_rfl, fun w' _ => ?_⟩) hHeld' ?_
          · go_simp
          simp only [Act.put, List.setIfInBounds_toArray, List.set_cons_zero, List.set_cons_succ]
          refine wpAnyH_take (i := 50) (oi := ({ dst := some 95, op := Go.Op.binOp Go.BinOp.eql 4 (Go.Operand.tmp 83) (Go.Operand.tmp 94) 4, type := 4, pos := "law.go:132", after := #[{ on := 38, ground := Go.Ground.data }, { on := 49, ground := Go.Ground.data }, { on := 35, ground := Go.Ground.guard }], guard := some (35, true) } : Oper)) (v := .bool true) rfl (by kernel_rfl) (by kernel_rfl) (by kernel_rfl) (fun _ _ _ h => h) (Or.inl ⟨by kernel_rfl, fun w' _ => ?_⟩) hHeld' ?_
          · go_simp
          simp only [Act.put, List.setIfInBounds_toArray, List.set_cons_zero, List.set_cons_succ]
          refine wpAnyH_take (i := 51) (oi := ({ dst := some 96, op := Go.Op.pick (Go.Operand.tmp 80) (Go.Operand.tmp 95) (Go.Operand.const (Go.Value.bool false)), type := 4, pos := "law.go:132", after := #[{ on := 35, ground := Go.Ground.data }, { on := 50, ground := Go.Ground.data }], guard := none } : Oper)) (v := .bool true) rfl (by kernel_rfl) (by kernel_rfl) (by kernel_rfl) (fun _ _ _ h => h) (Or.inl ⟨by rfl, fun w' _ => ?_⟩) hHeld' ?_
          · go_simp
          simp only [Act.put, List.setIfInBounds_toArray, List.set_cons_zero, List.set_cons_succ]
          refine wpAnyH_take (i := 52) (oi := ({ dst := some 97, op := Go.Op.move (Go.Operand.tmp 96), type := 4, pos := "law.go:132", after := #[{ on := 51, ground := Go.Ground.data }, { on := 43, ground := Go.Ground.chain }], guard := none } : Oper)) (v := .bool true) rfl (by kernel_rfl) (by kernel_rfl) (by kernel_rfl) (fun _ _ _ h => h) (Or.inl ⟨by rfl, fun w' _ => ?_⟩) hHeld' ?_
          · go_simp
          simp only [Act.put, List.setIfInBounds_toArray, List.set_cons_zero, List.set_cons_succ]
          refine wpAnyH_take (i := 53) (oi := ({ dst := some 98, op := Go.Op.fieldAddr 42 (Go.Operand.tmp 7) 0, type := 0, pos := "law.go:132", after := #[{ on := 52, ground := Go.Ground.guard }], guard := some (52, true) } : Oper)) (v := .pointer (some ⟨G, 0, none⟩)) rfl (by kernel_rfl) (by kernel_rfl) (by kernel_rfl) (fun _ _ _ h => h) (Or.inl ⟨by kernel_rfl, fun w' _ => ?_⟩) hHeld' ?_
          · go_simp
          simp only [Act.put, List.setIfInBounds_toArray, List.set_cons_zero, List.set_cons_succ]
          refine wpAnyH_take (i := 54) (oi := ({ dst := some 99, op := Go.Op.load 27 (Go.Operand.tmp 98), type := 27, pos := "law.go:132", after := #[{ on := 53, ground := Go.Ground.data }, { on := 52, ground := Go.Ground.guard }], guard := some (52, true) } : Oper)) (v := .agg (ta).toArray) rfl (by kernel_rfl) (by kernel_rfl) (by kernel_rfl) (fun _ _ _ h => h) (yieldsIf_load_mid (by kernel_rfl) _ _ rfl _ _ rfl _ _ (fun W h => RG8.out W h) hu rfl HSa.out) hHeld' ?_
          simp only [Act.put, List.setIfInBounds_toArray, List.set_cons_zero, List.set_cons_succ]
          refine wpAnyH_take (i := 56) (oi := ({ dst := some 101, op := Go.Op.load 27 (Go.Operand.tmp 4), type := 27, pos := "law.go:132", after := #[{ on := 52, ground := Go.Ground.guard }], guard := some (52, true) } : Oper)) (v := .agg (ta).toArray) rfl (by kernel_rfl) (by kernel_rfl) (by kernel_rfl) (fun _ _ _ h => h) (yieldsIf_load_mid (by kernel_rfl) _ _ rfl _ _ rfl _ _ (fun W h => RA8.out W h) hu rfl HSa.out) hHeld' ?_
          simp only [Act.put, List.setIfInBounds_toArray, List.set_cons_zero, List.set_cons_succ]
          refine wpAnyH_ready (rs := [55]) (by kernel_rfl) (by simp) ?_
          refine AllReadyH.cons (o := ({ dst := some 100, op := Go.Op.call { callee := Go.Callee.value (Go.Operand.func 18), args := #[Go.Operand.tmp 99], argTypes := #[27] }, type := 4, pos := "law.go:132", after := #[{ on := 54, ground := Go.Ground.data }, { on := 52, ground := Go.Ground.chain }, { on := 52, ground := Go.Ground.guard }], guard := some (52, true) } : Oper)) rfl (fun K hK => ?_) AllReadyH.nil
          rw [if_pos (by kernel_rfl)]
          go_simp
          go_at_call 18
          refine (IS.out _).mono ?_
          rintro e' wc ⟨rfl, hbc⟩
          refine hK.out _ _ (Below.trans hHeld' (Below.mono hbc (Below.size hHeld'))) (fun hHeld'' => ?_)
          clear hK K hbc
          try clear hHeld'
          try simp only [Act.put, List.setIfInBounds_toArray, List.set_cons_zero, List.set_cons_succ]
          refine wpAnyH_ready (rs := [57]) (by kernel_rfl) (by simp) ?_
          refine AllReadyH.cons (o := ({ dst := some 102, op := Go.Op.call { callee := Go.Callee.value (Go.Operand.func 18), args := #[Go.Operand.tmp 101], argTypes := #[27] }, type := 4, pos := "law.go:132", after := #[{ on := 56, ground := Go.Ground.data }, { on := 55, ground := Go.Ground.chain }, { on := 52, ground := Go.Ground.guard }], guard := some (52, true) } : Oper)) rfl (fun K hK => ?_) AllReadyH.nil
          rw [if_pos (by kernel_rfl)]
          go_simp
          go_at_call 18
          refine (IS.out _).mono ?_
          rintro e' wc ⟨rfl, hbc⟩
          refine hK.out _ _ (Below.trans hHeld'' (Below.mono hbc (Below.size hHeld''))) (fun hHeld''' => ?_)
          clear hK K hbc
          try clear hHeld''
          try simp only [Act.put, List.setIfInBounds_toArray, List.set_cons_zero, List.set_cons_succ]
          refine wpAnyH_take (i := 58) (oi := ({ dst := some 103, op := Go.Op.binOp Go.BinOp.eql 4 (Go.Operand.tmp 100) (Go.Operand.tmp 102) 4, type := 4, pos := "law.go:132", after := #[{ on := 55, ground := Go.Ground.data }, { on := 57, ground := Go.Ground.data }, { on := 52, ground := Go.Ground.guard }], guard := some (52, true) } : Oper)) (v := .bool true) rfl (by kernel_rfl) (by kernel_rfl) (by kernel_rfl) (fun _ _ _ h => h) (Or.inl ⟨by kernel_rfl, fun w' _ => ?_⟩) hHeld''' ?_
          · go_simp
          simp only [Act.put, List.setIfInBounds_toArray, List.set_cons_zero, List.set_cons_succ]
          refine wpAnyH_take (i := 59) (oi := ({ dst := some 104, op := Go.Op.pick (Go.Operand.tmp 97) (Go.Operand.tmp 103) (Go.Operand.const (Go.Value.bool false)), type := 4, pos := "law.go:132", after := #[{ on := 52, ground := Go.Ground.data }, { on := 58, ground := Go.Ground.data }], guard := none } : Oper)) (v := .bool true) rfl (by kernel_rfl) (by kernel_rfl) (by kernel_rfl) (fun _ _ _ h => h) (Or.inl ⟨by rfl, fun w' _ => ?_⟩) hHeld''' ?_
          · go_simp
          simp only [Act.put, List.setIfInBounds_toArray, List.set_cons_zero, List.set_cons_succ]
          refine wpAnyH_take (i := 60) (oi := ({ dst := some 6, op := Go.Op.assign (Go.Operand.tmp 104), type := 4, pos := "law.go:132", after := #[{ on := 59, ground := Go.Ground.data }, { on := 57, ground := Go.Ground.chain }, { on := 0, ground := Go.Ground.phase }, { on := 1, ground := Go.Ground.phase }, { on := 2, ground := Go.Ground.phase }, { on := 3, ground := Go.Ground.phase }, { on := 4, ground := Go.Ground.phase }, { on := 5, ground := Go.Ground.phase }, { on := 6, ground := Go.Ground.phase }, { on := 7, ground := Go.Ground.phase }, { on := 8, ground := Go.Ground.phase }, { on := 9, ground := Go.Ground.phase }, { on := 10, ground := Go.Ground.phase }, { on := 11, ground := Go.Ground.phase }, { on := 12, ground := Go.Ground.phase }, { on := 13, ground := Go.Ground.phase }, { on := 14, ground := Go.Ground.phase }, { on := 15, ground := Go.Ground.phase }, { on := 16, ground := Go.Ground.phase }, { on := 17, ground := Go.Ground.phase }, { on := 18, ground := Go.Ground.phase }, { on := 19, ground := Go.Ground.phase }, { on := 20, ground := Go.Ground.phase }, { on := 21, ground := Go.Ground.phase }, { on := 22, ground := Go.Ground.phase }, { on := 23, ground := Go.Ground.phase }, { on := 24, ground := Go.Ground.phase }, { on := 25, ground := Go.Ground.phase }, { on := 26, ground := Go.Ground.phase }, { on := 27, ground := Go.Ground.phase }, { on := 28, ground := Go.Ground.phase }, { on := 29, ground := Go.Ground.phase }, { on := 30, ground := Go.Ground.phase }, { on := 31, ground := Go.Ground.phase }, { on := 32, ground := Go.Ground.phase }, { on := 33, ground := Go.Ground.phase }, { on := 34, ground := Go.Ground.phase }, { on := 35, ground := Go.Ground.phase }, { on := 36, ground := Go.Ground.phase }, { on := 37, ground := Go.Ground.phase }, { on := 38, ground := Go.Ground.phase }, { on := 39, ground := Go.Ground.phase }, { on := 40, ground := Go.Ground.phase }, { on := 41, ground := Go.Ground.phase }, { on := 42, ground := Go.Ground.phase }, { on := 43, ground := Go.Ground.phase }, { on := 44, ground := Go.Ground.phase }, { on := 45, ground := Go.Ground.phase }, { on := 46, ground := Go.Ground.phase }, { on := 47, ground := Go.Ground.phase }, { on := 48, ground := Go.Ground.phase }, { on := 49, ground := Go.Ground.phase }, { on := 50, ground := Go.Ground.phase }, { on := 51, ground := Go.Ground.phase }, { on := 52, ground := Go.Ground.phase }, { on := 53, ground := Go.Ground.phase }, { on := 54, ground := Go.Ground.phase }, { on := 55, ground := Go.Ground.phase }, { on := 56, ground := Go.Ground.phase }, { on := 57, ground := Go.Ground.phase }, { on := 58, ground := Go.Ground.phase }, { on := 59, ground := Go.Ground.phase }], guard := none } : Oper)) (v := .bool true) rfl (by kernel_rfl) (by kernel_rfl) (by kernel_rfl) (fun _ _ _ h => h) (Or.inl ⟨by rfl, fun w' _ => ?_⟩) hHeld''' ?_
          · go_simp
          simp only [Act.put, List.setIfInBounds_toArray, List.set_cons_zero, List.set_cons_succ]
          refine wpAnyH_done (by kernel_rfl) ?_ _
          try (go_wp2_with fail)
          go_ret
          exact ⟨rfl, HB8.out.trans (Below.mono hHeld''' HB8.out.size)⟩
        | true =>
          refine wp_region_held_drew (S := (fun W : World => Below w8.heap.size w8 W)) (by kernel_rfl) (Below.refl _ w8).drew (fun hHeld => ?_)
          refine wpAnyH_take (i := 0) (oi := ({ dst := some 45, op := Go.Op.move (Go.Operand.tmp 8), type := 4, pos := "law.go:132", after := #[], guard := none } : Oper)) (v := .bool true) rfl (by kernel_rfl) (by kernel_rfl) (by kernel_rfl) (fun _ _ _ h => h) (Or.inl ⟨by rfl, fun w' _ => ?_⟩) hHeld ?_
          · go_simp
          simp only [Act.put, List.setIfInBounds_toArray, List.set_cons_zero, List.set_cons_succ]
          refine wpAnyH_take (i := 1) (oi := ({ dst := some 46, op := Go.Op.move (Go.Operand.tmp 45), type := 4, pos := "law.go:132", after := #[{ on := 0, ground := Go.Ground.data }], guard := none } : Oper)) (v := .bool true) rfl (by kernel_rfl) (by kernel_rfl) (by kernel_rfl) (fun _ _ _ h => h) (Or.inl ⟨by rfl, fun w' _ => ?_⟩) hHeld ?_
          · go_simp
          simp only [Act.put, List.setIfInBounds_toArray, List.set_cons_zero, List.set_cons_succ]
          refine wpAnyH_take (i := 2) (oi := ({ dst := some 47, op := Go.Op.fieldAddr 42 (Go.Operand.tmp 7) 0, type := 0, pos := "law.go:132", after := #[{ on := 1, ground := Go.Ground.guard }], guard := some (1, true) } : Oper)) (v := .pointer (some ⟨G, 0, none⟩)) rfl (by kernel_rfl) (by kernel_rfl) (by kernel_rfl) (fun _ _ _ h => h) (Or.inl ⟨by kernel_rfl, fun w' _ => ?_⟩) hHeld ?_
          · go_simp
          simp only [Act.put, List.setIfInBounds_toArray, List.set_cons_zero, List.set_cons_succ]
          refine wpAnyH_take (i := 3) (oi := ({ dst := some 48, op := Go.Op.load 27 (Go.Operand.tmp 47), type := 27, pos := "law.go:132", after := #[{ on := 2, ground := Go.Ground.data }, { on := 1, ground := Go.Ground.guard }], guard := some (1, true) } : Oper)) (v := .agg (ta).toArray) rfl (by kernel_rfl) (by kernel_rfl) (by kernel_rfl) (fun _ _ _ h => h) (yieldsIf_load_mid (by kernel_rfl) _ _ rfl _ _ rfl _ _ (fun W h => RG8.out W h) hu rfl HSa.out) hHeld ?_
          simp only [Act.put, List.setIfInBounds_toArray, List.set_cons_zero, List.set_cons_succ]
          refine wpAnyH_take (i := 4) (oi := ({ dst := some 49, op := Go.Op.load 27 (Go.Operand.tmp 4), type := 27, pos := "law.go:132", after := #[{ on := 1, ground := Go.Ground.guard }], guard := some (1, true) } : Oper)) (v := .agg (ta).toArray) rfl (by kernel_rfl) (by kernel_rfl) (by kernel_rfl) (fun _ _ _ h => h) (yieldsIf_load_mid (by kernel_rfl) _ _ rfl _ _ rfl _ _ (fun W h => RA8.out W h) hu rfl HSa.out) hHeld ?_
          simp only [Act.put, List.setIfInBounds_toArray, List.set_cons_zero, List.set_cons_succ]
          refine wpAnyH_take (i := 5) (oi := ({ dst := some 50, op := Go.Op.binOp Go.BinOp.eql 27 (Go.Operand.tmp 48) (Go.Operand.tmp 49) 27, type := 4, pos := "law.go:132", after := #[{ on := 3, ground := Go.Ground.data }, { on := 4, ground := Go.Ground.data }, { on := 1, ground := Go.Ground.guard }], guard := some (1, true) } : Oper)) (v := .bool true) rfl (by kernel_rfl) (by kernel_rfl) (by kernel_rfl) (fun _ _ _ h => h) (yieldsIf_eql (by kernel_rfl) 27 (.tmp 48) (.tmp 49) 27 rfl ta.toArray ta.toArray true rfl rfl eqGuardAddr (fun W _ => EQA.out W)) hHeld ?_
          simp only [Act.put, List.setIfInBounds_toArray, List.set_cons_zero, List.set_cons_succ]
          refine wpAnyH_take (i := 6) (oi := ({ dst := some 51, op := Go.Op.pick (Go.Operand.tmp 46) (Go.Operand.tmp 50) (Go.Operand.const (Go.Value.bool false)), type := 4, pos := "law.go:132", after := #[{ on := 1, ground := Go.Ground.data }, { on := 5, ground := Go.Ground.data }], guard := none } : Oper)) (v := .bool true) rfl (by kernel_rfl) (by kernel_rfl) (by kernel_rfl) (fun _ _ _ h => h) (Or.inl ⟨by rfl, fun w' _ => ?_⟩) hHeld ?_
          · go_simp
          simp only [Act.put, List.setIfInBounds_toArray, List.set_cons_zero, List.set_cons_succ]
          refine wpAnyH_take (i := 7) (oi := ({ dst := some 52, op := Go.Op.move (Go.Operand.tmp 51), type := 4, pos := "law.go:132", after := #[{ on := 6, ground := Go.Ground.data }, { on := 1, ground := Go.Ground.chain }], guard := none } : Oper)) (v := .bool true) rfl (by kernel_rfl) (by kernel_rfl) (by kernel_rfl) (fun _ _ _ h => h) (Or.inl ⟨by rfl, fun w' _ => ?_⟩) hHeld ?_
          · go_simp
          simp only [Act.put, List.setIfInBounds_toArray, List.set_cons_zero, List.set_cons_succ]
          refine wpAnyH_take (i := 8) (oi := ({ dst := some 53, op := Go.Op.move (Go.Operand.tmp 10), type := 4, pos := "law.go:132", after := #[{ on := 7, ground := Go.Ground.guard }], guard := some (7, true) } : Oper)) (v := .bool false) rfl (by kernel_rfl) (by kernel_rfl) (by kernel_rfl) (fun _ _ _ h => h) (Or.inl ⟨by kernel_rfl, fun w' _ => ?_⟩) hHeld ?_
          · go_simp
          simp only [Act.put, List.setIfInBounds_toArray, List.set_cons_zero, List.set_cons_succ]
          refine wpAnyH_take (i := 9) (oi := ({ dst := some 54, op := Go.Op.unOp Go.UnOp.not 4 (Go.Operand.tmp 53), type := 4, pos := "law.go:132", after := #[{ on := 8, ground := Go.Ground.data }, { on := 7, ground := Go.Ground.guard }], guard := some (7, true) } : Oper)) (v := .bool true) rfl (by kernel_rfl) (by kernel_rfl) (by kernel_rfl) (fun _ _ _ h => h) (Or.inl ⟨by kernel_rfl, fun w' _ => ?_⟩) hHeld ?_
          · go_simp
          simp only [Act.put, List.setIfInBounds_toArray, List.set_cons_zero, List.set_cons_succ]
          refine wpAnyH_take (i := 10) (oi := ({ dst := some 55, op := Go.Op.pick (Go.Operand.tmp 52) (Go.Operand.tmp 54) (Go.Operand.const (Go.Value.bool false)), type := 4, pos := "law.go:132", after := #[{ on := 7, ground := Go.Ground.data }, { on := 9, ground := Go.Ground.data }], guard := none } : Oper)) (v := .bool true) rfl (by kernel_rfl) (by kernel_rfl) (by kernel_rfl) (fun _ _ _ h => h) (Or.inl ⟨by rfl, fun w' _ => ?_⟩) hHeld ?_
          · go_simp
          simp only [Act.put, List.setIfInBounds_toArray, List.set_cons_zero, List.set_cons_succ]
          refine wpAnyH_take (i := 11) (oi := ({ dst := some 56, op := Go.Op.move (Go.Operand.tmp 55), type := 4, pos := "law.go:132", after := #[{ on := 10, ground := Go.Ground.data }, { on := 7, ground := Go.Ground.chain }], guard := none } : Oper)) (v := .bool true) rfl (by kernel_rfl) (by kernel_rfl) (by kernel_rfl) (fun _ _ _ h => h) (Or.inl ⟨by rfl, fun w' _ => ?_⟩) hHeld ?_
          · go_simp
          simp only [Act.put, List.setIfInBounds_toArray, List.set_cons_zero, List.set_cons_succ]
          refine wpAnyH_take (i := 12) (oi := ({ dst := some 57, op := Go.Op.load 42 (Go.Operand.tmp 9), type := 42, pos := "law.go:132", after := #[{ on := 11, ground := Go.Ground.guard }], guard := some (11, true) } : Oper)) (v := .agg (lzc).toArray) rfl (by kernel_rfl) (by kernel_rfl) (by kernel_rfl) (fun _ _ _ h => h) (yieldsIf_load_mid (by kernel_rfl) _ _ rfl _ _ rfl _ _ (fun W h => R98.out W h) hul rfl HSl9.out) hHeld ?_
          simp only [Act.put, List.setIfInBounds_toArray, List.set_cons_zero, List.set_cons_succ]
          refine wpAnyH_take (i := 13) (oi := ({ dst := some 58, op := Go.Op.build 42 #[], type := 42, pos := "law.go:132", after := #[{ on := 11, ground := Go.Ground.guard }], guard := some (11, true) } : Oper)) (v := .agg lzc.toArray) rfl (by kernel_rfl) (by kernel_rfl) (by kernel_rfl) (fun _ _ _ h => h) (yieldsIf_build (by kernel_rfl) _ _ rfl [] lzc.toArray rfl HBZ.out) hHeld ?_
          simp only [Act.put, List.setIfInBounds_toArray, List.set_cons_zero, List.set_cons_succ]
          refine wpAnyH_take (i := 14) (oi := ({ dst := some 59, op := Go.Op.binOp Go.BinOp.eql 42 (Go.Operand.tmp 57) (Go.Operand.tmp 58) 42, type := 4, pos := "law.go:132", after := #[{ on := 12, ground := Go.Ground.data }, { on := 13, ground := Go.Ground.data }, { on := 11, ground := Go.Ground.guard }], guard := some (11, true) } : Oper)) (v := .bool true) rfl (by kernel_rfl) (by kernel_rfl) (by kernel_rfl) (fun _ _ _ h => h) (yieldsIf_eql (by kernel_rfl) 42 (.tmp 57) (.tmp 58) 42 rfl lzc.toArray lzc.toArray true rfl rfl eqGuardLoc (fun W _ => EQL.out W)) hHeld ?_
          simp only [Act.put, List.setIfInBounds_toArray, List.set_cons_zero, List.set_cons_succ]
          refine wpAnyH_take (i := 15) (oi := ({ dst := some 60, op := Go.Op.pick (Go.Operand.tmp 56) (Go.Operand.tmp 59) (Go.Operand.const (Go.Value.bool false)), type := 4, pos := "law.go:132", after := #[{ on := 11, ground := Go.Ground.data }, { on := 14, ground := Go.Ground.data }], guard := none } : Oper)) (v := .bool true) rfl (by kernel_rfl) (by kernel_rfl) (by kernel_rfl) (fun _ _ _ h => h) (Or.inl ⟨by rfl, fun w' _ => ?_⟩) hHeld ?_
          · go_simp
          simp only [Act.put, List.setIfInBounds_toArray, List.set_cons_zero, List.set_cons_succ]
          refine wpAnyH_take (i := 16) (oi := ({ dst := some 61, op := Go.Op.move (Go.Operand.tmp 60), type := 4, pos := "law.go:132", after := #[{ on := 15, ground := Go.Ground.data }, { on := 11, ground := Go.Ground.chain }], guard := none } : Oper)) (v := .bool true) rfl (by kernel_rfl) (by kernel_rfl) (by kernel_rfl) (fun _ _ _ h => h) (Or.inl ⟨by rfl, fun w' _ => ?_⟩) hHeld ?_
          · go_simp
          simp only [Act.put, List.setIfInBounds_toArray, List.set_cons_zero, List.set_cons_succ]
          refine wpAnyH_take (i := 17) (oi := ({ dst := some 62, op := Go.Op.indexAddr 38 (Go.Operand.tmp 11) (Go.Operand.const (Go.Value.int Go.IntKind.i64 0)), type := 0, pos := "law.go:132", after := #[{ on := 16, ground := Go.Ground.guard }], guard := some (16, true) } : Oper)) (v := .pointer (some ⟨P, 0, none⟩)) rfl (by kernel_rfl) (by kernel_rfl) (by kernel_rfl) (fun _ _ _ h => h) (Or.inl ⟨by kernel_rfl, fun w' _ => ?_⟩) hHeld ?_
          · go_simp
          simp only [Act.put, List.setIfInBounds_toArray, List.set_cons_zero, List.set_cons_succ]
          refine wpAnyH_take (i := 18) (oi := ({ dst := some 63, op := Go.Op.load 3 (Go.Operand.tmp 62), type := 3, pos := "law.go:132", after := #[{ on := 17, ground := Go.Ground.data }, { on := 16, ground := Go.Ground.guard }], guard := some (16, true) } : Oper)) (v := .int .i64 0) rfl (by kernel_rfl) (by kernel_rfl) (by kernel_rfl) (fun _ _ _ h => h) (Or.inl ⟨by kernel_rfl, fun w' hS' => ?_⟩) hHeld ?_
          · have hcell := CP0.out _ hS'
            go_simp
          simp only [Act.put, List.setIfInBounds_toArray, List.set_cons_zero, List.set_cons_succ]
          refine wpAnyH_take (i := 19) (oi := ({ dst := some 64, op := Go.Op.binOp Go.BinOp.eql 3 (Go.Operand.tmp 63) (Go.Operand.const (Go.Value.int Go.IntKind.i64 0)) 3, type := 4, pos := "law.go:132", after := #[{ on := 18, ground := Go.Ground.data }, { on := 16, ground := Go.Ground.guard }], guard := some (16, true) } : Oper)) (v := .bool true) rfl (by kernel_rfl) (by kernel_rfl) (by kernel_rfl) (fun _ _ _ h => h) (Or.inl ⟨by kernel_rfl, fun w' _ => ?_⟩) hHeld ?_
          · go_simp
          simp only [Act.put, List.setIfInBounds_toArray, List.set_cons_zero, List.set_cons_succ]
          refine wpAnyH_take (i := 20) (oi := ({ dst := some 65, op := Go.Op.pick (Go.Operand.tmp 61) (Go.Operand.tmp 64) (Go.Operand.const (Go.Value.bool false)), type := 4, pos := "law.go:132", after := #[{ on := 16, ground := Go.Ground.data }, { on := 19, ground := Go.Ground.data }], guard := none } : Oper)) (v := .bool true) rfl (by kernel_rfl) (by kernel_rfl) (by kernel_rfl) (fun _ _ _ h => h) (Or.inl ⟨by rfl, fun w' _ => ?_⟩) hHeld ?_
          · go_simp
          simp only [Act.put, List.setIfInBounds_toArray, List.set_cons_zero, List.set_cons_succ]
          refine wpAnyH_take (i := 21) (oi := ({ dst := some 66, op := Go.Op.move (Go.Operand.tmp 65), type := 4, pos := "law.go:132", after := #[{ on := 20, ground := Go.Ground.data }, { on := 16, ground := Go.Ground.chain }], guard := none } : Oper)) (v := .bool true) rfl (by kernel_rfl) (by kernel_rfl) (by kernel_rfl) (fun _ _ _ h => h) (Or.inl ⟨by rfl, fun w' _ => ?_⟩) hHeld ?_
          · go_simp
          simp only [Act.put, List.setIfInBounds_toArray, List.set_cons_zero, List.set_cons_succ]
          refine wpAnyH_take (i := 22) (oi := ({ dst := some 67, op := Go.Op.indexAddr 38 (Go.Operand.tmp 11) (Go.Operand.const (Go.Value.int Go.IntKind.i64 5)), type := 0, pos := "law.go:132", after := #[{ on := 21, ground := Go.Ground.guard }], guard := some (21, true) } : Oper)) (v := .pointer (some ⟨P, 5, none⟩)) rfl (by kernel_rfl) (by kernel_rfl) (by kernel_rfl) (fun _ _ _ h => h) (Or.inl ⟨by kernel_rfl, fun w' _ => ?_⟩) hHeld ?_
          · go_simp
          simp only [Act.put, List.setIfInBounds_toArray, List.set_cons_zero, List.set_cons_succ]
          refine wpAnyH_take (i := 23) (oi := ({ dst := some 68, op := Go.Op.load 3 (Go.Operand.tmp 67), type := 3, pos := "law.go:132", after := #[{ on := 22, ground := Go.Ground.data }, { on := 21, ground := Go.Ground.guard }], guard := some (21, true) } : Oper)) (v := .int .i64 pa) rfl (by kernel_rfl) (by kernel_rfl) (by kernel_rfl) (fun _ _ _ h => h) (Or.inl ⟨by kernel_rfl, fun w' hS' => ?_⟩) hHeld ?_
          · have hcell := CP5.out _ hS'
            go_simp
          simp only [Act.put, List.setIfInBounds_toArray, List.set_cons_zero, List.set_cons_succ]
          refine wpAnyH_take (i := 24) (oi := ({ dst := some 69, op := Go.Op.move (Go.Operand.tmp 13), type := 3, pos := "law.go:132", after := #[{ on := 21, ground := Go.Ground.guard }], guard := some (21, true) } : Oper)) (v := .int .i64 pa) rfl (by kernel_rfl) (by kernel_rfl) (by kernel_rfl) (fun _ _ _ h => h) (Or.inl ⟨by kernel_rfl, fun w' _ => ?_⟩) hHeld ?_
          · go_simp
          simp only [Act.put, List.setIfInBounds_toArray, List.set_cons_zero, List.set_cons_succ]
          refine wpAnyH_take (i := 25) (oi := ({ dst := some 70, op := Go.Op.binOp Go.BinOp.eql 3 (Go.Operand.tmp 68) (Go.Operand.tmp 69) 3, type := 4, pos := "law.go:132", after := #[{ on := 23, ground := Go.Ground.data }, { on := 24, ground := Go.Ground.data }, { on := 21, ground := Go.Ground.guard }], guard := some (21, true) } : Oper)) (v := .bool true) rfl (by kernel_rfl) (by kernel_rfl) (by kernel_rfl) (fun _ _ _ h => h) (Or.inl ⟨by kernel_rfl, fun w' _ => ?_⟩) hHeld ?_
          · go_simp
          simp only [Act.put, List.setIfInBounds_toArray, List.set_cons_zero, List.set_cons_succ]
          refine wpAnyH_take (i := 26) (oi := ({ dst := some 71, op := Go.Op.pick (Go.Operand.tmp 66) (Go.Operand.tmp 70) (Go.Operand.const (Go.Value.bool false)), type := 4, pos := "law.go:132", after := #[{ on := 21, ground := Go.Ground.data }, { on := 25, ground := Go.Ground.data }], guard := none } : Oper)) (v := .bool true) rfl (by kernel_rfl) (by kernel_rfl) (by kernel_rfl) (fun _ _ _ h => h) (Or.inl ⟨by rfl, fun w' _ => ?_⟩) hHeld ?_
          · go_simp
          simp only [Act.put, List.setIfInBounds_toArray, List.set_cons_zero, List.set_cons_succ]
          refine wpAnyH_take (i := 27) (oi := ({ dst := some 72, op := Go.Op.move (Go.Operand.tmp 71), type := 4, pos := "law.go:132", after := #[{ on := 26, ground := Go.Ground.data }, { on := 21, ground := Go.Ground.chain }], guard := none } : Oper)) (v := .bool true) rfl (by kernel_rfl) (by kernel_rfl) (by kernel_rfl) (fun _ _ _ h => h) (Or.inl ⟨by rfl, fun w' _ => ?_⟩) hHeld ?_
          · go_simp
          simp only [Act.put, List.setIfInBounds_toArray, List.set_cons_zero, List.set_cons_succ]
          refine wpAnyH_take (i := 28) (oi := ({ dst := some 73, op := Go.Op.indexAddr 38 (Go.Operand.tmp 11) (Go.Operand.const (Go.Value.int Go.IntKind.i64 6)), type := 0, pos := "law.go:132", after := #[{ on := 27, ground := Go.Ground.guard }], guard := some (27, true) } : Oper)) (v := .pointer (some ⟨P, 6, none⟩)) rfl (by kernel_rfl) (by kernel_rfl) (by kernel_rfl) (fun _ _ _ h => h) (Or.inl ⟨by kernel_rfl, fun w' _ => ?_⟩) hHeld ?_
          · go_simp
          simp only [Act.put, List.setIfInBounds_toArray, List.set_cons_zero, List.set_cons_succ]
          refine wpAnyH_take (i := 29) (oi := ({ dst := some 74, op := Go.Op.load 3 (Go.Operand.tmp 73), type := 3, pos := "law.go:132", after := #[{ on := 28, ground := Go.Ground.data }, { on := 27, ground := Go.Ground.guard }], guard := some (27, true) } : Oper)) (v := .int .i64 (-(st : Int))) rfl (by kernel_rfl) (by kernel_rfl) (by kernel_rfl) (fun _ _ _ h => h) (Or.inl ⟨by kernel_rfl, fun w' hS' => ?_⟩) hHeld ?_
          · have hcell := CP6.out _ hS'
            go_simp
          simp only [Act.put, List.setIfInBounds_toArray, List.set_cons_zero, List.set_cons_succ]
          refine wpAnyH_take (i := 30) (oi := ({ dst := some 75, op := Go.Op.load 27 (Go.Operand.tmp 4), type := 27, pos := "law.go:132", after := #[{ on := 27, ground := Go.Ground.guard }], guard := some (27, true) } : Oper)) (v := .agg (ta).toArray) rfl (by kernel_rfl) (by kernel_rfl) (by kernel_rfl) (fun _ _ _ h => h) (yieldsIf_load_mid (by kernel_rfl) _ _ rfl _ _ rfl _ _ (fun W h => RA8.out W h) hu rfl HSa.out) hHeld ?_
          simp only [Act.put, List.setIfInBounds_toArray, List.set_cons_zero, List.set_cons_succ]
          refine wpAnyH_ready (rs := [31]) (by kernel_rfl) (by simp) ?_
          refine AllReadyH.cons (o := ({ dst := some 76, op := Go.Op.call { callee := Go.Callee.value (Go.Operand.func 14), args := #[Go.Operand.tmp 75], argTypes := #[27] }, type := 3, pos := "law.go:132", after := #[{ on := 30, ground := Go.Ground.data }, { on := 27, ground := Go.Ground.chain }, { on := 27, ground := Go.Ground.guard }], guard := some (27, true) } : Oper)) rfl (fun K hK => ?_) AllReadyH.nil
          rw [if_pos (by kernel_rfl)]
          go_simp
          go_at_call 14
          refine (SC.out _ hHeld).mono ?_
          rintro e' wc ⟨rfl, hbc⟩
          refine hK.out _ _ (Below.trans hHeld (Below.mono hbc (Below.size hHeld))) (fun hHeld' => ?_)
          clear hK K hbc
          try clear hHeld
          try simp only [Act.put, List.setIfInBounds_toArray, List.set_cons_zero, List.set_cons_succ]
          refine wpAnyH_take (i := 32) (oi := ({ dst := some 77, op := Go.Op.unOp Go.UnOp.neg 3 (Go.Operand.tmp 76), type := 3, pos := "law.go:132", after := #[{ on := 31, ground := Go.Ground.data }, { on := 27, ground := Go.Ground.guard }], guard := some (27, true) } : Oper)) (v := .int .i64 (-(st : Int))) rfl (by kernel_rfl) (by kernel_rfl) (by kernel_rfl) (fun _ _ _ h => h) (Or.inl ⟨by kernel_rfl, fun w' _ => ?_⟩) hHeld' ?_
          · go_simp
          simp only [Act.put, List.setIfInBounds_toArray, List.set_cons_zero, List.set_cons_succ]
          refine wpAnyH_take (i := 33) (oi := ({ dst := some 78, op := Go.Op.binOp Go.BinOp.eql 3 (Go.Operand.tmp 74) (Go.Operand.tmp 77) 3, type := 4, pos := "law.go:132", after := #[{ on := 29, ground := Go.Ground.data }, { on := 32, ground := Go.Ground.data }, { on := 27, ground := Go.Ground.guard }], guard := some (27, true) } : Oper)) (v := .bool true) rfl (by kernel_rfl) (by kernel_rfl) (by kernel_rfl) (fun _ _ _ h => h) (Or.inl ⟨by kernel_rfl, fun w' _ => ?_⟩) hHeld' ?_
          · go_simp
          simp only [Act.put, List.setIfInBounds_toArray, List.set_cons_zero, List.set_cons_succ]
          refine wpAnyH_take (i := 34) (oi := ({ dst := some 79, op := Go.Op.pick (Go.Operand.tmp 72) (Go.Operand.tmp 78) (Go.Operand.const (Go.Value.bool false)), type := 4, pos := "law.go:132", after := #[{ on := 27, ground := Go.Ground.data }, { on := 33, ground := Go.Ground.data }], guard := none } : Oper)) (v := .bool true) rfl (by kernel_rfl) (by kernel_rfl) (by kernel_rfl) (fun _ _ _ h => h) (Or.inl ⟨by rfl, fun w' _ => ?_⟩) hHeld' ?_
          · go_simp
          simp only [Act.put, List.setIfInBounds_toArray, List.set_cons_zero, List.set_cons_succ]
          refine wpAnyH_take (i := 35) (oi := ({ dst := some 80, op := Go.Op.move (Go.Operand.tmp 79), type := 4, pos := "law.go:132", after := #[{ on := 34, ground := Go.Ground.data }, { on := 31, ground := Go.Ground.chain }], guard := none } : Oper)) (v := .bool true) rfl (by kernel_rfl) (by kernel_rfl) (by kernel_rfl) (fun _ _ _ h => h) (Or.inl ⟨by rfl, fun w' _ => ?_⟩) hHeld' ?_
          · go_simp
          simp only [Act.put, List.setIfInBounds_toArray, List.set_cons_zero, List.set_cons_succ]
          refine wpAnyH_take (i := 36) (oi := ({ dst := some 81, op := Go.Op.load 38 (Go.Operand.tmp 11), type := 38, pos := "law.go:132", after := #[{ on := 35, ground := Go.Ground.guard }], guard := some (35, true) } : Oper)) (v := .agg (kac).toArray) rfl (by kernel_rfl) (by kernel_rfl) (by kernel_rfl) (fun _ _ _ h => h) (yieldsIf_load_mid (by kernel_rfl) _ _ rfl _ _ rfl _ _ (fun W h => RP8.out W h) huk rfl HSk.out) hHeld' ?_
          simp only [Act.put, List.setIfInBounds_toArray, List.set_cons_zero, List.set_cons_succ]
          refine wpAnyH_take (i := 37) (oi := ({ dst := some 82, op := Go.Op.load 38 (Go.Operand.tmp 12), type := 38, pos := "law.go:132", after := #[{ on := 35, ground := Go.Ground.guard }], guard := some (35, true) } : Oper)) (v := .agg (kbc).toArray) rfl (by kernel_rfl) (by kernel_rfl) (by kernel_rfl) (fun _ _ _ h => h) (yieldsIf_load_mid (by kernel_rfl) _ _ rfl _ _ rfl _ _ (fun W h => RQ8.out W h) huk rfl HSkb.out) hHeld' ?_
          simp only [Act.put, List.setIfInBounds_toArray, List.set_cons_zero, List.set_cons_succ]
          refine wpAnyH_take (i := 38) (oi := ({ dst := some 83, op := Go.Op.binOp Go.BinOp.eql 38 (Go.Operand.tmp 81) (Go.Operand.tmp 82) 38, type := 4, pos := "law.go:132", after := #[{ on := 36, ground := Go.Ground.data }, { on := 37, ground := Go.Ground.data }, { on := 35, ground := Go.Ground.guard }], guard := some (35, true) } : Oper)) (v := .bool true) rfl (by kernel_rfl) (by kernel_rfl) (by kernel_rfl) (fun _ _ _ h => h) (yieldsIf_eql (by kernel_rfl) 38 (.tmp 81) (.tmp 82) 38 rfl kac.toArray kbc.toArray true rfl rfl eqGuardKey (fun W _ => EQK.out W)) hHeld' ?_
          simp only [Act.put, List.setIfInBounds_toArray, List.set_cons_zero, List.set_cons_succ]
          refine wpAnyH_take (i := 39) (oi := ({ dst := some 84, op := Go.Op.move (Go.Operand.tmp 13), type := 3, pos := "law.go:132", after := #[{ on := 35, ground := Go.Ground.guard }], guard := some (35, true) } : Oper)) (v := .int .i64 pa) rfl (by kernel_rfl) (by kernel_rfl) (by kernel_rfl) (fun _ _ _ h => h) (Or.inl ⟨by kernel_rfl, fun w' _ => ?_⟩) hHeld' ?_
          · go_simp
          simp only [Act.put, List.setIfInBounds_toArray, List.set_cons_zero, List.set_cons_succ]
          refine wpAnyH_take (i := 40) (oi := ({ dst := some 85, op := Go.Op.indexAddr 38 (Go.Operand.tmp 12) (Go.Operand.const (Go.Value.int Go.IntKind.i64 5)), type := 0, pos := "law.go:132", after := #[{ on := 35, ground := Go.Ground.guard }], guard := some (35, true) } : Oper)) (v := .pointer (some ⟨Q, 5, none⟩)) rfl (by kernel_rfl) (by kernel_rfl) (by kernel_rfl) (fun _ _ _ h => h) (Or.inl ⟨by kernel_rfl, fun w' _ => ?_⟩) hHeld' ?_
          · go_simp
          simp only [Act.put, List.setIfInBounds_toArray, List.set_cons_zero, List.set_cons_succ]
          refine wpAnyH_take (i := 41) (oi := ({ dst := some 86, op := Go.Op.load 3 (Go.Operand.tmp 85), type := 3, pos := "law.go:132", after := #[{ on := 40, ground := Go.Ground.data }, { on := 35, ground := Go.Ground.guard }], guard := some (35, true) } : Oper)) (v := .int .i64 pb) rfl (by kernel_rfl) (by kernel_rfl) (by kernel_rfl) (fun _ _ _ h => h) (Or.inl ⟨by kernel_rfl, fun w' hS' => ?_⟩) hHeld' ?_
          · have hcell := CQ5.out _ hS'
            go_simp
          simp only [Act.put, List.setIfInBounds_toArray, List.set_cons_zero, List.set_cons_succ]
          refine wpAnyH_take (i := 42) (oi := ({ dst := some 87, op := Go.Op.binOp Go.BinOp.eql 3 (Go.Operand.tmp 84) (Go.Operand.tmp 86) 3, type := 4, pos := "law.go:132", after := #[{ on := 39, ground := Go.Ground.data }, { on := 41, ground := Go.Ground.data }, { on := 35, ground := Go.Ground.guard }], guard := some (35, true) } : Oper)) (v := .bool (pa == pb)) rfl (by kernel_rfl) (by kernel_rfl) (by kernel_rfl) (fun _ _ _ h => h) (Or.inl ⟨by kernel_rfl, fun w' _ => ?_⟩) hHeld' ?_
          · go_simp
          simp only [Act.put, List.setIfInBounds_toArray, List.set_cons_zero, List.set_cons_succ]
          rw [HPE.out]
          refine wpAnyH_take (i := 43) (oi := ({ dst := some 88, op := Go.Op.move (Go.Operand.tmp 87), type := 4, pos := "law.go:132", after := #[{ on := 42, ground := Go.Ground.data }, { on := 35, ground := Go.Ground.chain }, { on := 35, ground := Go.Ground.guard }], guard := some (35, true) } : Oper)) (v := .bool true) rfl (by kernel_rfl) (by kernel_rfl) (by kernel_rfl) (fun _ _ _ h => h) (Or.inl ⟨by kernel_rfl, fun w' _ => ?_⟩) hHeld' ?_
          · go_simp
          simp only [Act.put, List.setIfInBounds_toArray, List.set_cons_zero, List.set_cons_succ]
          refine wpAnyH_take (i := 44) (oi := ({ dst := some 89, op := Go.Op.indexAddr 38 (Go.Operand.tmp 11) (Go.Operand.const (Go.Value.int Go.IntKind.i64 6)), type := 0, pos := "law.go:132", after := #[{ on := 43, ground := Go.Ground.guard }], guard := some (43, true) } : Oper)) (v := .pointer (some ⟨P, 6, none⟩)) rfl (by kernel_rfl) (by kernel_rfl) (by kernel_rfl) (fun _ _ _ h => h) (Or.inl ⟨by kernel_rfl, fun w' _ => ?_⟩) hHeld' ?_
          · go_simp
          simp only [Act.put, List.setIfInBounds_toArray, List.set_cons_zero, List.set_cons_succ]
          refine wpAnyH_take (i := 45) (oi := ({ dst := some 90, op := Go.Op.load 3 (Go.Operand.tmp 89), type := 3, pos := "law.go:132", after := #[{ on := 44, ground := Go.Ground.data }, { on := 43, ground := Go.Ground.guard }], guard := some (43, true) } : Oper)) (v := .int .i64 (-(st : Int))) rfl (by kernel_rfl) (by kernel_rfl) (by kernel_rfl) (fun _ _ _ h => h) (Or.inl ⟨by kernel_rfl, fun w' hS' => ?_⟩) hHeld' ?_
          · have hcell := CP6.out _ hS'
            go_simp
          simp only [Act.put, List.setIfInBounds_toArray, List.set_cons_zero, List.set_cons_succ]
          refine wpAnyH_take (i := 46) (oi := ({ dst := some 91, op := Go.Op.indexAddr 38 (Go.Operand.tmp 12) (Go.Operand.const (Go.Value.int Go.IntKind.i64 6)), type := 0, pos := "law.go:132", after := #[{ on := 43, ground := Go.Ground.guard }], guard := some (43, true) } : Oper)) (v := .pointer (some ⟨Q, 6, none⟩)) rfl (by kernel_rfl) (by kernel_rfl) (by kernel_rfl) (fun _ _ _ h => h) (Or.inl ⟨by kernel_rfl, fun w' _ => ?_⟩) hHeld' ?_
          · go_simp
          simp only [Act.put, List.setIfInBounds_toArray, List.set_cons_zero, List.set_cons_succ]
          refine wpAnyH_take (i := 47) (oi := ({ dst := some 92, op := Go.Op.load 3 (Go.Operand.tmp 91), type := 3, pos := "law.go:132", after := #[{ on := 46, ground := Go.Ground.data }, { on := 43, ground := Go.Ground.guard }], guard := some (43, true) } : Oper)) (v := .int .i64 nb) rfl (by kernel_rfl) (by kernel_rfl) (by kernel_rfl) (fun _ _ _ h => h) (Or.inl ⟨by kernel_rfl, fun w' hS' => ?_⟩) hHeld' ?_
          · have hcell := CQ6.out _ hS'
            go_simp
          simp only [Act.put, List.setIfInBounds_toArray, List.set_cons_zero, List.set_cons_succ]
          refine wpAnyH_take (i := 48) (oi := ({ dst := some 93, op := Go.Op.binOp Go.BinOp.eql 3 (Go.Operand.tmp 90) (Go.Operand.tmp 92) 3, type := 4, pos := "law.go:132", after := #[{ on := 45, ground := Go.Ground.data }, { on := 47, ground := Go.Ground.data }, { on := 43, ground := Go.Ground.guard }], guard := some (43, true) } : Oper)) (v := .bool (-(st : Int) == nb)) rfl (by kernel_rfl) (by kernel_rfl) (by kernel_rfl) (fun _ _ _ h => h) (Or.inl ⟨by kernel_rfl, fun w' _ => ?_⟩) hHeld' ?_
          · go_simp
          simp only [Act.put, List.setIfInBounds_toArray, List.set_cons_zero, List.set_cons_succ]
          rw [HSE.out]
          refine wpAnyH_take (i := 49) (oi := ({ dst := some 94, op := Go.Op.pick (Go.Operand.tmp 88) (Go.Operand.tmp 93) (Go.Operand.const (Go.Value.bool false)), type := 4, pos := "law.go:132", after := #[{ on := 43, ground := Go.Ground.data }, { on := 48, ground := Go.Ground.data }, { on := 35, ground := Go.Ground.guard }], guard := some (35, true) } : Oper)) (v := .bool true) rfl (by kernel_rfl) (by kernel_rfl) (by kernel_rfl) (fun _ _ _ h => h) (Or.inl ⟨by kernel_rfl, fun w' _ => ?_⟩) hHeld' ?_
          · go_simp
          simp only [Act.put, List.setIfInBounds_toArray, List.set_cons_zero, List.set_cons_succ]
          refine wpAnyH_take (i := 50) (oi := ({ dst := some 95, op := Go.Op.binOp Go.BinOp.eql 4 (Go.Operand.tmp 83) (Go.Operand.tmp 94) 4, type := 4, pos := "law.go:132", after := #[{ on := 38, ground := Go.Ground.data }, { on := 49, ground := Go.Ground.data }, { on := 35, ground := Go.Ground.guard }], guard := some (35, true) } : Oper)) (v := .bool true) rfl (by kernel_rfl) (by kernel_rfl) (by kernel_rfl) (fun _ _ _ h => h) (Or.inl ⟨by kernel_rfl, fun w' _ => ?_⟩) hHeld' ?_
          · go_simp
          simp only [Act.put, List.setIfInBounds_toArray, List.set_cons_zero, List.set_cons_succ]
          refine wpAnyH_take (i := 51) (oi := ({ dst := some 96, op := Go.Op.pick (Go.Operand.tmp 80) (Go.Operand.tmp 95) (Go.Operand.const (Go.Value.bool false)), type := 4, pos := "law.go:132", after := #[{ on := 35, ground := Go.Ground.data }, { on := 50, ground := Go.Ground.data }], guard := none } : Oper)) (v := .bool true) rfl (by kernel_rfl) (by kernel_rfl) (by kernel_rfl) (fun _ _ _ h => h) (Or.inl ⟨by rfl, fun w' _ => ?_⟩) hHeld' ?_
          · go_simp
          simp only [Act.put, List.setIfInBounds_toArray, List.set_cons_zero, List.set_cons_succ]
          refine wpAnyH_take (i := 52) (oi := ({ dst := some 97, op := Go.Op.move (Go.Operand.tmp 96), type := 4, pos := "law.go:132", after := #[{ on := 51, ground := Go.Ground.data }, { on := 43, ground := Go.Ground.chain }], guard := none } : Oper)) (v := .bool true) rfl (by kernel_rfl) (by kernel_rfl) (by kernel_rfl) (fun _ _ _ h => h) (Or.inl ⟨by rfl, fun w' _ => ?_⟩) hHeld' ?_
          · go_simp
          simp only [Act.put, List.setIfInBounds_toArray, List.set_cons_zero, List.set_cons_succ]
          refine wpAnyH_take (i := 53) (oi := ({ dst := some 98, op := Go.Op.fieldAddr 42 (Go.Operand.tmp 7) 0, type := 0, pos := "law.go:132", after := #[{ on := 52, ground := Go.Ground.guard }], guard := some (52, true) } : Oper)) (v := .pointer (some ⟨G, 0, none⟩)) rfl (by kernel_rfl) (by kernel_rfl) (by kernel_rfl) (fun _ _ _ h => h) (Or.inl ⟨by kernel_rfl, fun w' _ => ?_⟩) hHeld' ?_
          · go_simp
          simp only [Act.put, List.setIfInBounds_toArray, List.set_cons_zero, List.set_cons_succ]
          refine wpAnyH_take (i := 54) (oi := ({ dst := some 99, op := Go.Op.load 27 (Go.Operand.tmp 98), type := 27, pos := "law.go:132", after := #[{ on := 53, ground := Go.Ground.data }, { on := 52, ground := Go.Ground.guard }], guard := some (52, true) } : Oper)) (v := .agg (ta).toArray) rfl (by kernel_rfl) (by kernel_rfl) (by kernel_rfl) (fun _ _ _ h => h) (yieldsIf_load_mid (by kernel_rfl) _ _ rfl _ _ rfl _ _ (fun W h => RG8.out W h) hu rfl HSa.out) hHeld' ?_
          simp only [Act.put, List.setIfInBounds_toArray, List.set_cons_zero, List.set_cons_succ]
          refine wpAnyH_take (i := 56) (oi := ({ dst := some 101, op := Go.Op.load 27 (Go.Operand.tmp 4), type := 27, pos := "law.go:132", after := #[{ on := 52, ground := Go.Ground.guard }], guard := some (52, true) } : Oper)) (v := .agg (ta).toArray) rfl (by kernel_rfl) (by kernel_rfl) (by kernel_rfl) (fun _ _ _ h => h) (yieldsIf_load_mid (by kernel_rfl) _ _ rfl _ _ rfl _ _ (fun W h => RA8.out W h) hu rfl HSa.out) hHeld' ?_
          simp only [Act.put, List.setIfInBounds_toArray, List.set_cons_zero, List.set_cons_succ]
          refine wpAnyH_ready (rs := [55]) (by kernel_rfl) (by simp) ?_
          refine AllReadyH.cons (o := ({ dst := some 100, op := Go.Op.call { callee := Go.Callee.value (Go.Operand.func 18), args := #[Go.Operand.tmp 99], argTypes := #[27] }, type := 4, pos := "law.go:132", after := #[{ on := 54, ground := Go.Ground.data }, { on := 52, ground := Go.Ground.chain }, { on := 52, ground := Go.Ground.guard }], guard := some (52, true) } : Oper)) rfl (fun K hK => ?_) AllReadyH.nil
          rw [if_pos (by kernel_rfl)]
          go_simp
          go_at_call 18
          refine (IS.out _).mono ?_
          rintro e' wc ⟨rfl, hbc⟩
          refine hK.out _ _ (Below.trans hHeld' (Below.mono hbc (Below.size hHeld'))) (fun hHeld'' => ?_)
          clear hK K hbc
          try clear hHeld'
          try simp only [Act.put, List.setIfInBounds_toArray, List.set_cons_zero, List.set_cons_succ]
          refine wpAnyH_ready (rs := [57]) (by kernel_rfl) (by simp) ?_
          refine AllReadyH.cons (o := ({ dst := some 102, op := Go.Op.call { callee := Go.Callee.value (Go.Operand.func 18), args := #[Go.Operand.tmp 101], argTypes := #[27] }, type := 4, pos := "law.go:132", after := #[{ on := 56, ground := Go.Ground.data }, { on := 55, ground := Go.Ground.chain }, { on := 52, ground := Go.Ground.guard }], guard := some (52, true) } : Oper)) rfl (fun K hK => ?_) AllReadyH.nil
          rw [if_pos (by kernel_rfl)]
          go_simp
          go_at_call 18
          refine (IS.out _).mono ?_
          rintro e' wc ⟨rfl, hbc⟩
          refine hK.out _ _ (Below.trans hHeld'' (Below.mono hbc (Below.size hHeld''))) (fun hHeld''' => ?_)
          clear hK K hbc
          try clear hHeld''
          try simp only [Act.put, List.setIfInBounds_toArray, List.set_cons_zero, List.set_cons_succ]
          refine wpAnyH_take (i := 58) (oi := ({ dst := some 103, op := Go.Op.binOp Go.BinOp.eql 4 (Go.Operand.tmp 100) (Go.Operand.tmp 102) 4, type := 4, pos := "law.go:132", after := #[{ on := 55, ground := Go.Ground.data }, { on := 57, ground := Go.Ground.data }, { on := 52, ground := Go.Ground.guard }], guard := some (52, true) } : Oper)) (v := .bool true) rfl (by kernel_rfl) (by kernel_rfl) (by kernel_rfl) (fun _ _ _ h => h) (Or.inl ⟨by kernel_rfl, fun w' _ => ?_⟩) hHeld''' ?_
          · go_simp
          simp only [Act.put, List.setIfInBounds_toArray, List.set_cons_zero, List.set_cons_succ]
          refine wpAnyH_take (i := 59) (oi := ({ dst := some 104, op := Go.Op.pick (Go.Operand.tmp 97) (Go.Operand.tmp 103) (Go.Operand.const (Go.Value.bool false)), type := 4, pos := "law.go:132", after := #[{ on := 52, ground := Go.Ground.data }, { on := 58, ground := Go.Ground.data }], guard := none } : Oper)) (v := .bool true) rfl (by kernel_rfl) (by kernel_rfl) (by kernel_rfl) (fun _ _ _ h => h) (Or.inl ⟨by rfl, fun w' _ => ?_⟩) hHeld''' ?_
          · go_simp
          simp only [Act.put, List.setIfInBounds_toArray, List.set_cons_zero, List.set_cons_succ]
          refine wpAnyH_take (i := 60) (oi := ({ dst := some 6, op := Go.Op.assign (Go.Operand.tmp 104), type := 4, pos := "law.go:132", after := #[{ on := 59, ground := Go.Ground.data }, { on := 57, ground := Go.Ground.chain }, { on := 0, ground := Go.Ground.phase }, { on := 1, ground := Go.Ground.phase }, { on := 2, ground := Go.Ground.phase }, { on := 3, ground := Go.Ground.phase }, { on := 4, ground := Go.Ground.phase }, { on := 5, ground := Go.Ground.phase }, { on := 6, ground := Go.Ground.phase }, { on := 7, ground := Go.Ground.phase }, { on := 8, ground := Go.Ground.phase }, { on := 9, ground := Go.Ground.phase }, { on := 10, ground := Go.Ground.phase }, { on := 11, ground := Go.Ground.phase }, { on := 12, ground := Go.Ground.phase }, { on := 13, ground := Go.Ground.phase }, { on := 14, ground := Go.Ground.phase }, { on := 15, ground := Go.Ground.phase }, { on := 16, ground := Go.Ground.phase }, { on := 17, ground := Go.Ground.phase }, { on := 18, ground := Go.Ground.phase }, { on := 19, ground := Go.Ground.phase }, { on := 20, ground := Go.Ground.phase }, { on := 21, ground := Go.Ground.phase }, { on := 22, ground := Go.Ground.phase }, { on := 23, ground := Go.Ground.phase }, { on := 24, ground := Go.Ground.phase }, { on := 25, ground := Go.Ground.phase }, { on := 26, ground := Go.Ground.phase }, { on := 27, ground := Go.Ground.phase }, { on := 28, ground := Go.Ground.phase }, { on := 29, ground := Go.Ground.phase }, { on := 30, ground := Go.Ground.phase }, { on := 31, ground := Go.Ground.phase }, { on := 32, ground := Go.Ground.phase }, { on := 33, ground := Go.Ground.phase }, { on := 34, ground := Go.Ground.phase }, { on := 35, ground := Go.Ground.phase }, { on := 36, ground := Go.Ground.phase }, { on := 37, ground := Go.Ground.phase }, { on := 38, ground := Go.Ground.phase }, { on := 39, ground := Go.Ground.phase }, { on := 40, ground := Go.Ground.phase }, { on := 41, ground := Go.Ground.phase }, { on := 42, ground := Go.Ground.phase }, { on := 43, ground := Go.Ground.phase }, { on := 44, ground := Go.Ground.phase }, { on := 45, ground := Go.Ground.phase }, { on := 46, ground := Go.Ground.phase }, { on := 47, ground := Go.Ground.phase }, { on := 48, ground := Go.Ground.phase }, { on := 49, ground := Go.Ground.phase }, { on := 50, ground := Go.Ground.phase }, { on := 51, ground := Go.Ground.phase }, { on := 52, ground := Go.Ground.phase }, { on := 53, ground := Go.Ground.phase }, { on := 54, ground := Go.Ground.phase }, { on := 55, ground := Go.Ground.phase }, { on := 56, ground := Go.Ground.phase }, { on := 57, ground := Go.Ground.phase }, { on := 58, ground := Go.Ground.phase }, { on := 59, ground := Go.Ground.phase }], guard := none } : Oper)) (v := .bool true) rfl (by kernel_rfl) (by kernel_rfl) (by kernel_rfl) (fun _ _ _ h => h) (Or.inl ⟨by rfl, fun w' _ => ?_⟩) hHeld''' ?_
          · go_simp
          simp only [Act.put, List.setIfInBounds_toArray, List.set_cons_zero, List.set_cons_succ]
          refine wpAnyH_done (by kernel_rfl) ?_ _
          try (go_wp2_with fail)
          go_ret
          exact ⟨rfl, HB8.out.trans (Below.mono hHeld''' HB8.out.size)⟩
end Go.Proofs.YteahcgjabdjmkaaDoor
