/-
  The walk of MsgJunk: any bytes are read without harm, and what is read may be. Conditions: the library's variable MaxLen holds some number; the bytes lie in memory.
-/
import Derived.Test.YtogojnlfglbefaaDoorMsgAny
import Derived.Test.YtogojnlfglbefaaDoorMsgFit
import Derived.Laws.AppendOwnNone
namespace Go.Proofs.YtogojnlfglbefaaDoor
open Go.RowKit

/-- a value built of parts where the operation stands under a guard that is met -/
theorem wpList_build_gh {P : Program} {ops : Array Oper} {rest : List Oper} {o : Oper} {a : Act} {Q : Exit → Act → World → Prop} {w : World} (hw : Region.wanted o (yielded ops a.tmps) = true) (t : TypeId) (parts : Array (Nat × Operand)) (ho : o.op = .build t parts)
    (vals : List (Nat × Value)) (cs : Array Value) (hf : P.built t vals = some cs) (hv : parts.toList.map (fun (i, x) => (i, a.eval x)) = vals)
    (h : wpList P ops Q rest (a.put o.dst (.agg cs)) w) : wpList P ops Q (o :: rest) a w := by
  subst hv
  unfold wpList
  rw [if_pos hw]
  left
  have e : (P.built t (parts.map fun (i, x) => (i, a.eval x)).toList) = some cs := by rw [Array.toList_map]; exact hf
  refine wp_build t parts ho (by rw [e]; rfl) ?_
  rw [e]
  exact h
theorem inB_to {w w1 : World} {A : Option Addr} {b : List UInt8} (h : InB w w.heap.size A b) (hb : Below w.heap.size w w1) : InB w1 w1.heap.size A b := fun h0 => by
  obtain ⟨bb, o, e, hlt, hc⟩ := h.below hb h0
  exact ⟨bb, o, e, Nat.lt_of_lt_of_le hlt hb.size, hc⟩
def j12 : List UInt8 := [0, 1, 129, 128, 0, 1, 0, 1, 0, 0, 0, 0]
theorem junk_own (W : World) (g : Nat) (hg : W.heap.size = g) : (W.alloc (.cells #[.int .u8 0, .int .u8 1, .int .u8 129, .int .u8 128, .int .u8 0, .int .u8 1, .int .u8 0, .int .u8 1, .int .u8 0, .int .u8 0, .int .u8 0, .int .u8 0] 5)).ownsRow g 5 1 (.slice (some ⟨g, 0, none⟩) 12 12) 12 (bvs j12) := by
  subst hg
  exact ⟨rfl, .inr ⟨W.heap.size, 12, _, rfl, Nat.le_refl _, heap_alloc_last W _, Nat.le_refl _, by decide, rfl, rfl⟩⟩
/-- append of bytes that came in to a row of the call's own -/
theorem wpList_append_opt {w : World} {ops : Array Oper} {rest : List Oper} {o : Oper} {a : Act} {Q : Exit → Act → World → Prop} (hgd : o.guard = none) (s x : Operand)
    (ho : o.op = .call { callee := .builtin .append, args := #[s, x], argTypes := #[38, 38] })
    (base : Nat) (v : Value) (xs : List UInt8) (n : Nat) (hs : a.eval s = v) (hown : w.ownsRow base 5 1 v n (bvs xs))
    (A : Option Addr) (mc : Nat) (cs : List UInt8) (hx : a.eval x = .slice A cs.length mc) (hA : A = none → mc = 0 ∧ cs = []) (hin : InB w w.heap.size A cs) (hn : n ≤ 100000000000) (hn2 : cs.length ≤ 100000000000) (hbase : base ≤ w.heap.size)
    (h : ∀ v' w', w'.ownsRow base 5 1 v' (n + cs.length) (bvs (xs ++ cs)) → w.grownBy w' v.ownBlock → wpList Tryd.prog ops Q rest (a.put o.dst v') w') : wpList Tryd.prog ops Q (o :: rest) a w := by
  cases A with
  | none =>
    obtain ⟨rfl, rfl⟩ := hA rfl
    obtain ⟨i0, hi, hz0, hz1, hz2⟩ := info_parts infoU8
    exact wpList_append_own_none hgd s x 38 ho base 5 i0 1 Tryd.underlying38 hi v n (bvs xs) hs hown hx (by
      have := h v w (by rw [List.append_nil]; exact hown) ⟨rfl, rfl, rfl, Nat.le_refl _, fun _ _ _ => rfl⟩
      subst hs; exact this)
  | some ad =>
    refine wpList_append_bs hgd s x ho base v xs n hs hown ad cs.length mc cs rfl hx (fun j u hu => ?_) hn hn2 hbase h
    have hj : j < cs.length := by
      have := (List.getElem?_eq_some_iff.1 hu).1
      rwa [bvs_length] at this
    obtain ⟨bb, o', e, _, hc⟩ := hin (by omega)
    injection e with e
    subst e
    rw [Addr.add_lit, hc j hj, ← bvs_at hj]
    exact hu
theorem own_inB {w : World} {base n : Nat} {v : Value} {b : List UInt8} (h : w.ownsRow base 5 1 v n (bvs b)) (hn : n = b.length) (h0 : 0 < n) : ∃ gb cap, v = .slice (some ⟨gb, 0, none⟩) n cap ∧ n ≤ cap ∧ gb < w.heap.size ∧ InB w w.heap.size (some ⟨gb, 0, none⟩) b := by
  subst hn
  rcases h.2 with ⟨_, h1⟩ | ⟨g, cap, cur, rfl, _⟩
  · omega
  · obtain ⟨h1, h2, h3, _⟩ := enc_inB h h0
    exact ⟨g, cap, rfl, h2, h1, h3⟩
/-- what Decode answers, said of the value alone -/
def AnyV (w : World) (b : List UInt8) (e : Ending) (w' : World) : Prop :=
  Below w.heap.size w w' ∧ ∃ (C : Array Value) (k : Int), e = .returned (.tuple #[.agg C, .int .i64 k]) ∧ C.size = 9 ∧ C.all (·.oneCell') = true ∧
    ((k = 4 ∧ C = zMsg) ∨ (k = 0 ∧ C[0]? = some (.int .i64 (hd b 0 : Nat)) ∧ (∃ A' ca, C[7]? = some (.slice A' (hd b 3) ca)) ∧
      ∀ W, Below w'.heap.size w' W → Env W → Calls Tryd.prog 16 #[.agg C] W fun e w2 => e = .returned (.bool true) ∧ Below W.heap.size W w2))
theorem decode_anyV (A : Option Addr) (c n : Nat) (b : List UInt8) (w : World) (he : Env w) (hin : InB w w.heap.size A b) (hbn : n = b.length) (hc : n ≤ c) (hl : n ≤ 140737488351232) (hn : A = none → c = 0) :
    Calls Tryd.prog 14 #[.slice A n c] w (AnyV w b) := by
  subst hbn
  refine (decode_any A c b w he hin hc hl hn).mono ?_
  rintro e w' ⟨hb, rfl | ⟨m, h1, h2, h3, h4, h5, rfl⟩⟩
  · exact ⟨hb, zMsg, 4, rfl, rfl, oneZ, .inl ⟨rfl, rfl⟩⟩
  · refine ⟨hb, m.cells, 0, rfl, rfl, MV.one m, .inr ⟨rfl, by rw [← h1]; rfl, ⟨m.A, m.ca, by rw [← h2]; rfl⟩, fun W hW hE => ?_⟩⟩
    refine (all_mv m h3 W hE (h4.below hW)).mono ?_
    rintro e w2 ⟨rfl, hb2, _⟩
    exact ⟨by rw [h5], hb2⟩
set_option maxRecDepth 100000 in
set_option maxHeartbeats 8000000 in
theorem msgJunk_walk (A : Option Addr) (c : Nat) (b : List UInt8) (w : World) (he : Env w) (hin : InB w w.heap.size A b) (hc : b.length ≤ c) (hn : A = none → c = 0 ∧ b = []) :
    Calls Tryd.prog 9 #[.slice A b.length c] w fun e w' => e = .returned (.bool true) ∧ Below w.heap.size w w' := by
  have HFit := Lib.hid fit4_e
  have HSame := Lib.hid same_zero
  have HE := Lib.hid he
  have HIn := Lib.hid hin
  have HCc := Lib.hid hc
  have HN := Lib.hid hn
  have BZ := Lib.hid zeroBuilt
  have ZM := Lib.hid zeroM
  clear he hin hc hn
  go_enter Tryd.func9, Tryd.ntmps9
  go_wp2_with fail
  refine (HFit.out w HE.out).mono ?_
  rintro e w1 ⟨rfl, hb1⟩
  have HB1 := Lib.hid hb1
  clear hb1
  by_cases h3 : (3000 : Int) < (b.length : Int)
  · go_wp2_with fail
    go_ret
    exact ⟨rfl, HB1.out⟩
  · go_wp2_with fail
    refine (decode_anyV A c b.length b w1 (HE.out.below HB1.out) (inB_to HIn.out HB1.out) rfl HCc.out (by omega) (fun h => (HN.out h).1)).mono ?_
    rintro e w2 ⟨hb2, C1, k1, rfl, hs1, ho1, hv1⟩
    have HB2 := Lib.hid (HB1.out.trans (hb2.mono HB1.out.size))
    have S1 : Hid ((Tryd.prog.info? 29).map (·.size) = some C1.size) := Lib.hid (by rw [hs1]; exact sizeM)
    have Z1 : Hid (zMsg.size = C1.size) := Lib.hid (by rw [hs1]; rfl)
    have O1 := Lib.hid ho1
    have HV1 := Lib.hid hv1
    clear hb2 hs1 ho1 hv1
    have HIn2 := Lib.hid (inB_to HIn.out HB2.out)
    have HLen : Hid (b.length ≤ 3000) := Lib.hid (by omega)
    have HWe : Hid (w.heap.size ≤ w2.heap.size) := Lib.hid HB2.out.size
    have HB3 : Hid (Below w.heap.size w ((w2.alloc (.cells C1 29)).alloc (.cells #[.int .u8 0, .int .u8 1, .int .u8 129, .int .u8 128, .int .u8 0, .int .u8 1, .int .u8 0, .int .u8 1, .int .u8 0, .int .u8 0, .int .u8 0, .int .u8 0] 5))) :=
      Lib.hid ((HB2.out.alloc HWe.out _).alloc (by rw [World.size_alloc]; have := HWe.out; omega) _)
    have HB23 : Hid (Below w2.heap.size w2 ((w2.alloc (.cells C1 29)).alloc (.cells #[.int .u8 0, .int .u8 1, .int .u8 129, .int .u8 128, .int .u8 0, .int .u8 1, .int .u8 0, .int .u8 1, .int .u8 0, .int .u8 0, .int .u8 0, .int .u8 0] 5))) :=
      Lib.hid (((Below.refl _ w2).alloc (Nat.le_refl _) _).alloc (by rw [World.size_alloc]; omega) _)
    have HM3 : Hid (((w2.alloc (.cells C1 29)).alloc (.cells #[.int .u8 0, .int .u8 1, .int .u8 129, .int .u8 128, .int .u8 0, .int .u8 1, .int .u8 0, .int .u8 1, .int .u8 0, .int .u8 0, .int .u8 0, .int .u8 0] 5)).heap[w2.heap.size]? = some (.cells C1 29 (0, 0))) :=
      Lib.hid (by
        have h := heap_alloc_last w2 (.cells C1 29)
        exact (Below.heap_alloc (w2.alloc (.cells C1 29)) _ _ (by simp)).trans h)
    go_wp2_with (first
      | (refine wpList_alloc_z rfl 29 rfl zMsg ZM.out ?_; go_simp)
      | (refine wpList_store_new rfl 29 (.tmp 3) (.tmp 16) rfl w2.heap.size rfl zMsg C1 29 rfl rfl S1.out Z1.out O1.out ?_; go_simp)
      | (at_builtin; refine wpList_append_opt rfl (.tmp 18) (.tmp 19) rfl (w2.heap.size + 1) (.slice (some ⟨w2.heap.size + 1, 0, none⟩) 12 12) j12 12 rfl (junk_own _ _ (by simp)) A c b rfl HN.out (inB_to HIn.out HB3.out) (by omega) (by have := HLen.out; omega) (by simp) ?_; intro v4 w4 hv4 hg4; replace hg4 : World.grownBy _ w4 (some (w2.heap.size + 1)) := hg4; obtain ⟨gb, cap, rfl, hcap, hgb, hin4⟩ := own_inB hv4 (by rw [List.length_append]; rfl) (by omega); have HB4 := Lib.hid (HB3.out.grown hg4 HB3.out.size (fun k e => by injection e with e; have := HWe.out; omega)); have HIn4 := Lib.hid hin4; have HCap := Lib.hid hcap; have HB24 := Lib.hid (HB23.out.grown hg4 HB23.out.size (fun k e => by injection e with e; omega)); have HM4 : Hid (w4.heap[w2.heap.size]? = some (.cells C1 29 (0, 0))) := Lib.hid ((hg4.block _ (heap_lt HM3.out) (fun e => by injection e with e; omega)).trans HM3.out); clear hv4 hg4 hcap hgb hin4; go_simp))
    have C2 := decode_anyV (some ⟨gb, 0, none⟩) cap (12 + b.length) (j12 ++ b) w4 (HE.out.below HB4.out) HIn4.out (by rw [List.length_append]; rfl) HCap.out (by have := HLen.out; omega) (fun h => by cases h)
    refine C2.mono ?_
    rintro e w5 ⟨hb5, C2, k2, rfl, hs2, ho2, hv2⟩
    have HB5 := Lib.hid (HB4.out.trans (hb5.mono HB4.out.size))
    have HB25 := Lib.hid (HB24.out.trans (hb5.mono HB24.out.size))
    have HM5 : Hid (w5.heap[w2.heap.size]? = some (.cells C1 29 (0, 0))) := Lib.hid ((hb5.block _ (heap_lt HM4.out)).trans HM4.out)
    have S2 : Hid ((Tryd.prog.info? 29).map (·.size) = some C2.size) := Lib.hid (by rw [hs2]; exact sizeM)
    have Z2 : Hid (zMsg.size = C2.size) := Lib.hid (by rw [hs2]; rfl)
    have O2 := Lib.hid ho2
    obtain ⟨W6, hW6⟩ : ∃ W6, W6 = w5.alloc (.cells C2 29) := ⟨_, rfl⟩
    have HB6 : Hid (Below w.heap.size w W6) := Lib.hid (by rw [hW6]; exact HB5.out.alloc HB5.out.size _)
    have HB26 : Hid (Below w2.heap.size w2 W6) := Lib.hid (by rw [hW6]; exact HB25.out.alloc HB25.out.size _)
    have HB56 : Hid (Below w5.heap.size w5 W6) := Lib.hid (by rw [hW6]; exact (Below.refl _ w5).alloc (Nat.le_refl _) _)
    have H16 : Hid (W6.heap[w2.heap.size]? = some (.cells C1 29 (0, 0))) := Lib.hid ((HB56.out.block _ (heap_lt HM5.out)).trans HM5.out)
    have H26 : Hid (W6.heap[w5.heap.size]? = some (.cells C2 29 (0, 0))) := Lib.hid (by rw [hW6]; exact heap_alloc_last w5 _)
    clear hb5 hs2 ho2 HB3 HM3 HB23 HB4 HIn4 HB24 HM4 HIn2 HB1
    have e0 : hd (j12 ++ b) 0 = 1 := rfl
    have e3 : hd (j12 ++ b) 3 = 1 := rfl
    rw [e0, e3] at hv2
    clear e0 e3
    have HE6 := Lib.hid (HE.out.below HB6.out)
    rcases HV1.out with ⟨rfl, rfl⟩ | ⟨rfl, _, _, hA1⟩ <;> rcases hv2 with ⟨rfl, rfl⟩ | ⟨rfl, hz0, ⟨A', ca, hz7⟩, hA2⟩
    · clear HV1
      go_wp2_with (first
        | (refine wpList_alloc_z rfl 29 rfl zMsg ZM.out ?_; go_simp)
        | (refine wpList_store_new rfl 29 (.tmp 6) (.tmp 24) rfl w5.heap.size rfl zMsg zMsg 29 rfl rfl S2.out rfl O2.out ?_; rw [← hW6]; clear hW6; go_simp)
        | (refine wpList_row_gh 29 (.tmp 3) rfl rfl w2.heap.size rfl 29 zMsg (0, 0) _ H16.out Tryd.underlying29 rfl S1.out ?_; go_simp)
        | (refine wpList_build_gh rfl 29 #[] rfl [] zMsg BZ.out rfl ?_; go_simp)
        | (go_at_call 17; refine (HSame.out W6).mono ?_; rintro e w7 ⟨rfl, hb7⟩; have HB7 := Lib.hid (HB6.out.trans (hb7.mono HB6.out.size)); have HB57 := Lib.hid (HB56.out.trans (hb7.mono HB56.out.size)); have HE7 := Lib.hid (HE6.out.below hb7); have H27 := Lib.hid ((hb7.block _ (heap_lt H26.out)).trans H26.out); clear hb7; go_simp))
      go_ret
      exact ⟨rfl, HB7.out⟩
    · clear HV1
      have HA2 := Lib.hid hA2
      have HZ0 := Lib.hid hz0
      have HZ7 := Lib.hid hz7
      clear hA2 hz0 hz7
      go_wp2_with (first
        | (refine wpList_alloc_z rfl 29 rfl zMsg ZM.out ?_; go_simp)
        | (refine wpList_store_new rfl 29 (.tmp 6) (.tmp 24) rfl w5.heap.size rfl zMsg C2 29 rfl rfl S2.out Z2.out O2.out ?_; rw [← hW6]; clear hW6; go_simp)
        | (refine wpList_row_gh 29 (.tmp 3) rfl rfl w2.heap.size rfl 29 zMsg (0, 0) _ H16.out Tryd.underlying29 rfl S1.out ?_; go_simp)
        | (refine wpList_row_gh 29 (.tmp 6) rfl rfl w5.heap.size rfl 29 C2 (0, 0) _ H27.out Tryd.underlying29 rfl S2.out ?_; go_simp)
        | (refine wpList_build_gh rfl 29 #[] rfl [] zMsg BZ.out rfl ?_; go_simp)
        | (go_at_call 17; refine (HSame.out W6).mono ?_; rintro e w7 ⟨rfl, hb7⟩; have HB7 := Lib.hid (HB6.out.trans (hb7.mono HB6.out.size)); have HB57 := Lib.hid (HB56.out.trans (hb7.mono HB56.out.size)); have HE7 := Lib.hid (HE6.out.below hb7); have H27 := Lib.hid ((hb7.block _ (heap_lt H26.out)).trans H26.out); clear hb7; go_simp)
        | (go_at_call 16; refine (HA2.out w7 HB57.out HE7.out).mono ?_; rintro e w8 ⟨rfl, hb8⟩; have d0 := (cell_of_row w8 w5.heap.size 0 _ _ _ ((hb8.block _ (heap_lt H27.out)).trans H27.out)).trans HZ0.out; have d7 := (cell_of_row w8 w5.heap.size 7 _ _ _ ((hb8.block _ (heap_lt H27.out)).trans H27.out)).trans HZ7.out; have HB8 := Lib.hid (HB7.out.trans (hb8.mono HB7.out.size)); clear hb8; go_simp))
      go_ret
      exact ⟨rfl, HB8.out⟩
    · clear HV1
      have HA1 := Lib.hid hA1
      clear hA1
      go_wp2_with (first
        | (refine wpList_alloc_z rfl 29 rfl zMsg ZM.out ?_; go_simp)
        | (refine wpList_store_new rfl 29 (.tmp 6) (.tmp 24) rfl w5.heap.size rfl zMsg zMsg 29 rfl rfl S2.out rfl O2.out ?_; rw [← hW6]; clear hW6; go_simp)
        | (refine wpList_row_gh 29 (.tmp 3) rfl rfl w2.heap.size rfl 29 C1 (0, 0) _ H16.out Tryd.underlying29 rfl S1.out ?_; go_simp)
        | (go_at_call 16; refine (HA1.out W6 HB26.out HE6.out).mono ?_; rintro e w7 ⟨rfl, hb7⟩; have HB7 := Lib.hid (HB6.out.trans (hb7.mono HB6.out.size)); have HB57 := Lib.hid (HB56.out.trans (hb7.mono HB56.out.size)); have HE7 := Lib.hid (HE6.out.below hb7); have H27 := Lib.hid ((hb7.block _ (heap_lt H26.out)).trans H26.out); clear hb7; go_simp))
      go_ret
      exact ⟨rfl, HB7.out⟩
    · clear HV1
      have HA1 := Lib.hid hA1
      clear hA1
      have HA2 := Lib.hid hA2
      have HZ0 := Lib.hid hz0
      have HZ7 := Lib.hid hz7
      clear hA2 hz0 hz7
      go_wp2_with (first
        | (refine wpList_alloc_z rfl 29 rfl zMsg ZM.out ?_; go_simp)
        | (refine wpList_store_new rfl 29 (.tmp 6) (.tmp 24) rfl w5.heap.size rfl zMsg C2 29 rfl rfl S2.out Z2.out O2.out ?_; rw [← hW6]; clear hW6; go_simp)
        | (refine wpList_row_gh 29 (.tmp 3) rfl rfl w2.heap.size rfl 29 C1 (0, 0) _ H16.out Tryd.underlying29 rfl S1.out ?_; go_simp)
        | (refine wpList_row_gh 29 (.tmp 6) rfl rfl w5.heap.size rfl 29 C2 (0, 0) _ H27.out Tryd.underlying29 rfl S2.out ?_; go_simp)
        | (go_at_call 16; refine (HA2.out w7 HB57.out HE7.out).mono ?_; rintro e w8 ⟨rfl, hb8⟩; have d0 := (cell_of_row w8 w5.heap.size 0 _ _ _ ((hb8.block _ (heap_lt H27.out)).trans H27.out)).trans HZ0.out; have d7 := (cell_of_row w8 w5.heap.size 7 _ _ _ ((hb8.block _ (heap_lt H27.out)).trans H27.out)).trans HZ7.out; have HB8 := Lib.hid (HB7.out.trans (hb8.mono HB7.out.size)); clear hb8; go_simp)
        | (go_at_call 16; refine (HA1.out W6 HB26.out HE6.out).mono ?_; rintro e w7 ⟨rfl, hb7⟩; have HB7 := Lib.hid (HB6.out.trans (hb7.mono HB6.out.size)); have HB57 := Lib.hid (HB56.out.trans (hb7.mono HB56.out.size)); have HE7 := Lib.hid (HE6.out.below hb7); have H27 := Lib.hid ((hb7.block _ (heap_lt H26.out)).trans H26.out); clear hb7; go_simp))
      go_ret
      exact ⟨rfl, HB8.out⟩
end Go.Proofs.YtogojnlfglbefaaDoor
