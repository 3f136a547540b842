/-
  The walk of addr.read4. Conditions: a text that is not long; the library's variables hold what their initialisers lay.
-/
import Derived.Test.YtclfmokdjmnjcaaDoorAddrSix
import Derived.Deep.MidRow
import Derived.StillTailTactics
namespace Go.Proofs.YtclfmokdjmnjcaaDoor
open Go.RowKit

theorem rdAll_small {xs : List (List UInt8)} {vs : List Nat} (h : rdAll 10 255 xs = some vs) : ∀ v ∈ vs, v < 256 := fun v hv => by have := rdAll_le h v hv; omega
theorem four_of {vs : List Nat} (h : vs.length = 4) : vs = [vs.getD 0 0, vs.getD 1 0, vs.getD 2 0, vs.getD 3 0] := by
  match vs, h with
  | [a, b, c, d], _ => rfl
theorem read4_none {s : List UInt8} {r : Option (List Nat)} (h : rdAll 10 255 (sp s) = r) (hn : ∀ vs, r = some vs → vs.length ≠ 4) : read4 s = none := by
  unfold read4
  rw [h]
  cases r with
  | none => rfl
  | some vs =>
    have := hn vs rfl
    match vs, this with
    | [], _ => rfl
    | [_], _ => rfl
    | [_, _], _ => rfl
    | [_, _, _], _ => rfl
    | [_, _, _, _], h => exact absurd rfl h
    | _ :: _ :: _ :: _ :: _ :: _, _ => rfl
theorem cast8 (v : Nat) (h : v < 256) : ((UInt8.ofNat v).toNat : Int) = (v : Int) := by rw [UInt8.toNat_ofNat']; omega
def quad (a b c d : Nat) : List UInt8 := four12 ++ [UInt8.ofNat a, UInt8.ofNat b, UInt8.ofNat c, UInt8.ofNat d]
theorem quad_len (a b c d : Nat) : (quad a b c d).length = 16 := rfl
theorem v4_n (a b c d : Nat) (ha : a < 256) (hb : b < 256) (hc : c < 256) (hd : d < 256) (W : World) :
    Calls Tryd.prog 12 #[.int .u8 a, .int .u8 b, .int .u8 c, .int .u8 d] W fun e w' => e = .returned (.agg (bvs (quad a b c d)).toArray) ∧ Below W.heap.size W w' := by
  have := v4_e (UInt8.ofNat a) (UInt8.ofNat b) (UInt8.ofNat c) (UInt8.ofNat d) W
  rw [cast8 a ha, cast8 b hb, cast8 c hc, cast8 d hd] at this
  exact this
theorem read4_some {s : List UInt8} {a b c d : Nat} (h : rdAll 10 255 (sp s) = some [a, b, c, d]) : read4 s = some (quad a b c d) := by
  unfold read4
  rw [h]; rfl
set_option maxRecDepth 100000 in
set_option maxHeartbeats 1000000 in
theorem read4_e (s : ByteArray) (w : World) (he : AEnv w) (hs : s.size ≤ 1000) :
    Calls Tryd.prog 23 #[.string s] w (Rd6Post (read4 s.data.toList) w) := by
  obtain ⟨Z, hZ⟩ : ∃ Z, Z = (bvs zero16).toArray := ⟨_, rfl⟩
  have zA : (Tryd.prog.info? 23).map (·.zero) = some (some (.agg Z)) := by rw [hZ]; exact zeroAddr
  have zB : Tryd.prog.built 23 [] = some Z := by rw [hZ]; exact builtNone
  have zS : (Tryd.prog.info? 23).map (·.size) = some Z.size := by rw [hZ]; exact sizeBv rfl
  have z1 : Z.all (·.oneCell') = true := by rw [hZ]; exact oneBv _
  have zn : Z.size = 16 := by rw [hZ]; rfl
  have hb0 : Below w.heap.size w (w.alloc (.cells Z 23)) := (Below.refl _ w).alloc (Nat.le_refl _) _
  have hsp := split_f s (w.alloc (.cells Z 23)) (he.below hb0).env (by omega)
  have hval := fun W B (hW : AEnv W) (hf : StrsF W B (pieces s)) => vals8 (pieces s) B W hW hf (by have := pieces_le s; omega) (fun x hx => by have := pieces_sz s x hx; omega)
  have hpd : (pieces s).map (·.data.toList) = sp s.data.toList := pieces_data s
  have hpl : (pieces s).length ≤ 1002 := by have := pieces_le s; omega
  obtain ⟨r4, hr4⟩ : ∃ r, r = read4 s.data.toList := ⟨_, rfl⟩
  rw [← hr4]
  obtain ⟨xs, hxs⟩ : ∃ xs, xs = pieces s := ⟨_, rfl⟩
  rw [← hxs] at hsp hval hpd hpl
  have hsp' : Calls Tryd.prog 10 #[.string s] (w.alloc (.cells Z 23)) fun e w' => e = .returned (.slice (some ⟨w.heap.size + 1, 0, none⟩) xs.length xs.length) ∧ Below (w.alloc (.cells Z 23)).heap.size (w.alloc (.cells Z 23)) w' ∧ StrsF w' (w.heap.size + 1) xs :=
    hsp.mono fun e w' ⟨h1, h2, h3⟩ => ⟨by rw [h1, World.size_alloc], h2, by rw [World.size_alloc] at h3; exact h3⟩
  clear hsp
  have hg0 : (w.alloc (.cells Z 23)).heap[w.heap.size]? = some (.cells Z 23 (0, 0)) := heap_alloc_last w _
  have hg1 : w.heap.size < (w.alloc (.cells Z 23)).heap.size := by rw [World.size_alloc]; omega
  have HG0 : Hid (∀ wr, Below (w.alloc (.cells Z 23)).heap.size (w.alloc (.cells Z 23)) wr → wr.heap[w.heap.size]? = some (.cells Z 23 (0, 0)) ∧ Below w.heap.size w wr) := Lib.hid fun wr hb => ⟨by rw [hb.block _ hg1]; exact hg0, hb0.trans (hb.mono hb0.size)⟩
  have hu := Tryd.underlying23
  have HE := Lib.hid (he.below hb0)
  have ZA := Lib.hid zA
  have ZB := Lib.hid zB
  have ZS := Lib.hid zS
  have Z1 := Lib.hid z1
  have ZN := Lib.hid zn
  have HZ := Lib.hid hZ
  have HV := Lib.hid hval
  have HPD := Lib.hid hpd
  have HR4 := Lib.hid hr4
  have HPL := Lib.hid hpl
  clear zA zB zS z1 zn hZ he hs hg0 hg1 hb0 hval hpd hr4 hxs hpl
  go_enter Tryd.func23, Tryd.ntmps23
  go_wp2_with (first
    | (refine wpList_alloc_z rfl 23 rfl Z ZA.out ?_; go_simp))
  refine hsp'.mono ?_
  rintro e w1 ⟨rfl, hb1, hs1⟩
  have HB1 := Lib.hid hb1
  have HS1 := Lib.hid hs1
  clear hb1 hs1 hsp'
  go_wp2_with fail
  refine (HV.out w1 (w.heap.size + 1) (HE.out.below HB1.out) HS1.out).mono ?_
  rintro e w2 ⟨hb2, h⟩
  have HB2 := Lib.hid (HB1.out.trans (hb2.mono HB1.out.size))
  have HG2 := Lib.hid (HG0.out w2 HB2.out)
  have HG21 := Lib.hid HG2.out.1
  clear hb2
  rcases h with ⟨vs, g, hv, hl, rfl, hu64⟩ | ⟨hv, rfl⟩
  · rw [HPD.out] at hv
    by_cases h4 : xs.length = 4
    · have hvl : vs.length = 4 := by omega
      obtain ⟨x0, x1, x2, x3, rfl⟩ : ∃ x0 x1 x2 x3, vs = [x0, x1, x2, x3] := ⟨_, _, _, _, four_of hvl⟩
      have hr : r4 = some (quad x0 x1 x2 x3) := by rw [HR4.out]; exact read4_some hv
      have c0 : w2.cell? ⟨g, 0, none⟩ = some (.int .u64 (x0 : Nat)) := hu64.cells 0 (by simp)
      have c1 : w2.cell? ⟨g, 1, none⟩ = some (.int .u64 (x1 : Nat)) := hu64.cells 1 (by simp)
      have c2 : w2.cell? ⟨g, 2, none⟩ = some (.int .u64 (x2 : Nat)) := hu64.cells 2 (by simp)
      have c3 : w2.cell? ⟨g, 3, none⟩ = some (.int .u64 (x3 : Nat)) := hu64.cells 3 (by simp)
      have hsm := rdAll_small hv
      have b0 : x0 < 256 := hsm _ (by simp)
      have b1 : x1 < 256 := hsm _ (by simp)
      have b2 : x2 < 256 := hsm _ (by simp)
      have b3 : x3 < 256 := hsm _ (by simp)
      have HC := Lib.hid (fun W => v4_n x0 x1 x2 x3 b0 b1 b2 b3 W)
      have hlt := hu64.lt
      have HR := Lib.hid hr
      have hsz : (Tryd.prog.info? 23).map (·.size) = some (bvs (quad x0 x1 x2 x3)).length := by rw [sizeAddr, bvs_length, quad_len]
      have hone := bvs_one (quad x0 x1 x2 x3)
      have hcl : (bvs (quad x0 x1 x2 x3)).length = 16 := by rw [bvs_length, quad_len]
      have hgne : g ≠ w.heap.size := fun e => by
        subst e
        rw [cell_of_row w2 _ _ _ _ _ HG21.out, HZ.out] at c0
        cases c0
      clear hr hsm hu64 hv hvl hl
      obtain ⟨cs, hcs⟩ : ∃ cs, cs = bvs (quad x0 x1 x2 x3) := ⟨_, rfl⟩
      rw [← hcs] at HC hsz hone hcl
      have HCS := Lib.hid hcs
      clear hcs
      rw [h4]
      clear h4
      have hth : w2.there w.heap.size 0 16 := fun j hj => by
        have hz : j < Z.size := by rw [ZN.out]; exact hj
        refine ⟨?_, ?_⟩
        · rw [Nat.zero_add, cell_of_row w2 _ _ _ _ _ HG21.out, Array.getElem?_eq_getElem hz]; rfl
        · unfold World.frozen?; rw [HG21.out]; simp
      have hq0 : IntKind.u8.wrap (x0 : Int) = (x0 : Int) := by rw [IntKind.wrap_u8]; omega
      have hq1 : IntKind.u8.wrap (x1 : Int) = (x1 : Int) := by rw [IntKind.wrap_u8]; omega
      have hq2 : IntKind.u8.wrap (x2 : Int) = (x2 : Int) := by rw [IntKind.wrap_u8]; omega
      have hq3 : IntKind.u8.wrap (x3 : Int) = (x3 : Int) := by rw [IntKind.wrap_u8]; omega
      clear hth hgne
      go_wp2_with fail
      go_still_tail 16, (by kernel_rfl)
      change wpList _ _ _ _ _ w2.drew
      have b23 : Below w2.heap.size w2 w2.drew := (Below.refl _ w2).drew
      obtain ⟨wd, hwd⟩ : ∃ wd, wd = w2.drew := ⟨_, rfl⟩
      have c0' : wd.cell? ⟨g, 0, none⟩ = some (.int .u64 (x0 : Nat)) := by rw [hwd]; exact c0
      have c1' : wd.cell? ⟨g, 1, none⟩ = some (.int .u64 (x1 : Nat)) := by rw [hwd]; exact c1
      have c2' : wd.cell? ⟨g, 2, none⟩ = some (.int .u64 (x2 : Nat)) := by rw [hwd]; exact c2
      have c3' : wd.cell? ⟨g, 3, none⟩ = some (.int .u64 (x3 : Nat)) := by rw [hwd]; exact c3
      rw [← hwd] at b23 ⊢
      have HBD := Lib.hid (HB2.out.trans (b23.mono HB2.out.size))
      clear hwd c0 c1 c2 c3 b23
      go_wp2_with fail
      refine (HC.out _).mono ?_
      rintro e w3 ⟨rfl, hb3⟩
      have HB3 := Lib.hid (HBD.out.trans (hb3.mono HBD.out.size))
      have HG3 := Lib.hid (HG0.out w3 HB3.out)
      have HG31 := Lib.hid HG3.out.1
      have hsz' : (Tryd.prog.info? 23).map (·.size) = some cs.toArray.size := by rw [hsz, List.size_toArray]
      have hone' : cs.toArray.all (·.oneCell') = true := by rw [List.all_toArray]; exact List.all_eq_true.2 hone
      have hzr : Z.size = cs.toArray.size := by rw [ZN.out, List.size_toArray, hcl]
      obtain ⟨ca, hca⟩ : ∃ ca, ca = cs.toArray := ⟨_, rfl⟩
      rw [← hca] at hsz' hone' hzr ⊢
      have HS := Lib.hid hsz'
      have H1 := Lib.hid hone'
      have HZR := Lib.hid hzr
      have HCA := Lib.hid hca
      clear hb3 hsz' hone' hzr hsz hone hcl hca c0' c1' c2' c3'
      go_wp2_with (first
        | (refine wpList_store_blk rfl 23 (.tmp 2) (.tmp 36) rfl w.heap.size Z ca 23 HG31.out rfl rfl HS.out HZR.out H1.out ?_; intro w4 hg4 hw4 hz4; go_simp))
      exact bodyPost_ret (res_ct rfl _ w4 w.heap.size ca 23 (0, 0) (.bool true) rfl rfl hg4.out HS.out) rfl ⟨HG3.out.2.grown hw4.out (HG3.out.2.size) (fun k e => by injection e with e; omega), .inl ⟨_, HR.out, quad_len .., by rw [HCA.out, HCS.out]⟩⟩
    · have hr : r4 = none := by
        rw [HR4.out]
        exact read4_none hv (fun us e => by injection e with e; subst e; omega)
      have HR := Lib.hid hr
      have h4' : ¬ (xs.length : Int) = 4 := by omega
      clear hr hv hu64
      go_wp2_with (first
        | (refine wpList_build_z rfl 23 #[] rfl Z ZB.out ?_; go_simp)
        | (refine wpList_store_blk rfl 23 (.tmp 2) (.tmp 19) rfl w.heap.size Z Z 23 HG21.out rfl rfl ZS.out rfl Z1.out ?_; intro w4 hg4 hw4 hz4; go_simp))
      exact bodyPost_ret (res_ct rfl _ w4 w.heap.size Z 23 (0, 0) (.bool false) rfl rfl hg4.out ZS.out) rfl ⟨HG2.out.2.grown hw4.out (HG2.out.2.size) (fun k e => by injection e with e; omega), .inr ⟨HR.out, by rw [HZ.out]⟩⟩
  · rw [HPD.out] at hv
    have hr : r4 = none := by
      rw [HR4.out]
      exact read4_none hv (fun us e => by cases e)
    have HR := Lib.hid hr
    clear hr hv
    go_wp2_with (first
      | (refine wpList_build_z rfl 23 #[] rfl Z ZB.out ?_; go_simp)
      | (refine wpList_store_blk rfl 23 (.tmp 2) (.tmp 19) rfl w.heap.size Z Z 23 HG21.out rfl rfl ZS.out rfl Z1.out ?_; intro w4 hg4 hw4 hz4; go_simp))
    exact bodyPost_ret (res_ct rfl _ w4 w.heap.size Z 23 (0, 0) (.bool false) rfl rfl hg4.out ZS.out) rfl ⟨HG2.out.2.grown hw4.out (HG2.out.2.size) (fun k e => by injection e with e; omega), .inr ⟨HR.out, by rw [HZ.out]⟩⟩
end Go.Proofs.YtclfmokdjmnjcaaDoor
