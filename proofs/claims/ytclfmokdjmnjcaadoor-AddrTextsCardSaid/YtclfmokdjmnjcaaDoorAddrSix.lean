/-
  The walk of addr.read6. Conditions: a text that is not long; the library's variables hold what their initialisers lay.
-/
import Derived.Test.YtclfmokdjmnjcaaDoorAddrCat
import Derived.Laws.ResultCell
namespace Go.Proofs.YtclfmokdjmnjcaaDoor
open Go.RowKit

theorem rdN_le {b M : Nat} : ∀ {l : List UInt8} {acc v : Nat}, acc ≤ M → rdN b M acc l = some v → v ≤ M
  | [], acc, v, h, e => by rw [rdN] at e; injection e with e; omega
  | c :: l, acc, v, h, e => by
    rw [rdN] at e
    split at e
    · cases e
    · split at e
      · rename_i hc
        exact rdN_le hc.2 e
      · cases e
theorem rdAll_le {b M : Nat} : ∀ {xs : List (List UInt8)} {vs : List Nat}, rdAll b M xs = some vs → ∀ v ∈ vs, v ≤ M
  | [], vs, e => by rw [rdAll] at e; injection e with e; subst e; simp
  | x :: l, vs, e => by
    rw [rdAll] at e
    split at e
    · cases e
    · rename_i v hv
      cases hl : rdAll b M l with
      | none => rw [hl] at e; cases e
      | some us =>
        rw [hl, Option.map_some] at e
        injection e with e
        subst e
        have h1 : v ≤ M := by
          unfold rdT at hv
          split at hv
          · cases hv
          · exact rdN_le (Nat.zero_le _) hv
        intro u hu
        rcases List.mem_cons.1 hu with rfl | hu
        · exact h1
        · exact rdAll_le hl u hu
theorem read16_lt {s : List UInt8} {vs : List Nat} (h : read16 s = some vs) : ∀ v ∈ vs, v < 65536 := by
  unfold read16 at h
  split at h
  · injection h with h; subst h; simp
  · exact fun v hv => by have := rdAll_le h v hv; omega
theorem rdAll_len {b M : Nat} : ∀ {xs : List (List UInt8)} {vs : List Nat}, rdAll b M xs = some vs → vs.length = xs.length
  | [], vs, e => by rw [rdAll] at e; injection e with e; subst e; rfl
  | x :: l, vs, e => by
    rw [rdAll] at e
    split at e
    · cases e
    · cases hl : rdAll b M l with
      | none => rw [hl] at e; cases e
      | some us =>
        rw [hl, Option.map_some] at e
        injection e with e
        subst e
        rw [List.length_cons, List.length_cons, rdAll_len hl]
theorem read16_len {s : List UInt8} {vs : List Nat} (h : read16 s = some vs) : vs.length ≤ s.length + 1 := by
  unfold read16 at h
  split at h
  · injection h with h; subst h; simp
  · rw [rdAll_len h, sq_colons]
    have := List.count_le_length (a := (58 : UInt8)) (l := s)
    omega
/-- what a call that reads an address answers -/
def Rd6Post (r : Option (List UInt8)) (w : World) (e : Ending) (w' : World) : Prop :=
  Below w.heap.size w w' ∧ ((∃ a, r = some a ∧ a.length = 16 ∧ e = .returned (.tuple #[.agg (bvs a).toArray, .bool true])) ∨ (r = none ∧ e = .returned (.tuple #[.agg (bvs zero16).toArray, .bool false])))
theorem res_ct {fn : Func} {p u : Tmp} (h : fn.results = #[.cell p 23, .tmp u]) (tmps : Array Value) (w : World) (g : Nat) (cs : Array Value) (t : TypeId) (fr : Nat × Nat) (v : Value)
    (hp : tmps.getD p undef = .pointer (some ⟨g, 0, none⟩)) (hv : tmps.getD u undef = v) (hg : w.heap[g]? = some (.cells cs t fr)) (hi : (Tryd.prog.info? 23).map (·.size) = some cs.size) :
    (results fn tmps).run Tryd.prog w = .ok (.tuple #[.agg cs, v]) w := by
  rw [results_cell_tmp h, hp, hv]
  simp only [asAddr, Sem.run_pure, Result.andThen_ok]
  rw [run_loadVar_row w g t 23 cs fr _ hg Tryd.underlying23 rfl hi]
  rfl
def r6 (x y : List UInt8) (ct : Bool) : Option (List UInt8) := match read16 x, read16 y with
  | some h, some t => put6 h t ct
  | _, _ => none
theorem part_zero (W : World) (n : Nat) : Part (W.alloc (.cells (madeCells #[.int .u64 0] n) 52)) (some ⟨W.heap.size, 0, none⟩) (List.replicate n 0) :=
  .inr ⟨_, rfl, by rw [World.size_alloc]; omega, fun j hj => by
    rw [List.length_replicate] at hj
    rw [World.cell?_alloc_mark, madeAt _ _ _ hj]
    simp [List.getD, hj]⟩
set_option maxRecDepth 100000 in
set_option maxHeartbeats 2000000 in
theorem read6_e (s : ByteArray) (w : World) (he : AEnv w) (hs : s.size ≤ 1000) :
    Calls Tryd.prog 25 #[.string s] w (Rd6Post (read6 s.data.toList) w) := by
  obtain ⟨Z, hZ⟩ : ∃ Z, Z = (bvs zero16).toArray := ⟨_, rfl⟩
  have zA : (Tryd.prog.info? 23).map (·.zero) = some (some (.agg Z)) := by rw [hZ]; exact zeroAddr
  have zB : Tryd.prog.built 23 [] = some Z := by rw [hZ]; exact builtNone
  have zS : (Tryd.prog.info? 23).map (·.size) = some Z.size := by rw [hZ]; exact sizeBv rfl
  have z1 : Z.all (·.oneCell') = true := by rw [hZ]; exact oneBv _
  have zn : Z.size = 16 := by rw [hZ]; rfl
  have hb0 : Below w.heap.size w (w.alloc (.cells Z 23)) := (Below.refl _ w).alloc (Nat.le_refl _) _
  obtain ⟨m, hm⟩ := he.env.2
  have hm0 : (w.alloc (.cells Z 23)).cell? ⟨0, 0, none⟩ = some (.int .i64 m) := (hb0.cell (cell_lt hm)).trans hm
  have hcut := Tryd.strings_Cut s ⟨#[58, 58]⟩ m (w.alloc (.cells Z 23)) (by omega) hm0
  rw [show (ByteArray.mk #[58, 58]).data.toList = [58, 58] from rfl] at hcut
  have hlen : (Lib.cut s.data.toList [58, 58]).1.length ≤ 1000 ∧ (Lib.cut s.data.toList [58, 58]).2.1.length ≤ 1000 := by
    rw [Lib.size_eq] at hs
    unfold Lib.cut
    split
    · simp only [List.length_take, List.length_drop]; omega
    · simp only [List.length_nil]; omega
  have hrd : read6 s.data.toList = r6 (Lib.cut s.data.toList [58, 58]).1 (Lib.cut s.data.toList [58, 58]).2.1 (Lib.cut s.data.toList [58, 58]).2.2 := rfl
  rw [hrd]
  obtain ⟨x, hx⟩ : ∃ x, x = (Lib.cut s.data.toList [58, 58]).1 := ⟨_, rfl⟩
  obtain ⟨y, hy⟩ : ∃ y, y = (Lib.cut s.data.toList [58, 58]).2.1 := ⟨_, rfl⟩
  obtain ⟨ct, hct⟩ : ∃ ct, ct = (Lib.cut s.data.toList [58, 58]).2.2 := ⟨_, rfl⟩
  rw [← hx, ← hy, ← hct] at hcut ⊢
  rw [← hx, ← hy] at hlen
  obtain ⟨hxl, hyl⟩ := hlen
  have hu := Tryd.underlying23
  have HE := Lib.hid (he.below hb0)
  have ZA := Lib.hid zA
  have ZB := Lib.hid zB
  have ZS := Lib.hid zS
  have Z1 := Lib.hid z1
  have ZN := Lib.hid zn
  have HB0 := Lib.hid hb0
  have HZ := Lib.hid hZ
  have HXL := Lib.hid hxl
  have HYL := Lib.hid hyl
  have hg0 : (w.alloc (.cells Z 23)).heap[w.heap.size]? = some (.cells Z 23 (0, 0)) := heap_alloc_last w _
  have hg1 : w.heap.size < (w.alloc (.cells Z 23)).heap.size := by rw [World.size_alloc]; omega
  have HG0 : Hid (∀ wr, Below (w.alloc (.cells Z 23)).heap.size (w.alloc (.cells Z 23)) wr → wr.heap[w.heap.size]? = some (.cells Z 23 (0, 0)) ∧ Below w.heap.size w wr) := Lib.hid fun wr hb => ⟨by rw [hb.block _ hg1]; exact hg0, hb0.trans (hb.mono hb0.size)⟩
  clear hrd hx hy hct hm0 hm zA zB zS z1 zn hZ he hs hxl hyl hg0 hg1 hb0
  go_enter Tryd.func25, Tryd.ntmps25
  go_wp2_with (first
    | (refine wpList_alloc_z rfl 23 rfl Z ZA.out ?_; go_simp))
  refine hcut.mono ?_
  rintro e w1 ⟨rfl, n1, rfl⟩
  have hb1 : Below (w.alloc (.cells Z 23)).heap.size (w.alloc (.cells Z 23)) ((w.alloc (.cells Z 23)).drewN n1) := Joins.below_draws _ _ n1
  have HB1 := Lib.hid hb1
  clear hb1 hcut
  have C1 := fun W (hW : AEnv W) => read16_e ⟨x.toArray⟩ W hW (by rw [Lib.size_eq]; exact HXL.out)
  have C2 := fun W (hW : AEnv W) => read16_e ⟨y.toArray⟩ W hW (by rw [Lib.size_eq]; exact HYL.out)
  have HC1 := Lib.hid C1
  have HC2 := Lib.hid C2
  clear C1 C2
  go_wp2_with fail
  refine (HC1.out _ (HE.out.below HB1.out)).mono ?_
  rintro e w2 ⟨hb2, h⟩
  have HB2 := Lib.hid (HB1.out.trans (hb2.mono HB1.out.size))
  clear hb2
  rcases h with ⟨vs, A, hv, rfl, hA⟩ | ⟨hv, rfl⟩
  · have HV := Lib.hid (show read16 x = some vs from hv)
    have HA := Lib.hid hA
    clear hv hA
    go_wp2_with fail
    refine (HC2.out _ (HE.out.below HB2.out)).mono ?_
    rintro e w3 ⟨hb3, h⟩
    have HB3 := Lib.hid (HB2.out.trans (hb3.mono HB2.out.size))
    have HA3 := Lib.hid ((show Part w2 A vs from HA.out).below hb3)
    clear hb3
    rcases h with ⟨us, U, hv, rfl, hU⟩ | ⟨hv, rfl⟩
    · have HV2 := Lib.hid (show read16 y = some us from hv)
      have HU := Lib.hid (show Part w3 U us from hU)
      clear hv hU
      have hres : r6 x y ct = put6 vs us ct := by unfold r6; rw [HV.out, HV2.out]
      have HG3 := Lib.hid (HG0.out w3 HB3.out)
      have HG31 := Lib.hid HG3.out.1
      have hvl : (vs.length : Int) ≤ 2000 := by have := read16_len HV.out; have := HXL.out; omega
      have hul : (us.length : Int) ≤ 2000 := by have := read16_len HV2.out; have := HYL.out; omega
      by_cases hov : 8 < vs.length + us.length
      · have hp : put6 vs us ct = none := by unfold put6; rw [if_pos (.inl hov)]
        have HPn := Lib.hid (hres.trans hp)
        have hneg : (8 : Int) - (vs.length : Int) - (us.length : Int) < 0 := by omega
        clear hres hp
        go_wp2_with (first
          | (refine wpList_build_z rfl 23 #[] rfl Z ZB.out ?_; go_simp)
          | (refine wpList_store_blk rfl 23 (.tmp 2) (.tmp 51) rfl w.heap.size Z Z 23 HG31.out rfl rfl ZS.out rfl Z1.out ?_; intro w4 hg4 hw4 hz4; go_simp))
        exact bodyPost_ret (res_ct rfl _ w4 w.heap.size Z 23 (0, 0) (.bool false) rfl rfl hg4.out ZS.out) rfl ⟨HG3.out.2.grown hw4.out (HG3.out.2.size) (fun k e => by injection e with e; omega), .inr ⟨HPn.out, by rw [HZ.out]⟩⟩
      · by_cases hshort : ct = false ∧ vs.length + us.length < 8
        · have hp : put6 vs us ct = none := by unfold put6; rw [if_pos (.inr hshort)]
          have HPn := Lib.hid (hres.trans hp)
          obtain ⟨rfl, hsh⟩ := hshort
          have hneg : ¬ (8 : Int) - (vs.length : Int) - (us.length : Int) < 0 := by omega
          have hpos : 0 < (8 : Int) - (vs.length : Int) - (us.length : Int) := by omega
          clear hres hp
          go_wp2_with (first
            | (refine wpList_build_z rfl 23 #[] rfl Z ZB.out ?_; go_simp)
            | (refine wpList_store_blk rfl 23 (.tmp 2) (.tmp 51) rfl w.heap.size Z Z 23 HG31.out rfl rfl ZS.out rfl Z1.out ?_; intro w4 hg4 hw4 hz4; go_simp))
          exact bodyPost_ret (res_ct rfl _ w4 w.heap.size Z 23 (0, 0) (.bool false) rfl rfl hg4.out ZS.out) rfl ⟨HG3.out.2.grown hw4.out (HG3.out.2.size) (fun k e => by injection e with e; omega), .inr ⟨HPn.out, by rw [HZ.out]⟩⟩
        · obtain ⟨n, hn⟩ : ∃ n, n = 8 - vs.length - us.length := ⟨_, rfl⟩
          have hp : put6 vs us ct = some (ung (vs ++ List.replicate n 0 ++ us)) := by
            unfold put6
            rw [if_neg (by intro h; rcases h with h | h; exact hov h; exact hshort h), hn]
          have hn0 : (8 : Int) - (vs.length : Int) - (us.length : Int) = (n : Int) := by omega
          have hmk : ∀ W : World, (Instr.makeSlice 40 (.int .i64 ((8 : Int) - (vs.length : Int) - (us.length : Int))) (.int .i64 ((8 : Int) - (vs.length : Int) - (us.length : Int)))).run Tryd.prog W = .ok (.slice (some ⟨W.heap.size, 0, none⟩) n n) (W.alloc (.cells (madeCells #[.int .u64 0] n) 52)) := fun W => by
            rw [hn0]; exact mk_u64 n (by omega) W
          have hnn : ¬ (8 : Int) - (vs.length : Int) - (us.length : Int) < 0 := by omega
          have hguard : ct = true ∨ (ct = false ∧ ¬ 0 < (8 : Int) - (vs.length : Int) - (us.length : Int)) := by
            cases ct
            · right; refine ⟨rfl, fun h => hshort ⟨rfl, by omega⟩⟩
            · left; rfl
          have HPn := Lib.hid (hres.trans hp)
          have hl3 : upto [(A, vs), (some ⟨w3.heap.size, 0, none⟩, List.replicate n 0), (U, us)] 3 = vs ++ List.replicate n 0 ++ us := by simp [upto]
          have hlen8 : (vs ++ List.replicate n 0 ++ us).length = 8 := by rw [List.length_append, List.length_append, List.length_replicate]; omega
          have hlt6 : ∀ v ∈ vs ++ List.replicate n 0 ++ us, v < 65536 := fun v hv => by
            rcases List.mem_append.1 hv with hv | hv
            · rcases List.mem_append.1 hv with hv | hv
              · exact read16_lt HV.out v hv
              · rw [(List.mem_replicate.1 hv).2]; decide
            · exact read16_lt HV2.out v hv
          have hwz : Below w3.heap.size w3 (w3.alloc (.cells (madeCells #[.int .u64 0] n) 52)) := (Below.refl _ _).alloc (Nat.le_refl _) _
          have hcat : ∀ (W : World) (B : Nat), W.heap.size = B → Below w3.heap.size w3 W → Part W (some ⟨w3.heap.size, 0, none⟩) (List.replicate n 0) → ∀ c, Calls Tryd.prog 39 #[.slice (some ⟨B, 0, none⟩) 3 c] (W.alloc (.cells #[.slice A vs.length vs.length, .slice (some ⟨w3.heap.size, 0, none⟩) n n, .slice U us.length us.length] 40)) (CatPost (W.alloc (.cells #[.slice A vs.length vs.length, .slice (some ⟨w3.heap.size, 0, none⟩) n n, .slice U us.length us.length] 40)) (vs ++ List.replicate n 0 ++ us)) := fun W B hW hbW hz c => by
            subst hW
            have hbA : Below W.heap.size W (W.alloc (.cells #[.slice A vs.length vs.length, .slice (some ⟨w3.heap.size, 0, none⟩) n n, .slice U us.length us.length] 40)) := (Below.refl _ _).alloc (Nat.le_refl _) _
            have := concat_e W.heap.size c [(A, vs), (some ⟨w3.heap.size, 0, none⟩, List.replicate n 0), (U, us)] rfl (by rw [hl3]; exact hlen8) (W.alloc (.cells #[.slice A vs.length vs.length, .slice (some ⟨w3.heap.size, 0, none⟩) n n, .slice U us.length us.length] 40)) (Nat.lt_of_lt_of_eq (Nat.lt_succ_self _) (World.size_alloc ..).symm) (fun j hj => by
              rw [World.cell?_alloc_mark]
              match j, hj with
              | 0, _ => rfl
              | 1, _ =>
                show some (Value.slice _ n n) = some (Value.slice _ (List.replicate n 0).length (List.replicate n 0).length)
                rw [List.length_replicate]; rfl
              | 2, _ => rfl) (fun j hj => by
              match j, hj with
              | 0, _ => exact (HA3.out.below hbW).below hbA
              | 1, _ => exact hz.below hbA
              | 2, _ => exact (HU.out.below hbW).below hbA)
            rw [hl3] at this
            exact this
          have hjn := fun (g cap : Nat) (W : World) (h : U64s W g (vs ++ List.replicate n 0 ++ us)) => joined_e g cap _ hlen8 hlt6 W h
          have hS := sizeBv (l := ung (vs ++ List.replicate n 0 ++ us)) (by rw [ung_length, hlen8])
          have h1 := oneBv (ung (vs ++ List.replicate n 0 ++ us))
          have hul16 : (ung (vs ++ List.replicate n 0 ++ us)).length = 16 := by rw [ung_length, hlen8]
          have hZr : Z.size = (bvs (ung (vs ++ List.replicate n 0 ++ us))).toArray.size := by rw [ZN.out, List.size_toArray, bvs_length, hul16]
          have HCat := Lib.hid (hcat _ (w3.heap.size + 1) (World.size_alloc ..) hwz (part_zero w3 n))
          have HWZ := Lib.hid (HB3.out.trans (hwz.mono HB3.out.size))
          have HN := Lib.hid hn
          clear hcat hl3 hlt6 hp hres hn0 hn
          revert HCat
          generalize vs ++ List.replicate n 0 ++ us = all at hlen8 hjn hS h1 hul16 hZr HPn
          intro HCat
          have HJ := Lib.hid hjn
          have HS := Lib.hid hS
          have H1 := Lib.hid h1
          have HU16 := Lib.hid hul16
          have HZr := Lib.hid hZr
          have H8 := Lib.hid hlen8
          clear hjn hS h1 hul16 hZr hlen8 hwz
          rcases hguard with rfl | ⟨rfl, hng⟩
          all_goals
            go_wp2_with fail
            refine (HCat.out _).mono ?_
            rintro e w5 ⟨g5, cap5, rfl, hb5, hu5⟩
            have HB5 := Lib.hid (HWZ.out.trans (((Below.refl _ _).alloc (Nat.le_refl _) _ |>.trans (hb5.mono (Nat.le_of_lt (Nat.lt_of_lt_of_eq (Nat.lt_succ_self _) (World.size_alloc ..).symm)))).mono HWZ.out.size))
            have HU5 := Lib.hid hu5
            clear hb5 hu5
            rw [H8.out]
            go_wp2_with fail
            refine (HJ.out g5 _ _ HU5.out).mono ?_
            rintro e w6 ⟨rfl, hb6⟩
            have HB6 := Lib.hid (HB5.out.trans (hb6.mono HB5.out.size))
            have HG6 := Lib.hid (HG0.out w6 HB6.out)
            have HG61 := Lib.hid HG6.out.1
            clear hb6
            revert HS H1 HZr
            generalize hrr : (bvs (ung all)).toArray = r
            intro HS H1 HZr
            have HRR := Lib.hid hrr
            clear hrr
            go_wp2_with (first
              | (refine wpList_store_blk rfl 23 (.tmp 2) (.tmp 58) rfl w.heap.size Z r 23 HG61.out rfl rfl HS.out HZr.out H1.out ?_; intro w7 hg7 hw7 hz7; go_simp))
            exact bodyPost_ret (res_ct rfl _ w7 w.heap.size r 23 (0, 0) (.bool true) rfl rfl hg7.out HS.out) rfl ⟨HG6.out.2.grown hw7.out (HG6.out.2.size) (fun k e => by injection e with e; omega), .inl ⟨ung all, HPn.out, HU16.out, by rw [HRR.out]⟩⟩
    · have HV2 := Lib.hid (show read16 y = none from hv)
      clear hv
      have hres : r6 x y ct = none := by unfold r6; rw [HV.out, HV2.out]
      have HRn := Lib.hid hres
      have HG3 := Lib.hid (HG0.out w3 HB3.out)
      have HG31 := Lib.hid HG3.out.1
      clear hres
      go_wp2_with (first
        | (refine wpList_build_z rfl 23 #[] rfl Z ZB.out ?_; go_simp)
        | (refine wpList_store_blk rfl 23 (.tmp 2) (.tmp 34) rfl w.heap.size Z Z 23 HG31.out rfl rfl ZS.out rfl Z1.out ?_; intro w4 hg4 hw4 hz4; go_simp))
      exact bodyPost_ret (res_ct rfl _ w4 w.heap.size Z 23 (0, 0) (.bool false) rfl rfl hg4.out ZS.out) rfl ⟨HG3.out.2.grown hw4.out (HG3.out.2.size) (fun k e => by injection e with e; omega), .inr ⟨HRn.out, by rw [HZ.out]⟩⟩
  · have HV := Lib.hid (show read16 x = none from hv)
    clear hv
    have hres : r6 x y ct = none := by unfold r6; rw [HV.out]
    have HRn := Lib.hid hres
    clear hres
    go_wp2_with fail
    refine (HC2.out _ (HE.out.below HB2.out)).mono ?_
    rintro e w3 ⟨hb3, h⟩
    have HB3 := Lib.hid (HB2.out.trans (hb3.mono HB2.out.size))
    have HG3 := Lib.hid (HG0.out w3 HB3.out)
    have HG31 := Lib.hid HG3.out.1
    clear hb3
    rcases h with ⟨us, U, _, rfl, _⟩ | ⟨_, rfl⟩
    all_goals
      go_wp2_with (first
        | (refine wpList_build_z rfl 23 #[] rfl Z ZB.out ?_; go_simp)
        | (refine wpList_store_blk rfl 23 (.tmp 2) (.tmp 34) rfl w.heap.size Z Z 23 HG31.out rfl rfl ZS.out rfl Z1.out ?_; intro w4 hg4 hw4 hz4; go_simp))
      exact bodyPost_ret (res_ct rfl _ w4 w.heap.size Z 23 (0, 0) (.bool false) rfl rfl hg4.out ZS.out) rfl ⟨HG3.out.2.grown hw4.out (HG3.out.2.size) (fun k e => by injection e with e; omega), .inr ⟨HRn.out, by rw [HZ.out]⟩⟩
end Go.Proofs.YtclfmokdjmnjcaaDoor
