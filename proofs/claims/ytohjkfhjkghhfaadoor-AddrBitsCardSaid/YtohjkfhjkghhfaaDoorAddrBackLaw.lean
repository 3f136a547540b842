/-
  The walk of AddrBack: an address comes back from its text; of any text just what is told so. Conditions: the text is one that may come in; the library's variables hold what their initialisers lay.
-/
import Derived.Test.YtohjkfhjkghhfaaDoorAddrFit
namespace Go.Proofs.YtohjkfhjkghhfaaDoor
open Go.RowKit

/-- block g holds this address -/
def Row (w : World) (g : Nat) (cs : Array Value) : Prop := w.heap[g]? = some (.cells cs 23 (0, 0))
theorem Row.below {w w' : World} {g : Nat} {cs : Array Value} (h : Row w g cs) (hb : Below w.heap.size w w') : Row w' g cs := (hb.block g (heap_lt h)).trans h
theorem Row.alloc {w : World} {g : Nat} {cs : Array Value} (h : Row w g cs) (o : Obj) : Row (w.alloc o) g cs := h.below ((Below.refl _ w).alloc (Nat.le_refl _) o)
theorem Row.new (w : World) (cs : Array Value) : Row (w.alloc (.cells cs 23)) w.heap.size cs := heap_alloc_last w _
theorem run_eq_addr (W : World) {x y : List UInt8} (hx : x.length = 16) (hy : y.length = 16) : (Op.equalIn 10000 23 (.agg (bvs x).toArray) (.agg (bvs y).toArray)).run Tryd.prog W = .ok (x == y) W := eq_addr 9998 W hx hy
set_option maxRecDepth 100000 in
set_option maxHeartbeats 1000000 in
theorem addrBack_walk (a : List UInt8) (ha : a.length = 16) (s : ByteArray) (hs : s.size ≤ 140737488351232) (w : World) (he : AEnv w) :
    Calls Tryd.prog 3 #[.agg (bvs a).toArray, .string s] w fun e w' => e = .returned (.bool true) ∧ Below w.heap.size w w' := by
  obtain ⟨Z, hZ⟩ : ∃ Z, Z = (bvs zero16).toArray := ⟨_, rfl⟩
  have zA : (Tryd.prog.info? 23).map (·.zero) = some (some (.agg Z)) := by rw [hZ]; exact zeroAddr
  have zB : Tryd.prog.built 23 [] = some Z := by rw [hZ]; exact builtNone
  have zS : (Tryd.prog.info? 23).map (·.size) = some Z.size := by rw [hZ]; exact sizeBv rfl
  have z1 : Z.all (·.oneCell') = true := by rw [hZ]; exact oneBv _
  have zn : Z.size = 16 := by rw [hZ]; rfl
  have zq : ∀ W : World, (Op.equalIn 10000 23 (.agg Z) (.agg Z)).run Tryd.prog W = .ok true W := fun W => by
    rw [hZ, run_eq_addr W rfl rfl]; rfl
  have hq : ∀ W : World, (Op.equalIn 10000 23 (.agg (bvs a).toArray) (.agg (bvs a).toArray)).run Tryd.prog W = .ok true W := fun W => by
    rw [run_eq_addr W ha ha, beq_self_eq_true]
  have hS := sizeBv ha
  have h1 := oneBv a
  have hzr : Z.size = (bvs a).toArray.size := by rw [zn, List.size_toArray, bvs_length, ha]
  have hu := Tryd.underlying23
  have hprint := fun W (hW : AEnv W) => print_e a ha W hW
  have hparse : ∀ W, AEnv W → Calls Tryd.prog 12 #[.string (tb (txt a))] W fun e w' => e = .returned (.tuple #[.agg (bvs a).toArray, .int .i64 0]) ∧ Below W.heap.size W w' := fun W hW =>
    (parse_e (tb (txt a)) W hW (by rw [Lib.size_eq, tb_data]; have := txt_len ha; omega)).mono fun e w' ⟨h1, h2⟩ => by
      rw [tb_data, parseA_txt ha] at h2
      rcases h2 with ⟨c, hc, _, h3⟩ | ⟨hc, _⟩
      · obtain rfl := Option.some.inj hc
        exact ⟨h3, h1⟩
      · cases hc
  obtain ⟨r, hr⟩ : ∃ r, r = (bvs a).toArray := ⟨_, rfl⟩
  simp only [← hr] at hS h1 hzr hq hprint hparse ⊢
  generalize tb (txt a) = ta at hprint hparse
  have hb0 : Below w.heap.size w (w.alloc (.cells r 23)) := (Below.refl _ w).alloc (Nat.le_refl _) _
  have HE := Lib.hid (he.below hb0)
  have HB0 := Lib.hid hb0
  have HR0 := Lib.hid (Row.new w r)
  have ZA := Lib.hid zA
  have ZB := Lib.hid zB
  have ZS := Lib.hid zS
  have Z1 := Lib.hid z1
  have ZN := Lib.hid zn
  have HZ := Lib.hid hZ
  have HS := Lib.hid hS
  have H1 := Lib.hid h1
  have HZR := Lib.hid hzr
  have HPr := Lib.hid hprint
  have HPa := Lib.hid hparse
  clear zA zB zS z1 zn hZ hS h1 hzr hprint hparse hr hb0 he ha
  go_enter Tryd.func3, Tryd.ntmps3
  go_wp2_with fail
  refine (fit_e _ HE.out).mono ?_
  rintro e w1 ⟨rfl, hb1⟩
  have HB1 := Lib.hid (HB0.out.trans (hb1.mono HB0.out.size))
  have HE1 := Lib.hid (HE.out.below hb1)
  have HR1 := Lib.hid (HR0.out.below hb1)
  clear hb1
  by_cases hlen : 100 < s.size
  · go_wp2
    go_ret
    exact ⟨rfl, HB1.out⟩
  · go_wp2_with (first
      | (refine wpList_load_row rfl 23 (.tmp 2) rfl w.heap.size rfl 23 r (0, 0) _ HR1.out hu rfl HS.out ?_; go_simp))
    refine (HPr.out _ HE1.out).mono ?_
    rintro e w2 ⟨rfl, hb2⟩
    have HB2 := Lib.hid (HB1.out.trans (hb2.mono HB1.out.size))
    have HE2 := Lib.hid (HE1.out.below hb2)
    have HR2 := Lib.hid (HR1.out.below hb2)
    clear hb2
    go_wp2_with fail
    refine (HPa.out _ HE2.out).mono ?_
    rintro e w3 ⟨rfl, hb3⟩
    have hb4 : Below w2.heap.size w2 (w3.alloc (.cells r 23)) := hb3.alloc hb3.size _
    have HB4 := Lib.hid (HB2.out.trans (hb4.mono HB2.out.size))
    have HE4 := Lib.hid (HE2.out.below hb4)
    have HR4 := Lib.hid (HR2.out.below hb4)
    have HR5 := Lib.hid (Row.new w3 r)
    clear hb3 hb4
    go_wp2_with (first
      | (refine wpList_alloc_z rfl 23 rfl Z ZA.out ?_; go_simp)
      | (refine wpList_store_new rfl 23 (.tmp 5) (.tmp 18) rfl w3.heap.size rfl Z r 23 rfl rfl HS.out HZR.out H1.out ?_; go_simp))
    refine (parse_e s _ HE4.out (by omega)).mono ?_
    rintro e w5 ⟨hb5, h⟩
    have HB5 := Lib.hid (HB4.out.trans (hb5.mono HB4.out.size))
    have HE5 := Lib.hid (HE4.out.below hb5)
    have HRa := Lib.hid (HR4.out.below hb5)
    have HRb := Lib.hid (HR5.out.below hb5)
    clear hb5
    rcases h with ⟨c, hc, hcl, rfl⟩ | ⟨hc, rfl⟩
    · obtain ⟨hct, _⟩ := parseA_some hc
      have hts : tb (txt c) = s := bytes_inj (by rw [tb_data]; exact hct)
      have hprc := fun W (hW : AEnv W) => print_e c hcl W hW
      have hSc := sizeBv hcl
      have h1c := oneBv c
      have hzc : Z.size = (bvs c).toArray.size := by rw [ZN.out, List.size_toArray, bvs_length, hcl]
      simp only [hts] at hprc
      obtain ⟨q, hqq⟩ : ∃ q, q = (bvs c).toArray := ⟨_, rfl⟩
      simp only [← hqq] at hprc hSc h1c hzc ⊢
      have hb6 : Below w5.heap.size w5 (w5.alloc (.cells q 23)) := (Below.refl _ _).alloc (Nat.le_refl _) _
      have HB6 := Lib.hid (HB5.out.trans (hb6.mono HB5.out.size))
      have HE6 := Lib.hid (HE5.out.below hb6)
      have HRa6 := Lib.hid (HRa.out.below hb6)
      have HRb6 := Lib.hid (HRb.out.below hb6)
      have HRc6 := Lib.hid (Row.new w5 q)
      have HPc := Lib.hid hprc
      have HSc := Lib.hid hSc
      have H1c := Lib.hid h1c
      have HZc := Lib.hid hzc
      clear hprc hSc h1c hzc hqq hts hct hc hcl hb6
      go_wp2_with (first
        | (refine wpList_alloc_z rfl 23 rfl Z ZA.out ?_; go_simp)
        | (refine wpList_store_new rfl 23 (.tmp 7) (.tmp 23) rfl w5.heap.size rfl Z q 23 rfl rfl HSc.out HZc.out H1c.out ?_; go_simp)
        | (refine wpList_load_g 23 (.tmp 5) rfl rfl w3.heap.size r 23 (0, 0) rfl HRb6.out 16 5 hu HS.out ?_; go_simp)
        | (refine wpList_load_g 23 (.tmp 2) rfl rfl w.heap.size r 23 (0, 0) rfl HRa6.out 16 5 hu HS.out ?_; go_simp)
        | (refine wpList_load_g 23 (.tmp 7) rfl rfl w5.heap.size q 23 (0, 0) rfl HRc6.out 16 5 hu HSc.out ?_; go_simp))
      refine (HPc.out _ HE6.out).mono ?_
      rintro e w7 ⟨rfl, hb7⟩
      have HB7 := Lib.hid (HB6.out.trans (hb7.mono HB6.out.size))
      clear hb7
      go_wp2
      go_ret
      exact ⟨rfl, HB7.out⟩
    · rw [← HZ.out]
      have hb6 : Below w5.heap.size w5 (w5.alloc (.cells Z 23)) := (Below.refl _ _).alloc (Nat.le_refl _) _
      have HB6 := Lib.hid (HB5.out.trans (hb6.mono HB5.out.size))
      have HRa6 := Lib.hid (HRa.out.below hb6)
      have HRb6 := Lib.hid (HRb.out.below hb6)
      have HRc6 := Lib.hid (Row.new w5 Z)
      clear hc hb6
      go_wp2_with (first
        | (refine wpList_alloc_z rfl 23 rfl Z ZA.out ?_; go_simp)
        | (refine wpList_store_new rfl 23 (.tmp 7) (.tmp 23) rfl w5.heap.size rfl Z Z 23 rfl rfl ZS.out rfl Z1.out ?_; go_simp)
        | (refine wpList_load_g 23 (.tmp 5) rfl rfl w3.heap.size r 23 (0, 0) rfl HRb6.out 16 5 hu HS.out ?_; go_simp)
        | (refine wpList_load_g 23 (.tmp 2) rfl rfl w.heap.size r 23 (0, 0) rfl HRa6.out 16 5 hu HS.out ?_; go_simp)
        | (refine wpList_load_g 23 (.tmp 7) rfl rfl w5.heap.size Z 23 (0, 0) rfl HRc6.out 16 5 hu ZS.out ?_; go_simp)
        | (refine wpList_build_g 23 #[] rfl rfl Z ZB.out ?_; go_simp))
      go_ret
      exact ⟨rfl, HB6.out⟩
end Go.Proofs.YtohjkfhjkghhfaaDoor
