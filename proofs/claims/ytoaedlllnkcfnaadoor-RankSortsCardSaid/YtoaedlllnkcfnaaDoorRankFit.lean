/-
  The walk of the laws' first call: the example holds. Condition: the two tables hold what their initialisers lay.
-/
import Derived.Test.YtoaedlllnkcfnaaDoorRankSort
namespace Go.Proofs.YtoaedlllnkcfnaaDoor
open Go.RowKit

def fL : LV := ⟨[0, 0, 0, 0, 0, 0, 0, 0, 0, 0, 255, 255, 10, 0, 0, 1], false, false⟩
def fA : RV := ⟨⟨#[]⟩, 0, 0, [32, 1, 0, 0, 0, 0, 0, 0, 0, 0, 0, 0, 0, 0, 0, 0], ⟨#[]⟩, ⟨#[]⟩⟩
def fB : RV := ⟨⟨#[]⟩, 0, 0, [0, 0, 0, 0, 0, 0, 0, 0, 0, 0, 255, 255, 10, 0, 0, 9], ⟨#[]⟩, ⟨#[]⟩⟩
theorem fit_keys : cmpK (keyA [fL] fA.addr) (keyA [fL] fB.addr) < 0 := by decide +kernel
theorem fit_places {ps : List Nat} (h : SortP (keysOf [fL] [fA, fB]) ps) : ps = [1, 0] := by
  have hl : ps.length = 2 := h.len
  have hk := fit_keys
  have ho := h.ord 0 1
  have hlt : ∀ (i x : Nat), ps[i]? = some x → x < 2 := fun i x hx => h.lt hx
  have hnd : ps.Nodup := h.perm.symm.nodup (by decide)
  match ps, hl with
  | [a, b], _ =>
    have ha := hlt 0 a rfl
    have hb := hlt 1 b rfl
    have hab : a ≠ b := by
      intro e
      subst e
      simp at hnd
    have h1 := ho a b (by decide) rfl rfl
    rcases Nat.lt_or_ge a 1 with h2 | h2
    · obtain rfl : a = 0 := by omega
      obtain rfl : b = 1 := by omega
      have e1 : (keysOf [fL] [fA, fB]).getD 1 [] = keyA [fL] fB.addr := rfl
      have e0 : (keysOf [fL] [fA, fB]).getD 0 [] = keyA [fL] fA.addr := rfl
      rw [e1, e0] at h1
      have := cmpK_anti (keyA [fL] fA.addr) (keyA [fL] fB.addr) (by rw [keyA_len, keyA_len])
      omega
    · obtain rfl : a = 1 := by omega
      obtain rfl : b = 0 := by omega
      rfl
set_option maxRecDepth 100000 in
set_option maxHeartbeats 2000000 in
theorem fit10_e (w : World) (he : REnv w) : Calls Tryd.prog 9 #[] w fun e w' => e = .returned (.bool true) ∧ Below w.heap.size w w' := by
  have c1 := fun W => v4_e 10 0 0 1 W
  have c2 := fun W => v4_e 10 0 0 9 W
  change ∀ W : World, Calls _ _ #[.int .u8 10, .int .u8 0, .int .u8 0, .int .u8 1] W (fun e w' => e = .returned (.agg #[.int .u8 0, .int .u8 0, .int .u8 0, .int .u8 0, .int .u8 0, .int .u8 0, .int .u8 0, .int .u8 0, .int .u8 0, .int .u8 0, .int .u8 255, .int .u8 255, .int .u8 10, .int .u8 0, .int .u8 0, .int .u8 1]) ∧ _) at c1
  change ∀ W : World, Calls _ _ #[.int .u8 10, .int .u8 0, .int .u8 0, .int .u8 9] W (fun e w' => e = .returned (.agg #[.int .u8 0, .int .u8 0, .int .u8 0, .int .u8 0, .int .u8 0, .int .u8 0, .int .u8 0, .int .u8 0, .int .u8 0, .int .u8 0, .int .u8 255, .int .u8 255, .int .u8 10, .int .u8 0, .int .u8 0, .int .u8 9]) ∧ _) at c2
  have HC1 := Lib.hid c1
  have HC2 := Lib.hid c2
  have HE := Lib.hid he
  clear c1 c2 he
  go_enter Tryd.func9, Tryd.ntmps9
  go_wp2_with fail
  refine (HC1.out _).mono ?_
  rintro e w1 ⟨rfl, hb1⟩
  have HB1 := Lib.hid hb1
  have HE1 := Lib.hid (HE.out.below hb1)
  clear hb1
  go_wp2_with fail
  refine (HC2.out _).mono ?_
  rintro e w2 ⟨rfl, hb2⟩
  have hl1 : LocsAt w2 (some ⟨w1.heap.size, 0, none⟩) [fL] := fun _ => by
    refine ⟨w1.heap.size, 0, rfl, by have := hb2.size; rw [World.size_alloc] at this; omega, fun k c hk j v hj => ?_⟩
    have h1 := hb2.cell (p := ⟨w1.heap.size, 0 + k * 18 + j, none⟩) (by show w1.heap.size < _; rw [World.size_alloc]; omega)
    rw [h1, World.cell?_alloc_mark]
    have hk0 : k = 0 := by
      have := (List.getElem?_eq_some_iff.1 hk).1
      simp only [List.map_cons, List.map_nil, List.length_cons, List.length_nil] at this
      omega
    subst hk0
    obtain rfl := Option.some.inj hk
    simp only [Nat.zero_mul, Nat.zero_add]
    exact (List.getElem?_toArray ..).trans hj
  have hE2 := (HE1.out.below ((Below.refl _ w1).alloc (Nat.le_refl _) _)).below hb2
  have hb3 := HB1.out.trans ((((Below.refl _ w1).alloc (Nat.le_refl _) _).trans (hb2.mono (by rw [World.size_alloc]; omega))).mono HB1.out.size)
  obtain ⟨rcs, hrcs⟩ : ∃ rcs, rcs = ([fA, fB].map RV.cells).flatten := ⟨_, rfl⟩
  have hr2 : ∀ w3, w3 = w2.alloc (.cells rcs.toArray 29) → RecsAt w3 (some ⟨w2.heap.size, 0, none⟩) [fA, fB] := fun w3 h3 _ => by
    subst h3
    refine ⟨w2.heap.size, 0, rfl, by rw [World.size_alloc]; omega, fun k c hk j v hj => ?_⟩
    have hc21 : ∀ x ∈ ([fA, fB].map RV.cells), x.length = 21 := by decide
    rw [World.cell?_alloc_mark, List.getElem?_toArray, Nat.zero_add, hrcs, flat_at hc21 hk (by have := (List.getElem?_eq_some_iff.1 hj).1; have h2 := hc21 c (List.mem_of_getElem? hk); omega)]
    exact hj
  have hsort := fun w3 (h3 : w3 = w2.alloc (.cells rcs.toArray 29)) => sort_e [fL] (by decide) (some ⟨w1.heap.size, 0, none⟩) 1 [fA, fB] (by decide) (some ⟨w2.heap.size, 0, none⟩) 2 (by decide) (by decide) w3 (hE2.below (by rw [h3]; exact (Below.refl _ w2).alloc (Nat.le_refl _) _)) (hl1.below (by rw [h3]; exact (Below.refl _ w2).alloc (Nat.le_refl _) _)) (hr2 w3 h3)
  have h4 : isV4 fB.addr = true := by decide
  have c4 := fun W => is4_e fB.addr rfl W
  rw [h4] at c4
  have hsB := sizeBv (l := fB.addr) rfl
  have HS := Lib.hid hsort
  have HB3 := Lib.hid hb3
  have HC4 := Lib.hid c4
  have HSB := Lib.hid hsB
  have HRC := Lib.hid hrcs
  clear hb2 hsort hl1 hE2 hb3 hr2 h4 c4 hsB hrcs
  go_wp2_with fail
  refine (HS.out _ (by rw [HRC.out]; rfl)).mono ?_
  rintro e w4 ⟨ps, b, hps, rfl, hb, hrec, hb4⟩
  obtain rfl := fit_places hps
  have hbl : Below w2.heap.size w2 w4 := ((Below.refl _ w2).alloc (Nat.le_refl _) _).trans (hb4.mono (by rw [World.size_alloc]; omega))
  obtain ⟨b', o', hbo, hbl', hcs⟩ := hrec (by decide)
  injection hbo with hbo
  injection hbo with e1 e2
  subst e1
  subst e2
  have hld : ∀ j v, (bvs fB.addr).toArray.toList[j]? = some v → w4.cell? ((⟨b, 3, none⟩ : Addr).add j) = some v := fun j v hj => by
    rw [Addr.add_lit]
    have := hcs 0 fB.cells rfl (3 + j) v ((RV.has (r := fB) rfl).1 j v hj)
    simpa only [Nat.zero_mul, Nat.zero_add] using this
  have HLD := Lib.hid hld
  have HB4 := Lib.hid (HB3.out.trans (hbl.mono HB3.out.size))
  obtain ⟨cb, hcb⟩ : ∃ cb, cb = (bvs fB.addr).toArray := ⟨_, rfl⟩
  rw [← hcb] at HLD HC4 HSB
  clear hcb hps hb hrec hb4 hbl hbl' hcs hld HS HRC
  go_wp2_with (first
    | (refine wpList_load_agg_gh (by kernel_rfl) 27 (.tmp 19) rfl ⟨b, 3, none⟩ rfl cb _ HLD.out Tryd.underlying27 rfl HSB.out ?_; go_simp))
  refine (HC4.out _).mono ?_
  rintro e w5 ⟨rfl, hb5⟩
  have HB5 := Lib.hid (HB4.out.trans (hb5.mono HB4.out.size))
  clear hb5
  go_wp2
  go_ret
  exact ⟨rfl, HB5.out⟩
end Go.Proofs.YtoaedlllnkcfnaaDoor
