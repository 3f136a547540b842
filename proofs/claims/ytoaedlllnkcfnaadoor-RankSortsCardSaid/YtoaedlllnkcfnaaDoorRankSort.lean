/-
  The walk of rank.Sort: local addresses and records that lie in memory. Condition: the two tables hold what their initialisers lay.
-/
import Derived.Test.YtoaedlllnkcfnaaDoorRankPlaces40
namespace Go.Proofs.YtoaedlllnkcfnaaDoor
open Go.RowKit

theorem wp_store_sub' {P : Program} {o : Oper} {a : Act} {w : World} {K : Act → World → Prop} {Q : Exit → Act → World → Prop} (ty : TypeId) (x y : Operand) (ho : o.op = .store ty x y) (g off : Nat) (z cells z' : Array Value) (t : TypeId) (hg : w.heap[g]? = some (.cells z t (0, 0)))
    (hx : a.eval x = .pointer (some ⟨g, off, none⟩)) (v : Value) (hy : a.eval y = v) (hv : v.cells = cells) (hi : (P.info? ty).map (·.size) = some cells.size) (hz : off + cells.size ≤ z.size) (h1 : cells.all (·.oneCell') = true)
    (he : (z.toList.take off ++ cells.toList ++ z.toList.drop (off + cells.size)).toArray = z')
    (h : K (a.put o.dst undef) (w.setRow g z')) : o.wp P a w K Q := by
  have hst := run_storeCells_at P g off t cells.toList 0 z w hg (by simpa using hz) (fun v hv => (Array.all_eq_true_iff_forall_mem.1 h1) v (by simpa using hv))
  simp only [Nat.add_zero, Array.length_toList, he] at hst
  have hsv : (storeVar ty ⟨g, off, none⟩ v).run P w = .ok () (w.setRow g z') := by
    cases hq : P.info? ty with
    | none => simp [hq] at hi
    | some i =>
      have hs : cells.size = i.size := by simp [hq] at hi; omega
      simp [storeVar, sizeOf, typeInfo, hq, hv, hs, hst]
  unfold Oper.wp execOp
  simp only [ho, hx, hy, Instr.storeAt, Instr.sureAddr, Sem.run_bind, Sem.run_pure, Result.andThen_ok, hsv]
  exact h
/-- a world since w5: all blocks as they were, but the keys' and the places' -/
def SE (w5 : World) (g1 g2 : Nat) (W : World) : Prop := ∀ j, j < w5.heap.size → j ≠ g1 → j ≠ g2 → W.heap[j]? = w5.heap[j]?
theorem SE.lt {w5 W : World} {g1 g2 j : Nat} (h : SE w5 g1 g2 W) {o : Obj} (h5 : w5.heap[j]? = some o) (h1 : j ≠ g1) (h2 : j ≠ g2) : W.heap[j]? = some o := (h j (heap_lt h5) h1 h2).trans h5
theorem SE.below {w5 W W' : World} {g1 g2 : Nat} (h : SE w5 g1 g2 W) (hb : Below W.heap.size W W') : SE w5 g1 g2 W' := fun j hj h1 h2 => by
  have e := h j hj h1 h2
  have hlt : j < W.heap.size := by
    have : w5.heap[j]? = some (w5.heap[j]) := Array.getElem?_eq_getElem hj
    exact heap_lt (e.trans this)
  exact (hb.block j hlt).trans e
theorem SE.set1 {w5 W : World} {g1 g2 : Nat} {z : Array Value} (h : SE w5 g1 g2 W) : SE w5 g1 g2 (W.setRow g1 z) := fun j hj h1 h2 => (setRow_other W g1 j z h1).trans (h j hj h1 h2)
theorem SE.set2 {w5 W : World} {g1 g2 : Nat} {z : Array Value} (h : SE w5 g1 g2 W) : SE w5 g1 g2 (W.setRow g2 z) := fun j hj h1 h2 => (setRow_other W g2 j z h2).trans (h j hj h1 h2)
def keysOf (ls : List LV) (rs : List RV) : List (List Int) := rs.map fun r => keyA ls r.addr
def kcs (ls : List LV) (rs : List RV) : List (List Value) := rs.map fun r => (keyA ls r.addr).map (Value.int .i64)
def pcs (n : Nat) : List (List Value) := (List.range n).map fun i : Nat => [Value.int .i64 i]
def z8 : List Value := [.int .i64 0, .int .i64 0, .int .i64 0, .int .i64 0, .int .i64 0, .int .i64 0, .int .i64 0, .int .i64 0]
theorem pcs_flat (n : Nat) : (pcs n).flatten = (List.range n).map fun i : Nat => Value.int .i64 i := by
  unfold pcs
  induction (List.range n) with
  | nil => rfl
  | cons a l ih => simp only [List.map_cons, List.flatten_cons, ih]; rfl
theorem keysAt_of {ls : List LV} {rs : List RV} {w : World} {B KB : Nat} (hK : w.heap[KB]? = some (.cells ((kcs ls rs).flatten).toArray 38 (0, 0))) (hB : w.heap[B]? = some (.cells #[.slice (some ⟨KB, 0, none⟩) rs.length rs.length] 47 (0, 0))) : KeysAt w B KB (keysOf ls rs) where
  var := by
    rw [cell_of_row _ _ _ _ _ _ hB]
    unfold keysOf; rw [List.length_map]; rfl
  len := fun k hk => by
    unfold keysOf at hk
    obtain ⟨r, _, rfl⟩ := List.mem_map.1 hk
    exact keyA_len ls r.addr
  cells := fun i k hk j hj => by
    rw [cell_of_row _ _ _ _ _ _ hK, List.getElem?_toArray]
    have h8 : ∀ x ∈ kcs ls rs, x.length = 8 := fun x hx => by
      unfold kcs at hx
      obtain ⟨r, _, rfl⟩ := List.mem_map.1 hx
      rw [List.length_map]; exact keyA_len ls r.addr
    unfold keysOf at hk
    rw [List.getElem?_map] at hk
    cases hr : rs[i]? with
    | none => rw [hr] at hk; cases hk
    | some r =>
      rw [hr] at hk
      obtain rfl := Option.some.inj hk
      rw [flat_at (c := (keyA ls r.addr).map (Value.int .i64)) h8 (by unfold kcs; rw [List.getElem?_map, hr]; rfl) hj, List.getElem?_map]
      have := keyA_len ls r.addr
      rw [List.getElem?_eq_getElem (by rw [this]; exact hj), List.getD_eq_getElem?_getD, List.getElem?_eq_getElem (by show j < (keyA ls r.addr).length; rw [this]; exact hj)]
      rfl
set_option maxRecDepth 100000 in
set_option maxHeartbeats 4000000 in
theorem sort_e (ls : List LV) (hls : ∀ x ∈ ls, x.addr.length = 16) (A : Option Addr) (cap : Nat) (rs : List RV) (hrs : ∀ r ∈ rs, r.addr.length = 16) (R : Option Addr) (capr : Nat) (hl : ls.length < 1000000) (hn : rs.length ≤ 40) (w : World) (he : REnv w) (hA : LocsAt w A ls) (hR : RecsAt w R rs) :
    Calls Tryd.prog 10 #[.slice A ls.length cap, .slice R rs.length capr] w fun e w' => ∃ ps b, SortP (keysOf ls rs) ps ∧ e = .returned (.slice (some ⟨b, 0, none⟩) rs.length rs.length) ∧ w.heap.size ≤ b ∧ RecsAt w' (some ⟨b, 0, none⟩) (ps.map fun i => rs.getD i rvZero) ∧ Below w.heap.size w w' := by
  obtain ⟨n, hnn⟩ : ∃ n, n = rs.length := ⟨_, rfl⟩
  have hkl : (kcs ls rs).length = n := by unfold kcs; rw [List.length_map, hnn]
  have hpl : (pcs n).length = n := by unfold pcs; rw [List.length_map, List.length_range]
  have hk8 : ∀ x ∈ kcs ls rs, x.length = 8 := fun x hx => by
    unfold kcs at hx
    obtain ⟨r, _, rfl⟩ := List.mem_map.1 hx
    rw [List.length_map]; exact keyA_len ls r.addr
  have hp1 : ∀ x ∈ pcs n, x.length = 1 := fun x hx => by
    unfold pcs at hx
    obtain ⟨r, _, rfl⟩ := List.mem_map.1 hx
    rfl
  have mk1 := mk_keys n (by omega)
  have mk2 := mk_ints n (by omega)
  have mk3 := mk_recs n (by omega)
  rw [← flatK_zero (kcs ls rs)] at mk1
  rw [← flatK_zero (pcs n)] at mk2
  change ∀ W : World, _ = Result.ok _ (W.alloc (.cells (flatK (kcs ls rs) z8 n 0).toArray _)) at mk1
  have hmem : ∀ (k : Nat) (r : RV), rs[k]? = some r → r.addr.length = 16 := fun k r h => hrs r (List.mem_of_getElem? h)
  have hks : ∀ (k : Nat) (r : RV), rs[k]? = some r → (kcs ls rs)[k]? = some ((keyA ls r.addr).map (Value.int .i64)) := fun k r h => by unfold kcs; rw [List.getElem?_map, h]; rfl
  have hps : ∀ k, k < n → (pcs n)[k]? = some [Value.int .i64 k] := fun k h => by unfold pcs; rw [List.getElem?_map, List.getElem?_range h]; rfl
  have hkey := fun (r : RV) (hr : r.addr.length = 16) W (hW : REnv W) (hAW : LocsAt W A ls) => key_e ls hls A cap r.addr hr hl W hW hAW
  have hstep8 := fun k c (h : (kcs ls rs)[k]? = some c) => flatK_step (z := z8) hk8 rfl hkl h
  have hlen8 := fun k (h : k ≤ n) => flatK_len (z := z8) (k := k) hk8 rfl hkl h
  have hstep1 := fun k c (h : (pcs n)[k]? = some c) => flatK_step (z := [Value.int .i64 0]) hp1 rfl hpl h
  have hlen1 := fun k (h : k ≤ n) => flatK_len (z := [Value.int .i64 0]) (k := k) hp1 rfl hpl h
  have hdone8 : flatK (kcs ls rs) z8 n n = (kcs ls rs).flatten := flatK_done hkl
  have hdone1 : flatK (pcs n) [Value.int .i64 0] n n = (pcs n).flatten := flatK_done hpl
  obtain ⟨KF, hKF⟩ : ∃ KF : Nat → List Value, ∀ k, KF k = flatK (kcs ls rs) z8 n k := ⟨_, fun _ => rfl⟩
  obtain ⟨PF, hPF⟩ : ∃ PF : Nat → List Value, ∀ k, PF k = flatK (pcs n) [Value.int .i64 0] n k := ⟨_, fun _ => rfl⟩
  simp only [← hKF] at mk1 hstep8 hlen8 hdone8
  simp only [← hPF] at mk2 hstep1 hlen1 hdone1
  obtain ⟨w3, hw3⟩ : ∃ w3, w3 = ((w.alloc (.cells (KF 0).toArray 38)).alloc (.cells #[.slice (some ⟨w.heap.size, 0, none⟩) n n] 47)).alloc (.cells (PF 0).toArray 3) := ⟨_, rfl⟩
  have z3 : w3.heap.size = w.heap.size + 3 := by rw [hw3, World.size_alloc, World.size_alloc, World.size_alloc]
  have b1 : w3.heap[w.heap.size]? = some (.cells (KF 0).toArray 38 (0, 0)) := by
    rw [hw3, heap_alloc_old' _ _ (by rw [World.size_alloc, World.size_alloc]; omega)]; exact heap_alloc2_old _ _ _
  have b2 : w3.heap[w.heap.size + 1]? = some (.cells #[.slice (some ⟨w.heap.size, 0, none⟩) n n] 47 (0, 0)) := by
    rw [hw3, heap_alloc_old' _ _ (by rw [World.size_alloc, World.size_alloc]; omega)]; exact heap_alloc2_new _ _ _
  have b3 : w3.heap[w.heap.size + 2]? = some (.cells (PF 0).toArray 3 (0, 0)) := by
    rw [hw3, show w.heap.size + 2 = ((w.alloc (.cells (KF 0).toArray 38)).alloc (.cells #[.slice (some ⟨w.heap.size, 0, none⟩) n n] 47)).heap.size by rw [World.size_alloc, World.size_alloc]]; exact heap_alloc_last _ _
  have hb3 : Below w.heap.size w w3 := by
    rw [hw3]
    exact (((Below.refl _ w).alloc (Nat.le_refl _) _).alloc (by rw [World.size_alloc]; omega) _).alloc (by rw [World.size_alloc, World.size_alloc]; omega) _
  have hZ := rZeroAt
  have hZ1 : rvZero.cells.toArray.size = 21 := by rw [List.size_toArray]; exact RV.size rfl
  rw [← hnn]
  have B1 := Lib.hid b1
  have B2 := Lib.hid b2
  have B3 := Lib.hid b3
  have HB3 := Lib.hid hb3
  have Z3 := Lib.hid z3
  have HE := Lib.hid he
  have HA := Lib.hid hA
  have HR := Lib.hid hR
  have HN := Lib.hid hnn
  have HMem := Lib.hid hmem
  have HKs' := Lib.hid hks
  have HPs' := Lib.hid hps
  have HKey' := Lib.hid hkey
  have HS8 := Lib.hid hstep8
  have HL8 := Lib.hid hlen8
  have HS1 := Lib.hid hstep1
  have HL1 := Lib.hid hlen1
  have HD8 := Lib.hid hdone8
  have HD1 := Lib.hid hdone1
  have MK3 := Lib.hid mk3
  have HZ := Lib.hid hZ
  have HZ1 := Lib.hid hZ1
  have HNle := Lib.hid hn
  have HW3 := Lib.hid hw3
  clear b1 b2 b3 hb3 z3 he hA hR hmem hks hps hkey hstep8 hlen8 hstep1 hlen1 hdone8 hdone1 mk3 hZ hZ1 hls hrs hk8 hp1 hkl hpl hKF hPF hw3
  have hnI : (n : Int) < 1000 := by rw [hnn]; have := HNle.out; omega
  clear hn hnn
  have hu := Tryd.underlying27
  go_enter Tryd.func10, Tryd.ntmps10
  go_wp2_with fail
  rw [← HW3.out]
  clear HW3 mk1 mk2
  go_loopg [20] n (fun gk i wr => ∃ k : Nat, i = .int .i64 k ∧ k + gk = n ∧ Hid (Below w.heap.size w wr) ∧ Hid (w.heap.size + 3 ≤ wr.heap.size) ∧ Hid (wr.heap[w.heap.size]? = some (.cells (KF k).toArray 38 (0, 0))) ∧ Hid (wr.heap[w.heap.size + 1]? = some (.cells #[.slice (some ⟨w.heap.size, 0, none⟩) n n] 47 (0, 0))) ∧ Hid (wr.heap[w.heap.size + 2]? = some (.cells (PF k).toArray 3 (0, 0))))
  case atStart => exact ⟨0, rfl, by simp, HB3, Lib.hid (by rw [Z3.out]; exact Nat.le_refl _), B1, B2, B3⟩
  case round =>
    obtain ⟨k, rfl, hk, HB, HGz, H1, H2, H3⟩ := hrel
    by_cases hlt : k < n
    · obtain ⟨g, rfl⟩ : ∃ g, gk = g + 1 := ⟨gk - 1, by omega⟩
      have hkI : (k : Int) < (n : Int) := by omega
      obtain ⟨r, hr⟩ : ∃ r, rs[k]? = some r := ⟨_, List.getElem?_eq_getElem (by rw [← HN.out]; exact hlt)⟩
      have hrl := HMem.out k r hr
      have hsx := sizeBv hrl
      rw [List.size_toArray] at hsx
      have hrs1 := rSize hrl
      have hro := RV.one r
      have hrh := (RV.has hrl).1
      have hrz : rvZero.cells.toArray.size = r.cells.toArray.size := by rw [HZ1.out, List.size_toArray, RV.size hrl]
      obtain ⟨b, o, rfl, hbl, hcells⟩ := HR.out (by rw [List.length_map, ← HN.out]; omega)
      have hyc : ∀ j v, r.cells.toArray.toList[j]? = some v → wr.cell? ((⟨b, o + k * 21, none⟩ : Addr).add j) = some v := fun j v hj => by
        rw [Addr.add_lit, HB.out.cell (p := ⟨b, o + k * 21 + j, none⟩) hbl]
        exact hcells k r.cells (by rw [List.getElem?_map, hr]; rfl) j v hj
      have hkc := HKs'.out k r hr
      have hkey := fun W hW hAW => HKey'.out r hrl W hW hAW
      have hkel := keyA_len ls r.addr
      change ∀ W, _ → _ → Calls _ _ _ _ (fun e w' => e = .returned (.agg ((keyA ls r.addr).map (Value.int .i64)).toArray) ∧ _) at hkey
      obtain ⟨G, hG⟩ : ∃ G, G = wr.heap.size := ⟨_, rfl⟩
      obtain ⟨w5, hw5⟩ : ∃ w5, w5 = wr.alloc (.cells r.cells.toArray 29) := ⟨_, rfl⟩
      have hzw := HGz.out
      have z5 : w5.heap.size = G + 1 := by rw [hw5, World.size_alloc, hG]
      have c1 : w5.heap[w.heap.size]? = some (.cells (KF k).toArray 38 (0, 0)) := by rw [hw5, heap_alloc_old' _ _ (by omega)]; exact H1.out
      have c2 : w5.heap[w.heap.size + 1]? = some (.cells #[.slice (some ⟨w.heap.size, 0, none⟩) n n] 47 (0, 0)) := by rw [hw5, heap_alloc_old' _ _ (by omega)]; exact H2.out
      have c3 : w5.heap[w.heap.size + 2]? = some (.cells (PF k).toArray 3 (0, 0)) := by rw [hw5, heap_alloc_old' _ _ (by omega)]; exact H3.out
      have c4 : w5.heap[G]? = some (.cells r.cells.toArray 29 (0, 0)) := by rw [hw5, hG]; exact heap_alloc_last _ _
      have hb5 : Below w.heap.size w w5 := by rw [hw5]; exact HB.out.alloc HB.out.size _
      have hGz : w.heap.size + 3 ≤ G := by omega
      have hstep8 := HS8.out k _ hkc
      have hstep1 := HS1.out k _ (HPs'.out k hlt)
      have hl8 := HL8.out k (by omega)
      have hl1 := HL1.out k (by omega)
      obtain ⟨K8, hK8⟩ : ∃ K8, K8 = (keyA ls r.addr).map (Value.int .i64) := ⟨_, rfl⟩
      have hK8l : K8.length = 8 := by rw [hK8, List.length_map]; exact hkel
      have hK8o : K8.toArray.all (·.oneCell') = true := by rw [hK8]; exact kOne _
      rw [← hK8] at hkey hstep8
      obtain ⟨KZ2, hKZ2⟩ : ∃ KZ2, KZ2 = (KF (k + 1)).toArray := ⟨_, rfl⟩
      obtain ⟨PZ2, hPZ2⟩ : ∃ PZ2, PZ2 = (PF (k + 1)).toArray := ⟨_, rfl⟩
      have HKe : Hid ((((KF k).toArray).toList.take (k * 8) ++ K8.toArray.toList ++ ((KF k).toArray).toList.drop (k * 8 + K8.toArray.size)).toArray = KZ2) := Lib.hid (by rw [hKZ2, ← hstep8]; simp)
      have HPe : Hid ((((PF k).toArray).toList.take k ++ (#[Value.int .i64 k] : Array Value).toList ++ ((PF k).toArray).toList.drop (k + (#[Value.int .i64 k] : Array Value).size)).toArray = PZ2) := Lib.hid (by rw [hPZ2, ← hstep1]; simp)
      have HKs : Hid ((Tryd.prog.info? 38).map (·.size) = some K8.toArray.size) := Lib.hid (by rw [List.size_toArray, hK8l]; kernel_rfl)
      have HPs : Hid ((Tryd.prog.info? 3).map (·.size) = some (#[Value.int .i64 k] : Array Value).size) := Lib.hid (by show _ = some 1; kernel_rfl)
      have HKz : Hid (k * 8 + K8.toArray.size ≤ (KF k).toArray.size) := Lib.hid (by rw [List.size_toArray, List.size_toArray, hK8l, hl8]; omega)
      have HPz : Hid (k + (#[Value.int .i64 k] : Array Value).size ≤ (PF k).toArray.size) := Lib.hid (by show k + 1 ≤ (PF k).toArray.size; rw [List.size_toArray, hl1]; omega)
      obtain ⟨x, hx⟩ : ∃ x, x = bvs r.addr := ⟨_, rfl⟩
      rw [← hx] at hsx hrh hkey
      have RVr := Lib.hid (fun (W : World) (hb : SE w5 w.heap.size (w.heap.size + 1 + 1) W) => (by rw [cell_of_row _ _ _ _ _ _ (hb.lt c2 (by omega) (by omega))]; rfl : W.cell? ⟨w.heap.size + 1, 0, none⟩ = some (.slice (some ⟨w.heap.size, 0, none⟩) n n)))
      have RA := Lib.hid (fun (W : World) (hb : SE w5 w.heap.size (w.heap.size + 1 + 1) W) => (fun j v hj => by rw [cell_of_row _ _ _ _ _ _ (hb.lt c4 (by omega) (by omega)), List.getElem?_toArray]; exact hrh j v hj : W.rangeAt G 3 x))
      have HKey := Lib.hid (hkey w5.drew ((HE.out.below hb5).below ((Below.refl _ w5).drew)) ((HA.out.below hb5).below ((Below.refl _ w5).drew)))
      have h0 : SE w5 w.heap.size (w.heap.size + 1 + 1) w5.drew := fun j hj _ _ => rfl
      obtain ⟨rc, hrc⟩ : ∃ rc, rc = r.cells.toArray := ⟨_, rfl⟩
      rw [← hrc] at hyc hw5 c4 hrs1 hro hrz
      obtain ⟨Z, hZd⟩ : ∃ Z, Z = rvZero.cells.toArray := ⟨_, rfl⟩
      have hZA := HZ.out
      rw [← hZd] at hZA hrz
      have HZA := Lib.hid hZA
      have HSx := Lib.hid hsx
      have HYC := Lib.hid hyc
      have HRS := Lib.hid hrs1
      have HRO := Lib.hid hro
      have HRZ := Lib.hid hrz
      have HKo := Lib.hid hK8o
      have C1 := Lib.hid c1
      have C2 := Lib.hid c2
      have C3 := Lib.hid c3
      have HB5 := Lib.hid hb5
      have Z5 := Lib.hid z5
      have HGz := Lib.hid hGz
      have HW5 := Lib.hid hw5
      have HG := Lib.hid hG
      have HKZ2 := Lib.hid hKZ2
      have HPZ2 := Lib.hid hPZ2
      have hk9 : k + (g + 1) = n := hk
      clear hsx hyc hrs1 hro hrz hK8o c1 c2 c3 c4 hb5 z5 hGz hw5 hG hKZ2 hPZ2 hx hr hrl hrh hcells hkc hkey hkel hstep8 hstep1 hl8 hl1 hK8 hK8l hrc hZd hZA hzw HB H1 H2 H3
      clear HS8 HS1 HL8 HL1 HKey' HMem HKs' HPs'
      go_wp2_with (first
        | (refine wpList_load_agg rfl 29 (.tmp 23) rfl ⟨b, o + k * 21, none⟩ rfl rc _ HYC.out Tryd.underlying29 rfl HRS.out ?_; go_simp)
        | (refine wpList_alloc_z rfl 29 rfl Z HZA.out ?_; go_simp)
        | (refine wpList_store_new rfl 29 (.tmp 8) (.tmp 24) rfl wr.heap.size rfl Z rc 29 rfl rfl HRS.out HRZ.out HRO.out ?_; go_simp))
      rw [← HW5.out, ← HG.out]
      clear HW5 HG
      refine wp_region_held_drew (S := (fun W : World => SE w5 w.heap.size (w.heap.size + 1 + 1) W)) (by kernel_rfl) h0 (fun hHeld => ?_)
      refine wpAnyH_take (i := 0) (oi := ({ dst := some 25, op := Go.Op.load 47 (Go.Operand.tmp 5), type := 47, pos := "rank.go:160", after := #[], guard := none } : Oper)) (v := .slice (some ⟨w.heap.size, 0, none⟩) n n) rfl (by kernel_rfl) (by kernel_rfl) (by kernel_rfl) (fun _ _ _ h => h) (Or.inl ⟨by rfl, fun w' hS' => ?_⟩) hHeld ?_
      · have hcell := RVr.out _ hS'
        go_simp
      simp only [Act.put, List.setIfInBounds_toArray, List.set_cons_zero, List.set_cons_succ]
      refine wpAnyH_take (i := 1) (oi := ({ dst := some 26, op := Go.Op.move (Go.Operand.tmp 7), type := 3, pos := "rank.go:160", after := #[], guard := none } : Oper)) (v := .int .i64 k) rfl (by kernel_rfl) (by kernel_rfl) (by kernel_rfl) (fun _ _ _ h => h) (Or.inl ⟨by rfl, fun w' _ => ?_⟩) hHeld ?_
      · go_simp
      simp only [Act.put, List.setIfInBounds_toArray, List.set_cons_zero, List.set_cons_succ]
      refine wpAnyH_take (i := 2) (oi := ({ dst := some 27, op := Go.Op.move (Go.Operand.tmp 6), type := 48, pos := "rank.go:160", after := #[{ on := 10, ground := Go.Ground.gcOnly Go.Departure.lateStores }], guard := none } : Oper)) (v := .slice (some ⟨w.heap.size + 1 + 1, 0, none⟩) n n) rfl (by kernel_rfl) (by kernel_rfl) (by kernel_rfl) (fun _ _ _ h => h) (Or.inl ⟨by rfl, fun w' _ => ?_⟩) hHeld ?_
      · go_simp
      simp only [Act.put, List.setIfInBounds_toArray, List.set_cons_zero, List.set_cons_succ]
      refine wpAnyH_take (i := 3) (oi := ({ dst := some 28, op := Go.Op.move (Go.Operand.tmp 7), type := 3, pos := "rank.go:160", after := #[{ on := 10, ground := Go.Ground.gcOnly Go.Departure.lateStores }], guard := none } : Oper)) (v := .int .i64 k) rfl (by kernel_rfl) (by kernel_rfl) (by kernel_rfl) (fun _ _ _ h => h) (Or.inl ⟨by rfl, fun w' _ => ?_⟩) hHeld ?_
      · go_simp
      simp only [Act.put, List.setIfInBounds_toArray, List.set_cons_zero, List.set_cons_succ]
      refine wpAnyH_take (i := 4) (oi := ({ dst := some 29, op := Go.Op.move (Go.Operand.tmp 0), type := 22, pos := "rank.go:160", after := #[], guard := none } : Oper)) (v := .slice A ls.length cap) rfl (by kernel_rfl) (by kernel_rfl) (by kernel_rfl) (fun _ _ _ h => h) (Or.inl ⟨by rfl, fun w' _ => ?_⟩) hHeld ?_
      · go_simp
      simp only [Act.put, List.setIfInBounds_toArray, List.set_cons_zero, List.set_cons_succ]
      refine wpAnyH_take (i := 5) (oi := ({ dst := some 30, op := Go.Op.fieldAddr 29 (Go.Operand.tmp 8) 3, type := 0, pos := "rank.go:160", after := #[], guard := none } : Oper)) (v := .pointer (some ⟨G, 3, none⟩)) rfl (by kernel_rfl) (by kernel_rfl) (by kernel_rfl) (fun _ _ _ h => h) (Or.inl ⟨by rfl, fun w' _ => ?_⟩) hHeld ?_
      · go_simp
      simp only [Act.put, List.setIfInBounds_toArray, List.set_cons_zero, List.set_cons_succ]
      refine wpAnyH_take (i := 6) (oi := ({ dst := some 31, op := Go.Op.load 27 (Go.Operand.tmp 30), type := 27, pos := "rank.go:160", after := #[{ on := 5, ground := Go.Ground.data }], guard := none } : Oper)) (v := .agg (x).toArray) rfl (by kernel_rfl) (by kernel_rfl) (by kernel_rfl) (fun _ _ _ h => h) (yieldsIf_load_mid (by rfl) _ _ rfl _ _ rfl _ _ (fun W h => RA.out W h) hu rfl HSx.out) hHeld ?_
      simp only [Act.put, List.setIfInBounds_toArray, List.set_cons_zero, List.set_cons_succ]
      refine wpAnyH_take (i := 8) (oi := ({ dst := some 33, op := Go.Op.move (Go.Operand.tmp 7), type := 3, pos := "rank.go:160", after := #[{ on := 10, ground := Go.Ground.gcOnly Go.Departure.lateStores }], guard := none } : Oper)) (v := .int .i64 k) rfl (by kernel_rfl) (by kernel_rfl) (by kernel_rfl) (fun _ _ _ h => h) (Or.inl ⟨by rfl, fun w' _ => ?_⟩) hHeld ?_
      · go_simp
      simp only [Act.put, List.setIfInBounds_toArray, List.set_cons_zero, List.set_cons_succ]
      refine wpAnyH_ready (rs := [7]) (by kernel_rfl) (by simp) ?_
      refine AllReadyH.cons (o := ({ dst := some 32, op := Go.Op.call { callee := Go.Callee.value (Go.Operand.func 16), args := #[Go.Operand.tmp 29, Go.Operand.tmp 31], argTypes := #[22, 27] }, type := 38, pos := "rank.go:160", after := #[{ on := 4, ground := Go.Ground.data }, { on := 6, ground := Go.Ground.data }], guard := none } : Oper)) rfl (fun K hK => ?_) AllReadyH.nil
      go_simp
      go_at_call 16
      refine HKey.out.mono ?_
      rintro e' wc ⟨rfl, hbc⟩
      refine hK.out _ _ (SE.below hHeld hbc) (fun hHeld2 => ?_)
      clear hK K
      try simp only [Act.put, List.setIfInBounds_toArray, List.set_cons_zero, List.set_cons_succ]
      refine wpAnyH_take (i := 9) (oi := ({ dst := some 34, op := Go.Op.indexAddr 47 (Go.Operand.tmp 25) (Go.Operand.tmp 26), type := 0, pos := "rank.go:160", after := #[{ on := 0, ground := Go.Ground.data }, { on := 1, ground := Go.Ground.data }, { on := 0, ground := Go.Ground.phase }, { on := 1, ground := Go.Ground.phase }, { on := 2, ground := Go.Ground.textOnly Go.Departure.lateStores }, { on := 3, ground := Go.Ground.textOnly Go.Departure.lateStores }, { on := 4, ground := Go.Ground.phase }, { on := 5, ground := Go.Ground.phase }, { on := 6, ground := Go.Ground.phase }, { on := 7, ground := Go.Ground.phase }, { on := 8, ground := Go.Ground.textOnly Go.Departure.lateStores }], guard := none } : Oper)) (v := .pointer (some ⟨w.heap.size, k * 8, none⟩)) rfl (by kernel_rfl) (by kernel_rfl) (by kernel_rfl) (fun _ _ _ h => h) (Or.inl ⟨by rfl, fun w' _ => ?_⟩) hHeld2 ?_
      · go_simp
      simp only [Act.put, List.setIfInBounds_toArray, List.set_cons_zero, List.set_cons_succ]
      refine wpAnyH_ready (rs := [10]) (by kernel_rfl) (by simp) ?_
      refine AllReadyH.cons (o := ({ dst := none, op := Go.Op.store 38 (Go.Operand.tmp 34) (Go.Operand.tmp 32), type := 0, pos := "rank.go:160", after := #[{ on := 9, ground := Go.Ground.data }, { on := 7, ground := Go.Ground.data }, { on := 7, ground := Go.Ground.chain }, { on := 0, ground := Go.Ground.phase }, { on := 1, ground := Go.Ground.phase }, { on := 2, ground := Go.Ground.textOnly Go.Departure.lateStores }, { on := 3, ground := Go.Ground.textOnly Go.Departure.lateStores }, { on := 4, ground := Go.Ground.phase }, { on := 5, ground := Go.Ground.phase }, { on := 6, ground := Go.Ground.phase }, { on := 7, ground := Go.Ground.phase }, { on := 8, ground := Go.Ground.textOnly Go.Departure.lateStores }], guard := none } : Oper)) rfl (fun K hK => ?_) AllReadyH.nil
      have bk := (hbc.block w.heap.size (by show w.heap.size < w5.heap.size; have := Z5.out; have := HGz.out; omega)).trans C1.out
      refine wp_store_sub' 38 (.tmp 34) (.tmp 32) rfl w.heap.size (k * 8) _ K8.toArray KZ2 38 bk rfl (.agg K8.toArray) rfl rfl HKs.out HKz.out HKo.out HKe.out ?_
      refine hK.out _ _ (SE.set1 hHeld2) (fun hHeld3 => ?_)
      clear hK K
      try simp only [Act.put]
      refine wpAnyH_take (i := 11) (oi := ({ dst := some 35, op := Go.Op.indexAddr 48 (Go.Operand.tmp 27) (Go.Operand.tmp 28), type := 0, pos := "rank.go:160", after := #[{ on := 2, ground := Go.Ground.data }, { on := 3, ground := Go.Ground.data }, { on := 0, ground := Go.Ground.phase }, { on := 1, ground := Go.Ground.phase }, { on := 2, ground := Go.Ground.phase }, { on := 3, ground := Go.Ground.phase }, { on := 4, ground := Go.Ground.phase }, { on := 5, ground := Go.Ground.phase }, { on := 6, ground := Go.Ground.phase }, { on := 7, ground := Go.Ground.phase }, { on := 8, ground := Go.Ground.phase }, { on := 9, ground := Go.Ground.phase }, { on := 10, ground := Go.Ground.phase }], guard := none } : Oper)) (v := .pointer (some ⟨w.heap.size + 1 + 1, k, none⟩)) rfl (by kernel_rfl) (by kernel_rfl) (by kernel_rfl) (fun _ _ _ h => h) (Or.inl ⟨by rfl, fun w' _ => ?_⟩) hHeld3 ?_
      · go_simp
      simp only [Act.put, List.setIfInBounds_toArray, List.set_cons_zero, List.set_cons_succ]
      refine wpAnyH_ready (rs := [12]) (by kernel_rfl) (by simp) ?_
      refine AllReadyH.cons (o := ({ dst := none, op := Go.Op.store 3 (Go.Operand.tmp 35) (Go.Operand.tmp 33), type := 0, pos := "rank.go:160", after := #[{ on := 11, ground := Go.Ground.data }, { on := 8, ground := Go.Ground.data }, { on := 10, ground := Go.Ground.chain }, { on := 0, ground := Go.Ground.phase }, { on := 1, ground := Go.Ground.phase }, { on := 2, ground := Go.Ground.phase }, { on := 3, ground := Go.Ground.phase }, { on := 4, ground := Go.Ground.phase }, { on := 5, ground := Go.Ground.phase }, { on := 6, ground := Go.Ground.phase }, { on := 7, ground := Go.Ground.phase }, { on := 8, ground := Go.Ground.phase }, { on := 9, ground := Go.Ground.phase }, { on := 10, ground := Go.Ground.phase }], guard := none } : Oper)) rfl (fun K hK => ?_) AllReadyH.nil
      have bp := (setRow_other wc w.heap.size (w.heap.size + 1 + 1) KZ2 (by omega)).trans ((hbc.block (w.heap.size + 1 + 1) (by show w.heap.size + 1 + 1 < w5.heap.size; have := Z5.out; have := HGz.out; omega)).trans C3.out)
      refine wp_store_sub' 3 (.tmp 35) (.tmp 33) rfl (w.heap.size + 1 + 1) k _ #[.int .i64 k] PZ2 3 bp rfl (.int .i64 k) rfl rfl HPs.out HPz.out (by simp [Value.oneCell']) HPe.out ?_
      refine hK.out _ _ (SE.set2 hHeld3) (fun hHeldZ => ?_)
      clear hK K
      try simp only [Act.put]
      refine wpAnyH_done (by kernel_rfl) ?_ _
      clear hHeldZ
      have hz5 := Z5.out
      have hgz := HGz.out
      have f1 : ((wc.setRow w.heap.size KZ2).setRow (w.heap.size + 1 + 1) PZ2).heap[w.heap.size]? = some (.cells KZ2 38 (0, 0)) := by
        rw [setRow_other _ _ _ _ (by omega)]; exact setRow_heap _ _ _ KZ2 _ _ bk
      have f2 : ((wc.setRow w.heap.size KZ2).setRow (w.heap.size + 1 + 1) PZ2).heap[w.heap.size + 1]? = some (.cells #[.slice (some ⟨w.heap.size, 0, none⟩) n n] 47 (0, 0)) := by
        rw [setRow_other _ _ _ _ (by omega), setRow_other _ _ _ _ (by omega)]
        exact (hbc.block _ (by show _ < w5.heap.size; omega)).trans C2.out
      have f3 : ((wc.setRow w.heap.size KZ2).setRow (w.heap.size + 1 + 1) PZ2).heap[w.heap.size + 2]? = some (.cells PZ2 3 (0, 0)) := setRow_heap _ _ _ PZ2 _ _ bp
      have fb : Below w.heap.size w ((wc.setRow w.heap.size KZ2).setRow (w.heap.size + 1 + 1) PZ2) := by
        have h1 : Below w.heap.size w wc := (HB5.out.drew).trans (hbc.mono HB5.out.size)
        have h2 := h1.grown (row := some w.heap.size) (w' := wc.setRow w.heap.size KZ2) ⟨rfl, rfl, rfl, by simp, fun q _ hq => setRow_other wc _ q KZ2 (fun e => hq (by rw [e]))⟩ h1.size (fun q hq => by cases hq; exact Nat.le_refl _)
        exact h2.grown (row := some (w.heap.size + 1 + 1)) ⟨rfl, rfl, rfl, by simp, fun q _ hq => setRow_other _ _ q PZ2 (fun e => hq (by rw [e]))⟩ h2.size (fun q hq => by cases hq; omega)
      have fz : w.heap.size + 3 ≤ ((wc.setRow w.heap.size KZ2).setRow (w.heap.size + 1 + 1) PZ2).heap.size := by
        have h1 := hbc.size
        have h2 : w5.heap.size ≤ wc.heap.size := h1
        have h3 : wc.heap.size ≤ (wc.setRow w.heap.size KZ2).heap.size := by simp
        have h4 : (wc.setRow w.heap.size KZ2).heap.size ≤ ((wc.setRow w.heap.size KZ2).setRow (w.heap.size + 1 + 1) PZ2).heap.size := by simp
        omega
      generalize (wc.setRow w.heap.size KZ2).setRow (w.heap.size + 1 + 1) PZ2 = w8 at f1 f2 f3 fb fz ⊢
      rw [HKZ2.out] at f1
      rw [HPZ2.out] at f3
      have F1 := Lib.hid f1
      have F2 := Lib.hid f2
      have F3 := Lib.hid f3
      have FB := Lib.hid fb
      have FZ := Lib.hid fz
      clear f1 f2 f3 fb fz bk bp hbc hz5 hgz
      go_wp2_with fail
      go_roundg g
      case measure => omega
      case rel => exact ⟨k + 1, by go_num, by omega, FB, FZ, F1, F2, F3⟩
    · obtain rfl : k = n := by omega
      have hnI2 : ¬ (k : Int) < (k : Int) := by omega
      rw [HD8.out] at H1
      rw [HD1.out, pcs_flat] at H3
      have hKA : KeysAt wr (w.heap.size + 1) w.heap.size (keysOf ls rs) := keysAt_of H1.out (by rw [← HN.out]; exact H2.out)
      have hlen : (keysOf ls rs).length = k := by unfold keysOf; rw [List.length_map, HN.out]
      have hpl := places40_e (keysOf ls rs) (by rw [hlen, HN.out]; exact HNle.out) wr (w.heap.size + 1) w.heap.size (w.heap.size + 2) hKA (by omega) (by omega) (by rw [hlen]; exact H3.out)
      rw [hlen] at hpl
      have HPL := Lib.hid hpl
      clear hpl hKA hlen HKs' HPs' HKey' HS8 HS1 HL8 HL1 HD8 HD1 H1 H2 H3 B1 B2 B3 Z3 HB3
      go_wp2_with fail
      refine HPL.out.mono ?_
      rintro e w4 ⟨rfl, ps, hps, hg4, hz4, hc4⟩
      have hpsl := hps.len
      have hlen : (keysOf ls rs).length = k := by unfold keysOf; rw [List.length_map, HN.out]
      rw [hlen] at hpsl
      have hlt : ∀ (j i : Nat), ps[j]? = some i → i < k := fun j i h => by have := hps.lt h; rwa [hlen] at this
      have hb4 : Below w.heap.size w w4 := HB.out.grown hg4 HB.out.size (fun q hq => by cases hq; omega)
      obtain ⟨outs, houts⟩ : ∃ outs, outs = ps.map (fun i => (rs.getD i rvZero).cells) := ⟨_, rfl⟩
      have hol : outs.length = k := by rw [houts, List.length_map, hpsl]
      have hal : ∀ i, (rs.getD i rvZero).addr.length = 16 := fun i => by
        rw [List.getD_eq_getElem?_getD]
        cases hr : rs[i]? with
        | none => rfl
        | some r => exact HMem.out i r hr
      have ho21 : ∀ x ∈ outs, x.length = 21 := fun x hx => by
        rw [houts] at hx
        obtain ⟨i, _, rfl⟩ := List.mem_map.1 hx
        exact RV.size (hal i)
      have hstep := fun j c (h : outs[j]? = some c) => flatK_step (z := rvZero.cells) ho21 (RV.size rfl) hol h
      have hlenO := fun j (h : j ≤ k) => flatK_len (z := rvZero.cells) (k := j) ho21 (RV.size rfl) hol h
      have hdone : flatK outs rvZero.cells k k = outs.flatten := flatK_done hol
      have hat : ∀ (j i : Nat), ps[j]? = some i → outs[j]? = some (rs.getD i rvZero).cells := fun j i h => by rw [houts, List.getElem?_map, h]; rfl
      have mk3 := MK3.out
      rw [← flatK_zero outs] at mk3
      obtain ⟨OF, hOF⟩ : ∃ OF : Nat → List Value, ∀ j, OF j = flatK outs rvZero.cells k j := ⟨_, fun _ => rfl⟩
      simp only [← hOF] at hstep hlenO hdone mk3
      obtain ⟨OB, hOB⟩ : ∃ OB, OB = w4.heap.size := ⟨_, rfl⟩
      obtain ⟨w5, hw5⟩ : ∃ w5, w5 = w4.alloc (.cells (OF 0).toArray 29) := ⟨_, rfl⟩
      have hzz := HGz.out
      have hb5 : Below w.heap.size w w5 := by rw [hw5]; exact hb4.alloc hb4.size _
      have ho5 : w5.heap[OB]? = some (.cells (OF 0).toArray 29 (0, 0)) := by rw [hw5, hOB]; exact heap_alloc_last _ _
      have hc5 : ∀ (j i : Nat), ps[j]? = some i → w5.cell? ⟨w.heap.size + 2, j, none⟩ = some (.int .i64 i) := fun j i h => by
        rw [hw5]
        have := hc4 j i h
        rw [← this]
        exact ((Below.refl w4.heap.size w4).alloc (Nat.le_refl _) _).cell (p := ⟨w.heap.size + 2, j, none⟩) (cell_lt this)
      have hPO : w.heap.size + 2 < OB := by omega
      have HPsO := Lib.hid hps
      have HLT := Lib.hid hlt
      have HPl := Lib.hid hpsl
      have HAl := Lib.hid hal
      have HSt := Lib.hid hstep
      have HLo := Lib.hid hlenO
      have HDo := Lib.hid hdone
      have HAt := Lib.hid hat
      have HB5 := Lib.hid hb5
      have HO5 := Lib.hid ho5
      have HC5 := Lib.hid hc5
      have HPO := Lib.hid hPO
      have HW5 := Lib.hid hw5
      have HOB := Lib.hid hOB
      have HOuts := Lib.hid houts
      have HO21 := Lib.hid ho21
      clear hps hg4 hz4 hc4 hpsl hlt hb4 hol hal ho21 hstep hlenO hdone hat hb5 ho5 hc5 hPO hw5 hOB houts hlen hzz HPL HB HGz hOF
      clear hnI2
      go_wp2_with fail
      rw [← HW5.out, ← HOB.out]
      clear HW5 mk3
      go_loopg [45] k (fun gk i wr2 => ∃ j : Nat, i = .int .i64 j ∧ j + gk = k ∧ Hid (Below w.heap.size w wr2) ∧ Hid (wr2.heap[OB]? = some (.cells (OF j).toArray 29 (0, 0))) ∧ Hid (∀ (j i : Nat), ps[j]? = some i → wr2.cell? ⟨w.heap.size + 2, j, none⟩ = some (.int .i64 i)))
      case atStart => exact ⟨0, rfl, by simp, HB5, HO5, HC5⟩
      case round =>
        obtain ⟨j, rfl, hj, HB, HO, HC⟩ := hrel
        by_cases hltj : j < k
        · obtain ⟨g, rfl⟩ : ∃ g, gk = g + 1 := ⟨gk - 1, by omega⟩
          have hjI : (j : Int) < (k : Int) := by omega
          obtain ⟨i, hi⟩ : ∃ i, ps[j]? = some i := ⟨_, List.getElem?_eq_getElem (by rw [HPl.out]; exact hltj)⟩
          have hik := HLT.out j i hi
          have hiI : (i : Int) < (k : Int) := by omega
          have hci := HC.out j i hi
          obtain ⟨r, hr⟩ : ∃ r, r = rs.getD i rvZero := ⟨_, rfl⟩
          have hrg : rs[i]? = some r := by
            rw [hr, List.getD_eq_getElem?_getD, List.getElem?_eq_getElem (by rw [← HN.out]; exact hik)]; rfl
          have hrl : r.addr.length = 16 := by rw [hr]; exact HAl.out i
          have hrs1 := rSize hrl
          have hro := RV.one r
          obtain ⟨b, o, rfl, hbl, hcells⟩ := HR.out (by rw [List.length_map, ← HN.out]; omega)
          have hyc : ∀ q v, r.cells.toArray.toList[q]? = some v → wr.cell? ((⟨b, o + i * 21, none⟩ : Addr).add q) = some v := fun q v hq => by
            rw [Addr.add_lit, HB.out.cell (p := ⟨b, o + i * 21 + q, none⟩) hbl]
            exact hcells i r.cells (by rw [List.getElem?_map, hrg]; rfl) q v hq
          have hst := HSt.out j _ (HAt.out j i hi)
          rw [← hr] at hst
          have hlo := HLo.out j (by omega)
          have hrsz : r.cells.toArray.size = 21 := by rw [List.size_toArray]; exact RV.size hrl
          obtain ⟨OZ2, hOZ2⟩ : ∃ OZ2, OZ2 = (OF (j + 1)).toArray := ⟨_, rfl⟩
          have HOe : Hid ((((OF j).toArray).toList.take (j * 21) ++ r.cells.toArray.toList ++ ((OF j).toArray).toList.drop (j * 21 + r.cells.toArray.size)).toArray = OZ2) := Lib.hid (by rw [hOZ2, ← hst]; simp)
          have HOz : Hid (j * 21 + r.cells.toArray.size ≤ (OF j).toArray.size) := Lib.hid (by rw [hrsz, List.size_toArray, hlo]; omega)
          have HYC := Lib.hid hyc
          have HRS := Lib.hid hrs1
          have HRO := Lib.hid hro
          have HOZ2 := Lib.hid hOZ2
          have hk9 : j + (g + 1) = k := hj
          generalize r.cells.toArray = rc at *
          generalize (OF j).toArray = oj at *
          clear hi hik hr hrg hrl hcells hst hlo hrsz hOZ2 hyc hrs1 hro
          go_wp2_with (first
            | (refine wpList_load_agg rfl 29 (.tmp 54) rfl ⟨b, o + i * 21, none⟩ rfl rc _ HYC.out Tryd.underlying29 rfl HRS.out ?_; go_simp)
            | (refine wpList_store_sub rfl 29 (.tmp 56) (.tmp 55) rfl OB (j * 21) oj rc OZ2 29 HO.out rfl rfl HRS.out HOz.out HRO.out HOe.out ?_; intro w7 h7 hg7 hz7; go_simp))
          go_roundg g
          case measure => omega
          case rel =>
            refine ⟨j + 1, by go_num, by omega, Lib.hid (HB.out.grown hg7.out HB.out.size (fun q hq => by cases hq; have := HPO.out; omega)), Lib.hid (by rw [← HOZ2.out]; exact h7.out), Lib.hid fun q i' h => ?_⟩
            have := HC.out q i' h
            rw [← this]
            exact World.cell?_of_block (hg7.out.block (w.heap.size + 2) (cell_lt this) (fun e => by have := Option.some.inj e; have := HPO.out; omega))
        · obtain rfl : j = k := by omega
          have hnI3 : ¬ (j : Int) < (j : Int) := by omega
          rw [HDo.out] at HO
          go_wp2_with fail
          go_ret
          refine ⟨ps, HPsO.out, OB, rfl, by have := HPO.out; omega, fun h0 => ⟨OB, 0, rfl, heap_lt HO.out, fun q c hq l v hl => ?_⟩, HB.out⟩
          have hq' : outs[q]? = some c := by rw [HOuts.out]; rw [List.getElem?_map, List.getElem?_map] at hq; rw [List.getElem?_map]; cases hp : ps[q]? with
            | none => rw [hp] at hq; cases hq
            | some i => rw [hp] at hq; exact hq
          rw [cell_of_row _ _ _ _ _ _ HO.out, List.getElem?_toArray, Nat.zero_add]
          have hl21 : l < 21 := by
            have h1 := (List.getElem?_eq_some_iff.1 hl).1
            have h2 := HO21.out c (List.mem_of_getElem? hq')
            omega
          rw [flat_at HO21.out hq' hl21]
          exact hl
end Go.Proofs.YtoaedlllnkcfnaaDoor
