/-
  The walks of msg.v4 and is4: what they answer. Conditions: each states its own.
-/
import Derived.Test.YtakfokdjdljjjaaDoorMsgMem
namespace Go.Proofs.YtakfokdjdljjjaaDoor
open Go.RowKit

theorem copy_new (W : World) (g : Nat) (hg : W.heap.size = g) (off dLen dCap sLen sCap : Nat) (a : Addr) (cur new : Array Value) (cs : List Value) (t ty sT : TypeId) (hn : cs.length = Nat.min sLen dLen)
    (hsrc : ∀ j v, cs[j]? = some v → (W.alloc (.cells cur t)).cell? (a.add j) = some v) (hfit : off + cs.length ≤ cur.size) (h1 : ∀ v ∈ cs, v.oneCell' = true)
    (he : (cur.toList.take off ++ cs ++ cur.toList.drop (off + cs.length)).toArray = new) :
    (Builtin.copy_ #[32, sT] ty #[.slice (some ⟨g, off, none⟩) dLen dCap, .slice (some a) sLen sCap]).run Tryd.prog (W.alloc (.cells cur t)) = .ok (goInt cs.length) (W.alloc (.cells new t)) := by
  subst hg
  rw [run_copy_row (P := Tryd.prog) _ _ sT ty 5 W.heap.size off dLen dCap a sLen sCap cur t cs Tryd.underlying32 sizeU8 (heap_alloc_last W _) hn hsrc hfit h1, he, World.setRow_alloc_new]
theorem sizeBv {l : List UInt8} (h : l.length = 16) : (Tryd.prog.info? 40).map (·.size) = some (bvs l).toArray.size := by
  rw [sizeAddr, List.size_toArray, bvs_length, h]
theorem oneBv (l : List UInt8) : (bvs l).toArray.all (·.oneCell') = true := by
  rw [List.all_toArray]; exact List.all_eq_true.2 (bvs_one l)
theorem zeroAddr : (Tryd.prog.info? 40).map (·.zero) = some (some (.agg (bvs zero16).toArray)) := by kernel_rfl
theorem builtHalf : Tryd.prog.built 40 [(10, .int .u8 255), (11, .int .u8 255)] = some (bvs (pre4 ++ [0, 0, 0, 0])).toArray := by kernel_rfl
theorem half_copy {d : List UInt8} (h : d.length = 4) : ((bvs (pre4 ++ [0, 0, 0, 0])).toArray.toList.take 12 ++ bvs d ++ (bvs (pre4 ++ [0, 0, 0, 0])).toArray.toList.drop (12 + (bvs d).length)).toArray = (bvs (pre4 ++ d)).toArray := by
  rw [bvs_length, h, bvs_append pre4 d]
  have e1 : (bvs (pre4 ++ [0, 0, 0, 0])).toArray.toList.take 12 = bvs pre4 := by rfl
  have e2 : (bvs (pre4 ++ [0, 0, 0, 0])).toArray.toList.drop (12 + 4) = [] := by rfl
  rw [e1, e2, List.append_nil]
theorem heap_lt {w : World} {g : Nat} {o : Obj} (h : w.heap[g]? = some o) : g < w.heap.size := (Array.getElem?_eq_some_iff.1 h).1
theorem heap_two (w : World) (A B : Obj) : ((w.alloc A).alloc B).heap[w.heap.size]? = some A := heap_alloc2_old w A B
set_option maxRecDepth 100000 in
set_option maxHeartbeats 1000000 in
theorem v4_any (b o cap : Nat) (d : List UInt8) (hd : d.length = 4) (w : World) (hb : b < w.heap.size) (hc : ∀ j, j < 4 → w.cell? ⟨b, o + j, none⟩ = some (.int .u8 (d.getD j 0).toNat)) :
    Calls Tryd.prog 44 #[.slice (some ⟨b, o, none⟩) 4 cap] w fun e w' => e = .returned (.agg (bvs (pre4 ++ d)).toArray) ∧ Below w.heap.size w w' := by
  have hl : (pre4 ++ d).length = 16 := by rw [List.length_append, hd]; rfl
  have hcp := fun (A : Obj) (ty : TypeId) => copy_new (w.alloc A) (w.heap.size + 1) (World.size_alloc ..) 12 4 4 4 cap ⟨b, o, none⟩ (bvs (pre4 ++ [0, 0, 0, 0])).toArray (bvs (pre4 ++ d)).toArray (bvs d) 40 ty 32 (by rw [bvs_length, hd]; rfl)
    (fun j v hj => by
      have hj' : j < 4 := by rw [← hd, ← bvs_length]; exact (List.getElem?_eq_some_iff.1 hj).1
      rw [bvs_at (by omega)] at hj
      rw [Addr.add_lit, World.cell?_alloc_lt _ _ _ (by rw [World.size_alloc]; show b < _; omega), World.cell?_alloc_lt _ _ _ hb, ← hj]
      exact hc j hj') (by rw [bvs_length, hd]; decide) (bvs_one d) (half_copy hd)
  rw [bvs_length, hd] at hcp
  have hs := sizeBv hl
  have h1 := oneBv (pre4 ++ d)
  have hz : (bvs zero16).toArray.size = (bvs (pre4 ++ d)).toArray.size := by rw [List.size_toArray, List.size_toArray, bvs_length, bvs_length, hl]; rfl
  have hz2 : (bvs zero16).toArray.size = (bvs (pre4 ++ [0, 0, 0, 0])).toArray.size := rfl
  have hs2 := sizeBv (l := pre4 ++ [0, 0, 0, 0]) rfl
  have h12 := oneBv (pre4 ++ [0, 0, 0, 0])
  have zA := zeroAddr
  have bH := builtHalf
  revert hcp hs h1 hz hz2 hs2 h12 zA bH
  generalize (bvs (pre4 ++ d)).toArray = r
  generalize (bvs zero16).toArray = z
  generalize (bvs (pre4 ++ [0, 0, 0, 0])).toArray = half
  intro hcp hs h1 hz hz2 hs2 h12 zA bH
  have HS := Lib.hid hs
  have H1 := Lib.hid h1
  have HZ := Lib.hid hz
  have HZ2 := Lib.hid hz2
  have HS2 := Lib.hid hs2
  have H12 := Lib.hid h12
  have ZA := Lib.hid zA
  have BH := Lib.hid bH
  clear hc hl hs h1 hz hz2 hs2 h12 zA bH
  go_enter Tryd.func44, Tryd.ntmps44
  go_wp2_with (first
    | (refine wpList_alloc_z rfl 40 rfl z ZA.out ?_; go_simp)
    | (refine wpList_build_z rfl 40 #[(10, .const (.int .u8 255)), (11, .const (.int .u8 255))] rfl half BH.out ?_; go_simp)
    | (refine wpList_store_new rfl 40 (.tmp 3) (.tmp 4) rfl (w.heap.size + 1) (World.size_alloc ..) z half 40 rfl rfl HS2.out HZ2.out H12.out ?_; go_simp)
    | (refine wpList_load_row rfl 40 (.tmp 3) rfl (w.heap.size + 1) rfl 40 r (0, 0) _ (heap_alloc2_new w _ _) Tryd.underlying40 rfl HS.out ?_; go_simp)
    | (refine wpList_store_blk rfl 40 (.tmp 2) (.tmp 8) rfl w.heap.size z r 40 (heap_two w _ _) rfl rfl HS.out HZ.out H1.out ?_; intro w1 hg1 hw1 hz1; go_simp))
  exact bodyPost_ret (results_cell_row rfl _ w1 w.heap.size 40 r (0, 0) _ rfl hg1.out Tryd.underlying40 rfl HS.out) rfl ⟨rfl, (((Below.refl _ w).alloc (Nat.le_refl _) _).alloc (by rw [World.size_alloc]; omega) _).grown hw1.out (by rw [World.size_alloc, World.size_alloc]; omega) (fun k e => by injection e with e; omega)⟩

theorem cells_row {w : World} {g : Nat} {cs : Array Value} {t : TypeId} {fr : Nat × Nat} (hg : w.heap[g]? = some (.cells cs t fr)) : ∀ j v, cs.toList[j]? = some v → w.cell? ((⟨g, 0, none⟩ : Addr).add j) = some v := fun j v hj => by
  rw [Addr.add_lit, Nat.zero_add, cell_of_row w g j cs t fr hg]
  simpa using hj
theorem cells_sub {w : World} {g off : Nat} {cs sub : Array Value} {t : TypeId} {fr : Nat × Nat} (hg : w.heap[g]? = some (.cells cs t fr)) (hs : ∀ j v, sub.toList[j]? = some v → cs[off + j]? = some v) :
    ∀ j v, sub.toList[j]? = some v → w.cell? ((⟨g, off, none⟩ : Addr).add j) = some v := fun j v hj => by
  rw [Addr.add_lit, cell_of_row w g (off + j) cs t fr hg]
  exact hs j v hj
theorem eqGuardAddr : Tryd.prog.eqGuardType Tryd.prog.depth 40 = false := by kernel_rfl
theorem eqGuardRec : Tryd.prog.eqGuardType Tryd.prog.depth 45 = false := by kernel_rfl
theorem bcell {W w1 : World} (hb : Below W.heap.size W w1) : ∀ b o, b < W.heap.size → w1.cell? ⟨b, o, none⟩ = W.cell? ⟨b, o, none⟩ := fun b o h => hb.cell (p := ⟨b, o, none⟩) h
theorem list16 {x : List UInt8} (h : x.length = 16) : ∃ a b c d e f g i j k l m n o p q, x = [a, b, c, d, e, f, g, i, j, k, l, m, n, o, p, q] := by
  match x, h with
  | [a, b, c, d, e, f, g, i, j, k, l, m, n, o, p, q], _ => exact ⟨a, b, c, d, e, f, g, i, j, k, l, m, n, o, p, q, rfl⟩
set_option maxRecDepth 100000 in
set_option maxHeartbeats 1000000 in
theorem is4_any (x : List UInt8) (hx : x.length = 16) (w : World) :
    Calls Tryd.prog 46 #[.agg (bvs x).toArray] w fun e w' => e = .returned (.bool (x == pre4 ++ x.drop 12)) ∧ Below w.heap.size w w' := by
  have hd : (x.drop 12).length = 4 := by rw [List.length_drop, hx]
  have hy : (pre4 ++ x.drop 12).length = 16 := by rw [List.length_append, hd]; rfl
  have C := fun (W : World) (hW : W.heap[w.heap.size]? = some (.cells (bvs x).toArray 40 (0, 0))) => v4_any w.heap.size 12 4 (x.drop 12) hd W (heap_lt hW) (fun j hj => by
    rw [cell_of_row W _ _ _ _ _ hW, List.getElem?_toArray, bvs_at (by omega)]
    congr 3
    simp [List.getD])
  have hq : ∀ W : World, (Op.equalIn 10000 40 (.agg (bvs x).toArray) (.agg (bvs (pre4 ++ x.drop 12)).toArray)).run Tryd.prog W = .ok (x == pre4 ++ x.drop 12) W := fun W => eq_addr 9998 W hx hy
  obtain ⟨a, b, c, d, e, f, g, i, j, k, l, m, n, o, p, q, rfl⟩ := list16 hx
  clear hx hd hy
  revert C hq
  generalize (bvs (pre4 ++ [a, b, c, d, e, f, g, i, j, k, l, m, n, o, p, q].drop 12)).toArray = r
  generalize ([a, b, c, d, e, f, g, i, j, k, l, m, n, o, p, q] == pre4 ++ [a, b, c, d, e, f, g, i, j, k, l, m, n, o, p, q].drop 12) = res
  simp only [bvs, List.map_cons, List.map_nil]
  generalize Value.int .u8 a.toNat = a
  generalize Value.int .u8 b.toNat = b
  generalize Value.int .u8 c.toNat = c
  generalize Value.int .u8 d.toNat = d
  generalize Value.int .u8 e.toNat = e
  generalize Value.int .u8 f.toNat = f
  generalize Value.int .u8 g.toNat = g
  generalize Value.int .u8 i.toNat = i
  generalize Value.int .u8 j.toNat = j
  generalize Value.int .u8 k.toNat = k
  generalize Value.int .u8 l.toNat = l
  generalize Value.int .u8 m.toNat = m
  generalize Value.int .u8 n.toNat = n
  generalize Value.int .u8 o.toNat = o
  generalize Value.int .u8 p.toNat = p
  generalize Value.int .u8 q.toNat = q
  intro C hq
  have C1 := C (w.alloc (.cells #[a, b, c, d, e, f, g, i, j, k, l, m, n, o, p, q] 40)) (heap_alloc_last w _)
  have HC := Lib.hid C
  clear C
  go_enter Tryd.func46, Tryd.ntmps46
  go_wp2_with fail
  go_region_law (first
    | (go_simp; go_at_call 44; refine (HC.out _ (by exact heap_alloc_last w _)).mono ?_; rintro e' w1 ⟨rfl, hb1⟩; have hc1 := bcell hb1; have HB := Lib.hid hb1; clear hb1))
  all_goals go_wp2_with fail
  all_goals go_ret
  all_goals exact ⟨rfl, ((Below.refl _ w).alloc (Nat.le_refl _) _).drew.trans (HB.out.mono (by simp))⟩
end Go.Proofs.YtakfokdjdljjjaaDoor
