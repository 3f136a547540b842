/-
  The walk of LinkRuns. Conditions: the calls came in, the text has a length that may be, and the library's variable MaxLen holds some number.
-/
import Derived.Test.YtgopjgbcnjkblaaGreatDoorLinkRunsLib
import Derived.Deep.RegionHeld3
import Derived.BigQuiet
namespace Go.Proofs.YtgopjgbcnjkblaaGreatDoor
open Go.RowKit

theorem zeroArr : (Tryz.prog.info? 32).map (·.zero) = some (some (.agg (([zSl, zSl, zSl, zSl].map Sl.lk).flatten).toArray)) := by kernel_rfl
theorem zeroCall : (Tryz.prog.info? 34).map (·.zero) = some (some (.agg (⟨0, 0, zSl⟩ : Cl).cells.toArray)) := by kernel_rfl
theorem box9 {W : World} {B : Nat} {c : Cl} (h : W.heap[B]? = some (.cells c.cells.toArray 34 (0, 0))) :
    W.cell? ⟨B, 0, none⟩ = some (.int .i64 c.kind) ∧ W.cell? ⟨B, 1, none⟩ = some (.int .i64 c.num) ∧ W.cell? ⟨B, 2, none⟩ = some (.bool c.s.live) ∧ W.cell? ⟨B, 3, none⟩ = some (.int .i64 c.s.gen) ∧ W.cell? ⟨B, 4, none⟩ = some (.slice c.s.dA c.s.ds.length c.s.dc) ∧ W.cell? ⟨B, 5, none⟩ = some (.bool c.s.df) ∧ W.cell? ⟨B, 6, none⟩ = some (.bool c.s.ll) ∧ W.cell? ⟨B, 7, none⟩ = some (.slice c.s.sA c.s.ns c.s.sc) ∧ W.cell? ⟨B, 8, none⟩ = some (.slice c.s.lA c.s.nl c.s.lc) := by
  refine ⟨?_, ?_, ?_, ?_, ?_, ?_, ?_, ?_, ?_⟩
  all_goals rw [cell_of_row W B _ _ _ _ h]; rfl
theorem right_q {w : World} {s : Sl} (h : InL w s) (he : Env w) : Calls Tryz.prog 8 #[.agg s.lk.toArray] w fun e w' => e = .returned (.bool (rightL s)) ∧ Below w.heap.size w w' := (right_e h he).mono (by rintro e w' ⟨h1, h2, _⟩; exact ⟨h1, h2⟩)
theorem lright_q {w : World} {s : Sl} (h : InL w s) (he : Env w) : Calls Tryz.prog 9 #[.agg s.lk.toArray] w fun e w' => e = .returned (.bool (rightL s)) ∧ Below w.heap.size w w' := (lright_e h he).mono (by rintro e w' ⟨h1, h2, _⟩; exact ⟨h1, h2⟩)
theorem sizeLl (s : Sl) : (Tryz.prog.info? 31).map (·.size) = some s.lk.length := by kernel_rfl
theorem gens_set {w8 : World} {M kk : Nat} {a b c d s : Sl} {g : Int} (hk : kk < 4) (h : w8.heap[M]? = some (.cells ((([a, b, c, d] : List Sl).set kk s).map Sl.lk).flatten.toArray 32 (0, 0))) :
    (((w8.setCell ⟨M, kk * 7, none⟩ (.bool true)).setCell ⟨M, kk * 7 + 1, none⟩ (.int .i64 g)).drew).heap[M]? = some (.cells ((([a, b, c, d] : List Sl).set kk { s with live := true, gen := g }).map Sl.lk).flatten.toArray 32 (0, 0)) ∧
    w8.grownBy (((w8.setCell ⟨M, kk * 7, none⟩ (.bool true)).setCell ⟨M, kk * 7 + 1, none⟩ (.int .i64 g)).drew) (some M) := by
  have h1 := heap_setCell_same w8 M (kk * 7) _ _ (.bool true) h
  have h2 := heap_setCell_same _ M (kk * 7 + 1) _ _ (.int .i64 g) h1
  refine ⟨?_, ?_⟩
  · refine Eq.trans h2 ?_
    match kk, hk with
    | 0, _ => rfl
    | 1, _ => rfl
    | 2, _ => rfl
    | 3, _ => rfl
  · exact grown_trans (grown_set w8 M (kk * 7) (.bool true)) (grown_trans (grown_set _ M (kk * 7 + 1) (.int .i64 g)) (grown_of_below _ ((Below.refl _ _).drew)))
/-- what Get tells of a link, whether it lives or not -/
theorem RunAt.get {base T M last j : Nat} {W w : World} {ms ss : List Sl} {mj : Sl} (h : RunAt base W w T M last ms ss) (hm : ms[j]? = some mj) :
    Calls Tryz.prog 12 #[.pointer (some ⟨T, 0, none⟩), .int .i64 j] w fun e w' => ∃ g : Sl, e = .returned (.tuple #[.agg g.lk.toArray, .bool mj.live]) ∧ g.gen = mj.gen ∧ g.ns = mj.ns ∧ Below w.heap.size w w' := by
  have hj : j < ss.length := by rw [h.tab.four, ← h.four]; exact (List.getElem?_eq_some_iff.1 hm).1
  obtain ⟨s, hs⟩ : ∃ s, ss[j]? = some s := ⟨_, List.getElem?_eq_getElem hj⟩
  have hk := h.like j mj s hm hs
  cases hl : s.live with
  | true =>
    refine (get_yes h.tab hs hl).mono ?_
    rintro e w' ⟨dA, dc, sA, sc, lA, lc, rfl, _, hb⟩
    exact ⟨s.at dA dc sA sc lA lc, by rw [hk.live, hl], hk.gen.symm, hk.ns.symm, hb⟩
  | false =>
    have hz : mj = zSl := h.dead mj (List.mem_of_getElem? hm) (hk.live.trans hl)
    refine (get_dead h.tab hs hl).mono ?_
    rintro e w' ⟨rfl, hb⟩
    exact ⟨zSl, by rw [hk.live, hl], by rw [hz], by rw [hz], hb⟩
/-- what Cache and Len tell of it -/
theorem RunAt.cacheL {base T M last j : Nat} {W w : World} {ms ss : List Sl} {mj : Sl} (h : RunAt base W w T M last ms ss) (hm : ms[j]? = some mj) (hl : mj.live = true) :
    ∃ C : Nat, (∀ q, Calls Tryz.prog 13 #[.pointer (some ⟨T, 0, none⟩), .int .i64 j] (w.drewN q) fun e w' => e = .returned (.pointer (some ⟨C, 0, none⟩)) ∧ w' = w.drewN q) ∧
      ∀ q, Calls Tryz.prog 14 #[.pointer (some ⟨C, 0, none⟩)] (w.drewN q) fun e w' => e = .returned (.int .i64 0) ∧ w' = w.drewN q := by
  have hj : j < ss.length := by rw [h.tab.four, ← h.four]; exact (List.getElem?_eq_some_iff.1 hm).1
  obtain ⟨s, hs⟩ : ∃ s, ss[j]? = some s := ⟨_, List.getElem?_eq_getElem hj⟩
  have hk := h.like j mj s hm hs
  have hsl := hk.live.symm.trans hl
  obtain ⟨C, h1, _, h3⟩ := h.caches s (List.mem_of_getElem? hs) hsl
  have hd : ∀ q, RunAt base W (w.drewN q) T M last ms ss := fun q => h.below (below_drewN (Below.refl _ _) q)
  refine ⟨C, fun q => ?_, fun q => ?_⟩
  · refine (cache_yes (hd q).tab hs hsl).mono ?_
    rintro e w' ⟨rfl, hw⟩
    rw [h1]; exact ⟨rfl, hw.symm⟩
  · refine (clen_e C (w.drewN q) (by rw [cell_of_row (w.drewN q) C 1 _ _ _ h3]; rfl)).mono ?_
    rintro e w' ⟨rfl, hw⟩
    exact ⟨rfl, hw.symm⟩
theorem RunAt.cacheD {base T M last j : Nat} {W w : World} {ms ss : List Sl} {mj : Sl} (h : RunAt base W w T M last ms ss) (hm : ms[j]? = some mj) (hl : mj.live = false) :
    (∀ q, Calls Tryz.prog 13 #[.pointer (some ⟨T, 0, none⟩), .int .i64 j] (w.drewN q) fun e w' => e = .returned (.pointer none) ∧ w' = w.drewN q) ∧
      ∀ q, Calls Tryz.prog 14 #[.pointer none] (w.drewN q) fun e w' => e = .returned (.int .i64 0) ∧ w' = w.drewN q := by
  have hj : j < ss.length := by rw [h.tab.four, ← h.four]; exact (List.getElem?_eq_some_iff.1 hm).1
  obtain ⟨s, hs⟩ : ∃ s, ss[j]? = some s := ⟨_, List.getElem?_eq_getElem hj⟩
  have hk := h.like j mj s hm hs
  have hd : ∀ q, RunAt base W (w.drewN q) T M last ms ss := fun q => h.below (below_drewN (Below.refl _ _) q)
  refine ⟨fun q => ?_, fun q => ?_⟩
  · refine (cache_dead (hd q).tab hs (hk.live.symm.trans hl)).mono ?_
    rintro e w' ⟨rfl, hw⟩
    exact ⟨rfl, hw.symm⟩
  · refine (lenN_e (w.drewN q)).mono ?_
    rintro e w' ⟨rfl, hw⟩
    exact ⟨rfl, hw.symm⟩
/-- a link has no more than four local addresses -/
theorem RunAt.few {base T M last : Nat} {W w : World} {ms ss : List Sl} {m : Sl} (h : RunAt base W w T M last ms ss) (hm : m ∈ ms) : m.nl ≤ 4 := by
  cases hl : m.live with
  | true =>
    have hr := h.right m hm hl
    unfold rightL at hr
    simp only [Bool.and_eq_true, decide_eq_true_eq] at hr
    exact hr.1.2
  | false => rw [h.dead m hm hl]; exact Nat.zero_le _
theorem sum_few : ∀ (l : List Nat), (∀ x ∈ l, x ≤ 4) → l.sum ≤ 4 * l.length
  | [], _ => by simp
  | x :: l, h => by
    have h1 := h x List.mem_cons_self
    have h2 := sum_few l fun y hy => h y (List.mem_cons_of_mem _ hy)
    rw [List.sum_cons, List.length_cons]; omega
theorem RunAt.sum {base T M last : Nat} {W w : World} {ms ss : List Sl} (h : RunAt base W w T M last ms ss) (j : Nat) : ((ms.take j).map Sl.nl).sum ≤ 16 := by
  have h1 := sum_few ((ms.take j).map Sl.nl) (fun x hx => by obtain ⟨m, hm, rfl⟩ := List.mem_map.1 hx; exact h.few (List.mem_of_mem_take hm))
  rw [List.length_map, List.length_take, h.four] at h1
  omega
theorem RunAt.modc {base T M last j : Nat} {W w : World} {ms ss : List Sl} {mj : Sl} (h : RunAt base W w T M last ms ss) (hm : ms[j]? = some mj) {i : Nat} {v : Value} (hi : i < 7) (hv : mj.lk[i]? = some v) : w.cell? ⟨M, j * 7 + i, none⟩ = some v := by
  rw [cell_of_row w _ _ _ _ _ h.mod, List.getElem?_toArray]
  rw [flat_at (s := 7) (k := j) (c := mj.lk) (xs := ms.map Sl.lk) (fun y hy => by obtain ⟨r, _, rfl⟩ := List.mem_map.1 hy; rfl) (by rw [List.getElem?_map, hm]; rfl) hi]
  exact hv
/-- the numbers that a call tells -/
def NumQ (L : List Int) (w : World) (e : Ending) (w' : World) : Prop := ∃ A c, e = .returned (.slice A L.length c) ∧ RowIn 1 w' (.slice A L.length c) L.length (L.map (.int .i64)) ∧ Below w.heap.size w w'
theorem numQ {L : List Int} {w w' : World} {e : Ending} (h : NumPost L w e w') : NumQ L w e w' := by
  obtain ⟨v, rfl, ho, hb⟩ := h
  obtain ⟨A, c, rfl⟩ := own_fm ho
  exact ⟨A, c, rfl, RowIn.of_own ho (fun u hu => by obtain ⟨i, _, rfl⟩ := List.mem_map.1 hu; rfl), hb⟩
theorem num_step {ss : List Sl} {k : Nat} {m s : Sl} (h : ss[k]? = some s) (hl : Like m s) (hd : m.live = false → m = zSl) : numOf (comeTo ss (k + 1)) = numOf (comeTo ss k) + m.nl := by
  cases hlv : s.live with
  | true => rw [comeTo_hit h hlv, numOf_snoc, hl.nl]
  | false =>
    have hz := hd (hl.live.trans hlv)
    rw [comeTo_miss h hlv, hz]; rfl
theorem RunAt.locn {base T M last : Nat} {W w : World} {ms ss : List Sl} (h : RunAt base W w T M last ms ss) : numOf (comeTo ss 4) = ((ms.take 4).map Sl.nl).sum := by
  have hd := h.dead
  obtain ⟨ma, mb, mc, md, a, b, c, d, rfl, rfl, k1, k2, k3, k4⟩ := h.abcd
  rw [num_step (k := 3) (s := d) rfl k4 (hd md (by simp)), num_step (k := 2) (s := c) rfl k3 (hd mc (by simp)), num_step (k := 1) (s := b) rfl k2 (hd mb (by simp)), num_step (k := 0) (s := a) rfl k1 (hd ma (by simp))]
  show 0 + ma.nl + mb.nl + mc.nl + md.nl = ma.nl + (mb.nl + (mc.nl + (md.nl + 0)))
  omega
theorem RunAt.locQ {base T M last : Nat} {W w w1 : World} {ms ss : List Sl} (h : RunAt base W w T M last ms ss) (hb : Below w.heap.size w w1) :
    Calls Tryz.prog 15 #[.pointer (some ⟨T, 0, none⟩)] w1 fun e w' => ∃ A c, e = .returned (.slice A ((ms.take 4).map Sl.nl).sum c) ∧ Below w1.heap.size w1 w' := by
  refine (locals_e w1 (h.below hb).tab).mono ?_
  rintro e w' ⟨v, rfl, ho, hb2⟩
  obtain ⟨A, c, rfl⟩ := own_fm ho
  rw [h.locn]
  exact ⟨A, c, rfl, hb2⟩
theorem flat_range {w : World} {M : Nat} {a b c d : Sl} (h : w.heap[M]? = some (.cells (([a, b, c, d].map Sl.lk).flatten.toArray) 32 (0, 0))) : w.rangeAt M 0 (flat4 a b c d) := fun j v hj => by
  rw [cell_of_row w M (0 + j) _ _ _ h, Nat.zero_add, List.getElem?_toArray]
  exact hj
theorem route_len (ss : List Sl) (n : ByteArray) : (routeL ss n).length ≤ 4 := by
  unfold routeL
  exact Nat.le_trans (numsOf_le _ _) (comeTo_len ss 4)
theorem RunAt.lrouteQ {base T M last : Nat} {W w w1 : World} {ma mb mc md : Sl} {ss : List Sl} {n : ByteArray} (h : RunAt base W w T M last [ma, mb, mc, md] ss) (hn : n.size ≤ 300) (he : Env w1) (hb : Below W.heap.size W w1) :
    Calls Tryz.prog 18 #[.agg (flat4 ma mb mc md).toArray, .string n] w1 fun e w' => NumQ (routeL [ma, mb, mc, md] n) w1 e w' := by
  have hsz : ∀ s ∈ [ma, mb, mc, md], (∀ x ∈ s.ds, x.size ≤ 300) ∧ s.ds.length ≤ 1000 := fun s hs => by
    cases hl : s.live with
    | true =>
      have hr := h.right s hs hl
      unfold rightL at hr
      simp only [Bool.and_eq_true, decide_eq_true_eq, List.all_eq_true] at hr
      exact ⟨fun x hx => by have := okD_size (hr.2 x hx); omega, by have := hr.1.1.1; omega⟩
    | false => rw [h.dead s hs hl]; exact ⟨fun x hx => (by cases hx), (by decide)⟩
  exact (lroute_e n (fun s hs => ((h.rows s hs).below hb).dom) (fun s hs => (hsz s hs).1) (fun s hs => (hsz s hs).2) hn he).mono (fun e w' h => numQ h)
set_option maxRecDepth 100000 in
set_option maxHeartbeats 4000000 in
theorem linkRuns_walk (A : Option Addr) (m c : Nat) (ls : List Cl) (nm : ByteArray) (W : World) (he : Env W) (hm : ls.length = m) (hI : (∀ x ∈ ls, InS W x.s) ∧ RowIn 9 W (.slice A m c) m (ls.map Cl.cells).flatten ∧ m ≤ maxLen) (hn : nm.size ≤ 140737488351232) :
    Calls Tryz.prog 3 #[.slice A m c, .string nm] W fun e w' => e = .returned (.bool true) ∧ Below W.heap.size W w' := by
  have hme := he.1
  have HI := Lib.hid hI.1
  have HR := Lib.hid hI.2.1
  have hbig' := hI.2.2
  unfold maxLen at hbig'
  have HE0 := Lib.hid he
  have HEW := Lib.hid he
  clear hI he
  go_enter Tryz.func3, Tryz.ntmps3
  go_wp2_with fail
  refine (fit11_e W HE0.out).mono ?_
  rintro e w1 ⟨rfl, hb, hE1⟩
  have HB1 := Lib.hid hb
  have HE1 := Lib.hid hE1
  clear hb hE1 HE0
  have hli := light_e hm (fun x hx => (HI.out x hx).inl.below HB1.out) (HR.out.below HB1.out) hbig'
  go_wp2_with fail
  refine hli.mono ?_
  rintro e w2 ⟨b, rfl, hb, h60⟩
  have HB2 := Lib.hid (HB1.out.trans (hb.mono HB1.out.size))
  have HE2 := Lib.hid (HE1.out.below hb)
  clear hb hli HB1 HE1
  cases b with
  | false =>
    go_wp2
    go_ret
    exact ⟨rfl, HB2.out⟩
  | true =>
  by_cases hlong : 300 < nm.size
  · go_wp2
    go_ret
    exact ⟨rfl, HB2.out⟩
  have hn3 : nm.size ≤ 300 := by omega
  have h60' := h60 rfl
  clear hlong h60
  go_wp2_with fail
  refine (newT_e w2).mono ?_
  rintro e w3 ⟨T, rfl, hT, hb⟩
  have hTb := hT.ge
  have hz2 := HB2.out.size
  have HB3 := Lib.hid (HB2.out.trans (hb.mono hz2))
  have hz3 := HB3.out.size
  have hba := (Below.refl _ w3).alloc (Nat.le_refl _) (.cells (([zSl, zSl, zSl, zSl].map Sl.lk).flatten).toArray 32)
  have HRA := Lib.hid (RunAt.start (W := W) (hT.below hba) (heap_alloc_last w3 (.cells (([zSl, zSl, zSl, zSl].map Sl.lk).flatten).toArray 32)))
  have HB4 := Lib.hid (HB3.out.trans (hba.mono hz3))
  have hTl := hT.lt
  have HZA := Lib.hid zeroArr
  have HZC := Lib.hid zeroCall
  have HZL := Lib.hid zeroLink
  clear hT hb hba HB2 HE2 HB3
  revert HRA HB4 HZA
  generalize (([zSl, zSl, zSl, zSl].map Sl.lk).flatten).toArray = FZ
  intro HRA HB4 HZA
  go_wp2_with (first
    | (refine wpList_alloc_z rfl 32 rfl FZ HZA.out ?_; go_simp))
  generalize w3.alloc (.cells FZ 32) = w4 at HRA HB4 ⊢
  go_loopw [7, 32] (fun g i wr => ∃ (k : Nat) (ms ss : List Sl) (last : Nat), k ≤ m ∧ i = .int .i64 k ∧ g = .int .i64 last ∧ RunAt w2.heap.size W wr T w3.heap.size last ms ss ∧ last ≤ k ∧ Below W.heap.size W wr) (fun _ i _ => m - (intOf i).toNat)
  case atStart => exact ⟨0, _, _, 0, Nat.zero_le _, rfl, rfl, HRA.out, Nat.le_refl _, HB4.out⟩
  case round =>
    obtain ⟨k, ms, ss, last, hk, rfl, rfl, hA, hlast, hb⟩ := hrel
    by_cases hlt : k < m
    · obtain ⟨x, hx⟩ : ∃ x, ls[k]? = some x := ⟨_, List.getElem?_eq_getElem (by omega)⟩
      obtain ⟨b, o, rfl, hc⟩ := (HR.out.below hb).elem Cl.clen (by decide) hx
      have hxi := (HI.out x (List.mem_of_getElem? hx)).inl
      have HC := Lib.hid (fun (j : Nat) (v : Value) (hj : x.cells.toArray.toList[j]? = some v) => hc j v (by simpa using hj))
      have HS := Lib.hid (sizeCall x)
      have H1 := Lib.hid (oneCall x)
      have hcl : x.cells.toArray.size = 9 := by simp [Cl.clen]
      have hcz : (⟨0, 0, zSl⟩ : Cl).cells.toArray.size = 9 := by simp [Cl.clen]
      have HA := Lib.hid hA
      have HB := Lib.hid hb
      have HXI := Lib.hid hxi
      have HBX : Hid (∀ (w : World) (X : Nat), w.heap[X]? = some (.cells x.cells.toArray 34 (0, 0)) → _) := Lib.hid (fun w X h => box9 (W := w) (B := X) (c := x) h)
      have HTL := Lib.hid (show x.cells.toArray.toList = x.cells from rfl)
      clear hc hx hxi hb hA HRA HB4
      revert HC HS H1 hcl HBX HTL
      generalize x.cells.toArray = S3
      intro HC HS H1 hcl HBX HTL
      go_upto_region 11 with (first
        | (refine wpList_load_agg rfl 34 _ rfl ⟨b, o + k * 9, none⟩ rfl S3 _ HC.out Tryz.underlying34 rfl HS.out ?_; go_simp)
        | (refine wpList_alloc_z rfl 34 rfl _ HZC.out ?_; go_simp)
        | (refine wpList_store_blk rfl 34 _ _ rfl wr.heap.size _ _ _ (heap_alloc_last wr _) rfl rfl HS.out (hcz.trans hcl.symm) H1.out ?_; intro w5 hg5 hw5 hs5; clear hs5; go_simp))
      obtain ⟨x0, x1, x2, x3, x4, x5, x6, x7, x8⟩ := HBX.out w5 wr.heap.size hg5.out
      have hba := (Below.refl _ wr).alloc (Nat.le_refl _) (.cells (⟨0, 0, zSl⟩ : Cl).cells.toArray 34)
      have hzr := HB.out.size
      have HB5 := Lib.hid ((HB.out.trans (hba.mono HB.out.size)).grown hw5.out (by simp; omega) (fun k e => by injection e with e; omega))
      have HX5 := Lib.hid hg5.out
      have HA5 := Lib.hid (HA.out.below (hba.grown hw5.out (by simp) (fun k e => by injection e with e; omega)))
      clear hba HC HB HA hw5 hg5
      have HXI5 := Lib.hid (HXI.out.below HB5.out)
      have HE5 := Lib.hid (HEW.out.below HB5.out)
      obtain ⟨th, hth⟩ : ∃ th : Bool, th = decide (0 ≤ x.num ∧ x.num < 4) := ⟨_, rfl⟩
      have HTH := Lib.hid hth
      clear hth
      go_cut [10] from 36 to 44 (fun t10 wx => t10 = .bool th ∧ wx = w5)
      case first =>
        by_cases h0 : 0 ≤ x.num
        · by_cases h4 : x.num < 4
          · have HDD := Lib.hid (HTH.out.trans (decide_eq_true ⟨h0, h4⟩))
            go_wp2_with fail
            go_meet
            exact ⟨by rw [HDD.out], rfl⟩
          · have HDD := Lib.hid (HTH.out.trans (decide_eq_false (fun h => h4 h.2)))
            go_wp2_with fail
            go_meet
            exact ⟨by rw [HDD.out], rfl⟩
        · have HDD := Lib.hid (HTH.out.trans (decide_eq_false (fun h => h0 h.1)))
          go_wp2_with fail
          go_meet
          exact ⟨by rw [HDD.out], rfl⟩
      case rest =>
        obtain ⟨rfl, rfl⟩ := hcut
        have HRG : Hid (∀ W : World, Below wc.heap.size wc W → W.rangeAt wr.heap.size 2 x.s.lk) := Lib.hid (fun W h j v hj => by
          have h2 := (h.block wr.heap.size (heap_ltk HX5.out)).trans HX5.out
          rw [cell_of_row W wr.heap.size (2 + j) _ _ _ h2, ← Array.getElem?_toList, HTL.out, Nat.add_comm 2 j]
          exact hj)
        have HSL := Lib.hid (sizeLl x.s)
        clear x0 x1 x2 x3 x4 x5 x6 x7 x8
        go_upto_region 12 with fail
        go_cut [50] from 44 to 51 (fun t50 wx => t50 = .bool false ∧ Below wc.heap.size wc wx)
        case first =>
          refine wp_region_held_drew (S := (fun W : World => Below wc.heap.size wc W)) (by kernel_rfl) (Below.refl _ wc).drew (fun hHeld => ?_)
          refine wpAnyH_take (i := 0) (oi := ({ dst := some 44, op := Go.Op.fieldAddr 34 (Go.Operand.tmp 9) 2, type := 0, pos := "law.go:108", after := #[], guard := none } : Oper)) (v := .pointer (some ⟨wr.heap.size, 2, none⟩)) rfl (by kernel_rfl) (by kernel_rfl) (by kernel_rfl) (fun _ _ _ h => h) (Or.inl ⟨by rfl, fun w' _ => ?_⟩) hHeld ?_
          · go_simp
          simp only [Act.put, List.setIfInBounds_toArray, List.set_cons_zero, List.set_cons_succ]
          refine wpAnyH_take (i := 1) (oi := ({ dst := some 45, op := Go.Op.load 31 (Go.Operand.tmp 44), type := 31, pos := "law.go:108", after := #[{ on := 0, ground := Go.Ground.data }], guard := none } : Oper)) (v := .agg (x.s.lk).toArray) rfl (by kernel_rfl) (by kernel_rfl) (by kernel_rfl) (fun _ _ _ h => h) (yieldsIf_load_mid (by rfl) _ _ rfl _ _ rfl _ _ (fun W h => HRG.out W h) Tryz.underlying31 rfl HSL.out) hHeld ?_
          simp only [Act.put, List.setIfInBounds_toArray, List.set_cons_zero, List.set_cons_succ]
          refine wpAnyH_take (i := 3) (oi := ({ dst := some 47, op := Go.Op.fieldAddr 34 (Go.Operand.tmp 9) 2, type := 0, pos := "law.go:108", after := #[], guard := none } : Oper)) (v := .pointer (some ⟨wr.heap.size, 2, none⟩)) rfl (by kernel_rfl) (by kernel_rfl) (by kernel_rfl) (fun _ _ _ h => h) (Or.inl ⟨by rfl, fun w' _ => ?_⟩) hHeld ?_
          · go_simp
          simp only [Act.put, List.setIfInBounds_toArray, List.set_cons_zero, List.set_cons_succ]
          refine wpAnyH_take (i := 4) (oi := ({ dst := some 48, op := Go.Op.load 31 (Go.Operand.tmp 47), type := 31, pos := "law.go:108", after := #[{ on := 3, ground := Go.Ground.data }], guard := none } : Oper)) (v := .agg (x.s.lk).toArray) rfl (by kernel_rfl) (by kernel_rfl) (by kernel_rfl) (fun _ _ _ h => h) (yieldsIf_load_mid (by rfl) _ _ rfl _ _ rfl _ _ (fun W h => HRG.out W h) Tryz.underlying31 rfl HSL.out) hHeld ?_
          simp only [Act.put, List.setIfInBounds_toArray, List.set_cons_zero, List.set_cons_succ]
          refine wpAnyH_ready (rs := [2]) (by kernel_rfl) (by simp) ?_
          refine AllReadyH.cons (o := ({ dst := some 46, op := Go.Op.call { callee := Go.Callee.value (Go.Operand.func 8), args := #[Go.Operand.tmp 45], argTypes := #[31] }, type := 4, pos := "law.go:108", after := #[{ on := 1, ground := Go.Ground.data }], guard := none } : Oper)) rfl (fun K hK => ?_) AllReadyH.nil
          go_simp
          go_at_call 8
          refine (right_q (HXI5.out.below hHeld) (HE5.out.below hHeld)).mono ?_
          rintro e' wc ⟨rfl, hbc⟩
          refine hK.out _ _ (Below.trans hHeld (Below.mono hbc (Below.size hHeld))) (fun hHeld' => ?_)
          clear hK K hbc
          try clear hHeld
          try simp only [Act.put, List.setIfInBounds_toArray, List.set_cons_zero, List.set_cons_succ]
          refine wpAnyH_ready (rs := [5]) (by kernel_rfl) (by simp) ?_
          refine AllReadyH.cons (o := ({ dst := some 49, op := Go.Op.call { callee := Go.Callee.value (Go.Operand.func 9), args := #[Go.Operand.tmp 48], argTypes := #[31] }, type := 4, pos := "law.go:108", after := #[{ on := 4, ground := Go.Ground.data }, { on := 2, ground := Go.Ground.chain }], guard := none } : Oper)) rfl (fun K hK => ?_) AllReadyH.nil
          go_simp
          go_at_call 9
          refine (lright_q (HXI5.out.below hHeld') (HE5.out.below hHeld')).mono ?_
          rintro e' wc ⟨rfl, hbc⟩
          refine hK.out _ _ (Below.trans hHeld' (Below.mono hbc (Below.size hHeld'))) (fun hHeld'' => ?_)
          clear hK K hbc
          try clear hHeld'
          try simp only [Act.put, List.setIfInBounds_toArray, List.set_cons_zero, List.set_cons_succ]
          refine wpAnyH_take (i := 6) (oi := ({ dst := some 50, op := Go.Op.binOp Go.BinOp.neq 4 (Go.Operand.tmp 46) (Go.Operand.tmp 49) 4, type := 4, pos := "law.go:108", after := #[{ on := 2, ground := Go.Ground.data }, { on := 5, ground := Go.Ground.data }], guard := none } : Oper)) (v := .bool false) rfl (by kernel_rfl) (by kernel_rfl) (by kernel_rfl) (fun _ _ _ h => h) (Or.inl ⟨by rfl, fun w' _ => ?_⟩) hHeld'' ?_
          · go_simp; try simp
          simp only [Act.put, List.setIfInBounds_toArray, List.set_cons_zero, List.set_cons_succ]
          refine wpAnyH_done (by kernel_rfl) ?_ _
          go_wp2_with fail
          go_meet
          exact ⟨rfl, hHeld''⟩
        case rest =>
          obtain ⟨rfl, hb6⟩ := hcut
          have HA6 := Lib.hid (HA5.out.below hb6)
          have HX6 := Lib.hid ((hb6.block wr.heap.size (heap_ltk HX5.out)).trans HX5.out)
          have HB6 := Lib.hid (HB5.out.trans (hb6.mono HB5.out.size))
          have hk9 := (HBX.out wc wr.heap.size HX6.out).1
          clear hb6 HA5 HX5 HB5 HXI5 HE5 HRG
          go_upto_if 56 with fail
          clear hk9
          go_cut [7, 11, 12] from 56 to 109 (fun t7 t11 t12 wx => ∃ (ms' ss' : List Sl) (last' : Nat), t7 = .int .i64 last' ∧ RunAt w2.heap.size W wx T w3.heap.size last' ms' ss' ∧ last' ≤ k + 1 ∧ Below W.heap.size W wx)
          case first =>
            obtain ⟨q0, q1, q2, q3, q4, q5, q6, q7, q8⟩ := HBX.out _ wr.heap.size HX6.out
            have hz6 := HB6.out.size
            cases th with
            | false =>
              have HOUT := Lib.hid (show ¬ (0 ≤ x.num ∧ x.num < 4) from of_decide_eq_false HTH.out.symm)
              go_wp2_with fail
              · refine Calls.mono (set_out T x.num x.s HOUT.out) ?_
                rintro e w7 ⟨rfl, hb7⟩
                have HA7 := Lib.hid (HA6.out.below hb7)
                have HB7 := Lib.hid (HB6.out.trans (hb7.mono hz6))
                clear hb7 q0 q1 q2 q3 q4 q5 q6 q7 q8
                go_wp2_with fail
                go_meet
                exact ⟨ms, ss, last, rfl, HA7.out, by omega, HB7.out⟩
              · refine Calls.mono (remove_no T x.num _ (lives_out T x.num _ HOUT.out)) ?_
                rintro e w7 ⟨rfl, rfl⟩
                go_wp2_with fail
                go_meet
                exact ⟨ms, ss, last, rfl, HA6.out, by omega, HB6.out⟩
            | true =>
              have HIN4 := Lib.hid (show 0 ≤ x.num ∧ x.num < 4 from of_decide_eq_true HTH.out.symm)
              obtain ⟨kk, hkk⟩ : ∃ kk : Nat, x.num = kk := ⟨x.num.toNat, by have := HIN4.out; omega⟩
              have hk4 : kk < 4 := by have := HIN4.out; omega
              rw [hkk] at q1
              have HKK := Lib.hid hkk
              clear hkk
              obtain ⟨mk, hmk⟩ : ∃ mk, ms[kk]? = some mk := ⟨_, List.getElem?_eq_getElem (by rw [HA6.out.four]; exact hk4)⟩
              obtain ⟨sk, hsk⟩ : ∃ sk, ss[kk]? = some sk := ⟨_, List.getElem?_eq_getElem (by rw [HA6.out.tab.four]; exact hk4)⟩
              have HLK := Lib.hid (HA6.out.like kk mk sk hmk hsk)
              have HSK := Lib.hid hsk
              have hcm : ∀ w : World, w.heap[w3.heap.size]? = some (.cells (ms.map Sl.lk).flatten.toArray 32 (0, 0)) → w.cell? ⟨w3.heap.size, kk * 7, none⟩ = some (.bool mk.live) := fun w h => by
                rw [cell_of_row w _ _ _ _ _ h, List.getElem?_toArray]
                exact flat_at (s := 7) (xs := ms.map Sl.lk) (fun y hy => by obtain ⟨r, _, rfl⟩ := List.mem_map.1 hy; rfl) (by rw [List.getElem?_map, hmk]; rfl) (j := 0) (by omega)
              have hcell := hcm _ HA6.out.mod
              clear hcm hmk hsk
              have HLR := Lib.hid (lright_q (HXI.out.below HB6.out) (HEW.out.below HB6.out))
              have HCM := Lib.hid hcell
              clear hcell
              go_upto_region 26 with fail
              · refine HLR.out.mono ?_
                rintro e w7 ⟨rfl, hb7⟩
                have HA7 := Lib.hid (HA6.out.below hb7)
                have HB7 := Lib.hid (HB6.out.trans (hb7.mono hz6))
                have HX7 := Lib.hid ((hb7.block wr.heap.size (heap_ltk HX6.out)).trans HX6.out)
                have hz7 := HB7.out.size
                have HE7 := Lib.hid (HEW.out.below HB7.out)
                have hXl := heap_ltk HX7.out
                have HRC : Hid (∀ (w : World) (X : Nat), w.heap[X]? = some (.cells S3 34 (0, 0)) → w.cell? ⟨X, 1, none⟩ = some (.int .i64 (kk : Nat))) := Lib.hid (fun w X h => by rw [← HKK.out]; exact (HBX.out w X h).2.1)
                clear hb7 HLR q0 q1 q2 q3 q4 q5 q6 q7 q8 HCM HSK
                obtain ⟨q0, q1, q2, q3, q4, q5, q6, q7, q8⟩ := HBX.out w7 wr.heap.size HX7.out
                clear q0 q1
                have q1 := HRC.out w7 wr.heap.size HX7.out
                cases hr : rightL x.s with
                | false =>
                  have HRB := Lib.hid hr
                  clear hr
                  go_wp2_with fail
                  refine Calls.mono (set_bad T kk hk4 (HXI.out.below HB7.out) HE7.out HRB.out) ?_
                  rintro e w8 ⟨rfl, hb8, _⟩
                  have HA8 := Lib.hid (HA7.out.below hb8)
                  have HB8 := Lib.hid (HB7.out.trans (hb8.mono hz7))
                  clear hb8 q1 q2 q3 q4 q5 q6 q7 q8
                  go_wp2_with fail
                  go_meet
                  exact ⟨ms, ss, last, rfl, HA8.out, by omega, HB8.out⟩
                | true =>
                  have HRG2 := Lib.hid hr
                  clear hr
                  obtain ⟨ma, mb, mc, md, a, b', c', d, rfl, rfl, _⟩ := HA7.out.abcd
                  have HSZ := Lib.hid (sizeLk x.s)
                  have HOZ := Lib.hid (oneLk x.s)
                  have HMOD := Lib.hid HA7.out.mod
                  have HFS := Lib.hid (flat_set (a := ma) (b := mb) (c := mc) (d := md) (s := x.s) hk4)
                  have HFX : Hid (kk * 7 + x.s.lk.toArray.size ≤ (([ma, mb, mc, md].map Sl.lk).flatten.toArray).size) := Lib.hid (by
                    have h1 : x.s.lk.toArray.size = 7 := rfl
                    have h2 : (([ma, mb, mc, md].map Sl.lk).flatten.toArray).size = 28 := rfl
                    rw [h1, h2]; omega)
                  have hMX : w3.heap.size ≠ wr.heap.size := fun e => by
                    have h1 := HX7.out
                    rw [← e] at h1
                    exact block_ne h1 HMOD.out (by decide) rfl
                  revert HMOD HFS HFX
                  generalize hF0 : (([ma, mb, mc, md].map Sl.lk).flatten.toArray) = F0
                  generalize hF1 : (((([ma, mb, mc, md] : List Sl).set kk x.s).map Sl.lk).flatten).toArray = F1
                  intro HMOD HFS HFX
                  have HF1 := Lib.hid hF1
                  clear hF0 hF1
                  go_upto_region 18 with (first
                    | (refine wpList_store_sub rfl 31 _ _ rfl w3.heap.size (kk * 7) F0 x.s.lk.toArray F1 _ HMOD.out rfl rfl HSZ.out HFX.out HOZ.out HFS.out ?_
                       intro w8 hg8 hw8 hs8
                       have hX8 := (hw8.out.block wr.heap.size hXl (fun e => by injection e with e; exact hMX e.symm)).trans HX7.out
                       have HX8 := Lib.hid hX8
                       obtain ⟨r0, r1, r2, r3, r4, r5, r6, r7, r8⟩ := HBX.out w8 wr.heap.size hX8
                       clear r0 r1
                       have r1 := HRC.out w8 wr.heap.size hX8
                       clear q1 q2 q3 q4 q5 q6 q7 q8 hX8; go_simp))
                  have hflat : ∀ (j : Nat) (v : Value), j < 7 → x.s.lk[j]? = some v → w8.cell? ⟨w3.heap.size, kk * 7 + j, none⟩ = some v := fun j v hj hv => by
                    rw [cell_of_row w8 _ _ _ _ _ hg8.out, ← HF1.out, List.getElem?_toArray]
                    rw [flat_at (s := 7) (k := kk) (c := x.s.lk) (xs := (([ma, mb, mc, md] : List Sl).set kk x.s).map Sl.lk) (fun y hy => by obtain ⟨r, _, rfl⟩ := List.mem_map.1 hy; rfl) (by rw [List.getElem?_map, List.getElem?_set_self (by simpa using hk4)]; rfl) hj]
                    exact hv
                  have g0 := hflat 0 _ (by omega) rfl
                  have g1 := hflat 1 _ (by omega) rfl
                  rw [Nat.add_zero] at g0
                  have f0 : w8.frozen? ⟨w3.heap.size, kk * 7, none⟩ = false := frozen_of_row w8 _ _ _ _ hg8.out
                  have f1 : w8.frozen? ⟨w3.heap.size, kk * 7 + 1, none⟩ = false := frozen_of_row w8 _ _ _ _ hg8.out
                  have HG8 := Lib.hid (gens_set (g := ((last + 1 : Nat) : Int)) hk4 (by rw [HF1.out]; exact hg8.out : w8.heap[w3.heap.size]? = some (.cells ((([ma, mb, mc, md] : List Sl).set kk x.s).map Sl.lk).flatten.toArray 32 (0, 0))))
                  clear hflat r2 r3 r4 r5 r6 r7 r8
                  go_region
                  have HM9 := Lib.hid HG8.out.1
                  have HW9 := Lib.hid (grown_trans hw8.out HG8.out.2)
                  clear HG8 r1 g0 g1 f0 f1 hg8 hw8 HX8
                  change Exit.inBlock 2 _ _ _ (((w8.setCell ⟨w3.heap.size, kk * 7, none⟩ (.bool true)).setCell ⟨w3.heap.size, kk * 7 + 1, none⟩ (.int .i64 ((last + 1 : Nat) : Int))).drew)
                  generalize ((w8.setCell ⟨w3.heap.size, kk * 7, none⟩ (.bool true)).setCell ⟨w3.heap.size, kk * 7 + 1, none⟩ (.int .i64 ((last + 1 : Nat) : Int))).drew = w9 at HM9 HW9 ⊢
                  have hT9 := (HA7.out.model HW9.out).1
                  have HB9 := Lib.hid (HB7.out.grown HW9.out hz7 (fun j e => by injection e with e; omega))
                  have hX9 := (HW9.out.block wr.heap.size hXl (fun e => by injection e with e; exact hMX e.symm)).trans HX7.out
                  have hset := set_good (k := kk) hT9 hk4 (HXI.out.below HB9.out) (HXI.out.far (T := T) (by omega)) (HEW.out.below HB9.out) (by omega) HRG2.out (by omega)
                  have hz9 := HW9.out.size
                  have hz97 := HB7.out.size
                  obtain ⟨q0, q1, q2, q3, q4, q5, q6, q7, q8⟩ := HBX.out w9 wr.heap.size hX9
                  rw [HKK.out] at q1
                  clear q0 hX9 hT9
                  go_wp2_with fail
                  refine Calls.mono hset ?_
                  rintro e w10 ⟨s', C, rfl, hT10, hg10, hE10, hl', hgen', hds', hdf', hll', hns', hss', hnl', hls', hca', hC', hC16, hown⟩
                  have HA10 := Lib.hid (HA7.out.put (m' := { x.s with live := true, gen := ((last + 1 : Nat) : Int) }) (s' := s') HW9.out HM9.out hT10 hg10 ⟨hl'.symm, hgen'.symm, hds'.symm, hdf'.symm, hns'.symm, hnl'.symm⟩ ⟨HXI.out.dom, HXI.out.srv, HXI.out.loc, HXI.out.sz, HXI.out.nd, HXI.out.nsl, HXI.out.nll⟩ (fun _ => HRG2.out) (fun h => by cases h) (fun _ => ⟨C, hca', by have := HA7.out.tab.hb; omega, hC16⟩))
                  have HB10 := Lib.hid (HB9.out.grown hg10 HB9.out.size (fun j e => by injection e with e; omega))
                  clear hset hT10 hg10 hE10 hl' hgen' hds' hdf' hll' hns' hss' hnl' hls' hca' hC' hC16 hown q1 q2 q3 q4 q5 q6 q7 q8
                  go_wp2_with fail
                  go_meet
                  exact ⟨_, _, last + 1, rfl, HA10.out, by omega, HB10.out⟩
              · cases hml : mk.live with
                | false =>
                  have hcell := HCM.out
                  rw [hml] at hcell
                  have HSL2 := Lib.hid (HLK.out.live.symm.trans hml)
                  clear hml HCM
                  go_wp2_with fail
                  refine Calls.mono (remove_no T kk _ (lives_in T kk false _ hk4 (by have := HA6.out.tab.slot HSK.out (j := 0) (v := .bool sk.live) rfl; rw [HSL2.out] at this; exact this))) ?_
                  rintro e w7 ⟨rfl, rfl⟩
                  go_wp2_with fail
                  go_meet
                  exact ⟨ms, ss, last, rfl, HA6.out, by omega, HB6.out⟩
                | true =>
                  have hcell := HCM.out
                  rw [hml] at hcell
                  have HSL2 := Lib.hid (HLK.out.live.symm.trans hml)
                  clear hml HCM
                  obtain ⟨ma, mb, mc, md, a, b', c', d, rfl, rfl, _⟩ := HA6.out.abcd
                  have HBL := Lib.hid builtLink
                  have HSZ := Lib.hid (sizeLk zSl)
                  have HOZ := Lib.hid (oneLk zSl)
                  have HMOD := Lib.hid HA6.out.mod
                  have HFS := Lib.hid (flat_set (a := ma) (b := mb) (c := mc) (d := md) (s := zSl) hk4)
                  have HFX : Hid (kk * 7 + zSl.lk.toArray.size ≤ (([ma, mb, mc, md].map Sl.lk).flatten.toArray).size) := Lib.hid (by
                    have h1 : zSl.lk.toArray.size = 7 := rfl
                    have h2 : (([ma, mb, mc, md].map Sl.lk).flatten.toArray).size = 28 := rfl
                    rw [h1, h2]; omega)
                  have hMX : w3.heap.size ≠ wr.heap.size := fun e => by
                    have h1 := HX6.out
                    rw [← e] at h1
                    exact block_ne h1 HMOD.out (by decide) rfl
                  revert HBL HSZ HOZ HMOD HFS HFX
                  generalize hF0 : (([ma, mb, mc, md].map Sl.lk).flatten.toArray) = F0
                  generalize hF1 : (((([ma, mb, mc, md] : List Sl).set kk zSl).map Sl.lk).flatten).toArray = F1
                  generalize hZ7 : zSl.lk.toArray = Z7
                  intro HBL HSZ HOZ HMOD HFS HFX
                  have HF1 := Lib.hid hF1
                  clear hF0 hF1 hZ7
                  go_wp2_with (first
                    | (refine wpList_build_z rfl 31 _ rfl Z7 HBL.out ?_; go_simp)
                    | (refine wpList_store_sub rfl 31 _ _ rfl w3.heap.size (kk * 7) F0 Z7 F1 _ HMOD.out rfl rfl HSZ.out HFX.out HOZ.out HFS.out ?_
                       intro w7 hg7 hw7 hs7
                       have hX7 := (hw7.out.block wr.heap.size (heap_ltk HX6.out) (fun e => by injection e with e; exact hMX e.symm)).trans HX6.out
                       have p1 := (HBX.out w7 wr.heap.size hX7).2.1
                       rw [HKK.out] at p1
                       clear hs7 hX7 q0 q1 q2 q3 q4 q5 q6 q7 q8; go_simp))
                  have HM7 := Lib.hid (HA6.out.model hw7.out)
                  have hM7 : w7.heap[w3.heap.size]? = some (.cells ((([ma, mb, mc, md] : List Sl).set kk zSl).map Sl.lk).flatten.toArray 32 (0, 0)) := by rw [HF1.out]; exact hg7.out
                  refine Calls.mono (remove_yes HM7.out.1 HSK.out HSL2.out) ?_
                  rintro e w8 ⟨rfl, hT8, hg8⟩
                  have HA8 := Lib.hid (HA6.out.put (m' := zSl) (s' := zSl) hw7.out hM7 hT8 hg8 Like.zero (InL.zero W) (fun h => by cases h) (fun _ => rfl) (fun h => by cases h))
                  have HB8 := Lib.hid ((HB6.out.grown hw7.out hz6 (fun j e => by injection e with e; omega)).grown hg8 (Nat.le_trans hz6 hw7.out.size) (fun j e => by injection e with e; omega))
                  clear hT8 hg8 hM7
                  go_wp2_with fail
                  go_meet
                  exact ⟨_, _, last, rfl, HA8.out, by omega, HB8.out⟩
          case rest =>
            obtain ⟨ms', ss', last', rfl, hA7, hl7, hb7⟩ := hcut
            have HA7 := Lib.hid hA7
            have HB7 := Lib.hid hb7
            clear hA7 hb7 HA6 HB6 HX6
            go_wp2
            go_loopw [13, 109] (fun t13 i wq => ∃ j : Nat, j ≤ 4 ∧ i = .int .i64 j ∧ t13 = .int .i64 (((ms'.take j).map Sl.nl).sum : Nat) ∧ RunAt w2.heap.size W wq T w3.heap.size last' ms' ss' ∧ Below W.heap.size W wq) (fun _ i _ => 4 - (intOf i).toNat)
            case atStart => exact ⟨0, Nat.zero_le _, rfl, rfl, HA7.out, HB7.out⟩
            case round =>
              obtain ⟨j, hj, rfl, rfl, hA, hb⟩ := hrel
              have HA := Lib.hid hA
              have HB := Lib.hid hb
              clear hA hb HA7 HB7
              by_cases hlt2 : j < 4
              · obtain ⟨mj, hmj⟩ : ∃ mj, ms'[j]? = some mj := ⟨_, List.getElem?_eq_getElem (by rw [HA.out.four]; exact hlt2)⟩
                have HNX := Lib.hid (nl_next hmj)
                have hmf := HA.out.few (List.mem_of_getElem? hmj)
                have hsum := HA.out.sum j
                obtain ⟨lv, hlv⟩ : ∃ lv : Bool, lv = mj.live := ⟨_, rfl⟩
                have hget := HA.out.get hmj
                rw [← hlv] at hget
                have HGET := Lib.hid hget
                have HLV := Lib.hid hlv
                clear hget hlv
                have HMJ := Lib.hid hmj
                have hTwr := HA.out.tab.lt
                clear hmj
                revert hsum HNX
                generalize ((ms'.take j).map Sl.nl).sum = SJ
                intro HNX hsum
                go_wp2_with fail
                refine HGET.out.mono ?_
                rintro e w5 ⟨gl, rfl, hg1, hg2, hb5⟩
                have HA5 := Lib.hid (HA.out.below hb5)
                have HB5 := Lib.hid (HB.out.trans (hb5.mono HB.out.size))
                have HS7 := Lib.hid (sizeLk gl)
                have H17 := Lib.hid (oneLk gl)
                have hgz : gl.lk.toArray.size = 7 := rfl
                have HGC : Hid (∀ (w : World) (X : Nat), w.heap[X]? = some (.cells gl.lk.toArray 31 (0, 0)) → w.cell? ⟨X, 1, none⟩ = some (.int .i64 mj.gen) ∧ w.cell? ⟨X, 5, none⟩ = some (.slice gl.sA mj.ns gl.sc)) := Lib.hid (fun w X h => by
                  have h7 := box7 h
                  rw [hg1, hg2] at h7
                  exact ⟨h7.2.1, h7.2.2.2.2.2.1⟩)
                clear hb5 HGET hg1 hg2 HA HB
                have hzz : zSl.lk.toArray.size = 7 := rfl
                have HZL2 := Lib.hid HZL.out
                revert HS7 H17 hgz HGC hzz HZL2
                generalize gl.lk.toArray = G7
                generalize gl.sA = gsA
                generalize gl.sc = gsc
                generalize zSl.lk.toArray = Z7
                intro HS7 H17 hgz HGC hzz HZL2
                go_upto_region 36 with (first
                  | (refine wpList_alloc_z rfl 31 rfl Z7 HZL2.out ?_; go_simp)
                  | (refine wpList_store_blk rfl 31 _ _ rfl w5.heap.size _ _ _ (heap_alloc_last w5 _) rfl rfl HS7.out (hzz.trans hgz.symm) H17.out ?_; intro w6 hg6 hw6 hs6; clear hs6; go_simp))
                have hba := (Below.refl _ w5).alloc (Nat.le_refl _) (.cells Z7 31)
                have hb6 : Below w5.heap.size w5 w6 := hba.grown hw6.out (by simp) (fun k e => by injection e with e; omega)
                have HA6 := Lib.hid (HA5.out.below hb6)
                have HB6 := Lib.hid (HB5.out.trans (hb6.mono HB5.out.size))
                obtain ⟨p1, p5⟩ := HGC.out w6 _ hg6.out
                have c0 := HA6.out.modc HMJ.out (i := 0) (by omega) rfl
                have c1 := HA6.out.modc HMJ.out (i := 1) (by omega) rfl
                have c5 := HA6.out.modc HMJ.out (i := 5) (by omega) rfl
                rw [Nat.add_zero, ← HLV.out] at c0
                have hx5 : w5.heap.size < w6.heap.size := heap_ltk hg6.out
                clear hba hb6 hw6 hg6 HA5 HB5 HGC HS7 H17
                go_cut [158] from 118 to 159 (fun t158 wx => t158 = .bool false ∧ ∃ q, wx = w6.drewN q)
                case first =>
                  cases lv with
                  | true =>
                    obtain ⟨C, hc1, hc2⟩ := HA6.out.cacheL HMJ.out HLV.out.symm
                    have HC1 := Lib.hid hc1
                    have HC2 := Lib.hid hc2
                    clear hc1 hc2
                    go_quiet (first
                      | (go_at_call 13; refine Calls.quiet_of_same (HC1.out _))
                      | (go_at_call 14; refine Calls.quiet_of_same (HC2.out _)))
                    go_wp2_with fail
                    go_meet
                    exact ⟨rfl, _, rfl⟩
                  | false =>
                    obtain ⟨hc1, hc2⟩ := HA6.out.cacheD HMJ.out HLV.out.symm
                    have HC1 := Lib.hid hc1
                    have HC2 := Lib.hid hc2
                    clear hc1 hc2
                    go_quiet (first
                      | (go_at_call 13; refine Calls.quiet_of_same (HC1.out _))
                      | (go_at_call 14; refine Calls.quiet_of_same (HC2.out _)))
                    go_wp2_with fail
                    go_meet
                    exact ⟨rfl, _, rfl⟩
                case rest =>
                  obtain ⟨rfl, q, rfl⟩ := hcut
                  have HA7 := Lib.hid (HA6.out.below (below_drewN (Below.refl _ _) q))
                  have HB7 := Lib.hid (below_drewN HB6.out q)
                  have c6 := HA7.out.modc HMJ.out (i := 6) (by omega) rfl
                  clear p1 p5 c0 c1 c5 HA6 HB6
                  generalize w6.drewN q = w7 at HA7 HB7 c6 ⊢
                  have hnl : (mj.nl : Int) ≤ 4 := by omega
                  have hsj : (SJ : Int) ≤ 16 := by omega
                  go_wp2_with fail
                  go_roundw
                  case rel => exact ⟨j + 1, by omega, by simp, by rw [HNX.out]; simp, HA7.out, HB7.out⟩
                  case measure => simp [intOf]; omega
              · obtain rfl : j = 4 := by omega
                obtain ⟨SN, hSN⟩ : ∃ SN, SN = ((ms'.take 4).map Sl.nl).sum := ⟨_, rfl⟩
                rw [← hSN]
                have HSN := Lib.hid hSN
                clear hSN
                go_upto_region 40 with fail
                go_cut [181] from 167 to 182 (fun t181 wx => t181 = .bool false ∧ RunAt w2.heap.size W wx T w3.heap.size last' ms' ss' ∧ Below W.heap.size W wx)
                case first => 
                  have HLOC : Hid (∀ w, Below wr.heap.size wr w → Calls Tryz.prog 15 #[.pointer (some ⟨T, 0, none⟩)] w fun e w' => ∃ A c, e = .returned (.slice A SN c) ∧ Below w.heap.size w w') := Lib.hid (fun w hb => by rw [HSN.out]; exact HA.out.locQ hb)
                  obtain ⟨ma, mb, mc, md, a, b', c', d, rfl, rfl, k1, k2, k3, k4⟩ := HA.out.abcd
                  have HFL : Hid (∀ w : World, Below wr.heap.size wr w → w.rangeAt w3.heap.size 0 (flat4 ma mb mc md)) := Lib.hid (fun w hb => flat_range ((hb.block w3.heap.size (heap_ltk HA.out.mod)).trans HA.out.mod))
                  have HFS := Lib.hid (sizeF ma mb mc md)
                  have hrl : (routeL [a, b', c', d] nm).length ≤ 1000 := by
                    have := route_len [a, b', c', d] nm; omega
                  have HLRT : Hid (∀ w, Below wr.heap.size wr w → Calls Tryz.prog 18 #[.agg (flat4 ma mb mc md).toArray, .string nm] w fun e w' => NumQ (routeL [a, b', c', d] nm) w e w') := Lib.hid (fun w hb => by
                    rw [← route_like nm k1 k2 k3 k4]
                    exact HA.out.lrouteQ hn3 (HEW.out.below (HB.out.trans (hb.mono HB.out.size))) (HB.out.trans (hb.mono HB.out.size)))
                  have HROU : Hid (∀ w, Below wr.heap.size wr w → Calls Tryz.prog 17 #[.pointer (some ⟨T, 0, none⟩), .string nm] w fun e w' => NumQ (routeL [a, b', c', d] nm) w e w') := Lib.hid (fun w hb =>
                    (route_e nm w (HA.out.below hb).tab hn3 (HEW.out.below (HB.out.trans (hb.mono HB.out.size)))).mono (fun e w' h => numQ h))
                  have HRL := Lib.hid hrl
                  have HA8 : Hid (∀ w, Below wr.heap.size wr w → RunAt w2.heap.size W w T w3.heap.size last' [ma, mb, mc, md] [a, b', c', d] ∧ Below W.heap.size W w) := Lib.hid (fun w hb => ⟨HA.out.below hb, HB.out.trans (hb.mono HB.out.size)⟩)
                  clear hrl k1 k2 k3 k4 HA HB HSN
                  revert HLOC HFL HFS HLRT HROU HRL
                  generalize (flat4 ma mb mc md) = FL
                  generalize routeL [a, b', c', d] nm = RL
                  intro HLOC HFL HFS HLRT HROU HRL
                  unfold NumQ at HLRT HROU
                  refine wp_region_held_drew (S := (fun W : World => Below wr.heap.size wr W)) (by kernel_rfl) (Below.refl _ wr).drew (fun hHeld => ?_)
                  refine wpAnyH_take (i := 0) (oi := ({ dst := some 167, op := Go.Op.move (Go.Operand.tmp 5), type := 25, pos := "law.go:145", after := #[], guard := none } : Oper)) (v := .pointer (some ⟨T, 0, none⟩)) rfl (by kernel_rfl) (by kernel_rfl) (by kernel_rfl) (fun _ _ _ h => h) (Or.inl ⟨by rfl, fun w' _ => ?_⟩) hHeld ?_
                  · go_simp
                  simp only [Act.put, List.setIfInBounds_toArray, List.set_cons_zero, List.set_cons_succ]
                  refine wpAnyH_take (i := 3) (oi := ({ dst := some 170, op := Go.Op.move (Go.Operand.tmp 13), type := 3, pos := "law.go:145", after := #[], guard := none } : Oper)) (v := .int .i64 (SN : Nat)) rfl (by kernel_rfl) (by kernel_rfl) (by kernel_rfl) (fun _ _ _ h => h) (Or.inl ⟨by rfl, fun w' _ => ?_⟩) hHeld ?_
                  · go_simp
                  simp only [Act.put, List.setIfInBounds_toArray, List.set_cons_zero, List.set_cons_succ]
                  refine wpAnyH_ready (rs := [1]) (by kernel_rfl) (by simp) ?_
                  refine AllReadyH.cons (o := ({ dst := some 168, op := Go.Op.call { callee := Go.Callee.value (Go.Operand.func 15), args := #[Go.Operand.tmp 167], argTypes := #[25] }, type := 29, pos := "law.go:145", after := #[{ on := 0, ground := Go.Ground.data }], guard := none } : Oper)) rfl (fun K hK => ?_) AllReadyH.nil
                  go_simp
                  go_at_call 15
                  refine (HLOC.out _ hHeld).mono ?_
                  rintro e' wA ⟨lA, lc, rfl, hbc⟩
                  refine hK.out _ _ (Below.trans hHeld (Below.mono hbc (Below.size hHeld))) (fun hH1 => ?_)
                  clear hK K hbc hHeld
                  try simp only [Act.put, List.setIfInBounds_toArray, List.set_cons_zero, List.set_cons_succ]
                  refine wpAnyH_take (i := 2) (oi := ({ dst := some 169, op := Go.Op.call { callee := Go.Callee.builtin Go.Builtin.len, args := #[Go.Operand.tmp 168], argTypes := #[29] }, type := 3, pos := "law.go:145", after := #[{ on := 1, ground := Go.Ground.data }], guard := none } : Oper)) (v := .int .i64 (SN : Nat)) rfl (by kernel_rfl) (by kernel_rfl) (by kernel_rfl) (fun _ _ _ h => h) (Or.inl ⟨by rfl, fun w' _ => ?_⟩) hH1 ?_
                  · go_simp
                  simp only [Act.put, List.setIfInBounds_toArray, List.set_cons_zero, List.set_cons_succ]
                  refine wpAnyH_take (i := 4) (oi := ({ dst := some 171, op := Go.Op.binOp Go.BinOp.neq 3 (Go.Operand.tmp 169) (Go.Operand.tmp 170) 3, type := 4, pos := "law.go:145", after := #[{ on := 2, ground := Go.Ground.data }, { on := 3, ground := Go.Ground.data }], guard := none } : Oper)) (v := .bool false) rfl (by kernel_rfl) (by kernel_rfl) (by kernel_rfl) (fun _ _ _ h => h) (Or.inl ⟨by rfl, fun w' _ => ?_⟩) hH1 ?_
                  · go_simp; try simp
                  simp only [Act.put, List.setIfInBounds_toArray, List.set_cons_zero, List.set_cons_succ]
                  refine wpAnyH_take (i := 5) (oi := ({ dst := some 172, op := Go.Op.move (Go.Operand.tmp 171), type := 4, pos := "law.go:145", after := #[{ on := 4, ground := Go.Ground.data }, { on := 1, ground := Go.Ground.chain }], guard := none } : Oper)) (v := .bool false) rfl (by kernel_rfl) (by kernel_rfl) (by kernel_rfl) (fun _ _ _ h => h) (Or.inl ⟨by rfl, fun w' _ => ?_⟩) hH1 ?_
                  · go_simp
                  simp only [Act.put, List.setIfInBounds_toArray, List.set_cons_zero, List.set_cons_succ]
                  refine wpAnyH_take (i := 6) (oi := ({ dst := some 173, op := Go.Op.move (Go.Operand.tmp 5), type := 25, pos := "law.go:145", after := #[{ on := 5, ground := Go.Ground.guard }], guard := some (5, false) } : Oper)) (v := .pointer (some ⟨T, 0, none⟩)) rfl (by kernel_rfl) (by kernel_rfl) (by kernel_rfl) (fun _ _ _ h => h) (Or.inl ⟨by kernel_rfl, fun w' _ => ?_⟩) hH1 ?_
                  · go_simp
                  simp only [Act.put, List.setIfInBounds_toArray, List.set_cons_zero, List.set_cons_succ]
                  refine wpAnyH_take (i := 7) (oi := ({ dst := some 174, op := Go.Op.move (Go.Operand.tmp 1), type := 9, pos := "law.go:145", after := #[{ on := 5, ground := Go.Ground.guard }], guard := some (5, false) } : Oper)) (v := .string nm) rfl (by kernel_rfl) (by kernel_rfl) (by kernel_rfl) (fun _ _ _ h => h) (Or.inl ⟨by kernel_rfl, fun w' _ => ?_⟩) hH1 ?_
                  · go_simp
                  simp only [Act.put, List.setIfInBounds_toArray, List.set_cons_zero, List.set_cons_succ]
                  refine wpAnyH_take (i := 9) (oi := ({ dst := some 176, op := Go.Op.load 32 (Go.Operand.tmp 6), type := 32, pos := "law.go:145", after := #[{ on := 5, ground := Go.Ground.guard }], guard := some (5, false) } : Oper)) (v := .agg (FL).toArray) rfl (by kernel_rfl) (by kernel_rfl) (by kernel_rfl) (fun _ _ _ h => h) (yieldsIf_load_mid (by kernel_rfl) _ _ rfl _ _ rfl _ _ (fun W h => HFL.out W h) Tryz.underlying32 rfl HFS.out) hH1 ?_
                  simp only [Act.put, List.setIfInBounds_toArray, List.set_cons_zero, List.set_cons_succ]
                  refine wpAnyH_take (i := 10) (oi := ({ dst := some 177, op := Go.Op.move (Go.Operand.tmp 1), type := 9, pos := "law.go:145", after := #[{ on := 5, ground := Go.Ground.guard }], guard := some (5, false) } : Oper)) (v := .string nm) rfl (by kernel_rfl) (by kernel_rfl) (by kernel_rfl) (fun _ _ _ h => h) (Or.inl ⟨by kernel_rfl, fun w' _ => ?_⟩) hH1 ?_
                  · go_simp
                  simp only [Act.put, List.setIfInBounds_toArray, List.set_cons_zero, List.set_cons_succ]
                  refine wpAnyH_ready (rs := [8]) (by kernel_rfl) (by simp) ?_
                  refine AllReadyH.cons (o := ({ dst := some 175, op := Go.Op.call { callee := Go.Callee.value (Go.Operand.func 17), args := #[Go.Operand.tmp 173, Go.Operand.tmp 174], argTypes := #[25, 9] }, type := 46, pos := "law.go:145", after := #[{ on := 6, ground := Go.Ground.data }, { on := 7, ground := Go.Ground.data }, { on := 5, ground := Go.Ground.chain }, { on := 5, ground := Go.Ground.guard }], guard := some (5, false) } : Oper)) rfl (fun K hK => ?_) AllReadyH.nil
                  rw [if_pos (by kernel_rfl)]
                  go_simp
                  go_at_call 17
                  refine (HROU.out _ hH1).mono ?_
                  rintro e' wB ⟨rA, rc, rfl, hr1, hbc⟩
                  refine hK.out _ _ (Below.trans hH1 (Below.mono hbc (Below.size hH1))) (fun hH2 => ?_)
                  have HR1 := Lib.hid hr1
                  clear hr1
                  clear hK K hbc hH1
                  try simp only [Act.put, List.setIfInBounds_toArray, List.set_cons_zero, List.set_cons_succ]
                  refine wpAnyH_ready (rs := [11]) (by kernel_rfl) (by simp) ?_
                  refine AllReadyH.cons (o := ({ dst := some 178, op := Go.Op.call { callee := Go.Callee.value (Go.Operand.func 18), args := #[Go.Operand.tmp 176, Go.Operand.tmp 177], argTypes := #[32, 9] }, type := 46, pos := "law.go:145", after := #[{ on := 9, ground := Go.Ground.data }, { on := 10, ground := Go.Ground.data }, { on := 8, ground := Go.Ground.chain }, { on := 5, ground := Go.Ground.guard }], guard := some (5, false) } : Oper)) rfl (fun K hK => ?_) AllReadyH.nil
                  rw [if_pos (by kernel_rfl)]
                  go_simp
                  go_at_call 18
                  refine (HLRT.out _ hH2).mono ?_
                  rintro e' wC ⟨tA, tc, rfl, hr2, hbc⟩
                  refine hK.out _ _ (Below.trans hH2 (Below.mono hbc (Below.size hH2))) (fun hH3 => ?_)
                  have HR2 := Lib.hid hr2
                  have HR1b := Lib.hid (HR1.out.below hbc)
                  clear hr2
                  clear hK K hbc hH2
                  try simp only [Act.put, List.setIfInBounds_toArray, List.set_cons_zero, List.set_cons_succ]
                  refine wpAnyH_ready (rs := [12]) (by kernel_rfl) (by simp) ?_
                  refine AllReadyH.cons (o := ({ dst := some 179, op := Go.Op.call { callee := Go.Callee.value (Go.Operand.func 16), args := #[Go.Operand.tmp 175, Go.Operand.tmp 178], argTypes := #[46, 46] }, type := 4, pos := "law.go:145", after := #[{ on := 8, ground := Go.Ground.data }, { on := 11, ground := Go.Ground.data }, { on := 11, ground := Go.Ground.chain }, { on := 5, ground := Go.Ground.guard }], guard := some (5, false) } : Oper)) rfl (fun K hK => ?_) AllReadyH.nil
                  rw [if_pos (by kernel_rfl)]
                  go_simp
                  go_at_call 16
                  refine (eqn_e HR1b.out HR2.out HRL.out).mono ?_
                  rintro e' wD ⟨rfl, hbc⟩
                  refine hK.out _ _ (Below.trans hH3 (Below.mono hbc (Below.size hH3))) (fun hH4 => ?_)
                  clear hK K hbc hH3
                  try simp only [Act.put, List.setIfInBounds_toArray, List.set_cons_zero, List.set_cons_succ]
                  refine wpAnyH_take (i := 13) (oi := ({ dst := some 180, op := Go.Op.unOp Go.UnOp.not 4 (Go.Operand.tmp 179), type := 4, pos := "law.go:145", after := #[{ on := 12, ground := Go.Ground.data }, { on := 5, ground := Go.Ground.guard }], guard := some (5, false) } : Oper)) (v := .bool false) rfl (by kernel_rfl) (by kernel_rfl) (by kernel_rfl) (fun _ _ _ h => h) (Or.inl ⟨by kernel_rfl, fun w' _ => ?_⟩) hH4 ?_
                  · go_simp
                  simp only [Act.put, List.setIfInBounds_toArray, List.set_cons_zero, List.set_cons_succ]
                  refine wpAnyH_take (i := 14) (oi := ({ dst := some 181, op := Go.Op.pick (Go.Operand.tmp 172) (Go.Operand.const (Go.Value.bool true)) (Go.Operand.tmp 180), type := 4, pos := "law.go:145", after := #[{ on := 5, ground := Go.Ground.data }, { on := 13, ground := Go.Ground.data }], guard := none } : Oper)) (v := .bool false) rfl (by kernel_rfl) (by kernel_rfl) (by kernel_rfl) (fun _ _ _ h => h) (Or.inl ⟨by rfl, fun w' _ => ?_⟩) hH4 ?_
                  · go_simp; try simp
                  simp only [Act.put, List.setIfInBounds_toArray, List.set_cons_zero, List.set_cons_succ]
                  refine wpAnyH_done (by kernel_rfl) ?_ _
                  have HF8 := Lib.hid (HA8.out _ hH4)
                  go_wp2_with fail
                  go_meet
                  exact ⟨rfl, HF8.out.1, HF8.out.2⟩
                case rest =>
                  obtain ⟨rfl, hA, hb⟩ := hcut
                  have HA := Lib.hid hA
                  have HB := Lib.hid hb
                  clear hA hb
                  go_wp2
                  go_roundw
                  case rel => exact ⟨k + 1, ms', ss', last', by omega, by simp, rfl, HA.out, by omega, HB.out⟩
                  case measure => simp [intOf]; omega
    · obtain rfl : k = m := by omega
      have HA := Lib.hid hA
      have HB := Lib.hid hb
      clear hA hb HRA HB4
      go_wp2_with fail
      refine (get_out T (-1) wr (by omega)).mono ?_
      rintro e w5 ⟨rfl, hb⟩
      have HB5 := Lib.hid (HB.out.trans (hb.mono HB.out.size))
      have hz5 := HB5.out.size
      clear hb HB HA
      have hzl : zSl.lk.toArray.size = 7 := rfl
      have HS := Lib.hid (sizeLk zSl)
      have H1 := Lib.hid (oneLk zSl)
      revert HS H1 hzl HZL
      generalize zSl.lk.toArray = S3
      intro HZL hzl HS H1
      go_wp2_with (first
        | (refine wpList_alloc_z rfl 31 rfl S3 HZL.out ?_; go_simp)
        | (refine wpList_store_blk rfl 31 _ _ rfl w5.heap.size _ _ _ (heap_alloc_last w5 _) rfl rfl HS.out rfl H1.out ?_; intro w6 hg6 hw6 hs6; clear hs6 hg6; go_simp))
      have HB6 := Lib.hid ((HB5.out.alloc hz5 (.cells S3 31)).grown hw6.out (by simp; omega) (fun j e => by injection e with e; omega))
      refine (cache_out T 9 w6 (by omega)).mono ?_
      rintro e w7 ⟨rfl, rfl⟩
      go_wp2_with fail
      go_ret
      exact ⟨rfl, HB6.out⟩
end Go.Proofs.YtgopjgbcnjkblaaGreatDoor
