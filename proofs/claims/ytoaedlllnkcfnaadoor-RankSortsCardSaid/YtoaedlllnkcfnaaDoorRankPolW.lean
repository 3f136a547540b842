/-
  The walks of rank.Policy and rank.Scope. Condition: the two tables hold what their initialisers lay.
-/
import Derived.Test.YtoaedlllnkcfnaaDoorRankPol
import Derived.Deep.LoopGhost
namespace Go.Proofs.YtoaedlllnkcfnaaDoor
open Go.RowKit

theorem and_u8 (x y : Nat) (hx : x < 256) (hy : y < 256) : bits .and .u8 (x : Int) (y : Int) = ((x &&& y : Nat) : Int) ∧ x &&& y < 256 := by
  have h := Nat.and_le_right (n := x) (m := y)
  have h1 : (BitVec.ofInt 8 (x : Int)).toNat = x := by
    rw [BitVec.ofInt_natCast, BitVec.toNat_ofNat]; exact Nat.mod_eq_of_lt (by omega)
  have h2 : (BitVec.ofInt 8 (y : Int)).toNat = y := by
    rw [BitVec.ofInt_natCast, BitVec.toNat_ofNat]; exact Nat.mod_eq_of_lt (by omega)
  refine ⟨?_, by omega⟩
  show IntKind.u8.wrap ((BitVec.ofInt 8 (x : Int) &&& BitVec.ofInt 8 (y : Int)).toNat : Int) = _
  rw [BitVec.toNat_and, h1, h2, IntKind.wrap_u8]
  omega
theorem heap_alloc_old' (w : World) (o : Obj) {k : Nat} (h : k < w.heap.size) : (w.alloc o).heap[k]? = w.heap[k]? := ((Below.refl w.heap.size w).alloc (Nat.le_refl _) o).block k h
set_option maxRecDepth 100000 in
set_option maxHeartbeats 2000000 in
theorem policy_e (a : List UInt8) (ha : a.length = 16) (w : World) (he : REnv w) :
    Calls Tryd.prog 12 #[.agg (bvs a).toArray] w fun e w' => e = .returned (.tuple #[.int .i64 (bestP a 9).prec, .int .i64 (bestP a 9).lab]) ∧ Below w.heap.size w w' := by
  have CH := fun (k : Nat) W => has_e (pRow k).addr (pRow_len k) (pRow k).bits a ha W
  have hS1 := sizeBv ha
  have PI := pIndex
  have PS := fun k => pSize (pRow_len k)
  have LS := fun k => pSize (bestP_len a k)
  have BS := fun k => bSize (pRow_len k) (pRow k).bits
  have PO := fun k => PRow.one (pRow k)
  have PH := fun k => PRow.has (pRow_len k)
  have LH := fun k => PRow.has (bestP_len a k)
  have ZP := pZeroAt
  have ZZ : pZero.cells.toArray.size = 19 := by kernel_rfl
  have hpol := he.pol
  have hps := polSize
  have ZB : pZero.cells.toArray = (bestP a 0).cells.toArray := rfl
  have HN : ∀ k, bestP a (k + 1) = if (pRow k).bits ≤ sh a (pRow k).addr ∧ (bestP a k).bits ≤ (pRow k).bits then pRow k else bestP a k := fun k => rfl
  generalize bestP a = B at *
  generalize polT.toArray = T at *
  generalize pZero.cells.toArray = Z at *
  obtain ⟨c1, hc1⟩ : ∃ c, c = (bvs a).toArray := ⟨_, rfl⟩
  rw [← hc1] at hS1
  simp only [← hc1] at CH ⊢
  have g1 := heap_alloc_last w (.cells c1 27)
  have HG1 := Lib.hid g1
  have HZB := Lib.hid ZB
  have HCH := Lib.hid CH
  have HPS := Lib.hid PS
  have HLS := Lib.hid LS
  have HBS := Lib.hid BS
  have HPO := Lib.hid PO
  have HPH := Lib.hid PH
  have HLH := Lib.hid LH
  have HPI := Lib.hid PI
  have HZP := Lib.hid ZP
  have HZZ := Lib.hid ZZ
  have HPol := Lib.hid (fun W (hb : Below w.heap.size w W) j v (hj : T.toList[j]? = some v) => (hb.cell (cell_lt (hpol j v hj))).trans (hpol j v hj))
  have HPs := Lib.hid hps
  have HS1 := Lib.hid hS1
  have HNN := Lib.hid HN
  clear CH PS LS BS PO PH LH PI ZP ZZ hpol hps ZB HN hc1 g1 he hS1 ha
  go_enter Tryd.func12, Tryd.ntmps12
  have hb0 : Below w.heap.size w ((w.alloc (.cells c1 27)).alloc (.cells Z 56)) := ((Below.refl _ w).alloc (Nat.le_refl _) _).alloc (by rw [World.size_alloc]; omega) _
  go_wp2_with (first
    | (refine wpList_alloc_z rfl 56 rfl Z HZP.out ?_; go_simp)
    | (refine wpList_load_agg rfl 57 (.global 0) rfl ⟨0, 0, none⟩ rfl T _ (HPol.out _ hb0) Tryd.underlying57 rfl HPs.out ?_; go_simp))
  go_loopg [8] 9 (fun gk i wr => ∃ k : Nat, i = .int .i64 k ∧ k + gk = 9 ∧ Hid (Below w.heap.size w wr) ∧ Hid (wr.heap[w.heap.size]? = some (.cells c1 27 (0, 0))) ∧ Hid (wr.heap[w.heap.size + 1]? = some (.cells (B k).cells.toArray 56 (0, 0))))
  case atStart =>
    refine ⟨0, rfl, by simp, Lib.hid hb0, Lib.hid ?_, Lib.hid ?_⟩
    · exact heap_alloc2_old _ _ _
    · rw [← HZB.out]; exact heap_alloc2_new _ _ _
  case round =>
    obtain ⟨k, rfl, hk, HB, H1, H4⟩ := hrel
    by_cases hlt : k < 9
    · obtain ⟨g, rfl⟩ : ∃ g, gk = g + 1 := ⟨gk - 1, by omega⟩
      have hkI : (k : Int) < 9 := by omega
      have hpi := fun W => HPI.out k hlt W
      have hps := HPS.out k
      have hpo := HPO.out k
      have hbs := HBS.out k
      have hch := fun W => HCH.out k W
      obtain ⟨ph1, ph2, ph3, ph4⟩ := HPH.out k
      obtain ⟨lh1, lh2, lh3, lh4⟩ := HLH.out k
      have hls := HLS.out k
      have hnn := HNN.out k
      have hzp : Z.size = (pRow k).cells.toArray.size := by
        rw [HZZ.out, List.size_toArray, PRow.size (pRow_len k)]
      have hlp : (B k).cells.toArray.size = (pRow k).cells.toArray.size := by
        have h1 := HLS.out k
        rw [HPS.out k] at h1
        exact (Option.some.inj h1).symm
      have hpc := part_at (heap_alloc_last wr (.cells (pRow k).cells.toArray 56)) 0 (bvs (pRow k).addr ++ [Value.int .i64 (pRow k).bits]) ph1
      have hw1 : (wr.alloc (.cells (pRow k).cells.toArray 56)).heap[w.heap.size]? = some (.cells c1 27 (0, 0)) := by
        rw [heap_alloc_old' wr _ (heap_lt H1.out)]; exact H1.out
      have hw4 : (wr.alloc (.cells (pRow k).cells.toArray 56)).heap[w.heap.size + 1]? = some (.cells (B k).cells.toArray 56 (0, 0)) := by
        rw [heap_alloc_old' wr _ (heap_lt H4.out)]; exact H4.out
      have hw6 := heap_alloc_last wr (.cells (pRow k).cells.toArray 56)
      have hbW : Below w.heap.size w (wr.alloc (.cells (pRow k).cells.toArray 56)) := HB.out.alloc HB.out.size _
      have hsW : (wr.alloc (.cells (pRow k).cells.toArray 56)).heap.size = wr.heap.size + 1 := World.size_alloc _ _
      have hlt4 := heap_lt H4.out
      have hlt1 := heap_lt H1.out
      generalize hpcE : (pRow k).cells.toArray = pc at *
      generalize hlcE : (B k).cells.toArray = lc at *
      have HPC2 := Lib.hid hpcE
      have HLC := Lib.hid hlcE
      clear hpcE hlcE
      generalize hxc : (bvs (pRow k).addr ++ [Value.int .i64 (pRow k).bits]).toArray = xc at *
      clear hxc ph1 ph3 ph4 lh1 lh3 lh4
      generalize hns : (pRow k).bits = n at *
      generalize hss : sh a (pRow k).addr = s at *
      generalize hls' : (B k).bits = l at *
      have HW1 := Lib.hid hw1
      have HW4 := Lib.hid hw4
      have HW6 := Lib.hid hw6
      have HSW := Lib.hid hsW
      have HBW := Lib.hid hbW
      have HPC := Lib.hid hpc
      have HPS' := Lib.hid hps
      have HPO' := Lib.hid hpo
      have HBS' := Lib.hid hbs
      have HPI' := Lib.hid hpi
      have HNS := Lib.hid hns
      have HLS' := Lib.hid hls
      have HCK := Lib.hid hch
      have HLP := Lib.hid hlp
      have HZP' := Lib.hid hzp
      have HNK := Lib.hid hnn
      have HP2 := Lib.hid ph2
      have HL2 := Lib.hid lh2
      have HLT := Lib.hid (And.intro hlt1 hlt4)
      clear hw1 hw4 hw6 hsW hbW hpc hps hpo hbs hpi hns hls hch hlp hzp hnn ph2 lh2 hlt1 hlt4 hss hls'
      go_wp2_with (first
        | (refine wpList_index rfl 57 (.tmp 7) (.tmp 8) rfl (.agg pc) (HPI'.out _) ?_; go_simp)
        | (refine wpList_alloc_z rfl 56 rfl Z HZP.out ?_; go_simp)
        | (refine wpList_store_new rfl 56 (.tmp 6) (.tmp 10) rfl wr.heap.size rfl Z pc 56 rfl rfl HPS'.out HZP'.out HPO'.out ?_; go_simp)
        | (refine wpList_load_agg rfl 54 (.tmp 11) rfl ⟨wr.heap.size, 0, none⟩ rfl xc _ HPC.out Tryd.underlying54 rfl HBS'.out ?_; go_simp)
        | (refine wpList_load_row rfl 27 (.tmp 1) rfl w.heap.size rfl 27 c1 (0, 0) _ HW1.out Tryd.underlying27 rfl HS1.out ?_; go_simp))
      refine (HCK.out _).mono ?_
      rintro e w2 ⟨rfl, hb2⟩
      have hsz := HSW.out
      obtain ⟨hlt1, hlt4⟩ := HLT.out
      have x1 := (hb2.block w.heap.size (by omega)).trans HW1.out
      have x4 := (hb2.block (w.heap.size + 1) (by omega)).trans HW4.out
      have x6 := (hb2.block wr.heap.size (by omega)).trans HW6.out
      have xb := HBW.out.trans (hb2.mono HBW.out.size)
      have hzx : w2.heap.size ≥ w.heap.size + 2 := by have := hb2.size; omega
      have d6 : w2.cell? ⟨wr.heap.size, 16, none⟩ = some (.int .i64 n) := by rw [cell_of_row _ _ _ _ _ _ x6]; exact HP2.out
      have d4 : w2.cell? ⟨w.heap.size + 1, 16, none⟩ = some (.int .i64 l) := by rw [cell_of_row _ _ _ _ _ _ x4]; exact HL2.out
      have X1 := Lib.hid x1
      have X4 := Lib.hid x4
      have X6 := Lib.hid x6
      have XB := Lib.hid xb
      have hk9 : k + (g + 1) = 9 := hk
      clear hb2 x1 x4 x6 xb hsz HB H1 H4 HW1 HW4 HW6 HBW HSW
      generalize hwg : wr.heap.size = G at *
      have hGne : Hid (w.heap.size + 1 < G) := Lib.hid (by omega)
      clear hwg HPC HLT hlt1 hlt4
      by_cases h1 : n ≤ s
      · rw [decide_eq_true h1]
        by_cases h2 : l ≤ n
        · have hI : (l : Int) ≤ (n : Int) := by omega
          have HNE := Lib.hid (show B (k + 1) = pRow k by rw [HNK.out, if_pos ⟨h1, h2⟩])
          clear h1 h2
          go_wp2_with (first
            | (refine wpList_load_row rfl 56 (.tmp 6) rfl G rfl 56 pc (0, 0) _ X6.out Tryd.underlying56 rfl HPS'.out ?_; go_simp)
            | (refine wpList_store_blk rfl 56 (.tmp 4) (.tmp 24) rfl (w.heap.size + 1) lc pc 56 X4.out rfl rfl HPS'.out HLP.out HPO'.out ?_; intro w5 h5 hg5 hz5; go_simp))
          go_roundg g
          case measure => omega
          case rel =>
            refine ⟨k + 1, by go_num, by omega, Lib.hid (XB.out.grown hg5.out (by omega) (fun j hj => by cases hj; omega)), Lib.hid ?_, Lib.hid ?_⟩
            · exact (hg5.out.block _ (by omega) (by simp)).trans X1.out
            · rw [HNE.out, HPC2.out]; exact h5.out
        · have hI : ¬ (l : Int) ≤ (n : Int) := by omega
          have HNE := Lib.hid (show B (k + 1) = B k by rw [HNK.out, if_neg (fun h => h2 h.2)])
          clear h1 h2
          go_wp2_with fail
          go_roundg g
          case measure => omega
          case rel => exact ⟨k + 1, by go_num, by omega, XB, X1, Lib.hid (by rw [HNE.out, HLC.out]; exact X4.out)⟩
      · rw [decide_eq_false h1]
        have HNE := Lib.hid (show B (k + 1) = B k by rw [HNK.out, if_neg (fun h => h1 h.1)])
        clear h1
        go_wp2_with fail
        go_roundg g
        case measure => omega
        case rel => exact ⟨k + 1, by go_num, by omega, XB, X1, Lib.hid (by rw [HNE.out, HLC.out]; exact X4.out)⟩
    · obtain rfl : k = 9 := by omega
      obtain ⟨_, _, lh3, lh4⟩ := HLH.out 9
      have d1 : wr.cell? ⟨w.heap.size + 1, 17, none⟩ = some (.int .i64 (B 9).prec) := by rw [cell_of_row _ _ _ _ _ _ H4.out]; exact lh3
      have d2 : wr.cell? ⟨w.heap.size + 1, 18, none⟩ = some (.int .i64 (B 9).lab) := by rw [cell_of_row _ _ _ _ _ _ H4.out]; exact lh4
      generalize hx : (B 9).prec = x at *
      generalize hy : (B 9).lab = y at *
      have HX := Lib.hid hx
      have HY := Lib.hid hy
      clear hx hy
      clear lh3 lh4
      go_wp2_with fail
      go_quiet (fail)
      go_wp2
      refine bodyPost_ret (results_tmp2 rfl _ _ _) rfl ⟨?_, HB.out.trans (Joins.below_draws _ _ _)⟩
      rw [HX.out, HY.out]; rfl

set_option maxRecDepth 100000 in
set_option maxHeartbeats 2000000 in
theorem scope_e (a : List UInt8) (ha : a.length = 16) (w : World) (he : REnv w) :
    Calls Tryd.prog 14 #[.agg (bvs a).toArray] w fun e w' => e = .returned (.int .i64 (scopeR a)) ∧ Below w.heap.size w w' := by
  have CH := fun (k : Nat) W => has_e (sRow k).addr (sRow_len k) (sRow k).bits a ha W
  have hS1 := sizeBv ha
  have PI := sIndex
  have PS := fun k => sSize (sRow_len k)
  have BS := fun k => bSize (sRow_len k) (sRow k).bits
  have PO := fun k => SRow.one (sRow k)
  have PH := fun k => SRow.has (sRow_len k)
  have ZP := sZeroAt
  have ZZ : (SRow.cells ⟨zero16, 0, 0⟩).toArray.size = 18 := by kernel_rfl
  have hpol := he.reg
  have hps := regSize
  have a0 : (bvs a).toArray[0]? = some (.int .u8 (a.getD 0 0).toNat) := by rw [List.getElem?_toArray]; exact bvs_at (by omega)
  have a1 : (bvs a).toArray[1]? = some (.int .u8 (a.getD 1 0).toNat) := by rw [List.getElem?_toArray]; exact bvs_at (by omega)
  have hsc : scopeR a = if (a.getD 0 0).toNat = 255 then (a.getD 1 0).toNat % 16 else scopeFrom a 0 5 := by
    unfold scopeR
    by_cases e : a.getD 0 0 = 255
    · rw [if_pos e, if_pos (show (a.getD 0 0).toNat = 255 by rw [e]; rfl)]
    · rw [if_neg e, if_neg (show ¬ (a.getD 0 0).toNat = 255 from fun h => e (UInt8.toNat_inj.1 h))]
  have HN : ∀ k g, scopeFrom a k (g + 1) = if (sRow k).bits ≤ sh a (sRow k).addr then (sRow k).scope else scopeFrom a (k + 1) g := fun k g => rfl
  have HN0 : ∀ k, scopeFrom a k 0 = 14 := fun k => rfl
  have hx1 := (a.getD 1 0).toNat_lt
  have hx0 := (a.getD 0 0).toNat_lt
  have hand : bits .and .u8 ((a.getD 1 0).toNat : Int) 15 = (((a.getD 1 0).toNat % 16 : Nat) : Int) := by
    have := and_u8 (a.getD 1 0).toNat 15 hx1 (by decide)
    refine this.1.trans ?_
    rw [show (15 : Nat) = 2 ^ 4 - 1 by rfl, Nat.and_two_pow_sub_one_eq_mod]
  rw [hsc]
  generalize scopeFrom a = F at *
  generalize (a.getD 0 0).toNat = x0 at *
  generalize (a.getD 1 0).toNat = x1 at *
  generalize regT.toArray = T at *
  generalize (SRow.cells ⟨zero16, 0, 0⟩).toArray = Z at *
  obtain ⟨c1, hc1⟩ : ∃ c, c = (bvs a).toArray := ⟨_, rfl⟩
  rw [← hc1] at hS1 a0 a1
  simp only [← hc1] at CH ⊢
  have g1 := heap_alloc_last w (.cells c1 27)
  have d0 : (w.alloc (.cells c1 27)).cell? ⟨w.heap.size, 0, none⟩ = some (.int .u8 x0) := by rw [cell_of_row _ _ _ _ _ _ g1]; exact a0
  have d1 : (w.alloc (.cells c1 27)).cell? ⟨w.heap.size, 1, none⟩ = some (.int .u8 x1) := by rw [cell_of_row _ _ _ _ _ _ g1]; exact a1
  have HG1 := Lib.hid g1
  have HCH := Lib.hid CH
  have HPS := Lib.hid PS
  have HBS := Lib.hid BS
  have HPO := Lib.hid PO
  have HPH := Lib.hid PH
  have HPI := Lib.hid PI
  have HZP := Lib.hid ZP
  have HZZ := Lib.hid ZZ
  have HPol := Lib.hid (fun W (hb : Below w.heap.size w W) j v (hj : T.toList[j]? = some v) => (hb.cell (cell_lt (hpol j v hj))).trans (hpol j v hj))
  have HPs := Lib.hid hps
  have HS1 := Lib.hid hS1
  have HNN := Lib.hid HN
  have HNZ := Lib.hid HN0
  clear CH PS BS PO PH PI ZP ZZ hpol hps HN HN0 hc1 g1 he hS1 ha a0 a1 hsc
  have hb0 : Below w.heap.size w (w.alloc (.cells c1 27)) := (Below.refl _ w).alloc (Nat.le_refl _) _
  have hss : 0 < 1 := by decide
  by_cases h255 : x0 = 255
  · subst h255
    go_enter Tryd.func14, Tryd.ntmps14
    go_wp2_with fail
    go_ret
    exact ⟨rfl, hb0⟩
  · have hI : ¬ (x0 : Int) = 255 := by omega
    rw [if_neg h255]
    go_enter Tryd.func14, Tryd.ntmps14
    go_wp2_with (first
      | (refine wpList_load_agg rfl 60 (.global 1) rfl ⟨1, 0, none⟩ rfl T _ (HPol.out _ hb0) Tryd.underlying60 rfl HPs.out ?_; go_simp))
    clear hI d0 d1
    go_loopg [13] 5 (fun gk i wr => ∃ k : Nat, i = .int .i64 k ∧ k + gk = 5 ∧ Hid (F 0 5 = F k gk) ∧ Hid (Below w.heap.size w wr) ∧ Hid (wr.heap[w.heap.size]? = some (.cells c1 27 (0, 0))))
    case atStart => exact ⟨0, rfl, by simp, Lib.hid rfl, Lib.hid hb0, HG1⟩
    case round =>
      obtain ⟨k, rfl, hk, HF, HB, H1⟩ := hrel
      by_cases hlt : k < 5
      · obtain ⟨g, rfl⟩ : ∃ g, gk = g + 1 := ⟨gk - 1, by omega⟩
        have hkI : (k : Int) < 5 := by omega
        have hpi := fun W => HPI.out k hlt W
        have hps := HPS.out k
        have hpo := HPO.out k
        have hbs := HBS.out k
        have hch := fun W => HCH.out k W
        obtain ⟨ph1, ph2⟩ := HPH.out k
        have hnn := HNN.out k g
        have hzp : Z.size = (sRow k).cells.toArray.size := by
          rw [HZZ.out, List.size_toArray, SRow.size (sRow_len k)]
        have hpc := part_at (heap_alloc_last wr (.cells (sRow k).cells.toArray 59)) 0 (bvs (sRow k).addr ++ [Value.int .i64 (sRow k).bits]) ph1
        have hw1 : (wr.alloc (.cells (sRow k).cells.toArray 59)).heap[w.heap.size]? = some (.cells c1 27 (0, 0)) := by
          rw [heap_alloc_old' wr _ (heap_lt H1.out)]; exact H1.out
        have hw6 := heap_alloc_last wr (.cells (sRow k).cells.toArray 59)
        have hbW : Below w.heap.size w (wr.alloc (.cells (sRow k).cells.toArray 59)) := HB.out.alloc HB.out.size _
        have hsW : (wr.alloc (.cells (sRow k).cells.toArray 59)).heap.size = wr.heap.size + 1 := World.size_alloc _ _
        have hlt1 := heap_lt H1.out
        generalize (sRow k).cells.toArray = pc at *
        generalize hxc : (bvs (sRow k).addr ++ [Value.int .i64 (sRow k).bits]).toArray = xc at *
        clear hxc ph1
        generalize (sRow k).bits = n at *
        generalize (sRow k).scope = z at *
        generalize hss : sh a (sRow k).addr = s at *
        have HW1 := Lib.hid hw1
        have HW6 := Lib.hid hw6
        have HSW := Lib.hid hsW
        have HBW := Lib.hid hbW
        have HPC := Lib.hid hpc
        have HPS' := Lib.hid hps
        have HPO' := Lib.hid hpo
        have HBS' := Lib.hid hbs
        have HPI' := Lib.hid hpi
        have HCK := Lib.hid hch
        have HZP' := Lib.hid hzp
        have HNK := Lib.hid hnn
        have HP2 := Lib.hid ph2
        have HLT := Lib.hid hlt1
        clear hw1 hw6 hsW hbW hpc hps hpo hbs hpi hch hzp hnn ph2 hlt1 hss
        go_wp2_with (first
          | (refine wpList_index rfl 60 (.tmp 12) (.tmp 13) rfl (.agg pc) (HPI'.out _) ?_; go_simp)
          | (refine wpList_alloc_z rfl 59 rfl Z HZP.out ?_; go_simp)
          | (refine wpList_store_new rfl 59 (.tmp 4) (.tmp 15) rfl wr.heap.size rfl Z pc 59 rfl rfl HPS'.out HZP'.out HPO'.out ?_; go_simp)
          | (refine wpList_load_agg rfl 54 (.tmp 16) rfl ⟨wr.heap.size, 0, none⟩ rfl xc _ HPC.out Tryd.underlying54 rfl HBS'.out ?_; go_simp)
          | (refine wpList_load_row rfl 27 (.tmp 1) rfl w.heap.size rfl 27 c1 (0, 0) _ HW1.out Tryd.underlying27 rfl HS1.out ?_; go_simp))
        refine (HCK.out _).mono ?_
        rintro e w2 ⟨rfl, hb2⟩
        have hsz := HSW.out
        have hlt1 := HLT.out
        have x1 := (hb2.block w.heap.size (by omega)).trans HW1.out
        have x6 := (hb2.block wr.heap.size (by omega)).trans HW6.out
        have xb := HBW.out.trans (hb2.mono HBW.out.size)
        have d6 : w2.cell? ⟨wr.heap.size, 17, none⟩ = some (.int .i64 z) := by rw [cell_of_row _ _ _ _ _ _ x6]; exact HP2.out
        have X1 := Lib.hid x1
        have XB := Lib.hid xb
        have hk9 : k + (g + 1) = 5 := hk
        clear hb2 x1 x6 xb hsz HB H1 HW1 HW6 HBW HSW HPC HLT hlt1
        generalize wr.heap.size = G at *
        by_cases h1 : n ≤ s
        · rw [decide_eq_true h1]
          have HNE := Lib.hid (show F 0 5 = z by rw [HF.out, HNK.out, if_pos h1])
          clear h1
          go_wp2_with fail
          go_ret
          refine ⟨?_, XB.out⟩
          rw [HNE.out]; rfl
        · rw [decide_eq_false h1]
          have HNE := Lib.hid (show F 0 5 = F (k + 1) g by rw [HF.out, HNK.out, if_neg h1])
          clear h1
          go_wp2_with fail
          go_roundg g
          case measure => omega
          case rel => exact ⟨k + 1, by go_num, by omega, HNE, XB, X1⟩
      · obtain rfl : k = 5 := by omega
        obtain rfl : gk = 0 := by omega
        have HNE := Lib.hid (show F 0 5 = 14 by rw [HF.out, HNZ.out])
        go_wp2_with fail
        go_ret
        refine ⟨?_, HB.out⟩
        rw [HNE.out]; rfl
end Go.Proofs.YtoaedlllnkcfnaaDoor
