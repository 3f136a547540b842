/-
  The walk of ChaseFinds: what a message says of its question is what stands at the end of the names that lead on. No condition.
-/
import Derived.Test.YtgbijhinihchgaaChFdm
namespace Go.Proofs.Ytgbijhinihchgaa
open Go.RowKit

set_option maxRecDepth 100000 in
set_option maxHeartbeats 16000000 in
theorem chaseFinds_walk (fl : Int) (s : SV) (hs : s.Fits) (l : List SV) (hx : ∀ x ∈ l, x.Fits) (A : Option Addr) (ca : Nat) (w : World) (hA : SeedsAt w A l) :
    Calls Try.prog 3 #[.int .i64 fl, .agg s.cells, .slice A l.length ca] w fun e w' => e = .returned (.bool true) ∧ Below w.heap.size w w' := by
  have HFit := Lib.hid fit15_e
  have hz20 : s.cells.size = 20 := SV.size hs.ad
  have HSZ : Hid ((Try.prog.info? 25).map (·.size) = some s.cells.size) := Lib.hid (by rw [hz20]; exact sizeSeed)
  have HF := Lib.hid hx
  have HSe0 := Lib.hid hA
  have ZS := Lib.hid zeroSeed
  have HMe := Lib.hid (fun W hW hl => message_e 1 fl s hs A ca l hx W hW hl)
  have HSr := Lib.hid (fun W => seed_e s hs W)
  clear hA hx hs hz20
  by_cases h20 : l.length ≤ 60
  · have h20I : (l.length : Int) ≤ 60 := by omega
    generalize hsc : s.cells = sc at HSZ HMe HSr ⊢
    clear hsc
    go_enter Try.func3, Try.ntmps3
    go_wp2_with fail
    refine (HFit.out _).mono ?_
    rintro e w1 ⟨rfl, hbw1⟩
    have hq1 : w1.heap[w.heap.size]? = some (.cells sc 25 (0, 0)) := (hbw1.block _ (by rw [World.size_alloc]; omega)).trans (heap_alloc_last w _)
    have HB1 : Hid (Below w.heap.size w w1) := Lib.hid (((Below.refl _ w).alloc (Nat.le_refl _) _).trans (hbw1.mono (by rw [World.size_alloc]; omega)))
    have HSc : Hid (∀ U, Below w1.heap.size w1 U → U.heap[w.heap.size]? = some (.cells sc 25 (0, 0))) := Lib.hid (fun U hU => (hU.block _ (heap_lt hq1)).trans hq1)
    have HSe : Hid (∀ U, Below w1.heap.size w1 U → SeedsAt U A l) := Lib.hid (fun U hU => HSe0.out.below (HB1.out.trans (hU.mono HB1.out.size)))
    clear hbw1 hq1 HSe0
    go_wp2_with fail
    go_loopw [26] (fun i wr => ∃ k : Nat, k ≤ l.length ∧ i = .int .i64 k ∧ Hid (Below w1.heap.size w1 wr)) (fun i _ => l.length - (intOf i).toNat)
    case atStart => exact ⟨0, by omega, rfl, Lib.hid (Below.refl _ w1)⟩
    case round =>
      obtain ⟨k, hk, rfl, HB⟩ := hrel
      by_cases hlt : k < l.length
      · have hkI : (k : Int) < (l.length : Int) := by omega
        obtain ⟨b, o, rfl, hbl, hc⟩ := (HSe.out wr HB.out) (by omega)
        obtain ⟨x, hxs⟩ : ∃ x, l[k]? = some x := ⟨_, List.getElem?_eq_getElem hlt⟩
        have hfit := HF.out x (List.mem_of_getElem? hxs)
        have HC := Lib.hid (hc k x hxs)
        have hz20 : x.cells.size = 20 := SV.size hfit.ad
        have Z : Hid ((Try.prog.info? 25).map (·.size) = some x.cells.size) := Lib.hid (by rw [hz20]; exact sizeSeed)
        have ZZ : Hid (zeroS.cells.size = x.cells.size) := Lib.hid (by rw [hz20]; exact SV.size rfl)
        have O1 : Hid (x.cells.all (·.oneCell') = true) := Lib.hid (SV.one x)
        have d : (wr.alloc (.cells x.cells 25)).cell? ⟨wr.heap.size, 19, none⟩ = some (.string x.da) := (cell_of_row _ wr.heap.size 19 _ _ _ (heap_alloc_last wr _)).trans (SV.c19 hfit.ad)
        have HB2 : Hid (Below w1.heap.size w1 (wr.alloc (.cells x.cells 25))) := Lib.hid (HB.out.alloc HB.out.size _)
        clear hc hxs hz20 hfit hbl HF HMe HSr
        generalize x.cells = cs at HC Z ZZ O1 d HB2
        generalize x.da = D at d
        generalize zeroS.cells = zs at ZS ZZ
        by_cases h4 : (300 : Int) < (D.size : Int)
        · go_wp2_with (first
            | (refine wpList_load_agg rfl 25 (.tmp 28) rfl ⟨b, o + k * 20, none⟩ rfl cs _ HC.out Try.underlying25 rfl Z.out ?_; go_simp)
            | (refine wpList_alloc_z rfl 25 rfl zs ZS.out ?_; go_simp)
            | (refine wpList_store_new rfl 25 (.tmp 8) (.tmp 29) rfl wr.heap.size rfl zs cs 25 rfl rfl Z.out ZZ.out O1.out ?_; go_simp))
          go_ret
          exact ⟨rfl, HB1.out.trans (HB2.out.mono HB1.out.size)⟩
        · go_wp2_with (first
            | (refine wpList_load_agg rfl 25 (.tmp 28) rfl ⟨b, o + k * 20, none⟩ rfl cs _ HC.out Try.underlying25 rfl Z.out ?_; go_simp)
            | (refine wpList_alloc_z rfl 25 rfl zs ZS.out ?_; go_simp)
            | (refine wpList_store_new rfl 25 (.tmp 8) (.tmp 29) rfl wr.heap.size rfl zs cs 25 rfl rfl Z.out ZZ.out O1.out ?_; go_simp))
          go_roundw
          case rel => exact ⟨k + 1, by omega, by go_num, HB2⟩
          case measure => simp [intOf]; omega
      · have hkI : ¬ (k : Int) < (l.length : Int) := by omega
        obtain rfl : k = l.length := by omega
        clear hlt hk ZS HSr
        have HScr := Lib.hid (HSc.out wr HB.out)
        go_upto_region 11 with fail
        go_wp2_with (first
          | (refine wpList_load_row rfl 25 (.tmp 4) rfl w.heap.size rfl 25 sc (0, 0) _ HScr.out Try.underlying25 rfl HSZ.out ?_; go_simp))
        refine (HMe.out wr (HSe.out wr HB.out) (by omega)).mono ?_
        rintro e w3 ⟨hb3, m, hm, hli, rfl⟩
        have HB3 : Hid (Below w.heap.size w w3) := Lib.hid (HB1.out.trans ((HB.out.trans (hb3.mono HB.out.size)).mono HB1.out.size))
        have hcode : m.code = 0 ∨ m.code = 3 ∨ m.code = 2 := by
          have := congrArg MV.code hm
          have e : m.code = codeN (bN (fl / 8) 3) := this
          rw [e]; exact codeN_is _
        have han : m.an = anL (l.take 32) := congrArg MV.an hm
        have hau : m.au = auL (l.take 32) := congrArg MV.au hm
        have hfT : ∀ x ∈ l.take 32, x.Fits := fun x hx => HF.out x (List.mem_of_mem_take hx)
        have hadA : ∀ r ∈ m.an, r.ad.length = 16 := fun r hr => by rw [han] at hr; exact (anL_mem hfT hr).1.fits.ad
        have hadU : ∀ r ∈ m.au, r.ad.length = 16 := fun r hr => by rw [hau] at hr; exact (auL_mem hfT hr).1.fits.ad
        have hlA : m.an.length ≤ 32 := by rw [han]; exact Nat.le_trans (anL_len _) (by rw [List.length_take]; omega)
        have hlU : m.au.length ≤ 32 := by rw [hau]; exact Nat.le_trans (auL_len _) (by rw [List.length_take]; omega)
        have htt : ∀ r ∈ m.an, r.ttl ≤ 1048576 := by rw [han]; exact anL_ttl _
        have HOf : Hid (∀ U, m.Lies U → Calls Try.prog 10 #[.agg m.cells] U (FdPost U (ofF m.code m.qn m.qt m.an m.au))) := Lib.hid (fun U hU => of_e m hadA hadU (by omega) (by omega) U hU.an hU.au)
        have HFd : Hid (∀ U, m.Lies U → Calls Try.prog 11 #[.agg m.cells] U (FdP U (fdF m.an m.qt 8 m.qn 1048576))) := Lib.hid (fun U hU => find_e m hadA (by omega) U hU.an)
        have HSp : Hid (m.code = 0 ∨ m.code = 3 → ∃ nm rs le ok, fdF m.an m.qt 8 m.qn 1048576 = (nm, rs, le, ok) ∧ (∀ r ∈ rs, r ∈ m.an) ∧ rs.length ≤ m.an.length ∧ ((ok = true ∧ ofF m.code m.qn m.qt m.an m.au = ⟨1, rs, ⟨#[]⟩, min le (lstI rs)⟩) ∨ (ok = false ∧ rs = [] ∧ ofF m.code m.qn m.qt m.an m.au = if (nm.toList == m.qn.toList) = false ∧ m.code = 0 then ⟨0, [], nm, le⟩ else nothF m.code m.au))) := Lib.hid (fun h => of_fd h htt)
        have H2 : Hid (m.code = 2 → ofF m.code m.qn m.qt m.an m.au = ⟨4, [], ⟨#[]⟩, 0⟩) := Lib.hid (fun h => by unfold ofF; rw [if_pos (by omega)])
        have HLi := Lib.hid hli
        have HC4 : Hid (m.cells[4]? = some (.int .i64 m.code)) := Lib.hid rfl
        have HC5 : Hid (m.cells[5]? = some (.string m.qn)) := Lib.hid rfl
        have HC8 : Hid (m.cells[8]? = some (.slice m.U m.au.length m.cu)) := Lib.hid rfl
        have S1 : Hid ((Try.prog.info? 32).map (·.size) = some m.cells.size) := Lib.hid sizeM
        have Z1 : Hid (zMsg.size = m.cells.size) := Lib.hid rfl
        have O1 : Hid (m.cells.all (·.oneCell') = true) := Lib.hid (MV.one _)
        have ZM := Lib.hid zeroM
        have HZF := Lib.hid zeroF
        have HAdA := Lib.hid hadA
        have hauI : (m.au.length : Int) ≤ 32 := by omega
        clear hm han hau hfT hadA hadU htt hli hb3 HSe HF HMe HSc HScr HSZ HB HB1
        generalize m.cells = MC at HOf HFd HC4 HC5 HC8 S1 Z1 O1 ⊢
        generalize hOFF : ofF m.code m.qn m.qt m.an m.au = OFF at HOf HSp H2
        generalize fdF m.an m.qt 8 m.qn 1048576 = FR at HFd HSp
        clear hOFF
        have HLi4 : Hid (m.Lies (w3.alloc (.cells MC 32))) := Lib.hid (HLi.out.below ((Below.refl _ w3).alloc (Nat.le_refl _) _))
        have HB4 : Hid (Below w.heap.size w (w3.alloc (.cells MC 32))) := Lib.hid (HB3.out.alloc HB3.out.size _)
        have HG4 := Lib.hid (heap_alloc_last w3 (.cells MC 32))
        go_upto_region 12 with (first
          | (refine wpList_alloc_z rfl 32 rfl zMsg ZM.out ?_; go_simp)
          | (refine wpList_store_new rfl 32 (.tmp 9) (.tmp 38) rfl w3.heap.size rfl zMsg MC 32 rfl rfl S1.out Z1.out O1.out ?_; go_simp))
        generalize w3.alloc (.cells MC 32) = W4 at HLi4 HB4 HG4 ⊢
        generalize w3.heap.size = g9 at HG4 ⊢
        clear HB3 HLi Z1 O1 ZM
        go_wp2_with (first
          | (refine wpList_load_row rfl 32 (.tmp 9) rfl g9 rfl 32 MC (0, 0) _ HG4.out Try.underlying32 rfl S1.out ?_; go_simp))
        refine (HOf.out W4 HLi4.out).mono ?_
        rintro e w5 ⟨A2, c2, rfl, hb5, hr5⟩
        have hb6 := hb5.alloc hb5.size (.cells (FC OFF.out (.slice A2 OFF.rs.length c2) OFF.nx OFF.ttl) 35)
        have hb56 : Below w5.heap.size w5 (w5.alloc (.cells (FC OFF.out (.slice A2 OFF.rs.length c2) OFF.nx OFF.ttl) 35)) := (Below.refl _ w5).alloc (Nat.le_refl _) _
        have HLi6 := Lib.hid (HLi4.out.below hb6)
        have HB6 := Lib.hid (HB4.out.trans (hb6.mono HB4.out.size))
        have HG6 := Lib.hid ((hb6.block _ (heap_lt HG4.out)).trans HG4.out)
        have HF6 := Lib.hid (heap_alloc_last w5 (.cells (FC OFF.out (.slice A2 OFF.rs.length c2) OFF.nx OFF.ttl) 35))
        have HR6 := Lib.hid (hr5.below hb56)
        clear hb5 hr5 hb6 hb56 HLi4 HB4 HG4 HOf
        go_upto_region 13 with (first
          | (refine wpList_alloc_z rfl 35 rfl (FC 0 (.slice none 0 0) ⟨#[]⟩ 0) HZF.out ?_; go_simp)
          | (refine wpList_store_new rfl 35 (.tmp 10) (.tmp 40) rfl w5.heap.size rfl (FC 0 (.slice none 0 0) ⟨#[]⟩ 0) (FC OFF.out (.slice A2 OFF.rs.length c2) OFF.nx OFF.ttl) 35 rfl rfl (sizeF _ _ _ _) rfl (FC_one _ _ _ _ _ _) ?_; go_simp))
        generalize w5.alloc (.cells (FC OFF.out (.slice A2 OFF.rs.length c2) OFF.nx OFF.ttl) 35) = W6 at HLi6 HB6 HG6 HF6 HR6 ⊢
        generalize w5.heap.size = g10 at HF6 ⊢
        clear HZF
        have d4 := (cell_of_row W6 g9 4 _ _ _ HG6.out).trans HC4.out
        generalize m.code = code at hcode HSp H2 d4 HC4
        generalize m.qn = qn at HSp HC5
        have HU6 := Lib.hid HLi6.out.au
        have HA6 := Lib.hid HLi6.out.an
        by_cases h2 : code = 2
        · obtain rfl : OFF = ⟨4, [], ⟨#[]⟩, 0⟩ := H2.out h2
          subst h2
          have f0 := (cell_of_row W6 g10 0 _ _ _ HF6.out).trans (rfl : _ = some (Value.int .i64 4))
          have f1 := (cell_of_row W6 g10 1 _ _ _ HF6.out).trans (rfl : _ = some (Value.slice A2 0 c2))
          have f2 := (cell_of_row W6 g10 2 _ _ _ HF6.out).trans (rfl : _ = some (Value.string ⟨#[]⟩))
          clear H2 HSp HFd HLi6 HG6 HF6 HR6 HU6 HA6 hcode HAdA
          go_wp2_with fail
          go_ret
          exact ⟨rfl, HB6.out⟩
        have hc03 : code = 0 ∨ code = 3 := by omega
        obtain ⟨nm, rs, le, ok, hFR, hrin, hrl, hcs⟩ := HSp.out hc03
        subst hFR
        have hc3 : Hid (code = 0 ∨ code = 3) := Lib.hid hc03
        clear h2 H2 HSp hcode
        go_cut [48] from 41 to 48 (fun t48 wx => t48 = .bool false ∧ wx = W6)
        case first =>
          clear hcs HFd
          rcases hc03 with rfl | rfl
          all_goals
            go_wp2_with fail
            go_meet
            case rel => exact ⟨rfl, rfl⟩
        obtain ⟨rfl, rfl⟩ := hcut
        clear hc03 d4
        generalize wc = W6 at *
        go_upto_region 15 with fail
        go_wp2_with (first
          | (refine wpList_load_row rfl 32 (.tmp 9) rfl g9 rfl 32 MC (0, 0) _ HG6.out Try.underlying32 rfl S1.out ?_; go_simp))
        refine (HFd.out W6 HLi6.out).mono ?_
        rintro e w7 ⟨A3, c3, rfl, hb7, hr7⟩
        have HB7 := Lib.hid (HB6.out.trans (hb7.mono HB6.out.size))
        have HG7 := Lib.hid ((hb7.block _ (heap_lt HG6.out)).trans HG6.out)
        have HF7 := Lib.hid ((hb7.block _ (heap_lt HF6.out)).trans HF6.out)
        have HR7 := Lib.hid (HR6.out.below hb7)
        have HU7 := Lib.hid (HU6.out.below hb7)
        have HQ7 := Lib.hid hr7
        have HIn := Lib.hid (fun r (hr : r ∈ rs) => HAdA.out r (hrin r hr))
        have hrl32 : rs.length ≤ 32 := by omega
        clear hb7 hr7 HB6 HG6 HF6 HR6 HU6 HA6 HLi6 HFd S1 HAdA hrin hrl
        rcases hcs with ⟨rfl, rfl⟩ | ⟨rfl, rfl, hOF⟩
        · have HT0 : Hid (∀ U, Below w7.heap.size w7 U → Calls Try.prog 12 #[.slice A3 rs.length c3] U fun e w' => e = .returned (.int .i64 (lstI rs)) ∧ Below U.heap.size U w') := Lib.hid (fun U hU => ttl_rv (HQ7.out.below hU) HIn.out (by omega))
          have D0 : Hid (∀ U, Below w7.heap.size w7 U → U.cell? ⟨g10, 0, none⟩ = some (.int .i64 1)) := Lib.hid (fun U hU => (cell_of_row U g10 0 _ _ _ ((hU.block _ (heap_lt HF7.out)).trans HF7.out)).trans rfl)
          have D1 : Hid (∀ U, Below w7.heap.size w7 U → U.cell? ⟨g10, 1, none⟩ = some (.slice A2 rs.length c2)) := Lib.hid (fun U hU => (cell_of_row U g10 1 _ _ _ ((hU.block _ (heap_lt HF7.out)).trans HF7.out)).trans rfl)
          have D2 : Hid (∀ U, Below w7.heap.size w7 U → U.cell? ⟨g10, 2, none⟩ = some (.string ⟨#[]⟩)) := Lib.hid (fun U hU => (cell_of_row U g10 2 _ _ _ ((hU.block _ (heap_lt HF7.out)).trans HF7.out)).trans rfl)
          have D3 : Hid (∀ U, Below w7.heap.size w7 U → U.cell? ⟨g10, 3, none⟩ = some (.int .i64 (min le (lstI rs)))) := Lib.hid (fun U hU => (cell_of_row U g10 3 _ _ _ ((hU.block _ (heap_lt HF7.out)).trans HF7.out)).trans rfl)
          have HR7 : Hid (RecsAt w7 A2 rs) := HR7
          have HQ7 : Hid (RecsAt w7 A3 rs) := HQ7
          clear HF7 HG7 HU7
          obtain ⟨n, hn⟩ : ∃ n, n = rs.length := ⟨_, rfl⟩
          have HNn := Lib.hid hn
          have hnI : (n : Int) ≤ 32 := by omega
          simp only [← hn] at HT0 D1 ⊢
          clear hn hrl32
          generalize lstI rs = LL at HT0 D3
          have HT := HT0
          go_upto_region 17 with fail
          go_cut [90] from 71 to 90 (fun t90 wx => t90 = .bool false ∧ Hid (Below w7.heap.size w7 wx))
          case first =>
            refine wp_region_held_drew (S := (fun W : World => Below w7.heap.size w7 W)) (by kernel_rfl) (Below.refl _ w7).drew (fun hHeld => ?_)
            refine wpAnyH_take (i := 0) (oi := ({ dst := some 71, op := Go.Op.fieldAddr 35 (Go.Operand.tmp 10) 0, type := 0, pos := "law.go:64", after := #[], guard := none } : Oper)) (v := .pointer (some ⟨g10, 0, none⟩)) rfl (by kernel_rfl) (by kernel_rfl) (by kernel_rfl) (fun _ _ _ h => h) (Or.inl ⟨by rfl, fun w' _ => ?_⟩) hHeld ?_
            · go_simp
            simp only [Act.put, List.setIfInBounds_toArray, List.set_cons_zero, List.set_cons_succ]
            refine wpAnyH_take (i := 1) (oi := ({ dst := some 72, op := Go.Op.load 3 (Go.Operand.tmp 71), type := 3, pos := "law.go:64", after := #[{ on := 0, ground := Go.Ground.data }], guard := none } : Oper)) (v := .int .i64 1) rfl (by kernel_rfl) (by kernel_rfl) (by kernel_rfl) (fun _ _ _ h => h) (Or.inl ⟨by rfl, fun w' hS' => ?_⟩) hHeld ?_
            · have hcell := D0.out w' hS'
              go_simp
            simp only [Act.put, List.setIfInBounds_toArray, List.set_cons_zero, List.set_cons_succ]
            refine wpAnyH_take (i := 2) (oi := ({ dst := some 73, op := Go.Op.binOp Go.BinOp.neq 3 (Go.Operand.tmp 72) (Go.Operand.const (Go.Value.int Go.IntKind.i64 1)) 3, type := 4, pos := "law.go:64", after := #[{ on := 1, ground := Go.Ground.data }], guard := none } : Oper)) (v := .bool false) rfl (by kernel_rfl) (by kernel_rfl) (by kernel_rfl) (fun _ _ _ h => h) (Or.inl ⟨by rfl, fun w' _ => ?_⟩) hHeld ?_
            · go_simp
            simp only [Act.put, List.setIfInBounds_toArray, List.set_cons_zero, List.set_cons_succ]
            refine wpAnyH_take (i := 3) (oi := ({ dst := some 74, op := Go.Op.move (Go.Operand.tmp 73), type := 4, pos := "law.go:64", after := #[{ on := 2, ground := Go.Ground.data }], guard := none } : Oper)) (v := .bool false) rfl (by kernel_rfl) (by kernel_rfl) (by kernel_rfl) (fun _ _ _ h => h) (Or.inl ⟨by rfl, fun w' _ => ?_⟩) hHeld ?_
            · go_simp
            simp only [Act.put, List.setIfInBounds_toArray, List.set_cons_zero, List.set_cons_succ]
            refine wpAnyH_take (i := 4) (oi := ({ dst := some 75, op := Go.Op.fieldAddr 35 (Go.Operand.tmp 10) 1, type := 0, pos := "law.go:64", after := #[{ on := 3, ground := Go.Ground.guard }], guard := some (3, false) } : Oper)) (v := .pointer (some ⟨g10, 1, none⟩)) rfl (by kernel_rfl) (by kernel_rfl) (by kernel_rfl) (fun _ _ _ h => h) (Or.inl ⟨by kernel_rfl, fun w' _ => ?_⟩) hHeld ?_
            · go_simp
            simp only [Act.put, List.setIfInBounds_toArray, List.set_cons_zero, List.set_cons_succ]
            refine wpAnyH_take (i := 5) (oi := ({ dst := some 76, op := Go.Op.load 30 (Go.Operand.tmp 75), type := 30, pos := "law.go:64", after := #[{ on := 4, ground := Go.Ground.data }, { on := 3, ground := Go.Ground.guard }], guard := some (3, false) } : Oper)) (v := .slice A2 n c2) rfl (by kernel_rfl) (by kernel_rfl) (by kernel_rfl) (fun _ _ _ h => h) (Or.inl ⟨by kernel_rfl, fun w' hS' => ?_⟩) hHeld ?_
            · have hcell := D1.out w' hS'
              go_simp
            simp only [Act.put, List.setIfInBounds_toArray, List.set_cons_zero, List.set_cons_succ]
            refine wpAnyH_take (i := 6) (oi := ({ dst := some 77, op := Go.Op.call { callee := Go.Callee.builtin Go.Builtin.len, args := #[Go.Operand.tmp 76], argTypes := #[30] }, type := 3, pos := "law.go:64", after := #[{ on := 5, ground := Go.Ground.data }, { on := 3, ground := Go.Ground.guard }], guard := some (3, false) } : Oper)) (v := .int .i64 (n : Int)) rfl (by kernel_rfl) (by kernel_rfl) (by kernel_rfl) (fun _ _ _ h => h) (Or.inl ⟨by kernel_rfl, fun w' _ => ?_⟩) hHeld ?_
            · go_simp
            simp only [Act.put, List.setIfInBounds_toArray, List.set_cons_zero, List.set_cons_succ]
            refine wpAnyH_take (i := 7) (oi := ({ dst := some 78, op := Go.Op.move (Go.Operand.tmp 12), type := 30, pos := "law.go:64", after := #[{ on := 3, ground := Go.Ground.guard }], guard := some (3, false) } : Oper)) (v := .slice A3 n c3) rfl (by kernel_rfl) (by kernel_rfl) (by kernel_rfl) (fun _ _ _ h => h) (Or.inl ⟨by kernel_rfl, fun w' _ => ?_⟩) hHeld ?_
            · go_simp
            simp only [Act.put, List.setIfInBounds_toArray, List.set_cons_zero, List.set_cons_succ]
            refine wpAnyH_take (i := 8) (oi := ({ dst := some 79, op := Go.Op.call { callee := Go.Callee.builtin Go.Builtin.len, args := #[Go.Operand.tmp 78], argTypes := #[30] }, type := 3, pos := "law.go:64", after := #[{ on := 7, ground := Go.Ground.data }, { on := 3, ground := Go.Ground.guard }], guard := some (3, false) } : Oper)) (v := .int .i64 (n : Int)) rfl (by kernel_rfl) (by kernel_rfl) (by kernel_rfl) (fun _ _ _ h => h) (Or.inl ⟨by kernel_rfl, fun w' _ => ?_⟩) hHeld ?_
            · go_simp
            simp only [Act.put, List.setIfInBounds_toArray, List.set_cons_zero, List.set_cons_succ]
            refine wpAnyH_take (i := 9) (oi := ({ dst := some 80, op := Go.Op.binOp Go.BinOp.neq 3 (Go.Operand.tmp 77) (Go.Operand.tmp 79) 3, type := 4, pos := "law.go:64", after := #[{ on := 6, ground := Go.Ground.data }, { on := 8, ground := Go.Ground.data }, { on := 3, ground := Go.Ground.guard }], guard := some (3, false) } : Oper)) (v := .bool false) rfl (by kernel_rfl) (by kernel_rfl) (by kernel_rfl) (fun _ _ _ h => h) (Or.inl ⟨by kernel_rfl, fun w' _ => ?_⟩) hHeld ?_
            · go_simp
            simp only [Act.put, List.setIfInBounds_toArray, List.set_cons_zero, List.set_cons_succ]
            refine wpAnyH_take (i := 10) (oi := ({ dst := some 81, op := Go.Op.pick (Go.Operand.tmp 74) (Go.Operand.const (Go.Value.bool true)) (Go.Operand.tmp 80), type := 4, pos := "law.go:64", after := #[{ on := 3, ground := Go.Ground.data }, { on := 9, ground := Go.Ground.data }], guard := none } : Oper)) (v := .bool false) rfl (by kernel_rfl) (by kernel_rfl) (by kernel_rfl) (fun _ _ _ h => h) (Or.inl ⟨by rfl, fun w' _ => ?_⟩) hHeld ?_
            · go_simp
            simp only [Act.put, List.setIfInBounds_toArray, List.set_cons_zero, List.set_cons_succ]
            refine wpAnyH_take (i := 11) (oi := ({ dst := some 82, op := Go.Op.move (Go.Operand.tmp 81), type := 4, pos := "law.go:64", after := #[{ on := 10, ground := Go.Ground.data }, { on := 3, ground := Go.Ground.chain }], guard := none } : Oper)) (v := .bool false) rfl (by kernel_rfl) (by kernel_rfl) (by kernel_rfl) (fun _ _ _ h => h) (Or.inl ⟨by rfl, fun w' _ => ?_⟩) hHeld ?_
            · go_simp
            simp only [Act.put, List.setIfInBounds_toArray, List.set_cons_zero, List.set_cons_succ]
            refine wpAnyH_take (i := 12) (oi := ({ dst := some 83, op := Go.Op.fieldAddr 35 (Go.Operand.tmp 10) 3, type := 0, pos := "law.go:64", after := #[{ on := 11, ground := Go.Ground.guard }], guard := some (11, false) } : Oper)) (v := .pointer (some ⟨g10, 3, none⟩)) rfl (by kernel_rfl) (by kernel_rfl) (by kernel_rfl) (fun _ _ _ h => h) (Or.inl ⟨by kernel_rfl, fun w' _ => ?_⟩) hHeld ?_
            · go_simp
            simp only [Act.put, List.setIfInBounds_toArray, List.set_cons_zero, List.set_cons_succ]
            refine wpAnyH_take (i := 13) (oi := ({ dst := some 84, op := Go.Op.load 3 (Go.Operand.tmp 83), type := 3, pos := "law.go:64", after := #[{ on := 12, ground := Go.Ground.data }, { on := 11, ground := Go.Ground.guard }], guard := some (11, false) } : Oper)) (v := .int .i64 (min le LL)) rfl (by kernel_rfl) (by kernel_rfl) (by kernel_rfl) (fun _ _ _ h => h) (Or.inl ⟨by kernel_rfl, fun w' hS' => ?_⟩) hHeld ?_
            · have hcell := D3.out w' hS'
              go_simp
            simp only [Act.put, List.setIfInBounds_toArray, List.set_cons_zero, List.set_cons_succ]
            refine wpAnyH_take (i := 14) (oi := ({ dst := some 85, op := Go.Op.move (Go.Operand.tmp 13), type := 3, pos := "law.go:64", after := #[{ on := 11, ground := Go.Ground.guard }], guard := some (11, false) } : Oper)) (v := .int .i64 le) rfl (by kernel_rfl) (by kernel_rfl) (by kernel_rfl) (fun _ _ _ h => h) (Or.inl ⟨by kernel_rfl, fun w' _ => ?_⟩) hHeld ?_
            · go_simp
            simp only [Act.put, List.setIfInBounds_toArray, List.set_cons_zero, List.set_cons_succ]
            refine wpAnyH_take (i := 15) (oi := ({ dst := some 86, op := Go.Op.move (Go.Operand.tmp 12), type := 30, pos := "law.go:64", after := #[{ on := 11, ground := Go.Ground.guard }], guard := some (11, false) } : Oper)) (v := .slice A3 n c3) rfl (by kernel_rfl) (by kernel_rfl) (by kernel_rfl) (fun _ _ _ h => h) (Or.inl ⟨by kernel_rfl, fun w' _ => ?_⟩) hHeld ?_
            · go_simp
            simp only [Act.put, List.setIfInBounds_toArray, List.set_cons_zero, List.set_cons_succ]
            refine wpAnyH_ready (rs := [16]) (by kernel_rfl) (by simp) ?_
            refine AllReadyH.cons (o := ({ dst := some 87, op := Go.Op.call { callee := Go.Callee.value (Go.Operand.func 12), args := #[Go.Operand.tmp 86], argTypes := #[30] }, type := 3, pos := "law.go:64", after := #[{ on := 15, ground := Go.Ground.data }, { on := 11, ground := Go.Ground.chain }, { on := 11, ground := Go.Ground.guard }], guard := some (11, false) } : Oper)) rfl (fun K hK => ?_) AllReadyH.nil
            rw [if_pos (by kernel_rfl)]
            go_simp
            go_at_call 12
            refine (HT.out _ hHeld).mono ?_
            rintro e' wc ⟨rfl, hbc⟩
            refine hK.out _ _ (Below.trans hHeld (Below.mono hbc (Below.size hHeld))) (fun hHeld' => ?_)
            clear hK K hbc
            try clear hHeld
            try simp only [Act.put, List.setIfInBounds_toArray, List.set_cons_zero, List.set_cons_succ]
            refine wpAnyH_take (i := 17) (oi := ({ dst := some 88, op := Go.Op.call { callee := Go.Callee.builtin Go.Builtin.min, args := #[Go.Operand.tmp 85, Go.Operand.tmp 87], argTypes := #[3, 3] }, type := 3, pos := "law.go:64", after := #[{ on := 14, ground := Go.Ground.data }, { on := 16, ground := Go.Ground.data }, { on := 11, ground := Go.Ground.guard }], guard := some (11, false) } : Oper)) (v := .int .i64 (min le LL)) rfl (by kernel_rfl) (by kernel_rfl) (by kernel_rfl) (fun _ _ _ h => h) (Or.inl ⟨by kernel_rfl, fun w' _ => ?_⟩) hHeld' ?_
            · go_simp
            simp only [Act.put, List.setIfInBounds_toArray, List.set_cons_zero, List.set_cons_succ]
            refine wpAnyH_take (i := 18) (oi := ({ dst := some 89, op := Go.Op.binOp Go.BinOp.neq 3 (Go.Operand.tmp 84) (Go.Operand.tmp 88) 3, type := 4, pos := "law.go:64", after := #[{ on := 13, ground := Go.Ground.data }, { on := 17, ground := Go.Ground.data }, { on := 11, ground := Go.Ground.guard }], guard := some (11, false) } : Oper)) (v := .bool false) rfl (by kernel_rfl) (by kernel_rfl) (by kernel_rfl) (fun _ _ _ h => h) (Or.inl ⟨by kernel_rfl, fun w' _ => ?_⟩) hHeld' ?_
            · go_simp
            simp only [Act.put, List.setIfInBounds_toArray, List.set_cons_zero, List.set_cons_succ]
            refine wpAnyH_take (i := 19) (oi := ({ dst := some 90, op := Go.Op.pick (Go.Operand.tmp 82) (Go.Operand.const (Go.Value.bool true)) (Go.Operand.tmp 89), type := 4, pos := "law.go:64", after := #[{ on := 11, ground := Go.Ground.data }, { on := 18, ground := Go.Ground.data }], guard := none } : Oper)) (v := .bool false) rfl (by kernel_rfl) (by kernel_rfl) (by kernel_rfl) (fun _ _ _ h => h) (Or.inl ⟨by rfl, fun w' _ => ?_⟩) hHeld' ?_
            · go_simp
            simp only [Act.put, List.setIfInBounds_toArray, List.set_cons_zero, List.set_cons_succ]
            refine wpAnyH_done (by kernel_rfl) ?_ _
            have HNX := Lib.hid hHeld'
            try (go_wp2_with fail)
            go_meet
            case rel => exact ⟨rfl, HNX⟩
          case rest =>
          obtain ⟨rfl, HB8⟩ := hcut
          clear HT0 HT D0 D3
          generalize wc = W8 at HB8 ⊢
          go_wp2_with fail
          go_loopw [93] (fun i wr => ∃ k : Nat, k ≤ n ∧ i = .int .i64 k ∧ Hid (Below w7.heap.size w7 wr)) (fun i _ => n - (intOf i).toNat)
          case atStart => exact ⟨0, by omega, rfl, HB8⟩
          case round =>
            rename World => wr2
            clear HB8
            obtain ⟨k, hk2, rfl, HBr⟩ := hrel
            by_cases hlt2 : k < n
            · have hkI2 : (k : Int) < (n : Int) := by omega
              obtain ⟨b2, o2, rfl, hbl2, hc2⟩ := (HR7.out.below HBr.out) (by rw [← HNn.out]; omega)
              obtain ⟨b3, o3, rfl, hbl3, hc3'⟩ := (HQ7.out.below HBr.out) (by rw [← HNn.out]; omega)
              obtain ⟨r, hr⟩ : ∃ r, rs[k]? = some r := ⟨_, List.getElem?_eq_getElem (by rw [← HNn.out]; exact hlt2)⟩
              have hrad := HIn.out r (List.mem_of_getElem? hr)
              obtain ⟨rl, hrl⟩ : ∃ rl : List Value, r.cells = rl.toArray := ⟨r.cells.toList, by rw [Array.toArray_toList]⟩
              have hrl2 : r.cells.toList = rl := by rw [hrl]
              have SX : Hid ((Try.prog.info? 41).map (·.size) = some rl.length) := Lib.hid (by have h := sizeRv hrad; rw [hrl] at h; simpa using h)
              have HEQ : Hid (∀ W, (Op.equalIn 10000 41 (.agg rl.toArray) (.agg rl.toArray)).run Try.prog W = .ok true W) := Lib.hid (fun W => by
                rw [← hrl, ← RV.eqB_self r]
                exact eq_recs W hrad hrad)
              have RX : Hid (∀ U, Below wr2.heap.size wr2 U → U.rangeAt b2 (o2 + k * 21) rl) := Lib.hid (fun U hU j v hj => by
                have h := hc2 k r hr j v (by rw [hrl2]; exact hj)
                rw [Addr.add_lit] at h
                exact (hU.cell (p := ⟨b2, o2 + k * 21 + j, none⟩) hbl2).trans h)
              have RY : Hid (∀ U, Below wr2.heap.size wr2 U → U.rangeAt b3 (o3 + k * 21) rl) := Lib.hid (fun U hU j v hj => by
                have h := hc3' k r hr j v (by rw [hrl2]; exact hj)
                rw [Addr.add_lit] at h
                exact (hU.cell (p := ⟨b3, o3 + k * 21 + j, none⟩) hbl3).trans h)
              have D1 : Hid (∀ U, Below wr2.heap.size wr2 U → U.cell? ⟨g10, 1, none⟩ = some (.slice (some ⟨b2, o2, none⟩) n c2)) := Lib.hid (fun U hU => D1.out U (HBr.out.trans (hU.mono HBr.out.size)))
              clear hc2 hc3' hbl2 hbl3 hr hrad hrl hrl2
              go_upto_region 22 with fail
              refine wp_region_held_drew (S := (fun W : World => Below wr2.heap.size wr2 W)) (by kernel_rfl) (Below.refl _ wr2).drew (fun hHeld => ?_)
              refine wpAnyH_take (i := 0) (oi := ({ dst := some 96, op := Go.Op.fieldAddr 35 (Go.Operand.tmp 10) 1, type := 0, pos := "law.go:68", after := #[], guard := none } : Oper)) (v := .pointer (some ⟨g10, 1, none⟩)) rfl (by kernel_rfl) (by kernel_rfl) (by kernel_rfl) (fun _ _ _ h => h) (Or.inl ⟨by rfl, fun w' _ => ?_⟩) hHeld ?_
              · go_simp
              simp only [Act.put, List.setIfInBounds_toArray, List.set_cons_zero, List.set_cons_succ]
              refine wpAnyH_take (i := 1) (oi := ({ dst := some 97, op := Go.Op.load 30 (Go.Operand.tmp 96), type := 30, pos := "law.go:68", after := #[{ on := 0, ground := Go.Ground.data }], guard := none } : Oper)) (v := .slice (some ⟨b2, o2, none⟩) n c2) rfl (by kernel_rfl) (by kernel_rfl) (by kernel_rfl) (fun _ _ _ h => h) (Or.inl ⟨by rfl, fun w' hS' => ?_⟩) hHeld ?_
              · have hcell := D1.out w' hS'
                go_simp
              simp only [Act.put, List.setIfInBounds_toArray, List.set_cons_zero, List.set_cons_succ]
              refine wpAnyH_take (i := 2) (oi := ({ dst := some 98, op := Go.Op.move (Go.Operand.tmp 15), type := 3, pos := "law.go:68", after := #[], guard := none } : Oper)) (v := .int .i64 (k : Int)) rfl (by kernel_rfl) (by kernel_rfl) (by kernel_rfl) (fun _ _ _ h => h) (Or.inl ⟨by rfl, fun w' _ => ?_⟩) hHeld ?_
              · go_simp
              simp only [Act.put, List.setIfInBounds_toArray, List.set_cons_zero, List.set_cons_succ]
              refine wpAnyH_take (i := 3) (oi := ({ dst := some 99, op := Go.Op.indexAddr 30 (Go.Operand.tmp 97) (Go.Operand.tmp 98), type := 0, pos := "law.go:68", after := #[{ on := 1, ground := Go.Ground.data }, { on := 2, ground := Go.Ground.data }], guard := none } : Oper)) (v := .pointer (some ⟨b2, o2 + k * 21, none⟩)) rfl (by kernel_rfl) (by kernel_rfl) (by kernel_rfl) (fun _ _ _ h => h) (Or.inl ⟨by rfl, fun w' _ => ?_⟩) hHeld ?_
              · go_simp
              simp only [Act.put, List.setIfInBounds_toArray, List.set_cons_zero, List.set_cons_succ]
              refine wpAnyH_take (i := 4) (oi := ({ dst := some 100, op := Go.Op.load 41 (Go.Operand.tmp 99), type := 41, pos := "law.go:68", after := #[{ on := 3, ground := Go.Ground.data }], guard := none } : Oper)) (v := .agg (rl).toArray) rfl (by kernel_rfl) (by kernel_rfl) (by kernel_rfl) (fun _ _ _ h => h) (yieldsIf_load_mid (by rfl) _ _ rfl _ _ rfl _ _ (fun W h => RX.out W h) Try.underlying41 rfl SX.out) hHeld ?_
              simp only [Act.put, List.setIfInBounds_toArray, List.set_cons_zero, List.set_cons_succ]
              refine wpAnyH_take (i := 5) (oi := ({ dst := some 101, op := Go.Op.move (Go.Operand.tmp 12), type := 30, pos := "law.go:68", after := #[], guard := none } : Oper)) (v := .slice (some ⟨b3, o3, none⟩) n c3) rfl (by kernel_rfl) (by kernel_rfl) (by kernel_rfl) (fun _ _ _ h => h) (Or.inl ⟨by rfl, fun w' _ => ?_⟩) hHeld ?_
              · go_simp
              simp only [Act.put, List.setIfInBounds_toArray, List.set_cons_zero, List.set_cons_succ]
              refine wpAnyH_take (i := 6) (oi := ({ dst := some 102, op := Go.Op.move (Go.Operand.tmp 15), type := 3, pos := "law.go:68", after := #[], guard := none } : Oper)) (v := .int .i64 (k : Int)) rfl (by kernel_rfl) (by kernel_rfl) (by kernel_rfl) (fun _ _ _ h => h) (Or.inl ⟨by rfl, fun w' _ => ?_⟩) hHeld ?_
              · go_simp
              simp only [Act.put, List.setIfInBounds_toArray, List.set_cons_zero, List.set_cons_succ]
              refine wpAnyH_take (i := 7) (oi := ({ dst := some 103, op := Go.Op.indexAddr 30 (Go.Operand.tmp 101) (Go.Operand.tmp 102), type := 0, pos := "law.go:68", after := #[{ on := 5, ground := Go.Ground.data }, { on := 6, ground := Go.Ground.data }], guard := none } : Oper)) (v := .pointer (some ⟨b3, o3 + k * 21, none⟩)) rfl (by kernel_rfl) (by kernel_rfl) (by kernel_rfl) (fun _ _ _ h => h) (Or.inl ⟨by rfl, fun w' _ => ?_⟩) hHeld ?_
              · go_simp
              simp only [Act.put, List.setIfInBounds_toArray, List.set_cons_zero, List.set_cons_succ]
              refine wpAnyH_take (i := 8) (oi := ({ dst := some 104, op := Go.Op.load 41 (Go.Operand.tmp 103), type := 41, pos := "law.go:68", after := #[{ on := 7, ground := Go.Ground.data }], guard := none } : Oper)) (v := .agg (rl).toArray) rfl (by kernel_rfl) (by kernel_rfl) (by kernel_rfl) (fun _ _ _ h => h) (yieldsIf_load_mid (by rfl) _ _ rfl _ _ rfl _ _ (fun W h => RY.out W h) Try.underlying41 rfl SX.out) hHeld ?_
              simp only [Act.put, List.setIfInBounds_toArray, List.set_cons_zero, List.set_cons_succ]
              refine wpAnyH_take (i := 9) (oi := ({ dst := some 105, op := Go.Op.binOp Go.BinOp.neq 41 (Go.Operand.tmp 100) (Go.Operand.tmp 104) 41, type := 4, pos := "law.go:68", after := #[{ on := 4, ground := Go.Ground.data }, { on := 8, ground := Go.Ground.data }], guard := none } : Oper)) (v := .bool false) rfl (by kernel_rfl) (by kernel_rfl) (by kernel_rfl) (fun _ _ _ h => h) (yieldsIf_neq (by rfl) 41 (.tmp 100) (.tmp 104) _ rfl rl.toArray rl.toArray true rfl rfl eqGuardRec (fun W _ => HEQ.out W)) hHeld ?_
              simp only [Act.put, List.setIfInBounds_toArray, List.set_cons_zero, List.set_cons_succ]
              refine wpAnyH_done (by kernel_rfl) ?_ _
              have HNX := Lib.hid (HBr.out.trans (hHeld.mono HBr.out.size))
              clear hHeld RX RY D1
              try (go_wp2_with fail)
              go_roundw
              case rel => exact ⟨k + 1, by omega, by first | rfl | go_num, HNX⟩
              case measure => simp [intOf]; omega
            · have hkI2 : ¬ (k : Int) < (n : Int) := by omega
              have d2 := D2.out wr2 HBr.out
              have HBe := Lib.hid (HB7.out.trans (HBr.out.mono HB7.out.size))
              clear D1 D2 hk2
              go_wp2_with fail
              go_ret
              exact ⟨rfl, HBe.out⟩
        · clear HIn HQ7 HR7
          have HOF := Lib.hid hOF
          clear hOF
          have e5 := (cell_of_row w7 g9 5 _ _ _ HG7.out).trans HC5.out
          have e4 := (cell_of_row w7 g9 4 _ _ _ HG7.out).trans HC4.out
          have e8 := (cell_of_row w7 g9 8 _ _ _ HG7.out).trans HC8.out
          go_upto_region 26 with fail
          by_cases hcond : (nm.toList == qn.toList) = false ∧ code = 0
          · rw [HOF.out, if_pos hcond] at HF7
            obtain ⟨hq, rfl⟩ := hcond
            have f0 := (cell_of_row w7 g10 0 _ _ _ HF7.out).trans (rfl : _ = some (Value.int .i64 0))
            have f1 := (cell_of_row w7 g10 1 _ _ _ HF7.out).trans (rfl : _ = some (Value.slice A2 0 c2))
            have f2 := (cell_of_row w7 g10 2 _ _ _ HF7.out).trans (rfl : _ = some (Value.string nm))
            have f3 := (cell_of_row w7 g10 3 _ _ _ HF7.out).trans (rfl : _ = some (Value.int .i64 le))
            clear HF7 HG7 HU7 e8 hc3
            go_wp2_with fail
            go_ret
            exact ⟨rfl, HB7.out⟩
          · rw [HOF.out, if_neg hcond] at HF7
            obtain ⟨oc, hoc⟩ : ∃ oc : Int, oc = if code = 3 then 2 else 5 := ⟨_, rfl⟩
            obtain ⟨T, hT⟩ : ∃ T, T = soaT m.au := ⟨_, rfl⟩
            have hnf : nothF code m.au = ⟨oc, [], ⟨#[]⟩, T⟩ := by rw [hoc, hT]; rfl
            rw [hnf] at HF7
            have f0 := (cell_of_row w7 g10 0 _ _ _ HF7.out).trans (rfl : _ = some (Value.int .i64 oc))
            have f1 := (cell_of_row w7 g10 1 _ _ _ HF7.out).trans (rfl : _ = some (Value.slice A2 0 c2))
            have f2 := (cell_of_row w7 g10 2 _ _ _ HF7.out).trans (rfl : _ = some (Value.string ⟨#[]⟩))
            have f3 := (cell_of_row w7 g10 3 _ _ _ HF7.out).trans (rfl : _ = some (Value.int .i64 T))
            have HO := Lib.hid hoc
            have HTT : Hid (T = soaT m.au) := Lib.hid hT
            clear HF7 HG7 hnf hoc hT
            go_cut [119] from 110 to 119 (fun t119 wx => t119 = .bool false ∧ wx = w7)
            case first =>
              clear f0 f1 f2 f3 e8
              cases hq : (nm.toList == qn.toList) with
              | true =>
                clear hcond
                go_wp2_with fail
                go_meet
                case rel => exact ⟨rfl, rfl⟩
              | false =>
                rcases hc3.out with rfl | rfl
                · exact absurd ⟨hq, rfl⟩ hcond
                · clear hcond hc3
                  go_wp2_with fail
                  go_meet
                  case rel => exact ⟨rfl, rfl⟩
            obtain ⟨rfl, rfl⟩ := hcut
            clear hcond e5
            generalize wc = w7 at *
            generalize hau : m.au = au at *
            clear hau
            generalize m.U = U at *
            generalize m.cu = cu at *
            go_wp2_with fail
            go_loopw [17, 16] (fun i t wr => ∃ (k : Nat) (x : Int), k ≤ au.length ∧ i = .int .i64 x ∧ t = .int .i64 (soaT (au.drop k)) ∧ Hid (x = (k : Int) - 1) ∧ wr = w7) (fun i _ _ => (intOf i + 1).toNat)
            case atStart => exact ⟨au.length, (au.length : Int) - 1, Nat.le_refl _, by first | rfl | go_num, by rw [List.drop_length]; rfl, Lib.hid rfl, rfl⟩
            case round =>
              rename World => wr3
              obtain ⟨k, x, hk3, rfl, rfl, HX, rfl⟩ := hrel
              rcases k with _ | j
              · obtain rfl : x = -1 := by have := HX.out; omega
                have hd0 : soaT (au.drop 0) = T := by rw [HTT.out]; rfl
                rw [hd0]
                clear HX hd0 HTT hk3
                by_cases h3 : code = 3
                · subst h3
                  obtain rfl : oc = 2 := HO.out
                  clear HO
                  go_wp2_with fail
                  go_ret
                  exact ⟨rfl, HB7.out⟩
                · obtain rfl : oc = 5 := by rw [HO.out, if_neg h3]
                  have h3b : (code == 3) = false := beq_eq_false_iff_ne.2 h3
                  clear HO h3 hc3
                  go_wp2_with fail
                  go_ret
                  exact ⟨rfl, HB7.out⟩
              · obtain rfl : x = (j : Int) := by have := HX.out; omega
                have hj0 : (0 : Int) ≤ (j : Int) := by omega
                have hjl : (j : Int) < (au.length : Int) := by omega
                obtain ⟨b, o, rfl, hbl, hc⟩ := HU7.out (by omega)
                obtain ⟨r, hr⟩ : ∃ r, au[j]? = some r := ⟨_, List.getElem?_eq_getElem (by omega)⟩
                have c1 : wr3.cell? ⟨b, o + j * 21 + 1, none⟩ = some (.int .i64 r.ty) := by
                  have h := hc j r hr 1 (.int .i64 r.ty) (by rw [Array.getElem?_toList]; exact r.c1)
                  rwa [Addr.add_lit] at h
                have c2x : wr3.cell? ⟨b, o + j * 21 + 2, none⟩ = some (.int .i64 r.ttl) := by
                  have h := hc j r hr 2 (.int .i64 r.ttl) (by rw [Array.getElem?_toList]; exact r.c2)
                  rwa [Addr.add_lit] at h
                have HDr := Lib.hid (soaT_drop hr)
                have HSo : Hid (soaB r = (r.ty == 6)) := Lib.hid rfl
                rw [HSo.out] at HDr
                generalize r.ty = yt at c1 HDr HSo
                generalize r.ttl = tt at c2x HDr
                clear hc hbl hr HX f0 f1 f2 f3 HSo HU7
                cases h6 : (yt == 6) with
                | true =>
                  have HNx : Hid (soaT (au.drop j) = tt) := Lib.hid (by rw [HDr.out, h6]; rfl)
                  clear HDr
                  go_wp2_with fail
                  go_roundw
                  case rel => exact ⟨j, (j : Int) - 1, by omega, by first | rfl | go_num, by rw [HNx.out], Lib.hid rfl, by first | trivial | rfl⟩
                  case measure => simp [intOf]
                | false =>
                  have HNx : Hid (soaT (au.drop j) = soaT (au.drop (j + 1))) := Lib.hid (by rw [HDr.out, h6]; rfl)
                  clear HDr
                  go_wp2_with fail
                  go_roundw
                  case rel => exact ⟨j, (j : Int) - 1, by omega, by first | rfl | go_num, by rw [HNx.out], Lib.hid rfl, by first | trivial | rfl⟩
                  case measure => simp [intOf]
  · have h20d : decide ((60 : Int) < (l.length : Int)) = true := by simp; omega
    have h20n : ¬ (l.length : Int) ≤ 60 := by omega
    go_enter Try.func3, Try.ntmps3
    go_wp2_with fail
    refine (HFit.out _).mono ?_
    rintro e w1 ⟨rfl, hbw1⟩
    have HB1 : Hid (Below w.heap.size w w1) := Lib.hid (((Below.refl _ w).alloc (Nat.le_refl _) _).trans (hbw1.mono (by rw [World.size_alloc]; omega)))
    clear hbw1
    go_wp2_with fail
    go_ret
    exact ⟨rfl, HB1.out⟩
end Go.Proofs.Ytgbijhinihchgaa

