/-
  The walk of a reader's method name: the name that stands next, for every text of bytes. Condition: the library's variable MaxLen holds some number.
-/
import Derived.Test.YtakfokdjdljjjaaDoorMsgTake
import Derived.Test.YtakfokdjdljjjaaDoorMsgTwo
import Derived.Test.YtakfokdjdljjjaaDoorMsgName
import Derived.Test.YtakfokdjdljjjaaDoorMsgLab
import Derived.Laws.AppendOwnNone
namespace Go.Proofs.YtakfokdjdljjjaaDoor
open Go.RowKit

/-- what name answers: the name, or whatever of a reader that is wrong -/
def RNamePost (base : Nat) (w : World) (g : Nat) (A : Option Addr) (c : Nat) (b : List UInt8) (r : Option (List UInt8 × Nat)) (e : Ending) (w' : World) : Prop :=
  match r with
  | some (nm, p) => e = .returned (.string (bs nm)) ∧ RIs base w' g A c b p false ∧ w.grownBy w' (some g)
  | none => ∃ (s : ByteArray) (p : Nat), e = .returned (.string s) ∧ RIs base w' g A c b p true ∧ w.grownBy w' (some g)
/-- what is still to do: nothing, if something is wrong -/
def rnMs (n g : Nat) (td : Int) (w : World) : Nat := match w.cell? ⟨g, 2, none⟩, w.cell? ⟨g, 1, none⟩ with
  | some (.bool false), some (.int _ a) => 1 + ((17 - td.toNat) * (n + 1) - a.toNat)
  | _, _ => 0
/-- how the loop stands, as long as nothing is wrong -/
structure RnAt (base : Nat) (w wr : World) (g : Nat) (A : Option Addr) (c : Nat) (b : List UInt8) (p0 : Nat) (x : NS) (v : Value) : Prop where
  r : RIs base wr g A c b x.at_ false
  grown : w.grownBy wr (some g)
  row : wr.ownsRow w.heap.size 9 1 v x.acc.length (svs x.acc)
  nil : x.acc = [] → v = .slice none 0 0
  run : ∀ q, NRun b x q → NRun b ⟨p0, [], 0, 0, 0⟩ q
  bh : x.bh ≤ b.length
  acc : x.acc.length ≤ x.sg
  jn : (jn x.acc).length ≤ x.sg
/-- or something is wrong already -/
structure RnNo (base : Nat) (w wr : World) (g : Nat) (A : Option Addr) (c : Nat) (b : List UInt8) (p0 : Nat) : Prop where
  r : ∃ p, RIs base wr g A c b p true
  grown : w.grownBy wr (some g)
  run : NRun b ⟨p0, [], 0, 0, 0⟩ none
theorem RnAt.done {base g c p0 : Nat} {w wr : World} {A : Option Addr} {b : List UInt8} {x : NS} {v : Value} (h : RnAt base w wr g A c b p0 x v) {r : Option (List UInt8 × Nat)} (hs : nstep b x = .inl r) : nameF b p0 = r := nameF_eq (h.run r (.done hs))
theorem RnAt.no {base g c p0 : Nat} {w wr w' : World} {A : Option Addr} {b : List UInt8} {x : NS} {v : Value} (h : RnAt base w wr g A c b p0 x v) (hs : nstep b x = .inl none) (hg : wr.grownBy w' (some g)) {p : Nat} (hr : RIs base w' g A c b p true) : RnNo base w w' g A c b p0 :=
  ⟨⟨p, hr⟩, grown_trans h.grown hg, h.run none (.done hs)⟩
theorem nstep_end {b : List UInt8} {at_ sg td bh : Nat} {acc : List (List UInt8)} (h : b.length < at_ + 1) : nstep b ⟨at_, acc, sg, td, bh⟩ = .inl none := by
  unfold nstep; simp only; rw [List.getElem?_eq_none (by omega)]
theorem nstep_zero {b : List UInt8} {at_ sg td bh : Nat} {acc : List (List UInt8)} {y : UInt8} (h : b[at_]? = some y) (hy : y.toNat = 0) : nstep b ⟨at_, acc, sg, td, bh⟩ = .inl (some (jn acc, if td = 0 then at_ + 1 else bh)) := by
  unfold nstep; simp only; rw [h]; simp only; rw [if_pos hy]
theorem num_one {b : List UInt8} {p : Nat} (h : p + 1 ≤ b.length) : ∃ y, b[p]? = some y ∧ num (cutB b p 1) = y.toNat := by
  refine ⟨b[p], List.getElem?_eq_getElem (by omega), ?_⟩
  unfold cutB
  rw [List.drop_eq_getElem_cons (by omega), List.take_succ_cons, List.take_zero]
  show 0 * 256 + b[p].toNat = b[p].toNat
  omega
theorem own_grown {w0 w w' : World} {g n : Nat} {v : Value} {xs : List Value} (h : w.ownsRow w0.heap.size 9 1 v n xs) (hg : w.grownBy w' (some g)) (hne : v.ownBlock ≠ some g) : w'.ownsRow w0.heap.size 9 1 v n xs := h.kept hg (.inr hne)
theorem own_ne_r {w0 w : World} {base g n c at_ : Nat} {A : Option Addr} {b : List UInt8} {wr : Bool} {v : Value} {xs : List Value} (h : w.ownsRow w0.heap.size 9 1 v n xs) (hr : RIs base w g A c b at_ wr) : v.ownBlock ≠ some g := own_ne h hr.blk (by decide)

theorem grown_own {w w3 w4 : World} {g : Nat} {row : Option Nat} (h : w.grownBy w3 (some g)) (h4 : w3.grownBy w4 row) (hr : ∀ k, row = some k → w.heap.size ≤ k) : w.grownBy w4 (some g) :=
  ⟨h4.os.trans h.os, h4.tape.trans h.tape, h4.output.trans h.output, Nat.le_trans h.size h4.size, fun i hi hne => (h4.block i (Nat.lt_of_lt_of_le hi h.size) (fun e => by have := hr i e.symm; omega)).trans (h.block i hi hne)⟩
theorem grown_alloc {w w' : World} {o : Obj} {row : Option Nat} (h : (w.alloc o).grownBy w' row) : w.grownBy w' row :=
  ⟨h.os, h.tape, h.output, Nat.le_trans (by simp) h.size, fun i hi hne => (h.block i (by simp; omega) hne).trans (Below.heap_alloc w o i hi)⟩
theorem rnMs_ok {base g c at_ td : Nat} {w : World} {A : Option Addr} {b : List UInt8} (h : RIs base w g A c b at_ false) : rnMs b.length g (td : Int) w = 1 + ((17 - td) * (b.length + 1) - at_) := by
  unfold rnMs
  rw [cell_of_row w g 2 _ _ _ h.blk, cell_of_row w g 1 _ _ _ h.blk]
  rfl
theorem rnMs_no {base g c at_ : Nat} {td : Int} {w : World} {A : Option Addr} {b : List UInt8} (h : RIs base w g A c b at_ true) : rnMs b.length g td w = 0 := by
  unfold rnMs
  rw [cell_of_row w g 2 _ _ _ h.blk]
  rfl
theorem ms_lab {n td a y : Nat} (ht : td ≤ 16) (h : a + 1 + y ≤ n) : 1 + ((17 - td) * (n + 1) - (a + 1 + y)) < 1 + ((17 - td) * (n + 1) - a) := by
  have h1 : 1 * (n + 1) ≤ (17 - td) * (n + 1) := Nat.mul_le_mul_right _ (by omega)
  generalize (17 - td) * (n + 1) = q at h1 ⊢
  omega
theorem ms_ptr {n td a p : Nat} (ht : td + 1 ≤ 16) (h : a ≤ n) : 1 + ((17 - (td + 1)) * (n + 1) - p) < 1 + ((17 - td) * (n + 1) - a) := by
  have h1 : (17 - td) * (n + 1) = (17 - (td + 1)) * (n + 1) + (n + 1) := by rw [← Nat.succ_mul]; congr 1; omega
  rw [h1]
  generalize (17 - (td + 1)) * (n + 1) = q
  omega
theorem RnAt.lab {base g c p0 at_ sg td bh gb cap n : Nat} {w wr w3 w4 : World} {A : Option Addr} {b : List UInt8} {acc : List (List UInt8)} {v : Value} {d : List UInt8} {row : Option Nat} (h : RnAt base w wr g A c b p0 ⟨at_, acc, sg, td, bh⟩ v)
    (hs : nstep b ⟨at_, acc, sg, td, bh⟩ = .inr ⟨at_ + 1 + n, acc ++ [d], sg + n + 1, td, bh⟩) (h3 : w.grownBy w3 (some g)) (h4 : w3.grownBy w4 row) (hrow : ∀ k, row = some k → w.heap.size ≤ k)
    (hr : RIs base w4 g A c b (at_ + 1 + n) false) (ho : w4.ownsRow w.heap.size 9 1 (.slice (some ⟨gb, 0, none⟩) (acc.length + 1) cap) (acc ++ [d]).length (svs (acc ++ [d]))) (hd : d.length = n) :
    RnAt base w (w4.setCell ⟨g, 2, none⟩ (.bool false)) g A c b p0 ⟨at_ + 1 + n, acc ++ [d], sg + n + 1, td, bh⟩ (.slice (some ⟨gb, 0, none⟩) (acc.length + 1) cap) := by
  have hg4 := grown_own h3 h4 hrow
  have hacc := h.acc
  have hjn := h.jn
  simp only at hacc hjn
  have hjs := jn_snoc acc d
  exact ⟨hr.setB false (fun _ => hr.ok rfl), grown_trans hg4 (grown_set _ _ _ _), own_grown ho (grown_set _ _ _ _) (own_ne_r ho hr), fun e => by simp at e, fun q hq => h.run q (.next hs hq), h.bh, by simp only [List.length_append, List.length_singleton]; omega, by simp only; omega⟩
theorem RnAt.ptr {base g c p0 at_ sg td bh pl q td' B : Nat} {w wr w2 : World} {A : Option Addr} {b : List UInt8} {acc : List (List UInt8)} {v : Value} (h : RnAt base w wr g A c b p0 ⟨at_, acc, sg, td, bh⟩ v)
    (hs : nstep b ⟨at_, acc, sg, td, bh⟩ = .inr ⟨pl, acc, sg, td', B⟩) (h2 : w.grownBy w2 (some g)) (hr : RIs base w2 g A c b q false) (hrow : w2.ownsRow w.heap.size 9 1 v acc.length (svs acc)) (hB : B ≤ b.length) (hpl : pl ≤ b.length) (hbl : b.length ≤ 140737488351232) :
    RnAt base w ((w2.setCell ⟨g, 2, none⟩ (.bool false)).setCell ⟨g, 1, none⟩ (.int .i64 (pl : Nat))) g A c b p0 ⟨pl, acc, sg, td', B⟩ v := by
  have hr2 := hr.setB false (fun _ => hr.ok rfl)
  exact ⟨hr2.setAt pl (by omega) (fun _ => hpl), grown_trans (grown_trans h2 (grown_set _ _ _ _)) (grown_set _ _ _ _), own_grown (own_grown hrow (grown_set _ _ _ _) (own_ne_r hrow hr)) (grown_set _ _ _ _) (own_ne_r hrow hr), h.nil, fun q hq => h.run q (.next hs hq), hB, h.acc, h.jn⟩
set_option maxRecDepth 100000 in
set_option maxHeartbeats 4000000 in
theorem rname_any (base g c p0 : Nat) (A : Option Addr) (b : List UInt8) (w : World) (he : Env w) (hB : 0 < base) (h : RIs base w g A c b p0 false) :
    Calls Tryd.prog 30 #[.pointer (some ⟨g, 0, none⟩)] w fun e w' => RNamePost base w g A c b (nameF b p0) e w' := by
  have hlen := h.len
  have hlt := h.lt
  have hbg := h.hg
  have HA0 : Hid (RnAt base w w g A c b p0 ⟨p0, [], 0, 0, 0⟩ (.slice none 0 0)) := Lib.hid ⟨h, ⟨rfl, rfl, rfl, Nat.le_refl _, fun _ _ _ => rfl⟩, World.ownsRow_nil _ _ _ _, fun _ => rfl, fun _ h => h, by simp, by simp, by simp [jn]⟩
  have HE := Lib.hid he
  have hp0 := h.ok rfl
  have HEw : Hid (∀ W : World, w.grownBy W (some g) → Env W) := Lib.hid (fun W hW => HE.out.base ((Below.refl base w).grown hW (by omega) (fun k e => by injection e with e; omega)) hB)
  have HEl : Hid (∀ W : World, w.grownBy W (some g) → w.heap.size ≤ W.heap.size) := Lib.hid (fun W hW => hW.size)
  clear h he
  go_enter Tryd.func30, Tryd.ntmps30
  go_wp2_with fail
  go_loopw [3, 4, 5, 6, 7, 8, 9, 10] (fun l sg td bh _ _ _ _ wr => (∃ (at_ : Nat) (acc : List (List UInt8)) (sgn tdn bhn : Nat), sg = .int .i64 (sgn : Nat) ∧ td = .int .i64 (tdn : Nat) ∧ bh = .int .i64 (bhn : Nat) ∧ at_ ≤ b.length ∧ tdn ≤ 16 ∧ sgn ≤ 254 ∧ Hid (RnAt base w wr g A c b p0 ⟨at_, acc, sgn, tdn, bhn⟩ l)) ∨ Hid (RnNo base w wr g A c b p0)) (fun _ _ td _ _ _ _ _ wr => rnMs b.length g (intOf td) wr)
  case atStart => exact .inl ⟨p0, [], 0, 0, 0, rfl, rfl, rfl, hp0, by omega, by omega, HA0⟩
  case round =>
    rcases hrel with ⟨at_, acc, sg, td, bh, rfl, rfl, rfl, hat, htd, hsg, HA⟩ | HN
    · have c1 := cell_of_row wr g 1 _ _ _ HA.out.r.blk
      have c2 := cell_of_row wr g 2 _ _ _ HA.out.r.blk
      simp only [List.getElem?_toArray, List.getElem?_cons_succ, List.getElem?_cons_zero] at c1 c2
      have hglt := HA.out.r.lt
      go_wp2_with fail
      refine (number_any base g c at_ 1 A b false wr HA.out.r (by omega)).mono ?_
      rintro e w1 (⟨_, h2, rfl, h3, h4⟩ | ⟨h1, rfl, h3, h4⟩)
      · obtain ⟨y, hy, hyn⟩ := num_one h2
        rw [hyn]
        have H2 := Lib.hid h2
        have H3 := Lib.hid h3
        have H4 := Lib.hid h4
        have HY := Lib.hid hy
        have hy256 := y.toNat_lt
        clear h2 h3 h4 hy hyn c1 c2
        by_cases hz : y.toNat = 0
        · have HD := Lib.hid (HA.out.done (nstep_zero HY.out hz))
          rw [hz]
          have HGr := Lib.hid (grown_trans HA.out.grown H4.out)
          have hrow := own_grown HA.out.row H4.out (own_ne_r HA.out.row HA.out.r)
          have HROW := Lib.hid hrow
          have hacc := HA.out.acc
          have hjn := HA.out.jn
          simp only at hacc hjn
          have b1 := cell_of_row w1 g 1 _ _ _ H3.out.blk
          have f1 := frozen_of_row w1 g 1 _ _ H3.out.blk
          simp only [List.getElem?_toArray, List.getElem?_cons_succ, List.getElem?_cons_zero] at b1
          have hgl1 := H3.out.lt
          clear hrow hz
          by_cases htd0 : td = 0
          · have HD0 := Lib.hid (HD.out.trans (by rw [if_pos htd0] : some (jn acc, if td = 0 then at_ + 1 else bh) = some (jn acc, at_ + 1)))
            clear HD
            subst htd0
            have J := join_own (base := w.heap.size) acc w1 (HEw.out w1 HGr.out) HROW.out HA.out.nil (by omega) (by omega)
            go_wp2_with fail
            refine J.mono ?_
            rintro e w2 ⟨rfl, hb2⟩
            have HB2 := Lib.hid hb2
            clear J hb2
            go_wp2_with fail
            go_ret
            unfold RNamePost
            rw [HD0.out]
            exact ⟨rfl, H3.out.grown HB2.out, grown_trans HGr.out (grown_below HB2.out)⟩
          · have d0 : decide ((0 : Int) < (td : Int)) = true := decide_eq_true (by omega)
            have hR2 := H3.out.setAtI bh (bh : Nat) rfl (by have := HA.out.bh; simp only at this; omega) (fun _ => HA.out.bh)
            have hG2 := grown_trans HGr.out (grown_set w1 g 1 (.int .i64 (bh : Nat)))
            have HR2 := Lib.hid hR2
            have HG2 := Lib.hid hG2
            have HD0 := Lib.hid (HD.out.trans (by rw [if_neg htd0] : some (jn acc, if td = 0 then at_ + 1 else bh) = some (jn acc, bh)))
            have hpos : 0 < td := by omega
            clear HD
            have J := join_own (base := w.heap.size) acc (w1.setCell ⟨g, 1, none⟩ (.int .i64 (bh : Nat))) (HEw.out _ hG2) (own_grown HROW.out (grown_set _ _ _ _) (own_ne_r HROW.out H3.out)) HA.out.nil (by omega) (by omega)
            clear hR2 hG2 htd0
            go_wp2_with fail
            refine J.mono ?_
            rintro e w2 ⟨rfl, hb2⟩
            have HB2 := Lib.hid hb2
            clear J hb2
            go_wp2_with fail
            go_ret
            unfold RNamePost
            rw [HD0.out]
            exact ⟨rfl, HR2.out.grown HB2.out, grown_trans HG2.out (grown_below HB2.out)⟩
        · by_cases h63 : y.toNat ≤ 63
          · have hz1 : 1 ≤ y.toNat := by omega
            have e0 : ((y.toNat : Int) == 0) = false := by simp; omega
            have b1 := cell_of_row w1 g 1 _ _ _ H3.out.blk
            have b2 := cell_of_row w1 g 2 _ _ _ H3.out.blk
            simp only [List.getElem?_toArray, List.getElem?_cons_succ, List.getElem?_cons_zero] at b1 b2
            have hgl1 := H3.out.lt
            clear hz
            go_wp2_with fail
            refine (take_any base g c (at_ + 1) y.toNat A b false w1 H3.out (by omega)).mono ?_
            rintro e w2 (⟨_, k2, ⟨A', c', rfl, hcc', hin⟩, k3, k4⟩ | ⟨k1, rfl, k3, k4⟩)
            · have hcl := cutB_len k2
              have hcv := conv_in (c := c') hin hcl hz1
              have K3 := Lib.hid k3
              have K4 := Lib.hid (grown_trans H4.out k4)
              have K2 := Lib.hid k2
              obtain ⟨d, hd⟩ : ∃ d, cutB b (at_ + 1) y.toNat = d := ⟨_, rfl⟩
              rw [hd] at hcv hcl
              have HDc := Lib.hid hd
              have HCL := Lib.hid hcl
              have hds : (bs d).size = y.toNat := hcl
              clear k3 k4 k2 hin hd hcl b1 b2
              go_wp2_with fail
              refine (lower_any (bs d) w2 (by unfold maxLen; omega)).mono ?_
              rintro e w3 ⟨rfl, hb3⟩
              have K33 := Lib.hid (K3.out.grown hb3)
              have K43 := Lib.hid (grown_trans K4.out (grown_below hb3))
              have hw3 := (grown_trans HA.out.grown K43.out).size
              have hrow := own_grown HA.out.row K43.out (own_ne_r HA.out.row HA.out.r)
              have HROW := Lib.hid hrow
              have hacc := HA.out.acc
              have hjn := HA.out.jn
              have hbh := HA.out.bh
              simp only at hacc hjn hbh
              have hg3 := K33.out.lt
              have HLW : Hid (lowB (bs d) = bs (low d)) := Lib.hid rfl
              have hls : (lowB (bs d)).size = y.toNat := by rw [lowB_size, hds]
              clear hrow hb3 hcv
              have hst3 : sg + (y.toNat + 1) ≤ 400 := by omega
              cases hR : rightB (lowB (bs d)) with
              | true =>
                by_cases hS : sg + y.toNat + 1 ≤ 254
                · have d254 : decide ((254 : Int) < (sg : Int) + ((y.toNat : Int) + 1)) = false := decide_eq_false (by omega)
                  have CR := fun (W : World) => right_any (lowB (bs d)) W (by unfold maxLen; omega)
                  rw [hR] at CR
                  have HCR := Lib.hid CR
                  have HNx := Lib.hid (nstep_lab (sg := sg) (td := td) (bh := bh) (acc := acc) HY.out (by omega) h63 K2.out (by rw [HDc.out]; exact hR) hS)
                  clear hR CR
                  go_wp2_with (first
                    | (at_builtin; refine wpList_append_s rfl (.tmp 45) (.tmp 47) rfl w.heap.size u3 acc rfl (HROW.out.alloc _) ⟨w3.heap.size, 0, none⟩ (low d) rfl (by rw [World.cell?_alloc_new]; rfl) (by omega) (by rw [World.size_alloc]; omega) ?_; intro gb cap w4 hown4 hgr4; have hne4 := own_ne_r (HROW.out.alloc (.cells #[.string (lowB (bs d))] 9)) (K33.out.grown ((Below.refl _ w3).alloc (Nat.le_refl _) _)); have hR4 := (K33.out.grown ((Below.refl _ w3).alloc (Nat.le_refl _) (.cells #[.string (lowB (bs d))] 9))).grownBy hgr4 hne4 (fun k hk => by have := (HROW.out.lt k hk).1; omega); have b2 := cell_of_row w4 g 2 _ _ _ hR4.blk; have f2 := frozen_of_row w4 g 2 _ _ hR4.blk; simp only [List.getElem?_toArray, List.getElem?_cons_succ, List.getElem?_cons_zero] at b2; have HR4 := Lib.hid hR4; have HO4 := Lib.hid hown4; have HG4 := Lib.hid hgr4; have hgl4 := hR4.lt; clear hR4 hown4 hgr4 hne4; go_simp)
                    | (go_at_call 34; refine (HCR.out _).mono ?_; rintro e w' ⟨rfl, rfl⟩))
                  have HL := Lib.hid (HA.out.lab (n := y.toNat) (by rw [← HDc.out]; exact HNx.out) (grown_trans HA.out.grown K43.out) (grown_alloc HG4.out) (fun k hk => (HROW.out.lt k hk).1) HR4.out HO4.out (by rw [low_length]; exact HCL.out))
                  go_roundw
                  case rel => exact .inl ⟨at_ + 1 + y.toNat, acc ++ [low d], sg + y.toNat + 1, td, bh, by go_num, rfl, rfl, K2.out, htd, hS, HL⟩
                  case measure =>
                    simp only [intOf]
                    rw [rnMs_ok HL.out.r, rnMs_ok HA.out.r]
                    exact ms_lab htd K2.out
                · have d254 : decide ((254 : Int) < (sg : Int) + ((y.toNat : Int) + 1)) = true := decide_eq_true (by omega)
                  have CR := fun (W : World) => right_any (lowB (bs d)) W (by unfold maxLen; omega)
                  rw [hR] at CR
                  have HCR := Lib.hid CR
                  have HNx := Lib.hid (nstep_lab_no (sg := sg) (td := td) (bh := bh) (acc := acc) HY.out (by omega) h63 (fun h => hS h.2.2))
                  clear hR CR
                  go_wp2_with (first
                    | (at_builtin; refine wpList_append_s rfl (.tmp 45) (.tmp 47) rfl w.heap.size u3 acc rfl (HROW.out.alloc _) ⟨w3.heap.size, 0, none⟩ (low d) rfl (by rw [World.cell?_alloc_new]; rfl) (by omega) (by rw [World.size_alloc]; omega) ?_; intro gb cap w4 hown4 hgr4; have hne4 := own_ne_r (HROW.out.alloc (.cells #[.string (lowB (bs d))] 9)) (K33.out.grown ((Below.refl _ w3).alloc (Nat.le_refl _) _)); have hR4 := (K33.out.grown ((Below.refl _ w3).alloc (Nat.le_refl _) (.cells #[.string (lowB (bs d))] 9))).grownBy hgr4 hne4 (fun k hk => by have := (HROW.out.lt k hk).1; omega); have b2 := cell_of_row w4 g 2 _ _ _ hR4.blk; have f2 := frozen_of_row w4 g 2 _ _ hR4.blk; simp only [List.getElem?_toArray, List.getElem?_cons_succ, List.getElem?_cons_zero] at b2; have HR4 := Lib.hid hR4; have HO4 := Lib.hid hown4; have HG4 := Lib.hid hgr4; have hgl4 := hR4.lt; clear hR4 hown4 hgr4 hne4; go_simp)
                    | (go_at_call 34; refine (HCR.out _).mono ?_; rintro e w' ⟨rfl, rfl⟩))
                  have HL := Lib.hid (RnNo.mk (p0 := p0) ⟨_, HR4.out.setB true (fun e => by cases e)⟩ (grown_trans (grown_own (grown_trans HA.out.grown K43.out) (grown_alloc HG4.out) (fun k hk => (HROW.out.lt k hk).1)) (grown_set _ _ _ _)) (HA.out.run none (.done HNx.out)))
                  go_roundw
                  case rel => exact .inr HL
                  case measure =>
                    simp only [intOf]
                    obtain ⟨pq, hpq⟩ := HL.out.r
                    rw [rnMs_no hpq, rnMs_ok HA.out.r]
                    omega
              | false =>
                have CR := fun (W : World) => right_any (lowB (bs d)) W (by unfold maxLen; omega)
                rw [hR] at CR
                have HCR := Lib.hid CR
                have HNx := Lib.hid (nstep_lab_no (sg := sg) (td := td) (bh := bh) (acc := acc) HY.out (by omega) h63 (fun h => by have := h.2.1; rw [HDc.out] at this; exact absurd (hR.symm.trans this) (by decide)))
                clear hR CR
                go_wp2_with (first
                  | (at_builtin; refine wpList_append_s rfl (.tmp 45) (.tmp 47) rfl w.heap.size u3 acc rfl (HROW.out.alloc _) ⟨w3.heap.size, 0, none⟩ (low d) rfl (by rw [World.cell?_alloc_new]; rfl) (by omega) (by rw [World.size_alloc]; omega) ?_; intro gb cap w4 hown4 hgr4; have hne4 := own_ne_r (HROW.out.alloc (.cells #[.string (lowB (bs d))] 9)) (K33.out.grown ((Below.refl _ w3).alloc (Nat.le_refl _) _)); have hR4 := (K33.out.grown ((Below.refl _ w3).alloc (Nat.le_refl _) (.cells #[.string (lowB (bs d))] 9))).grownBy hgr4 hne4 (fun k hk => by have := (HROW.out.lt k hk).1; omega); have b2 := cell_of_row w4 g 2 _ _ _ hR4.blk; have f2 := frozen_of_row w4 g 2 _ _ hR4.blk; simp only [List.getElem?_toArray, List.getElem?_cons_succ, List.getElem?_cons_zero] at b2; have HR4 := Lib.hid hR4; have HO4 := Lib.hid hown4; have HG4 := Lib.hid hgr4; have hgl4 := hR4.lt; clear hR4 hown4 hgr4 hne4; go_simp)
                  | (go_at_call 34; refine (HCR.out _).mono ?_; rintro e w' ⟨rfl, rfl⟩))
                have HL := Lib.hid (RnNo.mk (p0 := p0) ⟨_, HR4.out.setB true (fun e => by cases e)⟩ (grown_trans (grown_own (grown_trans HA.out.grown K43.out) (grown_alloc HG4.out) (fun k hk => (HROW.out.lt k hk).1)) (grown_set _ _ _ _)) (HA.out.run none (.done HNx.out)))
                go_roundw
                case rel => exact .inr HL
                case measure =>
                  simp only [intOf]
                  obtain ⟨pq, hpq⟩ := HL.out.r
                  rw [rnMs_no hpq, rnMs_ok HA.out.r]
                  omega
            · have hcv := conv_nil w2
              have K1 : Hid (b.length < at_ + 1 + y.toNat) := Lib.hid (by rcases k1 with h | h; cases h; exact h)
              have K3 := Lib.hid k3
              have K4 := Lib.hid (grown_trans H4.out k4)
              clear k3 k4 k1 b1 b2
              go_wp2_with fail
              refine (lower_any ⟨#[]⟩ w2 (by show 0 ≤ _; omega)).mono ?_
              rintro e w3 ⟨rfl, hb3⟩
              have K33 := Lib.hid (K3.out.grown hb3)
              have K43 := Lib.hid (grown_trans K4.out (grown_below hb3))
              have hw3 := (grown_trans HA.out.grown K43.out).size
              have hrow := own_grown HA.out.row K43.out (own_ne_r HA.out.row HA.out.r)
              have HROW := Lib.hid hrow
              have hacc := HA.out.acc
              simp only at hacc
              have hg3 := K33.out.lt
              have HNx := Lib.hid (nstep_lab_no (sg := sg) (td := td) (bh := bh) (acc := acc) HY.out (by omega) h63 (fun h => absurd K1.out (by have := h.1; omega)))
              clear hrow hb3 hcv
              go_wp2_with (first
                | (at_builtin; refine wpList_append_s rfl (.tmp 45) (.tmp 47) rfl w.heap.size u3 acc rfl (HROW.out.alloc _) ⟨w3.heap.size, 0, none⟩ (low []) rfl (by rw [World.cell?_alloc_new]; rfl) (by omega) (by rw [World.size_alloc]; omega) ?_; intro gb cap w4 hown4 hgr4; have hne4 := own_ne_r (HROW.out.alloc (.cells #[.string (lowB ⟨#[]⟩)] 9)) (K33.out.grown ((Below.refl _ w3).alloc (Nat.le_refl _) _)); have hR4 := (K33.out.grown ((Below.refl _ w3).alloc (Nat.le_refl _) (.cells #[.string (lowB ⟨#[]⟩)] 9))).grownBy hgr4 hne4 (fun k hk => by have := (HROW.out.lt k hk).1; omega); have b2 := cell_of_row w4 g 2 _ _ _ hR4.blk; have f2 := frozen_of_row w4 g 2 _ _ hR4.blk; simp only [List.getElem?_toArray, List.getElem?_cons_succ, List.getElem?_cons_zero] at b2; have HR4 := Lib.hid hR4; have HO4 := Lib.hid hown4; have HG4 := Lib.hid hgr4; have hgl4 := hR4.lt; clear hR4 hown4 hgr4 hne4; go_simp))
              have HL := Lib.hid (RnNo.mk (p0 := p0) ⟨_, HR4.out.setB true (fun e => by cases e)⟩ (grown_trans (grown_own (grown_trans HA.out.grown K43.out) (grown_alloc HG4.out) (fun k hk => (HROW.out.lt k hk).1)) (grown_set _ _ _ _)) (HA.out.run none (.done HNx.out)))
              go_roundw
              case rel => exact .inr HL
              case measure =>
                simp only [intOf]
                obtain ⟨pq, hpq⟩ := HL.out.r
                rw [rnMs_no hpq, rnMs_ok HA.out.r]
                omega
          · have e0 : ((y.toNat : Int) == 0) = false := by simp; omega
            have e63 : decide ((y.toNat : Int) ≤ 63) = false := decide_eq_false (by omega)
            have b1 := cell_of_row w1 g 1 _ _ _ H3.out.blk
            have b2 := cell_of_row w1 g 2 _ _ _ H3.out.blk
            have f1 := frozen_of_row w1 g 1 _ _ H3.out.blk
            have f2 := frozen_of_row w1 g 2 _ _ H3.out.blk
            simp only [List.getElem?_toArray, List.getElem?_cons_succ, List.getElem?_cons_zero] at b1 b2
            have hgl1 := H3.out.lt
            by_cases h192 : 192 ≤ y.toNat
            · have e192 : decide ((192 : Int) ≤ (y.toNat : Int)) = true := decide_eq_true (by omega)
              clear b1 f1 f2
              go_wp2_with fail
              refine (number_any base g c (at_ + 1) 1 A b false w1 H3.out (by omega)).mono ?_
              rintro e w2 (⟨_, k2, rfl, k3, k4⟩ | ⟨k1, rfl, k3, k4⟩)
              · obtain ⟨z, hzz, hzn⟩ := num_one k2
                rw [hzn]
                have hz256 := z.toNat_lt
                have K2 := Lib.hid k2
                have K3 := Lib.hid k3
                have K4 := Lib.hid (grown_trans H4.out k4)
                have HZ := Lib.hid hzz
                have b1 := cell_of_row w2 g 1 _ _ _ k3.blk
                have b2 := cell_of_row w2 g 2 _ _ _ k3.blk
                have f1 := frozen_of_row w2 g 1 _ _ k3.blk
                have f2 := frozen_of_row w2 g 2 _ _ k3.blk
                simp only [List.getElem?_toArray, List.getElem?_cons_succ, List.getElem?_cons_zero] at b1 b2
                have hgl2 := k3.lt
                obtain ⟨pl, hpl⟩ : ∃ pl, pl = (y.toNat - 192) * 256 + z.toNat := ⟨_, rfl⟩
                have hplb : pl ≤ 20000 := by omega
                have hor : bits .or .i64 ((y.toNat : Int) * 256) (z.toNat : Int) = (pl : Int) + 49152 := by
                  have h1 := i64_or (a := y.toNat * 256) (b := z.toNat) (by omega) (by omega)
                  rw [show y.toNat * 256 ||| z.toNat = y.toNat * 256 + z.toNat by rw [Nat.mul_comm]; exact or_add 8 y.toNat z.toNat hz256] at h1
                  rw [Int.natCast_mul] at h1
                  rw [show ((y.toNat : Int) * 256) = (y.toNat : Int) * ((256 : Nat) : Int) from rfl, h1]
                  omega
                have HPL := Lib.hid hpl
                have hE : Hid (((pl : Int) + 49152 - 49152) = (pl : Int)) := Lib.hid (by omega)
                clear k2 k3 k4 hzz hzn hpl
                by_cases hok : td + 1 ≤ 16 ∧ pl < at_
                · have hgo := nstep_ptr (sg := sg) (td := td) (bh := bh) (acc := acc) HY.out h192 HZ.out hok.1 (by rw [← HPL.out]; exact hok.2)
                  rw [← HPL.out] at hgo
                  have HNx := Lib.hid hgo
                  have d16 : decide ((16 : Int) < (td : Int) + 1) = false := decide_eq_false (by omega)
                  have dat : decide ((at_ : Int) ≤ (pl : Int)) = false := decide_eq_false (by omega)
                  have dat' : decide (at_ ≤ pl) = false := decide_eq_false (by omega)
                  have hlp : pl < at_ := hok.2
                  have hlt16 : td + 1 ≤ 16 := hok.1
                  clear hgo hok
                  by_cases htd0 : td = 0
                  · have HT := Lib.hid htd0
                    have et : ((td : Int) == 0) = true := by simp; omega
                    have hrow := own_grown HA.out.row K4.out (own_ne_r HA.out.row HA.out.r)
                    have hN1 := HNx.out
                    rw [if_pos HT.out, show td + 1 = 1 by omega] at hN1
                    have HL := Lib.hid (HA.out.ptr hN1 (grown_trans HA.out.grown K4.out) K3.out hrow K2.out (by omega) hlen)
                    clear hrow hN1
                    go_wp2_with fail
                    go_roundw
                    case rel => exact .inl ⟨pl, acc, sg, 1, at_ + 2, rfl, rfl, by go_num, by omega, by omega, hsg, HL⟩
                    case measure =>
                      have hm := ms_ptr (n := b.length) (td := td) (p := pl) hlt16 hat
                      rw [show td + 1 = 1 by omega] at hm
                      simp only [intOf]
                      have e1 := rnMs_ok (td := 1) HL.out.r
                      have e2 := rnMs_ok (td := td) HA.out.r
                      rw [e2]
                      rw [show ((1 : Nat) : Int) = 1 from rfl] at e1
                      rw [e1]
                      exact hm
                  · have HT := Lib.hid htd0
                    have et : ((td : Int) == 0) = false := by simp; omega
                    have hrow := own_grown HA.out.row K4.out (own_ne_r HA.out.row HA.out.r)
                    have hN1 := HNx.out
                    rw [if_neg HT.out] at hN1
                    have HL := Lib.hid (HA.out.ptr hN1 (grown_trans HA.out.grown K4.out) K3.out hrow HA.out.bh (by omega) hlen)
                    clear hrow hN1
                    go_wp2_with fail
                    go_roundw
                    case rel => exact .inl ⟨pl, acc, sg, td + 1, bh, rfl, by go_num, rfl, by omega, hlt16, hsg, HL⟩
                    case measure =>
                      have hm := ms_ptr (n := b.length) (td := td) (p := pl) hlt16 hat
                      simp only [intOf]
                      have e1 := rnMs_ok (td := td + 1) HL.out.r
                      have e2 := rnMs_ok (td := td) HA.out.r
                      rw [e2]
                      rw [Int.natCast_add] at e1
                      rw [show ((td : Int) + 1) = (td : Int) + ((1 : Nat) : Int) from rfl, e1]
                      exact hm
                · have hgo := nstep_ptr_no (sg := sg) (td := td) (bh := bh) (acc := acc) HY.out h192 HZ.out (by rw [← HPL.out]; exact hok)
                  have HNx := Lib.hid hgo
                  have HL := Lib.hid (RnNo.mk (p0 := p0) ⟨_, (K3.out.setB true (fun e => by cases e)).setAt pl (by omega) (fun e => by cases e)⟩ (grown_trans (grown_trans (grown_trans HA.out.grown K4.out) (grown_set _ _ _ _)) (grown_set _ _ _ _)) (HA.out.run none (.done HNx.out)))
                  have HOK := Lib.hid hok
                  clear hgo hok
                  have htde : ((td : Int) == 0) = true ∨ ((td : Int) == 0) = false := by cases ((td : Int) == 0) <;> simp
                  by_cases h16 : td + 1 ≤ 16
                  · have d16 : decide ((16 : Int) < (td : Int) + 1) = false := decide_eq_false (by omega)
                    have hpa : at_ ≤ pl := by
                      rcases Nat.lt_or_ge pl at_ with h | h
                      · exact absurd ⟨h16, h⟩ HOK.out
                      · exact h
                    have dat : decide ((at_ : Int) ≤ (pl : Int)) = true := decide_eq_true (by omega)
                    have dat' : decide (at_ ≤ pl) = true := decide_eq_true hpa
                    rcases htde with et | et
                    all_goals
                      go_wp2_with fail
                      go_roundw
                      case rel => exact .inr HL
                      case measure =>
                        simp only [intOf]
                        obtain ⟨pq, hpq⟩ := HL.out.r
                        rw [rnMs_no hpq, rnMs_ok HA.out.r]
                        omega
                  · have d16 : decide ((16 : Int) < (td : Int) + 1) = true := decide_eq_true (by omega)
                    rcases htde with et | et
                    all_goals
                      go_wp2_with fail
                      go_roundw
                      case rel => exact .inr HL
                      case measure =>
                        simp only [intOf]
                        obtain ⟨pq, hpq⟩ := HL.out.r
                        rw [rnMs_no hpq, rnMs_ok HA.out.r]
                        omega
              · have K1 : Hid (b.length < at_ + 1 + 1) := Lib.hid (by rcases k1 with h | h; cases h; exact h)
                have K3 := Lib.hid k3
                have K4 := Lib.hid (grown_trans H4.out k4)
                have b1 := cell_of_row w2 g 1 _ _ _ k3.blk
                have b2 := cell_of_row w2 g 2 _ _ _ k3.blk
                have f1 := frozen_of_row w2 g 1 _ _ k3.blk
                have f2 := frozen_of_row w2 g 2 _ _ k3.blk
                simp only [List.getElem?_toArray, List.getElem?_cons_succ, List.getElem?_cons_zero] at b1 b2
                have hgl2 := k3.lt
                obtain ⟨pl, hpl⟩ : ∃ pl, pl = (y.toNat - 192) * 256 := ⟨_, rfl⟩
                have hplb : pl ≤ 20000 := by omega
                have hor : bits .or .i64 ((y.toNat : Int) * 256) 0 = (pl : Int) + 49152 := by
                  have h1 := i64_or (a := y.toNat * 256) (b := 0) (by omega) (by omega)
                  rw [Nat.or_zero, Int.natCast_mul] at h1
                  rw [show ((y.toNat : Int) * 256) = (y.toNat : Int) * ((256 : Nat) : Int) from rfl, show (0 : Int) = ((0 : Nat) : Int) from rfl, h1]
                  omega
                have HNx := Lib.hid (nstep_ptr_end (sg := sg) (td := td) (bh := bh) (acc := acc) HY.out h192 K1.out)
                have HL := Lib.hid (RnNo.mk (p0 := p0) ⟨_, (K3.out.setB true (fun e => by cases e)).setAt pl (by omega) (fun e => by cases e)⟩ (grown_trans (grown_trans (grown_trans HA.out.grown K4.out) (grown_set _ _ _ _)) (grown_set _ _ _ _)) (HA.out.run none (.done HNx.out)))
                have htde : ((td : Int) == 0) = true ∨ ((td : Int) == 0) = false := by cases ((td : Int) == 0) <;> simp
                clear k1 k3 k4 hpl
                rcases htde with et | et
                all_goals
                  go_wp2_with fail
                  go_roundw
                  case rel => exact .inr HL
                  case measure =>
                    simp only [intOf]
                    obtain ⟨pq, hpq⟩ := HL.out.r
                    rw [rnMs_no hpq, rnMs_ok HA.out.r]
                    omega
            · have e192 : decide ((192 : Int) ≤ (y.toNat : Int)) = false := decide_eq_false (by omega)
              have HNx := Lib.hid (nstep_oth (sg := sg) (td := td) (bh := bh) (acc := acc) HY.out (by omega) (by omega))
              go_wp2_with fail
              have HL := Lib.hid (RnNo.mk (p0 := p0) ⟨_, H3.out.setB true (fun e => by cases e)⟩ (grown_trans (grown_trans HA.out.grown H4.out) (grown_set _ _ _ _)) (HA.out.run none (.done HNx.out)))
              go_roundw
              case rel => exact .inr HL
              case measure =>
                simp only [intOf]
                obtain ⟨pq, hpq⟩ := HL.out.r
                rw [rnMs_no hpq, rnMs_ok HA.out.r]
                omega
      · have H1 : Hid (b.length < at_ + 1) := Lib.hid (by rcases h1 with h | h; cases h; exact h)
        have H3 := Lib.hid h3
        have H4 := Lib.hid h4
        have HD := Lib.hid (HA.out.done (nstep_end H1.out))
        have HGr := Lib.hid (grown_trans HA.out.grown h4)
        have hrow := own_grown HA.out.row h4 (own_ne_r HA.out.row HA.out.r)
        have HROW := Lib.hid hrow
        have hacc := HA.out.acc
        have hjn := HA.out.jn
        simp only at hacc hjn
        have b1 := cell_of_row w1 g 1 _ _ _ h3.blk
        have f1 := frozen_of_row w1 g 1 _ _ h3.blk
        simp only [List.getElem?_toArray, List.getElem?_cons_succ, List.getElem?_cons_zero] at b1
        have hgl1 := h3.lt
        clear h1 h3 h4 c1 c2 hrow
        by_cases htd0 : td = 0
        · subst htd0
          have J := join_own (base := w.heap.size) acc w1 (HEw.out w1 HGr.out) HROW.out HA.out.nil (by omega) (by omega)
          go_wp2_with fail
          refine J.mono ?_
          rintro e w2 ⟨rfl, hb2⟩
          have HB2 := Lib.hid hb2
          clear J hb2
          go_wp2_with fail
          go_ret
          unfold RNamePost
          rw [HD.out]
          exact ⟨_, at_, rfl, H3.out.grown HB2.out, grown_trans HGr.out (grown_below HB2.out)⟩
        · have d0 : decide ((0 : Int) < (td : Int)) = true := decide_eq_true (by omega)
          have hR2 := H3.out.setAtI bh (bh : Nat) rfl (by have := HA.out.bh; simp only at this; omega) (fun e => by cases e)
          have hG2 := grown_trans HGr.out (grown_set w1 g 1 (.int .i64 (bh : Nat)))
          have HR2 := Lib.hid hR2
          have HG2 := Lib.hid hG2
          have J := join_own (base := w.heap.size) acc (w1.setCell ⟨g, 1, none⟩ (.int .i64 (bh : Nat))) (HEw.out _ hG2) (own_grown HROW.out (grown_set _ _ _ _) (own_ne_r HROW.out H3.out)) HA.out.nil (by omega) (by omega)
          clear hR2 hG2
          go_wp2_with fail
          refine J.mono ?_
          rintro e w2 ⟨rfl, hb2⟩
          have HB2 := Lib.hid hb2
          clear J hb2
          go_wp2_with fail
          go_ret
          unfold RNamePost
          rw [HD.out]
          exact ⟨_, bh, rfl, HR2.out.grown HB2.out, grown_trans HG2.out (grown_below HB2.out)⟩
    · obtain ⟨p, hp⟩ := HN.out.r
      have c2 := cell_of_row wr g 2 _ _ _ hp.blk
      simp only [List.getElem?_toArray, List.getElem?_cons_succ, List.getElem?_cons_zero] at c2
      have HP := Lib.hid hp
      clear hp
      go_wp2_with fail
      go_ret
      unfold RNamePost
      rw [nameF_eq HN.out.run]
      exact ⟨⟨#[]⟩, p, rfl, HP.out, HN.out.grown⟩
end Go.Proofs.YtakfokdjdljjjaaDoor
