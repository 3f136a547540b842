/-
  The walk of order's first: the source that words begin with. Conditions: the library's variable MaxLen holds some number; the words lie in a slice of that length, and none is too long.
-/
import Derived.Test.YtpgkopnnfhlhbaaDoorOrdRead
import Derived.StillTailTactics
namespace Go.Proofs.YtpgkopnnfhlhbaaDoor
open Go.RowKit

/-- words that stand in block b -/
def WordsB (w : World) (b : Nat) (A : Option Addr) (l : List ByteArray) : Prop := l ≠ [] → ∃ o, A = some ⟨b, o, none⟩ ∧ b < w.heap.size ∧ ∀ j, j < l.length → w.cell? ⟨b, o + j, none⟩ = some (.string (l.getD j ByteArray.empty))
theorem WordsB.later {w w' : World} {b : Nat} {A : Option Addr} {l : List ByteArray} (h : WordsB w b A l) (hs : w.heap.size ≤ w'.heap.size) (hb : b < w.heap.size → w'.heap[b]? = w.heap[b]?) : WordsB w' b A l := fun hl => by
  obtain ⟨o, e, h1, h2⟩ := h hl
  exact ⟨o, e, Nat.lt_of_lt_of_le h1 hs, fun j hj => (World.cell?_of_block (a := ⟨b, o + j, none⟩) (hb h1)).trans (h2 j hj)⟩
/-- what first answers -/
def FsPost (w : World) (b : Nat) (xs : List ByteArray) (e : Ending) (w' : World) : Prop :=
  Below w.heap.size w w' ∧ ((firstF (xs.map (·.data.toList)) = none ∧ e = .returned (.tuple #[.agg zS, .slice none 0 0, .bool false])) ∨
    ∃ (s : Src) (rest : List ByteArray) (A : Option Addr), firstF (xs.map (·.data.toList)) = some (s, rest.map (·.data.toList)) ∧ WordsB w b A rest ∧ (∀ y ∈ rest, y ∈ xs) ∧ rest.length < xs.length ∧ e = .returned (.tuple #[.agg (srcV s), .slice A rest.length rest.length, .bool true]))
theorem first_kind {x : ByteArray} {t : List ByteArray} (h : kindW x.data.toList = 0) : firstF ((x :: t).map (·.data.toList)) = none := by
  rw [List.map_cons, firstF, if_pos h]
theorem first_alone {x : ByteArray} {t : List ByteArray} (h : kindW x.data.toList ≠ 0) (ht : (t.map (·.data.toList)).head? ≠ some [91]) : firstF ((x :: t).map (·.data.toList)) = some ((kindW x.data.toList, r0), t.map (·.data.toList)) := by
  rw [List.map_cons, firstF, if_neg h, if_neg ht]
theorem first_more {x t0 : ByteArray} {u : List ByteArray} (h : kindW x.data.toList ≠ 0) (ht : t0.data.toList = [91]) : firstF ((x :: t0 :: u).map (·.data.toList)) =
    if ((u.map (·.data.toList)).takeWhile fun y => y != [93]).length < u.length then
      (match turnsA r0 ((u.map (·.data.toList)).take ((u.map (·.data.toList)).takeWhile fun y => y != [93]).length) with
      | none => none
      | some r => some ((kindW x.data.toList, r), (u.drop (((u.map (·.data.toList)).takeWhile fun y => y != [93]).length + 1)).map (·.data.toList)))
    else none := by
  obtain ⟨_, _, _, i4⟩ := takeW_spec (u.map (·.data.toList))
  rw [i4, List.map_drop]
  rw [List.map_cons, List.map_cons, firstF, if_neg h, List.head?_cons, if_pos (by rw [ht]), List.tail_cons, List.length_map]
  rfl
theorem grown_drew {A B : World} {r : Option Nat} (h : A.grownBy B r) : A.grownBy B.drew r := ⟨h.os, h.tape, h.output, h.size, h.block⟩
theorem heap_drew (B : World) (p : Nat) (o : Option Obj) (h : B.heap[p]? = o) : B.drew.heap[p]? = o := h
/-- a source that is stored cell by cell -/
theorem set6 {W : World} {p : Nat} (h : W.heap[p]? = some (.cells zS 30 (0, 0))) (v0 v1 v2 v3 v4 v5 : Value) :
    ((((((W.setCell ⟨p, 0, none⟩ v0).setCell ⟨p, 1, none⟩ v1).setCell ⟨p, 2, none⟩ v2).setCell ⟨p, 3, none⟩ v3).setCell ⟨p, 4, none⟩ v4).setCell ⟨p, 5, none⟩ v5).drew.heap[p]? = some (.cells #[v0, v1, v2, v3, v4, v5] 30 (0, 0)) ∧
    W.grownBy ((((((W.setCell ⟨p, 0, none⟩ v0).setCell ⟨p, 1, none⟩ v1).setCell ⟨p, 2, none⟩ v2).setCell ⟨p, 3, none⟩ v3).setCell ⟨p, 4, none⟩ v4).setCell ⟨p, 5, none⟩ v5).drew (some p) := by
  have g : ∀ {A B : World} (j : Nat) (u : Value), A.grownBy B (some p) → A.grownBy (B.setCell ⟨p, j, none⟩ u) (some p) := fun {A B} j u h =>
    ⟨h.os, h.tape, h.output, Nat.le_trans h.size (Nat.le_of_eq (by simp [World.setCell])), fun k hk hne => (Go.Deep.blk_setCell_other _ _ _ _ (fun e => hne (by rw [e]))).trans (h.block k hk hne)⟩
  have g6 := g 5 v5 (g 4 v4 (g 3 v3 (g 2 v2 (g 1 v1 (g 0 v0 (World.grownBy.refl W (some p)))))))
  refine ⟨heap_drew _ _ _ ?_, grown_drew g6⟩
  have st : ∀ (A : World) (c c' : Array Value) (j : Nat) (u : Value), A.heap[p]? = some (.cells c 30 (0, 0)) → c.setIfInBounds j u = c' → (A.setCell ⟨p, j, none⟩ u).heap[p]? = some (.cells c' 30 (0, 0)) := fun A c c' j u h e => by rw [← e]; exact heap_setCell_same A p j _ _ u h
  have k0 := st W zS #[v0, .bool false, .bool false, .bool false, .bool false, .bool false] 0 v0 h rfl
  have k1 := st _ _ #[v0, v1, .bool false, .bool false, .bool false, .bool false] 1 v1 k0 rfl
  have k2 := st _ _ #[v0, v1, v2, .bool false, .bool false, .bool false] 2 v2 k1 rfl
  have k3 := st _ _ #[v0, v1, v2, v3, .bool false, .bool false] 3 v3 k2 rfl
  have k4 := st _ _ #[v0, v1, v2, v3, v4, .bool false] 4 v4 k3 rfl
  exact st _ _ #[v0, v1, v2, v3, v4, v5] 5 v5 k4 rfl
set_option maxRecDepth 100000 in
set_option maxHeartbeats 4000000 in
theorem first_e (n b o : Nat) (x : ByteArray) (t : List ByteArray) (w : World) (he : Env w) (hbl : b < w.heap.size) (hc : ∀ j, j < (x :: t).length → w.cell? ⟨b, o + j, none⟩ = some (.string ((x :: t).getD j ByteArray.empty))) (hn : t.length = n) (hn2 : n ≤ 1000000000)
    (hs : ∀ y ∈ x :: t, y.size < 4294967281) : Calls Tryd.prog 17 #[.slice (some ⟨b, o, none⟩) (n + 1 : Nat) (n + 1 : Nat)] w (FsPost w b (x :: t)) := by
  have HZ := Lib.hid zeroSrc
  have HBz := Lib.hid builtZero
  have HSZ : Hid ((Tryd.prog.info? 30).map (·.size) = some zS.size) := Lib.hid sizeSrc
  have H1 := Lib.hid zS_one
  have cx : w.cell? ⟨b, o, none⟩ = some (.string x) := hc 0 (by simp)
  have hw1b : Below w.heap.size w (w.alloc (.cells zS 30)) := (Below.refl _ w).alloc (Nat.le_refl _) _
  have cx1 : (w.alloc (.cells zS 30)).cell? ⟨b, o, none⟩ = some (.string x) := (hw1b.cell (p := ⟨b, o, none⟩) hbl).trans cx
  have HR1 := Lib.hid (heap_alloc_last w (.cells zS 30))
  have HB1 := Lib.hid hw1b
  have hs1 : (w.alloc (.cells zS 30)).heap.size = w.heap.size + 1 := World.size_alloc _ _
  obtain ⟨Z, hZ⟩ : ∃ Z, Z = zS := ⟨_, rfl⟩
  rw [← hZ] at HZ HBz HSZ H1 cx1 HR1 HB1 hs1
  have HZe := Lib.hid hZ
  have HCL := Lib.hid hc
  have HS := Lib.hid hs
  have HE := Lib.hid he
  have hkd := fun W => kindOf_e x W
  obtain ⟨kd, hkdd⟩ : ∃ kd, kd = kindW x.data.toList := ⟨_, rfl⟩
  rw [← hkdd] at hkd
  have HKD := Lib.hid hkdd
  have HK := Lib.hid hkd
  have hSk : Hid ((Tryd.prog.info? 30).map (·.size) = some (srcV (kd, r0)).size) := Lib.hid sizeSrc
  have hZk : Hid (Z.size = (srcV (kd, r0)).size) := Lib.hid (by rw [hZ]; rfl)
  have H1k := Lib.hid (srcV_one (kd, r0))
  have HPL := Lib.hid (fun W => plain_e kd W)
  have hF0 : ∀ w2, Below (w.alloc (.cells Z 30)).heap.size (w.alloc (.cells Z 30)) w2 → FAt w (w2.alloc (.cells (srcV (kd, r0)) 30)) w2.heap.size (kd, r0) := fun w2 hb => by
    have hb3 : Below w2.heap.size w2 (w2.alloc (.cells (srcV (kd, r0)) 30)) := (Below.refl _ _).alloc (Nat.le_refl _) _
    have hsz := hb.size
    rw [hs1] at hb hsz
    refine ⟨(HB1.out.trans (hb.mono (by omega))).trans (hb3.mono (by omega)), by omega, (hb3.block _ (by omega)).trans ((hb.block _ (by omega)).trans (by rw [HR1.out, hZ])), heap_alloc_last _ _⟩
  obtain ⟨D, hD⟩ : ∃ D, D = srcV (kd, r0) := ⟨_, rfl⟩
  rw [← hD] at hSk hZk H1k HPL hF0
  have HF0 := Lib.hid hF0
  have hc0 : ∀ W g, FAt w W g (kd, r0) → W.cell? ⟨g, 0, none⟩ = some (.int .i64 kd) := fun W g h => by rw [cell_of_row W g 0 _ _ (0, 0) h.src]; rfl
  have HC0 := Lib.hid hc0
  have HDe := Lib.hid hD
  clear hw1b cx hc hZ hkd hs hkdd hD he hF0 hc0
  by_cases hk0 : kd = 0
  · have HN0 : Hid (firstF ((x :: t).map (·.data.toList)) = none) := Lib.hid (first_kind (by rw [← HKD.out]; exact hk0))
    subst hk0
    go_enter Tryd.func17, Tryd.ntmps17
    go_wp2_with (first
      | (refine wpList_alloc_z rfl 30 rfl Z HZ.out ?_; go_simp)
      | (go_at_call 26; refine (HK.out _).mono ?_; rintro e w1 ⟨rfl, rfl⟩)
      | (go_at_call 21; refine (HPL.out _).mono ?_; rintro e w2 ⟨rfl, hb2⟩; have HF3 := Lib.hid (HF0.out w2 hb2); have HB2 := Lib.hid (show w.heap.size ≤ w2.heap.size from Nat.le_trans (by rw [hs1]; omega) hb2.size); clear hb2)
      | (refine wpList_store_new rfl 30 (.tmp 5) (.tmp 14) rfl w2.heap.size rfl Z D 30 rfl rfl hSk.out hZk.out H1k.out ?_; go_simp
         have c0 := HC0.out _ _ HF3.out
         revert HF3 c0
         generalize (w2.alloc (.cells D 30)) = w3
         generalize w2.heap.size = g5
         intro HF3 c0)
      | (refine wpList_build_z rfl 30 #[] rfl Z HBz.out ?_; go_simp)
      | (refine wpList_store_blk rfl 30 (.tmp 2) (.tmp 18) rfl w.heap.size Z Z 30 (by rw [HZe.out]; exact HF3.out.res) rfl rfl HSZ.out rfl H1.out ?_; intro w8 hg8 hw8 hs8; go_simp))
    exact bodyPost_ret (results_cell_tmp2 rfl _ w8 w.heap.size 30 Z (0, 0) _ rfl hg8.out Tryd.underlying30 rfl HSZ.out) rfl ⟨HF3.out.ret hw8.out, .inl ⟨HN0.out, by rw [HZe.out]; rfl⟩⟩
  have hkI : ¬ (kd : Int) = 0 := by omega
  have HK0 : Hid (kindW x.data.toList ≠ 0) := Lib.hid (by rw [← HKD.out]; exact hk0)
  clear hk0
  obtain ⟨A1, hA1, hsl⟩ := sl_from b o (n + 1) 1 (by omega)
  have hsl1 : ∀ W : World, (Instr.sliceAt 33 (.slice (some ⟨b, o, none⟩) (n + 1) (n + 1)) (some (.int .i64 1)) none none).run Tryd.prog W = .ok (.slice A1 n n) W := hsl
  have HA1 := Lib.hid hA1
  clear hsl hA1
  cases t with
  | nil =>
    obtain rfl : n = 0 := by simpa using hn.symm
    have HO : Hid (firstF ([x].map (·.data.toList)) = some ((kd, r0), ([] : List ByteArray).map (·.data.toList))) := Lib.hid (by rw [HKD.out]; exact first_alone HK0.out (by simp))
    go_enter Tryd.func17, Tryd.ntmps17
    go_wp2_with (first
      | (refine wpList_alloc_z rfl 30 rfl Z HZ.out ?_; go_simp)
      | (go_at_call 26; refine (HK.out _).mono ?_; rintro e w1 ⟨rfl, rfl⟩)
      | (go_at_call 21; refine (HPL.out _).mono ?_; rintro e w2 ⟨rfl, hb2⟩; have HF3 := Lib.hid (HF0.out w2 hb2); have HB2 := Lib.hid (show w.heap.size ≤ w2.heap.size from Nat.le_trans (by rw [hs1]; omega) hb2.size); clear hb2)
      | (refine wpList_store_new rfl 30 (.tmp 5) (.tmp 14) rfl w2.heap.size rfl Z D 30 rfl rfl hSk.out hZk.out H1k.out ?_; go_simp
         have c0 := HC0.out _ _ HF3.out
         revert HF3 c0
         generalize (w2.alloc (.cells D 30)) = w3
         generalize w2.heap.size = g5
         intro HF3 c0)
      | (refine wpList_load_row rfl 30 (.tmp 5) rfl g5 rfl 30 D (0, 0) _ (by rw [HDe.out]; exact HF3.out.src) Tryd.underlying30 rfl hSk.out ?_; go_simp)
      | (refine wpList_store_blk rfl 30 (.tmp 2) (.tmp 30) rfl w.heap.size Z D 30 (by rw [HZe.out]; exact HF3.out.res) rfl rfl hSk.out hZk.out H1k.out ?_; intro w8 hg8 hw8 hs8; go_simp))
    exact bodyPost_ret (results_cell_tmp2 rfl _ w8 w.heap.size 30 D (0, 0) _ rfl hg8.out Tryd.underlying30 rfl hSk.out) rfl ⟨HF3.out.ret hw8.out, .inr ⟨(kd, r0), [], A1, HO.out, fun h => absurd rfl h, (fun y hy => by cases hy), by simp, by rw [HDe.out]; rfl⟩⟩
  | cons t0 u =>
    obtain rfl : A1 = some ⟨b, o + 1, none⟩ := HA1.out (by rw [← hn, List.length_cons]; omega)
    have hn0 : 0 < n := by rw [← hn, List.length_cons]; omega
    have hnI : ¬ (n : Int) = 0 := by omega
    have hnP : (0 : Int) < (n : Int) := by omega
    have hnB : ((n : Int) == 0) = false := by simp; omega
    have HU : Hid (u.length + 1 = n) := Lib.hid (by rw [← hn, List.length_cons])
    have HCW : Hid (∀ W : World, Below w.heap.size w W → ∀ j, j < (x :: t0 :: u).length → W.cell? ⟨b, o + j, none⟩ = some (.string ((x :: t0 :: u).getD j ByteArray.empty))) :=
      Lib.hid fun W hW j hj => (hW.cell (p := ⟨b, o + j, none⟩) hbl).trans (HCL.out j hj)
    have HC1 : Hid (∀ W : World, Below w.heap.size w W → W.cell? ⟨b, o + 1, none⟩ = some (.string t0)) := Lib.hid fun W hW => HCW.out W hW 1 (by simp)
    have HBL := Lib.hid hbl
    clear HCL hbl hn HA1
    by_cases h91 : t0.data.toList = [91]
    rotate_left
    · have HO : Hid (firstF ((x :: t0 :: u).map (·.data.toList)) = some ((kd, r0), (t0 :: u).map (·.data.toList))) := Lib.hid (by
        rw [HKD.out]; exact first_alone HK0.out (by rw [List.map_cons, List.head?_cons]; exact fun e => h91 (by injection e)))
      have f1 := str_ne h91
      clear h91
      go_enter Tryd.func17, Tryd.ntmps17
      go_wp2_with (first
          | (refine wpList_alloc_z rfl 30 rfl Z HZ.out ?_; go_simp)
          | (go_at_call 26; refine (HK.out _).mono ?_; rintro e w1 ⟨rfl, rfl⟩)
          | (go_at_call 21; refine (HPL.out _).mono ?_; rintro e w2 ⟨rfl, hb2⟩; have HF3 := Lib.hid (HF0.out w2 hb2); clear hb2)
          | (refine wpList_store_new rfl 30 (.tmp 5) (.tmp 14) rfl w2.heap.size rfl Z D 30 rfl rfl hSk.out hZk.out H1k.out ?_; go_simp
             have c0 := HC0.out _ _ HF3.out
             have c1 := HC1.out _ HF3.out.below
             revert HF3 c0 c1
             generalize (w2.alloc (.cells D 30)) = w3
             generalize w2.heap.size = g5
             intro HF3 c0 c1)
          | (refine wpList_load_row rfl 30 (.tmp 5) rfl g5 rfl 30 D (0, 0) _ (by rw [HDe.out]; exact HF3.out.src) Tryd.underlying30 rfl hSk.out ?_; go_simp)
          | (refine wpList_store_blk rfl 30 (.tmp 2) (.tmp 30) rfl w.heap.size Z D 30 (by rw [HZe.out]; exact HF3.out.res) rfl rfl hSk.out hZk.out H1k.out ?_; intro w8 hg8 hw8 hs8; go_simp))
      exact bodyPost_ret (results_cell_tmp2 rfl _ w8 w.heap.size 30 D (0, 0) _ rfl hg8.out Tryd.underlying30 rfl hSk.out) rfl ⟨HF3.out.ret hw8.out, .inr ⟨(kd, r0), t0 :: u, _, HO.out,
        fun _ => ⟨o + 1, rfl, HBL.out, fun j hj => by
          have := HCW.out w (Below.refl _ w) (j + 1) (by rw [List.length_cons]; omega)
          rw [show o + 1 + j = o + (j + 1) by omega, this, List.getD_cons_succ]⟩, (fun y hy => List.mem_cons_of_mem _ hy), by simp, by rw [HDe.out, List.length_cons, HU.out]; rfl⟩⟩
    · have HO := Lib.hid (first_more (t0 := t0) (u := u) HK0.out h91)
      obtain ⟨L, hL⟩ : ∃ L, L = ((u.map (·.data.toList)).takeWhile fun y => y != [93]).length := ⟨_, rfl⟩
      rw [← hL] at HO
      have hix := idx_of t0 u h91 L hL
      have f1 := str_eq h91
      have HIX : Hid (∀ W : World, Below w.heap.size w W → Calls Tryd.prog 27 #[.slice (some ⟨b, o + 1, none⟩) n n, .string ⟨#[93]⟩] W fun e w' => e = .returned (.int .i64 (Lib.idxOfS ((t0 :: u).take (t0 :: u).length) ⟨#[93]⟩)) ∧ w' = W) := Lib.hid fun W hW => by
        have h := Tryd.slices_Index_string b (o + 1) n n (t0 :: u) ⟨#[93]⟩ W (by rw [List.length_cons, HU.out]; exact Nat.le_refl _) (by omega) (fun j hj => by
          have := HCW.out W hW (j + 1) (by rw [List.length_cons]; omega)
          rw [show o + 1 + j = o + (j + 1) by omega, this, List.getD_cons_succ])
        rw [List.length_cons, HU.out]
        exact h
      clear h91 hL
      by_cases hLu : L < u.length
      rotate_left
      · have HN0 : Hid (firstF ((x :: t0 :: u).map (·.data.toList)) = none) := Lib.hid (by rw [HO.out, if_neg hLu])
        rw [hix.2 hLu] at HIX
        clear hix HO
        go_enter Tryd.func17, Tryd.ntmps17
        go_wp2_with (first
            | (refine wpList_alloc_z rfl 30 rfl Z HZ.out ?_; go_simp)
            | (go_at_call 26; refine (HK.out _).mono ?_; rintro e w1 ⟨rfl, rfl⟩)
            | (go_at_call 21; refine (HPL.out _).mono ?_; rintro e w2 ⟨rfl, hb2⟩; have HF3 := Lib.hid (HF0.out w2 hb2); clear hb2)
            | (refine wpList_store_new rfl 30 (.tmp 5) (.tmp 14) rfl w2.heap.size rfl Z D 30 rfl rfl hSk.out hZk.out H1k.out ?_; go_simp
               have c0 := HC0.out _ _ HF3.out
               have c1 := HC1.out _ HF3.out.below
               revert HF3 c0 c1
               generalize (w2.alloc (.cells D 30)) = w3
               generalize w2.heap.size = g5
               intro HF3 c0 c1)
            | (go_at_call 27; refine (HIX.out _ HF3.out.below).mono ?_; rintro e w6 ⟨rfl, rfl⟩)
            | (refine wpList_build_z rfl 30 #[] rfl Z HBz.out ?_; go_simp)
            | (refine wpList_store_blk rfl 30 (.tmp 2) (.tmp 36) rfl w.heap.size Z Z 30 (by rw [HZe.out]; exact HF3.out.res) rfl rfl HSZ.out rfl H1.out ?_; intro w8 hg8 hw8 hs8; go_simp))
        exact bodyPost_ret (results_cell_tmp2 rfl _ w8 w.heap.size 30 Z (0, 0) _ rfl hg8.out Tryd.underlying30 rfl HSZ.out) rfl ⟨HF3.out.ret hw8.out, .inl ⟨HN0.out, by rw [HZe.out]; rfl⟩⟩
      · have HO2 := Lib.hid (HO.out.trans (if_pos hLu))
        rw [hix.1 hLu] at HIX
        clear hix HO
        obtain ⟨A2, hA2, hsm⟩ := sl_mid b (o + 1) n (L + 1) (by omega) (by have := HU.out; omega)
        obtain ⟨A3, hA3, hsf⟩ := sl_from b (o + 1) n (L + 1 + 1) (by have := HU.out; omega)
        have hsm1 : ∀ W : World, (Instr.sliceAt 33 (.slice (some ⟨b, o + 1, none⟩) n n) (some (.int .i64 1)) (some (.int .i64 ((L : Int) + 1))) none).run Tryd.prog W = .ok (.slice A2 L (n - 1 : Nat)) W := hsm
        obtain ⟨m, hm⟩ : ∃ m, m = n - (L + 1 + 1) := ⟨_, rfl⟩
        rw [← hm] at hA3 hsf
        have hsf1 : ∀ W : World, (Instr.sliceAt 33 (.slice (some ⟨b, o + 1, none⟩) n n) (some (.int .i64 ((L : Int) + 1 + 1))) none none).run Tryd.prog W = .ok (.slice A3 m m) W := hsf
        have HA2 := Lib.hid hA2
        have HA3 := Lib.hid hA3
        have HM := Lib.hid hm
        have hLn : L + 1 < n := by have := HU.out; omega
        have hLI : ¬ ((L : Int) + 1) < 0 := by omega
        clear hsm hsf hA2 hA3 hm
        go_enter Tryd.func17, Tryd.ntmps17
        go_wp2_with (first
            | (refine wpList_alloc_z rfl 30 rfl Z HZ.out ?_; go_simp)
            | (go_at_call 26; refine (HK.out _).mono ?_; rintro e w1 ⟨rfl, rfl⟩)
            | (go_at_call 21; refine (HPL.out _).mono ?_; rintro e w2 ⟨rfl, hb2⟩; have HF3 := Lib.hid (HF0.out w2 hb2); clear hb2)
            | (refine wpList_store_new rfl 30 (.tmp 5) (.tmp 14) rfl w2.heap.size rfl Z D 30 rfl rfl hSk.out hZk.out H1k.out ?_; go_simp
               have c0 := HC0.out _ _ HF3.out
               have c1 := HC1.out _ HF3.out.below
               revert HF3 c0 c1
               generalize (w2.alloc (.cells D 30)) = w3
               generalize w2.heap.size = g5
               intro HF3 c0 c1)
            | (go_at_call 27; refine (HIX.out _ HF3.out.below).mono ?_; rintro e w6 ⟨rfl, rfl⟩))
        obtain ⟨ac, hac⟩ : ∃ ac, ac = (u.map (·.data.toList)).take L := ⟨_, rfl⟩
        have HAC := Lib.hid hac
        have HO3 := HO2.out
        rw [← hac] at HO3
        have HO4 := Lib.hid HO3
        have hd1 : zR = retV (false, false, false, false) := rfl
        clear HO3 HO2 hac c0 c1 HIX hnB hnI hnP hsm1
        go_loopg [41] L (fun gk i wr => ∃ (k : Nat) (q : Ret), i = .int .i64 k ∧ k + gk = L ∧ Hid (FAt w wr g5 (kd, q)) ∧ Hid (turnsA r0 ac = turnsA q (ac.drop k)))
        case atStart => exact ⟨0, r0, rfl, by omega, HF3, Lib.hid (by rw [List.drop_zero])⟩
        case round =>
          obtain ⟨k, q, rfl, hkg, HFk, HTk⟩ := hrel
          by_cases hkL : k < L
          · obtain ⟨g2, rfl⟩ : ∃ g2, gk = g2 + 1 := ⟨gk - 1, by omega⟩
            have hkI : (k : Int) < (L : Int) := by omega
            obtain rfl : A2 = some ⟨b, o + 1 + 1, none⟩ := HA2.out (by omega)
            have hku : k < u.length := by have := HU.out; omega
            have hcy := HCW.out wr HFk.out.below (k + 2) (by rw [List.length_cons, List.length_cons]; omega)
            rw [show o + (k + 2) = o + 1 + 1 + k by omega, List.getD_cons_succ, List.getD_cons_succ] at hcy
            have hys : (u.getD k ByteArray.empty).size < 4294967281 := HS.out _ (by
              rw [List.getD_eq_getElem?_getD, List.getElem?_eq_getElem hku]
              exact List.mem_cons_of_mem _ (List.mem_cons_of_mem _ (List.getElem_mem _)))
            have hdk : ac.drop k = (u.getD k ByteArray.empty).data.toList :: ac.drop (k + 1) := by
              rw [HAC.out, List.drop_take, List.drop_take, getD_map u k hku, show L - k = (L - (k + 1)) + 1 by omega, List.take_succ_cons]
            generalize u.getD k ByteArray.empty = y at hcy hys hdk
            have htk := HTk.out
            rw [hdk, turnsA] at htk
            have hc := turn_e q y wr (HE.out.below HFk.out.below) hys
            have hld : ∀ j v, (retV q).toList[j]? = some v → wr.cell? ((⟨g5, 1, none⟩ : Addr).add j) = some v := fun j v hj => by
              rw [Addr.add_lit, cell_of_row wr g5 (1 + j) _ _ (0, 0) HFk.out.src]
              have h5 : j < 5 := by
                rcases Nat.lt_or_ge j 5 with h | h
                · exact h
                · rw [List.getElem?_eq_none (by exact h)] at hj; cases hj
              have : j = 0 ∨ j = 1 ∨ j = 2 ∨ j = 3 ∨ j = 4 := by omega
              rcases this with rfl | rfl | rfl | rfl | rfl <;> exact hj
            have HLD := Lib.hid hld
            have HHT := Lib.hid htk
            have HSR : Hid ((Tryd.prog.info? 28).map (·.size) = some (retV q).size) := Lib.hid sizeRet
            obtain ⟨R, hR⟩ : ∃ R, R = retV q := ⟨_, rfl⟩
            rw [← hR] at HLD HSR hc
            have HRe := Lib.hid hR
            clear hld htk hdk hys hR
            go_wp2_with (first
              | (refine wpList_load_agg rfl 28 (.tmp 46) rfl ⟨g5, 1, none⟩ rfl R _ HLD.out Tryd.underlying28 rfl HSR.out ?_; go_simp))
            refine hc.mono ?_
            rintro e w5 ⟨hb5, (⟨hn5, rfl⟩ | ⟨q', hq5, rfl⟩)⟩
            · have HF5 := Lib.hid (HFk.out.later hb5)
              have HN0 : Hid (firstF ((x :: t0 :: u).map (·.data.toList)) = none) := Lib.hid (by
                have h1 := HHT.out
                rw [hn5] at h1
                rw [HO4.out, h1])
              have hsub : ((srcV (kd, q)).toList.take 1 ++ zR.toList ++ (srcV (kd, q)).toList.drop (1 + zR.size)).toArray = srcV (kd, (false, false, false, false)) := rfl
              have HSB := Lib.hid hsub
              have HSZR : Hid ((Tryd.prog.info? 28).map (·.size) = some zR.size) := Lib.hid sizeRet
              have HZ1 := Lib.hid zR_one
              have HSS : Hid (1 + zR.size ≤ (srcV (kd, q)).size) := Lib.hid (by show 6 ≤ 6; omega)
              generalize zR = ZR at HSB HSZR HZ1 HSS
              clear hsub hb5 hn5 HHT HTk hc HLD
              go_wp2_with (first
                | (refine wpList_store_sub rfl 28 (.tmp 52) (.tmp 50) rfl g5 1 (srcV (kd, q)) ZR (srcV (kd, (false, false, false, false))) 30 HF5.out.src rfl rfl HSZR.out HSS.out HZ1.out HSB.out ?_; intro w7 hg7 hw7 hs7; have HF7 := Lib.hid (HF5.out.put hw7.out hg7.out); clear hg7 hw7 hs7; go_simp)
                | (refine wpList_build_z rfl 30 #[] rfl Z HBz.out ?_; go_simp)
                | (refine wpList_store_blk rfl 30 (.tmp 2) (.tmp 55) rfl w.heap.size Z Z 30 (by rw [HZe.out]; exact HF7.out.res) rfl rfl HSZ.out rfl H1.out ?_; intro w8 hg8 hw8 hs8; go_simp))
              exact bodyPost_ret (results_cell_tmp2 rfl _ w8 w.heap.size 30 Z (0, 0) _ rfl hg8.out Tryd.underlying30 rfl HSZ.out) rfl ⟨HF7.out.ret hw8.out, .inl ⟨HN0.out, by rw [HZe.out]; rfl⟩⟩
            · have HF5 := Lib.hid (HFk.out.later hb5)
              have HT5 : Hid (turnsA r0 ac = turnsA q' (ac.drop (k + 1))) := Lib.hid (by
                have h1 := HHT.out
                rw [hq5] at h1
                exact h1)
              have hsub : ((srcV (kd, q)).toList.take 1 ++ (retV q').toList ++ (srcV (kd, q)).toList.drop (1 + (retV q').size)).toArray = srcV (kd, q') := rfl
              have HSB := Lib.hid hsub
              have HSZR : Hid ((Tryd.prog.info? 28).map (·.size) = some (retV q').size) := Lib.hid sizeRet
              have HZ1 := Lib.hid (retV_one q')
              have HSS : Hid (1 + (retV q').size ≤ (srcV (kd, q)).size) := Lib.hid (by show 6 ≤ 6; omega)
              generalize retV q' = ZR at HSB HSZR HZ1 HSS
              clear hsub hb5 hq5 HHT HTk hc HLD
              go_wp2_with (first
                | (refine wpList_store_sub rfl 28 (.tmp 52) (.tmp 50) rfl g5 1 (srcV (kd, q)) ZR (srcV (kd, q')) 30 HF5.out.src rfl rfl HSZR.out HSS.out HZ1.out HSB.out ?_; intro w7 hg7 hw7 hs7; have HF7 := Lib.hid (HF5.out.put hw7.out hg7.out); clear hg7 hw7 hs7; go_simp))
              go_roundg g2
              case measure => omega
              case rel => exact ⟨k + 1, q', by go_num, by omega, HF7, HT5⟩
          · obtain rfl : k = L := by omega
            have hkL' : ¬ (k : Int) < (k : Int) := by omega
            have HF : Hid (firstF ((x :: t0 :: u).map (·.data.toList)) = some ((kd, q), (u.drop (k + 1)).map (·.data.toList))) := Lib.hid (by
              have h1 := HTk.out
              rw [List.drop_eq_nil_of_le (by rw [HAC.out, List.length_take]; omega)] at h1
              have h2 := HO4.out
              rw [h1] at h2
              rw [h2, HKD.out]; rfl)
            have hsrc := HFk.out.src
            have hps := HFk.out.res
            have q0 : wr.cell? ⟨g5, 0, none⟩ = some (.int .i64 kd) := by rw [cell_of_row wr g5 0 _ _ (0, 0) hsrc]; rfl
            have q1 : wr.cell? ⟨g5, 1, none⟩ = some (.bool false) := by rw [cell_of_row wr g5 1 _ _ (0, 0) hsrc]; rfl
            have q2 : wr.cell? ⟨g5, 2, none⟩ = some (.bool q.1) := by rw [cell_of_row wr g5 2 _ _ (0, 0) hsrc]; rfl
            have q3 : wr.cell? ⟨g5, 3, none⟩ = some (.bool q.2.1) := by rw [cell_of_row wr g5 3 _ _ (0, 0) hsrc]; rfl
            have q4 : wr.cell? ⟨g5, 4, none⟩ = some (.bool q.2.2.1) := by rw [cell_of_row wr g5 4 _ _ (0, 0) hsrc]; rfl
            have q5 : wr.cell? ⟨g5, 5, none⟩ = some (.bool q.2.2.2) := by rw [cell_of_row wr g5 5 _ _ (0, 0) hsrc]; rfl
            have p0 : wr.cell? ⟨w.heap.size, 0, none⟩ = some (.int .i64 0) := by rw [cell_of_row wr w.heap.size 0 _ _ (0, 0) hps]; rfl
            have p1 : wr.cell? ⟨w.heap.size, 1, none⟩ = some (.bool false) := by rw [cell_of_row wr w.heap.size 1 _ _ (0, 0) hps]; rfl
            have p2 : wr.cell? ⟨w.heap.size, 2, none⟩ = some (.bool false) := by rw [cell_of_row wr w.heap.size 2 _ _ (0, 0) hps]; rfl
            have p3 : wr.cell? ⟨w.heap.size, 3, none⟩ = some (.bool false) := by rw [cell_of_row wr w.heap.size 3 _ _ (0, 0) hps]; rfl
            have p4 : wr.cell? ⟨w.heap.size, 4, none⟩ = some (.bool false) := by rw [cell_of_row wr w.heap.size 4 _ _ (0, 0) hps]; rfl
            have p5 : wr.cell? ⟨w.heap.size, 5, none⟩ = some (.bool false) := by rw [cell_of_row wr w.heap.size 5 _ _ (0, 0) hps]; rfl
            have z0 := frozen_of_row wr w.heap.size 0 _ _ hps
            have z1 := frozen_of_row wr w.heap.size 1 _ _ hps
            have z2 := frozen_of_row wr w.heap.size 2 _ _ hps
            have z3 := frozen_of_row wr w.heap.size 3 _ _ hps
            have z4 := frozen_of_row wr w.heap.size 4 _ _ hps
            have z5 := frozen_of_row wr w.heap.size 5 _ _ hps
            have hnk : (k : Int) + 1 + 1 ≤ (n : Int) := by omega
            clear hsrc hps HTk
            go_wp2_with fail
            go_region
            have h6 := set6 HFk.out.res (.int .i64 kd) (.bool false) (.bool q.1) (.bool q.2.1) (.bool q.2.2.1) (.bool q.2.2.2)
            clear q0 q1 q2 q3 q4 q5 p0 p1 p2 p3 p4 p5 z0 z1 z2 z3 z4 z5
            revert h6
            generalize ((((((wr.setCell ⟨w.heap.size, 0, none⟩ (.int .i64 kd)).setCell ⟨w.heap.size, 1, none⟩ (.bool false)).setCell ⟨w.heap.size, 2, none⟩ (.bool q.1)).setCell ⟨w.heap.size, 3, none⟩ (.bool q.2.1)).setCell ⟨w.heap.size, 4, none⟩ (.bool q.2.2.1)).setCell ⟨w.heap.size, 5, none⟩ (.bool q.2.2.2)).drew = w8
            rintro ⟨hg8, hw8⟩
            go_wp2_with fail
            exact bodyPost_ret (results_cell_tmp2 rfl _ w8 w.heap.size 30 (srcV (kd, q)) (0, 0) _ rfl hg8 Tryd.underlying30 rfl sizeSrc) rfl ⟨HFk.out.ret hw8, .inr ⟨(kd, q), u.drop (k + 1), A3, HF.out,
              (fun hne => by
                have hl : k + 1 < u.length := by
                  rcases Nat.lt_or_ge (k + 1) u.length with h | h
                  · exact h
                  · exact absurd (List.drop_eq_nil_of_le h) hne
                refine ⟨o + 1 + (k + 1 + 1), HA3.out (by have := HU.out; have := HM.out; omega), HBL.out, fun j hj => ?_⟩
                have hj' : j < u.length - (k + 1) := by rw [List.length_drop] at hj; exact hj
                have := HCW.out w (Below.refl _ w) (k + 3 + j) (by rw [List.length_cons, List.length_cons]; omega)
                rw [show o + 1 + (k + 1 + 1) + j = o + (k + 3 + j) by omega, this, show k + 3 + j = (k + 1 + j) + 1 + 1 by omega, List.getD_cons_succ, List.getD_cons_succ, List.getD_eq_getElem?_getD, List.getD_eq_getElem?_getD, List.getElem?_drop]),
              (fun y hy => List.mem_cons_of_mem _ (List.mem_cons_of_mem _ (List.mem_of_mem_drop hy))), by rw [List.length_drop, List.length_cons, List.length_cons]; omega, by
                have e : (u.drop (k + 1)).length = m := by rw [List.length_drop]; have := HU.out; have := HM.out; omega
                rw [e]; rfl⟩⟩
end Go.Proofs.YtpgkopnnfhlhbaaDoor
