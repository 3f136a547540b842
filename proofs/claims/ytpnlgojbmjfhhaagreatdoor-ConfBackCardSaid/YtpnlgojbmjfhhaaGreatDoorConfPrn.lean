/-
  The contract of conf.Print: a line for each server, one for the domains, if there are some, one with all options. Conditions: the configuration lies in memory, and may be; the library's variables hold what their initialisers lay.
-/
import Derived.Test.YtpnlgojbmjfhhaaGreatDoorConfPr
import Derived.Test.YtpnlgojbmjfhhaaGreatDoorAddrPrint
namespace Go.Proofs.YtpnlgojbmjfhhaaGreatDoor
open Go.RowKit

def srvsT (l : List (List UInt8)) : List UInt8 := l.flatMap fun a => lineW wNs [txt a] ++ [10]
def optsT (c : ConfM) : List UInt8 := lineW wOp (optsOf c) ++ [10]
theorem printC_eq (c : ConfM) : printC c = srvsT c.servers ++ (if c.search = [] then [] else lineW wSe c.search ++ [10]) ++ optsT c := by
  unfold printC linesC srvsT optsT
  rw [List.flatMap_append, List.flatMap_append, List.flatMap_map]
  by_cases h : c.search = []
  · rw [if_pos h, if_pos h]; simp
  · rw [if_neg h, if_neg h]; simp
theorem srvsT_take {l : List (List UInt8)} {k : Nat} {a : List UInt8} (h : l[k]? = some a) : srvsT (l.take (k + 1)) = srvsT (l.take k) ++ ([110, 97, 109, 101, 115, 101, 114, 118, 101, 114, 32] ++ txt a ++ [10]) := by
  unfold srvsT
  rw [List.take_add_one, h, List.flatMap_append]
  simp [lineW, nmT, wNs]
theorem srvsT_len : ∀ {l : List (List UInt8)}, (∀ a ∈ l, a.length = 16) → (srvsT l).length ≤ 60 * l.length
  | [], _ => by simp [srvsT]
  | a :: l, h => by
    have ih := srvsT_len (l := l) fun b hb => h b (List.mem_cons_of_mem _ hb)
    have h1 := txt_len (h a List.mem_cons_self)
    unfold srvsT at ih ⊢
    have e : (lineW wNs [txt a] ++ [10]).length = (txt a).length + 12 := by simp [lineW, nmT, wNs]
    rw [List.flatMap_cons, List.length_append, List.length_cons, e]
    omega
theorem join_nm : ∀ {xs : List (List UInt8)}, xs ≠ [] → 32 :: Lib.join xs [32] = nmT xs
  | [], h => absurd rfl h
  | [x], _ => by simp [Lib.join_one, nmT]
  | x :: y :: t, _ => by
    have ih := join_nm (xs := y :: t) (by simp)
    unfold nmT at ih ⊢
    rw [List.flatMap_cons, ← ih]
    unfold Lib.join
    simp [List.intercalate]
theorem join_len' {xs : List (List UInt8)} (h : ∀ t ∈ xs, TA t 0 t) : (Lib.join xs [32]).length ≤ 254 * xs.length := by
  by_cases h0 : xs = []
  · subst h0; simp [Lib.join]
  · have h1 := congrArg List.length (join_nm h0)
    have h2 := nmT_len h
    rw [List.length_cons] at h1
    omega
set_option maxRecDepth 100000 in
set_option maxHeartbeats 16000000 in
theorem cprint_e (c : ConfM) (va : Value) (w : World) (he : AEnv w) (ha : CV w va c) (hR : RightC c) :
    Calls Tryz.prog 12 #[va] w fun e w' => e = .returned (.string (tb (printC c))) ∧ Below w.heap.size w w' := by
  obtain ⟨A, A', ca, rfl, hsa, hea, h16⟩ := ha.form
  obtain ⟨srv, sea, dots, tmo, att⟩ := c
  rw [printC_eq]
  have hO : optsT ⟨srv, sea, dots, tmo, att⟩ = [111, 112, 116, 105, 111, 110, 115, 32, 110, 100, 111, 116, 115, 58] ++ Go.Lib.decDigits dots ++ [32, 116, 105, 109, 101, 111, 117, 116, 58] ++ Go.Lib.decDigits tmo ++ [32, 97, 116, 116, 101, 109, 112, 116, 115, 58] ++ Go.Lib.decDigits att ++ [10] := by
    unfold optsT lineW optsOf nmT optW wOp wNd wTi wAt
    simp [List.flatMap_cons]
  rw [hO]
  simp only [cfV] at *
  have r1 : srv.length ≤ 3 := hR.srv
  have r2 : sea.length ≤ 6 := hR.sea
  have r3 : dots ≤ 15 := hR.dots
  have r4 : tmo ≤ 30 := hR.t2
  have r5 : att ≤ 5 := hR.a2
  have hjl := join_len' hR.out
  have HJN : Hid (sea ≠ [] → 32 :: Lib.join sea [32] = nmT sea) := Lib.hid join_nm
  have HSL : Hid (∀ k, (srvsT (srv.take k)).length ≤ 180) := Lib.hid (fun k => by
    have := srvsT_len (l := srv.take k) (fun a ha => h16 a (List.mem_of_mem_take ha))
    rw [List.length_take] at this
    omega)
  have HE := Lib.hid he
  have HSA := Lib.hid hsa
  have HEA := Lib.hid hea
  have H16 := Lib.hid h16
  obtain ⟨n, hn⟩ : ∃ n, srv.length = n := ⟨_, rfl⟩
  obtain ⟨m, hm⟩ : ∃ m, sea.length = m := ⟨_, rfl⟩
  rw [hn] at hsa r1 ⊢
  rw [hm] at hea hjl r2 ⊢
  have HN := Lib.hid hn
  have HM := Lib.hid hm
  have hb1 : Below w.heap.size w (w.alloc (.cells #[.slice A n ca, .slice A' m m, .int .i64 (dots : Int), .int .i64 (tmo : Int), .int .i64 (att : Int)] 26)) := (Below.refl _ w).alloc (Nat.le_refl _) _
  have hk1 := heap_alloc_last w (.cells #[.slice A n ca, .slice A' m m, .int .i64 (dots : Int), .int .i64 (tmo : Int), .int .i64 (att : Int)] 26)
  have hs1 := World.size_alloc w (.cells #[.slice A n ca, .slice A' m m, .int .i64 (dots : Int), .int .i64 (tmo : Int), .int .i64 (att : Int)] 26)
  have HZ := Lib.hid zeroAddr
  have HZ16 : Hid ((bvs zero16).toArray.size = 16) := Lib.hid rfl
  generalize (bvs zero16).toArray = Z at HZ HZ16
  have hd1 := dec_len dots
  have hd2 := dec_len tmo
  have hd3 := dec_len att
  have HI1 : Hid (∀ W, AEnv W → Calls Tryz.prog 31 #[.int .i64 dots] W fun e w' => e = .returned (.string (tb (Go.Lib.decDigits dots))) ∧ Below W.heap.size W w') := Lib.hid (fun W hW => itoaN_e dots (by omega) W hW)
  have HI2 : Hid (∀ W, AEnv W → Calls Tryz.prog 31 #[.int .i64 tmo] W fun e w' => e = .returned (.string (tb (Go.Lib.decDigits tmo))) ∧ Below W.heap.size W w') := Lib.hid (fun W hW => itoaN_e tmo (by omega) W hW)
  have HI3 : Hid (∀ W, AEnv W → Calls Tryz.prog 31 #[.int .i64 att] W fun e w' => e = .returned (.string (tb (Go.Lib.decDigits att))) ∧ Below W.heap.size W w') := Lib.hid (fun W hW => itoaN_e att (by omega) W hW)
  have t1 : (tb (Go.Lib.decDigits dots)).size ≤ 100 := by rw [Lib.size_eq, tb_data]; omega
  have t2 : (tb (Go.Lib.decDigits tmo)).size ≤ 100 := by rw [Lib.size_eq, tb_data]; omega
  have t3 : (tb (Go.Lib.decDigits att)).size ≤ 100 := by rw [Lib.size_eq, tb_data]; omega
  have HT1 : Hid ((tb (Go.Lib.decDigits dots)).data.toList = Go.Lib.decDigits dots) := Lib.hid (tb_data _)
  have HT2 : Hid ((tb (Go.Lib.decDigits tmo)).data.toList = Go.Lib.decDigits tmo) := Lib.hid (tb_data _)
  have HT3 : Hid ((tb (Go.Lib.decDigits att)).data.toList = Go.Lib.decDigits att) := Lib.hid (tb_data _)
  generalize tb (Go.Lib.decDigits dots) = D1 at HI1 t1 HT1
  generalize tb (Go.Lib.decDigits tmo) = D2 at HI2 t2 HT2
  generalize tb (Go.Lib.decDigits att) = D3 at HI3 t3 HT3
  obtain ⟨FT, hFT⟩ : ∃ FT, FT = srvsT srv ++ (if sea = [] then [] else lineW wSe sea ++ [10]) ++ ([111, 112, 116, 105, 111, 110, 115, 32, 110, 100, 111, 116, 115, 58] ++ Go.Lib.decDigits dots ++ [32, 116, 105, 109, 101, 111, 117, 116, 58] ++ Go.Lib.decDigits tmo ++ [32, 97, 116, 116, 101, 109, 112, 116, 115, 58] ++ Go.Lib.decDigits att ++ [10]) := ⟨_, rfl⟩
  rw [← hFT]
  have HFT := Lib.hid hFT
  clear he ha hR hsa hea h16 hn hm hO hd1 hd2 hd3 hFT
  go_enter Tryz.func12, Tryz.ntmps12
  go_wp2_with fail
  generalize (w.alloc (.cells #[.slice A n ca, .slice A' m m, .int .i64 (dots : Int), .int .i64 (tmo : Int), .int .i64 (att : Int)] 26)) = w1 at hb1 hk1 hs1 ⊢
  rw [← hs1]
  have HB1 := Lib.hid hb1
  have HK1 : Hid (w.heap.size < w1.heap.size ∧ ∀ W, Below w1.heap.size w1 W → W.heap[w.heap.size]? = some (.cells #[.slice A n ca, .slice A' m m, .int .i64 (dots : Int), .int .i64 (tmo : Int), .int .i64 (att : Int)] 26 (0, 0))) := Lib.hid ⟨by omega, fun W hW => (hW.block _ (by omega)).trans hk1⟩
  have HSA1 := Lib.hid (HSA.out.below hb1)
  have HEA1 := Lib.hid (HEA.out.below hb1)
  have HE1 := Lib.hid (HE.out.below hb1)
  have HB0 := Lib.hid (Lib.fresh_isBuilder 64 5 w1)
  have HA0 : Hid (Below w1.heap.size w1 (w1.alloc (.cells #[.pointer none, .slice none 0 0] 64))) := Lib.hid ((Below.refl _ w1).alloc (Nat.le_refl _) _)
  clear hb1 hk1 hs1 HSA HEA
  go_loopg [9, 5] n (fun gk i _ wr => ∃ k : Nat, i = .int .i64 k ∧ k + gk = n ∧ Hid (Lib.IsBuilder 64 5 w1.heap.size w1.heap.size (Lib.byteCells (srvsT (srv.take k))) wr) ∧ Hid (Below w1.heap.size w1 wr))
  case atStart => exact ⟨0, rfl, by omega, HB0, HA0⟩
  case round =>
    obtain ⟨k, rfl, hk, HBU, HBA⟩ := hrel
    by_cases hkn : k < n
    · obtain ⟨g, rfl⟩ : ∃ g', gk = g' + 1 := ⟨gk - 1, by omega⟩
      obtain ⟨x, hx⟩ : ∃ x, srv[k]? = some x := ⟨_, List.getElem?_eq_getElem (by rw [HN.out]; exact hkn)⟩
      have hkI : (k : Int) < (n : Int) := by omega
      have hx16 := H16.out x (List.mem_of_getElem? hx)
      obtain ⟨ba, hA, hal, hra⟩ := HSA1.out.row H16.out hx
      have hrr := range_below hra hal HBA.out
      have HRR := Lib.hid hrr
      have hxl := txt_len hx16
      have HPr := Lib.hid (fun W (hW : AEnv W) => print_e x hx16 W hW)
      have hS := sizeBv hx16
      have h1 := oneBv x
      have hzr : Z.size = (bvs x).toArray.size := by rw [HZ16.out, List.size_toArray, bvs_length, hx16]
      have HST := Lib.hid (srvsT_take hx)
      have hPs : (tb (txt x)).size ≤ 39 := by rw [Lib.size_eq, tb_data]; exact hxl
      have HPT : Hid ((tb (txt x)).data.toList = txt x) := Lib.hid (tb_data _)
      obtain ⟨cs, hcs⟩ : ∃ cs, cs = bvs x := ⟨_, rfl⟩
      rw [← hcs] at HRR
      simp only [← hcs] at HPr hS h1 hzr
      have HS := Lib.hid hS
      have H1 := Lib.hid h1
      have HZR := Lib.hid hzr
      have HLa : Hid ((wr.alloc (.cells cs.toArray 48)).heap[wr.heap.size]? = some (.cells cs.toArray 48 (0, 0))) := Lib.hid (heap_alloc_last wr _)
      have hba : Below wr.heap.size wr (wr.alloc (.cells cs.toArray 48)) := (Below.refl _ wr).alloc (Nat.le_refl _) _
      have HBA1 := Lib.hid (HBA.out.trans (hba.mono HBA.out.size))
      have HBU1 := Lib.hid (isB_below HBU.out hba)
      have hsl := HSL.out k
      have huA := Tryz.underlying48
      generalize tb (txt x) = P at HPr hPs HPT
      clear hx hx16 hra hrr hal hxl hS h1 hzr hcs hba
      subst hA
      go_wp2_with (first
        | (refine wpList_load_mid rfl 48 (.tmp 11) rfl ba (k * 16) rfl cs _ HRR.out huA rfl HS.out ?_; go_simp)
        | (refine wpList_alloc_z rfl 48 rfl Z HZ.out ?_; go_simp)
        | (refine wpList_store_new rfl 48 (.tmp 5) (.tmp 12) rfl wr.heap.size rfl Z cs.toArray 48 rfl rfl HS.out HZR.out H1.out ?_; go_simp)
        | (refine wpList_load_row rfl 48 (.tmp 5) rfl wr.heap.size rfl 48 cs.toArray (0, 0) _ HLa.out huA rfl HS.out ?_; go_simp))
      refine (HPr.out _ (HE1.out.below HBA1.out)).mono ?_
      rintro e w3 ⟨rfl, hb3⟩
      have hz1 : (ByteArray.mk #[110, 97, 109, 101, 115, 101, 114, 118, 101, 114, 32]).size = 11 := rfl
      have hz2 : (ByteArray.mk #[10]).size = 1 := rfl
      have hA1 := fun W => run_string_add_sum (P := Tryz.prog) (w := W) ⟨#[110, 97, 109, 101, 115, 101, 114, 118, 101, 114, 32]⟩ P (by rw [hz1]; omega)
      have hA2 := fun W => run_string_add_sum (P := Tryz.prog) (w := W) (⟨#[110, 97, 109, 101, 115, 101, 114, 118, 101, 114, 32]⟩ ++ P) ⟨#[10]⟩ (by rw [ByteArray.size_append, hz1, hz2]; omega)
      have hbu3 := isB_below HBU1.out hb3
      have HBA3 := Lib.hid (HBA1.out.trans (hb3.mono HBA1.out.size))
      have hws := wstr_e w1.heap.size w1.heap.size _ (⟨#[110, 97, 109, 101, 115, 101, 114, 118, 101, 114, 32]⟩ ++ P ++ ⟨#[10]⟩) w3 hbu3 (by rw [Lib.byteCells_length, ByteArray.size_append, ByteArray.size_append, hz1, hz2]; omega) HBA3.out.size
      clear hb3 hbu3 hz1 hz2
      go_wp2_with fail
      refine hws.mono ?_
      rintro e w4 ⟨rfl, hbu4, hb4, _⟩
      have HBU4 := Lib.hid (isB_str hbu4)
      have HBA4 := Lib.hid (HBA3.out.trans hb4)
      clear hws hbu4 hb4
      go_wp2_with fail
      go_roundg g
      case measure => omega
      case rel => exact ⟨k + 1, by go_num, by omega, Lib.hid (by have := HBU4.out; rw [HST.out, ← HPT.out]; simpa [List.append_assoc] using this), HBA4⟩
    · have hkI : ¬ (k : Int) < (n : Int) := by omega
      have hk1 := HK1.out.2 _ HBA.out
      have k1 := cell_of_row wr w.heap.size 1 _ _ _ hk1
      have hbu := HBU.out
      rw [List.take_of_length_le (by rw [HN.out]; omega)] at hbu
      have hsl := HSL.out n
      rw [List.take_of_length_le (by rw [HN.out]; exact Nat.le_refl _)] at hsl
      have HBU0 := Lib.hid hbu
      have HFin : Hid (∀ (W : World) (l : List UInt8), l.length ≤ 3000 → Lib.IsBuilder 64 5 w1.heap.size w1.heap.size (Lib.byteCells l) W → Below w1.heap.size w1 W →
          Calls Tryz.prog 32 #[.pointer (some ⟨w1.heap.size, 0, none⟩)] W fun e w' => e = .returned (.string ⟨l.toArray⟩) ∧ Below w1.heap.size W w') := Lib.hid (fun W l _ hbu hb => Tryz.Builder_String_any w1.heap.size w1.heap.size l W hbu hb.size)
      simp only [List.getElem?_toArray, List.getElem?_cons_succ, List.getElem?_cons_zero] at k1
      clear hk1 hbu
      have hFe := HFT.out
      generalize srvsT srv = S0 at HBU0 hsl hFe
      by_cases hm0 : m = 0
      · have hs0 : sea = [] := List.length_eq_zero_iff.1 (by rw [HM.out]; exact hm0)
        rw [if_pos hs0, List.append_nil] at hFe
        have HFe := Lib.hid hFe
        clear hFe
        subst hm0
        have hlS : S0.length ≤ 1800 := by omega
        have HBUx := HBU0
        have HBAx := HBA
        clear hs0 hjl hsl HBU0
        go_wp2_with fail
        refine wp_region_held_drew (S := (fun W : World => Below w1.heap.size w1 W)) (by kernel_rfl) HBAx.out.drew (fun hHeld => ?_)
        have hbuD := isB_below HBUx.out (Below.refl _ _).drew
        refine wpAnyH_take (i := 0) (oi := ({ dst := some 29, op := Go.Op.fieldAddr 26 (Go.Operand.tmp 1) 2, type := 0, pos := "conf.go:152", after := #[], guard := none } : Oper)) (v := .pointer (some ⟨w.heap.size, 2, none⟩)) rfl (by kernel_rfl) (by kernel_rfl) (by kernel_rfl) (fun _ _ _ h => h) (Or.inl ⟨by rfl, fun w' _ => ?_⟩) hHeld ?_
        · go_simp
        try simp only [Act.put, List.setIfInBounds_toArray, List.set_cons_zero, List.set_cons_succ]
        refine wpAnyH_take (i := 1) (oi := ({ dst := some 30, op := Go.Op.load 3 (Go.Operand.tmp 29), type := 3, pos := "conf.go:152", after := #[{ on := 0, ground := Go.Ground.data }], guard := none } : Oper)) (v := .int .i64 dots) rfl (by kernel_rfl) (by kernel_rfl) (by kernel_rfl) (fun _ _ _ h => h) (Or.inl ⟨by rfl, fun w' hS' => ?_⟩) hHeld ?_
        · have hcell := cell_of_row w' w.heap.size 2 _ _ _ (HK1.out.2 _ hS')
          go_simp
        try simp only [Act.put, List.setIfInBounds_toArray, List.set_cons_zero, List.set_cons_succ]
        refine wpAnyH_take (i := 5) (oi := ({ dst := some 34, op := Go.Op.fieldAddr 26 (Go.Operand.tmp 1) 3, type := 0, pos := "conf.go:152", after := #[], guard := none } : Oper)) (v := .pointer (some ⟨w.heap.size, 3, none⟩)) rfl (by kernel_rfl) (by kernel_rfl) (by kernel_rfl) (fun _ _ _ h => h) (Or.inl ⟨by rfl, fun w' _ => ?_⟩) hHeld ?_
        · go_simp
        try simp only [Act.put, List.setIfInBounds_toArray, List.set_cons_zero, List.set_cons_succ]
        refine wpAnyH_take (i := 6) (oi := ({ dst := some 35, op := Go.Op.load 3 (Go.Operand.tmp 34), type := 3, pos := "conf.go:152", after := #[{ on := 5, ground := Go.Ground.data }], guard := none } : Oper)) (v := .int .i64 tmo) rfl (by kernel_rfl) (by kernel_rfl) (by kernel_rfl) (fun _ _ _ h => h) (Or.inl ⟨by rfl, fun w' hS' => ?_⟩) hHeld ?_
        · have hcell := cell_of_row w' w.heap.size 3 _ _ _ (HK1.out.2 _ hS')
          go_simp
        try simp only [Act.put, List.setIfInBounds_toArray, List.set_cons_zero, List.set_cons_succ]
        refine wpAnyH_take (i := 10) (oi := ({ dst := some 39, op := Go.Op.fieldAddr 26 (Go.Operand.tmp 1) 4, type := 0, pos := "conf.go:152", after := #[], guard := none } : Oper)) (v := .pointer (some ⟨w.heap.size, 4, none⟩)) rfl (by kernel_rfl) (by kernel_rfl) (by kernel_rfl) (fun _ _ _ h => h) (Or.inl ⟨by rfl, fun w' _ => ?_⟩) hHeld ?_
        · go_simp
        try simp only [Act.put, List.setIfInBounds_toArray, List.set_cons_zero, List.set_cons_succ]
        refine wpAnyH_take (i := 11) (oi := ({ dst := some 40, op := Go.Op.load 3 (Go.Operand.tmp 39), type := 3, pos := "conf.go:152", after := #[{ on := 10, ground := Go.Ground.data }], guard := none } : Oper)) (v := .int .i64 att) rfl (by kernel_rfl) (by kernel_rfl) (by kernel_rfl) (fun _ _ _ h => h) (Or.inl ⟨by rfl, fun w' hS' => ?_⟩) hHeld ?_
        · have hcell := cell_of_row w' w.heap.size 4 _ _ _ (HK1.out.2 _ hS')
          go_simp
        try simp only [Act.put, List.setIfInBounds_toArray, List.set_cons_zero, List.set_cons_succ]
        have z1 : (ByteArray.mk #[111, 112, 116, 105, 111, 110, 115, 32, 110, 100, 111, 116, 115, 58]).size = 14 := rfl
        have z2 : (ByteArray.mk #[32, 116, 105, 109, 101, 111, 117, 116, 58]).size = 9 := rfl
        have z3 : (ByteArray.mk #[32, 97, 116, 116, 101, 109, 112, 116, 115, 58]).size = 10 := rfl
        have z4 : (ByteArray.mk #[10]).size = 1 := rfl
        have a1 := fun W => run_string_add_sum (P := Tryz.prog) (w := W) (⟨#[111, 112, 116, 105, 111, 110, 115, 32, 110, 100, 111, 116, 115, 58]⟩) D1 (by omega)
        obtain ⟨X1, hx1⟩ : ∃ X, X = ⟨#[111, 112, 116, 105, 111, 110, 115, 32, 110, 100, 111, 116, 115, 58]⟩ ++ D1 := ⟨_, rfl⟩
        rw [← hx1] at a1
        have y1 : X1.size ≤ 120 := by rw [hx1, ByteArray.size_append]; omega
        have a2 := fun W => run_string_add_sum (P := Tryz.prog) (w := W) X1 (⟨#[32, 116, 105, 109, 101, 111, 117, 116, 58]⟩) (by omega)
        obtain ⟨X2, hx2⟩ : ∃ X, X = X1 ++ ⟨#[32, 116, 105, 109, 101, 111, 117, 116, 58]⟩ := ⟨_, rfl⟩
        rw [← hx2] at a2
        have y2 : X2.size ≤ 140 := by rw [hx2, ByteArray.size_append]; omega
        have a3 := fun W => run_string_add_sum (P := Tryz.prog) (w := W) X2 D2 (by omega)
        obtain ⟨X3, hx3⟩ : ∃ X, X = X2 ++ D2 := ⟨_, rfl⟩
        rw [← hx3] at a3
        have y3 : X3.size ≤ 250 := by rw [hx3, ByteArray.size_append]; omega
        have a4 := fun W => run_string_add_sum (P := Tryz.prog) (w := W) X3 (⟨#[32, 97, 116, 116, 101, 109, 112, 116, 115, 58]⟩) (by omega)
        obtain ⟨X4, hx4⟩ : ∃ X, X = X3 ++ ⟨#[32, 97, 116, 116, 101, 109, 112, 116, 115, 58]⟩ := ⟨_, rfl⟩
        rw [← hx4] at a4
        have y4 : X4.size ≤ 270 := by rw [hx4, ByteArray.size_append]; omega
        have a5 := fun W => run_string_add_sum (P := Tryz.prog) (w := W) X4 D3 (by omega)
        obtain ⟨X5, hx5⟩ : ∃ X, X = X4 ++ D3 := ⟨_, rfl⟩
        rw [← hx5] at a5
        have y5 : X5.size ≤ 380 := by rw [hx5, ByteArray.size_append]; omega
        have a6 := fun W => run_string_add_sum (P := Tryz.prog) (w := W) X5 (⟨#[10]⟩) (by omega)
        obtain ⟨X6, hx6⟩ : ∃ X, X = X5 ++ ⟨#[10]⟩ := ⟨_, rfl⟩
        rw [← hx6] at a6
        have y6 : X6.size ≤ 400 := by rw [hx6, ByteArray.size_append]; omega
        have HX6 : Hid (X6.data.toList = [111, 112, 116, 105, 111, 110, 115, 32, 110, 100, 111, 116, 115, 58] ++ Go.Lib.decDigits dots ++ [32, 116, 105, 109, 101, 111, 117, 116, 58] ++ Go.Lib.decDigits tmo ++ [32, 97, 116, 116, 101, 109, 112, 116, 115, 58] ++ Go.Lib.decDigits att ++ [10]) := Lib.hid (by rw [hx6, hx5, hx4, hx3, hx2, hx1, ← HT1.out, ← HT2.out, ← HT3.out]; simp)
        clear hx1 hx2 hx3 hx4 hx5 hx6 z1 z2 z3 z4
        refine wpAnyH_ready (rs := [2]) (by kernel_rfl) (by simp) ?_
        refine AllReadyH.cons (o := ({ dst := some 31, op := Go.Op.call { callee := Go.Callee.value (Go.Operand.func 31), args := #[Go.Operand.tmp 30], argTypes := #[3] }, type := 9, pos := "conf.go:152", after := #[{ on := 1, ground := Go.Ground.data }], guard := none } : Oper)) rfl (fun K hK => ?_) AllReadyH.nil
        go_simp
        go_at_call 31
        refine (HI1.out _ (HE1.out.below hHeld)).mono ?_
        rintro e' u1 ⟨rfl, hbb⟩
        have hbu1 := isB_below hbuD hbb
        refine hK.out _ _ (hHeld.trans (hbb.mono hHeld.size)) (fun hHeld1 => ?_)
        clear hK K hbb
        try simp only [Act.put, List.setIfInBounds_toArray, List.set_cons_zero, List.set_cons_succ]
        refine wpAnyH_take (i := 3) (oi := ({ dst := some 32, op := Go.Op.binOp Go.BinOp.add 9 (Go.Operand.const (Go.Value.string { data := #[111, 112, 116, 105, 111, 110, 115, 32, 110, 100, 111, 116, 115, 58] })) (Go.Operand.tmp 31) 9, type := 9, pos := "conf.go:152", after := #[{ on := 2, ground := Go.Ground.data }], guard := none } : Oper)) (v := .string (X1)) rfl (by kernel_rfl) (by kernel_rfl) (by kernel_rfl) (fun _ _ _ h => h) (Or.inl ⟨by rfl, fun w' _ => ?_⟩) hHeld1 ?_
        · go_simp
        try simp only [Act.put, List.setIfInBounds_toArray, List.set_cons_zero, List.set_cons_succ]
        refine wpAnyH_take (i := 4) (oi := ({ dst := some 33, op := Go.Op.binOp Go.BinOp.add 9 (Go.Operand.tmp 32) (Go.Operand.const (Go.Value.string { data := #[32, 116, 105, 109, 101, 111, 117, 116, 58] })) 9, type := 9, pos := "conf.go:152", after := #[{ on := 3, ground := Go.Ground.data }], guard := none } : Oper)) (v := .string (X2)) rfl (by kernel_rfl) (by kernel_rfl) (by kernel_rfl) (fun _ _ _ h => h) (Or.inl ⟨by rfl, fun w' _ => ?_⟩) hHeld1 ?_
        · go_simp
        try simp only [Act.put, List.setIfInBounds_toArray, List.set_cons_zero, List.set_cons_succ]
        refine wpAnyH_ready (rs := [7]) (by kernel_rfl) (by simp) ?_
        refine AllReadyH.cons (o := ({ dst := some 36, op := Go.Op.call { callee := Go.Callee.value (Go.Operand.func 31), args := #[Go.Operand.tmp 35], argTypes := #[3] }, type := 9, pos := "conf.go:152", after := #[{ on := 6, ground := Go.Ground.data }, { on := 2, ground := Go.Ground.chain }], guard := none } : Oper)) rfl (fun K hK => ?_) AllReadyH.nil
        go_simp
        go_at_call 31
        refine (HI2.out _ (HE1.out.below hHeld1)).mono ?_
        rintro e' u2 ⟨rfl, hbb⟩
        have hbu2 := isB_below hbu1 hbb
        refine hK.out _ _ (hHeld1.trans (hbb.mono hHeld1.size)) (fun hHeld2 => ?_)
        clear hK K hbb
        try simp only [Act.put, List.setIfInBounds_toArray, List.set_cons_zero, List.set_cons_succ]
        refine wpAnyH_take (i := 8) (oi := ({ dst := some 37, op := Go.Op.binOp Go.BinOp.add 9 (Go.Operand.tmp 33) (Go.Operand.tmp 36) 9, type := 9, pos := "conf.go:152", after := #[{ on := 4, ground := Go.Ground.data }, { on := 7, ground := Go.Ground.data }], guard := none } : Oper)) (v := .string (X3)) rfl (by kernel_rfl) (by kernel_rfl) (by kernel_rfl) (fun _ _ _ h => h) (Or.inl ⟨by rfl, fun w' _ => ?_⟩) hHeld2 ?_
        · go_simp
        try simp only [Act.put, List.setIfInBounds_toArray, List.set_cons_zero, List.set_cons_succ]
        refine wpAnyH_take (i := 9) (oi := ({ dst := some 38, op := Go.Op.binOp Go.BinOp.add 9 (Go.Operand.tmp 37) (Go.Operand.const (Go.Value.string { data := #[32, 97, 116, 116, 101, 109, 112, 116, 115, 58] })) 9, type := 9, pos := "conf.go:152", after := #[{ on := 8, ground := Go.Ground.data }], guard := none } : Oper)) (v := .string (X4)) rfl (by kernel_rfl) (by kernel_rfl) (by kernel_rfl) (fun _ _ _ h => h) (Or.inl ⟨by rfl, fun w' _ => ?_⟩) hHeld2 ?_
        · go_simp
        try simp only [Act.put, List.setIfInBounds_toArray, List.set_cons_zero, List.set_cons_succ]
        refine wpAnyH_ready (rs := [12]) (by kernel_rfl) (by simp) ?_
        refine AllReadyH.cons (o := ({ dst := some 41, op := Go.Op.call { callee := Go.Callee.value (Go.Operand.func 31), args := #[Go.Operand.tmp 40], argTypes := #[3] }, type := 9, pos := "conf.go:152", after := #[{ on := 11, ground := Go.Ground.data }, { on := 7, ground := Go.Ground.chain }], guard := none } : Oper)) rfl (fun K hK => ?_) AllReadyH.nil
        go_simp
        go_at_call 31
        refine (HI3.out _ (HE1.out.below hHeld2)).mono ?_
        rintro e' u3 ⟨rfl, hbb⟩
        have hbu3 := isB_below hbu2 hbb
        refine hK.out _ _ (hHeld2.trans (hbb.mono hHeld2.size)) (fun hHeld3 => ?_)
        clear hK K hbb
        try simp only [Act.put, List.setIfInBounds_toArray, List.set_cons_zero, List.set_cons_succ]
        refine wpAnyH_take (i := 13) (oi := ({ dst := some 42, op := Go.Op.binOp Go.BinOp.add 9 (Go.Operand.tmp 38) (Go.Operand.tmp 41) 9, type := 9, pos := "conf.go:152", after := #[{ on := 9, ground := Go.Ground.data }, { on := 12, ground := Go.Ground.data }], guard := none } : Oper)) (v := .string (X5)) rfl (by kernel_rfl) (by kernel_rfl) (by kernel_rfl) (fun _ _ _ h => h) (Or.inl ⟨by rfl, fun w' _ => ?_⟩) hHeld3 ?_
        · go_simp
        try simp only [Act.put, List.setIfInBounds_toArray, List.set_cons_zero, List.set_cons_succ]
        refine wpAnyH_take (i := 14) (oi := ({ dst := some 43, op := Go.Op.binOp Go.BinOp.add 9 (Go.Operand.tmp 42) (Go.Operand.const (Go.Value.string { data := #[10] })) 9, type := 9, pos := "conf.go:152", after := #[{ on := 13, ground := Go.Ground.data }], guard := none } : Oper)) (v := .string (X6)) rfl (by kernel_rfl) (by kernel_rfl) (by kernel_rfl) (fun _ _ _ h => h) (Or.inl ⟨by rfl, fun w' _ => ?_⟩) hHeld3 ?_
        · go_simp
        try simp only [Act.put, List.setIfInBounds_toArray, List.set_cons_zero, List.set_cons_succ]
        refine wpAnyH_ready (rs := [15]) (by kernel_rfl) (by simp) ?_
        refine AllReadyH.cons (o := ({ dst := some 44, op := Go.Op.call { callee := Go.Callee.value (Go.Operand.func 28), args := #[Go.Operand.tmp 3, Go.Operand.tmp 43], argTypes := #[64, 9] }, type := 65, pos := "conf.go:152", after := #[{ on := 14, ground := Go.Ground.data }, { on := 12, ground := Go.Ground.chain }], guard := none } : Oper)) rfl (fun K hK => ?_) AllReadyH.nil
        go_simp
        go_at_call 28
        refine (wstr_e w1.heap.size w1.heap.size _ (X6) u3 hbu3 (by rw [Lib.byteCells_length]; omega) hHeld3.size).mono ?_
        rintro e' u4 ⟨rfl, hbu4, hb4, _⟩
        have hbu5 := isB_str hbu4
        refine hK.out _ _ (hHeld3.trans hb4) (fun hHeld4 => ?_)
        clear hK K
        refine wpAnyH_done (by kernel_rfl) ?_ _
        rw [HX6.out] at hbu5
        have hl9 : (S0 ++ ([111, 112, 116, 105, 111, 110, 115, 32, 110, 100, 111, 116, 115, 58] ++ Go.Lib.decDigits dots ++ [32, 116, 105, 109, 101, 111, 117, 116, 58] ++ Go.Lib.decDigits tmo ++ [32, 97, 116, 116, 101, 109, 112, 116, 115, 58] ++ Go.Lib.decDigits att ++ [10])).length ≤ 3000 := by
          have e6 := Lib.size_eq X6
          rw [HX6.out] at e6
          rw [List.length_append, ← e6]
          omega
        have hst := HFin.out u4 _ hl9 hbu5 hHeld4
        have HB4 := Lib.hid (HB1.out.trans (hHeld4.mono HB1.out.size))
        have HSz : Hid (w.heap.size ≤ w1.heap.size) := Lib.hid HB1.out.size
        clear hHeld hHeld1 hHeld2 hHeld3 hHeld4 hbuD hbu1 hbu2 hbu3 hbu4 hbu5 hb4 a1 a2 a3 a4 a5 a6 y1 y2 y3 y4 y5 y6 hl9 k1
        rw [← HFe.out] at hst
        go_wp2_with fail
        refine hst.mono ?_
        rintro e w9 ⟨rfl, hb9⟩
        have HB9 := Lib.hid (HB4.out.trans (hb9.mono HSz.out))
        clear hst hb9
        go_wp2_with fail
        go_ret
        exact ⟨rfl, HB9.out⟩
      · have hs0 : sea ≠ [] := by rintro rfl; exact hm0 HM.out.symm
        rw [if_neg hs0] at hFe
        obtain ⟨A2, e2, hA2⟩ := HEA1.out
        injection e2 with e2 _ _
        subst e2
        obtain ⟨bs, rfl, hstr⟩ := hA2 hs0
        have hst := hstr.below HBA.out
        have hmI : (0 : Int) < (m : Int) := by omega
        have hlm : (sea.map tb).length = m := by rw [List.length_map]; exact HM.out
        have hjn := Tryz.strings_Join bs 0 m (sea.map tb) ⟨#[32]⟩ wr (fun j x hx => by
          have hj : j < (sea.map tb).length := by
            rcases Nat.lt_or_ge j (sea.map tb).length with h' | h'
            · exact h'
            · rw [List.getElem?_eq_none h'] at hx; cases hx
          rw [hst.2 j hj]
          simp [List.getD, hx]) hst.1 (by omega) (by omega) (by
          rw [List.map_map, show ((fun x : ByteArray => x.data.toList) ∘ tb) = id from funext fun x => tb_data x, List.map_id]
          show (Lib.join sea [32]).length ≤ _
          omega)
        rw [List.map_map, show ((fun x : ByteArray => x.data.toList) ∘ tb) = id from funext fun x => tb_data x, List.map_id, hlm, show (ByteArray.mk #[32]).data.toList = [32] from rfl] at hjn
        have HJ : Hid (lineW wSe sea ++ [10] = [115, 101, 97, 114, 99, 104, 32] ++ Lib.join sea [32] ++ [10]) := Lib.hid (by
          unfold lineW
          rw [← HJN.out hs0]
          simp [wSe])
        have hJs : (ByteArray.mk (Lib.join sea [32]).toArray).size = (Lib.join sea [32]).length := by rw [Lib.size_eq]
        have HJT : Hid ((ByteArray.mk (Lib.join sea [32]).toArray).data.toList = Lib.join sea [32]) := Lib.hid rfl
        generalize ByteArray.mk (Lib.join sea [32]).toArray = JJ at hjn hJs HJT
        rw [HJ.out] at hFe
        generalize Lib.join sea [32] = jl at hJs HJT hjl hFe
        have HFe := Lib.hid hFe
        clear hFe
        clear hst hs0 hlm hA2 hstr
        go_wp2_with fail
        refine hjn.mono ?_
        rintro e w3 ⟨rfl, hb3⟩
        have hz1 : (ByteArray.mk #[115, 101, 97, 114, 99, 104, 32]).size = 7 := rfl
        have hz2 : (ByteArray.mk #[10]).size = 1 := rfl
        have hA1 := fun W => run_string_add_sum (P := Tryz.prog) (w := W) ⟨#[115, 101, 97, 114, 99, 104, 32]⟩ JJ (by omega)
        obtain ⟨Y1, hY1⟩ : ∃ X, X = ⟨#[115, 101, 97, 114, 99, 104, 32]⟩ ++ JJ := ⟨_, rfl⟩
        rw [← hY1] at hA1
        have hy1 : Y1.size ≤ 1531 := by rw [hY1, ByteArray.size_append]; omega
        have hA2 := fun W => run_string_add_sum (P := Tryz.prog) (w := W) Y1 ⟨#[10]⟩ (by omega)
        obtain ⟨Y2, hY2⟩ : ∃ X, X = Y1 ++ ⟨#[10]⟩ := ⟨_, rfl⟩
        rw [← hY2] at hA2
        have hy2 : Y2.size ≤ 1532 := by rw [hY2, ByteArray.size_append]; omega
        have HY2 : Hid (Y2.data.toList = [115, 101, 97, 114, 99, 104, 32] ++ jl ++ [10]) := Lib.hid (by rw [hY2, hY1, ← HJT.out]; simp)
        clear hY1 hY2
        have hbu3 := isB_below HBU0.out hb3
        have HBA3 := Lib.hid (HBA.out.trans (hb3.mono HBA.out.size))
        have hws := wstr_e w1.heap.size w1.heap.size _ Y2 w3 hbu3 (by rw [Lib.byteCells_length]; omega) HBA3.out.size
        clear hb3 hbu3 hz1 hz2 hjn
        go_wp2_with fail
        refine hws.mono ?_
        rintro e w4 ⟨rfl, hbu4, hb4, _⟩
        have hbu5 := isB_str hbu4
        rw [HY2.out] at hbu5
        have HBUx := Lib.hid hbu5
        have HBAx := Lib.hid (HBA3.out.trans hb4)
        have hlS : (S0 ++ ([115, 101, 97, 114, 99, 104, 32] ++ jl ++ [10])).length ≤ 1800 := by
          simp only [List.length_append, List.length_cons, List.length_nil]; omega
        generalize S0 ++ ([115, 101, 97, 114, 99, 104, 32] ++ jl ++ [10]) = S1 at HBUx hlS HFe
        clear hws hbu4 hbu5 hb4 hjl hJs HBU0 hA1 hA2 hy1 hy2
        generalize w4 = wr2 at HBUx HBAx ⊢
        go_wp2_with fail
        refine wp_region_held_drew (S := (fun W : World => Below w1.heap.size w1 W)) (by kernel_rfl) HBAx.out.drew (fun hHeld => ?_)
        have hbuD := isB_below HBUx.out (Below.refl _ _).drew
        refine wpAnyH_take (i := 0) (oi := ({ dst := some 29, op := Go.Op.fieldAddr 26 (Go.Operand.tmp 1) 2, type := 0, pos := "conf.go:152", after := #[], guard := none } : Oper)) (v := .pointer (some ⟨w.heap.size, 2, none⟩)) rfl (by kernel_rfl) (by kernel_rfl) (by kernel_rfl) (fun _ _ _ h => h) (Or.inl ⟨by rfl, fun w' _ => ?_⟩) hHeld ?_
        · go_simp
        try simp only [Act.put, List.setIfInBounds_toArray, List.set_cons_zero, List.set_cons_succ]
        refine wpAnyH_take (i := 1) (oi := ({ dst := some 30, op := Go.Op.load 3 (Go.Operand.tmp 29), type := 3, pos := "conf.go:152", after := #[{ on := 0, ground := Go.Ground.data }], guard := none } : Oper)) (v := .int .i64 dots) rfl (by kernel_rfl) (by kernel_rfl) (by kernel_rfl) (fun _ _ _ h => h) (Or.inl ⟨by rfl, fun w' hS' => ?_⟩) hHeld ?_
        · have hcell := cell_of_row w' w.heap.size 2 _ _ _ (HK1.out.2 _ hS')
          go_simp
        try simp only [Act.put, List.setIfInBounds_toArray, List.set_cons_zero, List.set_cons_succ]
        refine wpAnyH_take (i := 5) (oi := ({ dst := some 34, op := Go.Op.fieldAddr 26 (Go.Operand.tmp 1) 3, type := 0, pos := "conf.go:152", after := #[], guard := none } : Oper)) (v := .pointer (some ⟨w.heap.size, 3, none⟩)) rfl (by kernel_rfl) (by kernel_rfl) (by kernel_rfl) (fun _ _ _ h => h) (Or.inl ⟨by rfl, fun w' _ => ?_⟩) hHeld ?_
        · go_simp
        try simp only [Act.put, List.setIfInBounds_toArray, List.set_cons_zero, List.set_cons_succ]
        refine wpAnyH_take (i := 6) (oi := ({ dst := some 35, op := Go.Op.load 3 (Go.Operand.tmp 34), type := 3, pos := "conf.go:152", after := #[{ on := 5, ground := Go.Ground.data }], guard := none } : Oper)) (v := .int .i64 tmo) rfl (by kernel_rfl) (by kernel_rfl) (by kernel_rfl) (fun _ _ _ h => h) (Or.inl ⟨by rfl, fun w' hS' => ?_⟩) hHeld ?_
        · have hcell := cell_of_row w' w.heap.size 3 _ _ _ (HK1.out.2 _ hS')
          go_simp
        try simp only [Act.put, List.setIfInBounds_toArray, List.set_cons_zero, List.set_cons_succ]
        refine wpAnyH_take (i := 10) (oi := ({ dst := some 39, op := Go.Op.fieldAddr 26 (Go.Operand.tmp 1) 4, type := 0, pos := "conf.go:152", after := #[], guard := none } : Oper)) (v := .pointer (some ⟨w.heap.size, 4, none⟩)) rfl (by kernel_rfl) (by kernel_rfl) (by kernel_rfl) (fun _ _ _ h => h) (Or.inl ⟨by rfl, fun w' _ => ?_⟩) hHeld ?_
        · go_simp
        try simp only [Act.put, List.setIfInBounds_toArray, List.set_cons_zero, List.set_cons_succ]
        refine wpAnyH_take (i := 11) (oi := ({ dst := some 40, op := Go.Op.load 3 (Go.Operand.tmp 39), type := 3, pos := "conf.go:152", after := #[{ on := 10, ground := Go.Ground.data }], guard := none } : Oper)) (v := .int .i64 att) rfl (by kernel_rfl) (by kernel_rfl) (by kernel_rfl) (fun _ _ _ h => h) (Or.inl ⟨by rfl, fun w' hS' => ?_⟩) hHeld ?_
        · have hcell := cell_of_row w' w.heap.size 4 _ _ _ (HK1.out.2 _ hS')
          go_simp
        try simp only [Act.put, List.setIfInBounds_toArray, List.set_cons_zero, List.set_cons_succ]
        have z1 : (ByteArray.mk #[111, 112, 116, 105, 111, 110, 115, 32, 110, 100, 111, 116, 115, 58]).size = 14 := rfl
        have z2 : (ByteArray.mk #[32, 116, 105, 109, 101, 111, 117, 116, 58]).size = 9 := rfl
        have z3 : (ByteArray.mk #[32, 97, 116, 116, 101, 109, 112, 116, 115, 58]).size = 10 := rfl
        have z4 : (ByteArray.mk #[10]).size = 1 := rfl
        have a1 := fun W => run_string_add_sum (P := Tryz.prog) (w := W) (⟨#[111, 112, 116, 105, 111, 110, 115, 32, 110, 100, 111, 116, 115, 58]⟩) D1 (by omega)
        obtain ⟨X1, hx1⟩ : ∃ X, X = ⟨#[111, 112, 116, 105, 111, 110, 115, 32, 110, 100, 111, 116, 115, 58]⟩ ++ D1 := ⟨_, rfl⟩
        rw [← hx1] at a1
        have y1 : X1.size ≤ 120 := by rw [hx1, ByteArray.size_append]; omega
        have a2 := fun W => run_string_add_sum (P := Tryz.prog) (w := W) X1 (⟨#[32, 116, 105, 109, 101, 111, 117, 116, 58]⟩) (by omega)
        obtain ⟨X2, hx2⟩ : ∃ X, X = X1 ++ ⟨#[32, 116, 105, 109, 101, 111, 117, 116, 58]⟩ := ⟨_, rfl⟩
        rw [← hx2] at a2
        have y2 : X2.size ≤ 140 := by rw [hx2, ByteArray.size_append]; omega
        have a3 := fun W => run_string_add_sum (P := Tryz.prog) (w := W) X2 D2 (by omega)
        obtain ⟨X3, hx3⟩ : ∃ X, X = X2 ++ D2 := ⟨_, rfl⟩
        rw [← hx3] at a3
        have y3 : X3.size ≤ 250 := by rw [hx3, ByteArray.size_append]; omega
        have a4 := fun W => run_string_add_sum (P := Tryz.prog) (w := W) X3 (⟨#[32, 97, 116, 116, 101, 109, 112, 116, 115, 58]⟩) (by omega)
        obtain ⟨X4, hx4⟩ : ∃ X, X = X3 ++ ⟨#[32, 97, 116, 116, 101, 109, 112, 116, 115, 58]⟩ := ⟨_, rfl⟩
        rw [← hx4] at a4
        have y4 : X4.size ≤ 270 := by rw [hx4, ByteArray.size_append]; omega
        have a5 := fun W => run_string_add_sum (P := Tryz.prog) (w := W) X4 D3 (by omega)
        obtain ⟨X5, hx5⟩ : ∃ X, X = X4 ++ D3 := ⟨_, rfl⟩
        rw [← hx5] at a5
        have y5 : X5.size ≤ 380 := by rw [hx5, ByteArray.size_append]; omega
        have a6 := fun W => run_string_add_sum (P := Tryz.prog) (w := W) X5 (⟨#[10]⟩) (by omega)
        obtain ⟨X6, hx6⟩ : ∃ X, X = X5 ++ ⟨#[10]⟩ := ⟨_, rfl⟩
        rw [← hx6] at a6
        have y6 : X6.size ≤ 400 := by rw [hx6, ByteArray.size_append]; omega
        have HX6 : Hid (X6.data.toList = [111, 112, 116, 105, 111, 110, 115, 32, 110, 100, 111, 116, 115, 58] ++ Go.Lib.decDigits dots ++ [32, 116, 105, 109, 101, 111, 117, 116, 58] ++ Go.Lib.decDigits tmo ++ [32, 97, 116, 116, 101, 109, 112, 116, 115, 58] ++ Go.Lib.decDigits att ++ [10]) := Lib.hid (by rw [hx6, hx5, hx4, hx3, hx2, hx1, ← HT1.out, ← HT2.out, ← HT3.out]; simp)
        clear hx1 hx2 hx3 hx4 hx5 hx6 z1 z2 z3 z4
        refine wpAnyH_ready (rs := [2]) (by kernel_rfl) (by simp) ?_
        refine AllReadyH.cons (o := ({ dst := some 31, op := Go.Op.call { callee := Go.Callee.value (Go.Operand.func 31), args := #[Go.Operand.tmp 30], argTypes := #[3] }, type := 9, pos := "conf.go:152", after := #[{ on := 1, ground := Go.Ground.data }], guard := none } : Oper)) rfl (fun K hK => ?_) AllReadyH.nil
        go_simp
        go_at_call 31
        refine (HI1.out _ (HE1.out.below hHeld)).mono ?_
        rintro e' u1 ⟨rfl, hbb⟩
        have hbu1 := isB_below hbuD hbb
        refine hK.out _ _ (hHeld.trans (hbb.mono hHeld.size)) (fun hHeld1 => ?_)
        clear hK K hbb
        try simp only [Act.put, List.setIfInBounds_toArray, List.set_cons_zero, List.set_cons_succ]
        refine wpAnyH_take (i := 3) (oi := ({ dst := some 32, op := Go.Op.binOp Go.BinOp.add 9 (Go.Operand.const (Go.Value.string { data := #[111, 112, 116, 105, 111, 110, 115, 32, 110, 100, 111, 116, 115, 58] })) (Go.Operand.tmp 31) 9, type := 9, pos := "conf.go:152", after := #[{ on := 2, ground := Go.Ground.data }], guard := none } : Oper)) (v := .string (X1)) rfl (by kernel_rfl) (by kernel_rfl) (by kernel_rfl) (fun _ _ _ h => h) (Or.inl ⟨by rfl, fun w' _ => ?_⟩) hHeld1 ?_
        · go_simp
        try simp only [Act.put, List.setIfInBounds_toArray, List.set_cons_zero, List.set_cons_succ]
        refine wpAnyH_take (i := 4) (oi := ({ dst := some 33, op := Go.Op.binOp Go.BinOp.add 9 (Go.Operand.tmp 32) (Go.Operand.const (Go.Value.string { data := #[32, 116, 105, 109, 101, 111, 117, 116, 58] })) 9, type := 9, pos := "conf.go:152", after := #[{ on := 3, ground := Go.Ground.data }], guard := none } : Oper)) (v := .string (X2)) rfl (by kernel_rfl) (by kernel_rfl) (by kernel_rfl) (fun _ _ _ h => h) (Or.inl ⟨by rfl, fun w' _ => ?_⟩) hHeld1 ?_
        · go_simp
        try simp only [Act.put, List.setIfInBounds_toArray, List.set_cons_zero, List.set_cons_succ]
        refine wpAnyH_ready (rs := [7]) (by kernel_rfl) (by simp) ?_
        refine AllReadyH.cons (o := ({ dst := some 36, op := Go.Op.call { callee := Go.Callee.value (Go.Operand.func 31), args := #[Go.Operand.tmp 35], argTypes := #[3] }, type := 9, pos := "conf.go:152", after := #[{ on := 6, ground := Go.Ground.data }, { on := 2, ground := Go.Ground.chain }], guard := none } : Oper)) rfl (fun K hK => ?_) AllReadyH.nil
        go_simp
        go_at_call 31
        refine (HI2.out _ (HE1.out.below hHeld1)).mono ?_
        rintro e' u2 ⟨rfl, hbb⟩
        have hbu2 := isB_below hbu1 hbb
        refine hK.out _ _ (hHeld1.trans (hbb.mono hHeld1.size)) (fun hHeld2 => ?_)
        clear hK K hbb
        try simp only [Act.put, List.setIfInBounds_toArray, List.set_cons_zero, List.set_cons_succ]
        refine wpAnyH_take (i := 8) (oi := ({ dst := some 37, op := Go.Op.binOp Go.BinOp.add 9 (Go.Operand.tmp 33) (Go.Operand.tmp 36) 9, type := 9, pos := "conf.go:152", after := #[{ on := 4, ground := Go.Ground.data }, { on := 7, ground := Go.Ground.data }], guard := none } : Oper)) (v := .string (X3)) rfl (by kernel_rfl) (by kernel_rfl) (by kernel_rfl) (fun _ _ _ h => h) (Or.inl ⟨by rfl, fun w' _ => ?_⟩) hHeld2 ?_
        · go_simp
        try simp only [Act.put, List.setIfInBounds_toArray, List.set_cons_zero, List.set_cons_succ]
        refine wpAnyH_take (i := 9) (oi := ({ dst := some 38, op := Go.Op.binOp Go.BinOp.add 9 (Go.Operand.tmp 37) (Go.Operand.const (Go.Value.string { data := #[32, 97, 116, 116, 101, 109, 112, 116, 115, 58] })) 9, type := 9, pos := "conf.go:152", after := #[{ on := 8, ground := Go.Ground.data }], guard := none } : Oper)) (v := .string (X4)) rfl (by kernel_rfl) (by kernel_rfl) (by kernel_rfl) (fun _ _ _ h => h) (Or.inl ⟨by rfl, fun w' _ => ?_⟩) hHeld2 ?_
        · go_simp
        try simp only [Act.put, List.setIfInBounds_toArray, List.set_cons_zero, List.set_cons_succ]
        refine wpAnyH_ready (rs := [12]) (by kernel_rfl) (by simp) ?_
        refine AllReadyH.cons (o := ({ dst := some 41, op := Go.Op.call { callee := Go.Callee.value (Go.Operand.func 31), args := #[Go.Operand.tmp 40], argTypes := #[3] }, type := 9, pos := "conf.go:152", after := #[{ on := 11, ground := Go.Ground.data }, { on := 7, ground := Go.Ground.chain }], guard := none } : Oper)) rfl (fun K hK => ?_) AllReadyH.nil
        go_simp
        go_at_call 31
        refine (HI3.out _ (HE1.out.below hHeld2)).mono ?_
        rintro e' u3 ⟨rfl, hbb⟩
        have hbu3 := isB_below hbu2 hbb
        refine hK.out _ _ (hHeld2.trans (hbb.mono hHeld2.size)) (fun hHeld3 => ?_)
        clear hK K hbb
        try simp only [Act.put, List.setIfInBounds_toArray, List.set_cons_zero, List.set_cons_succ]
        refine wpAnyH_take (i := 13) (oi := ({ dst := some 42, op := Go.Op.binOp Go.BinOp.add 9 (Go.Operand.tmp 38) (Go.Operand.tmp 41) 9, type := 9, pos := "conf.go:152", after := #[{ on := 9, ground := Go.Ground.data }, { on := 12, ground := Go.Ground.data }], guard := none } : Oper)) (v := .string (X5)) rfl (by kernel_rfl) (by kernel_rfl) (by kernel_rfl) (fun _ _ _ h => h) (Or.inl ⟨by rfl, fun w' _ => ?_⟩) hHeld3 ?_
        · go_simp
        try simp only [Act.put, List.setIfInBounds_toArray, List.set_cons_zero, List.set_cons_succ]
        refine wpAnyH_take (i := 14) (oi := ({ dst := some 43, op := Go.Op.binOp Go.BinOp.add 9 (Go.Operand.tmp 42) (Go.Operand.const (Go.Value.string { data := #[10] })) 9, type := 9, pos := "conf.go:152", after := #[{ on := 13, ground := Go.Ground.data }], guard := none } : Oper)) (v := .string (X6)) rfl (by kernel_rfl) (by kernel_rfl) (by kernel_rfl) (fun _ _ _ h => h) (Or.inl ⟨by rfl, fun w' _ => ?_⟩) hHeld3 ?_
        · go_simp
        try simp only [Act.put, List.setIfInBounds_toArray, List.set_cons_zero, List.set_cons_succ]
        refine wpAnyH_ready (rs := [15]) (by kernel_rfl) (by simp) ?_
        refine AllReadyH.cons (o := ({ dst := some 44, op := Go.Op.call { callee := Go.Callee.value (Go.Operand.func 28), args := #[Go.Operand.tmp 3, Go.Operand.tmp 43], argTypes := #[64, 9] }, type := 65, pos := "conf.go:152", after := #[{ on := 14, ground := Go.Ground.data }, { on := 12, ground := Go.Ground.chain }], guard := none } : Oper)) rfl (fun K hK => ?_) AllReadyH.nil
        go_simp
        go_at_call 28
        refine (wstr_e w1.heap.size w1.heap.size _ (X6) u3 hbu3 (by rw [Lib.byteCells_length]; omega) hHeld3.size).mono ?_
        rintro e' u4 ⟨rfl, hbu4, hb4, _⟩
        have hbu5 := isB_str hbu4
        refine hK.out _ _ (hHeld3.trans hb4) (fun hHeld4 => ?_)
        clear hK K
        refine wpAnyH_done (by kernel_rfl) ?_ _
        rw [HX6.out] at hbu5
        have hl9 : (S1 ++ ([111, 112, 116, 105, 111, 110, 115, 32, 110, 100, 111, 116, 115, 58] ++ Go.Lib.decDigits dots ++ [32, 116, 105, 109, 101, 111, 117, 116, 58] ++ Go.Lib.decDigits tmo ++ [32, 97, 116, 116, 101, 109, 112, 116, 115, 58] ++ Go.Lib.decDigits att ++ [10])).length ≤ 3000 := by
          have e6 := Lib.size_eq X6
          rw [HX6.out] at e6
          rw [List.length_append, ← e6]
          omega
        have hst := HFin.out u4 _ hl9 hbu5 hHeld4
        have HB4 := Lib.hid (HB1.out.trans (hHeld4.mono HB1.out.size))
        have HSz : Hid (w.heap.size ≤ w1.heap.size) := Lib.hid HB1.out.size
        clear hHeld hHeld1 hHeld2 hHeld3 hHeld4 hbuD hbu1 hbu2 hbu3 hbu4 hbu5 hb4 a1 a2 a3 a4 a5 a6 y1 y2 y3 y4 y5 y6 hl9 k1
        rw [← HFe.out] at hst
        go_wp2_with fail
        refine hst.mono ?_
        rintro e w9 ⟨rfl, hb9⟩
        have HB9 := Lib.hid (HB4.out.trans (hb9.mono HSz.out))
        clear hst hb9
        go_wp2_with fail
        go_ret
        exact ⟨rfl, HB9.out⟩
end Go.Proofs.YtpnlgojbmjfhhaaGreatDoor
