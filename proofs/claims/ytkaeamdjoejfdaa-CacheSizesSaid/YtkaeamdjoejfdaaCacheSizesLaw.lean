/-
  The walk of CacheSizes: a cache has no more entries than it may have, and none has more than the greatest one; where there is none nothing is. Condition: none.
-/
import Derived.Test.YtkaeamdjoejfdaaCacheLib
namespace Go.Proofs.Ytkaeamdjoejfdaa
open Go.RowKit Go.Lib

/-- what is there behind k rounds -/
structure SzP (k size : Nat) (ps : List PE) : Prop where
  len : ps.length = min k size
  old : ∀ x ∈ ps, ∃ j, j < k ∧ x.nm = nmB j ∧ 0 < x.ttl ∧ x.frm = 0
theorem SzP.next {k size : Nat} {ps ps' : List PE} {rs : List Rc} (h : SzP k size ps) (hk : k < 63) (h0 : 0 < size) (hr : PutR size 0 ps ⟨nmB k, 1, 1, rs, 0, k + 1⟩ ps') : SzP (k + 1) size ps' := by
  have hm := put_more hr (fun x hx => by
    obtain ⟨j, _, _, ht, hf⟩ := h.old x hx
    unfold cntP
    exact decide_eq_true (by omega)) (fun x hx => by
    obtain ⟨j, hj, hn, _, _⟩ := h.old x hx
    refine decide_eq_false fun e => ?_
    have := nmB_ne (by omega) (by omega) (hn.symm.trans e.1)
    omega)
  have hl := h.len
  have hadd : ∀ x : PE, x = ⟨nmB k, 1, 1, rs, 0, k + 1⟩ → ∃ j, j < k + 1 ∧ x.nm = nmB j ∧ 0 < x.ttl ∧ x.frm = 0 := fun x e => by
    subst e
    exact ⟨k, by omega, rfl, Nat.succ_pos k, rfl⟩
  have hold : ∀ x ∈ ps, ∃ j, j < k + 1 ∧ x.nm = nmB j ∧ 0 < x.ttl ∧ x.frm = 0 := fun x hx => by
    obtain ⟨j, hj, r⟩ := h.old x hx
    exact ⟨j, by omega, r⟩
  rcases hm with ⟨hne, rfl⟩ | ⟨he, f, hf, rfl⟩
  · refine ⟨by rw [List.length_append, List.length_singleton]; omega, fun x hx => ?_⟩
    rcases List.mem_append.1 hx with hx | hx
    · exact hold x hx
    · exact hadd x (List.mem_singleton.1 hx)
  · refine ⟨by rw [List.length_append, List.length_singleton, List.length_eraseIdx_of_lt hf.1]; omega, fun x hx => ?_⟩
    rcases List.mem_append.1 hx with hx | hx
    · exact hold x (List.mem_of_mem_eraseIdx hx)
    · exact hadd x (List.mem_singleton.1 hx)
theorem SzP.skip {k : Nat} {ps : List PE} (h : SzP k 0 ps) : SzP (k + 1) 0 ps :=
  ⟨by rw [h.len]; omega, fun x hx => by
    obtain ⟨j, hj, r⟩ := h.old x hx
    exact ⟨j, by omega, r⟩⟩
set_option maxRecDepth 100000 in
set_option maxHeartbeats 2000000 in
theorem cacheSizes_walk (s n0 : Int) (w : World) : Calls Try.prog 5 #[.int .i64 s, .int .i64 n0] w fun e w' => e = .returned (.bool true) ∧ Below w.heap.size w w' := by
  obtain ⟨n, hn, hnB⟩ := and_n n0 63 (by omega)
  have hnB : bits BinOp.and IntKind.i64 n0 63 = (n : Int) := hnB
  have HFit := Lib.hid (fit9_e w)
  have HNew := Lib.hid (fun W => new_m s W)
  obtain ⟨size, hsize⟩ : ∃ size, size = (min (max s 0) 16).toNat := ⟨_, rfl⟩
  rw [← hsize] at HNew
  have HSZ := Lib.hid hsize
  clear hsize
  go_enter Try.func5, Try.ntmps5
  go_wp2_with fail
  refine HFit.out.mono ?_
  rintro e w1 ⟨rfl, hb1⟩
  have HB1 := Lib.hid hb1
  clear hb1
  go_wp2_with fail
  refine (HNew.out w1).mono ?_
  rintro e w2 ⟨C, hC, rfl, hc2, hb2⟩
  have HB2 := Lib.hid (HB1.out.trans (hb2.mono HB1.out.size))
  have HC2 := Lib.hid hc2
  clear hb2 hc2 hC HFit HNew
  obtain ⟨base, hbase⟩ : ∃ base, base = w1.heap.size := ⟨_, rfl⟩
  rw [← hbase] at HC2
  have HBA : Hid (w.heap.size ≤ base) := Lib.hid (by rw [hbase]; exact HB1.out.size)
  clear hbase HB1
  go_wp2_with fail
  go_loopw [17, 6] (fun i _ wr => ∃ (k : Nat) (ps : List PE), k ≤ n ∧ i = .int .i64 k ∧ Hid (CM base wr C size ps) ∧ Hid (SzP k size ps) ∧ Hid (Below w.heap.size w wr)) (fun i _ _ => n - (intOf i).toNat)
  case atStart => exact ⟨0, [], by omega, rfl, HC2, Lib.hid ⟨by simp, fun x hx => by cases hx⟩, HB2⟩
  case round =>
    obtain ⟨k, ps, hk, rfl, HC, HP, HB⟩ := hrel
    by_cases hkT : k < n
    · have hkI : (k : Int) < (n : Int) := by omega
      have hk63 : (k : Int) < 63 := by omega
      have hcv := conv1 wr k (by omega)
      have hk8 : IntKind.u8.wrap (k : Int) = (k : Int) := by rw [IntKind.wrap_u8]; omega
      have hba : Below wr.heap.size wr (wr.alloc (.cells #[.int .u8 (k : Int)] 5)) := (Below.refl _ wr).alloc (Nat.le_refl _) _
      have HCA := Lib.hid (HC.out.below hba)
      have HBA2 := Lib.hid (HB.out.trans (hba.mono HB.out.size))
      have HNM : Hid ((⟨#[UInt8.ofNat k]⟩ : ByteArray) = nmB k) := Lib.hid rfl
      generalize (⟨#[UInt8.ofNat k]⟩ : ByteArray) = S at hcv HNM
      clear hba
      go_wp2_with fail
      generalize wr.alloc (.cells #[.int .u8 (k : Int)] 5) = w4 at *
      by_cases h0 : size = 0
      · have hP := skip_m HCA.out 0 S 1 1 (.slice none 0 0) ((k : Int) + 1) (.inl h0)
        refine hP.mono ?_
        rintro e w5 ⟨rfl, hb5⟩
        have HC5 := Lib.hid (HCA.out.below hb5)
        have HB5 := Lib.hid (HBA2.out.trans (hb5.mono HBA2.out.size))
        have HP5 : Hid (SzP (k + 1) size ps) := Lib.hid (by subst h0; exact HP.out.skip)
        clear hb5 hP hcv
        go_wp2_with fail
        go_roundw
        case rel => exact ⟨k + 1, ps, by omega, by first | rfl | go_num, HC5, HP5, HB5⟩
        case measure => simp [intOf]; omega
      · have hP := put_m HCA.out 0 (by decide) S 1 1 (l := .slice none 0 0) (rs := []) (RecsIn.nil _) (fun r hr => by cases hr) (by decide) ((k : Int) + 1) (k + 1) (by omega) (by omega) (by omega)
        refine hP.mono ?_
        rintro e w5 ⟨ps', rfl, hc5, hr5, hs5⟩
        rw [HNM.out] at hr5
        have HC5 := Lib.hid hc5
        have HB5 := Lib.hid (HBA2.out.trans (hs5.below.mono HBA.out))
        have HP5 : Hid (SzP (k + 1) size ps') := Lib.hid (HP.out.next (by omega) (by omega) hr5)
        clear hc5 hr5 hs5 hP hcv
        go_wp2_with fail
        go_roundw
        case rel => exact ⟨k + 1, ps', by omega, by first | rfl | go_num, HC5, HP5, HB5⟩
        case measure => simp [intOf]; omega
    · obtain rfl : k = n := by omega
      have hkI : ¬ (k : Int) < (k : Int) := by omega
      obtain ⟨m1, hm1⟩ : ∃ m1 : Nat, max s 0 = (m1 : Int) := ⟨(max s 0).toNat, by omega⟩
      obtain ⟨m2, hm2⟩ : ∃ m2 : Nat, min (m1 : Int) 16 = (m2 : Int) := ⟨min m1 16, by omega⟩
      obtain ⟨L, hL⟩ : ∃ L, L = ps.length := ⟨_, rfl⟩
      have hm3 : min (k : Int) (m2 : Int) = (L : Int) := by have h1 := HP.out.len; have h2 := HSZ.out; omega
      have HLn := Lib.hid hL
      clear hL
      have HPN := fun W => put_nil W 0 ⟨#[]⟩ 0 1 (.slice none 0 0) 5
      have HEN := fun W => expire_nil 1 W
      have HGN := fun W => get_nil W 0 ⟨#[]⟩ 0
      go_wp2_with (first
        | (go_at_call 14; refine (HPN _).mono ?_; rintro e w4 ⟨rfl, hb4⟩; have HC4 := Lib.hid (HC.out.below hb4); have HB4 := Lib.hid (HB.out.trans (hb4.mono HB.out.size)); clear hb4; go_simp)
        | (go_at_call 12; refine (HEN _).mono ?_; rintro e w5 ⟨rfl, hb5⟩; have HC5 := Lib.hid (HC4.out.below hb5); have HB5 := Lib.hid (HB4.out.trans (hb5.mono HB4.out.size)); clear hb5; go_simp)
        | (go_at_call 13; refine (clear_nil _).mono ?_; rintro e w6 ⟨rfl, rfl⟩; go_simp)
        | (go_at_call 16; refine (HGN _).mono ?_; rintro e w7 ⟨rfl, hb7⟩; have HC7 := Lib.hid (HC5.out.below hb7); have HB7 := Lib.hid (HB5.out.trans (hb7.mono HB5.out.size)); clear hb7; have HLC := len_m HC7.out; rw [← HLn.out] at HLC; go_simp)
        | (go_at_call 15; refine (len_nil _).mono ?_; rintro e w9 ⟨rfl, rfl⟩; go_simp)
        | (go_at_call 15; refine HLC.mono ?_; rintro e w8 ⟨rfl, rfl⟩; go_simp))
      all_goals (go_ret; exact ⟨rfl, HB7.out⟩)
end Go.Proofs.Ytkaeamdjoejfdaa
