/-
  The walk of a reader's method records. Condition: the library's variable MaxLen holds some number.
-/
import Derived.Test.YtakfokdjdljjjaaDoorMsgRF
import Derived.Test.YtakfokdjdljjjaaDoorMsgPlLib
namespace Go.Proofs.YtakfokdjdljjjaaDoor
open Go.RowKit

def rcs (rs : List RV) : List Value := rs.flatMap (·.cells.toList)
theorem rcs_snoc (rs : List RV) (r : RV) : rcs (rs ++ [r]) = rcs rs ++ r.cells.toList := by unfold rcs; rw [List.flatMap_append]; simp
theorem fill21r {cs : List Value} (h : cs.length = 21) : Instr.fill (fun i => some (i * 21, 21)) ((Array.range (1 * 21)).map ((Value.agg (RV.cells ⟨emp, 0, 0, zero16, emp, emp⟩)).cells[· % (Value.agg (RV.cells ⟨emp, 0, 0, zero16, emp, emp⟩)).cells.size]!)) [(0, .agg cs.toArray)] = some cs.toArray := by
  have := Great.fill_whole (s := 21) (by decide) [Value.agg cs.toArray] ((Array.range (1 * 21)).map ((Value.agg (RV.cells ⟨emp, 0, 0, zero16, emp, emp⟩)).cells[· % (Value.agg (RV.cells ⟨emp, 0, 0, zero16, emp, emp⟩)).cells.size]!)) (by simp [Value.cells, h]) (by simp)
  simpa [Value.cells] using this
/-- the records that are read so far -/
structure RcsAt (base B : Nat) (w wr : World) (g : Nat) (A : Option Addr) (c : Nat) (b : List UInt8) (R : Option (List Rec × Nat)) (n k : Nat) (v : Value) : Prop where
  st : ∃ (o : Option Nat) (rs : List RV), rs.length = k ∧ (∀ r ∈ rs, r.ad.length = 16) ∧ RSt base wr g A c b o ∧ wr.ownsRow B 45 21 v k (rcs rs) ∧
    (∀ p, o = some p → ∃ l : List Rec, rs = l.map RV.ofRec ∧ R = (recsF b p (n - k)).map fun x => (l ++ x.1, x.2)) ∧ (o = none → R = none)
  gr : w.grownBy wr (some g)
theorem recs_next {b : List UInt8} {p m : Nat} (l : List Rec) : (recsF b p (m + 1)).map (fun x => (l ++ x.1, x.2)) = (recF b p).bind fun r => (recsF b r.2 m).map fun x => ((l ++ [r.1]) ++ x.1, x.2) := by
  show ((recF b p).bind fun r => (recsF b r.2 m).bind fun l => some (r.1 :: l.1, l.2)).map (fun x => (l ++ x.1, x.2)) = _
  cases recF b p with
  | none => rfl
  | some r =>
    simp only [Option.bind_some]
    cases recsF b r.2 m with
    | none => rfl
    | some x => simp
/-- what records answers -/
def RecsP (base : Nat) (w : World) (g : Nat) (A : Option Addr) (c : Nat) (b : List UInt8) (R : Option (List Rec × Nat)) (n : Nat) (e : Ending) (w' : World) : Prop :=
  ∃ (v : Value) (rs : List RV), e = .returned v ∧ rs.length = n ∧ (∀ r ∈ rs, r.ad.length = 16) ∧ w'.ownsRow w.heap.size 45 21 v n (rcs rs) ∧ (∀ x, R = some x → rs = x.1.map RV.ofRec) ∧ RSt base w' g A c b (R.map (·.2)) ∧ w.grownBy w' (some g)
set_option maxRecDepth 100000 in
set_option maxHeartbeats 4000000 in
theorem recordsP (base g c n : Nat) (A : Option Addr) (b : List UInt8) (o : Option Nat) (w : World) (he : Env w) (hB : 0 < base) (h : RSt base w g A c b o) (hn : n ≤ 64)
    (hrec : ∀ (W : World) (o' : Option Nat), Env W → RSt base W g A c b o' → Calls Tryd.prog 31 #[.pointer (some ⟨g, 0, none⟩)] W fun e w' => RecP base W g A c b (o'.bind (recF b)) e w') :
    Calls Tryd.prog 22 #[.pointer (some ⟨g, 0, none⟩), .int .i64 n] w fun e w' => RecsP base w g A c b (o.bind fun p => recsF b p n) n e w' := by
  obtain ⟨R, hR⟩ : ∃ R, (o.bind fun p => recsF b p n) = R := ⟨_, rfl⟩
  rw [hR]
  obtain ⟨p0, hp0⟩ := h.blk
  have hgl := hp0.lt
  have hbg := hp0.hg
  have HA0 : Hid (RcsAt base w.heap.size w w g A c b R n 0 (.slice none 0 0)) := Lib.hid ⟨⟨o, [], rfl, (fun r hr => by cases hr), h, World.ownsRow_nil _ _ _ _, (fun p hp => ⟨[], rfl, by rw [← hR, hp]; simp⟩), fun ho => by rw [← hR, ho]; rfl⟩, World.grownBy.refl w _⟩
  have HE := Lib.hid he
  have HREC := Lib.hid hrec
  clear hp0 h he hR hrec
  go_enter Tryd.func22, Tryd.ntmps22
  go_wp2_with fail
  go_loopw [7, 5] (fun i v wr => ∃ (k : Nat) (v' : Value), k ≤ n ∧ i = .int .i64 k ∧ v' = v ∧ Hid (RcsAt base w.heap.size w wr g A c b R n k v')) (fun i _ _ => n - (intOf i).toNat)
  case atStart => exact ⟨0, _, by omega, rfl, rfl, HA0⟩
  case round =>
    obtain ⟨k, v, hk, rfl, rfl, HA⟩ := hrel
    obtain ⟨⟨o', rs, hrl, had, hst, hown, hso, hno⟩, hgr⟩ := HA.out
    by_cases hkn : k < n
    · have hkI : (k : Int) < (n : Int) := by omega
      have hbw : Below base w wr := (Below.refl base w).grown hgr (by omega) (fun j e => by injection e with e; omega)
      have C := HREC.out wr o' (HE.out.base hbw hB) hst
      have HST := Lib.hid hst
      have HOWN := Lib.hid hown
      have HSO := Lib.hid hso
      have HNO := Lib.hid hno
      have HGR := Lib.hid hgr
      have HAD := Lib.hid had
      have hws := hgr.size
      clear hst hown hso hno hgr had hbw HA
      go_wp2_with fail
      refine C.mono ?_
      rintro e w5 ⟨s, rfl, hs16, hsx, hr5, hg5⟩
      have ho5 := HOWN.out.kept hg5 (.inr (fun e => by have := (HOWN.out.lt g e).1; omega))
      have hws5 := hg5.size
      obtain ⟨cs, hcs⟩ : ∃ cs, cs = s.cells.toList := ⟨_, rfl⟩
      have hcsA : s.cells = cs.toArray := by rw [hcs, Array.toArray_toList]
      have HCL : Hid (cs.length = 21) := Lib.hid (by rw [hcs, Array.length_toList, RV.size hs16])
      have HC1 : Hid (∀ u ∈ cs, u.oneCell' = true) := Lib.hid (fun u hu => by
        have h := RV.one s
        rw [Array.all_eq_true'] at h
        exact h u (by rw [hcs] at hu; simpa using hu))
      have HCS := Lib.hid hcs
      have HO6 : Hid ((w5.alloc (.cells cs.toArray 45)).ownsRow w.heap.size 45 21 v k (rcs rs)) := Lib.hid (ho5.kept (show w5.grownBy (w5.alloc (.cells cs.toArray 45)) none from (by
        have hb := (Below.refl w5.heap.size w5).alloc (Nat.le_refl _) (.cells cs.toArray 45)
        exact ⟨hb.os, hb.tape, hb.output, hb.size, fun j hj _ => hb.block j hj⟩)) (Classical.em _))
      have HSX := Lib.hid hsx
      have HR5 := Lib.hid hr5
      have HG5 := Lib.hid (grown_trans HGR.out hg5)
      have HS16 := Lib.hid hs16
      rw [hcsA]
      obtain ⟨i0, hi, hz0, hz1, hz2⟩ := info_rec
      have HI := Lib.hid hi
      have HZ0 := Lib.hid hz0
      have HZ1 := Lib.hid hz1
      have HZ2 := Lib.hid hz2
      clear C hcs hcsA hsx hr5 hg5 hs16 ho5 hi hz0 hz1 hz2 HOWN
      go_wp2_with (first
        | (refine wpList_buildSlice rfl 29 45 1 #[(0, .tmp 11)] rfl cs.toArray i0 _ Tryd.underlying29 HI.out HZ0.out (by rw [HZ1.out]; decide) (by rw [HZ1.out]; decide) (by rw [HZ1.out]; refine (congrArg _ (?_ : _ = [(0, Value.agg cs.toArray)])).trans (fill21r HCL.out); rw [Array.toList_map]; rfl) ?_; go_simp)
        | (at_builtin; refine wpList_append_own (w := w5.alloc (.cells cs.toArray 45)) rfl (.tmp 9) (.tmp 12) 29 rfl w.heap.size 45 i0 _ 21 80 Tryd.underlying29 HI.out HZ0.out HZ1.out HZ2.out rfl (by decide) v k (rcs rs) rfl HO6.out ⟨w5.heap.size, 0, none⟩ 1 1 cs rfl (by rw [HCL.out]) (fun j u hj => by rw [Addr.add_lit, Nat.zero_add, World.cell?_alloc_mark, List.getElem?_toArray]; exact hj) HC1.out (by unfold maxLen; omega) (by omega) (by rw [World.size_alloc]; omega) ?_; intro v1 w6 ho1 hg1 hnil; clear hnil; go_simp))
      have HN6 : Hid (RcsAt base w.heap.size w w6 g A c b R n (k + 1) v1) := Lib.hid (by
        have hl6 : g < w5.heap.size := by omega
        have hne : v.ownBlock ≠ some g := fun e => by have := (HO6.out.lt g e).1; omega
        refine ⟨⟨(o'.bind (recF b)).map (·.2), rs ++ [s], by rw [List.length_append, hrl]; rfl, ?_, ?_, ?_, ?_, ?_⟩, ?_⟩
        · intro r hr
          rcases List.mem_append.1 hr with hr | hr
          · exact HAD.out r hr
          · rw [List.mem_singleton.1 hr]; exact HS16.out
        · refine HR5.out.kept ?_ ?_
          · exact ((Below.refl base w5).alloc (by omega) _).grown hg1 (by rw [World.size_alloc]; omega) (fun j hj => by have := (HO6.out.lt j hj).1; omega)
          · exact (hg1.block g (by rw [World.size_alloc]; omega) (fun e => hne e.symm)).trans (Below.heap_alloc w5 _ _ hl6)
        · rw [rcs_snoc, ← HCS.out]; exact ho1
        · intro p hp
          cases ho' : o' with
          | none => rw [ho'] at hp; cases hp
          | some p' =>
            obtain ⟨l, hl, hR⟩ := HSO.out p' ho'
            rw [ho', Option.bind_some] at hp
            cases hrf : recF b p' with
            | none => rw [hrf] at hp; cases hp
            | some r =>
              rw [hrf] at hp
              injection hp with hp
              have hs := HSX.out r (by rw [ho', Option.bind_some, hrf])
              refine ⟨l ++ [r.1], by rw [hl, hs, List.map_append]; rfl, ?_⟩
              have hp : r.2 = p := hp
              rw [hR, show n - k = (n - (k + 1)) + 1 by omega, recs_next, hrf, Option.bind_some, hp]
        · intro hp
          cases ho' : o' with
          | none => exact HNO.out ho'
          | some p' =>
            obtain ⟨l, hl, hR⟩ := HSO.out p' ho'
            rw [ho', Option.bind_some] at hp
            cases hrf : recF b p' with
            | none => rw [hR, show n - k = (n - (k + 1)) + 1 by omega, recs_next, hrf]; rfl
            | some r => rw [hrf] at hp; cases hp
        · exact grown_own (grown_trans HG5.out (grown_below ((Below.refl _ w5).alloc (Nat.le_refl _) _))) hg1 (fun j hj => (HO6.out.lt j hj).1))
      go_roundw
      case rel => exact ⟨k + 1, _, by omega, by first | rfl | go_num, rfl, HN6⟩
      case measure => simp [intOf]; omega
    · obtain rfl : k = n := by omega
      have hfin : RecsP base w g A c b R k (.returned v) wr := by
        refine ⟨v, rs, rfl, hrl, had, hown, ?_, ?_, hgr⟩
        · intro x hx
          cases ho' : o' with
          | none => rw [hno ho'] at hx; cases hx
          | some p' =>
            obtain ⟨l, hl, hR⟩ := hso p' ho'
            rw [Nat.sub_self] at hR
            have hR : R = some (l ++ [], p') := hR
            rw [hR] at hx
            injection hx with hx
            rw [← hx, hl, List.append_nil]
        · cases ho' : o' with
          | none => rw [hno ho']; rw [ho'] at hst; exact hst
          | some p' =>
            obtain ⟨l, hl, hR⟩ := hso p' ho'
            rw [Nat.sub_self] at hR
            have hR : R = some (l ++ [], p') := hR
            rw [hR]; rw [ho'] at hst; exact hst
      have HF := Lib.hid hfin
      clear hfin hst hown hso hno hgr had HA HA0
      go_wp2_with fail
      go_ret
      exact HF.out
end Go.Proofs.YtakfokdjdljjjaaDoor
