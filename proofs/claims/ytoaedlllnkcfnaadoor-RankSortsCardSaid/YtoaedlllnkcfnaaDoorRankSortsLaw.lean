/-
  The walk of RankSorts: addresses come in the order of the rules; like ones as they came; none is lost. Condition: the two tables hold what their initialisers lay.
-/
import Derived.Test.YtoaedlllnkcfnaaDoorRankRows
import Derived.Test.YtoaedlllnkcfnaaDoorRankAheadEq
import Derived.Maps.Own
import Derived.Maps.Views
import Derived.Maps.Keyed
import Derived.WideMake
namespace Go.Proofs.YtoaedlllnkcfnaaDoor
open Go.RowKit Go.Maps

theorem lawI : Maps.Keyed Tryd.prog 3 := int_keyed Tryd.underlying3
theorem wfI {x : Nat} (h : x ≤ 1000000) : (Lit.int .i64 (x : Int)).wf = true := by
  simp [Lit.wf, show IntKind.i64.min = -9223372036854775808 from rfl, show IntKind.i64.max = 9223372036854775807 from rfl]
  omega
theorem keyI_mk {x : Nat} (h : x ≤ 1000000) : keyOf Tryd.prog 3 (.int .i64 (x : Int)) = some (.int .i64 (x : Int)) := by
  simp [keyOf, Tryd.underlying3, mapKey, wfI h]
/-- the map at M holds just these numbers, each with true -/
def SeenI (w : World) (M n : Nat) (l : List Nat) : Prop :=
  ∃ D : DataW Unit, w.ownsMap Tryd.prog 3 (plainElem Tryd.prog 4) M n D ∧ IsMap D ∧ ∀ x : Nat, D.atKey (.int .i64 (x : Int)) (.lit (.bool false)) = .lit (.bool (decide (x ∈ l)))
theorem seenI_made (w : World) : SeenI (w.alloc (.map #[] 0)) w.heap.size 0 [] :=
  ⟨_, World.ownsMap_made w Tryd.prog 3 (plainElem (H := Unit) Tryd.prog 4), ⟨_, rfl⟩, fun _ => rfl⟩
theorem SeenI.kept {w w' : World} {M n : Nat} {l : List Nat} {row : Option Nat} (h : SeenI w M n l) (hg : w.grownBy w' row) (hne : some M ≠ row) : SeenI w' M n l := by
  obtain ⟨D, h1, h2⟩ := h
  exact ⟨D, h1.kept hg hne, h2⟩
theorem SeenI.to {w w' : World} {M n : Nat} {l : List Nat} (h : SeenI w M n l) (hb : Below w.heap.size w w') : SeenI w' M n l :=
  h.kept (show w.grownBy w' none from ⟨hb.os, hb.tape, hb.output, hb.size, fun k hk _ => hb.block k hk⟩) (by simp)
theorem SeenI.look {w : World} {M n : Nat} {l : List Nat} (h : SeenI w M n l) {x : Nat} (hx : x ≤ 1000000) : (Instr.lookup 31 (.map (some M)) (.int .i64 (x : Int)) false).run Tryd.prog w = .ok (.bool (decide (x ∈ l))) w := by
  obtain ⟨D, h1, h2, h3⟩ := h
  have hz : (zeroValue 4).run Tryd.prog w = .ok (.bool false) w := by
    first
      | rfl
      | simp [zeroValue, Tryd.underlying4]
  obtain ⟨v, ps, hrun, hv⟩ := h1.lookup lawI Tryd.underlying31 hz (plainElem_bool Tryd.underlying4 false) (keyI_mk hx)
  rw [h3 x] at hv
  have : v = .bool (decide (x ∈ l)) := by
    unfold plainElem at hv
    rw [Tryd.underlying4] at hv
    cases v <;> simp at hv
    obtain ⟨rfl, _⟩ := hv
    rfl
  rw [hrun, this]
theorem wpList_seenI {ops : Array Oper} {rest : List Oper} {o : Oper} {a : Act} {Q : Exit → Act → World → Prop} {w : World} (hgd : o.guard = none) (m x : Operand) (hop : o.op = Op.mapUpdate 31 m x (.const (.bool true))) (M n : Nat) (l : List Nat) (s : Nat)
    (hm : a.eval m = .map (some M)) (hx : a.eval x = .int .i64 (s : Int)) (hsz : s ≤ 1000000) (hn : n ≤ 1000000) (h : SeenI w M n l)
    (hK : ∀ w', SeenI w' M (n + 1) (l ++ [s]) → w.grownBy w' (some M) → wpList Tryd.prog ops Q rest (a.put o.dst undef) w') : wpList Tryd.prog ops Q (o :: rest) a w := by
  obtain ⟨D, h1, h2, h3⟩ := h
  refine wpList_mapUpdate_own w hgd m x (.const (.bool true)) 31 hop 3 4 lawI Tryd.underlying31 (plainElem Tryd.prog 4) M n D hm h1 (by unfold maxLen; omega) (.int .i64 (s : Int)) (.bool true) (.int .i64 (s : Int)) hx rfl (keyI_mk hsz) (.lit (.bool true)) [] (plainElem_bool Tryd.underlying4 true) ?_
  intro w' r1 r2
  refine hK w' ⟨_, r1, h2.put _ _, fun y => ?_⟩ r2
  have hc : decide (y ∈ l ++ [s]) = (decide (y ∈ l) || decide (s = y)) := by
    rw [Bool.eq_iff_iff, Bool.or_eq_true, decide_eq_true_eq, decide_eq_true_eq, decide_eq_true_eq, List.mem_append, List.mem_singleton]
    exact or_congr Iff.rfl eq_comm
  rw [hc]
  by_cases e : s = y
  · subst e
    rw [decide_eq_true rfl, Bool.or_true, atKey_put_same h2 (by trivial)]
  · rw [atKey_put_other (fun e2 => e (by injection e2 with _ e2; omega)), h3 y, decide_eq_false e, Bool.or_false]
section
variable {P : Program} {ops : Array Oper} {o : Oper} {a : Act}
theorem yieldsIf_lookup {S : World → Prop} (hw : Region.wanted o (yielded ops a.tmps) = true) (t : TypeId) (m k : Operand) (ho : o.op = .lookup t m k false) (mv kv v : Value) (hm : a.eval m = mv) (hk : a.eval k = kv)
    (hr : ∀ w, S w → (Instr.lookup t mv kv false).run P w = .ok v w) : YieldsIf P ops S o v a :=
  .inl ⟨hw, fun w hS => by
    unfold execOp
    simp only [ho, hm, hk, Sem.run_bind, hr w hS, Result.andThen_ok, Sem.run_pure]⟩
end
/-- a record of an address, numbered -/
def rt (t : Nat) (x : List UInt8) : RV := ⟨⟨#[]⟩, 0, (t : Int), x, ⟨#[]⟩, ⟨#[]⟩⟩
def rsN (al : List (List UInt8)) (k : Nat) : List RV := (List.range k).map fun i => rt i (al.getD i zero16)
theorem rsN_snoc (al : List (List UInt8)) (k : Nat) : rsN al (k + 1) = rsN al k ++ [rt k (al.getD k zero16)] := by
  unfold rsN; rw [List.range_succ, List.map_append]; rfl
theorem rsN_len (al : List (List UInt8)) (k : Nat) : (rsN al k).length = k := by unfold rsN; simp
theorem rsN_at (al : List (List UInt8)) {k i : Nat} (h : i < k) : (rsN al k)[i]? = some (rt i (al.getD i zero16)) := by
  unfold rsN; rw [List.getElem?_map, List.getElem?_range h]; rfl
theorem list16S {x : List UInt8} (h : x.length = 16) : ∃ a b c d e f g i j k l m n o p q, x = [a, b, c, d, e, f, g, i, j, k, l, m, n, o, p, q] := by
  match x, h with
  | [a, b, c, d, e, f, g, i, j, k, l, m, n, o, p, q], _ => exact ⟨a, b, c, d, e, f, g, i, j, k, l, m, n, o, p, q, rfl⟩
theorem builtRt (t : Nat) {x : List UInt8} (h : x.length = 16) : Tryd.prog.built 29 [(3, .agg (bvs x).toArray), (2, .int .i64 (t : Int))] = some (rt t x).cells.toArray := by
  obtain ⟨a, b, c, d, e, f, g, i, j, k, l, m, n, o, p, q, rfl⟩ := list16S h
  kernel_rfl
theorem addr_atS {w wr : World} {A : Option Addr} {al : List (List UInt8)} (hA : RowsAt 16 w A (al.map bvs)) (hb : Below w.heap.size w wr) {k : Nat} {x : List UInt8} (hx : al[k]? = some x) : ∃ b o, A = some ⟨b, o, none⟩ ∧ ∀ j v, (bvs x).toArray.toList[j]? = some v → wr.cell? ((⟨b, o + k * 16, none⟩ : Addr).add j) = some v := by
  obtain ⟨b, o, e, hbl, hc⟩ := hA (by rw [List.length_map]; have := (List.getElem?_eq_some_iff.1 hx).1; omega)
  refine ⟨b, o, e, fun j v hj => ?_⟩
  rw [Addr.add_lit, hb.cell (p := ⟨b, o + k * 16 + j, none⟩) hbl]
  exact hc k (bvs x) (by rw [List.getElem?_map, hx]; rfl) j v hj
/-- a record out of a row -/
theorem rec_all {W : World} {A : Option Addr} {rs : List RV} (h : RecsAt W A rs) {k : Nat} {r : RV} (hr : rs[k]? = some r) : ∃ b o, A = some ⟨b, o, none⟩ ∧ b < W.heap.size ∧ ∀ j v, r.cells[j]? = some v → W.cell? ⟨b, o + k * 21 + j, none⟩ = some v := by
  obtain ⟨b, o, e, hlt, hc⟩ := h (by rw [List.length_map]; have := (List.getElem?_eq_some_iff.1 hr).1; omega)
  exact ⟨b, o, e, hlt, hc k r.cells (by rw [List.getElem?_map, hr]; rfl)⟩
/-- a row of the call's own -/
structure OneR (w U : World) (n : Nat) (xs : List Value) (v : Value) : Prop where
  o : U.ownsRow w.heap.size 29 21 v n xs
  below : Below w.heap.size w U
theorem OneR.to {w U U' : World} {n : Nat} {xs : List Value} {v : Value} (h : OneR w U n xs v) (hb : Below U.heap.size U U') : OneR w U' n xs v :=
  ⟨h.o.kept (show U.grownBy U' none from ⟨hb.os, hb.tape, hb.output, hb.size, fun k hk _ => hb.block k hk⟩) (Classical.em _), h.below.trans (hb.mono h.below.size)⟩
/-- what the second loop keeps -/
structure SoAt (w3 W : World) (M k : Nat) (l : List Nat) : Prop where
  below : Below w3.heap.size w3 W
  seen : SeenI W M k l
  hM : w3.heap.size ≤ M
theorem SoAt.to {w3 W W' : World} {M k : Nat} {l : List Nat} (h : SoAt w3 W M k l) (hb : Below W.heap.size W W') : SoAt w3 W' M k l :=
  ⟨h.below.trans (hb.mono h.below.size), h.seen.to hb, h.hM⟩
theorem SoAt.put {w3 W W' : World} {M k : Nat} {l : List Nat} {s : Nat} (h : SoAt w3 W M k l) (hs : SeenI W' M (k + 1) (l ++ [s])) (hg : W.grownBy W' (some M)) : SoAt w3 W' M (k + 1) (l ++ [s]) :=
  ⟨h.below.grown hg h.below.size (fun j hj => by injection hj with hj; have := h.hM; omega), hs, h.hM⟩
/-- what holds of two neighbours in the order -/
theorem near_ahead {ls : List LV} (hls : ∀ x ∈ ls, x.addr.length = 16) {x p : List UInt8} (hx : x.length = 16) (hp : p.length = 16) {i j : Nat} (h : cmpK (keyA ls x) (keyA ls p) < 0 ∨ (cmpK (keyA ls x) (keyA ls p) = 0 ∧ j < i)) :
    aheadB ls x p = false ∧ (aheadB ls p x = true ∨ (aheadB ls p x = false ∧ j < i)) := by
  have h1 := ahead_key ls hls x p hx hp
  have h2 := ahead_key ls hls p x hp hx
  have h3 := cmpK_anti (keyA ls x) (keyA ls p) (by rw [keyA_len, keyA_len])
  rw [h1, h2]
  rcases h with h | ⟨h, hji⟩
  · exact ⟨decide_eq_false (by omega), .inl (decide_eq_true (by omega))⟩
  · exact ⟨decide_eq_false (by omega), .inr ⟨decide_eq_false (by omega), hji⟩⟩
theorem cells_subK {w : World} {g off : Nat} {cs sub : Array Value} {t : TypeId} {fr : Nat × Nat} (hg : w.heap[g]? = some (.cells cs t fr)) (hs : ∀ j v, sub.toList[j]? = some v → cs[off + j]? = some v) :
    ∀ j v, sub.toList[j]? = some v → w.cell? ((⟨g, off, none⟩ : Addr).add j) = some v := fun j v hj => by
  rw [Addr.add_lit, cell_of_row w g (off + j) cs t fr hg]
  exact hs j v hj
theorem sizeRecS (r : RV) (h : r.addr.length = 16) : (Tryd.prog.info? 29).map (·.size) = some r.cells.length := by
  have := rSize h
  rwa [List.size_toArray] at this
set_option maxRecDepth 100000 in
set_option maxHeartbeats 16000000 in
theorem rankSorts_walk (ls : List LV) (hls : ∀ x ∈ ls, x.addr.length = 16) (A : Option Addr) (cap : Nat) (al : List (List UInt8)) (hal : ∀ x ∈ al, x.length = 16) (D : Option Addr) (capd : Nat) (w : World) (he : REnv w) (hA : LocsAt w A ls) (hD : RowsAt 16 w D (al.map bvs)) :
    Calls Tryd.prog 3 #[.slice A ls.length cap, .slice D al.length capd] w fun e w' => e = .returned (.bool true) ∧ Below w.heap.size w w' := by
  have HF := Lib.hid (fun W (hW : REnv W) => fit10_e W hW)
  have HE := Lib.hid he
  have HA := Lib.hid hA
  have HDd := Lib.hid hD
  have HAl := Lib.hid hal
  have HLs := Lib.hid hls
  clear he hA hD hal hls
  by_cases hl20 : 20 < ls.length
  · have h1 : (20 : Int) < (ls.length : Int) := by omega
    go_enter Tryd.func3, Tryd.ntmps3
    go_wp2_with fail
    refine (HF.out _ HE.out).mono ?_
    rintro e w1 ⟨rfl, hb1⟩
    have HB1 := Lib.hid hb1
    clear hb1
    go_wp2_with fail
    go_ret
    exact ⟨rfl, HB1.out⟩
  have h1 : ¬ (20 : Int) < (ls.length : Int) := by omega
  obtain ⟨n, hn⟩ : ∃ n, n = al.length := ⟨_, rfl⟩
  rw [← hn]
  have HNl := Lib.hid hn
  clear hn
  by_cases hn40 : 40 < n
  · have h2 : (40 : Int) < (n : Int) := by omega
    go_enter Tryd.func3, Tryd.ntmps3
    go_wp2_with fail
    refine (HF.out _ HE.out).mono ?_
    rintro e w1 ⟨rfl, hb1⟩
    have HB1 := Lib.hid hb1
    clear hb1
    go_wp2_with fail
    go_ret
    exact ⟨rfl, HB1.out⟩
  have h2 : ¬ (40 : Int) < (n : Int) := by omega
  have HN40 : Hid (n ≤ 40) := Lib.hid (by omega)
  have HL20 : Hid (ls.length < 1000000) := Lib.hid (by omega)
  have hnI : (n : Int) ≤ 40 := by omega
  clear hn40 hl20
  obtain ⟨i0, hi, hz0, hzz, hzb⟩ := info_recK
  have HI := Lib.hid hi
  have HZ0 := Lib.hid hz0
  have HZ1 := Lib.hid hzz
  have ZA := Lib.hid zeroAddr
  have ZR := Lib.hid rZeroAt
  have HZRl : Hid (rvZero.cells.toArray.size = 21) := Lib.hid (by rw [List.size_toArray]; exact RV.size rfl)
  clear hi hz0 hzz hzb
  generalize (bvs zero16).toArray = za at ZA
  go_enter Tryd.func3, Tryd.ntmps3
  go_wp2_with fail
  refine (HF.out _ HE.out).mono ?_
  rintro e w1 ⟨rfl, hb1⟩
  have HT0 : Hid (OneR w w1 0 (rkc (rsN al 0)) (.slice none 0 0)) := Lib.hid ⟨World.ownsRow_nil _ _ _ _, hb1⟩
  clear hb1 HF
  go_wp2_with fail
  go_loopw [25, 5] (fun i x wr => ∃ (k : Nat) (va : Value), k ≤ n ∧ i = .int .i64 k ∧ va = x ∧ Hid (OneR w wr k (rkc (rsN al k)) va)) (fun i _ _ => n - (intOf i).toNat)
  case atStart => exact ⟨0, _, by omega, rfl, rfl, HT0⟩
  case round =>
    clear HT0
    obtain ⟨k, va, hk, rfl, rfl, HP⟩ := hrel
    by_cases hlt : k < n
    · have hkI : (k : Int) < (n : Int) := by omega
      obtain ⟨x, hx⟩ : ∃ x, al[k]? = some x := ⟨_, List.getElem?_eq_getElem (by rw [← HNl.out]; exact hlt)⟩
      have hx16 := HAl.out x (List.mem_of_getElem? hx)
      have hxd : al.getD k zero16 = x := by rw [List.getD_eq_getElem?_getD, hx]; rfl
      obtain ⟨b, o, rfl, hxc⟩ := addr_atS HDd.out HP.out.below hx
      have HCX : Hid (∀ j v, (bvs x).toArray.toList[j]? = some v → wr.cell? ((⟨b, o + k * 16, none⟩ : Addr).add j) = some v) := Lib.hid hxc
      obtain ⟨xs1, hxs1⟩ : ∃ xs1, xs1 = rkc (rsN al (k + 1)) := ⟨_, rfl⟩
      have HX1 := Lib.hid hxs1
      have HTx : Hid (xs1 = rkc (rsN al k) ++ (rt k x).cells) := Lib.hid (by rw [hxs1, rsN_snoc, rkc_snoc, hxd])
      have SX := Lib.hid (sizeBv hx16)
      have OA := Lib.hid (oneBv x)
      have ZX : Hid (za.size = (bvs x).toArray.size) := Lib.hid (by
        have h := ZA.out
        rw [zeroAddr] at h
        simp only [Option.some.injEq, Value.agg.injEq] at h
        rw [← h, List.size_toArray, List.size_toArray, bvs_length, bvs_length, hx16]; rfl)
      have BX := Lib.hid (builtRt k hx16)
      have LX : Hid ((rt k x).cells.length = 21) := Lib.hid (RV.size hx16)
      have OX : Hid (∀ u ∈ (rt k x).cells, u.oneCell' = true) := Lib.hid (fun u hu => by
        have h := RV.one (rt k x)
        rw [Array.all_eq_true'] at h
        exact h u (by simpa using hu))
      clear hx hx16 hxd hxc hxs1
      generalize rkc (rsN al k) = xs0 at HTx HP
      generalize (rt k x).cells = rx at *
      generalize bvs x = bx at *
      have HG5 := Lib.hid (heap_alloc_last wr (.cells bx.toArray 27))
      have HP1 := Lib.hid ((HP.out.to ((Below.refl _ wr).alloc (Nat.le_refl _) (.cells bx.toArray 27))).to ((Below.refl _ (wr.alloc (.cells bx.toArray 27))).alloc (Nat.le_refl _) (.cells rx.toArray 29)))
      have HRw : Hid (∀ j u, rx[j]? = some u → ((wr.alloc (.cells bx.toArray 27)).alloc (.cells rx.toArray 29)).cell? ((⟨wr.heap.size + 1, 0, none⟩ : Addr).add j) = some u) := Lib.hid (fun j u hj => by
        rw [Addr.add_lit, Nat.zero_add]
        have h := heap_alloc_last (wr.alloc (.cells bx.toArray 27)) (.cells rx.toArray 29)
        rw [World.size_alloc] at h
        exact (cell_of_row _ _ j _ _ _ h).trans (by rw [List.getElem?_toArray]; exact hj))
      have HOa := Lib.hid HP1.out.o
      have HBa := Lib.hid HP1.out.below.size
      have HMa : Hid (∀ v' w', w'.ownsRow w.heap.size 29 21 v' (k + 1) (xs0 ++ rx) → ((wr.alloc (.cells bx.toArray 27)).alloc (.cells rx.toArray 29)).grownBy w' va.ownBlock → OneR w w' (k + 1) xs1 v') := Lib.hid (fun v' w' h1 h2 => ⟨by rw [HTx.out]; exact h1, HP1.out.below.grown h2 HP1.out.below.size (fun j hj => (HP1.out.o.lt j hj).1)⟩)
      clear HP HP1
      go_wp2_with (first
        | (refine wpList_load_agg rfl 27 (.tmp 28) rfl ⟨b, o + k * 16, none⟩ rfl bx.toArray _ HCX.out Tryd.underlying27 rfl SX.out ?_; go_simp)
        | (refine wpList_alloc_z rfl 27 rfl za ZA.out ?_; go_simp)
        | (refine wpList_store_new rfl 27 (.tmp 7) (.tmp 29) rfl wr.heap.size rfl za bx.toArray 27 rfl rfl SX.out ZX.out OA.out ?_; go_simp)
        | (refine wpList_load_row rfl 27 (.tmp 7) rfl wr.heap.size rfl 27 bx.toArray (0, 0) _ HG5.out Tryd.underlying27 rfl SX.out ?_; go_simp)
        | (refine wpList_build_k rfl 29 #[(3, .tmp 31), (2, .tmp 32)] rfl [(3, .agg bx.toArray), (2, .int .i64 (k : Int))] rx.toArray BX.out rfl ?_; go_simp)
        | (refine wpList_buildSlice rfl 25 29 1 #[(0, .tmp 33)] rfl rx.toArray i0 _ Tryd.underlying25 HI.out HZ0.out (by rw [HZ1.out]; decide) (by rw [HZ1.out]; decide) (by rw [HZ1.out]; refine (congrArg _ (?_ : _ = [(0, Value.agg rx.toArray)])).trans (fill21k LX.out); rw [Array.toList_map]; rfl) ?_; go_simp)
        | (at_builtin; refine wpList_append_rec (w := (wr.alloc (.cells bx.toArray 27)).alloc (.cells rx.toArray 29)) rfl (.tmp 30) (.tmp 34) rfl w.heap.size va k xs0 rfl HOa.out ⟨wr.heap.size + 1, 0, none⟩ rx rfl LX.out HRw.out OX.out (by omega) HBa.out ?_; intro vc w5 ho1 hg1 hn1; have HQ1 := Lib.hid (HMa.out _ _ ho1 hg1); clear ho1 hg1 hn1; go_simp))
      go_roundw
      case rel => exact ⟨k + 1, vc, by omega, by first | rfl | go_num, rfl, by rw [← HX1.out]; exact HQ1⟩
      case measure => simp [intOf]; omega
    · have hkI : ¬ (k : Int) < (n : Int) := by omega
      obtain rfl : k = n := by omega
      obtain ⟨Ar, cr, rfl⟩ : ∃ A c, va = .slice A k c := by
        rcases HP.out.o.2 with ⟨rfl, h0⟩ | ⟨g, c, cur, rfl, _⟩
        · exact ⟨none, 0, by rw [h0]⟩
        · exact ⟨_, c, rfl⟩
      obtain ⟨rs, hrs⟩ : ∃ rs, rs = rsN al k := ⟨_, rfl⟩
      have hl1 : rs.length = k := by rw [hrs, rsN_len]
      have hat : ∀ i, i < k → ∃ x, al[i]? = some x ∧ x.length = 16 ∧ rs[i]? = some (rt i x) := fun i hi => by
        have hx : al[i]? = some (al[i]'(by rw [← HNl.out]; exact hi)) := List.getElem?_eq_getElem _
        refine ⟨_, hx, HAl.out _ (List.mem_of_getElem? hx), ?_⟩
        rw [hrs, rsN_at al hi, List.getD_eq_getElem?_getD, hx]; rfl
      have h16 : ∀ r ∈ rs, r.addr.length = 16 := fun r hr => by
        obtain ⟨i, hi, hri⟩ := List.mem_iff_getElem.1 hr
        obtain ⟨x, _, hx, h⟩ := hat i (by omega)
        rw [List.getElem?_eq_getElem hi, hri] at h
        injection h with h
        rw [h]; exact hx
      have hra : RecsAt wr Ar rs := own_recsK (base := w.heap.size) (c := cr) (by rw [hl1, hrs]; exact HP.out.o) h16
      have hbw := HP.out.below
      have c1 := sort_e ls HLs.out A cap rs h16 Ar cr HL20.out (by rw [hl1]; exact HN40.out) wr (HE.out.below hbw) (RowsAt.below HA.out hbw) hra
      rw [hl1] at c1
      have C1 := Lib.hid c1
      have HBw := Lib.hid hbw
      have HRa := Lib.hid hra
      have HAt := Lib.hid hat
      have HKk : Hid (∀ i x, rs[i]? = some (rt i x) → (keysOf ls rs).getD i [] = keyA ls x) := Lib.hid (fun i x hx => by
        rw [List.getD_eq_getElem?_getD]
        unfold keysOf
        rw [List.getElem?_map, hx]; rfl)
      have HKl : Hid ((keysOf ls rs).length = k) := Lib.hid (by unfold keysOf; rw [List.length_map, hl1])
      clear hrs hl1 hat h16 hra hbw c1 HP HNl HAl HDd ZA
      go_wp2_with fail
      refine C1.out.mono ?_
      rintro e w3 ⟨ps, b1, hps, rfl, hbb1, hrc1, hb3⟩
      have HPs := Lib.hid hps
      have HR1 := Lib.hid hrc1
      have HB3 := Lib.hid (HBw.out.trans (hb3.mono HBw.out.size))
      have HRb := Lib.hid (RowsAt.below HRa.out hb3)
      have HPl : Hid (ps.length = k) := Lib.hid (by rw [hps.len]; exact HKl.out)
      have HNd : Hid (ps.Nodup) := Lib.hid (hps.perm.symm.nodup List.nodup_range)
      have HS0 : Hid (SoAt w3 (w3.alloc (.map #[] 0)) w3.heap.size 0 (ps.take 0)) := Lib.hid ⟨(Below.refl _ w3).alloc (Nat.le_refl _) _, seenI_made w3, Nat.le_refl _⟩
      clear hps hrc1 hb3 hbb1 C1 HBw HRa hkI
      have hmm := @run_makeMap Tryd.prog
      go_wp2_with fail
      clear hmm
      generalize hnn : k = n at *
      generalize w3.alloc (.map #[] 0) = w4 at HS0 ⊢
      generalize hMM : w3.heap.size = M at HS0 ⊢
      go_loopw [48] (fun i wr => ∃ k : Nat, k ≤ n ∧ i = .int .i64 k ∧ Hid (SoAt w3 wr M k (ps.take k))) (fun i _ => n - (intOf i).toNat)
      case atStart => exact ⟨0, by omega, rfl, HS0⟩
      case round =>
        clear HS0
        obtain ⟨k, hk, rfl, HP⟩ := hrel
        by_cases hlt : k < n
        · have hkI : (k : Int) < (n : Int) := by omega
          obtain ⟨i, hi⟩ : ∃ i, ps[k]? = some i := ⟨_, List.getElem?_eq_getElem (by rw [HPl.out]; exact hlt)⟩
          have hin : i < n := by have := HPs.out.lt hi; rwa [HKl.out] at this
          obtain ⟨x, _, hx16, hrx⟩ := HAt.out i hin
          have hgx : rs.getD i rvZero = rt i x := by rw [List.getD_eq_getElem?_getD, hrx]; rfl
          obtain ⟨b', o', e', hg1, hc1⟩ := rec_all HR1.out (k := k) (r := rt i x) (by rw [List.getElem?_map, hi, ← hgx]; rfl)
          injection e' with e'
          injection e' with e1 e2
          subst e1 e2
          obtain ⟨br, or, rfl, hbr, hcr⟩ := rec_all HRb.out hrx
          have HFr : Hid (decide (i ∈ ps.take k) = false) := Lib.hid (by
            refine decide_eq_false fun h => ?_
            obtain ⟨q, hq, hqi⟩ := List.mem_iff_getElem.1 h
            rw [List.getElem_take] at hqi
            rw [List.length_take] at hq
            have hkl := (List.getElem?_eq_some_iff.1 hi).1
            have h2 := (List.getElem?_eq_some_iff.1 hi).2
            have := (List.pairwise_iff_getElem.1 HNd.out) q k (by omega) hkl (by omega)
            exact this (hqi.trans h2.symm))
          have HTk : Hid (ps.take (k + 1) = ps.take k ++ [i]) := Lib.hid (by rw [List.take_add_one, hi]; rfl)
          have HIn : Hid (i < n) := Lib.hid hin
          have HInI : Hid ((i : Int) < (n : Int)) := Lib.hid (by omega)
          have HI0 : Hid (¬ (i : Int) < 0 ∧ (0 : Int) ≤ (i : Int)) := Lib.hid (by omega)
          have HSr := Lib.hid (sizeRecS (rt i x) hx16)
          have HSr2 := Lib.hid (rSize (r := rt i x) hx16)
          have HZr : Hid (rvZero.cells.toArray.size = (rt i x).cells.toArray.size) := Lib.hid (by rw [HZRl.out, List.size_toArray, RV.size (r := rt i x) hx16])
          have HOr := Lib.hid (RV.one (rt i x))
          have HEQ : Hid (∀ W, (Op.equalIn 10000 29 (.agg (rt i x).cells.toArray) (.agg (rt i x).cells.toArray)).run Tryd.prog W = .ok true W) := Lib.hid (fun W => (eq_rec W (rt i x) (rt i x) hx16 hx16).trans (by unfold eqRB; simp))
          have HEG := Lib.hid eqGuardRec
          have HOc : Hid (∀ W, Below w3.heap.size w3 W → ∀ j v, (rt i x).cells.toArray.toList[j]? = some v → W.cell? ((⟨b1, k * 21, none⟩ : Addr).add j) = some v) := Lib.hid (fun W hb j v hj => by
            rw [Addr.add_lit, hb.cell (p := ⟨b1, k * 21 + j, none⟩) hg1]
            have := hc1 j v (by simpa using hj)
            rw [Nat.zero_add] at this
            exact this)
          have HRc : Hid (∀ W, Below w3.heap.size w3 W → ∀ j v, (rt i x).cells[j]? = some v → W.cell? ⟨br, or + i * 21 + j, none⟩ = some v) := Lib.hid (fun W hb j v hj => (hb.cell (p := ⟨br, or + i * 21 + j, none⟩) hbr).trans (hcr j v hj))
          have H2c : Hid ((rt i x).cells.toArray[2]? = some (.int .i64 (i : Nat))) := Lib.hid rfl
          have H3c : Hid (∀ j v, (bvs x).toArray.toList[j]? = some v → (rt i x).cells.toArray[3 + j]? = some v) := Lib.hid (fun j v hj => by
            rw [List.getElem?_toArray]
            have hj2 : (bvs x)[j]? = some v := by simpa using hj
            exact (RV.has (r := rt i x) hx16).1 j v hj2)
          have SXa := Lib.hid (sizeBv hx16)
          have HX16 := Lib.hid hx16
          have HRx := Lib.hid hrx
          have HPi := Lib.hid hi
          clear hi hin hx16 hrx hgx hg1 hc1 hbr hcr
          obtain ⟨rc, hrc⟩ : ∃ rc, rc = (rt i x).cells := ⟨_, rfl⟩
          rw [← hrc] at HSr HSr2 HZr HOr HEQ HOc HRc H2c H3c
          clear hrc
          have HSo5 := Lib.hid (HP.out.to ((Below.refl _ wr).alloc (Nat.le_refl _) (.cells rc.toArray 29)))
          have HG5 := Lib.hid (heap_alloc_last wr (.cells rc.toArray 29))
          have HOcw := Lib.hid (HOc.out wr HP.out.below)
          have HMne : Hid (M ≠ wr.heap.size) := Lib.hid (by
            obtain ⟨D', hD', _⟩ := HP.out.seen
            exact Nat.ne_of_lt hD'.lt)
          clear HP
          generalize hzr : rvZero.cells.toArray = zr at *
          clear hzr
          go_upto_region 18 with (first
            | (refine wpList_load_agg rfl 29 (.tmp 51) rfl ⟨b1, k * 21, none⟩ rfl rc.toArray _ HOcw.out Tryd.underlying29 rfl HSr2.out ?_; go_simp)
            | (refine wpList_alloc_z rfl 29 rfl zr ZR.out ?_; go_simp)
            | (refine wpList_store_new rfl 29 (.tmp 11) (.tmp 52) rfl wr.heap.size rfl zr rc.toArray 29 rfl rfl HSr2.out HZr.out HOr.out ?_; go_simp))
          generalize wr.alloc (.cells rc.toArray 29) = w5 at HSo5 HG5 ⊢
          have DT : Hid (∀ W, Below w5.heap.size w5 W → W.cell? ⟨wr.heap.size, 2, none⟩ = some (.int .i64 (i : Nat))) := Lib.hid (fun W hb => (cell_of_row W _ 2 _ _ _ ((hb.block _ (heap_lt HG5.out)).trans HG5.out)).trans H2c.out)
          have HLk : Hid (∀ W, Below w5.heap.size w5 W → (Instr.lookup 31 (.map (some M)) (.int .i64 (i : Nat)) false).run Tryd.prog W = .ok (.bool false) W) := Lib.hid (fun W hb => by
            have h := (HSo5.out.seen.to hb).look (x := i) (by have := HIn.out; have := HN40.out; omega)
            rw [HFr.out] at h
            exact h)
          have RR : Hid (∀ W, Below w5.heap.size w5 W → W.rangeAt br (or + i * 21) rc) := Lib.hid (fun W hb j v hj => HRc.out W (HSo5.out.below.trans (hb.mono HSo5.out.below.size)) j v hj)
          have RX : Hid (∀ W, Below w5.heap.size w5 W → W.rangeAt wr.heap.size 0 rc) := Lib.hid (fun W hb j v hj => by
            rw [cell_of_row W _ _ _ _ _ ((hb.block _ (heap_lt HG5.out)).trans HG5.out), Nat.zero_add]
            simpa using hj)
          refine wp_region_held_drew (S := (fun W : World => Below w5.heap.size w5 W)) (by kernel_rfl) (Below.refl _ w5).drew (fun hHeld => ?_)
          refine wpAnyH_take (i := 0) (oi := ({ dst := some 53, op := Go.Op.fieldAddr 29 (Go.Operand.tmp 11) 2, type := 0, pos := "law.go:36", after := #[], guard := none } : Oper)) (v := .pointer (some ⟨wr.heap.size, 2, none⟩)) rfl (by kernel_rfl) (by kernel_rfl) (by kernel_rfl) (fun _ _ _ h => h) (Or.inl ⟨by rfl, fun w' _ => ?_⟩) hHeld ?_
          · go_simp
          simp only [Act.put, List.setIfInBounds_toArray, List.set_cons_zero, List.set_cons_succ]
          refine wpAnyH_take (i := 1) (oi := ({ dst := some 54, op := Go.Op.load 3 (Go.Operand.tmp 53), type := 3, pos := "law.go:36", after := #[{ on := 0, ground := Go.Ground.data }], guard := none } : Oper)) (v := .int .i64 (i : Nat)) rfl (by kernel_rfl) (by kernel_rfl) (by kernel_rfl) (fun _ _ _ h => h) (Or.inl ⟨by rfl, fun w' hS' => ?_⟩) hHeld ?_
          · have hcell := DT.out _ hS'
            go_simp
          simp only [Act.put, List.setIfInBounds_toArray, List.set_cons_zero, List.set_cons_succ]
          refine wpAnyH_take (i := 2) (oi := ({ dst := some 55, op := Go.Op.binOp Go.BinOp.lss 3 (Go.Operand.tmp 54) (Go.Operand.const (Go.Value.int Go.IntKind.i64 0)) 3, type := 4, pos := "law.go:36", after := #[{ on := 1, ground := Go.Ground.data }], guard := none } : Oper)) (v := .bool false) rfl (by kernel_rfl) (by kernel_rfl) (by kernel_rfl) (fun _ _ _ h => h) (Or.inl ⟨by rfl, fun w' _ => ?_⟩) hHeld ?_
          · (have hi0 := HI0.out; go_simp)
          simp only [Act.put, List.setIfInBounds_toArray, List.set_cons_zero, List.set_cons_succ]
          refine wpAnyH_take (i := 3) (oi := ({ dst := some 56, op := Go.Op.move (Go.Operand.tmp 55), type := 4, pos := "law.go:36", after := #[{ on := 2, ground := Go.Ground.data }], guard := none } : Oper)) (v := .bool false) rfl (by kernel_rfl) (by kernel_rfl) (by kernel_rfl) (fun _ _ _ h => h) (Or.inl ⟨by rfl, fun w' _ => ?_⟩) hHeld ?_
          · go_simp
          simp only [Act.put, List.setIfInBounds_toArray, List.set_cons_zero, List.set_cons_succ]
          refine wpAnyH_take (i := 4) (oi := ({ dst := some 57, op := Go.Op.fieldAddr 29 (Go.Operand.tmp 11) 2, type := 0, pos := "law.go:36", after := #[{ on := 3, ground := Go.Ground.guard }], guard := some (3, false) } : Oper)) (v := .pointer (some ⟨wr.heap.size, 2, none⟩)) rfl (by kernel_rfl) (by kernel_rfl) (by kernel_rfl) (fun _ _ _ h => h) (Or.inl ⟨by kernel_rfl, fun w' _ => ?_⟩) hHeld ?_
          · go_simp
          simp only [Act.put, List.setIfInBounds_toArray, List.set_cons_zero, List.set_cons_succ]
          refine wpAnyH_take (i := 5) (oi := ({ dst := some 58, op := Go.Op.load 3 (Go.Operand.tmp 57), type := 3, pos := "law.go:36", after := #[{ on := 4, ground := Go.Ground.data }, { on := 3, ground := Go.Ground.guard }], guard := some (3, false) } : Oper)) (v := .int .i64 (i : Nat)) rfl (by kernel_rfl) (by kernel_rfl) (by kernel_rfl) (fun _ _ _ h => h) (Or.inl ⟨by kernel_rfl, fun w' hS' => ?_⟩) hHeld ?_
          · have hcell := DT.out _ hS'
            go_simp
          simp only [Act.put, List.setIfInBounds_toArray, List.set_cons_zero, List.set_cons_succ]
          refine wpAnyH_take (i := 6) (oi := ({ dst := some 59, op := Go.Op.move (Go.Operand.tmp 5), type := 25, pos := "law.go:36", after := #[{ on := 3, ground := Go.Ground.guard }], guard := some (3, false) } : Oper)) (v := .slice (some ⟨br, or, none⟩) n cr) rfl (by kernel_rfl) (by kernel_rfl) (by kernel_rfl) (fun _ _ _ h => h) (Or.inl ⟨by kernel_rfl, fun w' _ => ?_⟩) hHeld ?_
          · go_simp
          simp only [Act.put, List.setIfInBounds_toArray, List.set_cons_zero, List.set_cons_succ]
          refine wpAnyH_take (i := 7) (oi := ({ dst := some 60, op := Go.Op.call { callee := Go.Callee.builtin Go.Builtin.len, args := #[Go.Operand.tmp 59], argTypes := #[25] }, type := 3, pos := "law.go:36", after := #[{ on := 6, ground := Go.Ground.data }, { on := 3, ground := Go.Ground.guard }], guard := some (3, false) } : Oper)) (v := .int .i64 (n : Nat)) rfl (by kernel_rfl) (by kernel_rfl) (by kernel_rfl) (fun _ _ _ h => h) (Or.inl ⟨by kernel_rfl, fun w' _ => ?_⟩) hHeld ?_
          · go_simp
          simp only [Act.put, List.setIfInBounds_toArray, List.set_cons_zero, List.set_cons_succ]
          refine wpAnyH_take (i := 8) (oi := ({ dst := some 61, op := Go.Op.binOp Go.BinOp.geq 3 (Go.Operand.tmp 58) (Go.Operand.tmp 60) 3, type := 4, pos := "law.go:36", after := #[{ on := 5, ground := Go.Ground.data }, { on := 7, ground := Go.Ground.data }, { on := 3, ground := Go.Ground.guard }], guard := some (3, false) } : Oper)) (v := .bool false) rfl (by kernel_rfl) (by kernel_rfl) (by kernel_rfl) (fun _ _ _ h => h) (Or.inl ⟨by kernel_rfl, fun w' _ => ?_⟩) hHeld ?_
          · (go_simp; exact HIn.out)
          simp only [Act.put, List.setIfInBounds_toArray, List.set_cons_zero, List.set_cons_succ]
          refine wpAnyH_take (i := 9) (oi := ({ dst := some 62, op := Go.Op.pick (Go.Operand.tmp 56) (Go.Operand.const (Go.Value.bool true)) (Go.Operand.tmp 61), type := 4, pos := "law.go:36", after := #[{ on := 3, ground := Go.Ground.data }, { on := 8, ground := Go.Ground.data }], guard := none } : Oper)) (v := .bool false) rfl (by kernel_rfl) (by kernel_rfl) (by kernel_rfl) (fun _ _ _ h => h) (Or.inl ⟨by rfl, fun w' _ => ?_⟩) hHeld ?_
          · go_simp
          simp only [Act.put, List.setIfInBounds_toArray, List.set_cons_zero, List.set_cons_succ]
          refine wpAnyH_take (i := 10) (oi := ({ dst := some 63, op := Go.Op.move (Go.Operand.tmp 62), type := 4, pos := "law.go:36", after := #[{ on := 9, ground := Go.Ground.data }, { on := 3, ground := Go.Ground.chain }], guard := none } : Oper)) (v := .bool false) rfl (by kernel_rfl) (by kernel_rfl) (by kernel_rfl) (fun _ _ _ h => h) (Or.inl ⟨by rfl, fun w' _ => ?_⟩) hHeld ?_
          · go_simp
          simp only [Act.put, List.setIfInBounds_toArray, List.set_cons_zero, List.set_cons_succ]
          refine wpAnyH_take (i := 11) (oi := ({ dst := some 64, op := Go.Op.move (Go.Operand.tmp 9), type := 31, pos := "law.go:36", after := #[{ on := 10, ground := Go.Ground.guard }], guard := some (10, false) } : Oper)) (v := .map (some M)) rfl (by kernel_rfl) (by kernel_rfl) (by kernel_rfl) (fun _ _ _ h => h) (Or.inl ⟨by kernel_rfl, fun w' _ => ?_⟩) hHeld ?_
          · go_simp
          simp only [Act.put, List.setIfInBounds_toArray, List.set_cons_zero, List.set_cons_succ]
          refine wpAnyH_take (i := 12) (oi := ({ dst := some 65, op := Go.Op.fieldAddr 29 (Go.Operand.tmp 11) 2, type := 0, pos := "law.go:36", after := #[{ on := 10, ground := Go.Ground.guard }], guard := some (10, false) } : Oper)) (v := .pointer (some ⟨wr.heap.size, 2, none⟩)) rfl (by kernel_rfl) (by kernel_rfl) (by kernel_rfl) (fun _ _ _ h => h) (Or.inl ⟨by kernel_rfl, fun w' _ => ?_⟩) hHeld ?_
          · go_simp
          simp only [Act.put, List.setIfInBounds_toArray, List.set_cons_zero, List.set_cons_succ]
          refine wpAnyH_take (i := 13) (oi := ({ dst := some 66, op := Go.Op.load 3 (Go.Operand.tmp 65), type := 3, pos := "law.go:36", after := #[{ on := 12, ground := Go.Ground.data }, { on := 10, ground := Go.Ground.guard }], guard := some (10, false) } : Oper)) (v := .int .i64 (i : Nat)) rfl (by kernel_rfl) (by kernel_rfl) (by kernel_rfl) (fun _ _ _ h => h) (Or.inl ⟨by kernel_rfl, fun w' hS' => ?_⟩) hHeld ?_
          · have hcell := DT.out _ hS'
            go_simp
          simp only [Act.put, List.setIfInBounds_toArray, List.set_cons_zero, List.set_cons_succ]
          refine wpAnyH_take (i := 14) (oi := ({ dst := some 67, op := Go.Op.lookup 31 (Go.Operand.tmp 64) (Go.Operand.tmp 66) false, type := 4, pos := "law.go:36", after := #[{ on := 11, ground := Go.Ground.data }, { on := 13, ground := Go.Ground.data }, { on := 10, ground := Go.Ground.guard }], guard := some (10, false) } : Oper)) (v := .bool false) rfl (by kernel_rfl) (by kernel_rfl) (by kernel_rfl) (fun _ _ _ h => h) (yieldsIf_lookup (by kernel_rfl) 31 (.tmp 64) (.tmp 66) rfl (.map (some M)) (.int .i64 (i : Nat)) (.bool false) rfl rfl (fun W h => HLk.out W h)) hHeld ?_
          simp only [Act.put, List.setIfInBounds_toArray, List.set_cons_zero, List.set_cons_succ]
          refine wpAnyH_take (i := 15) (oi := ({ dst := some 68, op := Go.Op.pick (Go.Operand.tmp 63) (Go.Operand.const (Go.Value.bool true)) (Go.Operand.tmp 67), type := 4, pos := "law.go:36", after := #[{ on := 10, ground := Go.Ground.data }, { on := 14, ground := Go.Ground.data }], guard := none } : Oper)) (v := .bool false) rfl (by kernel_rfl) (by kernel_rfl) (by kernel_rfl) (fun _ _ _ h => h) (Or.inl ⟨by rfl, fun w' _ => ?_⟩) hHeld ?_
          · go_simp
          simp only [Act.put, List.setIfInBounds_toArray, List.set_cons_zero, List.set_cons_succ]
          refine wpAnyH_take (i := 16) (oi := ({ dst := some 69, op := Go.Op.move (Go.Operand.tmp 68), type := 4, pos := "law.go:36", after := #[{ on := 15, ground := Go.Ground.data }, { on := 10, ground := Go.Ground.chain }], guard := none } : Oper)) (v := .bool false) rfl (by kernel_rfl) (by kernel_rfl) (by kernel_rfl) (fun _ _ _ h => h) (Or.inl ⟨by rfl, fun w' _ => ?_⟩) hHeld ?_
          · go_simp
          simp only [Act.put, List.setIfInBounds_toArray, List.set_cons_zero, List.set_cons_succ]
          refine wpAnyH_take (i := 17) (oi := ({ dst := some 70, op := Go.Op.move (Go.Operand.tmp 5), type := 25, pos := "law.go:36", after := #[{ on := 16, ground := Go.Ground.guard }], guard := some (16, false) } : Oper)) (v := .slice (some ⟨br, or, none⟩) n cr) rfl (by kernel_rfl) (by kernel_rfl) (by kernel_rfl) (fun _ _ _ h => h) (Or.inl ⟨by kernel_rfl, fun w' _ => ?_⟩) hHeld ?_
          · go_simp
          simp only [Act.put, List.setIfInBounds_toArray, List.set_cons_zero, List.set_cons_succ]
          refine wpAnyH_take (i := 18) (oi := ({ dst := some 71, op := Go.Op.fieldAddr 29 (Go.Operand.tmp 11) 2, type := 0, pos := "law.go:36", after := #[{ on := 16, ground := Go.Ground.guard }], guard := some (16, false) } : Oper)) (v := .pointer (some ⟨wr.heap.size, 2, none⟩)) rfl (by kernel_rfl) (by kernel_rfl) (by kernel_rfl) (fun _ _ _ h => h) (Or.inl ⟨by kernel_rfl, fun w' _ => ?_⟩) hHeld ?_
          · go_simp
          simp only [Act.put, List.setIfInBounds_toArray, List.set_cons_zero, List.set_cons_succ]
          refine wpAnyH_take (i := 19) (oi := ({ dst := some 72, op := Go.Op.load 3 (Go.Operand.tmp 71), type := 3, pos := "law.go:36", after := #[{ on := 18, ground := Go.Ground.data }, { on := 16, ground := Go.Ground.guard }], guard := some (16, false) } : Oper)) (v := .int .i64 (i : Nat)) rfl (by kernel_rfl) (by kernel_rfl) (by kernel_rfl) (fun _ _ _ h => h) (Or.inl ⟨by kernel_rfl, fun w' hS' => ?_⟩) hHeld ?_
          · have hcell := DT.out _ hS'
            go_simp
          simp only [Act.put, List.setIfInBounds_toArray, List.set_cons_zero, List.set_cons_succ]
          refine wpAnyH_take (i := 20) (oi := ({ dst := some 73, op := Go.Op.indexAddr 25 (Go.Operand.tmp 70) (Go.Operand.tmp 72), type := 0, pos := "law.go:36", after := #[{ on := 17, ground := Go.Ground.data }, { on := 19, ground := Go.Ground.data }, { on := 16, ground := Go.Ground.guard }], guard := some (16, false) } : Oper)) (v := .pointer (some ⟨br, or + i * 21, none⟩)) rfl (by kernel_rfl) (by kernel_rfl) (by kernel_rfl) (fun _ _ _ h => h) (Or.inl ⟨by kernel_rfl, fun w' _ => ?_⟩) hHeld ?_
          · (have hin := HIn.out; have hinI := HInI.out; have hi0 := HI0.out; go_simp)
          simp only [Act.put, List.setIfInBounds_toArray, List.set_cons_zero, List.set_cons_succ]
          refine wpAnyH_take (i := 21) (oi := ({ dst := some 74, op := Go.Op.load 29 (Go.Operand.tmp 73), type := 29, pos := "law.go:36", after := #[{ on := 20, ground := Go.Ground.data }, { on := 16, ground := Go.Ground.guard }], guard := some (16, false) } : Oper)) (v := .agg (rc).toArray) rfl (by kernel_rfl) (by kernel_rfl) (by kernel_rfl) (fun _ _ _ h => h) (yieldsIf_load_mid (by kernel_rfl) _ _ rfl _ _ rfl _ _ (fun W h => RR.out W h) Tryd.underlying29 rfl HSr.out) hHeld ?_
          simp only [Act.put, List.setIfInBounds_toArray, List.set_cons_zero, List.set_cons_succ]
          refine wpAnyH_take (i := 22) (oi := ({ dst := some 75, op := Go.Op.load 29 (Go.Operand.tmp 11), type := 29, pos := "law.go:36", after := #[{ on := 16, ground := Go.Ground.guard }], guard := some (16, false) } : Oper)) (v := .agg (rc).toArray) rfl (by kernel_rfl) (by kernel_rfl) (by kernel_rfl) (fun _ _ _ h => h) (yieldsIf_load_mid (by kernel_rfl) _ _ rfl _ _ rfl _ _ (fun W h => RX.out W h) Tryd.underlying29 rfl HSr.out) hHeld ?_
          simp only [Act.put, List.setIfInBounds_toArray, List.set_cons_zero, List.set_cons_succ]
          refine wpAnyH_take (i := 23) (oi := ({ dst := some 76, op := Go.Op.binOp Go.BinOp.neq 29 (Go.Operand.tmp 74) (Go.Operand.tmp 75) 29, type := 4, pos := "law.go:36", after := #[{ on := 21, ground := Go.Ground.data }, { on := 22, ground := Go.Ground.data }, { on := 16, ground := Go.Ground.guard }], guard := some (16, false) } : Oper)) (v := .bool false) rfl (by kernel_rfl) (by kernel_rfl) (by kernel_rfl) (fun _ _ _ h => h) (yieldsIf_neqK (by kernel_rfl) 29 (.tmp 74) (.tmp 75) _ rfl rc.toArray rc.toArray true rfl rfl HEG.out (fun W _ => HEQ.out W)) hHeld ?_
          simp only [Act.put, List.setIfInBounds_toArray, List.set_cons_zero, List.set_cons_succ]
          refine wpAnyH_take (i := 24) (oi := ({ dst := some 77, op := Go.Op.pick (Go.Operand.tmp 69) (Go.Operand.const (Go.Value.bool true)) (Go.Operand.tmp 76), type := 4, pos := "law.go:36", after := #[{ on := 16, ground := Go.Ground.data }, { on := 23, ground := Go.Ground.data }], guard := none } : Oper)) (v := .bool false) rfl (by kernel_rfl) (by kernel_rfl) (by kernel_rfl) (fun _ _ _ h => h) (Or.inl ⟨by rfl, fun w' _ => ?_⟩) hHeld ?_
          · go_simp
          simp only [Act.put, List.setIfInBounds_toArray, List.set_cons_zero, List.set_cons_succ]
          refine wpAnyH_done (by kernel_rfl) ?_ _
          have HSo6 := Lib.hid (HSo5.out.to hHeld)
          have HG6 := Lib.hid ((hHeld.block _ (heap_lt HG5.out)).trans HG5.out)
          clear hHeld DT HLk RR RX HSo5 HG5 HRc HOc HOcw HFr HEQ HEG
          generalize w5.drew = w6 at HSo6 HG6 ⊢
          have d2 := (cell_of_row w6 wr.heap.size 2 _ _ _ HG6.out).trans H2c.out
          have HKp : Hid (∀ u u' : World, u.grownBy u' (some M) → u.heap[wr.heap.size]? = some (.cells rc.toArray 29 (0, 0)) → M ≠ wr.heap.size → u'.heap[wr.heap.size]? = some (.cells rc.toArray 29 (0, 0))) := Lib.hid (fun u u' hg hu hne => (hg.block _ (heap_lt hu) (fun e => hne (by injection e with e; exact e.symm))).trans hu)
          have hk40 : k ≤ 40 := by have := HN40.out; omega
          go_upto_region 21 with (first
            | (refine wpList_seenI rfl (.tmp 78) (.tmp 80) rfl M k (ps.take k) i rfl rfl (by have := HIn.out; omega) (by omega) HSo6.out.seen ?_; intro w7 hs7 hg7; have HSo7 := Lib.hid (HSo6.out.put hs7 hg7); have HG7 : Hid (w7.heap[wr.heap.size]? = some (.cells rc.toArray 29 (0, 0))) := Lib.hid (HKp.out w6 w7 hg7 HG6.out HMne.out); clear hs7 hg7; go_simp))
          have HSo7b : Hid (SoAt w3 w7 M (k + 1) (ps.take (k + 1))) := Lib.hid (by rw [HTk.out]; exact HSo7.out)
          clear HSo6 HG6 d2 HSo7
          by_cases hk0 : k = 0
          · have hk0I : ¬ (0 : Int) < (k : Int) := by omega
            clear hk0
            go_wp2_with fail
            go_roundw
            case rel => exact ⟨k + 1, by omega, by first | rfl | go_num, HSo7b⟩
            case measure => simp [intOf]; omega
          · have hk0I : (0 : Int) < (k : Int) := by omega
            obtain ⟨q, hq⟩ : ∃ q, q = k - 1 := ⟨_, rfl⟩
            have s1 : (k : Int) - 1 = (q : Int) := by omega
            have u1 : IntKind.i64.wrap (q : Int) = (q : Int) := by rw [IntKind.wrap_i64]; omega
            have hqI : (q : Int) < (n : Int) := by omega
            obtain ⟨j, hj⟩ : ∃ j, ps[q]? = some j := ⟨_, List.getElem?_eq_getElem (by rw [HPl.out]; omega)⟩
            have hjn : j < n := by have := HPs.out.lt hj; rwa [HKl.out] at this
            obtain ⟨y, _, hy16, hry⟩ := HAt.out j hjn
            have hgy : rs.getD j rvZero = rt j y := by rw [List.getD_eq_getElem?_getD, hry]; rfl
            obtain ⟨b', o', e', hg1, hc1⟩ := rec_all HR1.out (k := q) (r := rt j y) (by rw [List.getElem?_map, hj, ← hgy]; rfl)
            injection e' with e'
            injection e' with e1 e2
            subst e1 e2
            have hord := HPs.out.ord q k j i (by omega) hj HPi.out
            rw [HKk.out i x HRx.out, HKk.out j y hry] at hord
            obtain ⟨ha1, ha2⟩ := near_ahead HLs.out HX16.out hy16 hord
            have HOy : Hid (∀ jj v, (rt j y).cells.toArray.toList[jj]? = some v → w7.cell? ((⟨b1, q * 21, none⟩ : Addr).add jj) = some v) := Lib.hid (fun jj v hjj => by
              rw [Addr.add_lit, HSo7b.out.below.cell (p := ⟨b1, q * 21 + jj, none⟩) hg1]
              have := hc1 jj v (by simpa using hjj)
              rw [Nat.zero_add] at this
              exact this)
            have HSy := Lib.hid (rSize (r := rt j y) hy16)
            have HZy : Hid (zr.size = (rt j y).cells.toArray.size) := Lib.hid (by rw [HZRl.out, List.size_toArray, RV.size (r := rt j y) hy16])
            have HOry := Lib.hid (RV.one (rt j y))
            have H2y : Hid ((rt j y).cells.toArray[2]? = some (.int .i64 (j : Nat))) := Lib.hid rfl
            have H3y : Hid (∀ jj v, (bvs y).toArray.toList[jj]? = some v → (rt j y).cells.toArray[3 + jj]? = some v) := Lib.hid (fun jj v hjj => by
              rw [List.getElem?_toArray]
              have hj2 : (bvs y)[jj]? = some v := by simpa using hjj
              exact (RV.has (r := rt j y) hy16).1 jj v hj2)
            have SYa := Lib.hid (sizeBv hy16)
            have HA1 := Lib.hid (fun W (hb : Below w3.heap.size w3 W) => refAhead_e ls HLs.out A cap x y HX16.out hy16 HL20.out W (RowsAt.below HA.out (HB3.out.trans (hb.mono HB3.out.size))))
            have HA2 := Lib.hid (fun W (hb : Below w3.heap.size w3 W) => refAhead_e ls HLs.out A cap y x hy16 HX16.out HL20.out W (RowsAt.below HA.out (HB3.out.trans (hb.mono HB3.out.size))))
            rw [ha1] at HA1
            obtain ⟨ry, hryc⟩ : ∃ ry, ry = (rt j y).cells := ⟨_, rfl⟩
            rw [← hryc] at HOy HSy HZy HOry H2y H3y
            have HSo8 := Lib.hid (HSo7b.out.to ((Below.refl _ w7).alloc (Nat.le_refl _) (.cells ry.toArray 29)))
            have HGy8 := Lib.hid (heap_alloc_last w7 (.cells ry.toArray 29))
            have HGx8 : Hid ((w7.alloc (.cells ry.toArray 29)).heap[wr.heap.size]? = some (.cells rc.toArray 29 (0, 0))) := Lib.hid ((Below.heap_alloc _ _ _ (heap_lt HG7.out)).trans HG7.out)
            have HXc := Lib.hid (fun (W : World) (h : W.heap[wr.heap.size]? = some (.cells rc.toArray 29 (0, 0))) => cells_subK (off := 3) (sub := (bvs x).toArray) h H3c.out)
            have HYc := Lib.hid (fun (W : World) (h : W.heap[w7.heap.size]? = some (.cells ry.toArray 29 (0, 0))) => cells_subK (off := 3) (sub := (bvs y).toArray) h H3y.out)
            have HAh := Lib.hid ha2
            clear hj hjn hy16 hry hgy hg1 hc1 hord ha1 ha2 hryc hq HSo7b HG7 hk0
            generalize bvs x = bx at *
            generalize bvs y = by_ at *
            go_upto_region 23 with (first
              | (refine wpList_load_agg rfl 29 (.tmp 86) rfl ⟨b1, q * 21, none⟩ rfl ry.toArray _ HOy.out Tryd.underlying29 rfl HSy.out ?_; go_simp)
              | (refine wpList_alloc_z rfl 29 rfl zr ZR.out ?_; go_simp)
              | (refine wpList_store_new rfl 29 (.tmp 12) (.tmp 87) rfl w7.heap.size rfl zr ry.toArray 29 rfl rfl HSy.out HZy.out HOry.out ?_; go_simp))
            generalize w7.alloc (.cells ry.toArray 29) = w8 at HSo8 HGy8 HGx8 ⊢
            have HXc8 := Lib.hid (HXc.out _ HGx8.out)
            have HYc8 := Lib.hid (HYc.out _ HGy8.out)
            go_wp2_with (first
              | (refine wpList_load_agg rfl 27 (.tmp 89) rfl ⟨wr.heap.size, 3, none⟩ rfl bx.toArray _ HXc8.out Tryd.underlying27 rfl SXa.out ?_; go_simp)
              | (refine wpList_load_agg rfl 27 (.tmp 91) rfl ⟨w7.heap.size, 3, none⟩ rfl by_.toArray _ HYc8.out Tryd.underlying27 rfl SYa.out ?_; go_simp))
            refine (HA1.out _ HSo8.out.below).mono ?_
            rintro e w9 ⟨rfl, hb9⟩
            have HSo9 := Lib.hid (HSo8.out.to hb9)
            have HGx9 := Lib.hid ((hb9.block _ (heap_lt HGx8.out)).trans HGx8.out)
            have HGy9 := Lib.hid ((hb9.block _ (heap_lt HGy8.out)).trans HGy8.out)
            have HXc9 := Lib.hid (HXc.out _ HGx9.out)
            have HYc9 := Lib.hid (HYc.out _ HGy9.out)
            have HA2w := Lib.hid (HA2.out _ HSo9.out.below)
            clear hb9 HSo8 HGx8 HGy8 HXc8 HYc8 HA1 HA2
            go_wp2_with (first
              | (refine wpList_load_agg_gh (by kernel_rfl) 27 (.tmp 96) rfl ⟨w7.heap.size, 3, none⟩ rfl by_.toArray _ HYc9.out Tryd.underlying27 rfl SYa.out ?_; go_simp)
              | (refine wpList_load_agg_gh (by kernel_rfl) 27 (.tmp 98) rfl ⟨wr.heap.size, 3, none⟩ rfl bx.toArray _ HXc9.out Tryd.underlying27 rfl SXa.out ?_; go_simp))
            refine HA2w.out.mono ?_
            rintro e wa ⟨rfl, hba⟩
            have HSoa := Lib.hid (HSo9.out.to hba)
            have HGxa := Lib.hid ((hba.block _ (heap_lt HGx9.out)).trans HGx9.out)
            have HGya := Lib.hid ((hba.block _ (heap_lt HGy9.out)).trans HGy9.out)
            clear hba HSo9 HGx9 HGy9 HXc9 HYc9 HA2w
            rcases HAh.out with hA | ⟨hA, hji⟩
            · rw [hA]
              clear HAh hA
              go_wp2_with fail
              go_roundw
              case rel => exact ⟨k + 1, by omega, by first | rfl | go_num, HSoa⟩
              case measure => simp [intOf]; omega
            · rw [hA]
              have dx := (cell_of_row wa wr.heap.size 2 _ _ _ HGxa.out).trans H2c.out
              have dy := (cell_of_row wa w7.heap.size 2 _ _ _ HGya.out).trans H2y.out
              have hjiI : ¬ (i : Int) < (j : Int) := by omega
              clear HAh hA hji
              go_wp2_with fail
              go_roundw
              case rel => exact ⟨k + 1, by omega, by first | rfl | go_num, HSoa⟩
              case measure => simp [intOf]; omega
        · have hkI : ¬ (k : Int) < (n : Int) := by omega
          have HBf := Lib.hid (HB3.out.trans (HP.out.below.mono HB3.out.size))
          clear HP
          go_wp2_with fail
          go_ret
          exact ⟨rfl, HBf.out⟩
end Go.Proofs.YtoaedlllnkcfnaaDoor
