/-
  Links that came in: what a link, a list of links and a list of calls that came in are. Conditions: each states its own.
-/
import Derived.Test.YtgopjgbcnjkblaaGreatDoorLinkFit
import Derived.ChangeSlices
import Derived.OpenShut
import Derived.ProofKit
namespace Go.Proofs.YtgopjgbcnjkblaaGreatDoor
open Go.ChangeShapes Go.WideShapes Go.ChangeAt Go.ChangeMaps Go.RowKit

/-- what lies in the world is below its end -/
theorem RowIn.far {k T n : Nat} {w : World} {v : Value} {xs : List Value} (h : RowIn k w v n xs) (hT : w.heap.size ≤ T) (h0 : xs ≠ []) : v.ownBlock ≠ some T := fun e => by
  rcases h.at' with ⟨rfl, _⟩ | ⟨a, c, rfl, _, hc⟩
  · cases e
  · obtain ⟨u, hu⟩ : ∃ u, xs[0]? = some u := by
      cases xs with
      | nil => exact absurd rfl h0
      | cons u l => exact ⟨u, rfl⟩
    have := World.block_lt_of_cell? w _ (hc 0 u hu)
    have e2 : a.block = T := by injection e
    have e3 : (a.add 0).block = a.block := by unfold Addr.add; rw [if_pos rfl]
    omega
theorem InL.far {w : World} {s : Sl} {T : Nat} (h : InL w s) (hT : w.heap.size ≤ T) : FarL T s :=
  ⟨fun e => h.dom.far hT (fun e2 => e (List.map_eq_nil_iff.1 e2)), h.srv.far hT, h.loc.far hT⟩
theorem flat_at {xs : List (List Value)} {s k j : Nat} {c : List Value} (hl : ∀ x ∈ xs, x.length = s) (hk : xs[k]? = some c) (hj : j < s) : xs.flatten[k * s + j]? = c[j]? := by
  induction xs generalizing k with
  | nil => simp at hk
  | cons x l ih =>
    have hx := hl x List.mem_cons_self
    cases k with
    | zero =>
      obtain rfl : x = c := by simpa using hk
      rw [Nat.zero_mul, Nat.zero_add, List.flatten_cons, List.getElem?_append_left (by omega)]
    | succ k =>
      have hk' : l[k]? = some c := by simpa using hk
      rw [List.flatten_cons, List.getElem?_append_right (by rw [hx, Nat.succ_mul]; omega), hx, show (k + 1) * s + j - s = k * s + j by rw [Nat.succ_mul]; omega]
      exact ih (fun y hy => hl y (List.mem_cons_of_mem _ hy)) hk'
theorem flat_len {s : Nat} : ∀ {xs : List (List Value)}, (∀ x ∈ xs, x.length = s) → xs.flatten.length = xs.length * s
  | [], _ => by simp
  | x :: l, h => by
    rw [List.flatten_cons, List.length_append, h x List.mem_cons_self, flat_len (fun y hy => h y (List.mem_cons_of_mem _ hy)), List.length_cons, Nat.succ_mul]; omega
theorem addr_addk (a : Addr) {i j : Nat} (h : 0 < i) : (a.add i).add j = a.add (i + j) := by
  have hi : i ≠ 0 := by omega
  have hij : i + j ≠ 0 := by omega
  unfold Addr.add
  rw [if_neg hi, if_neg hij]
  by_cases hj : j = 0
  · rw [if_pos hj, hj, Nat.add_zero]
  · rw [if_neg hj]; simp only [Addr.mk.injEq, and_true, true_and]; omega
theorem addr_addk0 (a : Addr) {j : Nat} : (a.add 0).add j = a.add (0 + j) := by unfold Addr.add; rw [if_pos rfl, Nat.zero_add]
/-- what a list of values of several cells that came in is -/
theorem open_rowsL {H : Type} {enc : TypeId × Value → H} {W : World} {fuel : Nat} {l : List Value} {s : Nat} {x : DataW H × List MemPlace} {st e : TypeId} {α : Type} (z : α) (C : α → List Value) (Q : α → Prop) (hst : Tryz.prog.underlying st = some (.slice e)) (hs : Tryz.prog.cellsOf e = s) (h0 : 0 < s) {base : Nat} {sp : Nat → Bool} {held : Bool}
    (hC : ∀ (m : Nat) (l : List Value) (y : DataW H × List MemPlace), DataW.trod enc Tryz.prog W base sp held m e l = some y → ∃ r : α, Q r ∧ l = C r) (hlen : ∀ r, Q r → (C r).length = s) (hone : ∀ r, Q r → ∀ u ∈ C r, u.oneCell' = true)
    (hb : base = 0) (h : DataW.trod enc Tryz.prog W base sp held fuel st l = some x) :
    ∃ (A : Option Addr) (len cap : Nat) (ls : List α), l = [.slice A len cap] ∧ ls.length = len ∧ len ≤ maxLen ∧ (∀ r ∈ ls, Q r) ∧ RowIn s W (.slice A len cap) len (ls.map C).flatten := by
  subst hb
  rcases DataW.trod_slice hst h with ⟨hcs, _⟩ | ⟨a, len, cap, elems, rest, n, _, hcs, _, _, hl, hlm, hel, hat, _⟩
  · exact ⟨none, 0, 0, [], hcs, rfl, Nat.zero_le _, (fun s hs => by cases hs), RowIn.nil _ _⟩
  · rw [hs] at hat
    have hat' : ∀ i, i < len → ∃ r : α, Q r ∧ W.cells? 0 (a.add (i * s)) s = some (C r) := fun i hi => by
      have h := hat i hi
      rw [List.getElem?_eq_getElem (by omega)] at h
      obtain ⟨cs, h1, h2⟩ := Option.bind_eq_some_iff.1 h
      obtain ⟨r, hr, rfl⟩ := hC _ _ _ h2
      exact ⟨r, hr, h1⟩
    have hch : ∃ f : Nat → α, ∀ i, i < len → Q (f i) ∧ W.cells? 0 (a.add (i * s)) s = some (C (f i)) :=
      ⟨fun i => if hi : i < len then (hat' i hi).choose else z, fun i hi => by
        simp only [dif_pos hi]
        exact (hat' i hi).choose_spec⟩
    obtain ⟨f, hf⟩ := hch
    have hls : ∀ r ∈ (List.range len).map f, Q r := fun r hr => by
      obtain ⟨i, hi, rfl⟩ := List.mem_map.1 hr
      exact (hf i (List.mem_range.1 hi)).1
    have hlc : ∀ x ∈ ((List.range len).map f).map C, x.length = s := fun x hx => by
      obtain ⟨r, hr, rfl⟩ := List.mem_map.1 hx
      exact hlen r (hls r hr)
    refine ⟨some a, len, cap, (List.range len).map f, hcs, by simp, by omega, hls, ?_, ?_, .inr ⟨a, cap, rfl, hl, fun j u hj => ?_⟩⟩
    · rw [flat_len hlc]; simp
    · intro u hu
      obtain ⟨x, hx, hux⟩ := List.mem_flatten.1 hu
      obtain ⟨r, hr, rfl⟩ := List.mem_map.1 hx
      exact hone r (hls r hr) u hux
    · have hjl : j < len * s := by
        have := (List.getElem?_eq_some_iff.1 hj).1
        rw [flat_len hlc] at this; simpa using this
      have hq : j / s < len := (Nat.div_lt_iff_lt_mul h0).2 hjl
      have hr := Nat.mod_lt j h0
      have he : j = j / s * s + j % s := by rw [Nat.mul_comm]; exact (Nat.div_add_mod j s).symm
      have h1 := flat_at (xs := ((List.range len).map f).map C) (k := j / s) (j := j % s) (c := C (f (j / s))) hlc (by rw [List.getElem?_map, List.getElem?_map, List.getElem?_range hq]; rfl) hr
      rw [← he, hj] at h1
      have h2 := (World.cells?_some (hf _ hq).2).2.2 (j % s) hr
      rw [← h1] at h2
      have h3 : (a.add (j / s * s)).add (j % s) = a.add j := by
        rcases Nat.eq_zero_or_pos (j / s * s) with e | e
        · rw [e, addr_addk0, ← e, ← he]
        · rw [addr_addk a e, ← he]
      rw [← h3]; exact h2
theorem cLink : Tryz.prog.cellsOf 31 = 7 := by kernel_rfl
theorem cStr : Tryz.prog.cellsOf 9 = 1 := by kernel_rfl
theorem cAddr : Tryz.prog.cellsOf 83 = 16 := by kernel_rfl
theorem cLoc : Tryz.prog.cellsOf 94 = 18 := by kernel_rfl
theorem cBool : Tryz.prog.cellsOf 4 = 1 := by kernel_rfl
theorem cInt : Tryz.prog.cellsOf 3 = 1 := by kernel_rfl
theorem cU8 : Tryz.prog.cellsOf 5 = 1 := by kernel_rfl
theorem cSl1 : Tryz.prog.cellsOf 27 = 1 := by kernel_rfl
theorem cSl2 : Tryz.prog.cellsOf 28 = 1 := by kernel_rfl
theorem cSl3 : Tryz.prog.cellsOf 29 = 1 := by kernel_rfl
/-- a local address: its cells -/
structure Lc where
  ad : List UInt8
  dep : Bool
  home : Bool
def bts (xs : List UInt8) : List Value := xs.map fun c => .int .u8 c.toNat
theorem bts_len (xs : List UInt8) : (bts xs).length = xs.length := by unfold bts; simp
theorem bts_one (xs : List UInt8) : ∀ v ∈ bts xs, v.oneCell' = true := fun v hv => by
  obtain ⟨c, _, rfl⟩ := List.mem_map.1 hv; rfl
def Lc.cells (l : Lc) : List Value := bts l.ad ++ [.bool l.dep, .bool l.home]
theorem Lc.clen {l : Lc} (h : l.ad.length = 16) : l.cells.length = 18 := by unfold Lc.cells; rw [List.length_append, bts_len, h]; rfl
theorem Lc.one (l : Lc) : ∀ v ∈ l.cells, v.oneCell' = true := fun v hv => by
  unfold Lc.cells at hv
  rcases List.mem_append.1 hv with hv | hv
  · exact bts_one _ v hv
  · simp only [List.mem_cons, List.not_mem_nil, or_false] at hv
    rcases hv with rfl | rfl <;> rfl
def byteU : Value → UInt8
  | .int _ z => UInt8.ofNat z.toNat
  | _ => 0
theorem byteU_int {k : IntKind} {z : Int} (h0 : 0 ≤ z) (h1 : z ≤ 255) : ((byteU (.int k z)).toNat : Int) = z := by
  unfold byteU
  rw [UInt8.toNat_ofNat']
  omega
section
variable {H : Type} {enc : TypeId × Value → H} {W : World} {sp : Nat → Bool} {held : Bool}
/-- the bytes of an address that came in -/
theorem octs_of {fuel base : Nat} {l : List Value} {y : DataW H × List MemPlace} (h : DataW.trod enc Tryz.prog W base sp held fuel 83 l = some y) : ∃ x : List UInt8, x.length = 16 ∧ l = bts x := by
  obtain ⟨xs, m, _, _, hl, hxl, hat⟩ := DataW.trod_array Tryz.underlying83 h
  rw [cAddr] at hl
  have hat' : ∀ i, i < 16 → ∃ z : Int, l[i]? = some (.int .u8 z) ∧ 0 ≤ z ∧ z ≤ 255 := fun i hi => by
    have h := hat i hi
    rw [cU8, Nat.mul_one, List.getElem?_eq_getElem (by omega)] at h
    obtain ⟨z, hz, _, hw⟩ := DataW.trod_int Tryz.underlying5 h
    refine ⟨z, ?_, bounds_u8 hw⟩
    have := congrArg (·[0]?) hz
    simpa [List.getElem?_take, List.getElem?_drop] using this
  refine ⟨l.map byteU, by rw [List.length_map]; exact hl, ?_⟩
  unfold bts
  rw [List.map_map]
  refine List.ext_getElem? (fun i => ?_)
  rcases Nat.lt_or_ge i 16 with hi | hi
  · obtain ⟨z, h1, h3, h4⟩ := hat' i hi
    rw [List.getElem?_map, h1]
    show _ = some (Value.int .u8 ((byteU (.int .u8 z)).toNat : Int))
    rw [byteU_int h3 h4]
  · rw [List.getElem?_eq_none (by omega), List.getElem?_eq_none (by rw [List.length_map]; omega)]
theorem take3 {l : List Value} {a b c : Nat} (h : l.length = a + b + c) : l = (l.drop 0).take a ++ ((l.drop a).take b ++ (l.drop (a + b)).take c) := by
  rw [List.take_of_length_le (l := l.drop (a + b)) (by rw [List.length_drop]; omega), ← List.drop_drop, List.take_append_drop, List.drop_zero, List.take_append_drop]
set_option maxRecDepth 100000 in
theorem lc_of {fuel base : Nat} {l : List Value} {y : DataW H × List MemPlace} (h : DataW.trod enc Tryz.prog W base sp held fuel 94 l = some y) : ∃ r : Lc, r.ad.length = 16 ∧ l = r.cells := by
  obtain ⟨xs, m, _, _, hl, hxl, hat⟩ := DataW.trod_struct Tryz.underlying94 h
  rw [cLoc] at hl
  have hxl : xs.length = 3 := hxl
  have h0 : DataW.trod enc Tryz.prog W base sp held m 83 ((l.drop 0).take (Tryz.prog.cellsOf 83)) = xs[0]? := hat 0 _ rfl
  have h1 : DataW.trod enc Tryz.prog W base sp held m 4 ((l.drop 16).take (Tryz.prog.cellsOf 4)) = xs[1]? := hat 1 _ rfl
  have h2 : DataW.trod enc Tryz.prog W base sp held m 4 ((l.drop 17).take (Tryz.prog.cellsOf 4)) = xs[2]? := hat 2 _ rfl
  rw [cAddr, List.getElem?_eq_getElem (by omega)] at h0
  rw [cBool, List.getElem?_eq_getElem (by omega)] at h1 h2
  obtain ⟨x, hx, e0⟩ := octs_of h0
  obtain ⟨b, e1, _⟩ := DataW.trod_bool Tryz.underlying4 h1
  obtain ⟨c, e2, _⟩ := DataW.trod_bool Tryz.underlying4 h2
  refine ⟨⟨x, b, c⟩, hx, ?_⟩
  have h3 := take3 (l := l) (a := 16) (b := 1) (c := 1) (by omega)
  rw [h3, e0, e1, e2]
  unfold Lc.cells
  simp
theorem str_of {fuel : Nat} {l : List Value} {y : DataW H × List MemPlace} (h : DataW.trod enc Tryz.prog W 0 sp held fuel 9 l = some y) : ∃ d : ByteArray, d.size ≤ maxLen ∧ l = [.string d] := by
  obtain ⟨n, e0, _, hs⟩ := DataW.trod_string Tryz.underlying9 h
  exact ⟨n, hs, e0⟩
theorem flat_str : ∀ (ds : List ByteArray), (ds.map (fun d => [Value.string d])).flatten = ds.map .string
  | [] => rfl
  | d :: ds => by rw [List.map_cons, List.flatten_cons, flat_str ds]; rfl
/-- a link that came in: its lists, and the local addresses -/
structure InS (W : World) (s : Sl) : Prop where
  inl : InL W s
  locs : ∃ ls : List Lc, (∀ x ∈ ls, x.ad.length = 16) ∧ ls.length = s.nl ∧ s.ls = (ls.map Lc.cells).flatten
set_option maxRecDepth 100000 in
theorem link_of {fuel : Nat} {l : List Value} {y : DataW H × List MemPlace} (h : DataW.trod enc Tryz.prog W 0 sp held fuel 31 l = some y) : ∃ s : Sl, InS W s ∧ l = s.lk := by
  obtain ⟨xs, m, _, _, hl, hxl, hat⟩ := DataW.trod_struct Tryz.underlying31 h
  rw [cLink] at hl
  have hxl : xs.length = 7 := hxl
  have h0 : DataW.trod enc Tryz.prog W 0 sp held m 4 ((l.drop 0).take (Tryz.prog.cellsOf 4)) = xs[0]? := hat 0 _ rfl
  have h1 : DataW.trod enc Tryz.prog W 0 sp held m 3 ((l.drop 1).take (Tryz.prog.cellsOf 3)) = xs[1]? := hat 1 _ rfl
  have h2 : DataW.trod enc Tryz.prog W 0 sp held m 27 ((l.drop 2).take (Tryz.prog.cellsOf 27)) = xs[2]? := hat 2 _ rfl
  have h3 : DataW.trod enc Tryz.prog W 0 sp held m 4 ((l.drop 3).take (Tryz.prog.cellsOf 4)) = xs[3]? := hat 3 _ rfl
  have h4 : DataW.trod enc Tryz.prog W 0 sp held m 4 ((l.drop 4).take (Tryz.prog.cellsOf 4)) = xs[4]? := hat 4 _ rfl
  have h5 : DataW.trod enc Tryz.prog W 0 sp held m 28 ((l.drop 5).take (Tryz.prog.cellsOf 28)) = xs[5]? := hat 5 _ rfl
  have h6 : DataW.trod enc Tryz.prog W 0 sp held m 29 ((l.drop 6).take (Tryz.prog.cellsOf 29)) = xs[6]? := hat 6 _ rfl
  rw [cBool, List.getElem?_eq_getElem (by omega)] at h0 h3 h4
  rw [cInt, List.getElem?_eq_getElem (by omega)] at h1
  rw [cSl1, List.getElem?_eq_getElem (by omega)] at h2
  rw [cSl2, List.getElem?_eq_getElem (by omega)] at h5
  rw [cSl3, List.getElem?_eq_getElem (by omega)] at h6
  obtain ⟨live, e0, _⟩ := DataW.trod_bool Tryz.underlying4 h0
  obtain ⟨gen, e1, _⟩ := DataW.trod_int Tryz.underlying3 h1
  obtain ⟨dA, dn, dc, ds, e2, hdl, hdm, hdq, hdr⟩ := open_rowsL (α := ByteArray) (st := 27) (e := 9) (s := 1) ByteArray.empty (fun d => [.string d]) (fun d => d.size ≤ maxLen) Tryz.underlying27 cStr (by decide) (fun _ _ _ h => str_of h) (fun _ _ => rfl) (fun _ _ u hu => by obtain rfl := List.mem_singleton.1 hu; rfl) rfl h2
  obtain ⟨df, e3, _⟩ := DataW.trod_bool Tryz.underlying4 h3
  obtain ⟨ll, e4, _⟩ := DataW.trod_bool Tryz.underlying4 h4
  obtain ⟨sA, sn, sc, ss, e5, hsl, hsm, hsq, hsr⟩ := open_rowsL (α := List UInt8) (st := 28) (e := 83) (s := 16) [] bts (fun d => d.length = 16) Tryz.underlying28 cAddr (by decide) (fun _ _ _ h => octs_of h) (fun r h => by rw [bts_len]; exact h) (fun r _ => bts_one r) rfl h5
  obtain ⟨lA, ln, lc, ls, e6, hll, hlm, hlq, hlr⟩ := open_rowsL (α := Lc) (st := 29) (e := 94) (s := 18) ⟨[], false, false⟩ Lc.cells (fun d => d.ad.length = 16) Tryz.underlying29 cLoc (by decide) (fun _ _ _ h => lc_of h) (fun r h => Lc.clen h) (fun r _ => Lc.one r) rfl h6
  subst hdl
  rw [flat_str] at hdr
  refine ⟨⟨live, gen, dA, dc, ds, df, ll, sA, sc, sn, (ss.map bts).flatten, lA, lc, ln, (ls.map Lc.cells).flatten, none⟩, ⟨⟨hdr, hsr, hlr, hdq, hdm, hsm, hlm⟩, ⟨ls, hlq, hll, rfl⟩⟩, ?_⟩
  have e : l = (l.drop 0).take 1 ++ ((l.drop 1).take 1 ++ ((l.drop 2).take 1 ++ ((l.drop 3).take 1 ++ ((l.drop 4).take 1 ++ ((l.drop 5).take 1 ++ (l.drop 6).take 1))))) := by
    have hd6 : (l.drop 6).take 1 = l.drop 6 := List.take_of_length_le (by rw [List.length_drop]; omega)
    have g : ∀ (p q : Nat) (r : List Value), r = l.drop (p + q) → (l.drop p).take q ++ r = l.drop p := fun p q r hr => by
      rw [hr, ← List.drop_drop, List.take_append_drop]
    rw [hd6, g 5 1 _ rfl, g 4 1 _ rfl, g 3 1 _ rfl, g 2 1 _ rfl, g 1 1 _ rfl, g 0 1 _ rfl]
    rfl
  rw [e, e0, e1, e2, e3, e4, e5, e6]
  rfl
end
end Go.Proofs.YtgopjgbcnjkblaaGreatDoor
