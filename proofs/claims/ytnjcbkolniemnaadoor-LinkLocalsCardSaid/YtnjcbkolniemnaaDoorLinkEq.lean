/-
  Lists of links that came in, and a local address held against itself. Conditions: each states its own.
-/
import Derived.Test.YtnjcbkolniemnaaDoorLinkCalls
import Derived.Laws.StructEq
import Derived.Stop.BytesEq
namespace Go.Proofs.YtnjcbkolniemnaaDoor
open Go.ChangeShapes Go.WideShapes Go.ChangeAt Go.ChangeMaps Go.RowKit

section
variable {H : Type} {enc : TypeId × Value → H} {W : World} {sp : Nat → Bool} {held : Bool}
/-- what a list of links that came in is -/
theorem open_links {fuel : Nat} {A : Option Addr} {len cap : Nat} {x : DataW H × List MemPlace} (h : DataW.trod enc Tryd.prog W 0 sp held fuel 50 (Value.slice A len cap).cells.toList = some x) :
    ∃ ls : List Sl, ls.length = len ∧ ((∀ c ∈ ls, InS W c) ∧ RowIn 7 W (.slice A len cap) len (ls.map Sl.lk).flatten ∧ len ≤ maxLen) := by
  obtain ⟨A', len', cap', ls, e, h1, hml, h2, h3⟩ := open_rowsL (α := Sl) (st := 50) (e := 31) (s := 7) zSl Sl.lk (fun c => InS W c) Tryd.underlying50 cLink (by decide) (fun _ _ _ h => link_of h) (fun _ _ => rfl) (fun r _ => lk_one r) rfl h
  simp only [Value.cells, List.cons.injEq, Value.slice.injEq, and_true] at e
  obtain ⟨rfl, rfl, rfl⟩ := e
  exact ⟨ls, h1, h2, h3, hml⟩
end
theorem eqf_bool {f : Field} {fs : List Field} (d : Nat) (w : World) {xs ys : Array Value} {a b : Bool} (hn : f.name ≠ "_") (ht : f.type = 4) (hx : xs[f.offset]? = some (.bool a)) (hy : ys[f.offset]? = some (.bool b)) :
    (Op.eqFields (d + 1) xs ys (f :: fs)).run Tryd.prog w = if (a == b) = true then (Op.eqFields (d + 1) xs ys fs).run Tryd.prog w else .ok false w := by
  have p1 : (part f.type xs f.offset).run Tryd.prog w = .ok (.bool a) w := by rw [ht]; simp [part, isAgg, run_underlying Tryd.underlying4, hx]
  have p2 : (part f.type ys f.offset).run Tryd.prog w = .ok (.bool b) w := by rw [ht]; simp [part, isAgg, run_underlying Tryd.underlying4, hy]
  have p3 : (Op.equalIn (d + 1) f.type (.bool a) (.bool b)).run Tryd.prog w = .ok (a == b) w := by rw [ht]; exact run_equalIn_bool w d _ a b Tryd.underlying4
  simp only [Op.eqFields, if_pos hn, Sem.run_bind, p1, p2, p3, Result.andThen_ok]
  cases (a == b) <;> simp
theorem sizeOfU8 (w : World) : (sizeOf 5).run Tryd.prog w = .ok 1 w := by kernel_rfl
theorem eq_addr (d : Nat) (w : World) {x y : List UInt8} (hx : x.length = 16) (hy : y.length = 16) : (Op.equalIn (d + 2) 53 (.agg (bts x).toArray) (.agg (bts y).toArray)).run Tryd.prog w = .ok (x == y) w :=
  run_equalIn_bytes w d 53 5 16 Tryd.underlying53 Tryd.underlying5 sizeOfU8 x y hx hy
theorem sizeOfAddr (w : World) : (sizeOf 53).run Tryd.prog w = .ok 16 w := by kernel_rfl
theorem eqf_addr {f : Field} {fs : List Field} (d : Nat) (w : World) {xs ys : Array Value} {a b : List UInt8} (ha : a.length = 16) (hb : b.length = 16) (hn : f.name ≠ "_") (ht : f.type = 53) (hx : xs.extract f.offset (f.offset + 16) = (bts a).toArray) (hy : ys.extract f.offset (f.offset + 16) = (bts b).toArray) :
    (Op.eqFields (d + 2) xs ys (f :: fs)).run Tryd.prog w = if (a == b) = true then (Op.eqFields (d + 2) xs ys fs).run Tryd.prog w else .ok false w := by
  have p1 : (part f.type xs f.offset).run Tryd.prog w = .ok (.agg (bts a).toArray) w := by rw [ht]; simp only [part, isAgg, Sem.run_bind, run_underlying Tryd.underlying53, Result.andThen_ok, Sem.run_pure, if_true, sizeOfAddr, hx]
  have p2 : (part f.type ys f.offset).run Tryd.prog w = .ok (.agg (bts b).toArray) w := by rw [ht]; simp only [part, isAgg, Sem.run_bind, run_underlying Tryd.underlying53, Result.andThen_ok, Sem.run_pure, if_true, sizeOfAddr, hy]
  have p3 : (Op.equalIn (d + 2) f.type (.agg (bts a).toArray) (.agg (bts b).toArray)).run Tryd.prog w = .ok (a == b) w := by rw [ht]; exact eq_addr d w ha hb
  simp only [Op.eqFields, if_pos hn, Sem.run_bind, p1, p2, p3, Result.andThen_ok]
  cases (a == b) <;> simp
theorem ext16 (l p s : List Value) (x : List Value) (o : Nat) (hl : l = p ++ x ++ s) (hp : p.length = o) (hx : x.length = 16) : l.toArray.extract o (o + 16) = x.toArray := by
  subst hl
  rw [List.extract_toArray]
  simp only [List.extract_eq_take_drop, List.append_assoc]
  rw [← hp, List.drop_left, show p.length + 16 - p.length = x.length by omega, List.take_left]
theorem Lc.has {l : Lc} (h : l.ad.length = 16) : l.cells[16]? = some (.bool l.dep) ∧ l.cells[17]? = some (.bool l.home) := by
  unfold Lc.cells
  rw [List.getElem?_append_right (by rw [bts_len]; omega), List.getElem?_append_right (by rw [bts_len]; omega), bts_len, h]
  exact ⟨rfl, rfl⟩
theorem eq_lc (w : World) (r : Lc) (hr : r.ad.length = 16) : (Op.equalIn 10000 55 (.agg r.cells.toArray) (.agg r.cells.toArray)).run Tryd.prog w = .ok true w := by
  have hf : Tryd.prog.underlying 55 = some (.struct (Tryd.prog.fieldsOf 55)) := by kernel_rfl
  rw [show 10000 = 9999 + 1 from rfl, run_equalIn_agg w 9999 55 _ _ hf (by kernel_rfl)]
  have hfs : (Tryd.prog.fieldsOf 55).toList.map (fun f => (f.name != "_", f.type, f.offset)) = [(true, 53, 0), (true, 4, 16), (true, 4, 17)] := by kernel_rfl
  generalize (Tryd.prog.fieldsOf 55).toList = fs at hfs ⊢
  have hl : fs.length = 3 := by simpa using congrArg List.length hfs
  obtain ⟨a0, a1⟩ := Lc.has hr
  have hxa := ext16 r.cells [] [.bool r.dep, .bool r.home] (bts r.ad) 0 (by unfold Lc.cells; simp) rfl (by rw [bts_len, hr])
  revert hfs
  match fs, hl with
  | [f0, f1, f2], _ =>
    intro hfs
    simp only [List.map_cons, List.map_nil, List.cons.injEq, Prod.mk.injEq, bne_iff_ne, and_true] at hfs
    obtain ⟨⟨n0, t0, o0⟩, ⟨n1, t1, o1⟩, ⟨n2, t2, o2⟩⟩ := hfs
    rw [show 9999 = 9997 + 2 from rfl, eqf_addr 9997 w hr hr n0 t0 (by rw [o0]; exact hxa) (by rw [o0]; exact hxa), show 9997 + 2 = 9998 + 1 from rfl,
      eqf_bool 9998 w (a := r.dep) (b := r.dep) n1 t1 (by rw [o1, List.getElem?_toArray]; exact a0) (by rw [o1, List.getElem?_toArray]; exact a0),
      eqf_bool 9998 w (a := r.home) (b := r.home) n2 t2 (by rw [o2, List.getElem?_toArray]; exact a1) (by rw [o2, List.getElem?_toArray]; exact a1)]
    simp [Op.eqFields]
end Go.Proofs.YtnjcbkolniemnaaDoor
