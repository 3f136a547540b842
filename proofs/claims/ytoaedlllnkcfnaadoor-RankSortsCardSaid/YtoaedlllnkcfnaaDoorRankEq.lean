/-
  Records, and local addresses, held against one another. No condition but sixteen bytes.
-/
import Derived.Test.YtoaedlllnkcfnaaDoorRankFit
import Derived.Laws.StructEq
namespace Go.Proofs.YtoaedlllnkcfnaaDoor
open Go.RowKit

theorem eqf_int {f : Field} {fs : List Field} (d : Nat) (w : World) {xs ys : Array Value} {a b : Int} (hn : f.name ≠ "_") (ht : f.type = 3) (hx : xs[f.offset]? = some (.int .i64 a)) (hy : ys[f.offset]? = some (.int .i64 b)) :
    (Op.eqFields (d + 1) xs ys (f :: fs)).run Tryd.prog w = if (a == b) = true then (Op.eqFields (d + 1) xs ys fs).run Tryd.prog w else .ok false w := by
  have p1 : (part f.type xs f.offset).run Tryd.prog w = .ok (.int .i64 a) w := by rw [ht]; simp [part, isAgg, run_underlying Tryd.underlying3, hx]
  have p2 : (part f.type ys f.offset).run Tryd.prog w = .ok (.int .i64 b) w := by rw [ht]; simp [part, isAgg, run_underlying Tryd.underlying3, hy]
  have p3 : (Op.equalIn (d + 1) f.type (.int .i64 a) (.int .i64 b)).run Tryd.prog w = .ok (a == b) w := by rw [ht]; exact run_equalIn_int w d _ _ _ a b Tryd.underlying3
  simp only [Op.eqFields, if_pos hn, Sem.run_bind, p1, p2, p3, Result.andThen_ok]
  cases (a == b) <;> simp
theorem eqf_bool {f : Field} {fs : List Field} (d : Nat) (w : World) {xs ys : Array Value} {a b : Bool} (hn : f.name ≠ "_") (ht : f.type = 4) (hx : xs[f.offset]? = some (.bool a)) (hy : ys[f.offset]? = some (.bool b)) :
    (Op.eqFields (d + 1) xs ys (f :: fs)).run Tryd.prog w = if (a == b) = true then (Op.eqFields (d + 1) xs ys fs).run Tryd.prog w else .ok false w := by
  have p1 : (part f.type xs f.offset).run Tryd.prog w = .ok (.bool a) w := by rw [ht]; simp [part, isAgg, run_underlying Tryd.underlying4, hx]
  have p2 : (part f.type ys f.offset).run Tryd.prog w = .ok (.bool b) w := by rw [ht]; simp [part, isAgg, run_underlying Tryd.underlying4, hy]
  have p3 : (Op.equalIn (d + 1) f.type (.bool a) (.bool b)).run Tryd.prog w = .ok (a == b) w := by rw [ht]; exact run_equalIn_bool w d _ a b Tryd.underlying4
  simp only [Op.eqFields, if_pos hn, Sem.run_bind, p1, p2, p3, Result.andThen_ok]
  cases (a == b) <;> simp
theorem eqf_str {f : Field} {fs : List Field} (d : Nat) (w : World) {xs ys : Array Value} {a b : ByteArray} (hn : f.name ≠ "_") (ht : f.type = 9) (hx : xs[f.offset]? = some (.string a)) (hy : ys[f.offset]? = some (.string b)) :
    (Op.eqFields (d + 1) xs ys (f :: fs)).run Tryd.prog w = if (a.toList == b.toList) = true then (Op.eqFields (d + 1) xs ys fs).run Tryd.prog w else .ok false w := by
  have p1 : (part f.type xs f.offset).run Tryd.prog w = .ok (.string a) w := by rw [ht]; simp [part, isAgg, run_underlying Tryd.underlying9, hx]
  have p2 : (part f.type ys f.offset).run Tryd.prog w = .ok (.string b) w := by rw [ht]; simp [part, isAgg, run_underlying Tryd.underlying9, hy]
  have p3 : (Op.equalIn (d + 1) f.type (.string a) (.string b)).run Tryd.prog w = .ok (a.toList == b.toList) w := by rw [ht]; exact run_equalIn_string w d _ a b Tryd.underlying9
  simp only [Op.eqFields, if_pos hn, Sem.run_bind, p1, p2, p3, Result.andThen_ok]
  cases (a.toList == b.toList) <;> simp
theorem sizeOfAddr (w : World) : (sizeOf 27).run Tryd.prog w = .ok 16 w := by kernel_rfl
theorem eqf_addr {f : Field} {fs : List Field} (d : Nat) (w : World) {xs ys : Array Value} {a b : List UInt8} (ha : a.length = 16) (hb : b.length = 16) (hn : f.name ≠ "_") (ht : f.type = 27) (hx : xs.extract f.offset (f.offset + 16) = (bvs a).toArray) (hy : ys.extract f.offset (f.offset + 16) = (bvs b).toArray) :
    (Op.eqFields (d + 2) xs ys (f :: fs)).run Tryd.prog w = if (a == b) = true then (Op.eqFields (d + 2) xs ys fs).run Tryd.prog w else .ok false w := by
  have p1 : (part f.type xs f.offset).run Tryd.prog w = .ok (.agg (bvs a).toArray) w := by rw [ht]; simp only [part, isAgg, Sem.run_bind, run_underlying Tryd.underlying27, Result.andThen_ok, Sem.run_pure, if_true, sizeOfAddr, hx]
  have p2 : (part f.type ys f.offset).run Tryd.prog w = .ok (.agg (bvs b).toArray) w := by rw [ht]; simp only [part, isAgg, Sem.run_bind, run_underlying Tryd.underlying27, Result.andThen_ok, Sem.run_pure, if_true, sizeOfAddr, hy]
  have p3 : (Op.equalIn (d + 2) f.type (.agg (bvs a).toArray) (.agg (bvs b).toArray)).run Tryd.prog w = .ok (a == b) w := by rw [ht]; exact eq_addr d w ha hb
  simp only [Op.eqFields, if_pos hn, Sem.run_bind, p1, p2, p3, Result.andThen_ok]
  cases (a == b) <;> simp
def eqRB (a b : RV) : Bool := if (a.name.toList == b.name.toList) = true then (if (a.typ == b.typ) = true then (if (a.ttl == b.ttl) = true then (if (a.addr == b.addr) = true then (if (a.text.toList == b.text.toList) = true then (if (a.data.toList == b.data.toList) = true then true else false) else false) else false) else false) else false) else false
theorem ite_ok {b : Bool} {x : Bool} (w : World) {r : Result Bool} (h : r = .ok x w) : (if b = true then r else Result.ok false w) = .ok (if b = true then x else false) w := by
  cases b
  · rfl
  · simpa using h
theorem ext16 (l p s : List Value) (x : List Value) (o : Nat) (hl : l = p ++ x ++ s) (hp : p.length = o) (hx : x.length = 16) : l.toArray.extract o (o + 16) = x.toArray := by
  subst hl
  rw [List.extract_toArray]
  simp only [List.extract_eq_take_drop, List.append_assoc]
  rw [← hp, List.drop_left, show p.length + 16 - p.length = x.length by omega, List.take_left]
theorem eq_rec (w : World) (r q : RV) (hr : r.addr.length = 16) (hq : q.addr.length = 16) : (Op.equalIn 10000 29 (.agg r.cells.toArray) (.agg q.cells.toArray)).run Tryd.prog w = .ok (eqRB r q) w := by
  have hf : Tryd.prog.underlying 29 = some (.struct (Tryd.prog.fieldsOf 29)) := by kernel_rfl
  rw [show 10000 = 9999 + 1 from rfl, run_equalIn_agg w 9999 29 _ _ hf (by kernel_rfl)]
  have hfs : (Tryd.prog.fieldsOf 29).toList.map (fun f => (f.name != "_", f.type, f.offset)) = [(true, 9, 0), (true, 3, 1), (true, 3, 2), (true, 27, 3), (true, 9, 19), (true, 9, 20)] := by kernel_rfl
  generalize (Tryd.prog.fieldsOf 29).toList = fs at hfs ⊢
  have hl : fs.length = 6 := by simpa using congrArg List.length hfs
  obtain ⟨_, a0, a1, a2, a3, a4⟩ := RV.has hr
  obtain ⟨_, b0, b1, b2, b3, b4⟩ := RV.has hq
  have hxa := ext16 r.cells [.string r.name, .int .i64 r.typ, .int .i64 r.ttl] [.string r.text, .string r.data] (bvs r.addr) 3 (by unfold RV.cells; simp) rfl (by rw [bvs_length, hr])
  have hxb := ext16 q.cells [.string q.name, .int .i64 q.typ, .int .i64 q.ttl] [.string q.text, .string q.data] (bvs q.addr) 3 (by unfold RV.cells; simp) rfl (by rw [bvs_length, hq])
  revert hfs
  match fs, hl with
  | [f0, f1, f2, f3, f4, f5], _ =>
    intro hfs
    simp only [List.map_cons, List.map_nil, List.cons.injEq, Prod.mk.injEq, bne_iff_ne, and_true] at hfs
    obtain ⟨⟨n0, t0, o0⟩, ⟨n1, t1, o1⟩, ⟨n2, t2, o2⟩, ⟨n3, t3, o3⟩, ⟨n4, t4, o4⟩, ⟨n5, t5, o5⟩⟩ := hfs
    rw [show 9999 = 9998 + 1 from rfl, eqf_str 9998 w (a := r.name) (b := q.name) n0 t0 (by rw [o0, List.getElem?_toArray]; exact a0) (by rw [o0, List.getElem?_toArray]; exact b0),
      eqf_int 9998 w (a := r.typ) (b := q.typ) n1 t1 (by rw [o1, List.getElem?_toArray]; exact a1) (by rw [o1, List.getElem?_toArray]; exact b1),
      eqf_int 9998 w (a := r.ttl) (b := q.ttl) n2 t2 (by rw [o2, List.getElem?_toArray]; exact a2) (by rw [o2, List.getElem?_toArray]; exact b2),
      show 9998 + 1 = 9997 + 2 from rfl, eqf_addr 9997 w hr hq n3 t3 (by rw [o3]; exact hxa) (by rw [o3]; exact hxb), show 9997 + 2 = 9998 + 1 from rfl,
      eqf_str 9998 w (a := r.text) (b := q.text) n4 t4 (by rw [o4, List.getElem?_toArray]; exact a3) (by rw [o4, List.getElem?_toArray]; exact b3),
      eqf_str 9998 w (a := r.data) (b := q.data) n5 t5 (by rw [o5, List.getElem?_toArray]; exact a4) (by rw [o5, List.getElem?_toArray]; exact b4)]
    unfold eqRB
    exact ite_ok w (ite_ok w (ite_ok w (ite_ok w (ite_ok w (ite_ok w (by simp only [Op.eqFields, Sem.run_pure]))))))
def eqLB (a b : LV) : Bool := if (a.addr == b.addr) = true then (if (a.dep == b.dep) = true then (if (a.home == b.home) = true then true else false) else false) else false
theorem eq_loc (w : World) (r q : LV) (hr : r.addr.length = 16) (hq : q.addr.length = 16) : (Op.equalIn 10000 42 (.agg r.cells.toArray) (.agg q.cells.toArray)).run Tryd.prog w = .ok (eqLB r q) w := by
  have hf : Tryd.prog.underlying 42 = some (.struct (Tryd.prog.fieldsOf 42)) := by kernel_rfl
  rw [show 10000 = 9999 + 1 from rfl, run_equalIn_agg w 9999 42 _ _ hf (by kernel_rfl)]
  have hfs : (Tryd.prog.fieldsOf 42).toList.map (fun f => (f.name != "_", f.type, f.offset)) = [(true, 27, 0), (true, 4, 16), (true, 4, 17)] := by kernel_rfl
  generalize (Tryd.prog.fieldsOf 42).toList = fs at hfs ⊢
  have hl : fs.length = 3 := by simpa using congrArg List.length hfs
  obtain ⟨_, a0, a1⟩ := LV.has hr
  obtain ⟨_, b0, b1⟩ := LV.has hq
  have hxa := ext16 r.cells [] [.bool r.dep, .bool r.home] (bvs r.addr) 0 (by unfold LV.cells; simp) rfl (by rw [bvs_length, hr])
  have hxb := ext16 q.cells [] [.bool q.dep, .bool q.home] (bvs q.addr) 0 (by unfold LV.cells; simp) rfl (by rw [bvs_length, hq])
  revert hfs
  match fs, hl with
  | [f0, f1, f2], _ =>
    intro hfs
    simp only [List.map_cons, List.map_nil, List.cons.injEq, Prod.mk.injEq, bne_iff_ne, and_true] at hfs
    obtain ⟨⟨n0, t0, o0⟩, ⟨n1, t1, o1⟩, ⟨n2, t2, o2⟩⟩ := hfs
    rw [show 9999 = 9997 + 2 from rfl, eqf_addr 9997 w hr hq n0 t0 (by rw [o0]; exact hxa) (by rw [o0]; exact hxb), show 9997 + 2 = 9998 + 1 from rfl,
      eqf_bool 9998 w (a := r.dep) (b := q.dep) n1 t1 (by rw [o1, List.getElem?_toArray]; exact a0) (by rw [o1, List.getElem?_toArray]; exact b0),
      eqf_bool 9998 w (a := r.home) (b := q.home) n2 t2 (by rw [o2, List.getElem?_toArray]; exact a1) (by rw [o2, List.getElem?_toArray]; exact b1)]
    unfold eqLB
    exact ite_ok w (ite_ok w (ite_ok w (by simp only [Op.eqFields, Sem.run_pure])))
theorem eqGuardRec : Tryd.prog.eqGuardType Tryd.prog.depth 29 = false := by kernel_rfl
theorem eqGuardLoc : Tryd.prog.eqGuardType Tryd.prog.depth 42 = false := by kernel_rfl
end Go.Proofs.YtoaedlllnkcfnaaDoor
