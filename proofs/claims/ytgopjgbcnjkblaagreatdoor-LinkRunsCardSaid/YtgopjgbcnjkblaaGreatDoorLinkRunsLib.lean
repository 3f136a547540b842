/-
  Facts for the walk of LinkRuns: a cache of a link that is not there; what the model and the table have in common, and that names are routed alike. Conditions: each states its own.
-/
import Derived.Test.YtgopjgbcnjkblaaGreatDoorLinkLroute
import Derived.Test.YtgopjgbcnjkblaaGreatDoorLinkCalls
namespace Go.Proofs.YtgopjgbcnjkblaaGreatDoor
open Go.RowKit

theorem cache_no (T : Nat) (i : Int) (w : World) (h : Calls Tryz.prog 28 #[.pointer (some ⟨T, 0, none⟩), .int .i64 i] w fun e w' => e = .returned (.bool false) ∧ w = w') :
    Calls Tryz.prog 13 #[.pointer (some ⟨T, 0, none⟩), .int .i64 i] w fun e w' => e = .returned (.pointer none) ∧ w = w' := by
  go_enter Tryz.func13, Tryz.ntmps13
  go_wp2_with fail
  refine h.mono ?_; rintro e w1 ⟨rfl, rfl⟩
  go_wp2
  go_ret
  exact ⟨rfl, rfl⟩
theorem cache_out (T : Nat) (i : Int) (w : World) (h : ¬ (0 ≤ i ∧ i < 4)) : Calls Tryz.prog 13 #[.pointer (some ⟨T, 0, none⟩), .int .i64 i] w fun e w' => e = .returned (.pointer none) ∧ w = w' := cache_no T i w (lives_out T i w h)
theorem cache_dead {base T last k : Nat} {w : World} {ss : List Sl} {s : Sl} (h : TAt base w T ss last) (hk : ss[k]? = some s) (hl : s.live = false) : Calls Tryz.prog 13 #[.pointer (some ⟨T, 0, none⟩), .int .i64 k] w fun e w' => e = .returned (.pointer none) ∧ w = w' := by
  have hk4 : k < 4 := by have := (List.getElem?_eq_some_iff.1 hk).1; rw [h.four] at this; exact this
  exact cache_no T k w (lives_in T k false w hk4 (by have := h.slot hk (j := 0) (v := .bool s.live) rfl; rw [hl] at this; exact this))
theorem lenN_e (w : World) : Calls Tryz.prog 14 #[.pointer none] w fun e w' => e = .returned (.int .i64 0) ∧ w = w' := by
  go_enter Tryz.func14, Tryz.ntmps14
  go_wp2
  go_ret
  exact ⟨rfl, rfl⟩
/-- what a model's link and the table's have in common -/
structure Like (m s : Sl) : Prop where
  live : m.live = s.live
  gen : m.gen = s.gen
  ds : m.ds = s.ds
  df : m.df = s.df
  ns : m.ns = s.ns
  nl : m.nl = s.nl
theorem Like.zero : Like zSl zSl := ⟨rfl, rfl, rfl, rfl, rfl, rfl⟩
theorem Like.mx {m s : Sl} (h : Like m s) (n : ByteArray) (x : Int) : Go.Proofs.YtgopjgbcnjkblaaGreatDoor.mx n x m = Go.Proofs.YtgopjgbcnjkblaaGreatDoor.mx n x s := by
  unfold Go.Proofs.YtgopjgbcnjkblaaGreatDoor.mx; rw [h.live, h.ds]
theorem Like.sel {m s : Sl} (h : Like m s) (n : ByteArray) (x : Int) (k : Int) : selL (asked x n) k m = selL (asked x n) k s := by
  unfold selL asked; rw [h.live, h.ds, h.df, h.ns]
theorem route_like {ma mb mc md a b c d : Sl} (n : ByteArray) (ha : Like ma a) (hb : Like mb b) (hc : Like mc c) (hd : Like md d) : routeL [ma, mb, mc, md] n = routeL [a, b, c, d] n := by
  rw [route4, route4, ha.mx, hb.mx, hc.mx, hd.mx, ha.sel, hb.sel, hc.sel, hd.sel]
/-- the locals' number, link by link -/
def nlL (s : Sl) : Nat := if s.live = true then s.nl else 0
/-- the state between two calls: the table, the model in its block, the caches -/
structure RunAt (base : Nat) (W w : World) (T M last : Nat) (ms ss : List Sl) : Prop where
  tab : TAt base w T ss last
  mod : w.heap[M]? = some (.cells (ms.map Sl.lk).flatten.toArray 32 (0, 0))
  four : ms.length = 4
  like : ∀ (k : Nat) (m s : Sl), ms[k]? = some m → ss[k]? = some s → Like m s
  rows : ∀ m ∈ ms, InL W m
  right : ∀ m ∈ ms, m.live = true → rightL m = true
  dead : ∀ m ∈ ms, m.live = false → m = zSl
  caches : ∀ s ∈ ss, s.live = true → ∃ C, s.ca = some ⟨C, 0, none⟩ ∧ base ≤ C ∧ C16 w C
theorem RunAt.abcd {base T M last : Nat} {W w : World} {ms ss : List Sl} (h : RunAt base W w T M last ms ss) : ∃ ma mb mc md a b c d, ms = [ma, mb, mc, md] ∧ ss = [a, b, c, d] ∧ Like ma a ∧ Like mb b ∧ Like mc c ∧ Like md d := by
  obtain ⟨a, b, c, d, rfl⟩ := h.tab.abcd
  have h4 := h.four
  match ms, h4 with
  | [ma, mb, mc, md], _ => exact ⟨ma, mb, mc, md, a, b, c, d, rfl, rfl, h.like 0 _ _ rfl rfl, h.like 1 _ _ rfl rfl, h.like 2 _ _ rfl rfl, h.like 3 _ _ rfl rfl⟩
theorem RunAt.below {base T M last : Nat} {W w w' : World} {ms ss : List Sl} (h : RunAt base W w T M last ms ss) (hb : Below w.heap.size w w') : RunAt base W w' T M last ms ss :=
  ⟨h.tab.below hb, (hb.block M (heap_ltk h.mod)).trans h.mod, h.four, h.like, h.rows, h.right, h.dead, fun s hs hl => by
    obtain ⟨C, h1, h2, h3⟩ := h.caches s hs hl
    exact ⟨C, h1, h2, (hb.block C (heap_ltk h3)).trans h3⟩⟩
theorem InL.zero (W : World) : InL W zSl := ⟨RowIn.nil _ _, RowIn.nil _ _, RowIn.nil _ _, (fun d hd => by cases hd), Nat.zero_le _, Nat.zero_le _, Nat.zero_le _⟩
theorem RunAt.start {base T M : Nat} {W w : World} (hT : TAt base w T [zSl, zSl, zSl, zSl] 0) (hM : w.heap[M]? = some (.cells ([zSl, zSl, zSl, zSl].map Sl.lk).flatten.toArray 32 (0, 0))) : RunAt base W w T M 0 [zSl, zSl, zSl, zSl] [zSl, zSl, zSl, zSl] := by
  have hz : ∀ s ∈ [zSl, zSl, zSl, zSl], s = zSl := fun s hs => by simpa using hs
  refine ⟨hT, hM, rfl, fun k m s h1 h2 => ?_, fun m hm => ?_, fun m hm hl => ?_, fun m hm _ => hz m hm, fun s hs hl => ?_⟩
  · rw [hz m (List.mem_of_getElem? h1), hz s (List.mem_of_getElem? h2)]; exact Like.zero
  · rw [hz m hm]; exact InL.zero W
  · rw [hz m hm] at hl; cases hl
  · rw [hz s hs] at hl; cases hl
theorem flat_set {a b c d s : Sl} {k : Nat} (hk : k < 4) : ((([a, b, c, d].map Sl.lk).flatten.toArray.toList.take (k * 7)) ++ s.lk.toArray.toList ++ (([a, b, c, d].map Sl.lk).flatten.toArray.toList.drop (k * 7 + s.lk.toArray.size))).toArray = (((([a, b, c, d] : List Sl).set k s).map Sl.lk).flatten).toArray := by
  match k, hk with
  | 0, _ => rfl
  | 1, _ => rfl
  | 2, _ => rfl
  | 3, _ => rfl
theorem block_ne {w : World} {g g' : Nat} {U V : TypeId} {cs ds : Array Value} (h : w.heap[g]? = some (.cells cs U (0, 0))) (h' : w.heap[g']? = some (.cells ds V (0, 0))) (hne : U ≠ V) : some g ≠ some g' := fun e => by
  injection e with e
  subst e
  have := h.symm.trans h'
  injection this with this
  injection this with _ this
  exact hne this
/-- a block of another type is written: the table is as it was -/
theorem TAt.otherU {base T last g : Nat} {U : TypeId} {w w' : World} {ss : List Sl} {cs : Array Value} (h : TAt base w T ss last) (hg : w.heap[g]? = some (.cells cs U (0, 0))) (h0 : 59 ≠ U) (h1 : 9 ≠ U) (h2 : 83 ≠ U) (h3 : 94 ≠ U) (hw : w.grownBy w' (some g)) : TAt base w' T ss last :=
  ⟨h.ge, Nat.le_trans h.hb hw.size, (hw.block T h.lt (h.ne hg h0)).trans h.obj, h.four, fun s hs => (h.oks s hs).otherT hg h1 h2 h3 hw, h.few⟩
/-- the model's block is written: the table and the caches are as they were -/
theorem RunAt.model {base T M last : Nat} {W w w1 : World} {ms ss : List Sl} (h : RunAt base W w T M last ms ss) (hw : w.grownBy w1 (some M)) : TAt base w1 T ss last ∧ ∀ s ∈ ss, s.live = true → ∃ C, s.ca = some ⟨C, 0, none⟩ ∧ base ≤ C ∧ C16 w1 C :=
  ⟨h.tab.otherU h.mod (by decide) (by decide) (by decide) (by decide) hw, fun s hs hl => by
    obtain ⟨C, h1, h2, h3⟩ := h.caches s hs hl
    exact ⟨C, h1, h2, (hw.block C (heap_ltk h3) (block_ne h3 h.mod (by decide))).trans h3⟩⟩
/-- a link is set in the model, and then in the table -/
theorem RunAt.put {base T M last last' k : Nat} {W w w1 w2 : World} {ms ss : List Sl} {m' s' : Sl} (h : RunAt base W w T M last ms ss) (hw : w.grownBy w1 (some M))
    (hM : w1.heap[M]? = some (.cells ((ms.set k m').map Sl.lk).flatten.toArray 32 (0, 0))) (hT2 : TAt base w2 T (ss.set k s') last') (hg2 : w1.grownBy w2 (some T))
    (hl : Like m' s') (hi : InL W m') (hr : m'.live = true → rightL m' = true) (hd : m'.live = false → m' = zSl) (hc : s'.live = true → ∃ C, s'.ca = some ⟨C, 0, none⟩ ∧ base ≤ C ∧ C16 w2 C) : RunAt base W w2 T M last' (ms.set k m') (ss.set k s') := by
  obtain ⟨hT1, hC1⟩ := h.model hw
  refine ⟨hT2, (hg2.block M (heap_ltk hM) (fun e => hT1.ne hM (by decide) e.symm)).trans hM, by rw [List.length_set]; exact h.four, fun j m s h1 h2 => ?_, fun m hm => ?_, fun m hm hlv => ?_, fun m hm hlv => ?_, fun s hs hlv => ?_⟩
  · by_cases e : k = j
    · subst e
      have l1 : k < ms.length := by have := (List.getElem?_eq_some_iff.1 h1).1; rwa [List.length_set] at this
      have l2 : k < ss.length := by have := (List.getElem?_eq_some_iff.1 h2).1; rwa [List.length_set] at this
      rw [List.getElem?_set_self l1] at h1
      rw [List.getElem?_set_self l2] at h2
      rw [← Option.some.inj h1, ← Option.some.inj h2]
      exact hl
    · rw [List.getElem?_set_ne e] at h1 h2
      exact h.like j m s h1 h2
  · rcases List.mem_or_eq_of_mem_set hm with h1 | h1
    · exact h.rows m h1
    · rw [h1]; exact hi
  · rcases List.mem_or_eq_of_mem_set hm with h1 | h1
    · exact h.right m h1 hlv
    · rw [h1] at hlv ⊢; exact hr hlv
  · rcases List.mem_or_eq_of_mem_set hm with h1 | h1
    · exact h.dead m h1 hlv
    · rw [h1] at hlv ⊢; exact hd hlv
  · rcases List.mem_or_eq_of_mem_set hs with h1 | h1
    · obtain ⟨C, e1, e2, e3⟩ := hC1 s h1 hlv
      exact ⟨C, e1, e2, (hg2.block C (heap_ltk e3) (fun e => hT1.ne e3 (by decide) e.symm)).trans e3⟩
    · rw [h1] at hlv ⊢; exact hc hlv
/-- the locals' sum so far -/
theorem nl_next {ms : List Sl} {k : Nat} {s : Sl} (h : ms[k]? = some s) : ((ms.take (k + 1)).map Sl.nl).sum = ((ms.take k).map Sl.nl).sum + s.nl := by
  obtain ⟨hk, rfl⟩ := List.getElem?_eq_some_iff.1 h
  rw [List.take_succ_eq_append_getElem hk, List.map_append, List.sum_append]
  simp
end Go.Proofs.YtgopjgbcnjkblaaGreatDoor
