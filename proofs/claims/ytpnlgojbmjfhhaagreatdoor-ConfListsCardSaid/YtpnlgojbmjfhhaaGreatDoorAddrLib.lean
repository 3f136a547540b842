/-
  What package addr's calls want of the world: the library's variables hold what their initialisers lay; rows of the call's own that are written cell by cell. Conditions: each states its own.
-/
import Derived.Test.YtpnlgojbmjfhhaaGreatDoorAddrBase
import Derived.Test.YtpnlgojbmjfhhaaGreatDoorAddrMath
import Derived.Lib.SmallJoins
import Derived.Lib.ItoaNum
import Derived.Lib.ItoaMem
import Derived.Laws.MakeOwn
import Derived.Laws.OwnMore
import Derived.Deep.WholeRow
namespace Go.Proofs.YtpnlgojbmjfhhaaGreatDoor
open Go.RowKit

theorem cell_lt {w : World} {a : Addr} {v : Value} (h : w.cell? a = some v) : a.block < w.heap.size := by
  rcases Nat.lt_or_ge a.block w.heap.size with h' | h'
  · exact h'
  · unfold World.cell? at h
    rw [Array.getElem?_eq_none h'] at h
    simp at h
/-- the variables that the library's functions read -/
structure AEnv (w : World) : Prop where
  env : Env w
  tab : Lib.TabIs Tryz.prog w "internal/strconv.uint64pow10" .u64 Lib.pow10Tab
  bru : w.cell? ⟨4, 15, none⟩ = some (.int .u8 4)
  syn : ∃ t p, w.cell? ⟨7, 0, none⟩ = some (.iface t p)
  rng : ∃ t p, w.cell? ⟨8, 0, none⟩ = some (.iface t p)
theorem AEnv.below {w w' : World} (h : AEnv w) (hb : Below w.heap.size w w') : AEnv w' :=
  ⟨h.env.below hb, Joins.tab_stays (g := 2) (by kernel_rfl) h.tab hb (Nat.le_refl _), (hb.cell (cell_lt h.bru)).trans h.bru,
    h.syn.imp fun _ ⟨p, hp⟩ => ⟨p, (hb.cell (cell_lt hp)).trans hp⟩, h.rng.imp fun _ ⟨p, hp⟩ => ⟨p, (hb.cell (cell_lt hp)).trans hp⟩⟩

/-- block g, new since w, whose first n cells are f's, and may be written -/
structure Blk (w wr : World) (g n : Nat) (f : Nat → Value) : Prop where
  below : Below w.heap.size w wr
  base : w.heap.size ≤ g
  lt : g < wr.heap.size
  cells : ∀ j, j < n → wr.cell? ⟨g, j, none⟩ = some (f j)
  free : ∀ j, j < n → wr.frozen? ⟨g, j, none⟩ = false
theorem Blk.new {w wr : World} (hb : Below w.heap.size w wr) {n : Nat} {f : Nat → Value} {z : Array Value} {t : TypeId} (hz : ∀ j, j < n → z[j]? = some (f j)) : Blk w (wr.alloc (.cells z t)) wr.heap.size n f :=
  ⟨hb.alloc hb.size _, hb.size, by rw [World.size_alloc]; omega, fun j hj => by
    have := World.cell?_alloc_mark wr z t (0, 0) j
    exact this.trans (hz j hj), fun j hj => by
    show (wr.alloc _).frozen? _ = _
    rw [World.frozen?_alloc_mark]; simp⟩
theorem Blk.step {w wr w2 : World} {g n : Nat} {f : Nat → Value} (h : Blk w wr g n f) (hb : Below wr.heap.size wr w2) : Blk w w2 g n f :=
  ⟨h.below.trans (hb.mono h.below.size), h.base, Nat.lt_of_lt_of_le h.lt hb.size, fun j hj => (hb.cell (p := ⟨g, j, none⟩) h.lt).trans (h.cells j hj), fun j hj => (hb.frozen (p := ⟨g, j, none⟩) h.lt).trans (h.free j hj)⟩
theorem Blk.set {w wr : World} {g n : Nat} {f : Nat → Value} (h : Blk w wr g n f) (k : Nat) (hk : k < n) (v : Value) : Blk w (wr.setCell ⟨g, k, none⟩ v) g n (fun j => if j = k then v else f j) :=
  ⟨h.below.setCell h.base _, h.base, by rw [World.size_setCell]; exact h.lt, fun j hj => by
    by_cases e : j = k
    · subst e; rw [World.cell?_setCell_same (h := h.cells j hj), if_pos rfl]
    · rw [World.cell?_setCell_other (h := by intro e'; injection e' with _ e' _; omega), h.cells j hj, if_neg e], fun j hj => by rw [World.frozen?_setCell]; exact h.free j hj⟩
theorem Blk.congr {w wr : World} {g n : Nat} {f f' : Nat → Value} (h : Blk w wr g n f) (he : ∀ j, j < n → f j = f' j) : Blk w wr g n f' :=
  ⟨h.below, h.base, h.lt, fun j hj => (h.cells j hj).trans (by rw [he j hj]), h.free⟩
theorem Blk.drew {w wr : World} {g n : Nat} {f : Nat → Value} (h : Blk w wr g n f) : Blk w wr.drew g n f :=
  ⟨h.below.drew, h.base, h.lt, h.cells, h.free⟩
theorem madeAt (v : Value) (n j : Nat) (h : j < n) : (madeCells #[v] n)[j]? = some v := by
  rw [← Array.getElem?_toList, toList_madeCells_one, List.getElem?_replicate, if_pos h]
/-- 'make([]T, n)' of plain cells -/
theorem mk_str (n : Nat) (hn : n ≤ 1099511627776) (W : World) : (Instr.makeSlice 24 (.int .i64 (n : Int)) (.int .i64 (n : Int))).run Tryz.prog W = .ok (.slice (some ⟨W.heap.size, 0, none⟩) n n) (W.alloc (.cells (madeCells #[.string ⟨#[]⟩] n) 9)) := by
  obtain ⟨i0, hi, hz0, hz1, hz2⟩ := info_parts (show (Tryz.prog.info? 9).map (fun i => (i.zero, i.size, i.bytes)) = some (some (.string ⟨#[]⟩), 1, 16) by kernel_rfl)
  have h := run_make (P := Tryz.prog) W 24 9 i0 (.string ⟨#[]⟩) Tryz.underlying24 hi hz0 .i64 .i64 (n : Int) (n : Int) (by omega) (by omega) (by rw [hz2]; omega) (by omega)
  rw [hz1] at h
  simpa [Value.cells] using h
theorem mk_u64 (n : Nat) (hn : n ≤ 1099511627776) (W : World) : (Instr.makeSlice 94 (.int .i64 (n : Int)) (.int .i64 (n : Int))).run Tryz.prog W = .ok (.slice (some ⟨W.heap.size, 0, none⟩) n n) (W.alloc (.cells (madeCells #[.int .u64 0] n) 125)) := by
  obtain ⟨i0, hi, hz0, hz1, hz2⟩ := info_parts (show (Tryz.prog.info? 125).map (fun i => (i.zero, i.size, i.bytes)) = some (some (.int .u64 0), 1, 8) by kernel_rfl)
  have h := run_make (P := Tryz.prog) W 94 125 i0 (.int .u64 0) Tryz.underlying94 hi hz0 .i64 .i64 (n : Int) (n : Int) (by omega) (by omega) (by rw [hz2]; omega) (by omega)
  rw [hz1] at h
  simpa [Value.cells] using h
end Go.Proofs.YtpnlgojbmjfhhaaGreatDoor
