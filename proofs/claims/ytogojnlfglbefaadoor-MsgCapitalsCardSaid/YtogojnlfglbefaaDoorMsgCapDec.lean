/-
  What Decode answers at a question's bytes with capitals. Condition: the library's variable MaxLen holds some number; the bytes lie in memory.
-/
import Derived.Test.YtogojnlfglbefaaDoorMsgSame0
import Derived.Test.YtogojnlfglbefaaDoorMsgAny
namespace Go.Proofs.YtogojnlfglbefaaDoor
open Go.RowKit

theorem num_be2 {n : Nat} (h : n ≤ 65535) : num (be2 n) = n := by
  unfold num be2
  simp only [List.foldl_cons, List.foldl_nil, UInt8.toNat_ofNat']
  omega
theorem hd_head {b b' : List UInt8} (h : b'.take 12 = b.take 12) {k : Nat} (hk : k < 6) : hd b' k = hd b k := by
  unfold hd cutB
  have e : ∀ l : List UInt8, (l.drop (2 * k)).take 2 = ((l.take 12).drop (2 * k)).take 2 := fun l => by
    rw [List.drop_take, List.take_take, Nat.min_eq_left (by omega)]
  rw [e b', e b, h]
theorem cp_hd (D : Nat) (hD : D ≤ 65535) (nm : List UInt8) (t : Nat) : hd (cpB D nm t) 0 = D ∧ hd (cpB D nm t) 1 = 32768 ∧ hd (cpB D nm t) 2 = 1 ∧ hd (cpB D nm t) 3 = 0 ∧ hd (cpB D nm t) 4 = 0 :=
  ⟨num_be2 hD, rfl, rfl, rfl, rfl⟩
theorem cp_gos : ∀ i : Fin 8, gosB (bs (plN i.val)) = true := by decide +kernel
theorem decode_cap (D i t gb cap L : Nat) (b' : List UInt8) (hD : D ≤ 65535) (hi : i ≤ 7) (ht : t = 1 ∨ t = 28 ∨ t = 5 ∨ t = 12 ∨ t = 6 ∨ t = 16) (hc : CapEq (cpB D (plN i) t) b' (12 + (plN i).length + 1)) (hh : b'.take 12 = (cpB D (plN i) t).take 12)
    (hL : L = b'.length) (W : World) (hW : Env W) (hcap : L ≤ cap) (hin : InB W W.heap.size (some ⟨gb, 0, none⟩) b') :
    Calls Tryd.prog 14 #[.slice (some ⟨gb, 0, none⟩) L cap] W fun e w' => Below W.heap.size W w' ∧ ∃ (A1 A2 : Option Addr) (c1 c2 : Nat), e = .returned (.tuple #[.agg #[.int .i64 (D : Nat), .bool true, .bool false, .bool false, .int .i64 0, .string (bs (plN i)), .int .i64 (t : Nat), .slice A1 0 c1, .slice A2 0 c2], .int .i64 0]) := by
  subst hL
  obtain ⟨r1, r2, r3, r4⟩ := cp_read D i t hi ht
  obtain ⟨g0, g1, g2, g3, g4⟩ := cp_hd D hD (plN i) t
  have h16 := (pl_ok ⟨i, by omega⟩).2.2.2.2.2
  simp only at h16
  have hq := hc.q r1 (by omega) r2 r3
  have k0 := (hd_head hh (k := 0) (by omega)).trans g0
  have k1 := (hd_head hh (k := 1) (by omega)).trans g1
  have k2 := (hd_head hh (k := 2) (by omega)).trans g2
  have k3 := (hd_head hh (k := 3) (by omega)).trans g3
  have k4 := (hd_head hh (k := 4) (by omega)).trans g4
  have hlen := hc.len
  have HR := fun (W : World) (base g' : Nat) (o' : Option Nat) (hE : Env W) (hB : 0 < base) (h : RSt base W g' (some ⟨gb, 0, none⟩) cap b' o') => recordP base g' cap (some ⟨gb, 0, none⟩) b' o' W hE hB h
  refine (decode_good (some ⟨gb, 0, none⟩) cap b' W hW hin hcap (by omega) (fun h => by cases h) (by omega) (by rw [k1]; decide +kernel) k2 (by rw [k3, k4]; decide) HR hq (l0 := ([], 12 + (plN i).length + 2 + 4)) (by rw [k3, k4]; rfl)).mono ?_
  rintro e w' ⟨hb, v, e1, e2, e3, e4, e5, _, e7, e8, e9, e6, hk⟩
  have f4 : v.an = [] := by rw [e4]; simp
  have f5 : v.au = [] := by rw [e5]; simp
  have x7 : v.rp = true := by rw [e7, k1]; decide +kernel
  have x8 : v.tr = false := by rw [e8, k1]; decide +kernel
  have x9 : v.rc = false := by rw [e9, k1]; decide +kernel
  have x6 : v.code = 0 := by rw [e6, k1]; decide +kernel
  rw [k0] at e1
  have ht2 : btw 1 (t : Int) 65535 = true := by rcases ht with rfl | rfl | rfl | rfl | rfl | rfl <;> decide
  have hd2 : btw 0 (D : Int) 65535 = true := by unfold btw; simp; omega
  have hok : mvOk v = true := by
    unfold mvOk
    rw [e1, x6, e2, e3, f4, f5]
    have g := cp_gos ⟨i, by omega⟩
    simp only at g
    simp only
    rw [g, ht2, hd2]
    decide +kernel
  refine ⟨hb, v.A, v.U, v.ca, v.cu, ?_⟩
  rcases hk with ⟨_, h, _⟩ | ⟨h, _⟩
  · rw [h]
    unfold MV.cells
    rw [e1, x6, e2, e3, f4, f5, x7, x8, x9]
    rfl
  · rw [hok] at h; cases h
end Go.Proofs.YtogojnlfglbefaaDoor
