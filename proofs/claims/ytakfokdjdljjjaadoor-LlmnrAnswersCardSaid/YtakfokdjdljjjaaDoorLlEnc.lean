/-
  What Encode and Decode answer for a message that comes back from its bytes. Conditions: the library's variable MaxLen holds some number; the message's lists lie in memory.
-/
import Derived.Test.YtakfokdjdljjjaaDoorMsgAgain
import Derived.Test.YtakfokdjdljjjaaDoorMsgPlLib
namespace Go.Proofs.YtakfokdjdljjjaaDoor
open Go.RowKit

theorem encRs_len : ∀ (l : List RV) (pos : Nat) (st : St), (∀ r ∈ l, ROk r) → (encRs pos st (l.map RV.rec_)).1.length ≤ 600 * l.length
  | [], _, _, _ => by simp [encRs]
  | r :: l, pos, st, h => by
    have hr := h r (by simp)
    have h1 := recR_len hr pos st
    rw [recR_enc hr.d.ty] at h1
    rw [List.map_cons]
    unfold encRs
    have h2 := encRs_len l (pos + (encR pos st r.rec_).1.length) (encR pos st r.rec_).2 (fun x hx => h x (List.mem_cons_of_mem _ hx))
    rw [List.length_append, List.length_cons]
    omega
theorem enc_len {m : MV} (h : mvOk m = true) (hf : m.Fits) : (enc m.msg).length ≤ 40000 ∧ 12 ≤ (enc m.msg).length := by
  have p := mv_parts h
  have h1 := encRs_len m.an (12 + (encA m.msg).1.length) (encA m.msg).2 (fun r hr => rOk_of (hf.an r hr).ad (p.an r hr))
  have h2 := encRs_len m.au (12 + (encA m.msg).1.length + (encB m.msg).1.length) (encB m.msg).2 (fun r hr => rOk_of (hf.au r hr).ad (p.au r hr))
  have h3 : (encA m.msg).1.length ≤ 260 := encQ_len (s := m.qn) p.qn 12 _ _
  have e1 : (encB m.msg).1.length ≤ 600 * m.an.length := h1
  have e2 : (encC m.msg).1.length ≤ 600 * m.au.length := h2
  have la := p.la
  have lu := p.lu
  unfold enc
  rw [List.length_append, List.length_append, List.length_append, head_len]
  omega
/-- what Encode answers: bytes of its own -/
structure EncIs (W w' : World) (m : MV) (gb cap : Nat) : Prop where
  le : (enc m.msg).length ≤ cap
  hb : W.heap.size ≤ gb
  lt : gb < w'.heap.size
  inB : InB w' w'.heap.size (some ⟨gb, 0, none⟩) (enc m.msg)
  own : w'.ownsRow W.heap.size 5 1 (.slice (some ⟨gb, 0, none⟩) (enc m.msg).length cap) (enc m.msg).length (bvs (enc m.msg))
  below : Below W.heap.size W w'
theorem encode_again (m : MV) (h : m.Again) (W : World) (hW : Env W) (hl : m.Lies W) : Calls Tryd.prog 9 #[.agg m.cells] W fun e w' => ∃ gb cap, e = .returned (.slice (some ⟨gb, 0, none⟩) (enc m.msg).length cap) ∧ EncIs W w' m gb cap := by
  refine (encode_any m h.fits W hW hl h.ok).mono ?_
  rintro e w' ⟨gb, cap, rfl, h2, h3⟩
  obtain ⟨_, h12⟩ := enc_len h.ok h.fits
  obtain ⟨hl, hcap, hin, _⟩ := enc_inB h2 (by omega)
  exact ⟨gb, cap, rfl, hcap, (h2.lt gb rfl).1, hl, hin, h2, h3⟩
theorem InB.to {w w1 : World} {A : Option Addr} {b : List UInt8} (h : InB w w.heap.size A b) (hb : Below w.heap.size w w1) : InB w1 w1.heap.size A b := fun h0 => by
  obtain ⟨bb, o, e, hlt, hc⟩ := h.below hb h0
  exact ⟨bb, o, e, Nat.lt_of_lt_of_le hlt hb.size, hc⟩
theorem decode_again (m : MV) (h : m.Again) (gb cap : Nat) (u : World) (hcap : (enc m.msg).length ≤ cap) (hin : InB u u.heap.size (some ⟨gb, 0, none⟩) (enc m.msg)) (W : World) (hb : Below u.heap.size u W) (hW : Env W) :
    Calls Tryd.prog 10 #[.slice (some ⟨gb, 0, none⟩) (enc m.msg).length cap] W (DecN (some m.nrm) W) := by
  obtain ⟨hl, _⟩ := enc_len h.ok h.fits
  refine (decode_enc m h [] gb cap (enc m.msg).length (by rw [List.append_nil]) W hW hcap (by omega) (by rw [List.append_nil]; exact hin.to hb)).mono ?_
  rintro e w' ⟨hb', m', hm, hf, hli, rfl⟩
  exact ⟨hb', .inr ⟨m', by rw [hm], (nrm_ok hm).trans h.ok, hf, hli, rfl⟩⟩
/-- a question's message -/
def qMV (D : Int) (rp rc : Bool) (S : ByteArray) (t : Int) : MV := ⟨D, rp, false, rc, 0, S, t, none, 0, [], none, 0, []⟩
theorem pl_gos : ∀ i : Fin 8, gosB (bs (plN i.val)) = true ∧ (sp (plN i.val)).length ≤ 16 := by decide +kernel
theorem qMV_again {D : Int} {rp rc : Bool} {i : Nat} {t : Int} (hD : 0 ≤ D ∧ D ≤ 65535) (hi : i ≤ 7) (ht : 1 ≤ t ∧ t ≤ 65535) : (qMV D rp rc (bs (plN i)) t).Again := by
  have h16 := (pl_ok ⟨i, by omega⟩).2.2.2.2.2
  have hg := pl_gos ⟨i, by omega⟩
  simp only at h16 hg
  refine ⟨?_, ⟨(by show (bs (plN i)).size ≤ _; rw [bs_size]; unfold maxLen; omega), (fun r hr => by cases hr), (fun r hr => by cases hr), (by show 0 ≤ _; omega), (by show 0 ≤ _; omega)⟩, hg.2, (fun r hr => by cases hr), (fun r hr => by cases hr)⟩
  unfold mvOk qMV
  simp only
  rw [hg.1, show btw 0 D 65535 = true from decide_eq_true hD, show btw 1 t 65535 = true from decide_eq_true ht]
  rfl
theorem qMV_lies (D : Int) (rp rc : Bool) (S : ByteArray) (t : Int) (W : World) : (qMV D rp rc S t).Lies W := ⟨fun h => absurd h (by show ¬ 0 < 0; omega), fun h => absurd h (by show ¬ 0 < 0; omega)⟩
theorem step_store_tr {P : Program} {ops : Array Oper} {o : Oper} {a : Act} {Q : Exit → Act → World → Prop} {w : World} {K : Act → World → Prop} {E : Prop} (hgd : o.guard = none) (ty : TypeId) (x y : Operand) (ho : o.op = .store ty x y) (g : Nat) (z cells : Array Value) (t : TypeId) (hg : w.heap[g]? = some (.cells z t (0, 0)))
    (hx : a.eval x = .pointer (some ⟨g, 0, none⟩)) (hy : a.eval y = .agg cells) (hi : (P.info? ty).map (·.size) = some cells.size) (hz : z.size = cells.size) (h1 : cells.all (·.oneCell') = true)
    (h : ∀ w', Hid (w'.heap[g]? = some (.cells cells t (0, 0))) → Hid (w.grownBy w' (some g)) → w'.heap.size = w.heap.size → K (a.put o.dst undef) w') : if Region.wanted o (yielded ops a.tmps) = true then Oper.wp P o a w K Q else E := by
  have hw : Region.wanted o (yielded ops a.tmps) = true := by simp [Region.wanted, hgd]
  rw [if_pos hw]
  exact wp_store_row ty x y ho g cells hx hy t z hg hi hz h1 (h _ (setRow_heap w g z cells t _ hg) ⟨rfl, rfl, rfl, by simp, fun k _ hk => setRow_other w g k cells (fun e => hk (by rw [e]))⟩ (by simp))
end Go.Proofs.YtakfokdjdljjjaaDoor
