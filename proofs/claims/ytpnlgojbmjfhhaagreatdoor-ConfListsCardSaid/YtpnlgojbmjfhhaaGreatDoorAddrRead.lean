/-
  The walks of addr.read4, read16 and joined. Conditions: a text that is not long; the library's variables hold what their initialisers lay.
-/
import Derived.Test.YtpnlgojbmjfhhaaGreatDoorAddrPrint
namespace Go.Proofs.YtpnlgojbmjfhhaaGreatDoor
open Go.RowKit

theorem pieces_len (s : ByteArray) : (pieces s).length ≤ s.size + 2 := pieces_le s
theorem pieces_sz (s : ByteArray) : ∀ x ∈ pieces s, x.size ≤ s.size := fun x hx => by
  obtain ⟨k, hk, rfl⟩ := List.getElem_of_mem hx
  have := piece_size s k hk
  simpa [List.getD, List.getElem?_eq_getElem hk] using this
/-- what read16 answers -/
def R16Post (s : ByteArray) (w : World) (e : Ending) (w' : World) : Prop :=
  Below w.heap.size w w' ∧ ((∃ (vs : List Nat) (A : Option Addr), read16 s.data.toList = some vs ∧ e = .returned (.tuple #[.slice A vs.length vs.length, .bool true]) ∧ ((A = none ∧ vs = []) ∨ ∃ g, A = some ⟨g, 0, none⟩ ∧ U64s w' g vs))
    ∨ (read16 s.data.toList = none ∧ e = .returned (.tuple #[.slice none 0 0, .bool false])))
theorem piecesC_sz (s : ByteArray) : ∀ x ∈ piecesC s, x.size ≤ s.size := fun x hx => by
  have hm : x.data.toList ∈ sq s.data.toList := by rw [← piecesC_data]; exact List.mem_map_of_mem hx
  have : ∀ (ys : List (List UInt8)) (y : List UInt8), y ∈ ys → y.length ≤ (jq ys).length := by
    intro ys
    induction ys with
    | nil => intro y h; cases h
    | cons z t ih =>
      intro y h
      cases t with
      | nil => rw [List.mem_singleton] at h; subst h; exact Nat.le_refl _
      | cons u t =>
        rw [jq_cons z (by simp), List.length_append, List.length_cons]
        rcases List.mem_cons.1 h with rfl | h
        · omega
        · have := ih y h; omega
  have h1 := this _ _ hm
  rw [jq_sq] at h1
  rw [Lib.size_eq, Lib.size_eq]; exact h1
theorem piecesC_le (s : ByteArray) : (piecesC s).length ≤ s.size + 2 := by
  rw [piecesC_count, Lib.size_eq]; have h : Lib.countB s ⟨#[58]⟩ ≤ s.data.toList.length + 1 := Lib.count_le _ _; omega
set_option maxHeartbeats 400000 in
theorem read16_e (s : ByteArray) (w : World) (he : AEnv w) (hs : s.size ≤ 1000) :
    Calls Tryz.prog 104 #[.string s] w (R16Post s w) := by
  by_cases h0 : s.data.toList = []
  · obtain rfl : s = ⟨#[]⟩ := bytes_inj h0
    have hr := Lib.hid (show read16 (ByteArray.mk #[]).data.toList = some [] by rfl)
    go_enter Tryz.func104, Tryz.ntmps104
    go_wp2
    go_ret2
    exact ⟨Below.refl _ _, .inl ⟨[], none, hr.out, rfl, .inl ⟨rfl, rfl⟩⟩⟩
  · have hemp : s.toList.isEmpty = false := by
      rw [← decide_eq_emptyBytes]
      exact decide_eq_false (fun h => h0 (by rw [h]; rfl))
    obtain ⟨m, hm⟩ := he.env.2
    have hsp : Calls Tryz.prog 72 #[.string s, .string ⟨#[58]⟩] w fun e w' => e = .returned (.slice (some ⟨w.heap.size, 0, none⟩) (piecesC s).length (piecesC s).length) ∧ w' = w.alloc (.cells ((piecesC s).map Value.string).toArray 9) := by
      rw [piecesC_count]; exact Tryz.strings_Split s ⟨#[58]⟩ m w (by omega) hm (by decide)
    have hpost : ∀ W, W = w.alloc (.cells ((piecesC s).map Value.string).toArray 9) → Below w.heap.size w W ∧ StrsF W w.heap.size (piecesC s) := fun W hW => by
      subst hW
      have hb : Below w.heap.size w (w.alloc (.cells ((piecesC s).map Value.string).toArray 9)) := (Below.refl _ w).alloc (Nat.le_refl _) _
      refine ⟨hb, by rw [World.size_alloc]; omega, fun j hj => ?_, fun j hj => ?_⟩
      · have := World.cell?_alloc_mark w ((piecesC s).map Value.string).toArray 9 (0, 0) j
        refine this.trans ?_
        simp [List.getElem?_eq_getElem hj, List.getD]
      · show (w.alloc _).frozen? _ = _
        rw [World.frozen?_alloc_mark]
        simp
    have hval := fun W (hW : AEnv W) (hf : StrsF W w.heap.size (piecesC s)) => vals16 (piecesC s) w.heap.size W hW hf (by have := piecesC_le s; omega) (fun x hx => by have := piecesC_sz s x hx; omega)
    have hrd : read16 s.data.toList = rdAll 16 65535 ((piecesC s).map (·.data.toList)) := by unfold read16; rw [if_neg h0, piecesC_data]
    have HP := Lib.hid hpost
    have HV := Lib.hid hval
    have HR := Lib.hid hrd
    have HE := Lib.hid he
    clear hpost hval hrd he hm h0
    obtain ⟨xs, hxs⟩ : ∃ xs, xs = piecesC s := ⟨_, rfl⟩
    rw [← hxs] at hsp HP HV HR
    clear hxs
    go_enter Tryz.func104, Tryz.ntmps104
    go_wp2_with fail
    refine hsp.mono ?_
    rintro e w1 ⟨rfl, hw⟩
    have HP1 := Lib.hid (HP.out _ hw)
    clear hw
    go_wp2_with fail
    refine (HV.out _ (HE.out.below HP1.out.1) HP1.out.2).mono ?_
    rintro e w2 ⟨hb2, h⟩
    have HB2 := Lib.hid (HP1.out.1.trans (hb2.mono HP1.out.1.size))
    clear hb2
    rcases h with ⟨vs, g, h1, h2, rfl, h3⟩ | ⟨h1, rfl⟩
    · have H1 := Lib.hid h1
      have H3 := Lib.hid h3
      clear h1 h3
      go_wp2
      go_ret2
      exact ⟨HB2.out, .inl ⟨vs, some ⟨g, 0, none⟩, by rw [HR.out]; exact H1.out, by rw [h2]; rfl, .inr ⟨g, rfl, H3.out⟩⟩⟩
    · have H1 := Lib.hid h1
      clear h1
      go_wp2
      go_ret2
      exact ⟨HB2.out, .inr ⟨by rw [HR.out]; exact H1.out, rfl⟩⟩
end Go.Proofs.YtpnlgojbmjfhhaaGreatDoor
