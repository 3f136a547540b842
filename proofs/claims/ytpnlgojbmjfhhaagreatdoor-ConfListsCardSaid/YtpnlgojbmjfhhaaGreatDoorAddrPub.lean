/-
  The walk of strconv.ParseUint, the public one: the number, or an error. Conditions: as the inner one; the library's two variables hold errors.
-/
import Derived.Test.YtpnlgojbmjfhhaaGreatDoorAddrPu
namespace Go.Proofs.YtpnlgojbmjfhhaaGreatDoor
open Go.RowKit

/-- what the public call answers: the number and no error, or some error -/
def PubPost (b M : Nat) (t : ByteArray) (w : World) (e : Ending) (w' : World) : Prop :=
  Below w.heap.size w w' ∧ ((∃ v, rdT b M t.data.toList = some v ∧ e = .returned (.tuple #[.int .u64 v, .nilIface])) ∨ (rdT b M t.data.toList = none ∧ ∃ (x : Int) (ty : TypeId) (p : Value), e = .returned (.tuple #[.int .u64 x, .iface ty p])))
set_option maxHeartbeats 1000000 in
theorem pub_of (b M sz : Nat) (t : ByteArray) (hmax : t.size ≤ 1099511627776) (w : World) (he : AEnv w)
    (hpu : ∀ W, Calls Tryz.prog 132 #[.string t, .int .i64 b, .int .i64 sz] W (PuPost b M t W)) :
    Calls Tryz.prog 121 #[.string t, .int .i64 b, .int .i64 sz] w (PubPost b M t w) := by
  go_enter Tryz.func121, Tryz.ntmps121
  go_wp2_with fail
  refine (hpu _).mono ?_
  rintro e w1 ⟨hb1, h⟩
  have he1 := he.below hb1
  obtain ⟨ts, ps, hs⟩ := he1.syn
  obtain ⟨tr, pr, hr⟩ := he1.rng
  have HB := Lib.hid hb1
  clear he1 hb1
  rcases h with ⟨v, hv, rfl⟩ | ⟨hn, x, k, hk, rfl⟩
  · go_wp2
    go_ret2
    exact ⟨HB.out, .inl ⟨v, hv, rfl⟩⟩
  · rcases hk with rfl | rfl
    · go_wp2_with (go_at_call 133; refine (Tryz.strconv_toError_range _ t _ _ _ _ (by omega) hr (.inr ⟨_, _, rfl⟩)).mono ?_; rintro e' w2 ⟨N, rfl, h1, h2, h3⟩)
      go_ret2
      exact ⟨HB.out.trans (h3.mono HB.out.size), .inr ⟨hn, x, _, _, rfl⟩⟩
    · go_wp2_with (go_at_call 133; refine (Tryz.strconv_toError_syntax _ t _ _ _ _ (by omega) hs (.inr ⟨_, _, rfl⟩)).mono ?_; rintro e' w2 ⟨N, rfl, h1, h2, h3⟩)
      go_ret2
      exact ⟨HB.out.trans (h3.mono HB.out.size), .inr ⟨hn, x, _, _, rfl⟩⟩
theorem pub16 (t : ByteArray) (hmax : t.size ≤ 1099511627776) (w : World) (he : AEnv w) :
    Calls Tryz.prog 121 #[.string t, .int .i64 16, .int .i64 16] w (PubPost 16 65535 t w) := pub_of 16 65535 16 t hmax w he (fun W => pu16 t hmax W)
theorem pub8 (t : ByteArray) (hmax : t.size ≤ 1099511627776) (w : World) (he : AEnv w) :
    Calls Tryz.prog 121 #[.string t, .int .i64 10, .int .i64 8] w (PubPost 10 255 t w) := pub_of 10 255 8 t hmax w he (fun W => pu8 t hmax W)

/-- block g holds these numbers -/
structure U64s (w : World) (g : Nat) (vs : List Nat) : Prop where
  lt : g < w.heap.size
  cells : ∀ j, j < vs.length → w.cell? ⟨g, j, none⟩ = some (.int .u64 (vs.getD j 0 : Nat))
theorem U64s.below {w w' : World} {g : Nat} {vs : List Nat} (h : U64s w g vs) (hb : Below w.heap.size w w') : U64s w' g vs :=
  ⟨Nat.lt_of_lt_of_le h.lt hb.size, fun j hj => (hb.cell (p := ⟨g, j, none⟩) h.lt).trans (h.cells j hj)⟩
/-- how values' loop stands -/
structure ValAt (w wr : World) (g b M : Nat) (xs : List ByteArray) (k : Nat) (vs : List Nat) : Prop where
  blk : Blk w wr g xs.length (fun j => .int .u64 (vs.getD j 0 : Nat))
  len : vs.length = k
  eq : rdAll b M (xs.map (·.data.toList)) = (rdAll b M ((xs.drop k).map (·.data.toList))).map (vs ++ ·)
theorem ValAt.start {w : World} {b M : Nat} {xs : List ByteArray} : ValAt w (w.alloc (.cells (madeCells #[.int .u64 0] xs.length) 125)) w.heap.size b M xs 0 [] :=
  ⟨Blk.new (Below.refl _ w) fun j hj => madeAt _ _ _ hj, rfl, by simp⟩
theorem drop_getD {xs : List ByteArray} {k : Nat} (h : k < xs.length) : xs.drop k = xs.getD k ByteArray.empty :: xs.drop (k + 1) := by
  rw [List.drop_eq_getElem_cons h]
  simp [List.getD, List.getElem?_eq_getElem h]
theorem ValAt.next {w wr w2 : World} {g b M k v : Nat} {xs : List ByteArray} {vs : List Nat} (h : ValAt w wr g b M xs k vs) (hk : k < xs.length) (hb : Below wr.heap.size wr w2) (hv : rdT b M (xs.getD k ByteArray.empty).data.toList = some v) :
    w2.frozen? ⟨g, k, none⟩ = false ∧ (∃ u, w2.cell? ⟨g, k, none⟩ = some u) ∧ ValAt w (w2.setCell ⟨g, k, none⟩ (.int .u64 v)) g b M xs (k + 1) (vs ++ [v]) := by
  have h2 := h.blk.step hb
  refine ⟨h2.free k hk, ⟨_, h2.cells k hk⟩, (h2.set k hk (.int .u64 v)).congr fun j hj => ?_, by rw [List.length_append, h.len]; rfl, ?_⟩
  · have hl := h.len
    by_cases e : j = k
    · subst e; rw [if_pos rfl, List.getD, List.getElem?_append_right (by omega), show j - vs.length = 0 by omega]; rfl
    · rw [if_neg e]
      rcases Nat.lt_or_ge j k with hjk | hjk
      · simp only [List.getD, List.getElem?_append_left (show j < vs.length by omega)]
      · simp only [List.getD]
        rw [List.getElem?_eq_none (by omega), List.getElem?_eq_none (by rw [List.length_append, hl]; simp; omega)]
  · rw [h.eq, drop_getD hk, List.map_cons, rdAll, hv, Option.map_map]
    congr 1
    funext l
    simp
theorem ValAt.err {w wr : World} {g b M k : Nat} {xs : List ByteArray} {vs : List Nat} (h : ValAt w wr g b M xs k vs) (hk : k < xs.length) (hv : rdT b M (xs.getD k ByteArray.empty).data.toList = none) : rdAll b M (xs.map (·.data.toList)) = none := by
  rw [h.eq, drop_getD hk, List.map_cons, rdAll, hv]; rfl
theorem ValAt.done {w wr : World} {g b M : Nat} {xs : List ByteArray} {vs : List Nat} (h : ValAt w wr g b M xs xs.length vs) : rdAll b M (xs.map (·.data.toList)) = some vs ∧ U64s wr g vs := by
  refine ⟨by rw [h.eq, List.drop_length]; simp [rdAll], h.blk.lt, fun j hj => h.blk.cells j (by rw [← h.len]; exact hj)⟩
/-- what values answers -/
def ValPost (b M : Nat) (xs : List ByteArray) (w : World) (e : Ending) (w' : World) : Prop :=
  Below w.heap.size w w' ∧ ((∃ vs g, rdAll b M (xs.map (·.data.toList)) = some vs ∧ vs.length = xs.length ∧ e = .returned (.tuple #[.slice (some ⟨g, 0, none⟩) xs.length xs.length, .bool true]) ∧ U64s w' g vs)
    ∨ (rdAll b M (xs.map (·.data.toList)) = none ∧ e = .returned (.tuple #[.slice none 0 0, .bool false])))
set_option maxRecDepth 100000 in
set_option maxHeartbeats 1000000 in
theorem values_of (b M sz : Nat) (xs : List ByteArray) (B : Nat) (w : World) (he : AEnv w) (hs : StrsF w B xs) (hn : xs.length ≤ 1099511627776) (hx : ∀ x ∈ xs, x.size ≤ 1099511627776)
    (hpub : ∀ t W, t.size ≤ 1099511627776 → AEnv W → Calls Tryz.prog 121 #[.string t, .int .i64 b, .int .i64 sz] W (PubPost b M t W)) :
    Calls Tryz.prog 103 #[.slice (some ⟨B, 0, none⟩) xs.length xs.length, .int .i64 b, .int .i64 sz] w (ValPost b M xs w) := by
  have hmk := mk_u64 xs.length hn
  have ST := Lib.hid (ValAt.start (w := w) (b := b) (M := M) (xs := xs))
  have HS := Lib.hid hs
  have HE := Lib.hid he
  have HX := Lib.hid hx
  clear hs he hx
  go_enter Tryz.func103, Tryz.ntmps103
  go_wp2
  go_loopw [18, 9, 10, 11, 12] (fun i _ _ _ _ wr => ∃ (k : Nat) (vs : List Nat), k ≤ xs.length ∧ i = .int .i64 k ∧ ValAt w wr w.heap.size b M xs k vs) (fun i _ _ _ _ _ => xs.length - (intOf i).toNat)
  case atStart => exact ⟨0, [], Nat.zero_le _, rfl, ST.out⟩
  case round =>
    obtain ⟨k, vs, hk, rfl, hat⟩ := hrel
    by_cases hlt : k < xs.length
    · have c0 : wr.cell? ⟨B, k, none⟩ = some (.string (xs.getD k ByteArray.empty)) := (hat.blk.below.cell (p := ⟨B, k, none⟩) HS.out.lt).trans (HS.out.cells k hlt)
      have hsz : (xs.getD k ByteArray.empty).size ≤ 1099511627776 := HX.out _ (by rw [List.getD, List.getElem?_eq_getElem hlt]; exact List.getElem_mem hlt)
      have hE := HE.out.below hat.blk.below
      have hcall := hpub (xs.getD k ByteArray.empty) wr hsz hE
      have HN := Lib.hid (fun v w2 (hb : Below wr.heap.size wr w2) (hv : rdT b M (xs.getD k ByteArray.empty).data.toList = some v) => hat.next hlt hb hv)
      have HR := Lib.hid (fun hv => hat.err hlt hv)
      have HB := Lib.hid hat.blk.below
      obtain ⟨x, hxd⟩ : ∃ x, x = xs.getD k ByteArray.empty := ⟨_, rfl⟩
      rw [← hxd] at c0 hcall HN HR
      clear hat hsz hE hxd
      go_wp2_with fail
      refine hcall.mono ?_
      rintro e w2 ⟨hb2, h⟩
      rcases h with ⟨v, hv, rfl⟩ | ⟨hno, y, ty, p, rfl⟩
      · obtain ⟨f0, ⟨u, c2⟩, hnext⟩ := HN.out v w2 hb2 hv
        have HN' := Lib.hid hnext
        clear hnext hb2 hv hcall
        go_wp2
        go_roundw
        case rel => exact ⟨k + 1, vs ++ [v], by omega, by go_num, HN'.out⟩
        case measure => simp [intOf]; omega
      · have HF := Lib.hid (HR.out hno)
        have HB2 := Lib.hid (HB.out.trans (hb2.mono HB.out.size))
        clear hcall hb2 hno
        go_wp2
        go_ret2
        exact ⟨HB2.out, .inr ⟨HF.out, rfl⟩⟩
    · obtain rfl : k = xs.length := by omega
      have H := Lib.hid hat
      clear hat
      go_wp2
      go_ret2
      exact ⟨H.out.blk.below, .inl ⟨vs, _, H.out.done.1, H.out.len, rfl, H.out.done.2⟩⟩
theorem vals16 (xs : List ByteArray) (B : Nat) (w : World) (he : AEnv w) (hs : StrsF w B xs) (hn : xs.length ≤ 1099511627776) (hx : ∀ x ∈ xs, x.size ≤ 1099511627776) :
    Calls Tryz.prog 103 #[.slice (some ⟨B, 0, none⟩) xs.length xs.length, .int .i64 16, .int .i64 16] w (ValPost 16 65535 xs w) := values_of 16 65535 16 xs B w he hs hn hx fun t W h h' => pub16 t h W h'
theorem vals8 (xs : List ByteArray) (B : Nat) (w : World) (he : AEnv w) (hs : StrsF w B xs) (hn : xs.length ≤ 1099511627776) (hx : ∀ x ∈ xs, x.size ≤ 1099511627776) :
    Calls Tryz.prog 103 #[.slice (some ⟨B, 0, none⟩) xs.length xs.length, .int .i64 10, .int .i64 8] w (ValPost 10 255 xs w) := values_of 10 255 8 xs B w he hs hn hx fun t W h h' => pub8 t h W h'
end Go.Proofs.YtpnlgojbmjfhhaaGreatDoor
