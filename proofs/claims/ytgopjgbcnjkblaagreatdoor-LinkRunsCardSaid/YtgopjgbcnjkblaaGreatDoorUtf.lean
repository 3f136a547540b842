/-
  Plain facts on UTF-8, no program: runes that are written are read again as they were. No condition.
-/
import Derived.Test.YtgopjgbcnjkblaaGreatDoorPunyRunes
import Derived.Lib.DecodeN
import Derived.Laws.Cover4
namespace Go.Proofs.YtgopjgbcnjkblaaGreatDoor

/-- a rune's bytes -/
def u8 (r : Nat) : List UInt8 :=
  if r < 128 then [UInt8.ofNat r] else if r < 2048 then [UInt8.ofNat (192 + r / 64), UInt8.ofNat (128 + r % 64)]
  else if r < 65536 then [UInt8.ofNat (224 + r / 4096), UInt8.ofNat (128 + r / 64 % 64), UInt8.ofNat (128 + r % 64)]
  else [UInt8.ofNat (240 + r / 262144), UInt8.ofNat (128 + r / 4096 % 64), UInt8.ofNat (128 + r / 64 % 64), UInt8.ofNat (128 + r % 64)]
theorem u8_length (r : Nat) : 1 ≤ (u8 r).length ∧ (u8 r).length ≤ 4 := by
  unfold u8
  repeat' split
  all_goals simp
theorem valid_ok {r : Nat} (h : okR r) : Utf8.valid (r : Int) = true := by
  unfold okR at h
  unfold Utf8.valid
  simp; omega
theorem u8_eq {r : Nat} (h : okR r) : (Utf8.encode (r : Int)).data.toList = u8 r := by
  unfold Utf8.encode u8
  simp only [valid_ok h, if_true, Int.toNat_natCast]
  repeat' split
  all_goals rfl
def utf (l : List Nat) : List UInt8 := l.flatMap u8
theorem foldl_utf : ∀ (l : List Nat) (s : ByteArray), (∀ r ∈ l, okR r) → ((l.map fun (r : Nat) => (r : Int)).foldl (fun r n => r ++ Utf8.encode n) s).data.toList = s.data.toList ++ utf l
  | [], s, _ => by simp [utf]
  | r :: l, s, h => by
    simp only [List.map_cons, List.foldl_cons]
    rw [foldl_utf l _ (fun x hx => h x (List.mem_cons_of_mem _ hx))]
    have e : (s ++ Utf8.encode (r : Int)).data.toList = s.data.toList ++ u8 r := by
      rw [ByteArray.data_append, Array.toList_append, u8_eq (h r List.mem_cons_self)]
    rw [e, List.append_assoc]; rfl
theorem runesBytes_utf {l : List Nat} (h : ∀ r ∈ l, okR r) : (runesBytes (l.map fun (r : Nat) => (r : Int))).data.toList = utf l := by
  unfold runesBytes
  rw [foldl_utf l _ h]; simp
theorem get_list {s : ByteArray} {j : Nat} {c : UInt8} (h : s.data.toList[j]? = some c) : s.get! j = c := by
  have hj := (List.getElem?_eq_some_iff.1 h).1
  have hj' : j < s.data.size := by simpa using hj
  have : s.get! j = s.data[j]! := rfl
  rw [this, getElem!_pos s.data j hj']
  have h2 := (List.getElem?_eq_some_iff.1 h).2
  simpa using h2
theorem nat8 {n : Nat} (h : n < 256) : (UInt8.ofNat n).toNat = n := by rw [UInt8.toNat_ofNat']; omega
theorem decode_u8 {s : ByteArray} {pre post : List UInt8} {r : Nat} (hs : s.data.toList = pre ++ (u8 r ++ post)) (h : okR r) : Utf8.decode s pre.length = (r, (u8 r).length) := by
  have hle := okR_le h
  have hsz : s.size = pre.length + ((u8 r).length + post.length) := by rw [Lib.size_eq, hs]; simp
  have at0 : ∀ k c, (u8 r)[k]? = some c → s.get! (pre.length + k) = c := fun k c hk => get_list (by
    have hkl := (List.getElem?_eq_some_iff.1 hk).1
    rw [hs, List.getElem?_append_right (by omega), show pre.length + k - pre.length = k by omega, List.getElem?_append_left hkl]
    exact hk)
  rw [Lib.decode_at]
  unfold okR at h
  by_cases h1 : r < 128
  · have e : u8 r = [UInt8.ofNat r] := by unfold u8; rw [if_pos h1]
    have b0 := at0 0 _ (by rw [e]; rfl)
    rw [Nat.add_zero] at b0
    rw [e, b0, nat8 (by omega)]
    unfold Lib.decodeN
    rw [if_pos h1]; rfl
  · by_cases h2 : r < 2048
    · have e : u8 r = [UInt8.ofNat (192 + r / 64), UInt8.ofNat (128 + r % 64)] := by unfold u8; rw [if_neg h1, if_pos h2]
      have b0 := at0 0 _ (by rw [e]; rfl)
      have b1 := at0 1 _ (by rw [e]; rfl)
      rw [Nat.add_zero] at b0
      have hl : (u8 r).length = 2 := by rw [e]; rfl
      rw [hl] at hsz ⊢
      rw [b0, b1, nat8 (by omega), nat8 (by omega)]
      unfold Lib.decodeN
      rw [if_neg (by omega), if_pos (by omega), if_pos (by omega)]
      congr 1; omega
    · by_cases h3 : r < 65536
      · have e : u8 r = [UInt8.ofNat (224 + r / 4096), UInt8.ofNat (128 + r / 64 % 64), UInt8.ofNat (128 + r % 64)] := by unfold u8; rw [if_neg h1, if_neg h2, if_pos h3]
        have b0 := at0 0 _ (by rw [e]; rfl)
        have b1 := at0 1 _ (by rw [e]; rfl)
        have b2 := at0 2 _ (by rw [e]; rfl)
        rw [Nat.add_zero] at b0
        have hl : (u8 r).length = 3 := by rw [e]; rfl
        rw [hl] at hsz ⊢
        rw [b0, b1, b2, nat8 (by omega), nat8 (by omega), nat8 (by omega)]
        unfold Lib.decodeN
        rw [if_neg (by omega), if_neg (by omega), if_pos (by omega), if_pos (by omega)]
        congr 1; omega
      · have e : u8 r = [UInt8.ofNat (240 + r / 262144), UInt8.ofNat (128 + r / 4096 % 64), UInt8.ofNat (128 + r / 64 % 64), UInt8.ofNat (128 + r % 64)] := by unfold u8; rw [if_neg h1, if_neg h2, if_neg h3]
        have b0 := at0 0 _ (by rw [e]; rfl)
        have b1 := at0 1 _ (by rw [e]; rfl)
        have b2 := at0 2 _ (by rw [e]; rfl)
        have b3 := at0 3 _ (by rw [e]; rfl)
        rw [Nat.add_zero] at b0
        have hl : (u8 r).length = 4 := by rw [e]; rfl
        rw [hl] at hsz ⊢
        rw [b0, b1, b2, b3, nat8 (by omega), nat8 (by omega), nat8 (by omega), nat8 (by omega)]
        unfold Lib.decodeN
        rw [if_neg (by omega), if_neg (by omega), if_neg (by omega), if_pos (by omega), if_pos (by omega)]
        congr 1; omega
theorem runesN_utf (s : ByteArray) : ∀ (l : List Nat) (pre : List UInt8) (b : Nat), (∀ r ∈ l, okR r) → s.data.toList = pre ++ utf l → s.size ≤ pre.length + b → runesN s b pre.length = l
  | [], pre, b, _, hs, hb => by
    have : s.size = pre.length := by rw [Lib.size_eq, hs]; simp [utf]
    cases b with
    | zero => rfl
    | succ b => unfold runesN; rw [if_neg (by omega)]
  | r :: l, pre, b, h, hs, hb => by
    have e : utf (r :: l) = u8 r ++ utf l := rfl
    rw [e] at hs
    have hd := decode_u8 hs (h r List.mem_cons_self)
    have hl := u8_length r
    have hsz : s.size = pre.length + ((u8 r).length + (utf l).length) := by rw [Lib.size_eq, hs]; simp
    cases b with
    | zero => omega
    | succ b =>
      unfold runesN
      rw [if_pos (by omega), hd]
      have := runesN_utf s l (pre ++ u8 r) b (fun x hx => h x (List.mem_cons_of_mem _ hx)) (by rw [hs]; simp) (by rw [List.length_append]; omega)
      rw [List.length_append] at this
      rw [this]
theorem utf_inj {l k : List Nat} (hl : ∀ r ∈ l, okR r) (hk : ∀ r ∈ k, okR r) (h : utf l = utf k) : l = k := by
  have h1 := runesN_utf ⟨(utf l).toArray⟩ l [] (utf l).length hl rfl (by simp [ByteArray.size])
  have h2 := runesN_utf ⟨(utf l).toArray⟩ k [] (utf l).length hk h (by simp [ByteArray.size])
  exact h1.symm.trans h2
/-- the bytes of runes below 128 are they -/
theorem utf_ascii : ∀ {l : List Nat}, (∀ r ∈ l, r < 128) → utf l = l.map UInt8.ofNat
  | [], _ => rfl
  | r :: l, h => by
    have e : utf (r :: l) = u8 r ++ utf l := rfl
    rw [e, utf_ascii fun x hx => h x (List.mem_cons_of_mem _ hx)]
    unfold u8
    rw [if_pos (h r List.mem_cons_self)]; rfl
end Go.Proofs.YtgopjgbcnjkblaaGreatDoor
