/- Plain mathematics of what is written and read again: each act's bytes are taken again, wherever they stand. -/
import Derived.Test.YthlmohbpedcmfaaPutW
import Derived.Test.YthlmohbpedcmfaaFrameMath
namespace Go.Proofs.Ythlmohbpedcmfaa
open Go.RowKit
/-- All acts' bytes. -/
def outB (L : List ActV) : List UInt8 := L.flatMap actB
theorem outB_snoc (L : List ActV) (k : Nat) (h : k < L.length) : outB (L.take (k + 1)) = outB (L.take k) ++ actB L[k] := by
  unfold outB
  rw [List.take_succ_eq_append_getElem h, List.flatMap_append]; simp
theorem outB_split (L : List ActV) (k : Nat) (h : k < L.length) : outB L = outB (L.take k) ++ (actB L[k] ++ outB (L.drop (k + 1))) := by
  unfold outB
  conv => lhs; rw [← List.take_append_drop k L, List.flatMap_append]
  rw [List.drop_eq_getElem_cons h]
  simp only [List.flatMap_cons]
theorem outB_full (L : List ActV) : outB (L.take L.length) = outB L := by rw [List.take_length]
/-- What stands behind a place. -/
theorem out_drop {l a b c : List UInt8} (h : l = a ++ (b ++ c)) : l.drop a.length = b ++ c := by rw [h, List.drop_left]
theorem take_mid {l a b c : List UInt8} (h : l = a ++ (b ++ c)) : (l.drop a.length).take b.length = b := by rw [out_drop h, List.take_left]
/-- A number is taken again. -/
theorem rd_num_out {s : ByteArray} {a c : List UInt8} {n : Nat} (h : s.data.toList = a ++ (numB n ++ c)) (hn : n < 18446744073709551616) : pnum (s.data.toList.drop a.length) = (n, (numB n).length, 0) := by
  rw [out_drop h]; exact pnum_num c hn
theorem size_out {s : ByteArray} {a b c : List UInt8} (h : s.data.toList = a ++ (b ++ c)) : s.size = a.length + (b.length + c.length) := by
  have : s.size = s.data.toList.length := by simp
  rw [this, h]; simp
theorem bytes_out {s t : ByteArray} {a c : List UInt8} (h : s.data.toList = a ++ (t.data.toList ++ c)) : rdBytes s a.length 0 t.size = (t, a.length + t.size, 0) := by
  have hs := size_out h
  have hl : t.data.toList.length = t.size := by simp
  unfold rdBytes
  rw [if_pos rfl, if_neg (by omega), if_neg (by omega)]
  have : s.extract a.length (a.length + (t.size : Int).toNat) = t := ba_eq (by
    rw [ext_list, Int.toNat_natCast, show a.length + t.size - a.length = t.data.toList.length by omega, take_mid h])
  rw [this, Int.toNat_natCast]
theorem text_out {s t : ByteArray} {a c : List UInt8} (h : s.data.toList = a ++ (textB t.data.toList ++ c)) (ht : t.size < 18446744073709551616) : rdText s a.length 0 = (t, a.length + (textB t.data.toList).length, 0) := by
  have hl : t.data.toList.length = t.size := by simp
  have h' : s.data.toList = a ++ (numB t.size ++ (t.data.toList ++ c)) := by rw [h]; unfold textB; rw [hl]; simp
  have hs := size_out h'
  simp at hs
  have hL : (textB t.data.toList).length = (numB t.size).length + t.size := by unfold textB; simp
  refine (rd_ok (rd_num_out h' ht)).trans ?_
  rw [if_neg (by omega), hL]
  have h2 : s.data.toList = (a ++ numB t.size) ++ (t.data.toList ++ c) := by rw [h']; simp
  have : s.extract (a.length + (numB t.size).length) (a.length + (numB t.size).length + t.size) = t := ba_eq (by
    rw [ext_list, show a.length + (numB t.size).length + t.size - (a.length + (numB t.size).length) = t.data.toList.length by omega, show a.length + (numB t.size).length = (a ++ numB t.size).length by simp, take_mid h2])
  rw [this, Nat.add_assoc]
theorem num_out {s : ByteArray} {a c : List UInt8} {n : Nat} (h : s.data.toList = a ++ (numB n ++ c)) (hn : n < 18446744073709551616) : rdNum s a.length 0 = (n, a.length + (numB n).length, 0) := rd_ok (rd_num_out h hn)
theorem bool_out {s : ByteArray} {a c : List UInt8} {n : Nat} (h : s.data.toList = a ++ (numB n ++ c)) (hn : n ≤ 1) : rdBool s a.length 0 = (n == 1, a.length + (numB n).length, 0) :=
  (rd_ok (rd_num_out h (by omega))).trans (if_neg (by omega))
/-- How long it all is. -/
def roomL (L : List ActV) : Nat := (L.map fun y => y.t.size + 10).sum
theorem out_room (L : List ActV) (h : ∀ y ∈ L, y.ok ∧ y.t.size ≤ 140737488355328) : (outB L).length ≤ roomL L := by
  induction L with
  | nil => simp [outB, roomL]
  | cons y L ih =>
    have h1 := actB_len y (h y (by simp)).1 (h y (by simp)).2
    have h2 := ih (fun z hz => h z (by simp [hz]))
    unfold outB roomL at *
    simp at h2 ⊢
    omega
theorem room_take (L : List ActV) (k : Nat) : roomL (L.take k) ≤ roomL L := by
  conv => rhs; rw [← List.take_append_drop k L]
  unfold roomL
  rw [List.map_append, List.sum_append]; omega
theorem room_at (L : List ActV) (k : Nat) (h : k < L.length) : roomL (L.take k) + (L[k].t.size + 10) ≤ roomL L := by
  have := room_take L (k + 1)
  unfold roomL at *
  rw [List.take_succ_eq_append_getElem h] at this
  simp only [List.map_append, List.sum_append, List.map_cons, List.map_nil, List.sum_cons, List.sum_nil] at this
  omega
theorem room_len (L : List ActV) : L.length ≤ roomL L := by
  induction L with
  | nil => simp [roomL]
  | cons y L ih => unfold roomL at *; simp at ih ⊢; omega
theorem room_mem {L : List ActV} {y : ActV} (h : y ∈ L) : y.t.size ≤ roomL L := by
  induction L with
  | nil => cases h
  | cons z L ih =>
    unfold roomL at *
    simp at h ih ⊢
    rcases h with rfl | h
    · omega
    · have := ih h; omega
theorem room_all {L : List ActV} (hok : ∀ y ∈ L, y.ok) (hL : roomL L ≤ 140737488355328) : ∀ y ∈ L, y.ok ∧ y.t.size ≤ 140737488355328 := fun y hy => ⟨hok y hy, Nat.le_trans (room_mem hy) hL⟩
theorem room_put {L : List ActV} (hok : ∀ y ∈ L, y.ok) (hL : roomL L ≤ 140737488355328) (k : Nat) (h : k < L.length) : (outB (L.take k)).length + L[k].t.size + 10 ≤ 140737488355328 := by
  have h1 := out_room (L.take k) (fun y hy => room_all hok hL y (List.mem_of_mem_take hy))
  have h2 := room_at L k h
  omega
theorem out_len {L : List ActV} (hok : ∀ y ∈ L, y.ok) (hL : roomL L ≤ 140737488355328) : (outB L).length ≤ 140737488355328 := Nat.le_trans (out_room L (room_all hok hL)) hL
theorem out_take_len {L : List ActV} (hok : ∀ y ∈ L, y.ok) (hL : roomL L ≤ 140737488355328) (k : Nat) : (outB (L.take k)).length ≤ 140737488355328 :=
  out_len (fun y hy => hok y (List.mem_of_mem_take hy)) (Nat.le_trans (room_take L k) hL)
end Go.Proofs.Ythlmohbpedcmfaa
