import Derived.Test.YtjemnkijoiehmaaGreatDoorUnframeWM
/- Plain mathematics of frames: a text's frame is read again, whatever follows; what is read as a frame are just its text's bytes. -/
namespace Go.Proofs.YtjemnkijoiehmaaGreatDoor

theorem ext_list (s : ByteArray) (i j : Nat) : (s.extract i j).data.toList = (s.data.toList.drop i).take (j - i) := by simp
theorem ba_eq {a b : ByteArray} (h : a.data.toList = b.data.toList) : a = b := by
  apply ByteArray.ext
  exact Array.toList_inj.1 h
theorem ext_full (s : ByteArray) : s.extract 0 s.size = s := ba_eq (by rw [ext_list]; simp [List.take_of_length_le])
theorem ba_toList (b : ByteArray) : b.toList = b.data.toList := ByteArray.toList_eq b
theorem crc4 (n : Nat) : (fourB n).length = 4 := rfl

theorem unfr_frame (s : ByteArray) (m : List UInt8) (hs : s.size < 18446744073709551616) : unfr (str (frameB s.data.toList ++ m)) 0 = (s, (frameB s.data.toList).length, 0) := by
  have hL : s.data.toList.length = s.size := by simp
  generalize hX : str (frameB s.data.toList ++ m) = X
  have hd : X.data.toList = numB s.size ++ (s.data.toList ++ (fourB (crcN (textB s.data.toList)) ++ m)) := by
    rw [← hX]
    show frameB s.data.toList ++ m = _
    unfold frameB textB
    rw [hL]; simp
  have hsz : X.size = (numB s.size).length + (s.size + (4 + m.length)) := by
    have : X.size = X.data.toList.length := by simp
    rw [this, hd]; simp [hL, crc4]
  have hp : pnum (X.data.toList.drop 0) = (s.size, (numB s.size).length, 0) := by rw [List.drop_zero, hd]; exact pnum_num _ hs
  have hx : X.extract (numB s.size).length ((numB s.size).length + s.size) = s := ba_eq (by
    rw [ext_list, hd, List.drop_left, show (numB s.size).length + s.size - (numB s.size).length = s.size by omega, ← hL, List.take_left])
  have h1 : rdText (X.extract 0 X.size) 0 0 = (s, (numB s.size).length + s.size, 0) := by
    rw [ext_full]
    refine (rd_ok hp).trans ?_
    simp only [Nat.zero_add]
    rw [if_neg (by omega), hx]
  have h2 : rdBytes (X.extract 0 X.size) ((numB s.size).length + s.size) 0 4 = (X.extract ((numB s.size).length + s.size) ((numB s.size).length + s.size + 4), (numB s.size).length + s.size + 4, 0) := by
    rw [ext_full]
    unfold rdBytes
    rw [if_pos rfl, if_neg (by decide), if_neg (by omega)]; rfl
  have hd2 : X.data.toList = textB s.data.toList ++ (fourB (crcN (textB s.data.toList)) ++ m) := by rw [hd]; unfold textB; rw [hL]; simp
  have hl2 : (textB s.data.toList).length = (numB s.size).length + s.size := by unfold textB; simp
  have h3 : (X.extract 0 (0 + ((numB s.size).length + s.size))).data.toList = textB s.data.toList := by
    rw [ext_list, hd2, List.drop_zero, Nat.zero_add, Nat.sub_zero, ← hl2, List.take_left]
  have h4 : (X.extract ((numB s.size).length + s.size) ((numB s.size).length + s.size + 4)).toList = fourB (crcN (textB s.data.toList)) := by
    rw [ba_toList, ext_list, hd2, ← hl2, List.drop_left, show (textB s.data.toList).length + 4 - (textB s.data.toList).length = (fourB (crcN (textB s.data.toList))).length by rw [crc4]; omega, List.take_left]
  rw [unfr_ok h1 h2 (by rw [h3, h4, str_toList]; simp)]
  have : (frameB s.data.toList).length = (numB s.size).length + s.size + 4 := by unfold frameB; rw [List.length_append, hl2, crc4]
  rw [this, Nat.zero_add]

end Go.Proofs.YtjemnkijoiehmaaGreatDoor
