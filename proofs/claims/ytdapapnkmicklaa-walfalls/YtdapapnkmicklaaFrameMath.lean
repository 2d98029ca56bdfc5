/- Plain mathematics of frames: a text's frame is read again, whatever follows; what is read as a frame are just its text's bytes. -/
import Derived.Test.YtdapapnkmicklaaUnframeW
namespace Go.Proofs.Ytdapapnkmicklaa

theorem ext_list (s : ByteArray) (i j : Nat) : (s.extract i j).data.toList = (s.data.toList.drop i).take (j - i) := by simp
theorem ba_eq {a b : ByteArray} (h : a.data.toList = b.data.toList) : a = b := by
  apply ByteArray.ext
  exact Array.toList_inj.1 h
theorem ext_full (s : ByteArray) : s.extract 0 s.size = s := ba_eq (by rw [ext_list]; simp [List.take_of_length_le])
theorem ba_toList (b : ByteArray) : b.toList = b.data.toList := ByteArray.toList_eq b
theorem crc4 (n : Nat) : (fourB n).length = 4 := rfl

theorem unfr_frame (s : ByteArray) (m : List UInt8) (hs : s.size < 18446744073709551616) : unfr (str (frameB s.data.toList ++ m)) 0 = (s, (frameB s.data.toList).length, 0) := by
  have hL : s.data.toList.length = s.size := by simp
  generalize hX : str (frameB s.data.toList ++ m) = X
  have hd : X.data.toList = numB s.size ++ (s.data.toList ++ (fourB (crcN (textB s.data.toList)) ++ m)) := by
    rw [← hX]
    show frameB s.data.toList ++ m = _
    unfold frameB textB
    rw [hL]; simp
  have hsz : X.size = (numB s.size).length + (s.size + (4 + m.length)) := by
    have : X.size = X.data.toList.length := by simp
    rw [this, hd]; simp [hL, crc4]
  have hp : pnum (X.data.toList.drop 0) = (s.size, (numB s.size).length, 0) := by rw [List.drop_zero, hd]; exact pnum_num _ hs
  have hx : X.extract (numB s.size).length ((numB s.size).length + s.size) = s := ba_eq (by
    rw [ext_list, hd, List.drop_left, show (numB s.size).length + s.size - (numB s.size).length = s.size by omega, ← hL, List.take_left])
  have h1 : rdText (X.extract 0 X.size) 0 0 = (s, (numB s.size).length + s.size, 0) := by
    rw [ext_full]
    refine (rd_ok hp).trans ?_
    simp only [Nat.zero_add]
    rw [if_neg (by omega), hx]
  have h2 : rdBytes (X.extract 0 X.size) ((numB s.size).length + s.size) 0 4 = (X.extract ((numB s.size).length + s.size) ((numB s.size).length + s.size + 4), (numB s.size).length + s.size + 4, 0) := by
    rw [ext_full]
    unfold rdBytes
    rw [if_pos rfl, if_neg (by decide), if_neg (by omega)]; rfl
  have hd2 : X.data.toList = textB s.data.toList ++ (fourB (crcN (textB s.data.toList)) ++ m) := by rw [hd]; unfold textB; rw [hL]; simp
  have hl2 : (textB s.data.toList).length = (numB s.size).length + s.size := by unfold textB; simp
  have h3 : (X.extract 0 (0 + ((numB s.size).length + s.size))).data.toList = textB s.data.toList := by
    rw [ext_list, hd2, List.drop_zero, Nat.zero_add, Nat.sub_zero, ← hl2, List.take_left]
  have h4 : (X.extract ((numB s.size).length + s.size) ((numB s.size).length + s.size + 4)).toList = fourB (crcN (textB s.data.toList)) := by
    rw [ba_toList, ext_list, hd2, ← hl2, List.drop_left, show (textB s.data.toList).length + 4 - (textB s.data.toList).length = (fourB (crcN (textB s.data.toList))).length by rw [crc4]; omega, List.take_left]
  rw [unfr_ok h1 h2 (by rw [h3, h4, str_toList]; simp)]
  have : (frameB s.data.toList).length = (numB s.size).length + s.size + 4 := by unfold frameB; rw [List.length_append, hl2, crc4]
  rw [this, Nat.zero_add]

theorem unfr_only {s x : ByteArray} {a : Nat} (h : unfr s 0 = (x, a, 0)) : a ≤ s.size ∧ s.data.toList.take a = frameB x.data.toList := by
  obtain ⟨⟨y, a1, e1⟩, h1⟩ : ∃ q, rdText (s.extract 0 s.size) 0 0 = q := ⟨_, rfl⟩
  obtain ⟨⟨q, a2, e2⟩, h2⟩ : ∃ q, rdBytes (s.extract 0 s.size) a1 e1 4 = q := ⟨_, rfl⟩
  by_cases he : e2 = 0
  · subst he
    cases hq : (q.toList == (str (fourB (crcN (s.extract 0 (0 + a1)).data.toList))).toList) with
    | false => rw [unfr_no h1 h2 hq] at h; simp at h
    | true =>
      rw [unfr_ok h1 h2 hq] at h
      simp only [Prod.mk.injEq, and_true, Nat.zero_add] at h
      obtain ⟨rfl, rfl⟩ := h
      rw [ext_full] at h1 h2
      have hle := rdText_le (Nat.zero_le _) h1
      obtain ⟨rfl, h5, rfl, rfl⟩ := rdBytes_ok hle h2
      refine ⟨h5, ?_⟩
      obtain ⟨⟨n, b, f⟩, hn⟩ : ∃ q, rdNum s 0 0 = q := ⟨_, rfl⟩
      rcases rd_via (Nat.zero_le _) hn with ⟨hf, _, _, hw⟩ | ⟨_, _, hlt, k, _, hk, hw⟩
      · have := (hw ByteArray ByteArray.empty _).symm.trans h1
        simp only [Prod.mk.injEq] at this
        exact absurd this.2.2 hf
      · have ht := (hw ByteArray ByteArray.empty _).symm.trans h1
        simp only [Nat.zero_add] at ht hk
        by_cases hmore : s.size - k < n
        · rw [if_pos hmore] at ht; simp at ht
        · rw [if_neg hmore] at ht
          simp only [Prod.mk.injEq, and_true] at ht
          obtain ⟨rfl, rfl⟩ := ht
          have hp : pnum s.data.toList = (n, k, 0) := by
            rcases three s 0 (Nat.zero_le _) with ⟨n', k', hp, _⟩ | ⟨n', k', x', hp, hx⟩
            · have e1 := (rd_ok (z := (0 : Nat)) (f := fun n k => (n, k, (0 : Int))) hp).symm.trans (hw Nat 0 (fun n k => (n, k, 0)))
              simp only [Prod.mk.injEq, and_true] at e1
              rw [List.drop_zero] at hp
              rw [hp, e1.1, e1.2]
            · have e1 := (rd_bad (z := (0 : Nat)) (f := fun n k => (n, k, (0 : Int))) hp hx).symm.trans (hw Nat 0 (fun n k => (n, k, 0)))
              simp only [Prod.mk.injEq] at e1
              omega
          have htk := pnum_only hp
          have hxl : (s.extract k (k + n)).data.toList = (s.data.toList.drop k).take n := by rw [ext_list, show k + n - k = n by omega]
          have hln : ((s.data.toList.drop k).take n).length = n := by simp; omega
          have htext : s.data.toList.take (k + n) = textB (s.extract k (k + n)).data.toList := by
            unfold textB
            rw [hxl, hln, ← htk, List.take_add]
          have hqe : (s.extract (k + n) (k + n + 4)).toList = fourB (crcN (s.extract 0 (0 + (k + n))).data.toList) := by
            have := eq_of_beq hq
            rw [this, str_toList]
          have h0 : (s.extract 0 (0 + (k + n))).data.toList = textB (s.extract k (k + n)).data.toList := by
            rw [ext_list, List.drop_zero, Nat.zero_add, Nat.sub_zero, htext]
          rw [h0, ba_toList, ext_list, show k + n + 4 - (k + n) = 4 by omega] at hqe
          rw [List.take_add, htext, hqe]
          rfl
  · rw [unfr_err h1 h2 he] at h
    simp only [Prod.mk.injEq] at h
    exact absurd h.2.2 he
end Go.Proofs.Ytdapapnkmicklaa
