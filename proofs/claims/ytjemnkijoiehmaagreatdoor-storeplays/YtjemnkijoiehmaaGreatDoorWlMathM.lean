import Derived.Test.YtjemnkijoiehmaaGreatDoorFrameMathM
/- Plain mathematics of files of frames: what is read from the front on, and where that ends. -/
namespace Go.Proofs.YtjemnkijoiehmaaGreatDoor
/-- The first frame of bytes, and how long it is. -/
def unf1 (l : List UInt8) : Option (List UInt8 × Nat) := if (unfr (str l) 0).2.2 = 0 then some ((unfr (str l) 0).1.data.toList, (unfr (str l) 0).2.1) else none
theorem frameB_len (x : List UInt8) : (frameB x).length = (numB x.length).length + x.length + 4 := by
  unfold frameB textB
  simp [crc4]
  omega
theorem frameB_le (x : List UInt8) (h : x.length < 18446744073709551616) : (frameB x).length ≤ x.length + 14 := by
  have := numB_len10 h
  rw [frameB_len]
  omega
theorem unf1_frame (x m : List UInt8) (h : x.length < 18446744073709551616) : unf1 (frameB x ++ m) = some (x, (frameB x).length) := by
  have e := unfr_frame (str x) m h
  rw [str_list] at e
  unfold unf1
  rw [e, if_pos rfl, str_list]
/-- Frames at a place are those of what lies behind it. -/
theorem unfr_shift (l : List UInt8) (a : Nat) : (unf1 (l.drop a) = none → ¬ (unfr (str l) a).2.2 = 0) ∧ ∀ x n, unf1 (l.drop a) = some (x, n) → unfr (str l) a = (str x, a + n, 0) := by
  have e0 : (str l).extract a (str l).size = str (l.drop a) := ba_eq (by rw [ext_list, str_list, str_list, str_size, List.take_of_length_le (by simp)])
  have e1 : (str (l.drop a)).extract 0 (str (l.drop a)).size = str (l.drop a) := ext_full _
  have e2 : ∀ k, (str l).extract a (a + k) = (str (l.drop a)).extract 0 (0 + k) := fun k => ba_eq (by rw [ext_list, ext_list, str_list, str_list, Nat.add_sub_cancel_left, Nat.zero_add, Nat.sub_zero, List.drop_zero])
  obtain ⟨⟨y, a1, z1⟩, h1⟩ : ∃ q, rdText (str (l.drop a)) 0 0 = q := ⟨_, rfl⟩
  obtain ⟨⟨q, a2, z2⟩, h2⟩ : ∃ q, rdBytes (str (l.drop a)) a1 z1 4 = q := ⟨_, rfl⟩
  have g1 : rdText ((str l).extract a (str l).size) 0 0 = (y, a1, z1) := by rw [e0]; exact h1
  have g2 : rdBytes ((str l).extract a (str l).size) a1 z1 4 = (q, a2, z2) := by rw [e0]; exact h2
  have k1 : rdText ((str (l.drop a)).extract 0 (str (l.drop a)).size) 0 0 = (y, a1, z1) := by rw [e1]; exact h1
  have k2 : rdBytes ((str (l.drop a)).extract 0 (str (l.drop a)).size) a1 z1 4 = (q, a2, z2) := by rw [e1]; exact h2
  by_cases hz : z2 = 0
  · subst hz
    cases hq : (q.toList == (str (fourB (crcN ((str l).extract a (a + a1)).data.toList))).toList) with
    | false =>
      have u1 := unfr_no g1 g2 hq
      have u2 := unfr_no k1 k2 (by rw [← e2]; exact hq)
      refine ⟨fun _ => by rw [u1]; simp, fun x n h => ?_⟩
      unfold unf1 at h
      rw [u2] at h
      simp at h
    | true =>
      have u1 := unfr_ok g1 g2 hq
      have u2 := unfr_ok k1 k2 (by rw [← e2]; exact hq)
      refine ⟨fun h => ?_, fun x n h => ?_⟩
      · unfold unf1 at h
        rw [u2] at h
        simp at h
      · unfold unf1 at h
        rw [u2] at h
        simp only [if_true, Option.some.injEq, Prod.mk.injEq] at h
        obtain ⟨rfl, rfl⟩ := h
        rw [u1, str_data, Nat.zero_add]
  · have u1 := unfr_err g1 g2 hz
    have u2 := unfr_err k1 k2 hz
    refine ⟨fun _ => by rw [u1]; exact hz, fun x n h => ?_⟩
    unfold unf1 at h
    rw [u2] at h
    simp only [hz, if_false] at h
    cases h
end Go.Proofs.YtjemnkijoiehmaaGreatDoor
