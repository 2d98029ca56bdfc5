import Derived.Test.YtjemnkijoiehmaaGreatDoorFrameWM
import Derived.Test.YtjemnkijoiehmaaGreatDoorRefReader2M
/- What Unframe returns, in the program and in the document's words: the text of a frame at a place, the place behind it, the error. -/
namespace Go.Proofs.YtjemnkijoiehmaaGreatDoor
open Go.RowKit
/-- The text of the frame at a place, the place behind it, the error. -/
def unfr (s : ByteArray) (a : Nat) : ByteArray × Nat × Int :=
  if (rdBytes (s.extract a s.size) (rdText (s.extract a s.size) 0 0).2.1 (rdText (s.extract a s.size) 0 0).2.2 4).2.2 = 0 then
    (if ((rdBytes (s.extract a s.size) (rdText (s.extract a s.size) 0 0).2.1 (rdText (s.extract a s.size) 0 0).2.2 4).1.toList == (str (fourB (crcN (s.extract a (a + (rdText (s.extract a s.size) 0 0).2.1)).data.toList))).toList) = true
      then ((rdText (s.extract a s.size) 0 0).1, a + (rdBytes (s.extract a s.size) (rdText (s.extract a s.size) 0 0).2.1 (rdText (s.extract a s.size) 0 0).2.2 4).2.1, 0) else (ByteArray.empty, 0, 6))
  else (ByteArray.empty, 0, (rdBytes (s.extract a s.size) (rdText (s.extract a s.size) 0 0).2.1 (rdText (s.extract a s.size) 0 0).2.2 4).2.2)
theorem unfr_err {s : ByteArray} {a a1 a2 : Nat} {x q : ByteArray} {e1 e2 : Int} (h1 : rdText (s.extract a s.size) 0 0 = (x, a1, e1)) (h2 : rdBytes (s.extract a s.size) a1 e1 4 = (q, a2, e2)) (h : e2 ≠ 0) : unfr s a = (ByteArray.empty, 0, e2) := by
  unfold unfr; simp only [h1, h2, if_neg h]
theorem unfr_no {s : ByteArray} {a a1 a2 : Nat} {x q : ByteArray} {e1 : Int} (h1 : rdText (s.extract a s.size) 0 0 = (x, a1, e1)) (h2 : rdBytes (s.extract a s.size) a1 e1 4 = (q, a2, 0)) (h : (q.toList == (str (fourB (crcN (s.extract a (a + a1)).data.toList))).toList) = false) : unfr s a = (ByteArray.empty, 0, 6) := by
  unfold unfr; simp only [h1, h2, h]; rfl
theorem unfr_ok {s : ByteArray} {a a1 a2 : Nat} {x q : ByteArray} {e1 : Int} (h1 : rdText (s.extract a s.size) 0 0 = (x, a1, e1)) (h2 : rdBytes (s.extract a s.size) a1 e1 4 = (q, a2, 0)) (h : (q.toList == (str (fourB (crcN (s.extract a (a + a1)).data.toList))).toList) = true) : unfr s a = (x, a + a2, 0) := by
  unfold unfr; simp only [h1, h2, h]; rfl
theorem rdText_le {s x : ByteArray} {a a' : Nat} {e e' : Int} (ha : a ≤ s.size) (h : rdText s a e = (x, a', e')) : a' ≤ s.size := by
  obtain ⟨⟨n, b, f⟩, hq⟩ : ∃ q, rdNum s a e = q := ⟨_, rfl⟩
  rcases rd_via ha hq with ⟨_, _, _, hw⟩ | ⟨_, _, _, k, _, hk, hw⟩
  · have := (hw ByteArray ByteArray.empty _).symm.trans h
    simp only [Prod.mk.injEq] at this
    omega
  · have := (hw ByteArray ByteArray.empty _).symm.trans h
    split at this <;> simp only [Prod.mk.injEq] at this <;> omega
theorem rdBytes_ok {s q : ByteArray} {a a' : Nat} {e : Int} (ha : a ≤ s.size) (h : rdBytes s a e 4 = (q, a', 0)) : e = 0 ∧ a + 4 ≤ s.size ∧ q = s.extract a (a + 4) ∧ a' = a + 4 := by
  unfold rdBytes at h
  split at h
  · rw [if_neg (by decide)] at h
    split at h
    · simp at h
    · simp only [Prod.mk.injEq] at h
      refine ⟨by assumption, by omega, h.1.symm, h.2.1.symm⟩
  · simp only [Prod.mk.injEq] at h
    exact absurd h.2.2 (by assumption)
theorem rtext_eq {w : World} {p : Nat} {s x : ByteArray} {a a' : Nat} {e e' : Int} (h : Rd w p s a e) (hs : s.size ≤ maxLen) (ha : a ≤ s.size) (hq : rdText s a e = (x, a', e')) :
    Calls Tryz.prog 47 #[.pointer (some ⟨p, 0, none⟩)] w fun r w' => r = .returned (.string x) ∧ Rd w' p s a' e' ∧ Fr w w' (fun k => k = p) := by
  have := rtext_any h hs ha; rw [hq] at this; exact this
theorem rbytes_eq {w : World} {p : Nat} {s x : ByteArray} {a a' : Nat} {e e' n : Int} (h : Rd w p s a e) (hs : s.size ≤ maxLen) (ha : a ≤ s.size) (hq : rdBytes s a e n = (x, a', e')) :
    Calls Tryz.prog 49 #[.pointer (some ⟨p, 0, none⟩), .int .i64 n] w fun r w' => r = .returned (.string x) ∧ Rd w' p s a' e' ∧ Fr w w' (fun k => k = p) := by
  have := rbytes_any (n := n) h hs ha; rw [hq] at this; exact this
theorem sumbytes_ext (s : ByteArray) (a b : Nat) (w : World) (hs : s.size ≤ maxLen) :
    Calls Tryz.prog 51 #[.string (s.extract a b)] w fun e w' => e = .returned (.string (str (fourB (crcN (s.extract a b).data.toList)))) ∧ Below w.heap.size w w' :=
  sumbytes_any _ w (by rw [ByteArray.size_extract]; omega)

theorem rd_below {w w1 w2 : World} (h : Below w.heap.size w w1) (f : Fr w1 w2 (fun k => k = w.heap.size)) : Below w.heap.size w w2 := h.trans (f.below h.size (fun k hk => by omega))
set_option maxRecDepth 100000 in
set_option maxHeartbeats 400000 in
theorem unframe_any (s : ByteArray) (a : Nat) (w : World) (ha : a ≤ s.size) (hs : s.size ≤ maxLen) :
    Calls Tryz.prog 29 #[.string s, .int .i64 a] w fun e w' => e = .returned (.tuple #[.string (unfr s a).1, .int .i64 (unfr s a).2.1, .int .i64 (unfr s a).2.2]) ∧ Below w.heap.size w w' := by
  have hs' := hs
  unfold maxLen at hs'
  obtain ⟨⟨x, a1, e1⟩, h1⟩ : ∃ q, rdText (s.extract a s.size) 0 0 = q := ⟨_, rfl⟩
  obtain ⟨⟨q, a2, e2⟩, h2⟩ : ∃ q, rdBytes (s.extract a s.size) a1 e1 4 = q := ⟨_, rfl⟩
  have hes : (s.extract a s.size).size = s.size - a := by rw [ByteArray.size_extract]; omega
  have hle1 := rdText_le (Nat.zero_le _) h1
  have H1 : Hid (rdText (s.extract a s.size) 0 0 = (x, a1, e1)) := h1
  have H2 : Hid (rdBytes (s.extract a s.size) a1 e1 4 = (q, a2, e2)) := h2
  have HS : Hid ((s.extract a s.size).size ≤ maxLen) := ext_size s a hs
  have HL : Hid (a1 ≤ (s.extract a s.size).size) := hle1
  have ha1 : a + a1 ≤ s.size := by omega
  clear h1 h2 hle1 hes
  by_cases he : e2 = 0
  · subst he
    have h4 := (rdBytes_ok HL.out H2.out).2.2.2
    have H4 : Hid (a2 = a1 + 4) := h4
    have h5 : a + a1 + 4 ≤ s.size := by
      have := (rdBytes_ok HL.out H2.out).2.1
      have hes : (s.extract a s.size).size = s.size - a := by rw [ByteArray.size_extract]; omega
      omega
    clear h4
    obtain ⟨F, hF⟩ : ∃ F, str (fourB (crcN (s.extract a (a + a1)).data.toList)) = F := ⟨_, rfl⟩
    have HF : Hid (str (fourB (crcN (s.extract a (a + a1)).data.toList)) = F) := hF
    have hB := fun w => sumbytes_ext s a (a + a1) w hs
    rw [hF] at hB
    clear hF
    cases hq : (q.toList == F.toList) with
    | false =>
      have HR : Hid (unfr s a = (ByteArray.empty, 0, 6)) := unfr_no H1.out H2.out (by rw [HF.out]; exact hq)
      go_enter Tryz.func29, Tryz.ntmps29
      go_wp2_with (first
        | (go_at_call 46; refine (newreader_any _ _).mono ?_; rintro e w1 ⟨rfl, hr1, hb1⟩)
        | (go_at_call 47; refine (rtext_eq (a := 0) hr1 HS.out (Nat.zero_le _) H1.out).mono ?_; rintro e w2 ⟨rfl, hr2, hf2⟩)
        | (go_at_call 48; refine (at_any hr2).mono ?_; rintro e w3 ⟨rfl, rfl⟩)
        | (go_at_call 49; refine (rbytes_eq hr2 HS.out HL.out H2.out).mono ?_; rintro e w4 ⟨rfl, hr4, hf4⟩)
        | (go_at_call 50; refine (err_any hr4).mono ?_; rintro e w5 ⟨rfl, rfl⟩)
        | (go_at_call 51; refine (hB _).mono ?_; rintro e w6 ⟨rfl, hb6⟩))
      go_ret3
      rw [HR.out]
      have hb := rd_below (rd_below hb1 hf2) hf4
      exact ⟨rfl, hb.trans (hb6.mono hb.size)⟩
    | true =>
      have HR : Hid (unfr s a = (x, a + a2, 0)) := unfr_ok H1.out H2.out (by rw [HF.out]; exact hq)
      go_enter Tryz.func29, Tryz.ntmps29
      go_wp2_with (first
        | (go_at_call 46; refine (newreader_any _ _).mono ?_; rintro e w1 ⟨rfl, hr1, hb1⟩)
        | (go_at_call 47; refine (rtext_eq (a := 0) hr1 HS.out (Nat.zero_le _) H1.out).mono ?_; rintro e w2 ⟨rfl, hr2, hf2⟩)
        | (go_at_call 48; refine (at_any hr2).mono ?_; rintro e w3 ⟨rfl, rfl⟩)
        | (go_at_call 49; refine (rbytes_eq hr2 HS.out HL.out H2.out).mono ?_; rintro e w4 ⟨rfl, hr4, hf4⟩)
        | (go_at_call 50; refine (err_any hr4).mono ?_; rintro e w5 ⟨rfl, rfl⟩)
        | (go_at_call 51; refine (hB _).mono ?_; rintro e w6 ⟨rfl, hb6⟩))
      go_ret3
      rw [HR.out, H4.out]
      have hb := rd_below (rd_below hb1 hf2) hf4
      exact ⟨rfl, hb.trans (hb6.mono hb.size)⟩
  · have HR : Hid (unfr s a = (ByteArray.empty, 0, e2)) := unfr_err H1.out H2.out he
    have he0 : (e2 == 0) = false := by simp; omega
    go_enter Tryz.func29, Tryz.ntmps29
    go_wp2_with (first
      | (go_at_call 46; refine (newreader_any _ _).mono ?_; rintro e w1 ⟨rfl, hr1, hb1⟩)
      | (go_at_call 47; refine (rtext_eq (a := 0) hr1 HS.out (Nat.zero_le _) H1.out).mono ?_; rintro e w2 ⟨rfl, hr2, hf2⟩)
      | (go_at_call 48; refine (at_any hr2).mono ?_; rintro e w3 ⟨rfl, rfl⟩)
      | (go_at_call 49; refine (rbytes_eq hr2 HS.out HL.out H2.out).mono ?_; rintro e w4 ⟨rfl, hr4, hf4⟩)
      | (go_at_call 50; refine (err_any hr4).mono ?_; rintro e w5 ⟨rfl, rfl⟩))
    go_ret3
    rw [HR.out]
    exact ⟨rfl, rd_below (rd_below hb1 hf2) hf4⟩
end Go.Proofs.YtjemnkijoiehmaaGreatDoor
