/- What Unframe returns, in the program and in the document's words: the text of a frame at a place, the place behind it, the error. -/
import Derived.Test.YtdapapnkmicklaaFrameW
import Derived.Test.YtdapapnkmicklaaRefReader2
namespace Go.Proofs.Ytdapapnkmicklaa
open Go.RowKit
/-- The text of the frame at a place, the place behind it, the error. -/
def unfr (s : ByteArray) (a : Nat) : ByteArray × Nat × Int :=
  if (rdBytes (s.extract a s.size) (rdText (s.extract a s.size) 0 0).2.1 (rdText (s.extract a s.size) 0 0).2.2 4).2.2 = 0 then
    (if ((rdBytes (s.extract a s.size) (rdText (s.extract a s.size) 0 0).2.1 (rdText (s.extract a s.size) 0 0).2.2 4).1.toList == (str (fourB (crcN (s.extract a (a + (rdText (s.extract a s.size) 0 0).2.1)).data.toList))).toList) = true
      then ((rdText (s.extract a s.size) 0 0).1, a + (rdBytes (s.extract a s.size) (rdText (s.extract a s.size) 0 0).2.1 (rdText (s.extract a s.size) 0 0).2.2 4).2.1, 0) else (ByteArray.empty, 0, 6))
  else (ByteArray.empty, 0, (rdBytes (s.extract a s.size) (rdText (s.extract a s.size) 0 0).2.1 (rdText (s.extract a s.size) 0 0).2.2 4).2.2)
theorem unfr_err {s : ByteArray} {a a1 a2 : Nat} {x q : ByteArray} {e1 e2 : Int} (h1 : rdText (s.extract a s.size) 0 0 = (x, a1, e1)) (h2 : rdBytes (s.extract a s.size) a1 e1 4 = (q, a2, e2)) (h : e2 ≠ 0) : unfr s a = (ByteArray.empty, 0, e2) := by
  unfold unfr; simp only [h1, h2, if_neg h]
theorem unfr_no {s : ByteArray} {a a1 a2 : Nat} {x q : ByteArray} {e1 : Int} (h1 : rdText (s.extract a s.size) 0 0 = (x, a1, e1)) (h2 : rdBytes (s.extract a s.size) a1 e1 4 = (q, a2, 0)) (h : (q.toList == (str (fourB (crcN (s.extract a (a + a1)).data.toList))).toList) = false) : unfr s a = (ByteArray.empty, 0, 6) := by
  unfold unfr; simp only [h1, h2, h]; rfl
theorem unfr_ok {s : ByteArray} {a a1 a2 : Nat} {x q : ByteArray} {e1 : Int} (h1 : rdText (s.extract a s.size) 0 0 = (x, a1, e1)) (h2 : rdBytes (s.extract a s.size) a1 e1 4 = (q, a2, 0)) (h : (q.toList == (str (fourB (crcN (s.extract a (a + a1)).data.toList))).toList) = true) : unfr s a = (x, a + a2, 0) := by
  unfold unfr; simp only [h1, h2, h]; rfl
theorem rdText_le {s x : ByteArray} {a a' : Nat} {e e' : Int} (ha : a ≤ s.size) (h : rdText s a e = (x, a', e')) : a' ≤ s.size := by
  obtain ⟨⟨n, b, f⟩, hq⟩ : ∃ q, rdNum s a e = q := ⟨_, rfl⟩
  rcases rd_via ha hq with ⟨_, _, _, hw⟩ | ⟨_, _, _, k, _, hk, hw⟩
  · have := (hw ByteArray ByteArray.empty _).symm.trans h
    simp only [Prod.mk.injEq] at this
    omega
  · have := (hw ByteArray ByteArray.empty _).symm.trans h
    split at this <;> simp only [Prod.mk.injEq] at this <;> omega
theorem rdBytes_ok {s q : ByteArray} {a a' : Nat} {e : Int} (ha : a ≤ s.size) (h : rdBytes s a e 4 = (q, a', 0)) : e = 0 ∧ a + 4 ≤ s.size ∧ q = s.extract a (a + 4) ∧ a' = a + 4 := by
  unfold rdBytes at h
  split at h
  · rw [if_neg (by decide)] at h
    split at h
    · simp at h
    · simp only [Prod.mk.injEq] at h
      refine ⟨by assumption, by omega, h.1.symm, h.2.1.symm⟩
  · simp only [Prod.mk.injEq] at h
    exact absurd h.2.2 (by assumption)
theorem rdBytes_le {s q : ByteArray} {a a' : Nat} {e e' : Int} (ha : a ≤ s.size) (h : rdBytes s a e 4 = (q, a', e')) : a' ≤ s.size := by
  unfold rdBytes at h
  split at h
  · rw [if_neg (by decide)] at h
    split at h <;> simp only [Prod.mk.injEq] at h <;> omega
  · simp only [Prod.mk.injEq] at h; omega

theorem rtext_eq {w : World} {p : Nat} {s x : ByteArray} {a a' : Nat} {e e' : Int} (h : Rd w p s a e) (hs : s.size ≤ maxLen) (ha : a ≤ s.size) (hq : rdText s a e = (x, a', e')) :
    Calls Try.prog 91 #[.pointer (some ⟨p, 0, none⟩)] w fun r w' => r = .returned (.string x) ∧ Rd w' p s a' e' ∧ Fr w w' (fun k => k = p) := by
  have := rtext_any h hs ha; rw [hq] at this; exact this
theorem rbytes_eq {w : World} {p : Nat} {s x : ByteArray} {a a' : Nat} {e e' n : Int} (h : Rd w p s a e) (hs : s.size ≤ maxLen) (ha : a ≤ s.size) (hq : rdBytes s a e n = (x, a', e')) :
    Calls Try.prog 93 #[.pointer (some ⟨p, 0, none⟩), .int .i64 n] w fun r w' => r = .returned (.string x) ∧ Rd w' p s a' e' ∧ Fr w w' (fun k => k = p) := by
  have := rbytes_any (n := n) h hs ha; rw [hq] at this; exact this
theorem sumbytes_ext (s : ByteArray) (a b : Nat) (w : World) (hs : s.size ≤ maxLen) :
    Calls Try.prog 95 #[.string (s.extract a b)] w fun e w' => e = .returned (.string (str (fourB (crcN (s.extract a b).data.toList)))) ∧ Below w.heap.size w w' :=
  sumbytes_any _ w (by rw [ByteArray.size_extract]; omega)

theorem rd_below {w w1 w2 : World} (h : Below w.heap.size w w1) (f : Fr w1 w2 (fun k => k = w.heap.size)) : Below w.heap.size w w2 := h.trans (f.below h.size (fun k hk => by omega))
theorem unframe_arg (s : ByteArray) (a : Int) (w : World) (h : a < 0 ∨ (s.size : Int) < a) (hs : s.size ≤ maxLen) :
    Calls Try.prog 70 #[.string s, .int .i64 a] w fun e w' => e = .returned (.tuple #[.string ByteArray.empty, .int .i64 0, .int .i64 1]) ∧ w' = w := by
  unfold maxLen at hs
  rcases h with h | h
  · go_enter Try.func70, Try.ntmps70
    go_wp2
    go_ret3
    exact ⟨rfl, rfl⟩
  · have h' : ¬ a < 0 := by omega
    go_enter Try.func70, Try.ntmps70
    go_wp2
    go_ret3
    exact ⟨rfl, rfl⟩
set_option maxRecDepth 100000 in
set_option maxHeartbeats 400000 in
theorem unframe_any (s : ByteArray) (a : Nat) (w : World) (ha : a ≤ s.size) (hs : s.size ≤ maxLen) :
    Calls Try.prog 70 #[.string s, .int .i64 a] w fun e w' => e = .returned (.tuple #[.string (unfr s a).1, .int .i64 (unfr s a).2.1, .int .i64 (unfr s a).2.2]) ∧ Below w.heap.size w w' := by
  have hs' := hs
  unfold maxLen at hs'
  obtain ⟨⟨x, a1, e1⟩, h1⟩ : ∃ q, rdText (s.extract a s.size) 0 0 = q := ⟨_, rfl⟩
  obtain ⟨⟨q, a2, e2⟩, h2⟩ : ∃ q, rdBytes (s.extract a s.size) a1 e1 4 = q := ⟨_, rfl⟩
  have hes : (s.extract a s.size).size = s.size - a := by rw [ByteArray.size_extract]; omega
  have hle1 := rdText_le (Nat.zero_le _) h1
  have H1 : Hid (rdText (s.extract a s.size) 0 0 = (x, a1, e1)) := h1
  have H2 : Hid (rdBytes (s.extract a s.size) a1 e1 4 = (q, a2, e2)) := h2
  have HS : Hid ((s.extract a s.size).size ≤ maxLen) := ext_size s a hs
  have HL : Hid (a1 ≤ (s.extract a s.size).size) := hle1
  have ha1 : a + a1 ≤ s.size := by omega
  clear h1 h2 hle1 hes
  by_cases he : e2 = 0
  · subst he
    have h4 := (rdBytes_ok HL.out H2.out).2.2.2
    have H4 : Hid (a2 = a1 + 4) := h4
    have h5 : a + a1 + 4 ≤ s.size := by
      have := (rdBytes_ok HL.out H2.out).2.1
      have hes : (s.extract a s.size).size = s.size - a := by rw [ByteArray.size_extract]; omega
      omega
    clear h4
    obtain ⟨F, hF⟩ : ∃ F, str (fourB (crcN (s.extract a (a + a1)).data.toList)) = F := ⟨_, rfl⟩
    have HF : Hid (str (fourB (crcN (s.extract a (a + a1)).data.toList)) = F) := hF
    have hB := fun w => sumbytes_ext s a (a + a1) w hs
    rw [hF] at hB
    clear hF
    cases hq : (q.toList == F.toList) with
    | false =>
      have HR : Hid (unfr s a = (ByteArray.empty, 0, 6)) := unfr_no H1.out H2.out (by rw [HF.out]; exact hq)
      go_enter Try.func70, Try.ntmps70
      go_wp2_with (first
        | (go_at_call 90; refine (newreader_any _ _).mono ?_; rintro e w1 ⟨rfl, hr1, hb1⟩)
        | (go_at_call 91; refine (rtext_eq (a := 0) hr1 HS.out (Nat.zero_le _) H1.out).mono ?_; rintro e w2 ⟨rfl, hr2, hf2⟩)
        | (go_at_call 92; refine (at_any hr2).mono ?_; rintro e w3 ⟨rfl, rfl⟩)
        | (go_at_call 93; refine (rbytes_eq hr2 HS.out HL.out H2.out).mono ?_; rintro e w4 ⟨rfl, hr4, hf4⟩)
        | (go_at_call 94; refine (err_any hr4).mono ?_; rintro e w5 ⟨rfl, rfl⟩)
        | (go_at_call 95; refine (hB _).mono ?_; rintro e w6 ⟨rfl, hb6⟩))
      go_ret3
      rw [HR.out]
      have hb := rd_below (rd_below hb1 hf2) hf4
      exact ⟨rfl, hb.trans (hb6.mono hb.size)⟩
    | true =>
      have HR : Hid (unfr s a = (x, a + a2, 0)) := unfr_ok H1.out H2.out (by rw [HF.out]; exact hq)
      go_enter Try.func70, Try.ntmps70
      go_wp2_with (first
        | (go_at_call 90; refine (newreader_any _ _).mono ?_; rintro e w1 ⟨rfl, hr1, hb1⟩)
        | (go_at_call 91; refine (rtext_eq (a := 0) hr1 HS.out (Nat.zero_le _) H1.out).mono ?_; rintro e w2 ⟨rfl, hr2, hf2⟩)
        | (go_at_call 92; refine (at_any hr2).mono ?_; rintro e w3 ⟨rfl, rfl⟩)
        | (go_at_call 93; refine (rbytes_eq hr2 HS.out HL.out H2.out).mono ?_; rintro e w4 ⟨rfl, hr4, hf4⟩)
        | (go_at_call 94; refine (err_any hr4).mono ?_; rintro e w5 ⟨rfl, rfl⟩)
        | (go_at_call 95; refine (hB _).mono ?_; rintro e w6 ⟨rfl, hb6⟩))
      go_ret3
      rw [HR.out, H4.out]
      have hb := rd_below (rd_below hb1 hf2) hf4
      exact ⟨rfl, hb.trans (hb6.mono hb.size)⟩
  · have HR : Hid (unfr s a = (ByteArray.empty, 0, e2)) := unfr_err H1.out H2.out he
    have he0 : (e2 == 0) = false := by simp; omega
    go_enter Try.func70, Try.ntmps70
    go_wp2_with (first
      | (go_at_call 90; refine (newreader_any _ _).mono ?_; rintro e w1 ⟨rfl, hr1, hb1⟩)
      | (go_at_call 91; refine (rtext_eq (a := 0) hr1 HS.out (Nat.zero_le _) H1.out).mono ?_; rintro e w2 ⟨rfl, hr2, hf2⟩)
      | (go_at_call 92; refine (at_any hr2).mono ?_; rintro e w3 ⟨rfl, rfl⟩)
      | (go_at_call 93; refine (rbytes_eq hr2 HS.out HL.out H2.out).mono ?_; rintro e w4 ⟨rfl, hr4, hf4⟩)
      | (go_at_call 94; refine (err_any hr4).mono ?_; rintro e w5 ⟨rfl, rfl⟩))
    go_ret3
    rw [HR.out]
    exact ⟨rfl, rd_below (rd_below hb1 hf2) hf4⟩
theorem ftext_eq {s x : ByteArray} {a a' : Nat} {e e' : Int} (w : World) (hs : s.size ≤ maxLen) (ha : a ≤ s.size) (hq : rdText s a e = (x, a', e')) :
    Calls Try.prog 59 #[.agg #[.string s, .int .i64 a, .int .i64 e]] w fun r w' => r = .returned (.tuple #[.agg #[.string s, .int .i64 a', .int .i64 e'], .string x]) ∧ Below w.heap.size w w' := by
  have := ftext_any (e := e) w hs ha; rw [hq] at this; exact this
theorem fbytes_eq2 {s x : ByteArray} {a a' : Nat} {e e' n : Int} (w : World) (hs : s.size ≤ maxLen) (ha : a ≤ s.size) (hq : rdBytes s a e n = (x, a', e')) :
    Calls Try.prog 60 #[.agg #[.string s, .int .i64 a, .int .i64 e], .int .i64 n] w fun r w' => r = .returned (.tuple #[.agg #[.string s, .int .i64 a', .int .i64 e'], .string x]) ∧ Below w.heap.size w w' := by
  have := fbytes_any (e := e) (n := n) w hs ha; rw [hq] at this; exact this
theorem res1 {w w2 : World} {u0 u1 u2 : Value} (hb2 : Below (w.alloc (.cells #[u0, u1, u2] 107)).heap.size (w.alloc (.cells #[u0, u1, u2] 107)) w2) :
    w2.cell? ⟨w.heap.size, 0, none⟩ = some u0 ∧ w2.cell? ⟨w.heap.size, 1, none⟩ = some u1 ∧ w2.cell? ⟨w.heap.size, 2, none⟩ = some u2 ∧ w2.frozen? ⟨w.heap.size, 0, none⟩ = false ∧ w2.frozen? ⟨w.heap.size, 1, none⟩ = false ∧ w2.frozen? ⟨w.heap.size, 2, none⟩ = false := by
  have h : w2.heap[w.heap.size]? = some (.cells #[u0, u1, u2] 107 (0, 0)) := (hb2.block w.heap.size (by simp)).trans (heap_alloc_new _ _)
  simp [World.cell?, World.frozen?, h]
theorem ubel0 {w w1 w2 : World} {o : Obj} (hb1 : Below w.heap.size w w1) (hb2 : Below (w1.alloc o).heap.size (w1.alloc o) w2) : Below w.heap.size w w2 :=
  (hb1.alloc hb1.size o).trans (hb2.mono (by have := hb1.size; simp; omega))
theorem ubel {w w1 w2 : World} {o : Obj} (hb1 : Below w.heap.size w w1) (hb2 : Below (w1.alloc o).heap.size (w1.alloc o) w2) (v0 v1 v2 : Value) :
    Below w.heap.size w (((w2.setCell ⟨w1.heap.size, 0, none⟩ v0).setCell ⟨w1.heap.size, 1, none⟩ v1).setCell ⟨w1.heap.size, 2, none⟩ v2) :=
  (((ubel0 hb1 hb2).setCell hb1.size _).setCell hb1.size _).setCell hb1.size _
theorem ucell {w1 w2 w4 : World} {u0 u1 u2 v0 v1 v2 : Value} (hb2 : Below (w1.alloc (.cells #[u0, u1, u2] 107)).heap.size (w1.alloc (.cells #[u0, u1, u2] 107)) w2)
    (hb4 : Below (((w2.setCell ⟨w1.heap.size, 0, none⟩ v0).setCell ⟨w1.heap.size, 1, none⟩ v1).setCell ⟨w1.heap.size, 2, none⟩ v2).heap.size (((w2.setCell ⟨w1.heap.size, 0, none⟩ v0).setCell ⟨w1.heap.size, 1, none⟩ v1).setCell ⟨w1.heap.size, 2, none⟩ v2) w4) :
    w4.cell? ⟨w1.heap.size, 1, none⟩ = some v1 := by
  obtain ⟨q0, q1, q2, _⟩ := res1 hb2
  have hz := hb2.size
  rw [hb4.cell (by simp only [size_set]; simp at hz; omega)]
  simp [go_sem, q1]
theorem refunframe_arg (s : ByteArray) (a : Int) (w : World) (h : a < 0 ∨ (s.size : Int) < a) (hs : s.size ≤ maxLen) :
    Calls Try.prog 29 #[.string s, .int .i64 a] w fun e w' => e = .returned (.tuple #[.string ByteArray.empty, .int .i64 0, .int .i64 1]) ∧ w' = w := by
  unfold maxLen at hs
  rcases h with h | h
  · go_enter Try.func29, Try.ntmps29
    go_wp2
    go_ret3
    exact ⟨rfl, rfl⟩
  · have h' : ¬ a < 0 := by omega
    go_enter Try.func29, Try.ntmps29
    go_wp2
    go_ret3
    exact ⟨rfl, rfl⟩
set_option maxRecDepth 100000 in
set_option maxHeartbeats 400000 in
theorem refunframe_any (s : ByteArray) (a : Nat) (w : World) (ha : a ≤ s.size) (hs : s.size ≤ maxLen) :
    Calls Try.prog 29 #[.string s, .int .i64 a] w fun e w' => e = .returned (.tuple #[.string (unfr s a).1, .int .i64 (unfr s a).2.1, .int .i64 (unfr s a).2.2]) ∧ Below w.heap.size w w' := by
  have hs' := hs
  unfold maxLen at hs'
  obtain ⟨⟨x, a1, e1⟩, h1⟩ : ∃ q, rdText (s.extract a s.size) 0 0 = q := ⟨_, rfl⟩
  obtain ⟨⟨q, a2, e2⟩, h2⟩ : ∃ q, rdBytes (s.extract a s.size) a1 e1 4 = q := ⟨_, rfl⟩
  have hes : (s.extract a s.size).size = s.size - a := by rw [ByteArray.size_extract]; omega
  have hle1 := rdText_le (Nat.zero_le _) h1
  have hle2 := rdBytes_le hle1 h2
  have H1 : Hid (rdText (s.extract a s.size) 0 0 = (x, a1, e1)) := h1
  have H2 : Hid (rdBytes (s.extract a s.size) a1 e1 4 = (q, a2, e2)) := h2
  have HS : Hid ((s.extract a s.size).size ≤ maxLen) := ext_size s a hs
  have HL : Hid (a1 ≤ (s.extract a s.size).size) := hle1
  have ha1 : a + a1 ≤ s.size := by omega
  have ha2 : a + a2 ≤ s.size := by omega
  clear h1 h2 hle1 hes hle2
  by_cases he : e2 = 0
  · subst he
    obtain ⟨c, hc⟩ : ∃ c, crcN (s.extract a (a + a1)).data.toList = c := ⟨_, rfl⟩
    have hB := fun w => refsum_any (s.extract a (a + a1)) w (by rw [ByteArray.size_extract]; omega)
    have hcl := crcN_lt (s.extract a (a + a1)).data.toList
    rw [hc] at hB hcl
    obtain ⟨F, hF⟩ : ∃ F, str (fourB c) = F := ⟨_, rfl⟩
    have hF4 := fun w => four_any c w hcl
    rw [hF] at hF4
    have HF : Hid (str (fourB (crcN (s.extract a (a + a1)).data.toList)) = F) := by show _ = _; rw [hc, hF]
    clear hF hc hcl
    cases hq : (q.toList == F.toList) with
    | false =>
      have HR : Hid (unfr s a = (ByteArray.empty, 0, 6)) := unfr_no H1.out H2.out (by rw [HF.out]; exact hq)
      go_enter Try.func29, Try.ntmps29
      go_wp2_with (first
        | (go_at_call 59; refine (ftext_eq (a := 0) _ HS.out (Nat.zero_le _) H1.out).mono ?_; rintro e w1 ⟨rfl, hb1⟩)
        | (go_at_call 60; refine (fbytes_eq2 _ HS.out HL.out H2.out).mono ?_; rintro e w2 ⟨rfl, hb2⟩; obtain ⟨q0, q1, q2, p0, p1, p2⟩ := res1 hb2)
        | (go_at_call 56; refine (hB _).mono ?_; rintro e w3 ⟨rfl, rfl⟩)
        | (go_at_call 55; refine (hF4 _).mono ?_; rintro e w4 ⟨rfl, hb4⟩))
      go_ret3
      rw [HR.out]
      exact ⟨rfl, ((ubel hb1 hb2 _ _ _).trans (hb4.mono (by simp only [size_set]; exact (ubel0 hb1 hb2).size)))⟩
    | true =>
      have HR : Hid (unfr s a = (x, a + a2, 0)) := unfr_ok H1.out H2.out (by rw [HF.out]; exact hq)
      go_enter Try.func29, Try.ntmps29
      go_wp2_with (first
        | (go_at_call 59; refine (ftext_eq (a := 0) _ HS.out (Nat.zero_le _) H1.out).mono ?_; rintro e w1 ⟨rfl, hb1⟩)
        | (go_at_call 60; refine (fbytes_eq2 _ HS.out HL.out H2.out).mono ?_; rintro e w2 ⟨rfl, hb2⟩; obtain ⟨q0, q1, q2, p0, p1, p2⟩ := res1 hb2)
        | (go_at_call 56; refine (hB _).mono ?_; rintro e w3 ⟨rfl, rfl⟩)
        | (go_at_call 55; refine (hF4 _).mono ?_; rintro e w4 ⟨rfl, hb4⟩; have c4 := ucell hb2 hb4))
      go_quiet (fail)
      go_wp2
      go_ret3
      rw [HR.out]
      exact ⟨rfl, below_drewN ((ubel hb1 hb2 _ _ _).trans (hb4.mono (by simp only [size_set]; exact (ubel0 hb1 hb2).size))) _⟩
  · have HR : Hid (unfr s a = (ByteArray.empty, 0, e2)) := unfr_err H1.out H2.out he
    have he0 : (e2 == 0) = false := by simp; omega
    go_enter Try.func29, Try.ntmps29
    go_wp2_with (first
      | (go_at_call 59; refine (ftext_eq (a := 0) _ HS.out (Nat.zero_le _) H1.out).mono ?_; rintro e w1 ⟨rfl, hb1⟩)
      | (go_at_call 60; refine (fbytes_eq2 _ HS.out HL.out H2.out).mono ?_; rintro e w2 ⟨rfl, hb2⟩; obtain ⟨q0, q1, q2, p0, p1, p2⟩ := res1 hb2))
    go_quiet (fail)
    go_wp2
    go_ret3
    rw [HR.out]
    exact ⟨rfl, below_drewN (ubel hb1 hb2 _ _ _) _⟩
end Go.Proofs.Ytdapapnkmicklaa
