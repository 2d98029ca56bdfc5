import Derived.Test.YtidghoipmggklaaGreatReader1M
import Derived.Test.YtidghoipmggklaaGreatReadSpecM
import Derived.Test.YtidghoipmggklaaGreatFoldWM
/- What a reader's methods do to the reader that they are called on, and what they answer. -/
namespace Go.Proofs.YtidghoipmggklaaGreat
open Go.RowKit

set_option maxRecDepth 100000 in
theorem rnumber_any {w : World} {p : Nat} {s : ByteArray} {a : Nat} {e : Int} (h : Rd w p s a e) (hs : s.size ≤ maxLen) (ha : a ≤ s.size) :
    Calls Tryz.prog 171 #[.pointer (some ⟨p, 0, none⟩)] w fun r w' => r = .returned (.int .u64 (rdNum s a e).1) ∧ Rd w' p s (rdNum s a e).2.1 (rdNum s a e).2.2 ∧ Fr w w' (fun k => k = p) := by
  by_cases he : e = 0
  · subst he
    rcases three s a ha with ⟨n, k, hp, h1, h2, h3, h4⟩ | ⟨n, k, x, hp, hx⟩
    · have HR : Hid (rdNum s a 0 = (n, a + k, 0)) := rd_ok hp
      have HP : Hid (pnum (s.data.toList.drop a) = (n, k, 0)) := hp
      clear hp
      have f1 := h.f1
      have c1 := h.c1
      go_enter Tryz.func171, Tryz.ntmps171
      go_wp2_with (go_at_call 117; refine (next_ok h hs ha HP.out h2).mono ?_; rintro r w1 ⟨rfl, q, rfl⟩)
      go_ret
      rw [HR.out]
      exact ⟨rfl, (h.drewN _).set1 _, (Fr.drewN _ _ _).trans (Fr.setCell (S := fun k => k = p) _ _ _ rfl) (fun _ _ h => h)⟩
    · have HR : Hid (rdNum s a 0 = (0, a, (x : Int))) := rd_bad hp hx
      have HP : Hid (pnum (s.data.toList.drop a) = (n, k, x)) := hp
      clear hp
      go_enter Tryz.func171, Tryz.ntmps171
      go_wp2_with (go_at_call 117; refine (next_bad h hs ha HP.out hx).mono ?_; rintro r w1 ⟨rfl, hr, hf⟩)
      go_ret
      rw [HR.out]
      exact ⟨rfl, hr, hf⟩
  · have HR : Hid (rdNum s a e = (0, a, e)) := rd_err he
    go_enter Tryz.func171, Tryz.ntmps171
    go_wp2_with (go_at_call 117; refine (next_err h he).mono ?_; rintro r w1 ⟨rfl, rfl⟩)
    go_ret
    rw [HR.out]
    exact ⟨rfl, h, Fr.refl _ _⟩
theorem rdNum_lt (s : ByteArray) (a : Nat) (e : Int) (ha : a ≤ s.size) : (rdNum s a e).1 < 18446744073709551616 ∧ (rdNum s a e).2.1 ≤ s.size := by
  by_cases he : e = 0
  · subst he
    rcases three s a ha with ⟨n, k, hp, h1, h2, h3, h4⟩ | ⟨n, k, x, hp, hx⟩
    · rw [show rdNum s a 0 = (n, a + k, 0) from rd_ok hp]; exact ⟨h4, h2⟩
    · rw [show rdNum s a 0 = (0, a, (x : Int)) from rd_bad hp hx]; exact ⟨Nat.zero_lt_succ _, ha⟩
  · rw [show rdNum s a e = (0, a, e) from rd_err he]; exact ⟨Nat.zero_lt_succ _, ha⟩

set_option maxRecDepth 100000 in
theorem rsigned_any {w : World} {p : Nat} {s : ByteArray} {a : Nat} {e : Int} (h : Rd w p s a e) (hs : s.size ≤ maxLen) (ha : a ≤ s.size) :
    Calls Tryz.prog 119 #[.pointer (some ⟨p, 0, none⟩)] w fun r w' => r = .returned (.int .i64 (unfoldN (rdNum s a e).1)) ∧ Rd w' p s (rdNum s a e).2.1 (rdNum s a e).2.2 ∧ Fr w w' (fun k => k = p) := by
  have hl := (rdNum_lt s a e ha).1
  go_enter Tryz.func119, Tryz.ntmps119
  go_wp2_with (first
    | (go_at_call 171; refine (rnumber_any h hs ha).mono ?_; rintro r w1 ⟨rfl, hr, hf⟩)
    | (go_at_call 170; refine (unfold_any _ _ (by omega) (by omega)).mono ?_; rintro r w2 ⟨rfl, rfl⟩))
  go_ret
  exact ⟨rfl, hr, hf⟩

set_option maxRecDepth 100000 in
theorem rcount_any {w : World} {p : Nat} {s : ByteArray} {a : Nat} {e : Int} {most : Int} (h : Rd w p s a e) (hs : s.size ≤ maxLen) (ha : a ≤ s.size) (hm : most ≤ 9223372036854775807) :
    Calls Tryz.prog 56 #[.pointer (some ⟨p, 0, none⟩), .int .i64 most] w fun r w' => r = .returned (.int .i64 (rdCount s a e most).1) ∧ Rd w' p s (rdCount s a e most).2.1 (rdCount s a e most).2.2 ∧ Fr w w' (fun k => k = p) := by
  by_cases he : e = 0
  · subst he
    rcases three s a ha with ⟨n, k, hp, h1, h2, h3, h4⟩ | ⟨n, k, x, hp, hx⟩
    · have hn : n < 18446744073709551616 := h4
      have HP : Hid (pnum (s.data.toList.drop a) = (n, k, 0)) := hp
      have f1 := h.f1
      have c1 := h.c1
      have f2 := h.f2
      have c2 := h.c2
      by_cases hneg : most < 0
      · have HR : Hid (rdCount s a 0 most = (0, a, 5)) := (rd_ok hp).trans (if_pos (Or.inl hneg))
        clear hp
        go_enter Tryz.func56, Tryz.ntmps56
        go_wp2_with (go_at_call 117; refine (next_ok h hs ha HP.out h2).mono ?_; rintro r w1 ⟨rfl, q, rfl⟩)
        go_ret
        rw [HR.out]
        exact ⟨rfl, (h.drewN _).set2 _, (Fr.drewN _ _ _).trans (Fr.setCell (S := fun k => k = p) _ _ _ rfl) (fun _ _ h => h)⟩
      · by_cases hmore : most < n
        · have HR : Hid (rdCount s a 0 most = (0, a, 5)) := (rd_ok hp).trans (if_pos (Or.inr hmore))
          clear hp
          go_enter Tryz.func56, Tryz.ntmps56
          go_wp2_with (go_at_call 117; refine (next_ok h hs ha HP.out h2).mono ?_; rintro r w1 ⟨rfl, q, rfl⟩)
          go_ret
          rw [HR.out]
          exact ⟨rfl, (h.drewN _).set2 _, (Fr.drewN _ _ _).trans (Fr.setCell (S := fun k => k = p) _ _ _ rfl) (fun _ _ h => h)⟩
        · have HR : Hid (rdCount s a 0 most = (n, a + k, 0)) := (rd_ok hp).trans (if_neg (by omega))
          clear hp
          go_enter Tryz.func56, Tryz.ntmps56
          go_wp2_with (go_at_call 117; refine (next_ok h hs ha HP.out h2).mono ?_; rintro r w1 ⟨rfl, q, rfl⟩)
          go_ret
          rw [HR.out]
          exact ⟨rfl, (h.drewN _).set1 _, (Fr.drewN _ _ _).trans (Fr.setCell (S := fun k => k = p) _ _ _ rfl) (fun _ _ h => h)⟩
    · have HR : Hid (rdCount s a 0 most = (0, a, (x : Int))) := rd_bad hp hx
      have HP : Hid (pnum (s.data.toList.drop a) = (n, k, x)) := hp
      clear hp
      go_enter Tryz.func56, Tryz.ntmps56
      go_wp2_with (go_at_call 117; refine (next_bad h hs ha HP.out hx).mono ?_; rintro r w1 ⟨rfl, hr, hf⟩)
      go_ret
      rw [HR.out]
      exact ⟨rfl, hr, hf⟩
  · have HR : Hid (rdCount s a e most = (0, a, e)) := rd_err he
    go_enter Tryz.func56, Tryz.ntmps56
    go_wp2_with (go_at_call 117; refine (next_err h he).mono ?_; rintro r w1 ⟨rfl, rfl⟩)
    go_ret
    rw [HR.out]
    exact ⟨rfl, h, Fr.refl _ _⟩

set_option maxRecDepth 100000 in
theorem rbool_any {w : World} {p : Nat} {s : ByteArray} {a : Nat} {e : Int} (h : Rd w p s a e) (hs : s.size ≤ maxLen) (ha : a ≤ s.size) :
    Calls Tryz.prog 99 #[.pointer (some ⟨p, 0, none⟩)] w fun r w' => r = .returned (.bool (rdBool s a e).1) ∧ Rd w' p s (rdBool s a e).2.1 (rdBool s a e).2.2 ∧ Fr w w' (fun k => k = p) := by
  by_cases he : e = 0
  · subst he
    rcases three s a ha with ⟨n, k, hp, h1, h2, h3, h4⟩ | ⟨n, k, x, hp, hx⟩
    · have HP : Hid (pnum (s.data.toList.drop a) = (n, k, 0)) := hp
      have f1 := h.f1
      have c1 := h.c1
      have f2 := h.f2
      have c2 := h.c2
      by_cases hmore : 1 < n
      · have HR : Hid (rdBool s a 0 = (false, a, 6)) := (rd_ok hp).trans (if_pos hmore)
        clear hp
        go_enter Tryz.func99, Tryz.ntmps99
        go_wp2_with (go_at_call 117; refine (next_ok h hs ha HP.out h2).mono ?_; rintro r w1 ⟨rfl, q, rfl⟩)
        go_ret
        rw [HR.out]
        exact ⟨rfl, (h.drewN _).set2 _, (Fr.drewN _ _ _).trans (Fr.setCell (S := fun k => k = p) _ _ _ rfl) (fun _ _ h => h)⟩
      · have HR : Hid (rdBool s a 0 = (n == 1, a + k, 0)) := (rd_ok hp).trans (if_neg hmore)
        have HB : Hid (((n : Int) == 1) = (n == 1)) := by
          show _ = _
          rw [Bool.eq_iff_iff]; simp; omega
        clear hp
        go_enter Tryz.func99, Tryz.ntmps99
        go_wp2_with (go_at_call 117; refine (next_ok h hs ha HP.out h2).mono ?_; rintro r w1 ⟨rfl, q, rfl⟩)
        go_ret
        rw [HR.out, ← HB.out]
        exact ⟨rfl, (h.drewN _).set1 _, (Fr.drewN _ _ _).trans (Fr.setCell (S := fun k => k = p) _ _ _ rfl) (fun _ _ h => h)⟩
    · have HR : Hid (rdBool s a 0 = (false, a, (x : Int))) := rd_bad hp hx
      have HP : Hid (pnum (s.data.toList.drop a) = (n, k, x)) := hp
      clear hp
      go_enter Tryz.func99, Tryz.ntmps99
      go_wp2_with (go_at_call 117; refine (next_bad h hs ha HP.out hx).mono ?_; rintro r w1 ⟨rfl, hr, hf⟩)
      go_ret
      rw [HR.out]
      exact ⟨rfl, hr, hf⟩
  · have HR : Hid (rdBool s a e = (false, a, e)) := rd_err he
    go_enter Tryz.func99, Tryz.ntmps99
    go_wp2_with (go_at_call 117; refine (next_err h he).mono ?_; rintro r w1 ⟨rfl, rfl⟩)
    go_ret
    rw [HR.out]
    exact ⟨rfl, h, Fr.refl _ _⟩

set_option maxRecDepth 100000 in
theorem rtext_any {w : World} {p : Nat} {s : ByteArray} {a : Nat} {e : Int} (h : Rd w p s a e) (hs : s.size ≤ maxLen) (ha : a ≤ s.size) :
    Calls Tryz.prog 53 #[.pointer (some ⟨p, 0, none⟩)] w fun r w' => r = .returned (.string (rdText s a e).1) ∧ Rd w' p s (rdText s a e).2.1 (rdText s a e).2.2 ∧ Fr w w' (fun k => k = p) := by
  by_cases he : e = 0
  · subst he
    rcases three s a ha with ⟨n, k, hp, h1, h2, h3, h4⟩ | ⟨n, k, x, hp, hx⟩
    · have HP : Hid (pnum (s.data.toList.drop a) = (n, k, 0)) := hp
      have hs' := hs
      unfold maxLen at hs'
      have f1 := h.f1
      have c1 := h.c1
      have f2 := h.f2
      have c2 := h.c2
      have c0 := h.c0
      by_cases hmore : s.size - (a + k) < n
      · have HR : Hid (rdText s a 0 = (ByteArray.empty, a, 4)) := (rd_ok hp).trans (if_pos hmore)
        clear hp
        go_enter Tryz.func53, Tryz.ntmps53
        go_wp2_with (go_at_call 117; refine (next_ok h hs ha HP.out h2).mono ?_; rintro r w1 ⟨rfl, q, rfl⟩)
        go_ret
        rw [HR.out]
        exact ⟨rfl, (h.drewN _).set2 _, (Fr.drewN _ _ _).trans (Fr.setCell (S := fun k => k = p) _ _ _ rfl) (fun _ _ h => h)⟩
      · have HR : Hid (rdText s a 0 = (s.extract (a + k) (a + k + n), a + k + n, 0)) := (rd_ok hp).trans (if_neg hmore)
        clear hp
        go_enter Tryz.func53, Tryz.ntmps53
        go_wp2_with (go_at_call 117; refine (next_ok h hs ha HP.out h2).mono ?_; rintro r w1 ⟨rfl, q, rfl⟩)
        go_quiet (fail)
        go_wp2
        go_ret
        rw [HR.out]
        exact ⟨rfl, ((h.drewN _).set1 _).drewN _, ((Fr.drewN _ _ _).trans (Fr.setCell (S := fun k => k = p) _ _ _ rfl) (fun _ _ h => h)).trans (Fr.drewN _ _ _) (fun _ _ h => h)⟩
    · have HR : Hid (rdText s a 0 = (ByteArray.empty, a, (x : Int))) := rd_bad hp hx
      have HP : Hid (pnum (s.data.toList.drop a) = (n, k, x)) := hp
      clear hp
      go_enter Tryz.func53, Tryz.ntmps53
      go_wp2_with (go_at_call 117; refine (next_bad h hs ha HP.out hx).mono ?_; rintro r w1 ⟨rfl, hr, hf⟩)
      go_ret
      rw [HR.out]
      exact ⟨rfl, hr, hf⟩
  · have HR : Hid (rdText s a e = (ByteArray.empty, a, e)) := rd_err he
    go_enter Tryz.func53, Tryz.ntmps53
    go_wp2_with (go_at_call 117; refine (next_err h he).mono ?_; rintro r w1 ⟨rfl, rfl⟩)
    go_ret
    rw [HR.out]
    exact ⟨rfl, h, Fr.refl _ _⟩

theorem rfail_any {w : World} {p : Nat} {s : ByteArray} {a e x : Int} (hrd : Rd w p s a e) :
    Calls Tryz.prog 57 #[.pointer (some ⟨p, 0, none⟩), .int .i64 x] w fun r w' => r = .returned (.tuple #[]) ∧ Rd w' p s a (rdFail e x) ∧ Fr w w' (fun k => k = p) := by
  by_cases he : e = 0
  · subst he
    have f2 := hrd.f2
    have c2 := hrd.c2
    go_enter Tryz.func57, Tryz.ntmps57
    go_wp2_with (go_at_call 58; refine (err_any hrd).mono ?_; rintro r w1 ⟨rfl, rfl⟩)
    go_end0
    exact ⟨rfl, by rw [rdFail_0]; exact hrd.set2 _, Fr.setCell (S := fun k => k = p) _ _ _ rfl⟩
  · have he0 : (e == 0) = false := by simp; omega
    go_enter Tryz.func57, Tryz.ntmps57
    go_wp2_with (go_at_call 58; refine (err_any hrd).mono ?_; rintro r w1 ⟨rfl, rfl⟩)
    go_end0
    exact ⟨rfl, by rw [rdFail_e he]; exact hrd, Fr.refl _ _⟩

set_option maxRecDepth 100000 in
theorem rend_any {w : World} {p : Nat} {s : ByteArray} {a : Nat} {e : Int} (h : Rd w p s a e) (hs : s.size ≤ maxLen) (ha : a ≤ s.size) :
    Calls Tryz.prog 48 #[.pointer (some ⟨p, 0, none⟩)] w fun r w' => r = .returned (.int .i64 (rdEnd s a e)) ∧ Rd w' p s a (rdEnd s a e) ∧ Fr w w' (fun k => k = p) := by
  by_cases hlt : a < s.size
  · have HR : Hid (rdEnd s a e = rdFail e 5) := rdEnd_lt e hlt
    go_enter Tryz.func48, Tryz.ntmps48
    go_wp2_with (first
      | (go_at_call 19; refine (left_any h hs ha).mono ?_; rintro r w1 ⟨rfl, q, rfl⟩)
      | (go_at_call 57; refine (rfail_any (h.drewN q)).mono ?_; rintro r w1 ⟨rfl, hr, hf⟩)
      | (go_at_call 58; refine (err_any hr).mono ?_; rintro r w2 ⟨rfl, rfl⟩))
    go_ret
    rw [HR.out]
    exact ⟨rfl, hr, (Fr.drewN _ _ _).trans hf (fun _ _ h => h)⟩
  · have HR : Hid (rdEnd s a e = e) := rdEnd_ge e hlt
    go_enter Tryz.func48, Tryz.ntmps48
    go_wp2_with (first
      | (go_at_call 19; refine (left_any h hs ha).mono ?_; rintro r w1 ⟨rfl, q, rfl⟩)
      | (go_at_call 58; refine (err_any (h.drewN q)).mono ?_; rintro r w2 ⟨rfl, rfl⟩))
    go_ret
    rw [HR.out]
    exact ⟨rfl, h.drewN _, Fr.drewN _ _ _⟩

theorem newreader_any (s : ByteArray) (w : World) :
    Calls Tryz.prog 15 #[.string s] w fun r w' => r = .returned (.pointer (some ⟨w.heap.size, 0, none⟩)) ∧ Rd w' w.heap.size s 0 0 ∧ Below w.heap.size w w' := by
  go_enter Tryz.func15, Tryz.ntmps15
  go_wp2
  go_ret
  exact ⟨rfl, heap_alloc_new _ _, (Below.refl _ _).alloc (Nat.le_refl _) _⟩
end Go.Proofs.YtidghoipmggklaaGreat
