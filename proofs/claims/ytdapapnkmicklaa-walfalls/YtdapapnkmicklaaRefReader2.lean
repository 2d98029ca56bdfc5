/- What the document's reader (a value) answers to each taking: what begins with a number. -/
import Derived.Test.YtdapapnkmicklaaRefReader
namespace Go.Proofs.Ytdapapnkmicklaa
open Go.RowKit
theorem bcell {W w1 : World} (hb : Below W.heap.size W w1) : (∀ b o, b < W.heap.size → w1.cell? ⟨b, o, none⟩ = W.cell? ⟨b, o, none⟩) ∧ (∀ b o, b < W.heap.size → w1.frozen? ⟨b, o, none⟩ = W.frozen? ⟨b, o, none⟩) :=
  ⟨fun b o h => hb.cell (p := ⟨b, o, none⟩) h, fun b o h => hb.frozen (p := ⟨b, o, none⟩) h⟩
theorem b2w {w w1 : World} {o1 o2 : Obj} (hb : Below ((w.alloc o1).alloc o2).heap.size ((w.alloc o1).alloc o2) w1) : Below w.heap.size w w1 := (b2 w o1 o2).trans (hb.mono (by simp; omega))
theorem zlt {w w1 : World} {o1 o2 : Obj} (hb : Below ((w.alloc o1).alloc o2).heap.size ((w.alloc o1).alloc o2) w1) : w.heap.size + 1 < w1.heap.size := by have := hb.size; simp at this; omega
/-- The receiver's own copy, behind the call that reads the number. -/
theorem old2 {w w1 : World} {u0 u1 u2 : Value} {o2 : Obj} (hb : Below ((w.alloc (.cells #[u0, u1, u2] 107)).alloc o2).heap.size ((w.alloc (.cells #[u0, u1, u2] 107)).alloc o2) w1) :
    w1.cell? ⟨w.heap.size, 0, none⟩ = some u0 ∧ w1.cell? ⟨w.heap.size, 1, none⟩ = some u1 ∧ w1.cell? ⟨w.heap.size, 2, none⟩ = some u2 ∧ w1.frozen? ⟨w.heap.size, 2, none⟩ = false := by
  have h : w1.heap[w.heap.size]? = some (.cells #[u0, u1, u2] 107 (0, 0)) :=
    (hb.block w.heap.size (by simp; omega)).trans ((Below.heap_alloc _ _ _ (by simp)).trans (heap_alloc_new _ _))
  simp [World.cell?, World.frozen?, h]
theorem size_set (w : World) (p : Addr) (u : Value) : (w.setCell p u).heap.size = w.heap.size := by simp [World.setCell]
theorem b_set3 {w w1 : World} {o1 o2 : Obj} (hb : Below ((w.alloc o1).alloc o2).heap.size ((w.alloc o1).alloc o2) w1) (v0 v1 v2 : Value) (o : Obj) :
    Below w.heap.size w ((((w1.setCell ⟨w.heap.size + 1, 0, none⟩ v0).setCell ⟨w.heap.size + 1, 1, none⟩ v1).setCell ⟨w.heap.size + 1, 2, none⟩ v2).alloc o) :=
  ((((b2w hb).setCell (by simp) _).setCell (by simp) _).setCell (by simp) _).alloc (by simp only [size_set]; exact (b2w hb).size) _

theorem b_set4 {w w1 : World} {o1 o2 : Obj} (hb : Below ((w.alloc o1).alloc o2).heap.size ((w.alloc o1).alloc o2) w1) (u v0 v1 v2 : Value) (o : Obj) :
    Below w.heap.size w (((((w1.setCell ⟨w.heap.size, 2, none⟩ u).setCell ⟨w.heap.size + 1, 0, none⟩ v0).setCell ⟨w.heap.size + 1, 1, none⟩ v1).setCell ⟨w.heap.size + 1, 2, none⟩ v2).alloc o) :=
  (((((b2w hb).setCell (by simp) _).setCell (by simp) _).setCell (by simp) _).setCell (by simp) _).alloc (by simp only [size_set]; exact (b2w hb).size) _

theorem rd_via {s : ByteArray} {a n a' : Nat} {e e' : Int} (ha : a ≤ s.size) (h : rdNum s a e = (n, a', e')) :
    (e' ≠ 0 ∧ n = 0 ∧ a' = a ∧ ∀ (α : Type) (z : α) (f : Nat → Nat → α × Nat × Int), rdWith z s a e f = (z, a, e')) ∨ (e' = 0 ∧ e = 0 ∧ n < 18446744073709551616 ∧ ∃ k, a' = a + k ∧ a + k ≤ s.size ∧ ∀ (α : Type) (z : α) (f : Nat → Nat → α × Nat × Int), rdWith z s a e f = f n k) := by
  by_cases he : e = 0
  · subst he
    rcases three s a ha with ⟨m, k, hp, h1, h2, h3, h4⟩ | ⟨m, k, x, hp, hx⟩
    · right
      rw [show rdNum s a 0 = (m, a + k, 0) from rd_ok hp] at h
      simp only [Prod.mk.injEq] at h
      obtain ⟨rfl, rfl, rfl⟩ := h
      exact ⟨rfl, rfl, h4, k, rfl, h2, fun _ _ _ => rd_ok hp⟩
    · left
      rw [show rdNum s a 0 = (0, a, (x : Int)) from rd_bad hp hx] at h
      simp only [Prod.mk.injEq] at h
      obtain ⟨rfl, rfl, rfl⟩ := h
      exact ⟨by omega, rfl, rfl, fun _ _ _ => rd_bad hp hx⟩
  · left
    rw [show rdNum s a e = (0, a, e) from rd_err he] at h
    simp only [Prod.mk.injEq] at h
    obtain ⟨rfl, rfl, rfl⟩ := h
    exact ⟨he, rfl, rfl, fun _ _ _ => rd_err he⟩
theorem fnumber_eq {s : ByteArray} {a n a' : Nat} {e e' : Int} (w : World) (hs : s.size ≤ maxLen) (ha : a ≤ s.size) (h : rdNum s a e = (n, a', e')) :
    Calls Try.prog 81 #[.agg #[.string s, .int .i64 a, .int .i64 e]] w fun r w' => r = .returned (.tuple #[.agg #[.string s, .int .i64 a', .int .i64 e'], .int .u64 n]) ∧ Below w.heap.size w w' := by
  have := fnumber_any (s := s) (a := a) (e := e) w hs ha
  rw [h] at this
  exact this

theorem fbytes_eq {s : ByteArray} {a k n : Nat} (w : World) (hs : s.size ≤ maxLen) (h : a + k + n ≤ s.size) :
    Calls Try.prog 60 #[.agg #[.string s, .int .i64 ((a : Int) + (k : Int)), .int .i64 0], .int .i64 n] w fun r w' =>
      r = .returned (.tuple #[.agg #[.string s, .int .i64 (a + k + n : Nat), .int .i64 0], .string (s.extract (a + k) (a + k + n))]) ∧ Below w.heap.size w w' := by
  have := fbytes_any (s := s) (a := a + k) (e := 0) (n := n) w hs (by omega)
  have HB : rdBytes s (a + k) 0 n = (s.extract (a + k) (a + k + n), a + k + n, 0) := by
    unfold rdBytes; rw [if_pos rfl, if_neg (by omega), if_neg (by omega)]; rfl
  rw [HB] at this
  exact this
theorem b_txt {w w1 w2 : World} {o1 o2 o : Obj} (hb : Below ((w.alloc o1).alloc o2).heap.size ((w.alloc o1).alloc o2) w1) (hb2 : Below (w1.alloc o).heap.size (w1.alloc o) w2) (v0 v1 v2 : Value) :
    Below w.heap.size w (((w2.setCell ⟨w.heap.size + 1, 0, none⟩ v0).setCell ⟨w.heap.size + 1, 1, none⟩ v1).setCell ⟨w.heap.size + 1, 2, none⟩ v2) :=
  (((((b2w hb).alloc (b2w hb).size _).trans (hb2.mono (by have := (b2w hb).size; simp; omega))).setCell (by simp) _).setCell (by simp) _).setCell (by simp) _
theorem res2 {w w1 w2 : World} {o1 o : Obj} {u0 u1 u2 : Value} (hb : Below ((w.alloc o1).alloc (.cells #[u0, u1, u2] 107)).heap.size ((w.alloc o1).alloc (.cells #[u0, u1, u2] 107)) w1) (hb2 : Below (w1.alloc o).heap.size (w1.alloc o) w2) :
    w2.cell? ⟨w.heap.size + 1, 0, none⟩ = some u0 ∧ w2.cell? ⟨w.heap.size + 1, 1, none⟩ = some u1 ∧ w2.cell? ⟨w.heap.size + 1, 2, none⟩ = some u2 ∧ w2.frozen? ⟨w.heap.size + 1, 0, none⟩ = false ∧ w2.frozen? ⟨w.heap.size + 1, 1, none⟩ = false ∧ w2.frozen? ⟨w.heap.size + 1, 2, none⟩ = false := by
  have hz := zlt hb
  have h1 : w1.heap[w.heap.size + 1]? = some (.cells #[u0, u1, u2] 107 (0, 0)) :=
    (hb.block (w.heap.size + 1) (by simp)).trans (by have := heap_alloc_new (w.alloc o1) (.cells #[u0, u1, u2] 107); simpa using this)
  have h : w2.heap[w.heap.size + 1]? = some (.cells #[u0, u1, u2] 107 (0, 0)) :=
    (hb2.block (w.heap.size + 1) (by simp; omega)).trans ((Below.heap_alloc _ _ _ (by omega)).trans h1)
  simp [World.cell?, World.frozen?, h]

set_option maxRecDepth 100000 in
theorem ftext_any {s : ByteArray} {a : Nat} {e : Int} (w : World) (hs : s.size ≤ maxLen) (ha : a ≤ s.size) :
    Calls Try.prog 59 #[.agg #[.string s, .int .i64 a, .int .i64 e]] w fun r w' =>
      r = .returned (.tuple #[.agg #[.string s, .int .i64 (rdText s a e).2.1, .int .i64 (rdText s a e).2.2], .string (rdText s a e).1]) ∧ Below w.heap.size w w' := by
  have hs' := hs
  unfold maxLen at hs'
  obtain ⟨⟨n, a', e'⟩, hq⟩ : ∃ q, rdNum s a e = q := ⟨_, rfl⟩
  have HQ : Hid (rdNum s a e = (n, a', e')) := hq
  rcases rd_via ha hq with ⟨he, rfl, rfl, hw⟩ | ⟨rfl, rfl, hl, k, rfl, hk, hw⟩
  · have HR : Hid (rdText s a' e = (ByteArray.empty, a', e')) := hw _ _ _
    have he0 : (e' == 0) = false := by simp; omega
    clear hq hw
    go_enter Try.func59, Try.ntmps59
    go_wp2_with (go_at_call 81; refine (fnumber_eq _ hs ha HQ.out).mono ?_; rintro r w1 ⟨rfl, hb⟩; obtain ⟨hc, hf⟩ := bcell hb; have hz : w.heap.size + 1 < w1.heap.size := zlt hb; have hz0 : w.heap.size < w1.heap.size := Nat.lt_of_succ_lt hz; obtain ⟨d0, d1, d2, g2⟩ := old2 hb)
    exact bodyPost_ret (v := .tuple #[.agg #[.string s, .int .i64 a', .int .i64 e'], .string ByteArray.empty]) (by simp [results, Try.results59, go_sem, hc, hz]; rfl) rfl ⟨by rw [HR.out], b_set3 hb _ _ _ _⟩
  · by_cases hmore : s.size - (a + k) < n
    · have HR : Hid (rdText s a 0 = (ByteArray.empty, a, 4)) := (hw _ _ _).trans (if_pos hmore)
      clear hq hw
      go_enter Try.func59, Try.ntmps59
      go_wp2_with (go_at_call 81; refine (fnumber_eq _ hs ha HQ.out).mono ?_; rintro r w1 ⟨rfl, hb⟩; obtain ⟨hc, hf⟩ := bcell hb; have hz : w.heap.size + 1 < w1.heap.size := zlt hb; have hz0 : w.heap.size < w1.heap.size := Nat.lt_of_succ_lt hz; obtain ⟨d0, d1, d2, g2⟩ := old2 hb)
      exact bodyPost_ret (v := .tuple #[.agg #[.string s, .int .i64 a, .int .i64 4], .string ByteArray.empty]) (by simp [results, Try.results59, go_sem, hc, hz]; rfl) rfl ⟨by rw [HR.out], b_set4 hb _ _ _ _ _⟩
    · have HR : Hid (rdText s a 0 = (s.extract (a + k) (a + k + n), a + k + n, 0)) := (hw _ _ _).trans (if_neg hmore)
      clear hq hw
      go_enter Try.func59, Try.ntmps59
      go_wp2_with (first | (go_at_call 81; refine (fnumber_eq _ hs ha HQ.out).mono ?_; rintro r w1 ⟨rfl, hb⟩; obtain ⟨hc, hf⟩ := bcell hb; have hz : w.heap.size + 1 < w1.heap.size := zlt hb; have hz0 : w.heap.size < w1.heap.size := Nat.lt_of_succ_lt hz; obtain ⟨d0, d1, d2, g2⟩ := old2 hb) | (go_at_call 60; refine (fbytes_eq _ hs (by omega)).mono ?_; rintro r w2 ⟨rfl, hb2⟩; obtain ⟨q0, q1, q2, p0, p1, p2⟩ := res2 hb hb2))
      exact bodyPost_ret (v := .tuple #[.agg #[.string s, .int .i64 (a + k + n : Nat), .int .i64 0], .string (s.extract (a + k) (a + k + n))]) (by simp [results, Try.results59, go_sem, q0, q1, q2]) rfl ⟨by rw [HR.out], b_txt hb hb2 _ _ _⟩

end Go.Proofs.Ytdapapnkmicklaa
