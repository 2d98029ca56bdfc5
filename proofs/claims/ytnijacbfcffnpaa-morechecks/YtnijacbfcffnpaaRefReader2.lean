/- What the document's reader (a value) answers to each taking: what begins with a number. -/
import Derived.Test.YtnijacbfcffnpaaRefReader
namespace Go.Proofs.Ytnijacbfcffnpaa
open Go.RowKit
theorem bcell {W w1 : World} (hb : Below W.heap.size W w1) : (∀ b o, b < W.heap.size → w1.cell? ⟨b, o, none⟩ = W.cell? ⟨b, o, none⟩) ∧ (∀ b o, b < W.heap.size → w1.frozen? ⟨b, o, none⟩ = W.frozen? ⟨b, o, none⟩) :=
  ⟨fun b o h => hb.cell (p := ⟨b, o, none⟩) h, fun b o h => hb.frozen (p := ⟨b, o, none⟩) h⟩
theorem b2w {w w1 : World} {o1 o2 : Obj} (hb : Below ((w.alloc o1).alloc o2).heap.size ((w.alloc o1).alloc o2) w1) : Below w.heap.size w w1 := (b2 w o1 o2).trans (hb.mono (by simp; omega))
theorem zlt {w w1 : World} {o1 o2 : Obj} (hb : Below ((w.alloc o1).alloc o2).heap.size ((w.alloc o1).alloc o2) w1) : w.heap.size + 1 < w1.heap.size := by have := hb.size; simp at this; omega
/-- The receiver's own copy, behind the call that reads the number. -/
theorem old2 {w w1 : World} {u0 u1 u2 : Value} {o2 : Obj} (hb : Below ((w.alloc (.cells #[u0, u1, u2] 45)).alloc o2).heap.size ((w.alloc (.cells #[u0, u1, u2] 45)).alloc o2) w1) :
    w1.cell? ⟨w.heap.size, 0, none⟩ = some u0 ∧ w1.cell? ⟨w.heap.size, 1, none⟩ = some u1 ∧ w1.cell? ⟨w.heap.size, 2, none⟩ = some u2 ∧ w1.frozen? ⟨w.heap.size, 2, none⟩ = false := by
  have h : w1.heap[w.heap.size]? = some (.cells #[u0, u1, u2] 45 (0, 0)) :=
    (hb.block w.heap.size (by simp; omega)).trans ((Below.heap_alloc _ _ _ (by simp)).trans (heap_alloc_new _ _))
  simp [World.cell?, World.frozen?, h]
theorem size_set (w : World) (p : Addr) (u : Value) : (w.setCell p u).heap.size = w.heap.size := by simp [World.setCell]
theorem b_set3 {w w1 : World} {o1 o2 : Obj} (hb : Below ((w.alloc o1).alloc o2).heap.size ((w.alloc o1).alloc o2) w1) (v0 v1 v2 : Value) (o : Obj) :
    Below w.heap.size w ((((w1.setCell ⟨w.heap.size + 1, 0, none⟩ v0).setCell ⟨w.heap.size + 1, 1, none⟩ v1).setCell ⟨w.heap.size + 1, 2, none⟩ v2).alloc o) :=
  ((((b2w hb).setCell (by simp) _).setCell (by simp) _).setCell (by simp) _).alloc (by simp only [size_set]; exact (b2w hb).size) _

set_option maxRecDepth 100000 in
theorem fsigned_any {s : ByteArray} {a : Nat} {e : Int} (w : World) (hs : s.size ≤ maxLen) (ha : a ≤ s.size) :
    Calls Try.prog 66 #[.agg #[.string s, .int .i64 a, .int .i64 e]] w fun r w' =>
      r = .returned (.tuple #[.agg #[.string s, .int .i64 (rdNum s a e).2.1, .int .i64 (rdNum s a e).2.2], .int .i64 (unfoldN (rdNum s a e).1)]) ∧ Below w.heap.size w w' := by
  have hl := (rdNum_lt s a e ha).1
  go_enter Try.func66, Try.ntmps66
  go_wp2_with (go_at_call 65; refine (fnumber_any _ hs ha).mono ?_; rintro r w1 ⟨rfl, hb⟩; obtain ⟨hc, hf⟩ := bcell hb; have hz : w.heap.size + 1 < w1.heap.size := zlt hb; have hz0 : w.heap.size < w1.heap.size := Nat.lt_of_succ_lt hz)
  go_region_with (go_at_call 100; refine (refunfold_any _ _ (by omega) (by omega)).mono ?_; rintro r w2 ⟨rfl, rfl⟩)
  all_goals go_wp2
  all_goals exact bodyPost_ret (v := .tuple #[.agg #[.string s, .int .i64 (rdNum s a e).2.1, .int .i64 (rdNum s a e).2.2], .int .i64 (unfoldN (rdNum s a e).1)]) (by simp [results, Try.results66, go_sem, hc, hz]) rfl ⟨rfl, (b_set3 hb _ _ _ _).drew⟩
theorem b_set4 {w w1 : World} {o1 o2 : Obj} (hb : Below ((w.alloc o1).alloc o2).heap.size ((w.alloc o1).alloc o2) w1) (u v0 v1 v2 : Value) (o : Obj) :
    Below w.heap.size w (((((w1.setCell ⟨w.heap.size, 2, none⟩ u).setCell ⟨w.heap.size + 1, 0, none⟩ v0).setCell ⟨w.heap.size + 1, 1, none⟩ v1).setCell ⟨w.heap.size + 1, 2, none⟩ v2).alloc o) :=
  (((((b2w hb).setCell (by simp) _).setCell (by simp) _).setCell (by simp) _).setCell (by simp) _).alloc (by simp only [size_set]; exact (b2w hb).size) _

theorem rd_via {s : ByteArray} {a n a' : Nat} {e e' : Int} (ha : a ≤ s.size) (h : rdNum s a e = (n, a', e')) :
    (e' ≠ 0 ∧ n = 0 ∧ a' = a ∧ ∀ (α : Type) (z : α) (f : Nat → Nat → α × Nat × Int), rdWith z s a e f = (z, a, e')) ∨ (e' = 0 ∧ e = 0 ∧ n < 18446744073709551616 ∧ ∃ k, a' = a + k ∧ a + k ≤ s.size ∧ ∀ (α : Type) (z : α) (f : Nat → Nat → α × Nat × Int), rdWith z s a e f = f n k) := by
  by_cases he : e = 0
  · subst he
    rcases three s a ha with ⟨m, k, hp, h1, h2, h3, h4⟩ | ⟨m, k, x, hp, hx⟩
    · right
      rw [show rdNum s a 0 = (m, a + k, 0) from rd_ok hp] at h
      simp only [Prod.mk.injEq] at h
      obtain ⟨rfl, rfl, rfl⟩ := h
      exact ⟨rfl, rfl, h4, k, rfl, h2, fun _ _ _ => rd_ok hp⟩
    · left
      rw [show rdNum s a 0 = (0, a, (x : Int)) from rd_bad hp hx] at h
      simp only [Prod.mk.injEq] at h
      obtain ⟨rfl, rfl, rfl⟩ := h
      exact ⟨by omega, rfl, rfl, fun _ _ _ => rd_bad hp hx⟩
  · left
    rw [show rdNum s a e = (0, a, e) from rd_err he] at h
    simp only [Prod.mk.injEq] at h
    obtain ⟨rfl, rfl, rfl⟩ := h
    exact ⟨he, rfl, rfl, fun _ _ _ => rd_err he⟩
theorem fnumber_eq {s : ByteArray} {a n a' : Nat} {e e' : Int} (w : World) (hs : s.size ≤ maxLen) (ha : a ≤ s.size) (h : rdNum s a e = (n, a', e')) :
    Calls Try.prog 65 #[.agg #[.string s, .int .i64 a, .int .i64 e]] w fun r w' => r = .returned (.tuple #[.agg #[.string s, .int .i64 a', .int .i64 e'], .int .u64 n]) ∧ Below w.heap.size w w' := by
  have := fnumber_any (s := s) (a := a) (e := e) w hs ha
  rw [h] at this
  exact this

set_option maxRecDepth 100000 in
theorem fcount_any {s : ByteArray} {a : Nat} {e most : Int} (w : World) (hs : s.size ≤ maxLen) (ha : a ≤ s.size) (hm : most ≤ 9223372036854775807) :
    Calls Try.prog 42 #[.agg #[.string s, .int .i64 a, .int .i64 e], .int .i64 most] w fun r w' =>
      r = .returned (.tuple #[.agg #[.string s, .int .i64 (rdCount s a e most).2.1, .int .i64 (rdCount s a e most).2.2], .int .i64 (rdCount s a e most).1]) ∧ Below w.heap.size w w' := by
  obtain ⟨⟨n, a', e'⟩, hq⟩ : ∃ q, rdNum s a e = q := ⟨_, rfl⟩
  have HQ : Hid (rdNum s a e = (n, a', e')) := hq
  rcases rd_via ha hq with ⟨he, rfl, rfl, hw⟩ | ⟨rfl, rfl, hl, k, rfl, hk, hw⟩
  · have HR : Hid (rdCount s a' e most = (0, a', e')) := hw _ _ _
    have he0 : (e' == 0) = false := by simp; omega
    clear hq hw
    go_enter Try.func42, Try.ntmps42
    go_wp2_with (go_at_call 65; refine (fnumber_eq _ hs ha HQ.out).mono ?_; rintro r w1 ⟨rfl, hb⟩; obtain ⟨hc, hf⟩ := bcell hb; have hz : w.heap.size + 1 < w1.heap.size := zlt hb; have hz0 : w.heap.size < w1.heap.size := Nat.lt_of_succ_lt hz)
    exact bodyPost_ret (v := .tuple #[.agg #[.string s, .int .i64 a', .int .i64 e'], .int .i64 0]) (by simp [results, Try.results42, go_sem, hc, hz]) rfl ⟨by rw [HR.out]; rfl, b_set3 hb _ _ _ _⟩
  · by_cases hneg : most < 0
    · have HR : Hid (rdCount s a 0 most = (0, a, 5)) := (hw _ _ _).trans (if_pos (Or.inl hneg))
      clear hq hw
      go_enter Try.func42, Try.ntmps42
      go_wp2_with (go_at_call 65; refine (fnumber_eq _ hs ha HQ.out).mono ?_; rintro r w1 ⟨rfl, hb⟩; obtain ⟨hc, hf⟩ := bcell hb; have hz : w.heap.size + 1 < w1.heap.size := zlt hb; have hz0 : w.heap.size < w1.heap.size := Nat.lt_of_succ_lt hz; obtain ⟨d0, d1, d2, g2⟩ := old2 hb)
      exact bodyPost_ret (v := .tuple #[.agg #[.string s, .int .i64 a, .int .i64 5], .int .i64 0]) (by simp [results, Try.results42, go_sem, hc, hz]) rfl ⟨by rw [HR.out]; rfl, b_set4 hb _ _ _ _ _⟩
    · by_cases hmore : most < n
      · have HR : Hid (rdCount s a 0 most = (0, a, 5)) := (hw _ _ _).trans (if_pos (Or.inr hmore))
        clear hq hw
        go_enter Try.func42, Try.ntmps42
        go_wp2_with (go_at_call 65; refine (fnumber_eq _ hs ha HQ.out).mono ?_; rintro r w1 ⟨rfl, hb⟩; obtain ⟨hc, hf⟩ := bcell hb; have hz : w.heap.size + 1 < w1.heap.size := zlt hb; have hz0 : w.heap.size < w1.heap.size := Nat.lt_of_succ_lt hz; obtain ⟨d0, d1, d2, g2⟩ := old2 hb)
        exact bodyPost_ret (v := .tuple #[.agg #[.string s, .int .i64 a, .int .i64 5], .int .i64 0]) (by simp [results, Try.results42, go_sem, hc, hz]) rfl ⟨by rw [HR.out]; rfl, b_set4 hb _ _ _ _ _⟩
      · have HR : Hid (rdCount s a 0 most = (n, a + k, 0)) := (hw _ _ _).trans (if_neg (by omega))
        clear hq hw
        go_enter Try.func42, Try.ntmps42
        go_wp2_with (go_at_call 65; refine (fnumber_eq _ hs ha HQ.out).mono ?_; rintro r w1 ⟨rfl, hb⟩; obtain ⟨hc, hf⟩ := bcell hb; have hz : w.heap.size + 1 < w1.heap.size := zlt hb; have hz0 : w.heap.size < w1.heap.size := Nat.lt_of_succ_lt hz; obtain ⟨d0, d1, d2, g2⟩ := old2 hb)
        exact bodyPost_ret (v := .tuple #[.agg #[.string s, .int .i64 (a + k : Nat), .int .i64 0], .int .i64 n]) (by simp [results, Try.results42, go_sem, hc, hz]) rfl ⟨by rw [HR.out], b_set3 hb _ _ _ _⟩

theorem b_txt {w w1 w2 : World} {o1 o2 o : Obj} (hb : Below ((w.alloc o1).alloc o2).heap.size ((w.alloc o1).alloc o2) w1) (hb2 : Below (w1.alloc o).heap.size (w1.alloc o) w2) (v0 v1 v2 : Value) :
    Below w.heap.size w (((w2.setCell ⟨w.heap.size + 1, 0, none⟩ v0).setCell ⟨w.heap.size + 1, 1, none⟩ v1).setCell ⟨w.heap.size + 1, 2, none⟩ v2) :=
  (((((b2w hb).alloc (b2w hb).size _).trans (hb2.mono (by have := (b2w hb).size; simp; omega))).setCell (by simp) _).setCell (by simp) _).setCell (by simp) _
theorem res2 {w w1 w2 : World} {o1 o : Obj} {u0 u1 u2 : Value} (hb : Below ((w.alloc o1).alloc (.cells #[u0, u1, u2] 45)).heap.size ((w.alloc o1).alloc (.cells #[u0, u1, u2] 45)) w1) (hb2 : Below (w1.alloc o).heap.size (w1.alloc o) w2) :
    w2.cell? ⟨w.heap.size + 1, 0, none⟩ = some u0 ∧ w2.cell? ⟨w.heap.size + 1, 1, none⟩ = some u1 ∧ w2.cell? ⟨w.heap.size + 1, 2, none⟩ = some u2 ∧ w2.frozen? ⟨w.heap.size + 1, 0, none⟩ = false ∧ w2.frozen? ⟨w.heap.size + 1, 1, none⟩ = false ∧ w2.frozen? ⟨w.heap.size + 1, 2, none⟩ = false := by
  have hz := zlt hb
  have h1 : w1.heap[w.heap.size + 1]? = some (.cells #[u0, u1, u2] 45 (0, 0)) :=
    (hb.block (w.heap.size + 1) (by simp)).trans (by have := heap_alloc_new (w.alloc o1) (.cells #[u0, u1, u2] 45); simpa using this)
  have h : w2.heap[w.heap.size + 1]? = some (.cells #[u0, u1, u2] 45 (0, 0)) :=
    (hb2.block (w.heap.size + 1) (by simp; omega)).trans ((Below.heap_alloc _ _ _ (by omega)).trans h1)
  simp [World.cell?, World.frozen?, h]

set_option maxRecDepth 100000 in
theorem fend_any {s : ByteArray} {a : Nat} {e : Int} (w : World) :
    Calls Try.prog 20 #[.agg #[.string s, .int .i64 a, .int .i64 e]] w fun r w' =>
      r = .returned (.agg #[.string s, .int .i64 a, .int .i64 (rdEnd s a e)]) ∧ Below w.heap.size w w' := by
  by_cases he : e = 0
  · subst he
    by_cases hlt : a < s.size
    · have HR : Hid (rdEnd s a 0 = 5) := rdEnd_lt 0 hlt
      go_enter Try.func20, Try.ntmps20
      go_wp2
      exact bodyPost_ret (v := .agg #[.string s, .int .i64 a, .int .i64 5]) (by simp [results, Try.results20, go_sem]) rfl ⟨by rw [HR.out], b2 _ _ _⟩
    · have HR : Hid (rdEnd s a 0 = 0) := rdEnd_ge 0 hlt
      go_enter Try.func20, Try.ntmps20
      go_wp2
      exact bodyPost_ret (v := .agg #[.string s, .int .i64 a, .int .i64 0]) (by simp [results, Try.results20, go_sem]) rfl ⟨by rw [HR.out], b2 _ _ _⟩
  · have HR : Hid (rdEnd s a e = e) := if_neg (fun h => he h.1)
    have he0 : (e == 0) = false := by simp; omega
    go_enter Try.func20, Try.ntmps20
    go_wp2
    exact bodyPost_ret (v := .agg #[.string s, .int .i64 a, .int .i64 e]) (by simp [results, Try.results20, go_sem]) rfl ⟨by rw [HR.out], b2 _ _ _⟩
end Go.Proofs.Ytnijacbfcffnpaa
