/- What one act does to a reader and to the document's reader, and that both answer alike. -/
import Derived.Test.YthlmohbpedcmfaaUnframeW
namespace Go.Proofs.Ythlmohbpedcmfaa
open Go.RowKit
/-- The three boxes that the call lays: the document's reader, the act, the result; they stand behind what only turns the reader. -/
theorem boxes {w w1 : World} {p : Nat} {m0 m1 m2 a0 a1 a2 a3 r0 r1 r2 : Value} (hp : p < w.heap.size) (hf : Fr (((w.alloc (.cells #[m0, m1, m2] 41)).alloc (.cells #[a0, a1, a2, a3] 45)).alloc (.cells #[r0, r1, r2] 41)) w1 (fun k => k = p)) :
    w1.cell? ⟨w.heap.size, 0, none⟩ = some m0 ∧ w1.cell? ⟨w.heap.size, 1, none⟩ = some m1 ∧ w1.cell? ⟨w.heap.size, 2, none⟩ = some m2 ∧ w1.frozen? ⟨w.heap.size, 2, none⟩ = false ∧ w1.cell? ⟨w.heap.size + 1, 1, none⟩ = some a1 ∧
    w1.cell? ⟨w.heap.size + 1 + 1, 0, none⟩ = some r0 ∧ w1.cell? ⟨w.heap.size + 1 + 1, 1, none⟩ = some r1 ∧ w1.cell? ⟨w.heap.size + 1 + 1, 2, none⟩ = some r2 ∧ w1.frozen? ⟨w.heap.size + 1 + 1, 0, none⟩ = false ∧ w1.frozen? ⟨w.heap.size + 1 + 1, 1, none⟩ = false ∧ w1.frozen? ⟨w.heap.size + 1 + 1, 2, none⟩ = false ∧ w.heap.size + 1 + 1 < w1.heap.size ∧ w.heap.size < w1.heap.size := by
  have hz := hf.size
  simp at hz
  have b0 : w1.heap[w.heap.size]? = some (.cells #[m0, m1, m2] 41 (0, 0)) :=
    (hf.block _ (by simp; omega) (by omega)).trans ((Below.heap_alloc _ _ _ (by simp; omega)).trans ((Below.heap_alloc _ _ _ (by simp)).trans (heap_alloc_new _ _)))
  have b1 : w1.heap[w.heap.size + 1]? = some (.cells #[a0, a1, a2, a3] 45 (0, 0)) :=
    (hf.block _ (by simp) (by omega)).trans ((Below.heap_alloc _ _ _ (by simp)).trans (by have := heap_alloc_new (w.alloc (.cells #[m0, m1, m2] 41)) (.cells #[a0, a1, a2, a3] 45); simpa using this))
  have b2 : w1.heap[w.heap.size + 1 + 1]? = some (.cells #[r0, r1, r2] 41 (0, 0)) :=
    (hf.block _ (by simp) (by omega)).trans (by have := heap_alloc_new ((w.alloc (.cells #[m0, m1, m2] 41)).alloc (.cells #[a0, a1, a2, a3] 45)) (.cells #[r0, r1, r2] 41); simpa using this)
  refine ⟨?_, ?_, ?_, ?_, ?_, ?_, ?_, ?_, ?_, ?_, ?_, by omega, by omega⟩ <;> simp [World.cell?, World.frozen?, b0, b1, b2]
theorem fr3 (w : World) (o1 o2 o3 : Obj) (S : Nat → Prop) : Fr w (((w.alloc o1).alloc o2).alloc o3) S := by
  refine ((Fr.alloc w o1 S).trans (Fr.alloc (w.alloc o1) o2 S) (fun _ _ h => h)).trans (Fr.alloc ((w.alloc o1).alloc o2) o3 S) (fun _ _ h => h)
theorem fset3 {w w2 : World} (v0 v1 v2 : Value) : Fr w2 (((w2.setCell ⟨w.heap.size + 1 + 1, 0, none⟩ v0).setCell ⟨w.heap.size + 1 + 1, 1, none⟩ v1).setCell ⟨w.heap.size + 1 + 1, 2, none⟩ v2) (fun k => k = w.heap.size + 1 + 1) :=
  ((Fr.setCell (S := fun k => k = w.heap.size + 1 + 1) w2 _ v0 rfl).trans (Fr.setCell (S := fun k => k = w.heap.size + 1 + 1) _ _ v1 rfl) (fun _ _ h => h)).trans (Fr.setCell (S := fun k => k = w.heap.size + 1 + 1) _ _ v2 rfl) (fun _ _ h => h)
/-- Behind it all: the reader, and what is left alone. -/
theorem one_end {w w1 w2 w3 : World} {p : Nat} {s : ByteArray} {a e : Int} {o1 o2 o3 : Obj} (hp : p < w.heap.size) (hf1 : Fr (((w.alloc o1).alloc o2).alloc o3) w1 (fun k => k = p)) (hr1 : Rd w1 p s a e) (hb2 : Below w1.heap.size w1 w2) (hf3 : Fr w2 w3 (fun k => w.heap.size ≤ k)) :
    Rd w3 p s a e ∧ Fr w w3 (fun k => k = p) := by
  refine ⟨(hr1.below hb2).kept hf3 (by omega), ?_⟩
  have h1 := (fr3 w o1 o2 o3 (fun k => k = p)).trans hf1 (fun _ _ h => h)
  have h2 := h1.trans (Fr.ofBelow hb2 (fun k => k = p)) (fun _ _ h => h)
  exact h2.trans hf3 (fun i hi h => by omega)
theorem rdCount_le {s : ByteArray} {a : Nat} {e most : Int} (ha : a ≤ s.size) : (rdCount s a e most).2.1 ≤ s.size := by
  obtain ⟨⟨n, b, f⟩, hq⟩ : ∃ q, rdNum s a e = q := ⟨_, rfl⟩
  rcases rd_via ha hq with ⟨_, _, _, hw⟩ | ⟨_, _, _, k, _, hk, hw⟩
  · rw [show rdCount s a e most = _ from hw Nat 0 _]; exact ha
  · rw [show rdCount s a e most = _ from hw Nat 0 _]; split <;> assumption
theorem rdBool_le {s : ByteArray} {a : Nat} {e : Int} (ha : a ≤ s.size) : (rdBool s a e).2.1 ≤ s.size := by
  obtain ⟨⟨n, b, f⟩, hq⟩ : ∃ q, rdNum s a e = q := ⟨_, rfl⟩
  rcases rd_via ha hq with ⟨_, _, _, hw⟩ | ⟨_, _, _, k, _, hk, hw⟩
  · rw [show rdBool s a e = _ from hw Bool false _]; exact ha
  · rw [show rdBool s a e = _ from hw Bool false _]; split <;> assumption
theorem rdBytes_le' {s : ByteArray} {a : Nat} {e n : Int} (ha : a ≤ s.size) : (rdBytes s a e n).2.1 ≤ s.size := by
  unfold rdBytes
  split
  · split
    · exact ha
    · split
      · exact ha
      · simp only; omega
  · exact ha
theorem rdText_le' {s : ByteArray} {a : Nat} {e : Int} (ha : a ≤ s.size) : (rdText s a e).2.1 ≤ s.size := rdText_le ha (x := (rdText s a e).1) (e' := (rdText s a e).2.2) rfl

set_option maxRecDepth 100000 in
set_option maxHeartbeats 1000000 in
theorem one_bytes {w : World} {p : Nat} {s : ByteArray} {a : Nat} {e n : Int} (x : Int) (t : ByteArray) (h : Rd w p s a e) (hs : s.size ≤ maxLen) (ha : a ≤ s.size) (hn : n ≤ 9223372036854775807) :
    Calls Try.prog 23 #[.pointer (some ⟨p, 0, none⟩), .agg #[.string s, .int .i64 a, .int .i64 e], .agg #[.int .i64 0, .int .i64 n, .int .u64 x, .string t]] w fun r w' =>
      ∃ (a' : Nat) (e' : Int), r = .returned (.tuple #[.agg #[.string s, .int .i64 a', .int .i64 e'], .bool true]) ∧ a' ≤ s.size ∧ Rd w' p s a' e' ∧ Fr w w' (fun k => k = p) := by
  have hp := h.lt
  have _hn := hn
  go_enter Try.func23, Try.ntmps23
  go_wp2_with (first
    | (go_at_call 31; refine (rbytes_any (h.kept (fr3 _ _ _ _ (fun _ => False)) (fun h => h)) hs ha).mono ?_; rintro r w1 ⟨rfl, hr1, hf1⟩; obtain ⟨m0, m1, m2, mf, c1, q0, q1, q2, f0, f1, f2, hz, hz0⟩ := boxes hp hf1)
    | (go_at_call 42; refine (fbytes_any _ hs ha).mono ?_; rintro r w2 ⟨rfl, hb2⟩; obtain ⟨n0, n1, n2, nf, d1, g0, g1, g2, l0, l1, l2, hy, hy0⟩ := boxes hp (hf1.trans (Fr.ofBelow hb2 (fun k => k = p)) (fun _ _ h => h))))
  refine bodyPost_ret (v := .tuple #[.agg #[.string s, .int .i64 (rdBytes s a e n).2.1, .int .i64 (rdBytes s a e n).2.2], .bool true]) (by simp [results, Try.results23, go_sem, g0, g1, g2, hy]) rfl ⟨_, _, rfl, rdBytes_le' ha, ?_⟩
  exact one_end hp hf1 hr1 hb2 (((fset3 _ _ _).mono (fun _ _ h => by omega)).trans (Fr.alloc _ _ _) (fun _ _ h => h))

set_option maxRecDepth 100000 in
set_option maxHeartbeats 1000000 in
theorem one_number {w : World} {p : Nat} {s : ByteArray} {a : Nat} {e n : Int} (x : Int) (t : ByteArray) (h : Rd w p s a e) (hs : s.size ≤ maxLen) (ha : a ≤ s.size) (hn : n ≤ 9223372036854775807) :
    Calls Try.prog 23 #[.pointer (some ⟨p, 0, none⟩), .agg #[.string s, .int .i64 a, .int .i64 e], .agg #[.int .i64 1, .int .i64 n, .int .u64 x, .string t]] w fun r w' =>
      ∃ (a' : Nat) (e' : Int), r = .returned (.tuple #[.agg #[.string s, .int .i64 a', .int .i64 e'], .bool true]) ∧ a' ≤ s.size ∧ Rd w' p s a' e' ∧ Fr w w' (fun k => k = p) := by
  have hp := h.lt
  have _hn := hn
  go_enter Try.func23, Try.ntmps23
  go_wp2_with (first
    | (go_at_call 32; refine (rnumber_any (h.kept (fr3 _ _ _ _ (fun _ => False)) (fun h => h)) hs ha).mono ?_; rintro r w1 ⟨rfl, hr1, hf1⟩; obtain ⟨m0, m1, m2, mf, c1, q0, q1, q2, f0, f1, f2, hz, hz0⟩ := boxes hp hf1)
    | (go_at_call 46; refine (fnumber_any _ hs ha).mono ?_; rintro r w2 ⟨rfl, hb2⟩; obtain ⟨n0, n1, n2, nf, d1, g0, g1, g2, l0, l1, l2, hy, hy0⟩ := boxes hp (hf1.trans (Fr.ofBelow hb2 (fun k => k = p)) (fun _ _ h => h))))
  refine bodyPost_ret (v := .tuple #[.agg #[.string s, .int .i64 (rdNum s a e).2.1, .int .i64 (rdNum s a e).2.2], .bool true]) (by simp [results, Try.results23, go_sem, g0, g1, g2, hy]) rfl ⟨_, _, rfl, (rdNum_lt s a e ha).2, ?_⟩
  exact one_end hp hf1 hr1 hb2 (((fset3 _ _ _).mono (fun _ _ h => by omega)).trans (Fr.alloc _ _ _) (fun _ _ h => h))

set_option maxRecDepth 100000 in
set_option maxHeartbeats 1000000 in
theorem one_signed {w : World} {p : Nat} {s : ByteArray} {a : Nat} {e n : Int} (x : Int) (t : ByteArray) (h : Rd w p s a e) (hs : s.size ≤ maxLen) (ha : a ≤ s.size) (hn : n ≤ 9223372036854775807) :
    Calls Try.prog 23 #[.pointer (some ⟨p, 0, none⟩), .agg #[.string s, .int .i64 a, .int .i64 e], .agg #[.int .i64 2, .int .i64 n, .int .u64 x, .string t]] w fun r w' =>
      ∃ (a' : Nat) (e' : Int), r = .returned (.tuple #[.agg #[.string s, .int .i64 a', .int .i64 e'], .bool true]) ∧ a' ≤ s.size ∧ Rd w' p s a' e' ∧ Fr w w' (fun k => k = p) := by
  have hp := h.lt
  have _hn := hn
  go_enter Try.func23, Try.ntmps23
  go_wp2_with (first
    | (go_at_call 33; refine (rsigned_any (h.kept (fr3 _ _ _ _ (fun _ => False)) (fun h => h)) hs ha).mono ?_; rintro r w1 ⟨rfl, hr1, hf1⟩; obtain ⟨m0, m1, m2, mf, c1, q0, q1, q2, f0, f1, f2, hz, hz0⟩ := boxes hp hf1)
    | (go_at_call 47; refine (fsigned_any _ hs ha).mono ?_; rintro r w2 ⟨rfl, hb2⟩; obtain ⟨n0, n1, n2, nf, d1, g0, g1, g2, l0, l1, l2, hy, hy0⟩ := boxes hp (hf1.trans (Fr.ofBelow hb2 (fun k => k = p)) (fun _ _ h => h))))
  refine bodyPost_ret (v := .tuple #[.agg #[.string s, .int .i64 (rdNum s a e).2.1, .int .i64 (rdNum s a e).2.2], .bool true]) (by simp [results, Try.results23, go_sem, g0, g1, g2, hy]) rfl ⟨_, _, rfl, (rdNum_lt s a e ha).2, ?_⟩
  exact one_end hp hf1 hr1 hb2 (((fset3 _ _ _).mono (fun _ _ h => by omega)).trans (Fr.alloc _ _ _) (fun _ _ h => h))

set_option maxRecDepth 100000 in
set_option maxHeartbeats 1000000 in
theorem one_count {w : World} {p : Nat} {s : ByteArray} {a : Nat} {e n : Int} (x : Int) (t : ByteArray) (h : Rd w p s a e) (hs : s.size ≤ maxLen) (ha : a ≤ s.size) (hn : n ≤ 9223372036854775807) :
    Calls Try.prog 23 #[.pointer (some ⟨p, 0, none⟩), .agg #[.string s, .int .i64 a, .int .i64 e], .agg #[.int .i64 3, .int .i64 n, .int .u64 x, .string t]] w fun r w' =>
      ∃ (a' : Nat) (e' : Int), r = .returned (.tuple #[.agg #[.string s, .int .i64 a', .int .i64 e'], .bool true]) ∧ a' ≤ s.size ∧ Rd w' p s a' e' ∧ Fr w w' (fun k => k = p) := by
  have hp := h.lt
  have _hn := hn
  go_enter Try.func23, Try.ntmps23
  go_wp2_with (first
    | (go_at_call 38; refine (rcount_any (h.kept (fr3 _ _ _ _ (fun _ => False)) (fun h => h)) hs ha hn).mono ?_; rintro r w1 ⟨rfl, hr1, hf1⟩; obtain ⟨m0, m1, m2, mf, c1, q0, q1, q2, f0, f1, f2, hz, hz0⟩ := boxes hp hf1)
    | (go_at_call 48; refine (fcount_any _ hs ha hn).mono ?_; rintro r w2 ⟨rfl, hb2⟩; obtain ⟨n0, n1, n2, nf, d1, g0, g1, g2, l0, l1, l2, hy, hy0⟩ := boxes hp (hf1.trans (Fr.ofBelow hb2 (fun k => k = p)) (fun _ _ h => h))))
  refine bodyPost_ret (v := .tuple #[.agg #[.string s, .int .i64 (rdCount s a e n).2.1, .int .i64 (rdCount s a e n).2.2], .bool true]) (by simp [results, Try.results23, go_sem, g0, g1, g2, hy]) rfl ⟨_, _, rfl, rdCount_le ha, ?_⟩
  exact one_end hp hf1 hr1 hb2 (((fset3 _ _ _).mono (fun _ _ h => by omega)).trans (Fr.alloc _ _ _) (fun _ _ h => h))

set_option maxRecDepth 100000 in
set_option maxHeartbeats 1000000 in
theorem one_text {w : World} {p : Nat} {s : ByteArray} {a : Nat} {e n : Int} (x : Int) (t : ByteArray) (h : Rd w p s a e) (hs : s.size ≤ maxLen) (ha : a ≤ s.size) (hn : n ≤ 9223372036854775807) :
    Calls Try.prog 23 #[.pointer (some ⟨p, 0, none⟩), .agg #[.string s, .int .i64 a, .int .i64 e], .agg #[.int .i64 4, .int .i64 n, .int .u64 x, .string t]] w fun r w' =>
      ∃ (a' : Nat) (e' : Int), r = .returned (.tuple #[.agg #[.string s, .int .i64 a', .int .i64 e'], .bool true]) ∧ a' ≤ s.size ∧ Rd w' p s a' e' ∧ Fr w w' (fun k => k = p) := by
  have hp := h.lt
  have _hn := hn
  go_enter Try.func23, Try.ntmps23
  go_wp2_with (first
    | (go_at_call 34; refine (rtext_any (h.kept (fr3 _ _ _ _ (fun _ => False)) (fun h => h)) hs ha).mono ?_; rintro r w1 ⟨rfl, hr1, hf1⟩; obtain ⟨m0, m1, m2, mf, c1, q0, q1, q2, f0, f1, f2, hz, hz0⟩ := boxes hp hf1)
    | (go_at_call 41; refine (ftext_any _ hs ha).mono ?_; rintro r w2 ⟨rfl, hb2⟩; obtain ⟨n0, n1, n2, nf, d1, g0, g1, g2, l0, l1, l2, hy, hy0⟩ := boxes hp (hf1.trans (Fr.ofBelow hb2 (fun k => k = p)) (fun _ _ h => h))))
  refine bodyPost_ret (v := .tuple #[.agg #[.string s, .int .i64 (rdText s a e).2.1, .int .i64 (rdText s a e).2.2], .bool true]) (by simp [results, Try.results23, go_sem, g0, g1, g2, hy]) rfl ⟨_, _, rfl, rdText_le' ha, ?_⟩
  exact one_end hp hf1 hr1 hb2 (((fset3 _ _ _).mono (fun _ _ h => by omega)).trans (Fr.alloc _ _ _) (fun _ _ h => h))

set_option maxRecDepth 100000 in
set_option maxHeartbeats 1000000 in
theorem one_bool {w : World} {p : Nat} {s : ByteArray} {a : Nat} {e n : Int} (x : Int) (t : ByteArray) (h : Rd w p s a e) (hs : s.size ≤ maxLen) (ha : a ≤ s.size) (hn : n ≤ 9223372036854775807) :
    Calls Try.prog 23 #[.pointer (some ⟨p, 0, none⟩), .agg #[.string s, .int .i64 a, .int .i64 e], .agg #[.int .i64 5, .int .i64 n, .int .u64 x, .string t]] w fun r w' =>
      ∃ (a' : Nat) (e' : Int), r = .returned (.tuple #[.agg #[.string s, .int .i64 a', .int .i64 e'], .bool true]) ∧ a' ≤ s.size ∧ Rd w' p s a' e' ∧ Fr w w' (fun k => k = p) := by
  have hp := h.lt
  have _hn := hn
  go_enter Try.func23, Try.ntmps23
  go_wp2_with (first
    | (go_at_call 35; refine (rbool_any (h.kept (fr3 _ _ _ _ (fun _ => False)) (fun h => h)) hs ha).mono ?_; rintro r w1 ⟨rfl, hr1, hf1⟩; obtain ⟨m0, m1, m2, mf, c1, q0, q1, q2, f0, f1, f2, hz, hz0⟩ := boxes hp hf1)
    | (go_at_call 49; refine (fbool_any _ hs ha).mono ?_; rintro r w2 ⟨rfl, hb2⟩; obtain ⟨n0, n1, n2, nf, d1, g0, g1, g2, l0, l1, l2, hy, hy0⟩ := boxes hp (hf1.trans (Fr.ofBelow hb2 (fun k => k = p)) (fun _ _ h => h))))
  refine bodyPost_ret (v := .tuple #[.agg #[.string s, .int .i64 (rdBool s a e).2.1, .int .i64 (rdBool s a e).2.2], .bool true]) (by simp [results, Try.results23, go_sem, g0, g1, g2, hy]) rfl ⟨_, _, rfl, rdBool_le ha, ?_⟩
  exact one_end hp hf1 hr1 hb2 (((fset3 _ _ _).mono (fun _ _ h => by omega)).trans (Fr.alloc _ _ _) (fun _ _ h => h))

set_option maxRecDepth 100000 in
set_option maxHeartbeats 1000000 in
theorem one_fail {w : World} {p : Nat} {s : ByteArray} {a : Nat} {e n : Int} (x : Int) (t : ByteArray) (h : Rd w p s a e) (ha : a ≤ s.size) :
    Calls Try.prog 23 #[.pointer (some ⟨p, 0, none⟩), .agg #[.string s, .int .i64 a, .int .i64 e], .agg #[.int .i64 6, .int .i64 n, .int .u64 x, .string t]] w fun r w' =>
      ∃ (a' : Nat) (e' : Int), r = .returned (.tuple #[.agg #[.string s, .int .i64 a', .int .i64 e'], .bool true]) ∧ a' ≤ s.size ∧ Rd w' p s a' e' ∧ Fr w w' (fun k => k = p) := by
  have hp := h.lt
  have HA : Hid (a ≤ s.size) := ha
  by_cases he : e = 0
  · subst he
    go_enter Try.func23, Try.ntmps23
    go_wp2_with (go_at_call 37; refine (rfail_any (h.kept (fr3 _ _ _ _ (fun _ => False)) (fun h => h))).mono ?_; rintro r w1 ⟨rfl, hr1, hf1⟩; obtain ⟨m0, m1, m2, mf, c1, q0, q1, q2, f0, f1, f2, hz, hz0⟩ := boxes hp hf1)
    refine bodyPost_ret (v := .tuple #[.agg #[.string s, .int .i64 a, .int .i64 n], .bool true]) (by simp [results, Try.results23, go_sem, q0, q1, q2]) rfl ⟨_, _, rfl, HA.out, ?_⟩
    rw [rdFail_0] at hr1
    exact one_end hp hf1 hr1 (Below.refl _ _) ((Fr.setCell (S := fun k => w.heap.size ≤ k) _ _ _ (Nat.le_refl _)).trans ((fset3 _ _ _).mono (fun _ _ h => by omega)) (fun _ _ h => h))
  · have he0 : (e == 0) = false := by simp; omega
    go_enter Try.func23, Try.ntmps23
    go_wp2_with (go_at_call 37; refine (rfail_any (h.kept (fr3 _ _ _ _ (fun _ => False)) (fun h => h))).mono ?_; rintro r w1 ⟨rfl, hr1, hf1⟩; obtain ⟨m0, m1, m2, mf, c1, q0, q1, q2, f0, f1, f2, hz, hz0⟩ := boxes hp hf1)
    refine bodyPost_ret (v := .tuple #[.agg #[.string s, .int .i64 a, .int .i64 e], .bool true]) (by simp [results, Try.results23, go_sem, q0, q1, q2]) rfl ⟨_, _, rfl, HA.out, ?_⟩
    rw [rdFail_e he] at hr1
    exact one_end hp hf1 hr1 (Below.refl _ _) ((fset3 _ _ _).mono (fun _ _ h => by omega))

set_option maxRecDepth 100000 in
set_option maxHeartbeats 1000000 in
theorem one_rest {w : World} {p : Nat} {s : ByteArray} {a : Nat} {e n k : Int} (x : Int) (t : ByteArray) (h : Rd w p s a e) (hs : s.size ≤ maxLen) (ha : a ≤ s.size) (hk : ¬ (0 ≤ k ∧ k ≤ 6)) :
    Calls Try.prog 23 #[.pointer (some ⟨p, 0, none⟩), .agg #[.string s, .int .i64 a, .int .i64 e], .agg #[.int .i64 k, .int .i64 n, .int .u64 x, .string t]] w fun r w' =>
      ∃ (a' : Nat) (e' : Int), r = .returned (.tuple #[.agg #[.string s, .int .i64 a', .int .i64 e'], .bool true]) ∧ a' ≤ s.size ∧ Rd w' p s a' e' ∧ Fr w w' (fun k => k = p) := by
  have hp := h.lt
  have k0 : (k == 0) = false := by rw [beq_eq_false_iff_ne]; omega
  have k1 : (k == 1) = false := by rw [beq_eq_false_iff_ne]; omega
  have k2 : (k == 2) = false := by rw [beq_eq_false_iff_ne]; omega
  have k3 : (k == 3) = false := by rw [beq_eq_false_iff_ne]; omega
  have k4 : (k == 4) = false := by rw [beq_eq_false_iff_ne]; omega
  have k5 : (k == 5) = false := by rw [beq_eq_false_iff_ne]; omega
  have k6 : (k == 6) = false := by rw [beq_eq_false_iff_ne]; omega
  clear hk
  go_enter Try.func23, Try.ntmps23
  go_wp2_with (first
    | (go_at_call 36; refine (rend_any (h.kept (fr3 _ _ _ _ (fun _ => False)) (fun h => h)) hs ha).mono ?_; rintro r w1 ⟨rfl, hr1, hf1⟩; obtain ⟨m0, m1, m2, mf, c1, q0, q1, q2, f0, f1, f2, hz, hz0⟩ := boxes hp hf1)
    | (go_at_call 50; refine (fend_any _).mono ?_; rintro r w2 ⟨rfl, hb2⟩; obtain ⟨n0, n1, n2, nf, d1, g0, g1, g2, l0, l1, l2, hy, hy0⟩ := boxes hp (hf1.trans (Fr.ofBelow hb2 (fun k => k = p)) (fun _ _ h => h))))
  first | go_region | skip
  all_goals go_wp2
  all_goals
    refine bodyPost_ret (v := .tuple #[.agg #[.string s, .int .i64 a, .int .i64 (rdEnd s a e)], .bool true]) (by simp [results, Try.results23, go_sem, g0, g1, g2, hy]) rfl ⟨_, _, rfl, ha, ?_⟩
    exact one_end hp hf1 hr1 hb2 ((((fset3 _ _ _).mono (fun _ _ h => by omega)).trans (Fr.alloc _ _ _) (fun _ _ h => h)).trans (Fr.drew _ _) (fun _ _ h => h))

theorem one_any {w : World} {p : Nat} {s : ByteArray} {a : Nat} {e n k : Int} (x : Int) (t : ByteArray) (h : Rd w p s a e) (hs : s.size ≤ maxLen) (ha : a ≤ s.size) (hn : n ≤ 9223372036854775807) :
    Calls Try.prog 23 #[.pointer (some ⟨p, 0, none⟩), .agg #[.string s, .int .i64 a, .int .i64 e], .agg #[.int .i64 k, .int .i64 n, .int .u64 x, .string t]] w fun r w' =>
      ∃ (a' : Nat) (e' : Int), r = .returned (.tuple #[.agg #[.string s, .int .i64 a', .int .i64 e'], .bool true]) ∧ a' ≤ s.size ∧ Rd w' p s a' e' ∧ Fr w w' (fun k => k = p) := by
  rcases (show k = 0 ∨ k = 1 ∨ k = 2 ∨ k = 3 ∨ k = 4 ∨ k = 5 ∨ k = 6 ∨ ¬ (0 ≤ k ∧ k ≤ 6) from by omega) with rfl | rfl | rfl | rfl | rfl | rfl | rfl | hk
  · exact one_bytes x t h hs ha hn
  · exact one_number x t h hs ha hn
  · exact one_signed x t h hs ha hn
  · exact one_count x t h hs ha hn
  · exact one_text x t h hs ha hn
  · exact one_bool x t h hs ha hn
  · exact one_fail x t h ha
  · exact one_rest x t h hs ha hk
end Go.Proofs.Ythlmohbpedcmfaa
