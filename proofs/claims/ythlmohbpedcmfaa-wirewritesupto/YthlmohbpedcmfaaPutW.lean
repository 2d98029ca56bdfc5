/- What put does to a writer: the act's bytes are put behind what is there, and told. -/
import Derived.Test.YthlmohbpedcmfaaActs
import Derived.Test.YthlmohbpedcmfaaNilW
namespace Go.Proofs.Ythlmohbpedcmfaa
open Go.RowKit
/-- An act's bytes, as they are put. -/
def actB (y : ActV) : List UInt8 :=
  if y.k = 0 then y.t.data.toList else if y.k = 1 then numB y.x.toNat else if y.k = 2 then numB (foldN (wrap64 y.x)).toNat else if y.k = 3 then numB y.n.toNat else if y.k = 4 then textB y.t.data.toList else numB (y.x % 2).toNat
theorem actB_len (y : ActV) (h : y.ok) (ht : y.t.size ≤ 140737488355328) : (actB y).length ≤ y.t.size + 10 := by
  have hn := h.n1
  have hx := h.x1
  have hx0 := h.x0
  have hw : -9223372036854775808 ≤ wrap64 y.x ∧ wrap64 y.x ≤ 9223372036854775807 := by unfold wrap64; omega
  have hf := fold_bd _ hw.1 hw.2
  unfold actB
  split
  · simp
  split
  · have := numB_len10 (n := y.x.toNat) (by omega); omega
  split
  · have := numB_len10 (n := (foldN (wrap64 y.x)).toNat) (by omega); omega
  split
  · have := numB_len10 (n := y.n.toNat) (by omega); omega
  split
  · exact (textB_len y.t (by omega)).1
  · have := numB_len10 (n := (y.x % 2).toNat) (by omega); omega
theorem actB0 {y : ActV} (h : y.k = 0) : actB y = y.t.data.toList := by unfold actB; rw [if_pos h]
theorem actB1 {y : ActV} (h : y.k = 1) : actB y = numB y.x.toNat := by unfold actB; rw [if_neg (by omega), if_pos h]
theorem actB2 {y : ActV} (h : y.k = 2) : actB y = numB (foldN (wrap64 y.x)).toNat := by unfold actB; rw [if_neg (by omega), if_neg (by omega), if_pos h]
theorem actB3 {y : ActV} (h : y.k = 3) : actB y = numB y.n.toNat := by unfold actB; rw [if_neg (by omega), if_neg (by omega), if_neg (by omega), if_pos h]
theorem actB4 {y : ActV} (h : y.k = 4) : actB y = textB y.t.data.toList := by unfold actB; rw [if_neg (by omega), if_neg (by omega), if_neg (by omega), if_neg (by omega), if_pos h]
theorem actB5 {y : ActV} (h : ¬ (0 ≤ y.k ∧ y.k ≤ 4)) : actB y = numB (y.x % 2).toNat := by unfold actB; rw [if_neg (by omega), if_neg (by omega), if_neg (by omega), if_neg (by omega), if_neg (by omega)]
theorem actbox {w w2 : World} {p : Nat} {v a0 a1 a2 a3 : Value} (hp : p < w.heap.size) (hv : ∀ k, v.ownBlock = some k → k < w.heap.size) (hf : Fr (w.alloc (.cells #[a0, a1, a2, a3] 45)) w2 (fun k => k = p ∨ v.ownBlock = some k)) :
    w2.cell? ⟨w.heap.size, 1, none⟩ = some a1 ∧ w2.cell? ⟨w.heap.size, 2, none⟩ = some a2 ∧ w2.cell? ⟨w.heap.size, 3, none⟩ = some a3 := by
  have h : w2.heap[w.heap.size]? = some (.cells #[a0, a1, a2, a3] 45 (0, 0)) := by
    refine (hf.block w.heap.size (by simp) ?_).trans (heap_alloc_new _ _)
    rintro (e | e)
    · omega
    · have := hv _ e; omega
  simp [World.cell?, h]
theorem Wr.own_lt {w : World} {base p : Nat} {v : Value} {l : List UInt8} (h : Wr w base p v l) : ∀ k, v.ownBlock = some k → k < w.heap.size := fun k hk => (h.own.lt k hk).2
theorem Wr.alloc {w : World} {base p : Nat} {v : Value} {l : List UInt8} (h : Wr w base p v l) (o : Obj) : Wr (w.alloc o) base p v l := h.kept (Fr.alloc w o (fun _ => False)) (fun h => h) (fun _ _ h => h)
/-- Behind the writer's method, and what tells the bytes. -/
theorem put_end {w w2 w3 : World} {base p : Nat} {v v' : Value} {l : List UInt8} {o : Obj} (hf : Fr (w.alloc o) w2 (fun k => k = p ∨ v.ownBlock = some k)) (hw : Wr w2 base p v' l) (hr : Row (w.alloc o) v v') (hb : Below w2.heap.size w2 w3) :
    ∃ v', Wr w3 base p v' l ∧ Fr w w3 (fun k => k = p ∨ v.ownBlock = some k) ∧ Row w v v' := by
  refine ⟨v', hw.kept (Fr.ofBelow hb (fun _ => False)) (fun h => h) (fun _ _ h => h), ((Fr.alloc w o _).trans hf (fun _ _ h => h)).trans (Fr.ofBelow hb _) (fun _ _ h => h), ?_⟩
  rcases hr with h | ⟨g, h, hg⟩
  · exact Or.inl h
  · exact Or.inr ⟨g, h, by simp at hg; omega⟩

set_option maxRecDepth 100000 in
theorem put_bytes {w : World} {base p : Nat} {v : Value} {l : List UInt8} {n : Int} {x : Nat} (t : ByteArray) (h : Wr w base p v l) (hn : -9223372036854775808 ≤ n ∧ n ≤ 9223372036854775807) (hx : x < 18446744073709551616) (ht : l.length + t.size + 10 ≤ 140737488355328) :
    Calls Try.prog 28 #[.pointer (some ⟨p, 0, none⟩), .agg #[.int .i64 0, .int .i64 n, .int .u64 x, .string t]] w fun r w' => r = .returned (.string (str (t.data.toList))) ∧ ∃ v', Wr w' base p v' (l ++ t.data.toList) ∧ Fr w w' (fun k => k = p ∨ v.ownBlock = some k) ∧ Row w v v' := by
  have hp := h.lt
  have hv := h.own_lt
  have HX : Hid (x < 18446744073709551616) := hx
  have HN : Hid (-9223372036854775808 ≤ n ∧ n ≤ 9223372036854775807) := hn
  have HR : Hid (l.length + t.size + 10 ≤ 140737488355328) := ht
  have HA := fun o => h.alloc o
  clear hx hn ht
  go_enter Try.func28, Try.ntmps28
  go_wp2_with (first
    | (go_at_call 51; refine (wbytes_any t (HA _) (by have := HR.out; omega)).mono ?_; rintro r w2 ⟨rfl, v2, hw2, hf2, hr2⟩; obtain ⟨c1, c2, c3⟩ := actbox hp hv hf2))
  go_ret
  exact ⟨rfl, put_end hf2 hw2 hr2 (Below.refl _ _)⟩

set_option maxRecDepth 100000 in
theorem put_number {w : World} {base p : Nat} {v : Value} {l : List UInt8} {n : Int} {x : Nat} (t : ByteArray) (h : Wr w base p v l) (hn : -9223372036854775808 ≤ n ∧ n ≤ 9223372036854775807) (hx : x < 18446744073709551616) (ht : l.length + t.size + 10 ≤ 140737488355328) :
    Calls Try.prog 28 #[.pointer (some ⟨p, 0, none⟩), .agg #[.int .i64 1, .int .i64 n, .int .u64 x, .string t]] w fun r w' => r = .returned (.string (str (numB x))) ∧ ∃ v', Wr w' base p v' (l ++ numB x) ∧ Fr w w' (fun k => k = p ∨ v.ownBlock = some k) ∧ Row w v v' := by
  have hp := h.lt
  have hv := h.own_lt
  have HX : Hid (x < 18446744073709551616) := hx
  have HN : Hid (-9223372036854775808 ≤ n ∧ n ≤ 9223372036854775807) := hn
  have HR : Hid (l.length + t.size + 10 ≤ 140737488355328) := ht
  have HA := fun o => h.alloc o
  clear hx hn ht
  go_enter Try.func28, Try.ntmps28
  go_wp2_with (first
    | (go_at_call 52; refine (wnumber_any x (HA _) HX.out (by have := HR.out; omega)).mono ?_; rintro r w2 ⟨rfl, v2, hw2, hf2, hr2⟩; obtain ⟨c1, c2, c3⟩ := actbox hp hv hf2)
    | (go_at_call 11; refine (refnumber_any x _ HX.out).mono ?_; rintro r w3 ⟨rfl, hb3⟩))
  go_ret
  exact ⟨rfl, put_end hf2 hw2 hr2 hb3⟩

set_option maxRecDepth 100000 in
theorem put_signed {w : World} {base p : Nat} {v : Value} {l : List UInt8} {n : Int} {x : Nat} (t : ByteArray) (h : Wr w base p v l) (hn : -9223372036854775808 ≤ n ∧ n ≤ 9223372036854775807) (hx : x < 18446744073709551616) (ht : l.length + t.size + 10 ≤ 140737488355328) :
    Calls Try.prog 28 #[.pointer (some ⟨p, 0, none⟩), .agg #[.int .i64 2, .int .i64 n, .int .u64 x, .string t]] w fun r w' => r = .returned (.string (str (numB (foldN (wrap64 (x : Int))).toNat))) ∧ ∃ v', Wr w' base p v' (l ++ numB (foldN (wrap64 (x : Int))).toNat) ∧ Fr w w' (fun k => k = p ∨ v.ownBlock = some k) ∧ Row w v v' := by
  have hp := h.lt
  have hv := h.own_lt
  have HX : Hid (x < 18446744073709551616) := hx
  have HN : Hid (-9223372036854775808 ≤ n ∧ n ≤ 9223372036854775807) := hn
  have HR : Hid (l.length + t.size + 10 ≤ 140737488355328) := ht
  have HA := fun o => h.alloc o
  have hw := wrap_i64_bd x
  clear hx hn ht
  go_enter Try.func28, Try.ntmps28
  go_wp2_with (first
    | (go_at_call 53; refine (wsigned_any _ (HA _) hw.1 hw.2 (by have := HR.out; omega)).mono ?_; rintro r w2 ⟨rfl, v2, hw2, hf2, hr2⟩; obtain ⟨c1, c2, c3⟩ := actbox hp hv hf2)
    | (go_at_call 54; refine (refsigned_any _ _ hw.1 hw.2).mono ?_; rintro r w3 ⟨rfl, hb3⟩))
  go_ret
  exact ⟨rfl, put_end hf2 hw2 hr2 hb3⟩

set_option maxRecDepth 100000 in
theorem put_text {w : World} {base p : Nat} {v : Value} {l : List UInt8} {n : Int} {x : Nat} (t : ByteArray) (h : Wr w base p v l) (hn : -9223372036854775808 ≤ n ∧ n ≤ 9223372036854775807) (hx : x < 18446744073709551616) (ht : l.length + t.size + 10 ≤ 140737488355328) :
    Calls Try.prog 28 #[.pointer (some ⟨p, 0, none⟩), .agg #[.int .i64 4, .int .i64 n, .int .u64 x, .string t]] w fun r w' => r = .returned (.string (str (textB t.data.toList))) ∧ ∃ v', Wr w' base p v' (l ++ textB t.data.toList) ∧ Fr w w' (fun k => k = p ∨ v.ownBlock = some k) ∧ Row w v v' := by
  have hp := h.lt
  have hv := h.own_lt
  have HX : Hid (x < 18446744073709551616) := hx
  have HN : Hid (-9223372036854775808 ≤ n ∧ n ≤ 9223372036854775807) := hn
  have HR : Hid (l.length + t.size + 10 ≤ 140737488355328) := ht
  have HA := fun o => h.alloc o
  have HT : Hid (t.size ≤ 140737488355328) := by show _ ≤ _; omega
  clear hx hn ht
  go_enter Try.func28, Try.ntmps28
  go_wp2_with (first
    | (go_at_call 44; refine (wtext_any t (HA _) HR.out).mono ?_; rintro r w2 ⟨rfl, v2, hw2, hf2, hr2⟩; obtain ⟨c1, c2, c3⟩ := actbox hp hv hf2)
    | (go_at_call 45; refine (reftext_any t _ HT.out).mono ?_; rintro r w3 ⟨rfl, hb3⟩))
  go_ret
  exact ⟨rfl, put_end hf2 hw2 hr2 hb3⟩

set_option maxRecDepth 100000 in
theorem put_count {w : World} {base p : Nat} {v : Value} {l : List UInt8} {n : Int} {x : Nat} (t : ByteArray) (h : Wr w base p v l) (hn : -9223372036854775808 ≤ n ∧ n ≤ 9223372036854775807) (hx : x < 18446744073709551616) (ht : l.length + t.size + 10 ≤ 140737488355328) :
    Calls Try.prog 28 #[.pointer (some ⟨p, 0, none⟩), .agg #[.int .i64 3, .int .i64 n, .int .u64 x, .string t]] w fun r w' => r = .returned (.string (str (numB n.toNat))) ∧ ∃ v', Wr w' base p v' (l ++ numB n.toNat) ∧ Fr w w' (fun k => k = p ∨ v.ownBlock = some k) ∧ Row w v v' := by
  have hp := h.lt
  have hv := h.own_lt
  have HR : Hid (l.length + t.size + 10 ≤ 140737488355328) := ht
  have HA := fun o => h.alloc o
  have _hx := hx
  have HN : Hid (n ≤ 9223372036854775807) := hn.2
  by_cases hneg : n < 0
  · have hz : n.toNat = 0 := by omega
    rw [hz]
    have hC := fun o => wcount_any n (HA o) HN.out (by have := HR.out; omega)
    rw [hz] at hC
    clear hx hn ht hz
    go_enter Try.func28, Try.ntmps28
    go_wp2_with (first
      | (go_at_call 55; refine (hC _).mono ?_; rintro r w2 ⟨rfl, v2, hw2, hf2, hr2⟩; obtain ⟨c1, c2, c3⟩ := actbox hp hv hf2)
      | (go_at_call 11; refine (refnumber_any 0 _ (by decide)).mono ?_; rintro r w3 ⟨rfl, hb3⟩))
    go_ret
    exact ⟨rfl, put_end hf2 hw2 hr2 hb3⟩
  · obtain ⟨m, rfl⟩ : ∃ m : Nat, n = m := ⟨n.toNat, by omega⟩
    have HM : Hid (m < 18446744073709551616) := by show _ < _; omega
    have hC := fun o => wcount_any (m : Int) (HA o) HN.out (by have := HR.out; omega)
    rw [Int.toNat_natCast] at hC ⊢
    have _hmb : (m : Int) ≤ 9223372036854775807 := hn.2
    clear hx hn ht
    go_enter Try.func28, Try.ntmps28
    go_wp2_with (first
      | (go_at_call 55; refine (hC _).mono ?_; rintro r w2 ⟨rfl, v2, hw2, hf2, hr2⟩; obtain ⟨c1, c2, c3⟩ := actbox hp hv hf2)
      | (go_at_call 11; refine (refnumber_any m _ HM.out).mono ?_; rintro r w3 ⟨rfl, hb3⟩))
    go_ret
    exact ⟨rfl, put_end hf2 hw2 hr2 hb3⟩

set_option maxRecDepth 100000 in
theorem put_bool {w : World} {base p : Nat} {v : Value} {l : List UInt8} {n k : Int} {x : Nat} (t : ByteArray) (h : Wr w base p v l) (hn : -9223372036854775808 ≤ n ∧ n ≤ 9223372036854775807) (hx : x < 18446744073709551616) (ht : l.length + t.size + 10 ≤ 140737488355328) (hk : ¬ (0 ≤ k ∧ k ≤ 4)) :
    Calls Try.prog 28 #[.pointer (some ⟨p, 0, none⟩), .agg #[.int .i64 k, .int .i64 n, .int .u64 x, .string t]] w fun r w' => r = .returned (.string (str (numB (x % 2)))) ∧ ∃ v', Wr w' base p v' (l ++ numB (x % 2)) ∧ Fr w w' (fun k => k = p ∨ v.ownBlock = some k) ∧ Row w v v' := by
  have hp := h.lt
  have hv := h.own_lt
  have HR : Hid (l.length + t.size + 10 ≤ 140737488355328) := ht
  have HA := fun o => h.alloc o
  have _hx := hx
  have _hn := hn
  have k0 : (k == 0) = false := by rw [beq_eq_false_iff_ne]; omega
  have k1 : (k == 1) = false := by rw [beq_eq_false_iff_ne]; omega
  have k2 : (k == 2) = false := by rw [beq_eq_false_iff_ne]; omega
  have k3 : (k == 3) = false := by rw [beq_eq_false_iff_ne]; omega
  have k4 : (k == 4) = false := by rw [beq_eq_false_iff_ne]; omega
  rcases Nat.mod_two_eq_zero_or_one x with hz | hz
  · have e : (x : Int) % 2 = 0 := by omega
    have hB := fun o => wbool_any false (HA o) (by have := HR.out; omega)
    rw [hz]
    rw [show Bool.toNat false = 0 from rfl] at hB
    clear hx hn ht hz hk
    go_enter Try.func28, Try.ntmps28
    go_wp2_with (first
      | (go_at_call 56; refine (hB _).mono ?_; rintro r w2 ⟨rfl, v2, hw2, hf2, hr2⟩; obtain ⟨c1, c2, c3⟩ := actbox hp hv hf2)
      | (go_at_call 11; refine (refnumber_any 0 _ (by decide)).mono ?_; rintro r w3 ⟨rfl, hb3⟩))
    go_ret
    exact ⟨rfl, put_end hf2 hw2 hr2 hb3⟩
  · have e : (x : Int) % 2 = 1 := by omega
    have hB := fun o => wbool_any true (HA o) (by have := HR.out; omega)
    rw [hz]
    rw [show Bool.toNat true = 1 from rfl] at hB
    clear hx hn ht hz hk
    go_enter Try.func28, Try.ntmps28
    go_wp2_with (first
      | (go_at_call 56; refine (hB _).mono ?_; rintro r w2 ⟨rfl, v2, hw2, hf2, hr2⟩; obtain ⟨c1, c2, c3⟩ := actbox hp hv hf2)
      | (go_at_call 11; refine (refnumber_any 1 _ (by decide)).mono ?_; rintro r w3 ⟨rfl, hb3⟩))
    go_ret
    exact ⟨rfl, put_end hf2 hw2 hr2 hb3⟩

theorem put_any {w : World} {base p : Nat} {v : Value} {l : List UInt8} (y : ActV) (h : Wr w base p v l) (hok : y.ok) (ht : l.length + y.t.size + 10 ≤ 140737488355328) :
    Calls Try.prog 28 #[.pointer (some ⟨p, 0, none⟩), .agg #[.int .i64 y.k, .int .i64 y.n, .int .u64 y.x, .string y.t]] w fun r w' => r = .returned (.string (str (actB y))) ∧ ∃ v', Wr w' base p v' (l ++ actB y) ∧ Fr w w' (fun k => k = p ∨ v.ownBlock = some k) ∧ Row w v v' := by
  obtain ⟨k, n, x, t⟩ := y
  have hx0 : 0 ≤ x := hok.x0
  have hx1 : x ≤ 18446744073709551615 := hok.x1
  have hn : -9223372036854775808 ≤ n ∧ n ≤ 9223372036854775807 := ⟨hok.n0, hok.n1⟩
  obtain ⟨m, rfl⟩ : ∃ m : Nat, x = m := ⟨x.toNat, by omega⟩
  have hm : m < 18446744073709551616 := by omega
  rcases (show k = 0 ∨ k = 1 ∨ k = 2 ∨ k = 3 ∨ k = 4 ∨ ¬ (0 ≤ k ∧ k ≤ 4) from by omega) with rfl | rfl | rfl | rfl | rfl | hk
  · have e : actB ⟨0, n, m, t⟩ = t.data.toList := actB0 rfl
    rw [e]; exact put_bytes t h hn hm ht
  · have e : actB ⟨1, n, m, t⟩ = numB m := (actB1 rfl).trans (by show numB ((m : Int).toNat) = _; rw [Int.toNat_natCast])
    rw [e]; exact put_number t h hn hm ht
  · have e : actB ⟨2, n, m, t⟩ = numB (foldN (wrap64 (m : Int))).toNat := actB2 rfl
    rw [e]; exact put_signed t h hn hm ht
  · have e : actB ⟨3, n, m, t⟩ = numB n.toNat := actB3 rfl
    rw [e]; exact put_count t h hn hm ht
  · have e : actB ⟨4, n, m, t⟩ = textB t.data.toList := actB4 rfl
    rw [e]; exact put_text t h hn hm ht
  · have e : actB ⟨k, n, m, t⟩ = numB (m % 2) := (actB5 hk).trans (by show numB (((m : Int) % 2).toNat) = _; rw [show ((m : Int) % 2).toNat = m % 2 by omega])
    rw [e]
    exact put_bool t h hn hm ht hk
end Go.Proofs.Ythlmohbpedcmfaa
