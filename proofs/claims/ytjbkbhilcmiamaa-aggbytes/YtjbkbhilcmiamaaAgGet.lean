/- agg.Get, and two aggregates held against one another. -/
import Derived.Test.YtjbkbhilcmiamaaAgAny
import Derived.Laws.StructEq
namespace Go.Proofs.Ytjbkbhilcmiamaa
open Go.RowKit

theorem get_out (h : Nat → Bool) (v : Nat → Int) (k : Int) (w : World) (hk : ¬ (0 ≤ k ∧ k ≤ 4)) :
    Calls Try.prog 11 #[AG h v, .int .i64 k] w fun e w' => e = .returned (.tuple #[.int .i64 0, .bool false]) ∧ Below w.heap.size w w' := by
  have hu : undef = Value.tuple #[] := rfl
  unfold AG
  go_enter Try.func11, Try.ntmps11
  go_wp2_with (go_at_call 36; refine (known_out k _ hk).mono ?_; rintro e w1 ⟨rfl, rfl⟩)
  go_returns
  exact ⟨rfl, by go_grown⟩
theorem get_yes0 (h : Nat → Bool) (v : Nat → Int) (w : World) (hh : h 0 = true) :
    Calls Try.prog 11 #[AG h v, .int .i64 0] w fun e w' => e = .returned (.tuple #[.int .i64 (v 0), .bool true]) ∧ Below w.heap.size w w' := by
  unfold AG
  go_enter Try.func11, Try.ntmps11
  go_wp2_with (go_at_call 36; refine (known_in _ _ (by decide) (by decide)).mono ?_; rintro e w1 ⟨rfl, rfl⟩)
  go_returns
  exact ⟨rfl, by go_grown⟩
theorem get_no0 (h : Nat → Bool) (v : Nat → Int) (w : World) (hh : h 0 = false) :
    Calls Try.prog 11 #[AG h v, .int .i64 0] w fun e w' => e = .returned (.tuple #[.int .i64 0, .bool false]) ∧ Below w.heap.size w w' := by
  unfold AG
  go_enter Try.func11, Try.ntmps11
  go_wp2_with (go_at_call 36; refine (known_in _ _ (by decide) (by decide)).mono ?_; rintro e w1 ⟨rfl, rfl⟩)
  go_returns
  exact ⟨rfl, by go_grown⟩
theorem get_yes1 (h : Nat → Bool) (v : Nat → Int) (w : World) (hh : h 1 = true) :
    Calls Try.prog 11 #[AG h v, .int .i64 1] w fun e w' => e = .returned (.tuple #[.int .i64 (v 1), .bool true]) ∧ Below w.heap.size w w' := by
  unfold AG
  go_enter Try.func11, Try.ntmps11
  go_wp2_with (go_at_call 36; refine (known_in _ _ (by decide) (by decide)).mono ?_; rintro e w1 ⟨rfl, rfl⟩)
  go_returns
  exact ⟨rfl, by go_grown⟩
theorem get_no1 (h : Nat → Bool) (v : Nat → Int) (w : World) (hh : h 1 = false) :
    Calls Try.prog 11 #[AG h v, .int .i64 1] w fun e w' => e = .returned (.tuple #[.int .i64 0, .bool false]) ∧ Below w.heap.size w w' := by
  unfold AG
  go_enter Try.func11, Try.ntmps11
  go_wp2_with (go_at_call 36; refine (known_in _ _ (by decide) (by decide)).mono ?_; rintro e w1 ⟨rfl, rfl⟩)
  go_returns
  exact ⟨rfl, by go_grown⟩
theorem get_yes2 (h : Nat → Bool) (v : Nat → Int) (w : World) (hh : h 2 = true) :
    Calls Try.prog 11 #[AG h v, .int .i64 2] w fun e w' => e = .returned (.tuple #[.int .i64 (v 2), .bool true]) ∧ Below w.heap.size w w' := by
  unfold AG
  go_enter Try.func11, Try.ntmps11
  go_wp2_with (go_at_call 36; refine (known_in _ _ (by decide) (by decide)).mono ?_; rintro e w1 ⟨rfl, rfl⟩)
  go_returns
  exact ⟨rfl, by go_grown⟩
theorem get_no2 (h : Nat → Bool) (v : Nat → Int) (w : World) (hh : h 2 = false) :
    Calls Try.prog 11 #[AG h v, .int .i64 2] w fun e w' => e = .returned (.tuple #[.int .i64 0, .bool false]) ∧ Below w.heap.size w w' := by
  unfold AG
  go_enter Try.func11, Try.ntmps11
  go_wp2_with (go_at_call 36; refine (known_in _ _ (by decide) (by decide)).mono ?_; rintro e w1 ⟨rfl, rfl⟩)
  go_returns
  exact ⟨rfl, by go_grown⟩
theorem get_yes3 (h : Nat → Bool) (v : Nat → Int) (w : World) (hh : h 3 = true) :
    Calls Try.prog 11 #[AG h v, .int .i64 3] w fun e w' => e = .returned (.tuple #[.int .i64 (v 3), .bool true]) ∧ Below w.heap.size w w' := by
  unfold AG
  go_enter Try.func11, Try.ntmps11
  go_wp2_with (go_at_call 36; refine (known_in _ _ (by decide) (by decide)).mono ?_; rintro e w1 ⟨rfl, rfl⟩)
  go_returns
  exact ⟨rfl, by go_grown⟩
theorem get_no3 (h : Nat → Bool) (v : Nat → Int) (w : World) (hh : h 3 = false) :
    Calls Try.prog 11 #[AG h v, .int .i64 3] w fun e w' => e = .returned (.tuple #[.int .i64 0, .bool false]) ∧ Below w.heap.size w w' := by
  unfold AG
  go_enter Try.func11, Try.ntmps11
  go_wp2_with (go_at_call 36; refine (known_in _ _ (by decide) (by decide)).mono ?_; rintro e w1 ⟨rfl, rfl⟩)
  go_returns
  exact ⟨rfl, by go_grown⟩
theorem get_yes4 (h : Nat → Bool) (v : Nat → Int) (w : World) (hh : h 4 = true) :
    Calls Try.prog 11 #[AG h v, .int .i64 4] w fun e w' => e = .returned (.tuple #[.int .i64 (v 4), .bool true]) ∧ Below w.heap.size w w' := by
  unfold AG
  go_enter Try.func11, Try.ntmps11
  go_wp2_with (go_at_call 36; refine (known_in _ _ (by decide) (by decide)).mono ?_; rintro e w1 ⟨rfl, rfl⟩)
  go_returns
  exact ⟨rfl, by go_grown⟩
theorem get_no4 (h : Nat → Bool) (v : Nat → Int) (w : World) (hh : h 4 = false) :
    Calls Try.prog 11 #[AG h v, .int .i64 4] w fun e w' => e = .returned (.tuple #[.int .i64 0, .bool false]) ∧ Below w.heap.size w w' := by
  unfold AG
  go_enter Try.func11, Try.ntmps11
  go_wp2_with (go_at_call 36; refine (known_in _ _ (by decide) (by decide)).mono ?_; rintro e w1 ⟨rfl, rfl⟩)
  go_returns
  exact ⟨rfl, by go_grown⟩

def getO (o : Nat → Option Int) (k : Int) : Option Int := if 0 ≤ k ∧ k ≤ 4 then o k.toNat else none
theorem getO_out {o : Nat → Option Int} {k : Int} (h : ¬ (0 ≤ k ∧ k ≤ 4)) : getO o k = none := if_neg h
theorem getO_in {o : Nat → Option Int} {k : Nat} (h : k ≤ 4) : getO o (k : Int) = o k := by
  unfold getO
  rw [if_pos (by omega), Int.toNat_natCast]
theorem get_any (o : Nat → Option Int) (k : Int) (w : World) :
    Calls Try.prog 11 #[AO o, .int .i64 k] w fun e w' => e = .returned (.tuple #[.int .i64 ((getO o k).getD 0), .bool (getO o k).isSome]) ∧ Below w.heap.size w w' := by
  by_cases hk : 0 ≤ k ∧ k ≤ 4
  · rcases kind5 hk with rfl | rfl | rfl | rfl | rfl
    · rw [getO_in (by decide)]
      cases e : o 0 with
      | none => exact get_no0 (oh o) (ov o) w (oh_none e)
      | some y => exact (get_yes0 (oh o) (ov o) w (oh_some e)).mono fun e' w' h => ⟨h.1.trans (by rw [ov_some e]; rfl), h.2⟩
    · rw [getO_in (by decide)]
      cases e : o 1 with
      | none => exact get_no1 (oh o) (ov o) w (oh_none e)
      | some y => exact (get_yes1 (oh o) (ov o) w (oh_some e)).mono fun e' w' h => ⟨h.1.trans (by rw [ov_some e]; rfl), h.2⟩
    · rw [getO_in (by decide)]
      cases e : o 2 with
      | none => exact get_no2 (oh o) (ov o) w (oh_none e)
      | some y => exact (get_yes2 (oh o) (ov o) w (oh_some e)).mono fun e' w' h => ⟨h.1.trans (by rw [ov_some e]; rfl), h.2⟩
    · rw [getO_in (by decide)]
      cases e : o 3 with
      | none => exact get_no3 (oh o) (ov o) w (oh_none e)
      | some y => exact (get_yes3 (oh o) (ov o) w (oh_some e)).mono fun e' w' h => ⟨h.1.trans (by rw [ov_some e]; rfl), h.2⟩
    · rw [getO_in (by decide)]
      cases e : o 4 with
      | none => exact get_no4 (oh o) (ov o) w (oh_none e)
      | some y => exact (get_yes4 (oh o) (ov o) w (oh_some e)).mono fun e' w' h => ⟨h.1.trans (by rw [ov_some e]; rfl), h.2⟩
  · rw [getO_out hk]
    exact get_out (oh o) (ov o) k w hk

theorem und_ag : Try.prog.underlying 26 = some (.struct (Try.prog.fieldsOf 26)) := by kernel_rfl
theorem sizes_ag : (Try.prog.info? 2).map (fun i => i.size) = some 1 ∧ (Try.prog.info? 4).map (fun i => i.size) = some 1 ∧ (Try.prog.info? 23).map (fun i => i.size) = some 5 ∧ (Try.prog.info? 24).map (fun i => i.size) = some 5 := ⟨by kernel_rfl, by kernel_rfl, by kernel_rfl, by kernel_rfl⟩
theorem part_h (w : World) (h : Nat → Bool) (v : Nat → Int) : (part 23 #[.bool (h 0), .bool (h 1), .bool (h 2), .bool (h 3), .bool (h 4), .int .i64 (v 0), .int .i64 (v 1), .int .i64 (v 2), .int .i64 (v 3), .int .i64 (v 4)] 0).run Try.prog w = .ok (.agg #[.bool (h 0), .bool (h 1), .bool (h 2), .bool (h 3), .bool (h 4)]) w := by
  obtain ⟨i, hi, hs⟩ := Option.map_eq_some_iff.1 sizes_ag.2.2.1
  simp [part, typeInfo, hi, hs, sizeOf]
theorem part_v (w : World) (h : Nat → Bool) (v : Nat → Int) : (part 24 #[.bool (h 0), .bool (h 1), .bool (h 2), .bool (h 3), .bool (h 4), .int .i64 (v 0), .int .i64 (v 1), .int .i64 (v 2), .int .i64 (v 3), .int .i64 (v 4)] 5).run Try.prog w = .ok (.agg #[.int .i64 (v 0), .int .i64 (v 1), .int .i64 (v 2), .int .i64 (v 3), .int .i64 (v 4)]) w := by
  obtain ⟨i, hi, hs⟩ := Option.map_eq_some_iff.1 sizes_ag.2.2.2
  simp [part, typeInfo, hi, hs, sizeOf]
theorem part_b (w : World) (a b c d e : Bool) (i : Nat) (hi : i < 5) : ∃ x, (part 4 #[.bool a, .bool b, .bool c, .bool d, .bool e] i).run Try.prog w = .ok (.bool x) w := by
  obtain ⟨j, hj, hs⟩ := Option.map_eq_some_iff.1 sizes_ag.2.1
  have hc : i = 0 ∨ i = 1 ∨ i = 2 ∨ i = 3 ∨ i = 4 := by omega
  rcases hc with rfl | rfl | rfl | rfl | rfl <;> simp [part, typeInfo, hj, hs, sizeOf]
theorem part_i (w : World) (a b c d e : Int) (i : Nat) (hi : i < 5) : ∃ x, (part 2 #[.int .i64 a, .int .i64 b, .int .i64 c, .int .i64 d, .int .i64 e] i).run Try.prog w = .ok (.int .i64 x) w := by
  obtain ⟨j, hj, hs⟩ := Option.map_eq_some_iff.1 sizes_ag.1
  have hc : i = 0 ∨ i = 1 ∨ i = 2 ∨ i = 3 ∨ i = 4 := by omega
  rcases hc with rfl | rfl | rfl | rfl | rfl <;> simp [part, typeInfo, hj, hs, sizeOf]
theorem size_b (w : World) : (sizeOf 4).run Try.prog w = .ok 1 w := by
  obtain ⟨j, hj, hs⟩ := Option.map_eq_some_iff.1 sizes_ag.2.1
  simp [sizeOf, typeInfo, hj, hs]
theorem size_i (w : World) : (sizeOf 2).run Try.prog w = .ok 1 w := by
  obtain ⟨j, hj, hs⟩ := Option.map_eq_some_iff.1 sizes_ag.1
  simp [sizeOf, typeInfo, hj, hs]
theorem eq_same_h (w : World) (a b c d e : Bool) (n : Nat) : (Op.equalIn (n + 2) 23 (.agg #[.bool a, .bool b, .bool c, .bool d, .bool e]) (.agg #[.bool a, .bool b, .bool c, .bool d, .bool e])).run Try.prog w = .ok true w := by
  unfold Op.equalIn
  obtain ⟨x0, h0⟩ := part_b w a b c d e 0 (by decide)
  obtain ⟨x1, h1⟩ := part_b w a b c d e 1 (by decide)
  obtain ⟨x2, h2⟩ := part_b w a b c d e 2 (by decide)
  obtain ⟨x3, h3⟩ := part_b w a b c d e 3 (by decide)
  obtain ⟨x4, h4⟩ := part_b w a b c d e 4 (by decide)
  have hq := fun x => run_equalIn_bool' (P := Try.prog) w n 4 x x Try.underlying4
  simp [run_underlying Try.underlying23, show List.range' 0 5 = [0, 1, 2, 3, 4] from rfl, h0, h1, h2, h3, h4, hq]
theorem eq_same_v (w : World) (a b c d e : Int) (n : Nat) : (Op.equalIn (n + 2) 24 (.agg #[.int .i64 a, .int .i64 b, .int .i64 c, .int .i64 d, .int .i64 e]) (.agg #[.int .i64 a, .int .i64 b, .int .i64 c, .int .i64 d, .int .i64 e])).run Try.prog w = .ok true w := by
  unfold Op.equalIn
  obtain ⟨x0, h0⟩ := part_i w a b c d e 0 (by decide)
  obtain ⟨x1, h1⟩ := part_i w a b c d e 1 (by decide)
  obtain ⟨x2, h2⟩ := part_i w a b c d e 2 (by decide)
  obtain ⟨x3, h3⟩ := part_i w a b c d e 3 (by decide)
  obtain ⟨x4, h4⟩ := part_i w a b c d e 4 (by decide)
  have hq := fun x => run_equalIn_int (P := Try.prog) w n 2 .i64 .i64 x x Try.underlying2
  simp [run_underlying Try.underlying24, show List.range' 0 5 = [0, 1, 2, 3, 4] from rfl, h0, h1, h2, h3, h4, hq]
theorem eq_same (w : World) (h : Nat → Bool) (v : Nat → Int) : (Op.equalIn 10000 26 (AG h v) (AG h v)).run Try.prog w = .ok true w := by
  unfold AG
  unfold Op.equalIn
  simp [run_underlying Try.underlying26, part_h, part_v, eq_same_h, eq_same_v]
theorem run_neqAG (w : World) (h : Nat → Bool) (v : Nat → Int) : (binOp .neq 26 (AG h v) (AG h v)).run Try.prog w = .ok (.bool false) w := by
  have := eq_same w h v
  unfold AG at *
  rw [run_neq_struct, this]
  rfl
theorem run_eqlAG (w : World) (h : Nat → Bool) (v : Nat → Int) : (binOp .eql 26 (AG h v) (AG h v)).run Try.prog w = .ok (.bool true) w := by
  have := eq_same w h v
  unfold AG at *
  rw [run_eql_struct, this]
  rfl
theorem run_guardAG (op : BinOp) (w : World) (x y : Operand) (h : Nat → Bool) (v : Nat → Int) : (eqGuard op 26 x y (AG h v) (AG h v)).run Try.prog w = .ok () w := by
  unfold AG
  exact run_eqGuard_agg w op 26 x y _ _ (by kernel_rfl)
end Go.Proofs.Ytjbkbhilcmiamaa
