import Derived.Test.YtnhijofnhflklaaGreatAgAnyM
import Derived.Laws.StructEq
/- agg.Get, and two aggregates held against one another. -/
namespace Go.Proofs.YtnhijofnhflklaaGreat
open Go.RowKit

theorem get_out (h : Nat → Bool) (v : Nat → Int) (k : Int) (w : World) (hk : ¬ (0 ≤ k ∧ k ≤ 4)) :
    Calls Tryz.prog 140 #[AG h v, .int .i64 k] w fun e w' => e = .returned (.tuple #[.int .i64 0, .bool false]) ∧ Below w.heap.size w w' := by
  have hu : undef = Value.tuple #[] := rfl
  unfold AG
  go_enter Tryz.func140, Tryz.ntmps140
  go_wp2_with (go_at_call 176; refine (known_out k _ hk).mono ?_; rintro e w1 ⟨rfl, rfl⟩)
  go_returns
  exact ⟨rfl, by go_grown⟩
theorem get_yes0 (h : Nat → Bool) (v : Nat → Int) (w : World) (hh : h 0 = true) :
    Calls Tryz.prog 140 #[AG h v, .int .i64 0] w fun e w' => e = .returned (.tuple #[.int .i64 (v 0), .bool true]) ∧ Below w.heap.size w w' := by
  unfold AG
  go_enter Tryz.func140, Tryz.ntmps140
  go_wp2_with (go_at_call 176; refine (known_in _ _ (by decide) (by decide)).mono ?_; rintro e w1 ⟨rfl, rfl⟩)
  go_returns
  exact ⟨rfl, by go_grown⟩
theorem get_no0 (h : Nat → Bool) (v : Nat → Int) (w : World) (hh : h 0 = false) :
    Calls Tryz.prog 140 #[AG h v, .int .i64 0] w fun e w' => e = .returned (.tuple #[.int .i64 0, .bool false]) ∧ Below w.heap.size w w' := by
  unfold AG
  go_enter Tryz.func140, Tryz.ntmps140
  go_wp2_with (go_at_call 176; refine (known_in _ _ (by decide) (by decide)).mono ?_; rintro e w1 ⟨rfl, rfl⟩)
  go_returns
  exact ⟨rfl, by go_grown⟩
theorem get_yes1 (h : Nat → Bool) (v : Nat → Int) (w : World) (hh : h 1 = true) :
    Calls Tryz.prog 140 #[AG h v, .int .i64 1] w fun e w' => e = .returned (.tuple #[.int .i64 (v 1), .bool true]) ∧ Below w.heap.size w w' := by
  unfold AG
  go_enter Tryz.func140, Tryz.ntmps140
  go_wp2_with (go_at_call 176; refine (known_in _ _ (by decide) (by decide)).mono ?_; rintro e w1 ⟨rfl, rfl⟩)
  go_returns
  exact ⟨rfl, by go_grown⟩
theorem get_no1 (h : Nat → Bool) (v : Nat → Int) (w : World) (hh : h 1 = false) :
    Calls Tryz.prog 140 #[AG h v, .int .i64 1] w fun e w' => e = .returned (.tuple #[.int .i64 0, .bool false]) ∧ Below w.heap.size w w' := by
  unfold AG
  go_enter Tryz.func140, Tryz.ntmps140
  go_wp2_with (go_at_call 176; refine (known_in _ _ (by decide) (by decide)).mono ?_; rintro e w1 ⟨rfl, rfl⟩)
  go_returns
  exact ⟨rfl, by go_grown⟩
theorem get_yes2 (h : Nat → Bool) (v : Nat → Int) (w : World) (hh : h 2 = true) :
    Calls Tryz.prog 140 #[AG h v, .int .i64 2] w fun e w' => e = .returned (.tuple #[.int .i64 (v 2), .bool true]) ∧ Below w.heap.size w w' := by
  unfold AG
  go_enter Tryz.func140, Tryz.ntmps140
  go_wp2_with (go_at_call 176; refine (known_in _ _ (by decide) (by decide)).mono ?_; rintro e w1 ⟨rfl, rfl⟩)
  go_returns
  exact ⟨rfl, by go_grown⟩
theorem get_no2 (h : Nat → Bool) (v : Nat → Int) (w : World) (hh : h 2 = false) :
    Calls Tryz.prog 140 #[AG h v, .int .i64 2] w fun e w' => e = .returned (.tuple #[.int .i64 0, .bool false]) ∧ Below w.heap.size w w' := by
  unfold AG
  go_enter Tryz.func140, Tryz.ntmps140
  go_wp2_with (go_at_call 176; refine (known_in _ _ (by decide) (by decide)).mono ?_; rintro e w1 ⟨rfl, rfl⟩)
  go_returns
  exact ⟨rfl, by go_grown⟩
theorem get_yes3 (h : Nat → Bool) (v : Nat → Int) (w : World) (hh : h 3 = true) :
    Calls Tryz.prog 140 #[AG h v, .int .i64 3] w fun e w' => e = .returned (.tuple #[.int .i64 (v 3), .bool true]) ∧ Below w.heap.size w w' := by
  unfold AG
  go_enter Tryz.func140, Tryz.ntmps140
  go_wp2_with (go_at_call 176; refine (known_in _ _ (by decide) (by decide)).mono ?_; rintro e w1 ⟨rfl, rfl⟩)
  go_returns
  exact ⟨rfl, by go_grown⟩
theorem get_no3 (h : Nat → Bool) (v : Nat → Int) (w : World) (hh : h 3 = false) :
    Calls Tryz.prog 140 #[AG h v, .int .i64 3] w fun e w' => e = .returned (.tuple #[.int .i64 0, .bool false]) ∧ Below w.heap.size w w' := by
  unfold AG
  go_enter Tryz.func140, Tryz.ntmps140
  go_wp2_with (go_at_call 176; refine (known_in _ _ (by decide) (by decide)).mono ?_; rintro e w1 ⟨rfl, rfl⟩)
  go_returns
  exact ⟨rfl, by go_grown⟩
theorem get_yes4 (h : Nat → Bool) (v : Nat → Int) (w : World) (hh : h 4 = true) :
    Calls Tryz.prog 140 #[AG h v, .int .i64 4] w fun e w' => e = .returned (.tuple #[.int .i64 (v 4), .bool true]) ∧ Below w.heap.size w w' := by
  unfold AG
  go_enter Tryz.func140, Tryz.ntmps140
  go_wp2_with (go_at_call 176; refine (known_in _ _ (by decide) (by decide)).mono ?_; rintro e w1 ⟨rfl, rfl⟩)
  go_returns
  exact ⟨rfl, by go_grown⟩
theorem get_no4 (h : Nat → Bool) (v : Nat → Int) (w : World) (hh : h 4 = false) :
    Calls Tryz.prog 140 #[AG h v, .int .i64 4] w fun e w' => e = .returned (.tuple #[.int .i64 0, .bool false]) ∧ Below w.heap.size w w' := by
  unfold AG
  go_enter Tryz.func140, Tryz.ntmps140
  go_wp2_with (go_at_call 176; refine (known_in _ _ (by decide) (by decide)).mono ?_; rintro e w1 ⟨rfl, rfl⟩)
  go_returns
  exact ⟨rfl, by go_grown⟩

def getO (o : Nat → Option Int) (k : Int) : Option Int := if 0 ≤ k ∧ k ≤ 4 then o k.toNat else none
theorem getO_out {o : Nat → Option Int} {k : Int} (h : ¬ (0 ≤ k ∧ k ≤ 4)) : getO o k = none := if_neg h
theorem getO_in {o : Nat → Option Int} {k : Nat} (h : k ≤ 4) : getO o (k : Int) = o k := by
  unfold getO
  rw [if_pos (by omega), Int.toNat_natCast]
theorem get_any (o : Nat → Option Int) (k : Int) (w : World) :
    Calls Tryz.prog 140 #[AO o, .int .i64 k] w fun e w' => e = .returned (.tuple #[.int .i64 ((getO o k).getD 0), .bool (getO o k).isSome]) ∧ Below w.heap.size w w' := by
  by_cases hk : 0 ≤ k ∧ k ≤ 4
  · rcases kind5 hk with rfl | rfl | rfl | rfl | rfl
    · rw [getO_in (by decide)]
      cases e : o 0 with
      | none => exact get_no0 (oh o) (ov o) w (oh_none e)
      | some y => exact (get_yes0 (oh o) (ov o) w (oh_some e)).mono fun e' w' h => ⟨h.1.trans (by rw [ov_some e]; rfl), h.2⟩
    · rw [getO_in (by decide)]
      cases e : o 1 with
      | none => exact get_no1 (oh o) (ov o) w (oh_none e)
      | some y => exact (get_yes1 (oh o) (ov o) w (oh_some e)).mono fun e' w' h => ⟨h.1.trans (by rw [ov_some e]; rfl), h.2⟩
    · rw [getO_in (by decide)]
      cases e : o 2 with
      | none => exact get_no2 (oh o) (ov o) w (oh_none e)
      | some y => exact (get_yes2 (oh o) (ov o) w (oh_some e)).mono fun e' w' h => ⟨h.1.trans (by rw [ov_some e]; rfl), h.2⟩
    · rw [getO_in (by decide)]
      cases e : o 3 with
      | none => exact get_no3 (oh o) (ov o) w (oh_none e)
      | some y => exact (get_yes3 (oh o) (ov o) w (oh_some e)).mono fun e' w' h => ⟨h.1.trans (by rw [ov_some e]; rfl), h.2⟩
    · rw [getO_in (by decide)]
      cases e : o 4 with
      | none => exact get_no4 (oh o) (ov o) w (oh_none e)
      | some y => exact (get_yes4 (oh o) (ov o) w (oh_some e)).mono fun e' w' h => ⟨h.1.trans (by rw [ov_some e]; rfl), h.2⟩
  · rw [getO_out hk]
    exact get_out (oh o) (ov o) k w hk

end Go.Proofs.YtnhijofnhflklaaGreat
