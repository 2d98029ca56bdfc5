import Derived.Test.YtnhijofnhflklaaGreatAgJoinM
import Derived.Handy
/- agg.Add at any aggregate, kind by kind. -/
namespace Go.Proofs.YtnhijofnhflklaaGreat
open Go.RowKit

/-- An aggregate as a value: five flags, five numbers. -/
def AG (h : Nat → Bool) (v : Nat → Int) : Value := .agg #[.bool (h 0), .bool (h 1), .bool (h 2), .bool (h 3), .bool (h 4), .int .i64 (v 0), .int .i64 (v 1), .int .i64 (v 2), .int .i64 (v 3), .int .i64 (v 4)]
def updA {α : Type} (f : Nat → α) (k : Nat) (a : α) : Nat → α := fun i => if i = k then a else f i

theorem add_out (h : Nat → Bool) (v : Nat → Int) (k x : Int) (w : World) (hk : ¬ (0 ≤ k ∧ k ≤ 4)) :
    Calls Tryz.prog 141 #[AG h v, .int .i64 k, .int .i64 x] w fun e w' => e = .returned (.tuple #[AG h v, .int .i64 1]) ∧ Below w.heap.size w w' := by
  unfold AG
  go_enter Tryz.func141, Tryz.ntmps141
  go_wp2_with (go_at_call 176; refine (known_out k _ hk).mono ?_; rintro e w1 ⟨rfl, rfl⟩)
  all_goals go_returns
  all_goals exact ⟨rfl, by go_grown⟩

theorem add_new0 (h : Nat → Bool) (v : Nat → Int) (x : Int) (w : World) (hh : h 0 = false) :
    Calls Tryz.prog 141 #[AG h v, .int .i64 0, .int .i64 x] w fun e w' => e = .returned (.tuple #[AG (updA h 0 true) (updA v 0 x), .int .i64 0]) ∧ Below w.heap.size w w' := by
  unfold AG
  go_enter Tryz.func141, Tryz.ntmps141
  go_wp2_with (first | (go_at_call 176; refine (known_in _ _ (by decide) (by decide)).mono ?_; rintro e w1 ⟨rfl, rfl⟩) | fail)
  go_returns
  exact ⟨rfl, by go_grown⟩
theorem add_old0 (h : Nat → Bool) (v : Nat → Int) (x n : Int) (w : World) (hh : h 0 = true)
    (hj : ∀ w, Calls Tryz.prog 177 #[.int .i64 0, .int .i64 (v 0), .int .i64 x] w fun e w' => e = .returned (.tuple #[.int .i64 n, .int .i64 0]) ∧ w' = w) :
    Calls Tryz.prog 141 #[AG h v, .int .i64 0, .int .i64 x] w fun e w' => e = .returned (.tuple #[AG (updA h 0 true) (updA v 0 n), .int .i64 0]) ∧ Below w.heap.size w w' := by
  unfold AG
  go_enter Tryz.func141, Tryz.ntmps141
  go_wp2_with (first | (go_at_call 176; refine (known_in _ _ (by decide) (by decide)).mono ?_; rintro e w1 ⟨rfl, rfl⟩) | (go_at_call 177; refine (hj _).mono ?_; rintro e w1 ⟨rfl, rfl⟩))
  go_returns
  exact ⟨rfl, by go_grown⟩

theorem add_new1 (h : Nat → Bool) (v : Nat → Int) (x : Int) (w : World) (hh : h 1 = false) :
    Calls Tryz.prog 141 #[AG h v, .int .i64 1, .int .i64 x] w fun e w' => e = .returned (.tuple #[AG (updA h 1 true) (updA v 1 x), .int .i64 0]) ∧ Below w.heap.size w w' := by
  unfold AG
  go_enter Tryz.func141, Tryz.ntmps141
  go_wp2_with (first | (go_at_call 176; refine (known_in _ _ (by decide) (by decide)).mono ?_; rintro e w1 ⟨rfl, rfl⟩) | fail)
  go_returns
  exact ⟨rfl, by go_grown⟩
theorem add_old1 (h : Nat → Bool) (v : Nat → Int) (x n : Int) (w : World) (hh : h 1 = true)
    (hj : ∀ w, Calls Tryz.prog 177 #[.int .i64 1, .int .i64 (v 1), .int .i64 x] w fun e w' => e = .returned (.tuple #[.int .i64 n, .int .i64 0]) ∧ w' = w) :
    Calls Tryz.prog 141 #[AG h v, .int .i64 1, .int .i64 x] w fun e w' => e = .returned (.tuple #[AG (updA h 1 true) (updA v 1 n), .int .i64 0]) ∧ Below w.heap.size w w' := by
  unfold AG
  go_enter Tryz.func141, Tryz.ntmps141
  go_wp2_with (first | (go_at_call 176; refine (known_in _ _ (by decide) (by decide)).mono ?_; rintro e w1 ⟨rfl, rfl⟩) | (go_at_call 177; refine (hj _).mono ?_; rintro e w1 ⟨rfl, rfl⟩))
  go_returns
  exact ⟨rfl, by go_grown⟩

theorem add_new2 (h : Nat → Bool) (v : Nat → Int) (x : Int) (w : World) (hh : h 2 = false) :
    Calls Tryz.prog 141 #[AG h v, .int .i64 2, .int .i64 x] w fun e w' => e = .returned (.tuple #[AG (updA h 2 true) (updA v 2 x), .int .i64 0]) ∧ Below w.heap.size w w' := by
  unfold AG
  go_enter Tryz.func141, Tryz.ntmps141
  go_wp2_with (first | (go_at_call 176; refine (known_in _ _ (by decide) (by decide)).mono ?_; rintro e w1 ⟨rfl, rfl⟩) | fail)
  go_returns
  exact ⟨rfl, by go_grown⟩
theorem add_old2 (h : Nat → Bool) (v : Nat → Int) (x n : Int) (w : World) (hh : h 2 = true)
    (hj : ∀ w, Calls Tryz.prog 177 #[.int .i64 2, .int .i64 (v 2), .int .i64 x] w fun e w' => e = .returned (.tuple #[.int .i64 n, .int .i64 0]) ∧ w' = w) :
    Calls Tryz.prog 141 #[AG h v, .int .i64 2, .int .i64 x] w fun e w' => e = .returned (.tuple #[AG (updA h 2 true) (updA v 2 n), .int .i64 0]) ∧ Below w.heap.size w w' := by
  unfold AG
  go_enter Tryz.func141, Tryz.ntmps141
  go_wp2_with (first | (go_at_call 176; refine (known_in _ _ (by decide) (by decide)).mono ?_; rintro e w1 ⟨rfl, rfl⟩) | (go_at_call 177; refine (hj _).mono ?_; rintro e w1 ⟨rfl, rfl⟩))
  go_returns
  exact ⟨rfl, by go_grown⟩

theorem add_new3 (h : Nat → Bool) (v : Nat → Int) (x : Int) (w : World) (hh : h 3 = false) :
    Calls Tryz.prog 141 #[AG h v, .int .i64 3, .int .i64 x] w fun e w' => e = .returned (.tuple #[AG (updA h 3 true) (updA v 3 x), .int .i64 0]) ∧ Below w.heap.size w w' := by
  unfold AG
  go_enter Tryz.func141, Tryz.ntmps141
  go_wp2_with (first | (go_at_call 176; refine (known_in _ _ (by decide) (by decide)).mono ?_; rintro e w1 ⟨rfl, rfl⟩) | fail)
  go_returns
  exact ⟨rfl, by go_grown⟩
theorem add_old3 (h : Nat → Bool) (v : Nat → Int) (x n : Int) (w : World) (hh : h 3 = true)
    (hj : ∀ w, Calls Tryz.prog 177 #[.int .i64 3, .int .i64 (v 3), .int .i64 x] w fun e w' => e = .returned (.tuple #[.int .i64 n, .int .i64 0]) ∧ w' = w) :
    Calls Tryz.prog 141 #[AG h v, .int .i64 3, .int .i64 x] w fun e w' => e = .returned (.tuple #[AG (updA h 3 true) (updA v 3 n), .int .i64 0]) ∧ Below w.heap.size w w' := by
  unfold AG
  go_enter Tryz.func141, Tryz.ntmps141
  go_wp2_with (first | (go_at_call 176; refine (known_in _ _ (by decide) (by decide)).mono ?_; rintro e w1 ⟨rfl, rfl⟩) | (go_at_call 177; refine (hj _).mono ?_; rintro e w1 ⟨rfl, rfl⟩))
  go_returns
  exact ⟨rfl, by go_grown⟩

theorem add_new4 (h : Nat → Bool) (v : Nat → Int) (x : Int) (w : World) (hh : h 4 = false) :
    Calls Tryz.prog 141 #[AG h v, .int .i64 4, .int .i64 x] w fun e w' => e = .returned (.tuple #[AG (updA h 4 true) (updA v 4 x), .int .i64 0]) ∧ Below w.heap.size w w' := by
  unfold AG
  go_enter Tryz.func141, Tryz.ntmps141
  go_wp2_with (first | (go_at_call 176; refine (known_in _ _ (by decide) (by decide)).mono ?_; rintro e w1 ⟨rfl, rfl⟩) | fail)
  go_returns
  exact ⟨rfl, by go_grown⟩
theorem add_old4 (h : Nat → Bool) (v : Nat → Int) (x n : Int) (w : World) (hh : h 4 = true)
    (hj : ∀ w, Calls Tryz.prog 177 #[.int .i64 4, .int .i64 (v 4), .int .i64 x] w fun e w' => e = .returned (.tuple #[.int .i64 n, .int .i64 0]) ∧ w' = w) :
    Calls Tryz.prog 141 #[AG h v, .int .i64 4, .int .i64 x] w fun e w' => e = .returned (.tuple #[AG (updA h 4 true) (updA v 4 n), .int .i64 0]) ∧ Below w.heap.size w w' := by
  unfold AG
  go_enter Tryz.func141, Tryz.ntmps141
  go_wp2_with (first | (go_at_call 176; refine (known_in _ _ (by decide) (by decide)).mono ?_; rintro e w1 ⟨rfl, rfl⟩) | (go_at_call 177; refine (hj _).mono ?_; rintro e w1 ⟨rfl, rfl⟩))
  go_returns
  exact ⟨rfl, by go_grown⟩

theorem add_no0 (h : Nat → Bool) (v : Nat → Int) (x n : Int) (w : World) (hh : h 0 = true)
    (hj : ∀ w, Calls Tryz.prog 177 #[.int .i64 0, .int .i64 (v 0), .int .i64 x] w fun e w' => e = .returned (.tuple #[.int .i64 n, .int .i64 20]) ∧ w' = w) :
    Calls Tryz.prog 141 #[AG h v, .int .i64 0, .int .i64 x] w fun e w' => e = .returned (.tuple #[AG h v, .int .i64 20]) ∧ Below w.heap.size w w' := by
  unfold AG
  go_enter Tryz.func141, Tryz.ntmps141
  go_wp2_with (first | (go_at_call 176; refine (known_in _ _ (by decide) (by decide)).mono ?_; rintro e w1 ⟨rfl, rfl⟩) | (go_at_call 177; refine (hj _).mono ?_; rintro e w1 ⟨rfl, rfl⟩))
  go_returns
  exact ⟨by rw [hh], by go_grown⟩
end Go.Proofs.YtnhijofnhflklaaGreat
