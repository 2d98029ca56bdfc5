/- The document's add at any aggregate, kind by kind. -/
import Derived.Test.YtjbkbhilcmiamaaAgAdd
import Derived.Handy
namespace Go.Proofs.Ytjbkbhilcmiamaa
open Go.RowKit

theorem ladd_out (h : Nat → Bool) (v : Nat → Int) (k x : Int) (w : World) (hk : ¬ (0 ≤ k ∧ k ≤ 4)) :
    Calls Try.prog 10 #[AG h v, .int .i64 k, .int .i64 x] w fun e w' => e = .returned (.tuple #[AG h v, .int .i64 1]) ∧ Below w.heap.size w w' := by
  unfold AG
  go_enter Try.func10, Try.ntmps10
  go_wp2
  all_goals first | (exfalso; omega) | skip
  all_goals go_returns
  all_goals exact ⟨rfl, by go_grown⟩

theorem ladd_new0 (h : Nat → Bool) (v : Nat → Int) (x : Int) (w : World) (hh : h 0 = false) :
    Calls Try.prog 10 #[AG h v, .int .i64 0, .int .i64 x] w fun e w' => e = .returned (.tuple #[AG (upd h 0 true) (upd v 0 x), .int .i64 0]) ∧ Below w.heap.size w w' := by
  unfold AG
  go_enter Try.func10, Try.ntmps10
  go_wp2
  go_returns
  exact ⟨rfl, by go_grown⟩
theorem ladd_old0 (h : Nat → Bool) (v : Nat → Int) (x n : Int) (w : World) (hh : h 0 = true)
    (hj : ∀ w, Calls Try.prog 38 #[.int .i64 0, .int .i64 (v 0), .int .i64 x] w fun e w' => e = .returned (.tuple #[.int .i64 n, .int .i64 0]) ∧ w' = w) :
    Calls Try.prog 10 #[AG h v, .int .i64 0, .int .i64 x] w fun e w' => e = .returned (.tuple #[AG (upd h 0 true) (upd v 0 n), .int .i64 0]) ∧ Below w.heap.size w w' := by
  unfold AG
  go_enter Try.func10, Try.ntmps10
  go_wp2_with (first | (go_at_call 38; refine (hj _).mono ?_; rintro e w1 ⟨rfl, rfl⟩))
  go_returns
  exact ⟨rfl, by go_grown⟩

theorem ladd_new1 (h : Nat → Bool) (v : Nat → Int) (x : Int) (w : World) (hh : h 1 = false) :
    Calls Try.prog 10 #[AG h v, .int .i64 1, .int .i64 x] w fun e w' => e = .returned (.tuple #[AG (upd h 1 true) (upd v 1 x), .int .i64 0]) ∧ Below w.heap.size w w' := by
  unfold AG
  go_enter Try.func10, Try.ntmps10
  go_wp2
  go_returns
  exact ⟨rfl, by go_grown⟩
theorem ladd_old1 (h : Nat → Bool) (v : Nat → Int) (x n : Int) (w : World) (hh : h 1 = true)
    (hj : ∀ w, Calls Try.prog 38 #[.int .i64 1, .int .i64 (v 1), .int .i64 x] w fun e w' => e = .returned (.tuple #[.int .i64 n, .int .i64 0]) ∧ w' = w) :
    Calls Try.prog 10 #[AG h v, .int .i64 1, .int .i64 x] w fun e w' => e = .returned (.tuple #[AG (upd h 1 true) (upd v 1 n), .int .i64 0]) ∧ Below w.heap.size w w' := by
  unfold AG
  go_enter Try.func10, Try.ntmps10
  go_wp2_with (first | (go_at_call 38; refine (hj _).mono ?_; rintro e w1 ⟨rfl, rfl⟩))
  go_returns
  exact ⟨rfl, by go_grown⟩

theorem ladd_new2 (h : Nat → Bool) (v : Nat → Int) (x : Int) (w : World) (hh : h 2 = false) :
    Calls Try.prog 10 #[AG h v, .int .i64 2, .int .i64 x] w fun e w' => e = .returned (.tuple #[AG (upd h 2 true) (upd v 2 x), .int .i64 0]) ∧ Below w.heap.size w w' := by
  unfold AG
  go_enter Try.func10, Try.ntmps10
  go_wp2
  go_returns
  exact ⟨rfl, by go_grown⟩
theorem ladd_old2 (h : Nat → Bool) (v : Nat → Int) (x n : Int) (w : World) (hh : h 2 = true)
    (hj : ∀ w, Calls Try.prog 38 #[.int .i64 2, .int .i64 (v 2), .int .i64 x] w fun e w' => e = .returned (.tuple #[.int .i64 n, .int .i64 0]) ∧ w' = w) :
    Calls Try.prog 10 #[AG h v, .int .i64 2, .int .i64 x] w fun e w' => e = .returned (.tuple #[AG (upd h 2 true) (upd v 2 n), .int .i64 0]) ∧ Below w.heap.size w w' := by
  unfold AG
  go_enter Try.func10, Try.ntmps10
  go_wp2_with (first | (go_at_call 38; refine (hj _).mono ?_; rintro e w1 ⟨rfl, rfl⟩))
  go_returns
  exact ⟨rfl, by go_grown⟩

theorem ladd_new3 (h : Nat → Bool) (v : Nat → Int) (x : Int) (w : World) (hh : h 3 = false) :
    Calls Try.prog 10 #[AG h v, .int .i64 3, .int .i64 x] w fun e w' => e = .returned (.tuple #[AG (upd h 3 true) (upd v 3 x), .int .i64 0]) ∧ Below w.heap.size w w' := by
  unfold AG
  go_enter Try.func10, Try.ntmps10
  go_wp2
  go_returns
  exact ⟨rfl, by go_grown⟩
theorem ladd_old3 (h : Nat → Bool) (v : Nat → Int) (x n : Int) (w : World) (hh : h 3 = true)
    (hj : ∀ w, Calls Try.prog 38 #[.int .i64 3, .int .i64 (v 3), .int .i64 x] w fun e w' => e = .returned (.tuple #[.int .i64 n, .int .i64 0]) ∧ w' = w) :
    Calls Try.prog 10 #[AG h v, .int .i64 3, .int .i64 x] w fun e w' => e = .returned (.tuple #[AG (upd h 3 true) (upd v 3 n), .int .i64 0]) ∧ Below w.heap.size w w' := by
  unfold AG
  go_enter Try.func10, Try.ntmps10
  go_wp2_with (first | (go_at_call 38; refine (hj _).mono ?_; rintro e w1 ⟨rfl, rfl⟩))
  go_returns
  exact ⟨rfl, by go_grown⟩

theorem ladd_new4 (h : Nat → Bool) (v : Nat → Int) (x : Int) (w : World) (hh : h 4 = false) :
    Calls Try.prog 10 #[AG h v, .int .i64 4, .int .i64 x] w fun e w' => e = .returned (.tuple #[AG (upd h 4 true) (upd v 4 x), .int .i64 0]) ∧ Below w.heap.size w w' := by
  unfold AG
  go_enter Try.func10, Try.ntmps10
  go_wp2
  go_returns
  exact ⟨rfl, by go_grown⟩
theorem ladd_old4 (h : Nat → Bool) (v : Nat → Int) (x n : Int) (w : World) (hh : h 4 = true)
    (hj : ∀ w, Calls Try.prog 38 #[.int .i64 4, .int .i64 (v 4), .int .i64 x] w fun e w' => e = .returned (.tuple #[.int .i64 n, .int .i64 0]) ∧ w' = w) :
    Calls Try.prog 10 #[AG h v, .int .i64 4, .int .i64 x] w fun e w' => e = .returned (.tuple #[AG (upd h 4 true) (upd v 4 n), .int .i64 0]) ∧ Below w.heap.size w w' := by
  unfold AG
  go_enter Try.func10, Try.ntmps10
  go_wp2_with (first | (go_at_call 38; refine (hj _).mono ?_; rintro e w1 ⟨rfl, rfl⟩))
  go_returns
  exact ⟨rfl, by go_grown⟩

theorem ladd_no0 (h : Nat → Bool) (v : Nat → Int) (x n : Int) (w : World) (hh : h 0 = true)
    (hj : ∀ w, Calls Try.prog 38 #[.int .i64 0, .int .i64 (v 0), .int .i64 x] w fun e w' => e = .returned (.tuple #[.int .i64 n, .int .i64 20]) ∧ w' = w) :
    Calls Try.prog 10 #[AG h v, .int .i64 0, .int .i64 x] w fun e w' => e = .returned (.tuple #[AG h v, .int .i64 20]) ∧ Below w.heap.size w w' := by
  unfold AG
  go_enter Try.func10, Try.ntmps10
  go_wp2_with (first | (go_at_call 38; refine (hj _).mono ?_; rintro e w1 ⟨rfl, rfl⟩))
  go_returns
  exact ⟨by rw [hh], by go_grown⟩
end Go.Proofs.Ytjbkbhilcmiamaa
