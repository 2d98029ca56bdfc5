import Derived.Test.YthkfbaoeimjgaaaGreatGrWalk1M
/- What Find returns of vertices that rise: where a number is, or would stand. -/
namespace Go.Proofs.YthkfbaoeimjgaaaGreat
open Go.RowKit
def cmpI (x y : Int) : Int := if x < y then -1 else if y < x then 1 else 0

theorem isnan_any (x : Int) (w : World) : Calls Tryz.prog 244 #[.int .i64 x] w fun r w' => r = .returned (.bool false) ∧ w' = w := by
  go_enter Tryz.func244, Tryz.ntmps244
  go_wp2
  go_ret
  exact ⟨by simp, rfl⟩
theorem compare_any (x y : Int) (w : World) : Calls Tryz.prog 201 #[.int .i64 x, .int .i64 y] w fun r w' => r = .returned (.int .i64 (cmpI x y)) ∧ w' = w := by
  unfold cmpI
  by_cases h1 : x < y
  · rw [if_pos h1]
    go_enter Tryz.func201, Tryz.ntmps201
    go_wp2_with (go_at_call 244; refine (isnan_any _ _).mono ?_; rintro r w1 ⟨rfl, rfl⟩)
    go_ret
    exact ⟨rfl, rfl⟩
  · rw [if_neg h1]
    by_cases h2 : y < x
    · rw [if_pos h2]
      go_enter Tryz.func201, Tryz.ntmps201
      go_wp2_with (go_at_call 244; refine (isnan_any _ _).mono ?_; rintro r w1 ⟨rfl, rfl⟩)
      go_ret
      exact ⟨rfl, rfl⟩
    · rw [if_neg h2]
      go_enter Tryz.func201, Tryz.ntmps201
      go_wp2_with (go_at_call 244; refine (isnan_any _ _).mono ?_; rintro r w1 ⟨rfl, rfl⟩)
      go_ret
      exact ⟨rfl, rfl⟩
theorem find1_any (x y i : Int) (ao : Option Addr) (n c : Nat) (w : World) :
    Calls Tryz.prog 240 #[.agg #[.int .i64 x, .int .i64 y, .slice ao n c], .int .i64 i] w fun r w' => r = .returned (.int .i64 (cmpI x i)) ∧ Below w.heap.size w w' := by
  go_enter Tryz.func240, Tryz.ntmps240
  go_wp2_with (go_at_call 201; refine (compare_any _ _ _).mono ?_; rintro r w1 ⟨rfl, rfl⟩)
  go_ret
  exact ⟨rfl, (Below.refl _ _).alloc (Nat.le_refl _) _⟩
end Go.Proofs.YthkfbaoeimjgaaaGreat
