import Derived.WalkKit
/- Layer 2's numbers without any program: a whole number as 64 bits hold it, and its error. -/
namespace Go.Proofs.YtnhijofnhflklaaGreat
open Go.RowKit

/-- The value that is told of a whole number: itself where 64 bits hold it, else 0. -/
def hv (n : Int) : Int := if -9223372036854775808 ≤ n ∧ n ≤ 9223372036854775807 then n else 0
/-- The error that is told of it. -/
def he (n : Int) : Int := if -9223372036854775808 ≤ n ∧ n ≤ 9223372036854775807 then 0 else 20
theorem hv_in {n : Int} (h : -9223372036854775808 ≤ n ∧ n ≤ 9223372036854775807) : hv n = n := if_pos h
theorem he_in {n : Int} (h : -9223372036854775808 ≤ n ∧ n ≤ 9223372036854775807) : he n = 0 := if_pos h
theorem hv_out {n : Int} (h : ¬ (-9223372036854775808 ≤ n ∧ n ≤ 9223372036854775807)) : hv n = 0 := if_neg h
theorem he_out {n : Int} (h : ¬ (-9223372036854775808 ≤ n ∧ n ≤ 9223372036854775807)) : he n = 20 := if_neg h
theorem hv_bd (n : Int) : -9223372036854775808 ≤ hv n ∧ hv n ≤ 9223372036854775807 := by
  unfold hv; split <;> omega
theorem he_cases (n : Int) : he n = 0 ∧ hv n = n ∧ (-9223372036854775808 ≤ n ∧ n ≤ 9223372036854775807) ∨ he n = 20 ∧ hv n = 0 ∧ ¬ (-9223372036854775808 ≤ n ∧ n ≤ 9223372036854775807) := by
  by_cases h : -9223372036854775808 ≤ n ∧ n ≤ 9223372036854775807
  · exact .inl ⟨he_in h, hv_in h, h⟩
  · exact .inr ⟨he_out h, hv_out h, h⟩

/-- What a call answers: the value and its error. -/
def ans (n : Int) : Ending := .returned (.tuple #[.int .i64 (hv n), .int .i64 (he n)])
theorem ans_in {n : Int} (h : -9223372036854775808 ≤ n ∧ n ≤ 9223372036854775807) : Ending.returned (.tuple #[.int .i64 n, .int .i64 0]) = ans n := by
  unfold ans; rw [hv_in h, he_in h]
theorem ans_out {n : Int} (h : ¬ (-9223372036854775808 ≤ n ∧ n ≤ 9223372036854775807)) : Ending.returned (.tuple #[.int .i64 0, .int .i64 20]) = ans n := by
  unfold ans; rw [hv_out h, he_out h]
end Go.Proofs.YtnhijofnhflklaaGreat
