import Derived.WalkKit
/- Arithmetic of layer 2 without any program: the school division's step by halves of 64 bits, division bit by bit, products by halves. -/
namespace Go.Proofs.YtnhijofnhflklaaGreat

/-- The first guess of a digit. -/
theorem digit_first {u1 u0 v1 v0 : Int} (hv1 : 2147483648 ≤ v1) (hv0' : 0 ≤ v0) (hv0 : v0 < 4294967296) (hu' : 0 ≤ u1) (hu : u1 < v1 * 4294967296 + v0) (hu0' : 0 ≤ u0) (hu0 : u0 < 4294967296) :
    (u1 * 4294967296 + u0) / (v1 * 4294967296 + v0) ≤ u1 / v1 ∧ u1 / v1 ≤ 4294967297 := by
  constructor
  · rw [Int.le_ediv_iff_mul_le (by omega)]
    have h : (u1 * 4294967296 + u0) / (v1 * 4294967296 + v0) * (v1 * 4294967296 + v0) ≤ u1 * 4294967296 + u0 := Int.ediv_mul_le _ (by omega)
    have h0 : 0 ≤ (u1 * 4294967296 + u0) / (v1 * 4294967296 + v0) := Int.ediv_nonneg (by omega) (by omega)
    have h1 := Int.mul_nonneg h0 hv0'
    rw [Int.mul_add, ← Int.mul_assoc] at h
    generalize (u1 * 4294967296 + u0) / (v1 * 4294967296 + v0) * v1 = A at *
    generalize (u1 * 4294967296 + u0) / (v1 * 4294967296 + v0) * v0 = B at *
    omega
  · have : u1 / v1 < 4294967298 := by
      rw [Int.ediv_lt_iff_lt_mul (by omega)]
      omega
    omega
end Go.Proofs.YtnhijofnhflklaaGreat
