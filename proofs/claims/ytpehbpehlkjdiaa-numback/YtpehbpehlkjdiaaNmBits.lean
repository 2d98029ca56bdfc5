/- math/bits.Mul64 as the program bears it: the product's two halves. Words on casts and wraps. -/
import Derived.Test.YtpehbpehlkjdiaaProg
import Derived.Test.YtpehbpehlkjdiaaNmAdd
import Derived.WalkKit
import Derived.WalkSpells
import Derived.WalkLawsBesides
import Derived.Laws.Bits64b
import Derived.Laws.MathBits
namespace Go.Proofs.Ytpehbpehlkjdiaa
open Go.RowKit

theorem m_mask (a : Nat) (ha : a < 18446744073709551616) : bits .and .u64 (a : Int) 4294967295 = ((a % 4294967296 : Nat) : Int) :=
  and_low32 a (by omega) (by omega)
theorem m_div (a : Nat) : (a : Int) / 4294967296 = ((a / 4294967296 : Nat) : Int) := by omega
theorem m_mul (a b : Nat) : (a : Int) * (b : Int) = ((a * b : Nat) : Int) := by simp
theorem m_mod (a : Nat) : IntKind.u64.wrap (a : Int) = ((a % 18446744073709551616 : Nat) : Int) := by rw [IntKind.wrap_u64]; omega
theorem m_wrap (a : Nat) (ha : a < 18446744073709551616) : IntKind.u64.wrap (a : Int) = (a : Int) := by rw [m_mod]; omega

theorem mul64_walk (a b x0 x1 y0 y1 p00 p01 p10 p11 p : Int) (w : World)
    (hx0 : bits .and .u64 a 4294967295 = x0) (hx1 : a / 4294967296 = x1) (hy0 : bits .and .u64 b 4294967295 = y0) (hy1 : b / 4294967296 = y1)
    (h00 : x0 * y0 = p00) (h01 : x0 * y1 = p01) (h10 : x1 * y0 = p10) (h11 : x1 * y1 = p11) (hp : a * b = p)
    (b00 : 0 ≤ p00 ∧ p00 ≤ 18446744065119617025) (b01 : 0 ≤ p01 ∧ p01 ≤ 18446744065119617025) (b10 : 0 ≤ p10 ∧ p10 ≤ 18446744065119617025) (b11 : 0 ≤ p11 ∧ p11 ≤ 18446744065119617025)
    (t : Int) (ht : bits .and .u64 (p10 + p00 / 4294967296) 4294967295 = t) (ht' : t = (p10 + p00 / 4294967296) % 4294967296) (HP : Hid (p = p11 * 18446744073709551616 + (p10 + p01) * 4294967296 + p00)) :
    Calls Try.prog 21 #[.int .u64 a, .int .u64 b] w fun e w' => e = .returned (.tuple #[.int .u64 (p / 18446744073709551616), .int .u64 (p % 18446744073709551616)]) ∧ w' = w := by
  have htb : 0 ≤ t ∧ t < 4294967296 := by omega
  go_enter Try.func21, Try.ntmps21
  go_wp2
  go_ret2
  refine ⟨ret2 ?_ ?_, rfl⟩
  · have := HP.out
    omega
  · rw [IntKind.wrap_u64]
theorem mul64_any (x y : Nat) (w : World) (hx : x < 18446744073709551616) (hy : y < 18446744073709551616) :
    Calls Try.prog 21 #[.int .u64 (x : Int), .int .u64 (y : Int)] w fun e w' => e = .returned (.tuple #[.int .u64 ((x * y / 18446744073709551616 : Nat) : Int), .int .u64 ((x * y % 18446744073709551616 : Nat) : Int)]) ∧ w' = w := by
  have hA : (x : Int) = (x : Int) / 4294967296 * 4294967296 + (x : Int) % 4294967296 := by omega
  have hB : (y : Int) = (y : Int) / 4294967296 * 4294967296 + (y : Int) % 4294967296 := by omega
  have hs : (x : Int) * (y : Int) = (x : Int) / 4294967296 * ((y : Int) / 4294967296) * 18446744073709551616 + ((x : Int) / 4294967296 * ((y : Int) % 4294967296) + (x : Int) % 4294967296 * ((y : Int) / 4294967296)) * 4294967296 + (x : Int) % 4294967296 * ((y : Int) % 4294967296) := by
    rw [← split_mul, ← hA, ← hB]
  have k00 := prod_bound ((x : Int) % 4294967296) ((y : Int) % 4294967296) (by omega) (by omega) (by omega) (by omega)
  have k10 := prod_bound ((x : Int) / 4294967296) ((y : Int) % 4294967296) (by omega) (by omega) (by omega) (by omega)
  have k01 := prod_bound ((x : Int) % 4294967296) ((y : Int) / 4294967296) (by omega) (by omega) (by omega) (by omega)
  have k11 := prod_bound ((x : Int) / 4294967296) ((y : Int) / 4294967296) (by omega) (by omega) (by omega) (by omega)
  have h := mul64_walk x y _ _ _ _ _ _ _ _ _ w (and_low32 x (by omega) (by omega)) rfl (and_low32 y (by omega) (by omega)) rfl rfl rfl rfl rfl rfl k00 k01 k10 k11 _ (and_low32 _ (by omega) (by omega)) rfl hs
  rw [m_mul] at h
  exact h
end Go.Proofs.Ytpehbpehlkjdiaa
