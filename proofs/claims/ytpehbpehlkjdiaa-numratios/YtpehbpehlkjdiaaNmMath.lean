/- Arithmetic of layer 2 without any program: the school division's step by halves of 64 bits, division bit by bit, products by halves. -/
import Derived.WalkKit
namespace Go.Proofs.Ytpehbpehlkjdiaa

/-- A guess of a digit that is not too small, at a test that fails: it is the digit. -/
theorem digit_stop {u1 u0 v1 v0 q r : Int} (hV : 0 < v1 * 4294967296 + v0) (he : q * v1 + r = u1) (hq : (u1 * 4294967296 + u0) / (v1 * 4294967296 + v0) ≤ q)
    (hle : q * v0 ≤ 4294967296 * r + u0) : q = (u1 * 4294967296 + u0) / (v1 * 4294967296 + v0) := by
  apply Int.le_antisymm _ hq
  rw [Int.le_ediv_iff_mul_le hV, Int.mul_add, ← Int.mul_assoc]
  generalize q * v1 = A at *
  generalize q * v0 = B at *
  omega
/-- A guess of a digit, at a test that holds: one less is not too small either. -/
theorem digit_less {u1 u0 v1 v0 q r : Int} (hV : 0 < v1 * 4294967296 + v0) (he : q * v1 + r = u1) (hu : u1 < v1 * 4294967296 + v0) (hu0 : u0 < 4294967296)
    (ht : 4294967296 ≤ q ∨ 4294967296 * r + u0 < q * v0) : (u1 * 4294967296 + u0) / (v1 * 4294967296 + v0) ≤ q - 1 := by
  have : (u1 * 4294967296 + u0) / (v1 * 4294967296 + v0) < q := by
    rw [Int.ediv_lt_iff_lt_mul hV]
    rcases ht with h | h
    · have : (v1 * 4294967296 + v0) * 4294967296 ≤ (v1 * 4294967296 + v0) * q := Int.mul_le_mul_of_nonneg_left h (by omega)
      rw [Int.mul_comm q]
      generalize (v1 * 4294967296 + v0) * q = Z at *
      omega
    · rw [Int.mul_add, ← Int.mul_assoc]
      generalize q * v1 = A at *
      generalize q * v0 = B at *
      omega
  omega
/-- The first guess of a digit. -/
theorem digit_first {u1 u0 v1 v0 : Int} (hv1 : 2147483648 ≤ v1) (hv0' : 0 ≤ v0) (hv0 : v0 < 4294967296) (hu' : 0 ≤ u1) (hu : u1 < v1 * 4294967296 + v0) (hu0' : 0 ≤ u0) (hu0 : u0 < 4294967296) :
    (u1 * 4294967296 + u0) / (v1 * 4294967296 + v0) ≤ u1 / v1 ∧ u1 / v1 ≤ 4294967297 := by
  constructor
  · rw [Int.le_ediv_iff_mul_le (by omega)]
    have h : (u1 * 4294967296 + u0) / (v1 * 4294967296 + v0) * (v1 * 4294967296 + v0) ≤ u1 * 4294967296 + u0 := Int.ediv_mul_le _ (by omega)
    have h0 : 0 ≤ (u1 * 4294967296 + u0) / (v1 * 4294967296 + v0) := Int.ediv_nonneg (by omega) (by omega)
    have h1 := Int.mul_nonneg h0 hv0'
    rw [Int.mul_add, ← Int.mul_assoc] at h
    generalize (u1 * 4294967296 + u0) / (v1 * 4294967296 + v0) * v1 = A at *
    generalize (u1 * 4294967296 + u0) / (v1 * 4294967296 + v0) * v0 = B at *
    omega
  · have : u1 / v1 < 4294967298 := by
      rw [Int.ediv_lt_iff_lt_mul (by omega)]
      omega
    omega
theorem digit_lt {u1 u0 v : Int} (hv : 0 < v) (hu : u1 < v) (hu0 : u0 < 4294967296) : (u1 * 4294967296 + u0) / v < 4294967296 := by
  rw [Int.ediv_lt_iff_lt_mul hv]
  omega
/-- Two digits are the quotient. -/
theorem two_digits (x b v : Int) (hv : 0 < v) : x / v * 4294967296 + (x % v * 4294967296 + b) / v = (x * 4294967296 + b) / v := by
  have h := Int.mul_ediv_add_emod x v
  generalize x / v = q at *
  generalize x % v = r at *
  have e : x * 4294967296 + b = (r * 4294967296 + b) + v * (q * 4294967296) := by
    have : v * (q * 4294967296) = v * q * 4294967296 := by rw [Int.mul_assoc]
    rw [this]; omega
  rw [e, Int.add_mul_ediv_left _ _ (by omega)]; exact Int.add_comm _ _
/-- Behind the loop that breaks: the guess is at most 2^32, the rest at least: the test fails. -/
theorem digit_break {q r v0 u0 : Int} (hq : q ≤ 4294967296) (hv' : 0 ≤ v0) (hv : v0 < 4294967296) (hr : 4294967296 ≤ r) (hu : 0 ≤ u0) : q * v0 ≤ 4294967296 * r + u0 := by
  have h := Int.mul_le_mul hq (Int.le_of_lt hv) hv' (by omega)
  omega

/-- The loop's steps, with the divisor under one name. -/
theorem dig_dec {U u V v1 v0 q r : Int} (hV : v1 * 4294967296 + v0 = V) (hp : 0 < V) (he : q * v1 + r = U ∧ (U * 4294967296 + u) / V ≤ q) (hU : U < V) (hu : u < 4294967296)
    (ht : 4294967296 ≤ q ∨ 4294967296 * r + u < q * v0) : (q - 1) * v1 + (r + v1) = U ∧ (U * 4294967296 + u) / V ≤ q - 1 := by
  subst hV
  refine ⟨?_, digit_less hp he.1 hU hu ht⟩
  have := he.1
  rw [Int.sub_mul]
  omega
theorem dig_stop {U u V v1 v0 q r : Int} (hV : v1 * 4294967296 + v0 = V) (hp : 0 < V) (he : q * v1 + r = U ∧ (U * 4294967296 + u) / V ≤ q)
    (hle : q * v0 ≤ 4294967296 * r + u) : q = (U * 4294967296 + u) / V := by
  subst hV
  exact digit_stop hp he.1 he.2 hle
theorem dig_break {U u V v1 v0 q r : Int} (hV : v1 * 4294967296 + v0 = V) (hp : 0 < V) (he : q * v1 + r = U ∧ (U * 4294967296 + u) / V ≤ q) (hU : U < V) (hu' : 0 ≤ u) (hu : u < 4294967296)
    (hv' : 0 ≤ v0) (hv : v0 < 4294967296) (hq : q ≤ 4294967297) (hr : 4294967296 ≤ r + v1)
    (ht : 4294967296 ≤ q ∨ 4294967296 * r + u < q * v0) : q - 1 = (U * 4294967296 + u) / V := by
  have h := dig_dec hV hp he hU hu ht
  exact dig_stop hV hp h (digit_break (by omega) hv' hv hr hu')

/-- The quotient bit by bit: the digits above bit i. -/
theorem bit_step (n b i : Nat) (hb : 0 < b) :
    n / 2 ^ i / b = if b ≤ 2 * (n / 2 ^ (i + 1) % b) + n / 2 ^ i % 2 then 2 * (n / 2 ^ (i + 1) / b) + 1 else 2 * (n / 2 ^ (i + 1) / b) := by
  have e : n / 2 ^ (i + 1) = n / 2 ^ i / 2 := by rw [Nat.pow_succ, Nat.div_div_eq_div_mul]
  rw [e]
  generalize n / 2 ^ i = m
  have h := Nat.div_add_mod (m / 2) b
  have hl := Nat.mod_lt (m / 2) hb
  generalize m / 2 / b = q at *
  generalize m / 2 % b = r at *
  have hm : m = (2 * r + m % 2) + b * (2 * q) := by
    have : b * (2 * q) = 2 * (b * q) := by rw [Nat.mul_left_comm]
    rw [this]; omega
  have : m / b = (2 * r + m % 2) / b + 2 * q := by
    conv => lhs; rw [hm]
    rw [Nat.add_mul_div_left _ _ hb]
  rw [this]
  split
  · rename_i hc
    have : (2 * r + m % 2) / b = 1 := by
      apply Nat.div_eq_of_lt_le <;> omega
    omega
  · rename_i hc
    rw [Nat.div_eq_of_lt (by omega)]; omega
theorem bit_rest (n b i : Nat) (hb : 0 < b) :
    n / 2 ^ i % b = if b ≤ 2 * (n / 2 ^ (i + 1) % b) + n / 2 ^ i % 2 then 2 * (n / 2 ^ (i + 1) % b) + n / 2 ^ i % 2 - b else 2 * (n / 2 ^ (i + 1) % b) + n / 2 ^ i % 2 := by
  have e : n / 2 ^ (i + 1) = n / 2 ^ i / 2 := by rw [Nat.pow_succ, Nat.div_div_eq_div_mul]
  rw [e]
  generalize n / 2 ^ i = m
  have h := Nat.div_add_mod (m / 2) b
  have hl := Nat.mod_lt (m / 2) hb
  generalize m / 2 / b = q at *
  generalize m / 2 % b = r at *
  have hm : m = (2 * r + m % 2) + b * (2 * q) := by
    have : b * (2 * q) = 2 * (b * q) := by rw [Nat.mul_left_comm]
    rw [this]; omega
  have : m % b = (2 * r + m % 2) % b := by
    conv => lhs; rw [hm]
    rw [Nat.add_mul_mod_self_left]
  rw [this]
  split
  · rename_i hc
    rw [Nat.mod_eq_sub_mod hc, Nat.mod_eq_of_lt (by omega)]
  · rename_i hc
    rw [Nat.mod_eq_of_lt (by omega)]
/-- Once the digits pass 64 bits, all of them do. -/
theorem bits_grow (n b i : Nat) (h : 18446744073709551616 ≤ n / 2 ^ i / b) : 18446744073709551616 ≤ n / b := by
  refine Nat.le_trans h ?_
  exact Nat.div_le_div_right (Nat.div_le_self _ _)
end Go.Proofs.Ytpehbpehlkjdiaa
