import Derived.Test.YtfidojdolbmjdaaNumM
/- Plain mathematics of reading a number off bytes: what is read, how many bytes it has, the error; nothing of the program is named here. -/
namespace Go.Proofs.Ytfidojdolbmjdaa

/-- The number at the front, its size, the error: f bytes may still come, i came already, acc is what they make. -/
def pgo : Nat → Nat → Nat → List UInt8 → Nat × Nat × Nat
  | 0, _, _, _ => (0, 0, 6)
  | _ + 1, _, _, [] => (0, 0, 4)
  | f + 1, i, acc, b :: l =>
    if 128 ≤ b.toNat then pgo f (i + 1) (acc + b.toNat % 128 * 128 ^ i) l
    else if (0 < i ∧ b.toNat = 0) ∨ (i = 9 ∧ 1 < b.toNat) then (0, 0, 6)
    else (acc + b.toNat * 128 ^ i, i + 1, 0)
def pnum (l : List UInt8) : Nat × Nat × Nat := pgo 10 0 0 l

theorem pgo_hi {f i acc : Nat} {b : UInt8} {l : List UInt8} (h : 128 ≤ b.toNat) : pgo (f + 1) i acc (b :: l) = pgo f (i + 1) (acc + b.toNat % 128 * 128 ^ i) l := by simp [pgo, h]
theorem pgo_bad {f i acc : Nat} {b : UInt8} {l : List UInt8} (h : ¬ 128 ≤ b.toNat) (k : (0 < i ∧ b.toNat = 0) ∨ (i = 9 ∧ 1 < b.toNat)) : pgo (f + 1) i acc (b :: l) = (0, 0, 6) := by rw [pgo, if_neg h, if_pos k]
theorem pgo_end {f i acc : Nat} {b : UInt8} {l : List UInt8} (h : ¬ 128 ≤ b.toNat) (k : ¬ ((0 < i ∧ b.toNat = 0) ∨ (i = 9 ∧ 1 < b.toNat))) : pgo (f + 1) i acc (b :: l) = (acc + b.toNat * 128 ^ i, i + 1, 0) := by rw [pgo, if_neg h, if_neg k]

theorem pow_le9 {i : Nat} (h : i ≤ 9) : 128 ^ i ≤ 9223372036854775808 := Nat.le_trans (Nat.pow_le_pow_right (by decide) h) (by decide)
theorem acc_step {i acc b : Nat} (h : acc < 128 ^ i) (hb : b < 128) : acc + b * 128 ^ i < 128 ^ (i + 1) := by
  have : b * 128 ^ i ≤ 127 * 128 ^ i := Nat.mul_le_mul_right _ (by omega)
  rw [Nat.pow_succ]; omega

/-- What is read has its bytes, is a number of 64 bits, and its size is what is taken; an error is 4 or 6, with nothing read. -/
theorem pgo_cases (f : Nat) : ∀ (i acc : Nat) (l : List UInt8), i + f = 10 → acc < 128 ^ i →
    (∃ n k, pgo f i acc l = (n, k, 0) ∧ i < k ∧ k ≤ i + l.length ∧ k ≤ 10 ∧ n < 18446744073709551616) ∨ pgo f i acc l = (0, 0, 4) ∨ pgo f i acc l = (0, 0, 6) := by
  induction f with
  | zero => intro i acc l _ _; right; right; cases l <;> rfl
  | succ f ih =>
    intro i acc l hi ha
    cases l with
    | nil => right; left; rfl
    | cons b l =>
      by_cases h : 128 ≤ b.toNat
      · rw [pgo_hi h]
        rcases ih (i + 1) _ l (by omega) (acc_step ha (Nat.mod_lt b.toNat (by decide))) with ⟨n, k, e, h1, h2, h3, h4⟩ | e | e
        · left; exact ⟨n, k, e, by omega, by simp; omega, h3, h4⟩
        · right; left; exact e
        · right; right; exact e
      · by_cases k : (0 < i ∧ b.toNat = 0) ∨ (i = 9 ∧ 1 < b.toNat)
        · right; right; exact pgo_bad h k
        · left
          refine ⟨_, _, pgo_end h k, by omega, by simp, by omega, ?_⟩
          by_cases h9 : i = 9
          · subst h9
            have hb : b.toNat ≤ 1 := by omega
            have := pow_le9 (Nat.le_refl 9)
            have h2 : b.toNat * 128 ^ 9 ≤ 1 * 128 ^ 9 := Nat.mul_le_mul_right _ hb
            omega
          · have h2 := acc_step ha (show b.toNat < 128 by omega)
            have h3 := pow_le9 (i := i + 1) (by omega)
            omega
theorem pnum_cases (l : List UInt8) : (∃ n k, pnum l = (n, k, 0) ∧ 0 < k ∧ k ≤ l.length ∧ k ≤ 10 ∧ n < 18446744073709551616) ∨ pnum l = (0, 0, 4) ∨ pnum l = (0, 0, 6) := by
  rcases pgo_cases 10 0 0 l rfl (by decide) with ⟨n, k, e, h1, h2, h3, h4⟩ | e | e
  · left; exact ⟨n, k, e, h1, by omega, h3, h4⟩
  · right; left; exact e
  · right; right; exact e

end Go.Proofs.Ytfidojdolbmjdaa
