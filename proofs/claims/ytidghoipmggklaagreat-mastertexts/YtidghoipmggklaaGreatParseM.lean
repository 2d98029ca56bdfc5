import Derived.Test.YtidghoipmggklaaGreatNumM
/- Plain mathematics of reading a number off bytes: what is read, how many bytes it has, the error; nothing of the program is named here. -/
namespace Go.Proofs.YtidghoipmggklaaGreat

/-- The number at the front, its size, the error: f bytes may still come, i came already, acc is what they make. -/
def pgo : Nat → Nat → Nat → List UInt8 → Nat × Nat × Nat
  | 0, _, _, _ => (0, 0, 6)
  | _ + 1, _, _, [] => (0, 0, 4)
  | f + 1, i, acc, b :: l =>
    if 128 ≤ b.toNat then pgo f (i + 1) (acc + b.toNat % 128 * 128 ^ i) l
    else if (0 < i ∧ b.toNat = 0) ∨ (i = 9 ∧ 1 < b.toNat) then (0, 0, 6)
    else (acc + b.toNat * 128 ^ i, i + 1, 0)
def pnum (l : List UInt8) : Nat × Nat × Nat := pgo 10 0 0 l

theorem pgo_hi {f i acc : Nat} {b : UInt8} {l : List UInt8} (h : 128 ≤ b.toNat) : pgo (f + 1) i acc (b :: l) = pgo f (i + 1) (acc + b.toNat % 128 * 128 ^ i) l := by simp [pgo, h]
theorem pgo_bad {f i acc : Nat} {b : UInt8} {l : List UInt8} (h : ¬ 128 ≤ b.toNat) (k : (0 < i ∧ b.toNat = 0) ∨ (i = 9 ∧ 1 < b.toNat)) : pgo (f + 1) i acc (b :: l) = (0, 0, 6) := by rw [pgo, if_neg h, if_pos k]
theorem pgo_end {f i acc : Nat} {b : UInt8} {l : List UInt8} (h : ¬ 128 ≤ b.toNat) (k : ¬ ((0 < i ∧ b.toNat = 0) ∨ (i = 9 ∧ 1 < b.toNat))) : pgo (f + 1) i acc (b :: l) = (acc + b.toNat * 128 ^ i, i + 1, 0) := by rw [pgo, if_neg h, if_neg k]

theorem pow_le9 {i : Nat} (h : i ≤ 9) : 128 ^ i ≤ 9223372036854775808 := Nat.le_trans (Nat.pow_le_pow_right (by decide) h) (by decide)
theorem pow_le8 {i : Nat} (h : i ≤ 8) : 128 ^ i ≤ 72057594037927936 := Nat.le_trans (Nat.pow_le_pow_right (by decide) h) (by decide)
theorem acc_step {i acc b : Nat} (h : acc < 128 ^ i) (hb : b < 128) : acc + b * 128 ^ i < 128 ^ (i + 1) := by
  have : b * 128 ^ i ≤ 127 * 128 ^ i := Nat.mul_le_mul_right _ (by omega)
  rw [Nat.pow_succ]; omega

/-- What is read has its bytes, is a number of 64 bits, and its size is what is taken; an error is 4 or 6, with nothing read. -/
theorem pgo_cases (f : Nat) : ∀ (i acc : Nat) (l : List UInt8), i + f = 10 → acc < 128 ^ i →
    (∃ n k, pgo f i acc l = (n, k, 0) ∧ i < k ∧ k ≤ i + l.length ∧ k ≤ 10 ∧ n < 18446744073709551616) ∨ pgo f i acc l = (0, 0, 4) ∨ pgo f i acc l = (0, 0, 6) := by
  induction f with
  | zero => intro i acc l _ _; right; right; cases l <;> rfl
  | succ f ih =>
    intro i acc l hi ha
    cases l with
    | nil => right; left; rfl
    | cons b l =>
      by_cases h : 128 ≤ b.toNat
      · rw [pgo_hi h]
        rcases ih (i + 1) _ l (by omega) (acc_step ha (Nat.mod_lt b.toNat (by decide))) with ⟨n, k, e, h1, h2, h3, h4⟩ | e | e
        · left; exact ⟨n, k, e, by omega, by simp; omega, h3, h4⟩
        · right; left; exact e
        · right; right; exact e
      · by_cases k : (0 < i ∧ b.toNat = 0) ∨ (i = 9 ∧ 1 < b.toNat)
        · right; right; exact pgo_bad h k
        · left
          refine ⟨_, _, pgo_end h k, by omega, by simp, by omega, ?_⟩
          by_cases h9 : i = 9
          · subst h9
            have hb : b.toNat ≤ 1 := by omega
            have := pow_le9 (Nat.le_refl 9)
            have h2 : b.toNat * 128 ^ 9 ≤ 1 * 128 ^ 9 := Nat.mul_le_mul_right _ hb
            omega
          · have h2 := acc_step ha (show b.toNat < 128 by omega)
            have h3 := pow_le9 (i := i + 1) (by omega)
            omega
theorem pnum_cases (l : List UInt8) : (∃ n k, pnum l = (n, k, 0) ∧ 0 < k ∧ k ≤ l.length ∧ k ≤ 10 ∧ n < 18446744073709551616) ∨ pnum l = (0, 0, 4) ∨ pnum l = (0, 0, 6) := by
  rcases pgo_cases 10 0 0 l rfl (by decide) with ⟨n, k, e, h1, h2, h3, h4⟩ | e | e
  · left; exact ⟨n, k, e, h1, by omega, h3, h4⟩
  · right; left; exact e
  · right; right; exact e

/-- The bytes of a number are read as it, whatever follows. -/
theorem pgo_num (f : Nat) : ∀ (i acc m : Nat) (l : List UInt8), i + f = 10 → (0 < i → 0 < m) → m * 128 ^ i < 18446744073709551616 →
    pgo f i acc (numB m ++ l) = (acc + m * 128 ^ i, i + (numB m).length, 0) := by
  induction f with
  | zero =>
    intro i acc m l hi hm hl
    obtain rfl : i = 10 := by omega
    have : m = 0 := by
      have h10 : (128 : Nat) ^ 10 = 1180591620717411303424 := by decide
      rw [h10] at hl; omega
    have := hm (by omega)
    omega
  | succ f ih =>
    intro i acc m l hi hm hl
    by_cases h : m < 128
    · rw [numB_lo h, List.singleton_append, pgo_end]
      · rw [UInt8.toNat_ofNat', show m % 2 ^ 8 = m by omega]; rfl
      · rw [UInt8.toNat_ofNat', show m % 2 ^ 8 = m by omega]; omega
      · rw [UInt8.toNat_ofNat', show m % 2 ^ 8 = m by omega]
        rintro (⟨a, b⟩ | ⟨rfl, b⟩)
        · have := hm a; omega
        · have h9 : (128 : Nat) ^ 9 = 9223372036854775808 := by decide
          rw [h9] at hl; omega
    · have e1 : (UInt8.ofNat (m % 128 + 128)).toNat = m % 128 + 128 := by rw [UInt8.toNat_ofNat']; omega
      have e3 : (m % 128 + 128) % 128 = m % 128 := by omega
      have hm' : m = m / 128 * 128 + m % 128 := by omega
      have e4 : m * 128 ^ i = m / 128 * (128 ^ i * 128) + m % 128 * 128 ^ i := by
        conv => lhs; rw [hm', Nat.add_mul, Nat.mul_assoc, Nat.mul_comm 128]
      rw [numB_hi h, List.cons_append, pgo_hi (by rw [e1]; omega), ih (i + 1) _ (m / 128) l (by omega) (fun _ => by omega) (by rw [Nat.pow_succ]; omega), e1, e3]
      simp only [List.length_cons, Prod.mk.injEq, and_true]
      exact ⟨by rw [Nat.pow_succ]; omega, by omega⟩
theorem pnum_num {m : Nat} (l : List UInt8) (h : m < 18446744073709551616) : pnum (numB m ++ l) = (m, (numB m).length, 0) := by
  have := pgo_num 10 0 0 m l rfl (by omega) (by simpa using h)
  unfold pnum; simpa using this
end Go.Proofs.YtidghoipmggklaaGreat
