import Derived.Test.YtnhijofnhflklaaGreatNmProdM
/- The reference's over: bit by bit from the highest. -/
namespace Go.Proofs.YtnhijofnhflklaaGreat
open Go.RowKit

theorem bit_low (m r : Nat) (hr : r < 32) : m % 4294967296 / 2 ^ r % 2 = m / 2 ^ r % 2 := by
  have h : (m % 2 ^ 32).testBit r = m.testBit r := by rw [Nat.testBit_mod_two_pow]; simp [hr]
  have h1 := Nat.toNat_testBit (m % 2 ^ 32) r
  have h2 := Nat.toNat_testBit m r
  rw [h] at h1
  exact h1.symm.trans h2
theorem Halves.bit {p o0 o1 o2 o3 : Nat} (h : Halves p o0 o1 o2 o3) (r : Nat) (hr : r < 32) :
    p / 2 ^ r % 2 = o0 / 2 ^ r % 2 ∧ p / 2 ^ (32 + r) % 2 = o1 / 2 ^ r % 2 ∧ p / 2 ^ (64 + r) % 2 = o2 / 2 ^ r % 2 ∧ p / 2 ^ (96 + r) % 2 = o3 / 2 ^ r % 2 := by
  obtain ⟨b0, b1, b2, b3, hs⟩ := h
  refine ⟨?_, ?_, ?_, ?_⟩
  · rw [← bit_low p r hr, show p % 4294967296 = o0 by omega]
  · rw [Nat.pow_add, ← Nat.div_div_eq_div_mul, ← bit_low _ r hr, show p / 2 ^ 32 % 4294967296 = o1 by omega]
  · rw [Nat.pow_add, ← Nat.div_div_eq_div_mul, ← bit_low _ r hr, show p / 2 ^ 64 % 4294967296 = o2 by omega]
  · rw [Nat.pow_add, ← Nat.div_div_eq_div_mul, ← bit_low _ r hr, show p / 2 ^ 96 % 4294967296 = o3 by omega]

theorem Halves.lt {p o0 o1 o2 o3 : Nat} (h : Halves p o0 o1 o2 o3) : p < 2 ^ 128 := by
  obtain ⟨b0, b1, b2, b3, hs⟩ := h
  show p < 340282366920938463463374607431768211456
  omega
theorem lt_of_block {w : World} {g : Nat} {o : Obj} (h : w.heap[g]? = some o) : g < w.heap.size := by
  rcases Nat.lt_or_ge g w.heap.size with h1 | h1
  · exact h1
  · rw [Array.getElem?_eq_none h1] at h; cases h
end Go.Proofs.YtnhijofnhflklaaGreat
