import Derived.Test.YtfidojdolbmjdaaParseM
/- Plain mathematics of a reader: what each taking answers, how many bytes are taken behind it, the error behind it; nothing of the program is named here. -/
namespace Go.Proofs.Ytfidojdolbmjdaa
/-- The three ways of a number that is to be read. -/
theorem three (s : ByteArray) (a : Nat) (ha : a ≤ s.size) : (∃ n k, pnum (s.data.toList.drop a) = (n, k, 0) ∧ 0 < k ∧ a + k ≤ s.size ∧ k ≤ 10 ∧ n < 18446744073709551616) ∨ ∃ n k x, pnum (s.data.toList.drop a) = (n, k, x) ∧ x ≠ 0 := by
  rcases pnum_cases (s.data.toList.drop a) with ⟨n, k, h, h1, h2, h3, h4⟩ | h | h
  · left; exact ⟨n, k, h, h1, by simp at h2; omega, h3, h4⟩
  · right; exact ⟨_, _, _, h, by decide⟩
  · right; exact ⟨_, _, _, h, by decide⟩
end Go.Proofs.Ytfidojdolbmjdaa
