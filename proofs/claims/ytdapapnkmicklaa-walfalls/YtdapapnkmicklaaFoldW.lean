/- What Fold and Unfold return, in the program and in the document's words; the world stands. -/
import Derived.Test.YtdapapnkmicklaaProg
import Derived.Laws.BitsAllLaws
import Derived.WalkKit
import Derived.WalkSpells
import Derived.WalkLawsBesides
namespace Go.Proofs.Ytdapapnkmicklaa
open Go.RowKit
def foldN (k : Int) : Int := if k < 0 then -2 * k - 1 else 2 * k
def unfoldN (n : Int) : Int := if n % 2 = 1 then -1 - n / 2 else n / 2
theorem unfold_fold (k : Int) : unfoldN (foldN k) = k := by unfold unfoldN foldN; split <;> split <;> omega
theorem fold_unfold (n : Int) (h : 0 ≤ n) : foldN (unfoldN n) = n := by unfold unfoldN foldN; split <;> split <;> omega
theorem fold_bd (k : Int) (h1 : -9223372036854775808 ≤ k) (h2 : k ≤ 9223372036854775807) : 0 ≤ foldN k ∧ foldN k ≤ 18446744073709551615 := by
  unfold foldN; split <;> omega
theorem unfold_bd (k : Int) (h1 : 0 ≤ k) (h2 : k ≤ 18446744073709551615) : -9223372036854775808 ≤ unfoldN k ∧ unfoldN k ≤ 9223372036854775807 := by
  unfold unfoldN; split <;> omega

theorem ret_i {k : IntKind} {a b : Int} (h : a = b) : Ending.returned (.int k a) = .returned (.int k b) := by rw [h]
theorem not_i64 (k : Int) (h1 : -9223372036854775808 ≤ k) (h2 : k ≤ 9223372036854775807) : bits .xor .i64 (-1) k = -1 - k := by
  show IntKind.i64.wrap ((BitVec.ofInt 64 (-1) ^^^ BitVec.ofInt 64 k).toNat : Int) = _
  have e : BitVec.ofInt 64 (-1) = BitVec.allOnes 64 := by decide
  rw [e, BitVec.allOnes_xor, BitVec.toNat_not, BitVec.toNat_ofInt]
  simp [IntKind.wrap, IntKind.bits, IntKind.signed]
  omega
theorem or_one (m : Int) (h1 : 0 ≤ m) (h2 : m < 18446744073709551616) (h3 : m % 2 = 0) : bits .or .u64 m 1 = m + 1 := by
  rw [u64_or m 1 h1 h2 (by decide) (by decide)]
  have : m.toNat ||| (1 : Int).toNat = m.toNat + 1 := nat_join 1 m.toNat 1 (by omega) (by decide)
  rw [this]; omega
theorem and_one64 (n : Int) (h1 : 0 ≤ n) (h2 : n ≤ 18446744073709551615) : bits .and .u64 n 1 = n % 2 := by
  rw [u64_and n 1 h1 (by omega) (by decide) (by decide), show (1 : Int).toNat = 1 from rfl, nat_mask1]; omega

end Go.Proofs.Ytdapapnkmicklaa
