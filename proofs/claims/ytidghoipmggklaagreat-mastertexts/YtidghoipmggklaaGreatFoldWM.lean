import Derived.Test.YtidghoipmggklaaGreatProg
import Derived.Laws.BitsAllLaws
import Derived.WalkKit
import Derived.WalkSpells
import Derived.WalkLawsBesides
/- What Fold and Unfold return, in the program and in the document's words; the world stands. -/
namespace Go.Proofs.YtidghoipmggklaaGreat
open Go.RowKit
def foldN (k : Int) : Int := if k < 0 then -2 * k - 1 else 2 * k
def unfoldN (n : Int) : Int := if n % 2 = 1 then -1 - n / 2 else n / 2
theorem unfold_fold (k : Int) : unfoldN (foldN k) = k := by unfold unfoldN foldN; split <;> split <;> omega
theorem fold_bd (k : Int) (h1 : -9223372036854775808 ≤ k) (h2 : k ≤ 9223372036854775807) : 0 ≤ foldN k ∧ foldN k ≤ 18446744073709551615 := by
  unfold foldN; split <;> omega
theorem unfold_bd (k : Int) (h1 : 0 ≤ k) (h2 : k ≤ 18446744073709551615) : -9223372036854775808 ≤ unfoldN k ∧ unfoldN k ≤ 9223372036854775807 := by
  unfold unfoldN; split <;> omega

theorem ret_i {k : IntKind} {a b : Int} (h : a = b) : Ending.returned (.int k a) = .returned (.int k b) := by rw [h]
theorem not_i64 (k : Int) (h1 : -9223372036854775808 ≤ k) (h2 : k ≤ 9223372036854775807) : bits .xor .i64 (-1) k = -1 - k := by
  show IntKind.i64.wrap ((BitVec.ofInt 64 (-1) ^^^ BitVec.ofInt 64 k).toNat : Int) = _
  have e : BitVec.ofInt 64 (-1) = BitVec.allOnes 64 := by decide
  rw [e, BitVec.allOnes_xor, BitVec.toNat_not, BitVec.toNat_ofInt]
  simp [IntKind.wrap, IntKind.bits, IntKind.signed]
  omega
theorem or_one (m : Int) (h1 : 0 ≤ m) (h2 : m < 18446744073709551616) (h3 : m % 2 = 0) : bits .or .u64 m 1 = m + 1 := by
  rw [u64_or m 1 h1 h2 (by decide) (by decide)]
  have : m.toNat ||| (1 : Int).toNat = m.toNat + 1 := nat_join 1 m.toNat 1 (by omega) (by decide)
  rw [this]; omega
theorem and_one64 (n : Int) (h1 : 0 ≤ n) (h2 : n ≤ 18446744073709551615) : bits .and .u64 n 1 = n % 2 := by
  rw [u64_and n 1 h1 (by omega) (by decide) (by decide), show (1 : Int).toNat = 1 from rfl, nat_mask1]; omega

theorem fold_any (k : Int) (w : World) (h1 : -9223372036854775808 ≤ k) (h2 : k ≤ 9223372036854775807) :
    Calls Tryz.prog 116 #[.int .i64 k] w fun e w' => e = .returned (.int .u64 (foldN k)) ∧ w' = w := by
  by_cases hk : k < 0
  · have hn := not_i64 k h1 h2
    go_enter Tryz.func116, Tryz.ntmps116
    go_wp2
    go_ret
    refine ⟨ret_i ?_, rfl⟩
    have e : IntKind.u64.wrap (IntKind.u64.wrap (-1 - k) * 2) = (-1 - k) * 2 := by rw [IntKind.wrap_u64, IntKind.wrap_u64]; omega
    rw [e, or_one _ (by omega) (by omega) (by omega)]
    unfold foldN; rw [if_pos hk]; omega
  · go_enter Tryz.func116, Tryz.ntmps116
    go_wp2
    go_ret
    exact ⟨ret_i (by unfold foldN; rw [if_neg (by omega)]; omega), rfl⟩
theorem unfold_any (n : Int) (w : World) (h1 : 0 ≤ n) (h2 : n ≤ 18446744073709551615) :
    Calls Tryz.prog 170 #[.int .u64 n] w fun e w' => e = .returned (.int .i64 (unfoldN n)) ∧ w' = w := by
  have ha := and_one64 n h1 h2
  have hn := not_i64 (n / 2) (by omega) (by omega)
  by_cases hk : n % 2 = 1
  · go_enter Tryz.func170, Tryz.ntmps170
    go_wp2
    go_ret
    exact ⟨ret_i (by unfold unfoldN; rw [if_pos hk]), rfl⟩
  · go_enter Tryz.func170, Tryz.ntmps170
    go_wp2
    go_ret
    exact ⟨ret_i (by unfold unfoldN; rw [if_neg hk]), rfl⟩
end Go.Proofs.YtidghoipmggklaaGreat
