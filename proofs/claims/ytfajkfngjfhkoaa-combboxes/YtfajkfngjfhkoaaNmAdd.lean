/- num.Add, num.Sub, num.size, num.signed and the reference's at any numbers. -/
import Derived.Test.YtfajkfngjfhkoaaProg
import Derived.Test.YtfajkfngjfhkoaaNmSpec
import Derived.WalkKit
import Derived.WalkSpells
import Derived.WalkLawsBesides
namespace Go.Proofs.Ytfajkfngjfhkoaa
open Go.RowKit

theorem ret_int {k : IntKind} {a b : Int} (h : a = b) : Ending.returned (.int k a) = .returned (.int k b) := by rw [h]
theorem ret2 {k k' : IntKind} {a b a' b' : Int} (h : a = a') (h' : b = b') : Ending.returned (.tuple #[.int k a, .int k' b]) = .returned (.tuple #[.int k a', .int k' b']) := by rw [h, h']
theorem ww_in {n : Int} (h : -9223372036854775808 ≤ n) (h' : n ≤ 9223372036854775807) : wrap64 (IntKind.u64.wrap n) = n := by
  rw [IntKind.wrap_u64]; unfold wrap64; omega
theorem neg_wrap {a : Int} (h : a < 0) (h' : -9223372036854775808 ≤ a) : IntKind.u64.wrap (-(IntKind.u64.wrap a)) = (a.natAbs : Int) := by
  rw [IntKind.wrap_u64, IntKind.wrap_u64]; omega

theorem add_any (a b : Int) (w : World) (ha : -9223372036854775808 ≤ a) (ha' : a ≤ 9223372036854775807) (hb : -9223372036854775808 ≤ b) (hb' : b ≤ 9223372036854775807) :
    Calls Try.prog 91 #[.int .i64 a, .int .i64 b] w fun e w' => e = ans (a + b) ∧ w' = w := by
  by_cases h : -9223372036854775808 ≤ a + b ∧ a + b ≤ 9223372036854775807
  · have hA := ans_in h
    go_enter Try.func91, Try.ntmps91
    go_wp2
    all_goals first | (exfalso; omega) | (go_ret2; exact ⟨hA, rfl⟩)
  · have hA := ans_out h
    go_enter Try.func91, Try.ntmps91
    go_wp2
    all_goals first | (exfalso; omega) | (go_ret2; exact ⟨hA, rfl⟩)

theorem refadd_any (a b : Int) (w : World) (ha : -9223372036854775808 ≤ a) (ha' : a ≤ 9223372036854775807) (hb : -9223372036854775808 ≤ b) (hb' : b ≤ 9223372036854775807) :
    Calls Try.prog 67 #[.int .i64 a, .int .i64 b] w fun e w' => e = ans (a + b) ∧ w' = w := by
  by_cases h : -9223372036854775808 ≤ a + b ∧ a + b ≤ 9223372036854775807
  · have hA := ans_in h
    go_enter Try.func67, Try.ntmps67
    go_wp2
    all_goals first | (exfalso; omega) | (go_ret2; exact ⟨hA, rfl⟩)
  · have hA := ans_out h
    go_enter Try.func67, Try.ntmps67
    go_wp2
    all_goals first | (exfalso; omega) | (go_ret2; exact ⟨hA, rfl⟩)

end Go.Proofs.Ytfajkfngjfhkoaa
