/- num.Add, num.Sub, num.size, num.signed and the reference's at any numbers. -/
import Derived.Test.YtnijacbfcffnpaaProg
import Derived.Test.YtnijacbfcffnpaaNmSpec
import Derived.WalkKit
import Derived.WalkSpells
import Derived.WalkLawsBesides
namespace Go.Proofs.Ytnijacbfcffnpaa
open Go.RowKit

theorem ret_int {k : IntKind} {a b : Int} (h : a = b) : Ending.returned (.int k a) = .returned (.int k b) := by rw [h]
theorem ret2 {k k' : IntKind} {a b a' b' : Int} (h : a = a') (h' : b = b') : Ending.returned (.tuple #[.int k a, .int k' b]) = .returned (.tuple #[.int k a', .int k' b']) := by rw [h, h']
theorem ww_in {n : Int} (h : -9223372036854775808 ≤ n) (h' : n ≤ 9223372036854775807) : wrap64 (IntKind.u64.wrap n) = n := by
  rw [IntKind.wrap_u64]; unfold wrap64; omega
theorem neg_wrap {a : Int} (h : a < 0) (h' : -9223372036854775808 ≤ a) : IntKind.u64.wrap (-(IntKind.u64.wrap a)) = (a.natAbs : Int) := by
  rw [IntKind.wrap_u64, IntKind.wrap_u64]; omega

theorem add_any (a b : Int) (w : World) (ha : -9223372036854775808 ≤ a) (ha' : a ≤ 9223372036854775807) (hb : -9223372036854775808 ≤ b) (hb' : b ≤ 9223372036854775807) :
    Calls Try.prog 118 #[.int .i64 a, .int .i64 b] w fun e w' => e = ans (a + b) ∧ w' = w := by
  by_cases h : -9223372036854775808 ≤ a + b ∧ a + b ≤ 9223372036854775807
  · have hA := ans_in h
    go_enter Try.func118, Try.ntmps118
    go_wp2
    all_goals first | (exfalso; omega) | (go_ret2; exact ⟨hA, rfl⟩)
  · have hA := ans_out h
    go_enter Try.func118, Try.ntmps118
    go_wp2
    all_goals first | (exfalso; omega) | (go_ret2; exact ⟨hA, rfl⟩)

theorem size_any (a : Int) (w : World) (ha : -9223372036854775808 ≤ a) (ha' : a ≤ 9223372036854775807) :
    Calls Try.prog 137 #[.int .i64 a] w fun e w' => e = .returned (.int .u64 (a.natAbs : Int)) ∧ w' = w := by
  by_cases h : a < 0
  · go_enter Try.func137, Try.ntmps137
    go_wp2
    go_ret
    first | exact ⟨ret_int (neg_wrap h ha), rfl⟩ | exact ⟨ret_int (by omega), rfl⟩
  · go_enter Try.func137, Try.ntmps137
    go_wp2
    go_ret
    exact ⟨ret_int (by omega), rfl⟩

theorem signed_any_neg (n : Int) (w : World) (hn0 : 0 ≤ n) (hn : n < 18446744073709551616) :
    Calls Try.prog 139 #[.int .u64 n, .bool true] w fun e w' => e = ans (-n) ∧ w' = w := by
  by_cases h : n ≤ 9223372036854775808
  · have hA := ans_in (n := -n) (by omega)
    have hW := ww_in (n := -n) (by omega) (by omega)
    by_cases h0 : n = 9223372036854775808
    · have hN : (-9223372036854775808 : Int) = -n := by omega
      go_enter Try.func139, Try.ntmps139
      go_wp2
      all_goals first | (exfalso; omega) | (go_ret2; first | exact ⟨(ret2 hN rfl).trans hA, rfl⟩ | exact ⟨(ret2 hW rfl).trans hA, rfl⟩)
    · go_enter Try.func139, Try.ntmps139
      go_wp2
      all_goals first | (exfalso; omega) | (go_ret2; first | exact ⟨hA, rfl⟩ | exact ⟨(ret2 hW rfl).trans hA, rfl⟩)
  · have hA := ans_out (n := -n) (by omega)
    go_enter Try.func139, Try.ntmps139
    go_wp2
    all_goals first | (exfalso; omega) | (go_ret2; exact ⟨hA, rfl⟩)
theorem signed_any_pos (n : Int) (w : World) (hn0 : 0 ≤ n) (hn : n < 18446744073709551616) :
    Calls Try.prog 139 #[.int .u64 n, .bool false] w fun e w' => e = ans n ∧ w' = w := by
  by_cases h : n < 9223372036854775808
  · have hA := ans_in (n := n) (by omega)
    go_enter Try.func139, Try.ntmps139
    go_wp2
    all_goals first | (exfalso; omega) | (go_ret2; exact ⟨hA, rfl⟩)
  · have hA := ans_out (n := n) (by omega)
    go_enter Try.func139, Try.ntmps139
    go_wp2
    all_goals first | (exfalso; omega) | (go_ret2; exact ⟨hA, rfl⟩)

end Go.Proofs.Ytnijacbfcffnpaa
