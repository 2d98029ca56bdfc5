import Derived.Test.YtnhijofnhflklaaGreatProg
import Derived.Test.YtnhijofnhflklaaGreatNmSpecM
import Derived.WalkKit
import Derived.WalkSpells
import Derived.WalkLawsBesides
/- num.Add, num.Sub, num.size, num.signed and the reference's at any numbers. -/
namespace Go.Proofs.YtnhijofnhflklaaGreat
open Go.RowKit

theorem add_any (a b : Int) (w : World) (ha : -9223372036854775808 ≤ a) (ha' : a ≤ 9223372036854775807) (hb : -9223372036854775808 ≤ b) (hb' : b ≤ 9223372036854775807) :
    Calls Tryz.prog 198 #[.int .i64 a, .int .i64 b] w fun e w' => e = ans (a + b) ∧ w' = w := by
  by_cases h : -9223372036854775808 ≤ a + b ∧ a + b ≤ 9223372036854775807
  · have hA := ans_in h
    go_enter Tryz.func198, Tryz.ntmps198
    go_wp2
    all_goals first | (exfalso; omega) | (go_ret2; exact ⟨hA, rfl⟩)
  · have hA := ans_out h
    go_enter Tryz.func198, Tryz.ntmps198
    go_wp2
    all_goals first | (exfalso; omega) | (go_ret2; exact ⟨hA, rfl⟩)

end Go.Proofs.YtnhijofnhflklaaGreat
