import Derived.Test.YtnhijofnhflklaaGreatNmDivM
import Derived.BigQuiet
/- NumBack and NumSigns: what is added and taken away again is what it was; sums and products the other way round. -/
namespace Go.Proofs.YtnhijofnhflklaaGreat
open Go.RowKit

/-- A number of 64 bits with sign. -/
def N64 (a : Int) : Prop := -9223372036854775808 ≤ a ∧ a ≤ 9223372036854775807
theorem addR {a b : Int} {w : World} (ha : N64 a) (hb : N64 b) : Calls Tryz.prog 198 #[.int .i64 a, .int .i64 b] w fun e w' => e = .returned (.tuple #[.int .i64 (hv (a + b)), .int .i64 (he (a + b))]) ∧ w' = w :=
  add_any a b w ha.1 ha.2 hb.1 hb.2
end Go.Proofs.YtnhijofnhflklaaGreat
