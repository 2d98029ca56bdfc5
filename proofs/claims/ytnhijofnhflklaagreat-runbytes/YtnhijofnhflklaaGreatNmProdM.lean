import Derived.Test.YtnhijofnhflklaaGreatNmBackM
import Derived.BigQuiet
import Derived.Handy
import Derived.LoopN
import Derived.Deep.CutBlock
import Derived.Deep.DeepCutAuto
/- The reference's product, power and over. -/
namespace Go.Proofs.YtnhijofnhflklaaGreat
open Go.RowKit
/-- The reference's product: its four halves. -/
structure Halves (p o0 o1 o2 o3 : Nat) : Prop where
  b0 : o0 < 4294967296
  b1 : o1 < 4294967296
  b2 : o2 < 4294967296
  b3 : o3 < 4294967296
  sum : o0 + o1 * 4294967296 + o2 * 18446744073709551616 + o3 * 79228162514264337593543950336 = p
end Go.Proofs.YtnhijofnhflklaaGreat
