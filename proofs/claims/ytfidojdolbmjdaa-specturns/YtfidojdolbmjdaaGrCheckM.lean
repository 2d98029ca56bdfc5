import Derived.Test.YtfidojdolbmjdaaGrThereM
import Derived.Test.YtfidojdolbmjdaaGrWalk2M
/- What Check returns. -/
namespace Go.Proofs.Ytfidojdolbmjdaa
open Go.RowKit
theorem one_new (w : World) (o : Obj) : Below w.heap.size w (w.alloc o) := (Below.refl _ _).alloc (Nat.le_refl _) _
end Go.Proofs.Ytfidojdolbmjdaa
