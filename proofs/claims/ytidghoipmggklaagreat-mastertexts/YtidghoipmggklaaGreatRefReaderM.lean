import Derived.Test.YtidghoipmggklaaGreatReader2M
import Derived.Laws.ResultCell
/- What the document's reader (a value) answers to each taking. -/
namespace Go.Proofs.YtidghoipmggklaaGreat
open Go.RowKit

theorem b2 (w : World) (o1 o2 : Obj) : Below w.heap.size w ((w.alloc o1).alloc o2) := ((Below.refl _ _).alloc (Nat.le_refl _) _).alloc (by simp) _

end Go.Proofs.YtidghoipmggklaaGreat
