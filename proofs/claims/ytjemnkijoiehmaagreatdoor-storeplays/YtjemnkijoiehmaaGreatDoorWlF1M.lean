import Derived.Test.YtjemnkijoiehmaaGreatDoorWlRowM
/- wal: the texts of the frames of a file. -/
namespace Go.Proofs.YtjemnkijoiehmaaGreatDoor
open Go.RowKit Go.Maps
attribute [local go_sem] Oper.semAt_some
section
variable {l x : Bs} {a n : Nat}
theorem unframe_ok (w : World) (ha : a ≤ l.length) (hl : l.length ≤ maxLen) (h : unf1 (l.drop a) = some (x, n)) : Calls Tryz.prog 29 #[.string (str l), .int .i64 a] w fun e w' => e = .returned (.tuple #[.string (str x), .int .i64 ((a + n : Nat) : Int), .int .i64 0]) ∧ Below w.heap.size w w' := by
  have h1 := unframe_any (str l) a w ha hl
  rw [(unfr_shift l a).2 x n h] at h1
  exact h1
end
end Go.Proofs.YtjemnkijoiehmaaGreatDoor
