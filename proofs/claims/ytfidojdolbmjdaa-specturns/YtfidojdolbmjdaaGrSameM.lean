import Derived.Test.YtfidojdolbmjdaaGrWalk1M
/- What Same returns of two graphs. -/
namespace Go.Proofs.Ytfidojdolbmjdaa
open Go.RowKit

theorem bel_drewN {B : Nat} {w wr : World} (h : Below B w wr) (n : Nat) : Below B w (wr.drewN n) := by
  induction n with
  | zero => exact h
  | succ n ih => exact ih.drew
end Go.Proofs.Ytfidojdolbmjdaa
