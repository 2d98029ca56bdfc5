import Derived.Test.YtfidojdolbmjdaaGrWalk1M
/- What rising returns of edges, and endsRise of a graph. -/
namespace Go.Proofs.Ytfidojdolbmjdaa
open Go.RowKit

theorem risesE_at {G : List Vx} {k : Nat} (h : k < G.length) (hr : riseB (ends G[k].es) = false) : risesE G = false := by
  unfold risesE
  rw [Bool.eq_false_iff]
  intro ha
  rw [List.all_eq_true] at ha
  have := ha _ (List.getElem_mem h)
  rw [hr] at this
  cases this
theorem risesE_all {G : List Vx} (H : ∀ j (h : j < G.length), riseB (ends G[j].es) = true) : risesE G = true := by
  unfold risesE
  rw [List.all_eq_true]
  intro v hv
  obtain ⟨j, hj, rfl⟩ := List.getElem_of_mem hv
  exact H j hj

end Go.Proofs.Ytfidojdolbmjdaa
