import Derived.Test.YtfidojdolbmjdaaGrDataM
import Derived.Test.YtfidojdolbmjdaaProg
import Derived.Laws.BitsAllLaws
import Derived.WalkKit
import Derived.WalkSpells
import Derived.WalkLawsBesides
/- A graph's bytes, as plain lists. -/
namespace Go.Proofs.Ytfidojdolbmjdaa
open Go.RowKit
/-- How many bytes at most. -/
def room (G : List Vx) : Nat := (G.map fun v => 30 + 20 * v.es.length).sum
theorem chk_ok {G : List Vx} (h : chk G = 0) : G.length ≤ 256 ∧ Rise (ids G) ∧ sumE G ≤ 2048 ∧ risesE G = true ∧ thereE G = true := by
  unfold chk at h
  split at h
  · omega
  · rename_i h1
    split at h
    · omega
    · rename_i h2
      refine ⟨by omega, (riseB_iff _).1 ?_, by omega, ?_, ?_⟩
      · cases hr : riseB (ids G) with
        | true => rfl
        | false => exact absurd (Or.inr hr) h1
      · cases hr : risesE G with
        | true => rfl
        | false => exact absurd (Or.inr (Or.inl hr)) h2
      · cases hr : thereE G with
        | true => rfl
        | false => exact absurd (Or.inr (Or.inr hr)) h2
end Go.Proofs.Ytfidojdolbmjdaa
