import Derived.Test.YthkfbaoeimjgaaaGreatRows
import Derived.Test.YthkfbaoeimjgaaaGreatLawMLivesLM
/- Proved: for every list of acts, cohortlaw17.MasterLives returns true, and its argument reads as it did. No condition. -/
namespace Go.Proofs.YthkfbaoeimjgaaaGreat.masterLives
open Go.ChangeShapes Go.WideShapes Go.ChangeAt Go.RowKit
theorem and_t {a b : Bool} (h : a = true) (k : b = true) : (a && b) = true := by rw [h, k]; rfl
set_option maxRecDepth 100000 in
set_option maxHeartbeats 16000000 in
theorem closed : joinedFacts Tryz.pinned.checked.prog 6 Tryz.f6 Rows.masterLivesSpec Rows.masterLivesRow = true := by
  unfold joinedFacts
  repeat' (with_reducible refine and_t ?_ ?_)
  all_goals as_aux_lemma => kernel_rfl
theorem over : Rows.masterLivesRow.holds Tryz.pinned (OpenSpec.ofChange Rows.masterLivesSpec) :=
  OpenClaim.holds_of_wide 6 Tryz.f6 rfl rfl rfl rfl rfl rfl rfl ⟨rfl, rfl, rfl, rfl, rfl⟩ rfl rfl rfl rfl rfl (by kernel_rfl) Tryz.func6 closed
    (of_decide_eq_true (by kernel_rfl)) (by unfold Func.isWrapper; first | (rw [if_pos (by decide +kernel)]; kernel_rfl) | (rw [if_neg (by decide +kernel)]; exact ⟨rfl, rfl⟩))
    (fun os started H enc _ => lifted os started H enc)
end Go.Proofs.YthkfbaoeimjgaaaGreat.masterLives
namespace Go.Proofs.YthkfbaoeimjgaaaGreat
theorem masterLives_holds : Rows.MasterLivesSaid := masterLives.over
#print axioms masterLives_holds
end Go.Proofs.YthkfbaoeimjgaaaGreat
