import Derived.Test.YthkfbaoeimjgaaaGreatRows
import Derived.Test.YthkfbaoeimjgaaaGreatLawMNilLM
/- Proved: for every command and every number, cohortlaw17.MasterNil returns true, and its arguments read as they did. No condition. -/
namespace Go.Proofs.YthkfbaoeimjgaaaGreat.masterNil
open Go.ChangeShapes Go.WideShapes Go.ChangeAt Go.RowKit
theorem and_t {a b : Bool} (h : a = true) (k : b = true) : (a && b) = true := by rw [h, k]; rfl
set_option maxRecDepth 100000 in
set_option maxHeartbeats 16000000 in
theorem closed : joinedFacts Tryz.pinned.checked.prog 4 Tryz.f4 Rows.masterNilSpec Rows.masterNilRow = true := by
  unfold joinedFacts
  repeat' (with_reducible refine and_t ?_ ?_)
  all_goals as_aux_lemma => kernel_rfl
theorem over : Rows.masterNilRow.holds Tryz.pinned (OpenSpec.ofChange Rows.masterNilSpec) :=
  OpenClaim.holds_of_wide 4 Tryz.f4 rfl rfl rfl rfl rfl rfl rfl ⟨rfl, rfl, rfl, rfl, rfl⟩ rfl rfl rfl rfl rfl (by kernel_rfl) Tryz.func4 closed
    (of_decide_eq_true (by kernel_rfl)) (by unfold Func.isWrapper; first | (rw [if_pos (by decide +kernel)]; kernel_rfl) | (rw [if_neg (by decide +kernel)]; exact ⟨rfl, rfl⟩))
    (fun os started H enc _ => lifted os started H enc)
end Go.Proofs.YthkfbaoeimjgaaaGreat.masterNil
namespace Go.Proofs.YthkfbaoeimjgaaaGreat
theorem masterNil_holds : Rows.MasterNilSaid := masterNil.over
#print axioms masterNil_holds
end Go.Proofs.YthkfbaoeimjgaaaGreat
