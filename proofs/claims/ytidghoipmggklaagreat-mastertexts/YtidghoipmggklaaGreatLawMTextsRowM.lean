import Derived.Test.YtidghoipmggklaaGreatRows
import Derived.Test.YtidghoipmggklaaGreatLawMTextsLM
/- Proved: for every report, job and three numbers, cohortlaw17.MasterTexts returns true, and its arguments read as they did. No condition. -/
namespace Go.Proofs.YtidghoipmggklaaGreat.masterTexts
open Go.ChangeShapes Go.WideShapes Go.ChangeAt Go.RowKit
theorem and_t {a b : Bool} (h : a = true) (k : b = true) : (a && b) = true := by rw [h, k]; rfl
set_option maxRecDepth 100000 in
set_option maxHeartbeats 16000000 in
theorem closed : joinedFacts Tryz.pinned.checked.prog 7 Tryz.f7 Rows.masterTextsSpec Rows.masterTextsRow = true := by
  unfold joinedFacts
  repeat' (with_reducible refine and_t ?_ ?_)
  all_goals as_aux_lemma => kernel_rfl
theorem over : Rows.masterTextsRow.holds Tryz.pinned (OpenSpec.ofChange Rows.masterTextsSpec) :=
  OpenClaim.holds_of_wide 7 Tryz.f7 rfl rfl rfl rfl rfl rfl rfl ⟨rfl, rfl, rfl, rfl, rfl⟩ rfl rfl rfl rfl rfl (by kernel_rfl) Tryz.func7 closed
    (of_decide_eq_true (by kernel_rfl)) (by unfold Func.isWrapper; first | (rw [if_pos (by decide +kernel)]; kernel_rfl) | (rw [if_neg (by decide +kernel)]; exact ⟨rfl, rfl⟩))
    (fun os started H enc _ => lifted os started H enc)
end Go.Proofs.YtidghoipmggklaaGreat.masterTexts
namespace Go.Proofs.YtidghoipmggklaaGreat
theorem masterTexts_holds : Rows.MasterTextsSaid := masterTexts.over
#print axioms masterTexts_holds
end Go.Proofs.YtidghoipmggklaaGreat
