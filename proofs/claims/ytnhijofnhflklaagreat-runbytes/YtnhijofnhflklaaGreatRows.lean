/-
  No cell of these rows narrows 'for every input' (looked for: loops, veiled, ifaces, maps, wideKeys, modest, calm, conditions, laid).
  DERIVED. THE GIVEN ROWS OF THIS SEAT. 6 by the template 'for every input the law returns true; each argument reads behind the call as it read before'; 0 by the template 'total and deterministic' (their statements: YtnhijofnhflklaaGreatTotals.lean).
  GIVEN WITH THE SEED: the statements are not yours to turn. If you find one false, say at which input.
  Laid BY PROGRAM, IN A SANDBOX (cutbox-rows.mjs): the forced cells as the released guide's own fill.sh prints them over the translation 7ae57234d239b36f… (all of the seat's roots in one cut). By AI agents, Wed Nov 11 2026. No macro, syntax, notation, axiom, sorry.
-/
import Derived.Test.YtnhijofnhflklaaGreatChecked
import GoSem.Claim
import GoSem.ClaimJoined
import GoSem.ClaimMapViews
import Derived.JoinedTies
import Derived.KernelRfl
namespace Go.Proofs.YtnhijofnhflklaaGreat
/- THE CELL 'sum', in the pinned program and in every row, IS THE sha256 OF THE DUMP (.gsa) THAT YtnhijofnhflklaaGreatProg.lean LOADS. Nothing in Lean hashes anything: it is a label: what it is worth is what the hold of that sum in a sandbox is worth. -/
noncomputable def Tryz.pinned : Pinned := { name := "ytnhijofnhflklaagreat", sum := "7ae57234d239b36f42e7393058f067951d7c7417a084de8bc15be1a1ce356aec", checked := Tryz.checked }
namespace Rows
def none {H : Type} : Left H := { results := [], args := [] }

/-- 'cohortlaw09.RunOutcomes': WHATEVER THE INPUT: true; the input reads as it did. -/
def runOutcomesSpec : ChangeSpec := { name := "runOutcomes", fn := fun _ => fun
  | [d] => { results := [.lit (.bool true)], args := [d] }
  | _ => none }
def runOutcomesRow : OpenClaim := { program := "ytnhijofnhflklaagreat", sum := "7ae57234d239b36f42e7393058f067951d7c7417a084de8bc15be1a1ce356aec", func := "cohort/cohortlaw09.RunOutcomes", spec := "runOutcomes", inPlace := ["slices.overlaps[cohort/api.Vertex]", "slices.overlaps[cohort/api.Edge]"], unfollowed := true, recurses := true, named := ["math/bits.divideError", "math/bits.overflowError"], apart := false }
def RunOutcomesSaid : Prop := runOutcomesRow.holds Tryz.pinned (OpenSpec.ofChange runOutcomesSpec)

/-- ITS FALSE NEIGHBOUR: 'it returns false'. Refute it at one input. -/
def runOutcomesWrong : ChangeSpec := { name := "runOutcomes", fn := fun _ => fun
  | [d] => { results := [.lit (.bool false)], args := [d] }
  | _ => none }
def RunOutcomesWrongFalsely : Prop := runOutcomesRow.holds Tryz.pinned (OpenSpec.ofChange runOutcomesWrong)

/-- 'cohortlaw09.RunJobs': WHATEVER THE INPUT: true; the input reads as it did. -/
def runJobsSpec : ChangeSpec := { name := "runJobs", fn := fun _ => fun
  | [d1, d2] => { results := [.lit (.bool true)], args := [d1, d2] }
  | _ => none }
def runJobsRow : OpenClaim := { program := "ytnhijofnhflklaagreat", sum := "7ae57234d239b36f42e7393058f067951d7c7417a084de8bc15be1a1ce356aec", func := "cohort/cohortlaw09.RunJobs", spec := "runJobs", inPlace := ["slices.overlaps[cohort/api.Vertex]", "slices.overlaps[cohort/api.Edge]"], unfollowed := true, recurses := true, named := ["math/bits.divideError", "math/bits.overflowError"], apart := false }
def RunJobsSaid : Prop := runJobsRow.holds Tryz.pinned (OpenSpec.ofChange runJobsSpec)

/-- ITS FALSE NEIGHBOUR: 'it returns false'. Refute it at one input. -/
def runJobsWrong : ChangeSpec := { name := "runJobs", fn := fun _ => fun
  | [d1, d2] => { results := [.lit (.bool false)], args := [d1, d2] }
  | _ => none }
def RunJobsWrongFalsely : Prop := runJobsRow.holds Tryz.pinned (OpenSpec.ofChange runJobsWrong)

/-- 'cohortlaw09.RunBytes': WHATEVER THE INPUT: true; the input reads as it did. -/
def runBytesSpec : ChangeSpec := { name := "runBytes", fn := fun _ => fun
  | [d1, d2] => { results := [.lit (.bool true)], args := [d1, d2] }
  | _ => none }
def runBytesRow : OpenClaim := { program := "ytnhijofnhflklaagreat", sum := "7ae57234d239b36f42e7393058f067951d7c7417a084de8bc15be1a1ce356aec", func := "cohort/cohortlaw09.RunBytes", spec := "runBytes", inPlace := ["slices.overlaps[cohort/api.Vertex]", "slices.overlaps[cohort/api.Edge]"], unfollowed := true, recurses := true, named := ["math/bits.divideError", "math/bits.overflowError"], apart := false }
def RunBytesSaid : Prop := runBytesRow.holds Tryz.pinned (OpenSpec.ofChange runBytesSpec)

/-- ITS FALSE NEIGHBOUR: 'it returns false'. Refute it at one input. -/
def runBytesWrong : ChangeSpec := { name := "runBytes", fn := fun _ => fun
  | [d1, d2] => { results := [.lit (.bool false)], args := [d1, d2] }
  | _ => none }
def RunBytesWrongFalsely : Prop := runBytesRow.holds Tryz.pinned (OpenSpec.ofChange runBytesWrong)

/-- 'cohortlaw09.RunParts': WHATEVER THE INPUT: true; the input reads as it did. -/
def runPartsSpec : ChangeSpec := { name := "runParts", fn := fun _ => fun
  | [d] => { results := [.lit (.bool true)], args := [d] }
  | _ => none }
def runPartsRow : OpenClaim := { program := "ytnhijofnhflklaagreat", sum := "7ae57234d239b36f42e7393058f067951d7c7417a084de8bc15be1a1ce356aec", func := "cohort/cohortlaw09.RunParts", spec := "runParts", inPlace := ["slices.overlaps[cohort/api.Vertex]", "slices.overlaps[cohort/api.Edge]"], unfollowed := true, recurses := true, named := ["math/bits.divideError", "math/bits.overflowError"], apart := false }
def RunPartsSaid : Prop := runPartsRow.holds Tryz.pinned (OpenSpec.ofChange runPartsSpec)

/-- ITS FALSE NEIGHBOUR: 'it returns false'. Refute it at one input. -/
def runPartsWrong : ChangeSpec := { name := "runParts", fn := fun _ => fun
  | [d] => { results := [.lit (.bool false)], args := [d] }
  | _ => none }
def RunPartsWrongFalsely : Prop := runPartsRow.holds Tryz.pinned (OpenSpec.ofChange runPartsWrong)

/-- 'cohortlaw09.RunLimits': WHATEVER THE INPUT: true; the input reads as it did. -/
def runLimitsSpec : ChangeSpec := { name := "runLimits", fn := fun _ => fun
  | [d] => { results := [.lit (.bool true)], args := [d] }
  | _ => none }
def runLimitsRow : OpenClaim := { program := "ytnhijofnhflklaagreat", sum := "7ae57234d239b36f42e7393058f067951d7c7417a084de8bc15be1a1ce356aec", func := "cohort/cohortlaw09.RunLimits", spec := "runLimits", inPlace := ["slices.overlaps[cohort/api.Vertex]", "slices.overlaps[cohort/api.Edge]"], unfollowed := true, recurses := true, named := ["math/bits.divideError", "math/bits.overflowError"], apart := false }
def RunLimitsSaid : Prop := runLimitsRow.holds Tryz.pinned (OpenSpec.ofChange runLimitsSpec)

/-- ITS FALSE NEIGHBOUR: 'it returns false'. Refute it at one input. -/
def runLimitsWrong : ChangeSpec := { name := "runLimits", fn := fun _ => fun
  | [d] => { results := [.lit (.bool false)], args := [d] }
  | _ => none }
def RunLimitsWrongFalsely : Prop := runLimitsRow.holds Tryz.pinned (OpenSpec.ofChange runLimitsWrong)

/-- 'cohortlaw09.RunShifts': WHATEVER THE INPUT: true; the input reads as it did. -/
def runShiftsSpec : ChangeSpec := { name := "runShifts", fn := fun _ => fun
  | [d1, d2] => { results := [.lit (.bool true)], args := [d1, d2] }
  | _ => none }
def runShiftsRow : OpenClaim := { program := "ytnhijofnhflklaagreat", sum := "7ae57234d239b36f42e7393058f067951d7c7417a084de8bc15be1a1ce356aec", func := "cohort/cohortlaw09.RunShifts", spec := "runShifts", inPlace := ["slices.overlaps[cohort/api.Vertex]", "slices.overlaps[cohort/api.Edge]"], unfollowed := true, recurses := true, named := ["math/bits.divideError", "math/bits.overflowError"], apart := false }
def RunShiftsSaid : Prop := runShiftsRow.holds Tryz.pinned (OpenSpec.ofChange runShiftsSpec)

/-- ITS FALSE NEIGHBOUR: 'it returns false'. Refute it at one input. -/
def runShiftsWrong : ChangeSpec := { name := "runShifts", fn := fun _ => fun
  | [d1, d2] => { results := [.lit (.bool false)], args := [d1, d2] }
  | _ => none }
def RunShiftsWrongFalsely : Prop := runShiftsRow.holds Tryz.pinned (OpenSpec.ofChange runShiftsWrong)

/- THE SECOND FORM. 'bulk': how many values and letters a reading holds, each counted each time it is reached (what is shared counts as often as it is met; a slice's spare places count too). A statement '..UptoSaid' is the law's where the arguments, and the package variables that the reading takes, are together of bulk at most 1048576: NARROWER than '..Said'. Prove '..Said' where nothing that the law and all that it calls make is longer than what came in: it says more and counts as full. Else prove '..UptoSaid'. A law counts once. -/
mutual
def uptoBulk {H : Type} : DataW H → Nat
  | .lit (.string bytes) => bytes.length + 1
  | .lit _ => 1
  | .nil => 1
  | .ptr d => uptoBulk d + 1
  | .slice elems spare => uptoBulkAll elems + uptoBulkAll spare + 1
  | .agg parts => uptoBulkAll parts + 1
  | .iface _ d => uptoBulk d + 1
  | .map entries => uptoBulkEntries entries + 1
  | .held _ => 1
def uptoBulkAll {H : Type} : List (DataW H) → Nat
  | [] => 0
  | d :: r => uptoBulk d + uptoBulkAll r
def uptoBulkEntries {H : Type} : List (Lit × DataW H) → Nat
  | [] => 0
  | x :: r => uptoBulkEntry x + uptoBulkEntries r
def uptoBulkEntry {H : Type} : Lit × DataW H → Nat
  | (.string bytes, d) => bytes.length + uptoBulk d + 1
  | (_, d) => uptoBulk d + 1
 end
def uptoSmall : (H : Type) → List (DataW H) → Bool := fun _ ds => decide (uptoBulkAll ds ≤ 1048576)
def OpenSpec.upto (s : _root_.Go.ChangeSpec) : _root_.Go.OpenSpec := { _root_.Go.OpenSpec.ofChange s with cond := some uptoSmall }

/-- 'cohortlaw09.RunOutcomes', WHERE WHAT IT READS IS OF BULK AT MOST 1048576: true; the input reads as it did. -/
def runOutcomesUptoRow : OpenClaim := { program := "ytnhijofnhflklaagreat", sum := "7ae57234d239b36f42e7393058f067951d7c7417a084de8bc15be1a1ce356aec", func := "cohort/cohortlaw09.RunOutcomes", spec := "runOutcomes", inPlace := ["slices.overlaps[cohort/api.Vertex]", "slices.overlaps[cohort/api.Edge]"], unfollowed := true, recurses := true, named := ["math/bits.divideError", "math/bits.overflowError"], apart := false, narrowed := true }
def RunOutcomesUptoSaid : Prop := runOutcomesUptoRow.holds Tryz.pinned (OpenSpec.upto runOutcomesSpec)

/-- 'cohortlaw09.RunJobs', WHERE WHAT IT READS IS OF BULK AT MOST 1048576: true; the input reads as it did. -/
def runJobsUptoRow : OpenClaim := { program := "ytnhijofnhflklaagreat", sum := "7ae57234d239b36f42e7393058f067951d7c7417a084de8bc15be1a1ce356aec", func := "cohort/cohortlaw09.RunJobs", spec := "runJobs", inPlace := ["slices.overlaps[cohort/api.Vertex]", "slices.overlaps[cohort/api.Edge]"], unfollowed := true, recurses := true, named := ["math/bits.divideError", "math/bits.overflowError"], apart := false, narrowed := true }
def RunJobsUptoSaid : Prop := runJobsUptoRow.holds Tryz.pinned (OpenSpec.upto runJobsSpec)

/-- 'cohortlaw09.RunBytes', WHERE WHAT IT READS IS OF BULK AT MOST 1048576: true; the input reads as it did. -/
def runBytesUptoRow : OpenClaim := { program := "ytnhijofnhflklaagreat", sum := "7ae57234d239b36f42e7393058f067951d7c7417a084de8bc15be1a1ce356aec", func := "cohort/cohortlaw09.RunBytes", spec := "runBytes", inPlace := ["slices.overlaps[cohort/api.Vertex]", "slices.overlaps[cohort/api.Edge]"], unfollowed := true, recurses := true, named := ["math/bits.divideError", "math/bits.overflowError"], apart := false, narrowed := true }
def RunBytesUptoSaid : Prop := runBytesUptoRow.holds Tryz.pinned (OpenSpec.upto runBytesSpec)

/-- 'cohortlaw09.RunParts', WHERE WHAT IT READS IS OF BULK AT MOST 1048576: true; the input reads as it did. -/
def runPartsUptoRow : OpenClaim := { program := "ytnhijofnhflklaagreat", sum := "7ae57234d239b36f42e7393058f067951d7c7417a084de8bc15be1a1ce356aec", func := "cohort/cohortlaw09.RunParts", spec := "runParts", inPlace := ["slices.overlaps[cohort/api.Vertex]", "slices.overlaps[cohort/api.Edge]"], unfollowed := true, recurses := true, named := ["math/bits.divideError", "math/bits.overflowError"], apart := false, narrowed := true }
def RunPartsUptoSaid : Prop := runPartsUptoRow.holds Tryz.pinned (OpenSpec.upto runPartsSpec)

/-- 'cohortlaw09.RunLimits', WHERE WHAT IT READS IS OF BULK AT MOST 1048576: true; the input reads as it did. -/
def runLimitsUptoRow : OpenClaim := { program := "ytnhijofnhflklaagreat", sum := "7ae57234d239b36f42e7393058f067951d7c7417a084de8bc15be1a1ce356aec", func := "cohort/cohortlaw09.RunLimits", spec := "runLimits", inPlace := ["slices.overlaps[cohort/api.Vertex]", "slices.overlaps[cohort/api.Edge]"], unfollowed := true, recurses := true, named := ["math/bits.divideError", "math/bits.overflowError"], apart := false, narrowed := true }
def RunLimitsUptoSaid : Prop := runLimitsUptoRow.holds Tryz.pinned (OpenSpec.upto runLimitsSpec)

/-- 'cohortlaw09.RunShifts', WHERE WHAT IT READS IS OF BULK AT MOST 1048576: true; the input reads as it did. -/
def runShiftsUptoRow : OpenClaim := { program := "ytnhijofnhflklaagreat", sum := "7ae57234d239b36f42e7393058f067951d7c7417a084de8bc15be1a1ce356aec", func := "cohort/cohortlaw09.RunShifts", spec := "runShifts", inPlace := ["slices.overlaps[cohort/api.Vertex]", "slices.overlaps[cohort/api.Edge]"], unfollowed := true, recurses := true, named := ["math/bits.divideError", "math/bits.overflowError"], apart := false, narrowed := true }
def RunShiftsUptoSaid : Prop := runShiftsUptoRow.holds Tryz.pinned (OpenSpec.upto runShiftsSpec)

end Rows
end Go.Proofs.YtnhijofnhflklaaGreat
