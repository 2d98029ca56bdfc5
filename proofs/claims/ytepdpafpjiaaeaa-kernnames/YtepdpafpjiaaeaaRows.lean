/-
  No cell of these rows narrows 'for every input' (looked for: loops, veiled, ifaces, maps, wideKeys, modest, calm, conditions, laid).
  DERIVED. THE GIVEN ROWS OF THIS SEAT. 3 by the template 'for every input the law returns true; each argument reads behind the call as it read before'; 0 by the template 'total and deterministic' (their statements: YtepdpafpjiaaeaaTotals.lean).
  GIVEN WITH THE SEED: the statements are not yours to turn. If you find one false, say at which input.
  Laid BY PROGRAM, IN A SANDBOX (cutbox-rows.mjs): the forced cells as the released guide's own fill.sh prints them over the translation 23ffb0cc85094a4c… (all of the seat's roots in one cut). By AI agents, Wed Nov 11 2026. No macro, syntax, notation, axiom, sorry.
-/
import Derived.Test.YtepdpafpjiaaeaaChecked
import GoSem.Claim
import GoSem.ClaimJoined
import GoSem.ClaimMapViews
import Derived.JoinedTies
import Derived.KernelRfl
namespace Go.Proofs.Ytepdpafpjiaaeaa
/- THE CELL 'sum', in the pinned program and in every row, IS THE sha256 OF THE DUMP (.gsa) THAT YtepdpafpjiaaeaaProg.lean LOADS. Nothing in Lean hashes anything: it is a label: what it is worth is what the hold of that sum in a sandbox is worth. -/
noncomputable def Try.pinned : Pinned := { name := "ytepdpafpjiaaeaa", sum := "23ffb0cc85094a4c399962e442bdbe2ac74410e0500f9697b76a1d15e79e6284", checked := Try.checked }
namespace Rows
def none {H : Type} : Left H := { results := [], args := [] }

/-- 'cohortlaw07.KernChecks': WHATEVER THE INPUT: true; the input reads as it did. -/
def kernChecksSpec : ChangeSpec := { name := "kernChecks", fn := fun _ => fun
  | [d1, d2, d3] => { results := [.lit (.bool true)], args := [d1, d2, d3] }
  | _ => none }
def kernChecksRow : OpenClaim := { program := "ytepdpafpjiaaeaa", sum := "23ffb0cc85094a4c399962e442bdbe2ac74410e0500f9697b76a1d15e79e6284", func := "cohort/cohortlaw07.KernChecks", spec := "kernChecks", unfollowed := true, recurses := true, named := ["math/bits.divideError", "math/bits.overflowError"], apart := false }
def KernChecksSaid : Prop := kernChecksRow.holds Try.pinned (OpenSpec.ofChange kernChecksSpec)

/-- ITS FALSE NEIGHBOUR: 'it returns false'. Refute it at one input. -/
def kernChecksWrong : ChangeSpec := { name := "kernChecks", fn := fun _ => fun
  | [d1, d2, d3] => { results := [.lit (.bool false)], args := [d1, d2, d3] }
  | _ => none }
def KernChecksWrongFalsely : Prop := kernChecksRow.holds Try.pinned (OpenSpec.ofChange kernChecksWrong)

/-- 'cohortlaw07.KernNames': WHATEVER THE INPUT: true; the input reads as it did. -/
def kernNamesSpec : ChangeSpec := { name := "kernNames", fn := fun _ => fun
  | [d1, d2] => { results := [.lit (.bool true)], args := [d1, d2] }
  | _ => none }
def kernNamesRow : OpenClaim := { program := "ytepdpafpjiaaeaa", sum := "23ffb0cc85094a4c399962e442bdbe2ac74410e0500f9697b76a1d15e79e6284", func := "cohort/cohortlaw07.KernNames", spec := "kernNames", unfollowed := true, recurses := true, named := ["math/bits.divideError", "math/bits.overflowError"], apart := false }
def KernNamesSaid : Prop := kernNamesRow.holds Try.pinned (OpenSpec.ofChange kernNamesSpec)

/-- ITS FALSE NEIGHBOUR: 'it returns false'. Refute it at one input. -/
def kernNamesWrong : ChangeSpec := { name := "kernNames", fn := fun _ => fun
  | [d1, d2] => { results := [.lit (.bool false)], args := [d1, d2] }
  | _ => none }
def KernNamesWrongFalsely : Prop := kernNamesRow.holds Try.pinned (OpenSpec.ofChange kernNamesWrong)

/-- 'cohortlaw07.KernTells': WHATEVER THE INPUT: true; the input reads as it did. -/
def kernTellsSpec : ChangeSpec := { name := "kernTells", fn := fun _ => fun
  | [d1, d2] => { results := [.lit (.bool true)], args := [d1, d2] }
  | _ => none }
def kernTellsRow : OpenClaim := { program := "ytepdpafpjiaaeaa", sum := "23ffb0cc85094a4c399962e442bdbe2ac74410e0500f9697b76a1d15e79e6284", func := "cohort/cohortlaw07.KernTells", spec := "kernTells", unfollowed := true, recurses := true, named := ["math/bits.divideError", "math/bits.overflowError"], apart := false }
def KernTellsSaid : Prop := kernTellsRow.holds Try.pinned (OpenSpec.ofChange kernTellsSpec)

/-- ITS FALSE NEIGHBOUR: 'it returns false'. Refute it at one input. -/
def kernTellsWrong : ChangeSpec := { name := "kernTells", fn := fun _ => fun
  | [d1, d2] => { results := [.lit (.bool false)], args := [d1, d2] }
  | _ => none }
def KernTellsWrongFalsely : Prop := kernTellsRow.holds Try.pinned (OpenSpec.ofChange kernTellsWrong)

/- THE SECOND FORM. 'bulk': how many values and letters a reading holds, each counted each time it is reached (what is shared counts as often as it is met; a slice's spare places count too). A statement '..UptoSaid' is the law's where the arguments, and the package variables that the reading takes, are together of bulk at most 1048576: NARROWER than '..Said'. Prove '..Said' where nothing that the law and all that it calls make is longer than what came in: it says more and counts as full. Else prove '..UptoSaid'. A law counts once. -/
mutual
def uptoBulk {H : Type} : DataW H → Nat
  | .lit (.string bytes) => bytes.length + 1
  | .lit _ => 1
  | .nil => 1
  | .ptr d => uptoBulk d + 1
  | .slice elems spare => uptoBulkAll elems + uptoBulkAll spare + 1
  | .agg parts => uptoBulkAll parts + 1
  | .iface _ d => uptoBulk d + 1
  | .map entries => uptoBulkEntries entries + 1
  | .held _ => 1
def uptoBulkAll {H : Type} : List (DataW H) → Nat
  | [] => 0
  | d :: r => uptoBulk d + uptoBulkAll r
def uptoBulkEntries {H : Type} : List (Lit × DataW H) → Nat
  | [] => 0
  | x :: r => uptoBulkEntry x + uptoBulkEntries r
def uptoBulkEntry {H : Type} : Lit × DataW H → Nat
  | (.string bytes, d) => bytes.length + uptoBulk d + 1
  | (_, d) => uptoBulk d + 1
 end
def uptoSmall : (H : Type) → List (DataW H) → Bool := fun _ ds => decide (uptoBulkAll ds ≤ 1048576)
def OpenSpec.upto (s : _root_.Go.ChangeSpec) : _root_.Go.OpenSpec := { _root_.Go.OpenSpec.ofChange s with cond := some uptoSmall }

/-- 'cohortlaw07.KernChecks', WHERE WHAT IT READS IS OF BULK AT MOST 1048576: true; the input reads as it did. -/
def kernChecksUptoRow : OpenClaim := { program := "ytepdpafpjiaaeaa", sum := "23ffb0cc85094a4c399962e442bdbe2ac74410e0500f9697b76a1d15e79e6284", func := "cohort/cohortlaw07.KernChecks", spec := "kernChecks", unfollowed := true, recurses := true, named := ["math/bits.divideError", "math/bits.overflowError"], apart := false, narrowed := true }
def KernChecksUptoSaid : Prop := kernChecksUptoRow.holds Try.pinned (OpenSpec.upto kernChecksSpec)

/-- 'cohortlaw07.KernNames', WHERE WHAT IT READS IS OF BULK AT MOST 1048576: true; the input reads as it did. -/
def kernNamesUptoRow : OpenClaim := { program := "ytepdpafpjiaaeaa", sum := "23ffb0cc85094a4c399962e442bdbe2ac74410e0500f9697b76a1d15e79e6284", func := "cohort/cohortlaw07.KernNames", spec := "kernNames", unfollowed := true, recurses := true, named := ["math/bits.divideError", "math/bits.overflowError"], apart := false, narrowed := true }
def KernNamesUptoSaid : Prop := kernNamesUptoRow.holds Try.pinned (OpenSpec.upto kernNamesSpec)

/-- 'cohortlaw07.KernTells', WHERE WHAT IT READS IS OF BULK AT MOST 1048576: true; the input reads as it did. -/
def kernTellsUptoRow : OpenClaim := { program := "ytepdpafpjiaaeaa", sum := "23ffb0cc85094a4c399962e442bdbe2ac74410e0500f9697b76a1d15e79e6284", func := "cohort/cohortlaw07.KernTells", spec := "kernTells", unfollowed := true, recurses := true, named := ["math/bits.divideError", "math/bits.overflowError"], apart := false, narrowed := true }
def KernTellsUptoSaid : Prop := kernTellsUptoRow.holds Try.pinned (OpenSpec.upto kernTellsSpec)

end Rows
end Go.Proofs.Ytepdpafpjiaaeaa
