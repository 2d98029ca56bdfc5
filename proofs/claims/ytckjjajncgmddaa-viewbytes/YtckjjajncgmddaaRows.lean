/-
  No cell of these rows narrows 'for every input' (looked for: loops, veiled, ifaces, maps, wideKeys, modest, calm, conditions, laid).
  DERIVED. THE GIVEN ROWS OF THIS SEAT. 3 by the template 'for every input the law returns true; each argument reads behind the call as it read before'; 0 by the template 'total and deterministic' (their statements: YtckjjajncgmddaaTotals.lean).
  GIVEN WITH THE SEED: the statements are not yours to turn. If you find one false, say at which input.
  Laid BY PROGRAM, IN A SANDBOX (cutbox-rows.mjs): the forced cells as the released guide's own fill.sh prints them over the translation 94e7d24c57e35cd4… (all of the seat's roots in one cut). By AI agents, Wed Nov 11 2026. No macro, syntax, notation, axiom, sorry.
-/
import Derived.Test.YtckjjajncgmddaaChecked
import GoSem.Claim
import GoSem.ClaimJoined
import GoSem.ClaimMapViews
import Derived.JoinedTies
import Derived.KernelRfl
namespace Go.Proofs.Ytckjjajncgmddaa
/- THE CELL 'sum', in the pinned program and in every row, IS THE sha256 OF THE DUMP (.gsa) THAT YtckjjajncgmddaaProg.lean LOADS. Nothing in Lean hashes anything: it is a label: what it is worth is what the hold of that sum in a sandbox is worth. -/
noncomputable def Try.pinned : Pinned := { name := "ytckjjajncgmddaa", sum := "94e7d24c57e35cd45fbeb1ffbdd165078ec1ca701529056e6288abf77f953588", checked := Try.checked }
namespace Rows
def none {H : Type} : Left H := { results := [], args := [] }

/-- 'cohortlaw13.ViewBytes': WHATEVER THE INPUT: true; the input reads as it did. -/
def viewBytesSpec : ChangeSpec := { name := "viewBytes", fn := fun _ => fun
  | [d1, d2, d3] => { results := [.lit (.bool true)], args := [d1, d2, d3] }
  | _ => none }
def viewBytesRow : OpenClaim := { program := "ytckjjajncgmddaa", sum := "94e7d24c57e35cd45fbeb1ffbdd165078ec1ca701529056e6288abf77f953588", func := "cohort/cohortlaw13.ViewBytes", spec := "viewBytes", unfollowed := true, recurses := true, apart := false }
def ViewBytesSaid : Prop := viewBytesRow.holds Try.pinned (OpenSpec.ofChange viewBytesSpec)

/-- ITS FALSE NEIGHBOUR: 'it returns false'. Refute it at one input. -/
def viewBytesWrong : ChangeSpec := { name := "viewBytes", fn := fun _ => fun
  | [d1, d2, d3] => { results := [.lit (.bool false)], args := [d1, d2, d3] }
  | _ => none }
def ViewBytesWrongFalsely : Prop := viewBytesRow.holds Try.pinned (OpenSpec.ofChange viewBytesWrong)

/-- 'cohortlaw13.ViewWild': WHATEVER THE INPUT: true; the input reads as it did. -/
def viewWildSpec : ChangeSpec := { name := "viewWild", fn := fun _ => fun
  | [d1, d2] => { results := [.lit (.bool true)], args := [d1, d2] }
  | _ => none }
def viewWildRow : OpenClaim := { program := "ytckjjajncgmddaa", sum := "94e7d24c57e35cd45fbeb1ffbdd165078ec1ca701529056e6288abf77f953588", func := "cohort/cohortlaw13.ViewWild", spec := "viewWild", unfollowed := true, recurses := true, apart := false }
def ViewWildSaid : Prop := viewWildRow.holds Try.pinned (OpenSpec.ofChange viewWildSpec)

/-- ITS FALSE NEIGHBOUR: 'it returns false'. Refute it at one input. -/
def viewWildWrong : ChangeSpec := { name := "viewWild", fn := fun _ => fun
  | [d1, d2] => { results := [.lit (.bool false)], args := [d1, d2] }
  | _ => none }
def ViewWildWrongFalsely : Prop := viewWildRow.holds Try.pinned (OpenSpec.ofChange viewWildWrong)

/-- 'cohortlaw13.ViewSnapshots': WHATEVER THE INPUT: true; the input reads as it did. -/
def viewSnapshotsSpec : ChangeSpec := { name := "viewSnapshots", fn := fun _ => fun
  | [d1, d2] => { results := [.lit (.bool true)], args := [d1, d2] }
  | _ => none }
def viewSnapshotsRow : OpenClaim := { program := "ytckjjajncgmddaa", sum := "94e7d24c57e35cd45fbeb1ffbdd165078ec1ca701529056e6288abf77f953588", func := "cohort/cohortlaw13.ViewSnapshots", spec := "viewSnapshots", unfollowed := true, recurses := true, apart := false }
def ViewSnapshotsSaid : Prop := viewSnapshotsRow.holds Try.pinned (OpenSpec.ofChange viewSnapshotsSpec)

/-- ITS FALSE NEIGHBOUR: 'it returns false'. Refute it at one input. -/
def viewSnapshotsWrong : ChangeSpec := { name := "viewSnapshots", fn := fun _ => fun
  | [d1, d2] => { results := [.lit (.bool false)], args := [d1, d2] }
  | _ => none }
def ViewSnapshotsWrongFalsely : Prop := viewSnapshotsRow.holds Try.pinned (OpenSpec.ofChange viewSnapshotsWrong)

/- THE SECOND FORM. 'bulk': how many values and letters a reading holds, each counted each time it is reached (what is shared counts as often as it is met; a slice's spare places count too). A statement '..UptoSaid' is the law's where the arguments, and the package variables that the reading takes, are together of bulk at most 1048576: NARROWER than '..Said'. Prove '..Said' where nothing that the law and all that it calls make is longer than what came in: it says more and counts as full. Else prove '..UptoSaid'. A law counts once. -/
mutual
def uptoBulk {H : Type} : DataW H → Nat
  | .lit (.string bytes) => bytes.length + 1
  | .lit _ => 1
  | .nil => 1
  | .ptr d => uptoBulk d + 1
  | .slice elems spare => uptoBulkAll elems + uptoBulkAll spare + 1
  | .agg parts => uptoBulkAll parts + 1
  | .iface _ d => uptoBulk d + 1
  | .map entries => uptoBulkEntries entries + 1
  | .held _ => 1
def uptoBulkAll {H : Type} : List (DataW H) → Nat
  | [] => 0
  | d :: r => uptoBulk d + uptoBulkAll r
def uptoBulkEntries {H : Type} : List (Lit × DataW H) → Nat
  | [] => 0
  | x :: r => uptoBulkEntry x + uptoBulkEntries r
def uptoBulkEntry {H : Type} : Lit × DataW H → Nat
  | (.string bytes, d) => bytes.length + uptoBulk d + 1
  | (_, d) => uptoBulk d + 1
 end
def uptoSmall : (H : Type) → List (DataW H) → Bool := fun _ ds => decide (uptoBulkAll ds ≤ 1048576)
def OpenSpec.upto (s : _root_.Go.ChangeSpec) : _root_.Go.OpenSpec := { _root_.Go.OpenSpec.ofChange s with cond := some uptoSmall }

/-- 'cohortlaw13.ViewBytes', WHERE WHAT IT READS IS OF BULK AT MOST 1048576: true; the input reads as it did. -/
def viewBytesUptoRow : OpenClaim := { program := "ytckjjajncgmddaa", sum := "94e7d24c57e35cd45fbeb1ffbdd165078ec1ca701529056e6288abf77f953588", func := "cohort/cohortlaw13.ViewBytes", spec := "viewBytes", unfollowed := true, recurses := true, apart := false, narrowed := true }
def ViewBytesUptoSaid : Prop := viewBytesUptoRow.holds Try.pinned (OpenSpec.upto viewBytesSpec)

/-- 'cohortlaw13.ViewWild', WHERE WHAT IT READS IS OF BULK AT MOST 1048576: true; the input reads as it did. -/
def viewWildUptoRow : OpenClaim := { program := "ytckjjajncgmddaa", sum := "94e7d24c57e35cd45fbeb1ffbdd165078ec1ca701529056e6288abf77f953588", func := "cohort/cohortlaw13.ViewWild", spec := "viewWild", unfollowed := true, recurses := true, apart := false, narrowed := true }
def ViewWildUptoSaid : Prop := viewWildUptoRow.holds Try.pinned (OpenSpec.upto viewWildSpec)

/-- 'cohortlaw13.ViewSnapshots', WHERE WHAT IT READS IS OF BULK AT MOST 1048576: true; the input reads as it did. -/
def viewSnapshotsUptoRow : OpenClaim := { program := "ytckjjajncgmddaa", sum := "94e7d24c57e35cd45fbeb1ffbdd165078ec1ca701529056e6288abf77f953588", func := "cohort/cohortlaw13.ViewSnapshots", spec := "viewSnapshots", unfollowed := true, recurses := true, apart := false, narrowed := true }
def ViewSnapshotsUptoSaid : Prop := viewSnapshotsUptoRow.holds Try.pinned (OpenSpec.upto viewSnapshotsSpec)

end Rows
end Go.Proofs.Ytckjjajncgmddaa
