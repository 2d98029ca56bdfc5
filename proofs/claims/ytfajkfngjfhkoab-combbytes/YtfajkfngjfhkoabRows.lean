/-
  No cell of these rows narrows 'for every input' (looked for: loops, veiled, ifaces, maps, wideKeys, modest, calm, conditions, laid).
  DERIVED. THE GIVEN ROWS OF THIS SEAT. 3 by the template 'for every input the law returns true; each argument reads behind the call as it read before'; 0 by the template 'total and deterministic' (their statements: YtfajkfngjfhkoabTotals.lean).
  GIVEN WITH THE SEED: the statements are not yours to turn. If you find one false, say at which input.
  Laid BY PROGRAM, IN A SANDBOX (cutbox-rows.mjs): the forced cells as the released guide's own fill.sh prints them over the translation 7188c4446912067e… (all of the seat's roots in one cut). By AI agents, Wed Nov 11 2026. No macro, syntax, notation, axiom, sorry.
-/
import Derived.Test.YtfajkfngjfhkoabChecked
import GoSem.Claim
import GoSem.ClaimJoined
import GoSem.ClaimMapViews
import Derived.JoinedTies
import Derived.KernelRfl
namespace Go.Proofs.Ytfajkfngjfhkoab
/- THE CELL 'sum', in the pinned program and in every row, IS THE sha256 OF THE DUMP (.gsa) THAT YtfajkfngjfhkoabProg.lean LOADS. Nothing in Lean hashes anything: it is a label: what it is worth is what the hold of that sum in a sandbox is worth. -/
noncomputable def Try.pinned : Pinned := { name := "ytfajkfngjfhkoab", sum := "7188c4446912067ebfc8c0a493b7075dec1db58f203b1a74591e717ca483fbb9", checked := Try.checked }
namespace Rows
def none {H : Type} : Left H := { results := [], args := [] }

/-- 'cohortlaw05.CombBytes': WHATEVER THE INPUT: true; the input reads as it did. -/
def combBytesSpec : ChangeSpec := { name := "combBytes", fn := fun _ => fun
  | [d1, d2] => { results := [.lit (.bool true)], args := [d1, d2] }
  | _ => none }
def combBytesRow : OpenClaim := { program := "ytfajkfngjfhkoab", sum := "7188c4446912067ebfc8c0a493b7075dec1db58f203b1a74591e717ca483fbb9", func := "cohort/cohortlaw05.CombBytes", spec := "combBytes", unfollowed := true, recurses := true, apart := false }
def CombBytesSaid : Prop := combBytesRow.holds Try.pinned (OpenSpec.ofChange combBytesSpec)

/-- ITS FALSE NEIGHBOUR: 'it returns false'. Refute it at one input. -/
def combBytesWrong : ChangeSpec := { name := "combBytes", fn := fun _ => fun
  | [d1, d2] => { results := [.lit (.bool false)], args := [d1, d2] }
  | _ => none }
def CombBytesWrongFalsely : Prop := combBytesRow.holds Try.pinned (OpenSpec.ofChange combBytesWrong)

/-- 'cohortlaw05.CombNil': WHATEVER THE INPUT: true; the input reads as it did. -/
def combNilSpec : ChangeSpec := { name := "combNil", fn := fun _ => fun
  | [d1, d2] => { results := [.lit (.bool true)], args := [d1, d2] }
  | _ => none }
def combNilRow : OpenClaim := { program := "ytfajkfngjfhkoab", sum := "7188c4446912067ebfc8c0a493b7075dec1db58f203b1a74591e717ca483fbb9", func := "cohort/cohortlaw05.CombNil", spec := "combNil", inPlace := ["maps.clone"], unfollowed := true, recurses := true, apart := false }
def CombNilSaid : Prop := combNilRow.holds Try.pinned (OpenSpec.ofChange combNilSpec)

/-- ITS FALSE NEIGHBOUR: 'it returns false'. Refute it at one input. -/
def combNilWrong : ChangeSpec := { name := "combNil", fn := fun _ => fun
  | [d1, d2] => { results := [.lit (.bool false)], args := [d1, d2] }
  | _ => none }
def CombNilWrongFalsely : Prop := combNilRow.holds Try.pinned (OpenSpec.ofChange combNilWrong)

/-- 'cohortlaw05.CombSplits': WHATEVER THE INPUT: true; the input reads as it did. -/
def combSplitsSpec : ChangeSpec := { name := "combSplits", fn := fun _ => fun
  | [d1, d2, d3] => { results := [.lit (.bool true)], args := [d1, d2, d3] }
  | _ => none }
def combSplitsRow : OpenClaim := { program := "ytfajkfngjfhkoab", sum := "7188c4446912067ebfc8c0a493b7075dec1db58f203b1a74591e717ca483fbb9", func := "cohort/cohortlaw05.CombSplits", spec := "combSplits", unfollowed := true, recurses := true, apart := false }
def CombSplitsSaid : Prop := combSplitsRow.holds Try.pinned (OpenSpec.ofChange combSplitsSpec)

/-- ITS FALSE NEIGHBOUR: 'it returns false'. Refute it at one input. -/
def combSplitsWrong : ChangeSpec := { name := "combSplits", fn := fun _ => fun
  | [d1, d2, d3] => { results := [.lit (.bool false)], args := [d1, d2, d3] }
  | _ => none }
def CombSplitsWrongFalsely : Prop := combSplitsRow.holds Try.pinned (OpenSpec.ofChange combSplitsWrong)

/- THE SECOND FORM. 'bulk': how many values and letters a reading holds, each counted each time it is reached (what is shared counts as often as it is met; a slice's spare places count too). A statement '..UptoSaid' is the law's where the arguments, and the package variables that the reading takes, are together of bulk at most 1048576: NARROWER than '..Said'. Prove '..Said' where nothing that the law and all that it calls make is longer than what came in: it says more and counts as full. Else prove '..UptoSaid'. A law counts once. -/
mutual
def uptoBulk {H : Type} : DataW H → Nat
  | .lit (.string bytes) => bytes.length + 1
  | .lit _ => 1
  | .nil => 1
  | .ptr d => uptoBulk d + 1
  | .slice elems spare => uptoBulkAll elems + uptoBulkAll spare + 1
  | .agg parts => uptoBulkAll parts + 1
  | .iface _ d => uptoBulk d + 1
  | .map entries => uptoBulkEntries entries + 1
  | .held _ => 1
def uptoBulkAll {H : Type} : List (DataW H) → Nat
  | [] => 0
  | d :: r => uptoBulk d + uptoBulkAll r
def uptoBulkEntries {H : Type} : List (Lit × DataW H) → Nat
  | [] => 0
  | x :: r => uptoBulkEntry x + uptoBulkEntries r
def uptoBulkEntry {H : Type} : Lit × DataW H → Nat
  | (.string bytes, d) => bytes.length + uptoBulk d + 1
  | (_, d) => uptoBulk d + 1
 end
def uptoSmall : (H : Type) → List (DataW H) → Bool := fun _ ds => decide (uptoBulkAll ds ≤ 1048576)
def OpenSpec.upto (s : _root_.Go.ChangeSpec) : _root_.Go.OpenSpec := { _root_.Go.OpenSpec.ofChange s with cond := some uptoSmall }

/-- 'cohortlaw05.CombBytes', WHERE WHAT IT READS IS OF BULK AT MOST 1048576: true; the input reads as it did. -/
def combBytesUptoRow : OpenClaim := { program := "ytfajkfngjfhkoab", sum := "7188c4446912067ebfc8c0a493b7075dec1db58f203b1a74591e717ca483fbb9", func := "cohort/cohortlaw05.CombBytes", spec := "combBytes", unfollowed := true, recurses := true, apart := false, narrowed := true }
def CombBytesUptoSaid : Prop := combBytesUptoRow.holds Try.pinned (OpenSpec.upto combBytesSpec)

/-- 'cohortlaw05.CombNil', WHERE WHAT IT READS IS OF BULK AT MOST 1048576: true; the input reads as it did. -/
def combNilUptoRow : OpenClaim := { program := "ytfajkfngjfhkoab", sum := "7188c4446912067ebfc8c0a493b7075dec1db58f203b1a74591e717ca483fbb9", func := "cohort/cohortlaw05.CombNil", spec := "combNil", inPlace := ["maps.clone"], unfollowed := true, recurses := true, apart := false, narrowed := true }
def CombNilUptoSaid : Prop := combNilUptoRow.holds Try.pinned (OpenSpec.upto combNilSpec)

/-- 'cohortlaw05.CombSplits', WHERE WHAT IT READS IS OF BULK AT MOST 1048576: true; the input reads as it did. -/
def combSplitsUptoRow : OpenClaim := { program := "ytfajkfngjfhkoab", sum := "7188c4446912067ebfc8c0a493b7075dec1db58f203b1a74591e717ca483fbb9", func := "cohort/cohortlaw05.CombSplits", spec := "combSplits", unfollowed := true, recurses := true, apart := false, narrowed := true }
def CombSplitsUptoSaid : Prop := combSplitsUptoRow.holds Try.pinned (OpenSpec.upto combSplitsSpec)

end Rows
end Go.Proofs.Ytfajkfngjfhkoab
