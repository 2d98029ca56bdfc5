/-
  No cell of these rows narrows 'for every input' (looked for: loops, veiled, ifaces, maps, wideKeys, modest, calm, conditions, laid).
  DERIVED. THE GIVEN ROWS OF THIS SEAT. 6 by the template 'for every input the law returns true; each argument reads behind the call as it read before'; 0 by the template 'total and deterministic' (their statements: YthnhmhjcpdomcaaTotals.lean).
  GIVEN WITH THE SEED: the statements are not yours to turn. If you find one false, say at which input.
  Laid BY PROGRAM, IN A SANDBOX (cutbox-rows.mjs): the forced cells as the released guide's own fill.sh prints them over the translation 5f295dd3954aea58… (all of the seat's roots in one cut). By AI agents, Wed Nov 11 2026. No macro, syntax, notation, axiom, sorry.
-/
import Derived.Test.YthnhmhjcpdomcaaChecked
import GoSem.Claim
import GoSem.ClaimJoined
import GoSem.ClaimMapViews
import Derived.JoinedTies
import Derived.KernelRfl
namespace Go.Proofs.Ythnhmhjcpdomcaa
/- THE CELL 'sum', in the pinned program and in every row, IS THE sha256 OF THE DUMP (.gsa) THAT YthnhmhjcpdomcaaProg.lean LOADS. Nothing in Lean hashes anything: it is a label: what it is worth is what the hold of that sum in a sandbox is worth. -/
noncomputable def Try.pinned : Pinned := { name := "ythnhmhjcpdomcaa", sum := "5f295dd3954aea5859ae11567c9595d8cbbc1cffbb4e9fcb9299231469362a55", checked := Try.checked }
namespace Rows
def none {H : Type} : Left H := { results := [], args := [] }

/-- 'cohortlaw03.GraphReads': WHATEVER THE INPUT: true; the input reads as it did. -/
def graphReadsSpec : ChangeSpec := { name := "graphReads", fn := fun _ => fun
  | [d] => { results := [.lit (.bool true)], args := [d] }
  | _ => none }
def graphReadsRow : OpenClaim := { program := "ythnhmhjcpdomcaa", sum := "5f295dd3954aea5859ae11567c9595d8cbbc1cffbb4e9fcb9299231469362a55", func := "cohort/cohortlaw03.GraphReads", spec := "graphReads", unfollowed := true, recurses := true, apart := false }
def GraphReadsSaid : Prop := graphReadsRow.holds Try.pinned (OpenSpec.ofChange graphReadsSpec)

/-- ITS FALSE NEIGHBOUR: 'it returns false'. Refute it at one input. -/
def graphReadsWrong : ChangeSpec := { name := "graphReads", fn := fun _ => fun
  | [d] => { results := [.lit (.bool false)], args := [d] }
  | _ => none }
def GraphReadsWrongFalsely : Prop := graphReadsRow.holds Try.pinned (OpenSpec.ofChange graphReadsWrong)

/-- 'cohortlaw06.MutApplies': WHATEVER THE INPUT: true; the input reads as it did. -/
def mutAppliesSpec : ChangeSpec := { name := "mutApplies", fn := fun _ => fun
  | [d1, d2] => { results := [.lit (.bool true)], args := [d1, d2] }
  | _ => none }
def mutAppliesRow : OpenClaim := { program := "ythnhmhjcpdomcaa", sum := "5f295dd3954aea5859ae11567c9595d8cbbc1cffbb4e9fcb9299231469362a55", func := "cohort/cohortlaw06.MutApplies", spec := "mutApplies", inPlace := ["slices.overlaps[cohort/api.Vertex]", "slices.overlaps[cohort/api.Edge]"], unfollowed := true, recurses := true, apart := false }
def MutAppliesSaid : Prop := mutAppliesRow.holds Try.pinned (OpenSpec.ofChange mutAppliesSpec)

/-- ITS FALSE NEIGHBOUR: 'it returns false'. Refute it at one input. -/
def mutAppliesWrong : ChangeSpec := { name := "mutApplies", fn := fun _ => fun
  | [d1, d2] => { results := [.lit (.bool false)], args := [d1, d2] }
  | _ => none }
def MutAppliesWrongFalsely : Prop := mutAppliesRow.holds Try.pinned (OpenSpec.ofChange mutAppliesWrong)

/-- 'cohortlaw06.MutOrders': WHATEVER THE INPUT: true; the input reads as it did. -/
def mutOrdersSpec : ChangeSpec := { name := "mutOrders", fn := fun _ => fun
  | [d1, d2, d3] => { results := [.lit (.bool true)], args := [d1, d2, d3] }
  | _ => none }
def mutOrdersRow : OpenClaim := { program := "ythnhmhjcpdomcaa", sum := "5f295dd3954aea5859ae11567c9595d8cbbc1cffbb4e9fcb9299231469362a55", func := "cohort/cohortlaw06.MutOrders", spec := "mutOrders", inPlace := ["slices.overlaps[cohort/api.Vertex]", "slices.overlaps[cohort/api.Edge]"], unfollowed := true, recurses := true, apart := false }
def MutOrdersSaid : Prop := mutOrdersRow.holds Try.pinned (OpenSpec.ofChange mutOrdersSpec)

/-- ITS FALSE NEIGHBOUR: 'it returns false'. Refute it at one input. -/
def mutOrdersWrong : ChangeSpec := { name := "mutOrders", fn := fun _ => fun
  | [d1, d2, d3] => { results := [.lit (.bool false)], args := [d1, d2, d3] }
  | _ => none }
def MutOrdersWrongFalsely : Prop := mutOrdersRow.holds Try.pinned (OpenSpec.ofChange mutOrdersWrong)

/-- 'cohortlaw06.MutParts': WHATEVER THE INPUT: true; the input reads as it did. -/
def mutPartsSpec : ChangeSpec := { name := "mutParts", fn := fun _ => fun
  | [d1, d2, d3] => { results := [.lit (.bool true)], args := [d1, d2, d3] }
  | _ => none }
def mutPartsRow : OpenClaim := { program := "ythnhmhjcpdomcaa", sum := "5f295dd3954aea5859ae11567c9595d8cbbc1cffbb4e9fcb9299231469362a55", func := "cohort/cohortlaw06.MutParts", spec := "mutParts", inPlace := ["slices.overlaps[cohort/api.Vertex]", "slices.overlaps[cohort/api.Edge]"], unfollowed := true, recurses := true, apart := false }
def MutPartsSaid : Prop := mutPartsRow.holds Try.pinned (OpenSpec.ofChange mutPartsSpec)

/-- ITS FALSE NEIGHBOUR: 'it returns false'. Refute it at one input. -/
def mutPartsWrong : ChangeSpec := { name := "mutParts", fn := fun _ => fun
  | [d1, d2, d3] => { results := [.lit (.bool false)], args := [d1, d2, d3] }
  | _ => none }
def MutPartsWrongFalsely : Prop := mutPartsRow.holds Try.pinned (OpenSpec.ofChange mutPartsWrong)

/-- 'cohortlaw06.MutBytes': WHATEVER THE INPUT: true; the input reads as it did. -/
def mutBytesSpec : ChangeSpec := { name := "mutBytes", fn := fun _ => fun
  | [d1, d2] => { results := [.lit (.bool true)], args := [d1, d2] }
  | _ => none }
def mutBytesRow : OpenClaim := { program := "ythnhmhjcpdomcaa", sum := "5f295dd3954aea5859ae11567c9595d8cbbc1cffbb4e9fcb9299231469362a55", func := "cohort/cohortlaw06.MutBytes", spec := "mutBytes", inPlace := ["slices.overlaps[cohort/api.Vertex]", "slices.overlaps[cohort/api.Edge]"], unfollowed := true, recurses := true, apart := false }
def MutBytesSaid : Prop := mutBytesRow.holds Try.pinned (OpenSpec.ofChange mutBytesSpec)

/-- ITS FALSE NEIGHBOUR: 'it returns false'. Refute it at one input. -/
def mutBytesWrong : ChangeSpec := { name := "mutBytes", fn := fun _ => fun
  | [d1, d2] => { results := [.lit (.bool false)], args := [d1, d2] }
  | _ => none }
def MutBytesWrongFalsely : Prop := mutBytesRow.holds Try.pinned (OpenSpec.ofChange mutBytesWrong)

/-- 'cohortlaw06.MutStands': WHATEVER THE INPUT: true; the input reads as it did. -/
def mutStandsSpec : ChangeSpec := { name := "mutStands", fn := fun _ => fun
  | [d1, d2] => { results := [.lit (.bool true)], args := [d1, d2] }
  | _ => none }
def mutStandsRow : OpenClaim := { program := "ythnhmhjcpdomcaa", sum := "5f295dd3954aea5859ae11567c9595d8cbbc1cffbb4e9fcb9299231469362a55", func := "cohort/cohortlaw06.MutStands", spec := "mutStands", inPlace := ["slices.overlaps[cohort/api.Vertex]", "slices.overlaps[cohort/api.Edge]"], unfollowed := true, recurses := true, apart := false }
def MutStandsSaid : Prop := mutStandsRow.holds Try.pinned (OpenSpec.ofChange mutStandsSpec)

/-- ITS FALSE NEIGHBOUR: 'it returns false'. Refute it at one input. -/
def mutStandsWrong : ChangeSpec := { name := "mutStands", fn := fun _ => fun
  | [d1, d2] => { results := [.lit (.bool false)], args := [d1, d2] }
  | _ => none }
def MutStandsWrongFalsely : Prop := mutStandsRow.holds Try.pinned (OpenSpec.ofChange mutStandsWrong)

/- THE SECOND FORM. 'bulk': how many values and letters a reading holds, each counted each time it is reached (what is shared counts as often as it is met; a slice's spare places count too). A statement '..UptoSaid' is the law's where the arguments, and the package variables that the reading takes, are together of bulk at most 1048576: NARROWER than '..Said'. Prove '..Said' where nothing that the law and all that it calls make is longer than what came in: it says more and counts as full. Else prove '..UptoSaid'. A law counts once. -/
mutual
def uptoBulk {H : Type} : DataW H → Nat
  | .lit (.string bytes) => bytes.length + 1
  | .lit _ => 1
  | .nil => 1
  | .ptr d => uptoBulk d + 1
  | .slice elems spare => uptoBulkAll elems + uptoBulkAll spare + 1
  | .agg parts => uptoBulkAll parts + 1
  | .iface _ d => uptoBulk d + 1
  | .map entries => uptoBulkEntries entries + 1
  | .held _ => 1
def uptoBulkAll {H : Type} : List (DataW H) → Nat
  | [] => 0
  | d :: r => uptoBulk d + uptoBulkAll r
def uptoBulkEntries {H : Type} : List (Lit × DataW H) → Nat
  | [] => 0
  | x :: r => uptoBulkEntry x + uptoBulkEntries r
def uptoBulkEntry {H : Type} : Lit × DataW H → Nat
  | (.string bytes, d) => bytes.length + uptoBulk d + 1
  | (_, d) => uptoBulk d + 1
 end
def uptoSmall : (H : Type) → List (DataW H) → Bool := fun _ ds => decide (uptoBulkAll ds ≤ 1048576)
def OpenSpec.upto (s : _root_.Go.ChangeSpec) : _root_.Go.OpenSpec := { _root_.Go.OpenSpec.ofChange s with cond := some uptoSmall }

/-- 'cohortlaw03.GraphReads', WHERE WHAT IT READS IS OF BULK AT MOST 1048576: true; the input reads as it did. -/
def graphReadsUptoRow : OpenClaim := { program := "ythnhmhjcpdomcaa", sum := "5f295dd3954aea5859ae11567c9595d8cbbc1cffbb4e9fcb9299231469362a55", func := "cohort/cohortlaw03.GraphReads", spec := "graphReads", unfollowed := true, recurses := true, apart := false, narrowed := true }
def GraphReadsUptoSaid : Prop := graphReadsUptoRow.holds Try.pinned (OpenSpec.upto graphReadsSpec)

/-- 'cohortlaw06.MutApplies', WHERE WHAT IT READS IS OF BULK AT MOST 1048576: true; the input reads as it did. -/
def mutAppliesUptoRow : OpenClaim := { program := "ythnhmhjcpdomcaa", sum := "5f295dd3954aea5859ae11567c9595d8cbbc1cffbb4e9fcb9299231469362a55", func := "cohort/cohortlaw06.MutApplies", spec := "mutApplies", inPlace := ["slices.overlaps[cohort/api.Vertex]", "slices.overlaps[cohort/api.Edge]"], unfollowed := true, recurses := true, apart := false, narrowed := true }
def MutAppliesUptoSaid : Prop := mutAppliesUptoRow.holds Try.pinned (OpenSpec.upto mutAppliesSpec)

/-- 'cohortlaw06.MutOrders', WHERE WHAT IT READS IS OF BULK AT MOST 1048576: true; the input reads as it did. -/
def mutOrdersUptoRow : OpenClaim := { program := "ythnhmhjcpdomcaa", sum := "5f295dd3954aea5859ae11567c9595d8cbbc1cffbb4e9fcb9299231469362a55", func := "cohort/cohortlaw06.MutOrders", spec := "mutOrders", inPlace := ["slices.overlaps[cohort/api.Vertex]", "slices.overlaps[cohort/api.Edge]"], unfollowed := true, recurses := true, apart := false, narrowed := true }
def MutOrdersUptoSaid : Prop := mutOrdersUptoRow.holds Try.pinned (OpenSpec.upto mutOrdersSpec)

/-- 'cohortlaw06.MutParts', WHERE WHAT IT READS IS OF BULK AT MOST 1048576: true; the input reads as it did. -/
def mutPartsUptoRow : OpenClaim := { program := "ythnhmhjcpdomcaa", sum := "5f295dd3954aea5859ae11567c9595d8cbbc1cffbb4e9fcb9299231469362a55", func := "cohort/cohortlaw06.MutParts", spec := "mutParts", inPlace := ["slices.overlaps[cohort/api.Vertex]", "slices.overlaps[cohort/api.Edge]"], unfollowed := true, recurses := true, apart := false, narrowed := true }
def MutPartsUptoSaid : Prop := mutPartsUptoRow.holds Try.pinned (OpenSpec.upto mutPartsSpec)

/-- 'cohortlaw06.MutBytes', WHERE WHAT IT READS IS OF BULK AT MOST 1048576: true; the input reads as it did. -/
def mutBytesUptoRow : OpenClaim := { program := "ythnhmhjcpdomcaa", sum := "5f295dd3954aea5859ae11567c9595d8cbbc1cffbb4e9fcb9299231469362a55", func := "cohort/cohortlaw06.MutBytes", spec := "mutBytes", inPlace := ["slices.overlaps[cohort/api.Vertex]", "slices.overlaps[cohort/api.Edge]"], unfollowed := true, recurses := true, apart := false, narrowed := true }
def MutBytesUptoSaid : Prop := mutBytesUptoRow.holds Try.pinned (OpenSpec.upto mutBytesSpec)

/-- 'cohortlaw06.MutStands', WHERE WHAT IT READS IS OF BULK AT MOST 1048576: true; the input reads as it did. -/
def mutStandsUptoRow : OpenClaim := { program := "ythnhmhjcpdomcaa", sum := "5f295dd3954aea5859ae11567c9595d8cbbc1cffbb4e9fcb9299231469362a55", func := "cohort/cohortlaw06.MutStands", spec := "mutStands", inPlace := ["slices.overlaps[cohort/api.Vertex]", "slices.overlaps[cohort/api.Edge]"], unfollowed := true, recurses := true, apart := false, narrowed := true }
def MutStandsUptoSaid : Prop := mutStandsUptoRow.holds Try.pinned (OpenSpec.upto mutStandsSpec)

end Rows
end Go.Proofs.Ythnhmhjcpdomcaa
