/-
  No cell of these rows narrows 'for every input' (looked for: loops, veiled, ifaces, maps, wideKeys, modest, calm, conditions, laid).
  DERIVED. THE GIVEN ROWS OF THIS SEAT. 6 by the template 'for every input the law returns true; each argument reads behind the call as it read before'; 0 by the template 'total and deterministic' (their statements: YtfajkfngjfhkoaaTotals.lean).
  GIVEN WITH THE SEED: the statements are not yours to turn. If you find one false, say at which input.
  Laid BY PROGRAM, IN A SANDBOX (cutbox-rows.mjs): the forced cells as the released guide's own fill.sh prints them over the translation 0b5b9c4bd6839861… (all of the seat's roots in one cut). By AI agents, Wed Nov 11 2026. No macro, syntax, notation, axiom, sorry.
-/
import Derived.Test.YtfajkfngjfhkoaaChecked
import GoSem.Claim
import GoSem.ClaimJoined
import GoSem.ClaimMapViews
import Derived.JoinedTies
import Derived.KernelRfl
namespace Go.Proofs.Ytfajkfngjfhkoaa
/- THE CELL 'sum', in the pinned program and in every row, IS THE sha256 OF THE DUMP (.gsa) THAT YtfajkfngjfhkoaaProg.lean LOADS. Nothing in Lean hashes anything: it is a label: what it is worth is what the hold of that sum in a sandbox is worth. -/
noncomputable def Try.pinned : Pinned := { name := "ytfajkfngjfhkoaa", sum := "0b5b9c4bd68398611fc37cf3ddfc8cef9d3a563b5331de0dca9efc7666923d8a", checked := Try.checked }
namespace Rows
def none {H : Type} : Left H := { results := [], args := [] }

/-- 'cohortlaw03.GraphReads': WHATEVER THE INPUT: true; the input reads as it did. -/
def graphReadsSpec : ChangeSpec := { name := "graphReads", fn := fun _ => fun
  | [d] => { results := [.lit (.bool true)], args := [d] }
  | _ => none }
def graphReadsRow : OpenClaim := { program := "ytfajkfngjfhkoaa", sum := "0b5b9c4bd68398611fc37cf3ddfc8cef9d3a563b5331de0dca9efc7666923d8a", func := "cohort/cohortlaw03.GraphReads", spec := "graphReads", unfollowed := true, recurses := true, apart := false }
def GraphReadsSaid : Prop := graphReadsRow.holds Try.pinned (OpenSpec.ofChange graphReadsSpec)

/-- ITS FALSE NEIGHBOUR: 'it returns false'. Refute it at one input. -/
def graphReadsWrong : ChangeSpec := { name := "graphReads", fn := fun _ => fun
  | [d] => { results := [.lit (.bool false)], args := [d] }
  | _ => none }
def GraphReadsWrongFalsely : Prop := graphReadsRow.holds Try.pinned (OpenSpec.ofChange graphReadsWrong)

/-- 'cohortlaw03.GraphParts': WHATEVER THE INPUT: true; the input reads as it did. -/
def graphPartsSpec : ChangeSpec := { name := "graphParts", fn := fun _ => fun
  | [d1, d2, d3] => { results := [.lit (.bool true)], args := [d1, d2, d3] }
  | _ => none }
def graphPartsRow : OpenClaim := { program := "ytfajkfngjfhkoaa", sum := "0b5b9c4bd68398611fc37cf3ddfc8cef9d3a563b5331de0dca9efc7666923d8a", func := "cohort/cohortlaw03.GraphParts", spec := "graphParts", unfollowed := true, recurses := true, apart := false }
def GraphPartsSaid : Prop := graphPartsRow.holds Try.pinned (OpenSpec.ofChange graphPartsSpec)

/-- ITS FALSE NEIGHBOUR: 'it returns false'. Refute it at one input. -/
def graphPartsWrong : ChangeSpec := { name := "graphParts", fn := fun _ => fun
  | [d1, d2, d3] => { results := [.lit (.bool false)], args := [d1, d2, d3] }
  | _ => none }
def GraphPartsWrongFalsely : Prop := graphPartsRow.holds Try.pinned (OpenSpec.ofChange graphPartsWrong)

/-- 'cohortlaw03.GraphFinds': WHATEVER THE INPUT: true; the input reads as it did. -/
def graphFindsSpec : ChangeSpec := { name := "graphFinds", fn := fun _ => fun
  | [d1, d2, d3] => { results := [.lit (.bool true)], args := [d1, d2, d3] }
  | _ => none }
def graphFindsRow : OpenClaim := { program := "ytfajkfngjfhkoaa", sum := "0b5b9c4bd68398611fc37cf3ddfc8cef9d3a563b5331de0dca9efc7666923d8a", func := "cohort/cohortlaw03.GraphFinds", spec := "graphFinds", unfollowed := true, recurses := true, apart := false }
def GraphFindsSaid : Prop := graphFindsRow.holds Try.pinned (OpenSpec.ofChange graphFindsSpec)

/-- ITS FALSE NEIGHBOUR: 'it returns false'. Refute it at one input. -/
def graphFindsWrong : ChangeSpec := { name := "graphFinds", fn := fun _ => fun
  | [d1, d2, d3] => { results := [.lit (.bool false)], args := [d1, d2, d3] }
  | _ => none }
def GraphFindsWrongFalsely : Prop := graphFindsRow.holds Try.pinned (OpenSpec.ofChange graphFindsWrong)

/-- 'cohortlaw05.CombBoxes': WHATEVER THE INPUT: true; the input reads as it did. -/
def combBoxesSpec : ChangeSpec := { name := "combBoxes", fn := fun _ => fun
  | [d1, d2] => { results := [.lit (.bool true)], args := [d1, d2] }
  | _ => none }
def combBoxesRow : OpenClaim := { program := "ytfajkfngjfhkoaa", sum := "0b5b9c4bd68398611fc37cf3ddfc8cef9d3a563b5331de0dca9efc7666923d8a", func := "cohort/cohortlaw05.CombBoxes", spec := "combBoxes", inPlace := ["maps.clone"], unfollowed := true, recurses := true, apart := false }
def CombBoxesSaid : Prop := combBoxesRow.holds Try.pinned (OpenSpec.ofChange combBoxesSpec)

/-- ITS FALSE NEIGHBOUR: 'it returns false'. Refute it at one input. -/
def combBoxesWrong : ChangeSpec := { name := "combBoxes", fn := fun _ => fun
  | [d1, d2] => { results := [.lit (.bool false)], args := [d1, d2] }
  | _ => none }
def CombBoxesWrongFalsely : Prop := combBoxesRow.holds Try.pinned (OpenSpec.ofChange combBoxesWrong)

/-- 'cohortlaw05.CombOrders': WHATEVER THE INPUT: true; the input reads as it did. -/
def combOrdersSpec : ChangeSpec := { name := "combOrders", fn := fun _ => fun
  | [d1, d2] => { results := [.lit (.bool true)], args := [d1, d2] }
  | _ => none }
def combOrdersRow : OpenClaim := { program := "ytfajkfngjfhkoaa", sum := "0b5b9c4bd68398611fc37cf3ddfc8cef9d3a563b5331de0dca9efc7666923d8a", func := "cohort/cohortlaw05.CombOrders", spec := "combOrders", inPlace := ["maps.clone"], unfollowed := true, recurses := true, apart := false }
def CombOrdersSaid : Prop := combOrdersRow.holds Try.pinned (OpenSpec.ofChange combOrdersSpec)

/-- ITS FALSE NEIGHBOUR: 'it returns false'. Refute it at one input. -/
def combOrdersWrong : ChangeSpec := { name := "combOrders", fn := fun _ => fun
  | [d1, d2] => { results := [.lit (.bool false)], args := [d1, d2] }
  | _ => none }
def CombOrdersWrongFalsely : Prop := combOrdersRow.holds Try.pinned (OpenSpec.ofChange combOrdersWrong)

/-- 'cohortlaw05.CombCombines': WHATEVER THE INPUT: true; the input reads as it did. -/
def combCombinesSpec : ChangeSpec := { name := "combCombines", fn := fun _ => fun
  | [d1, d2] => { results := [.lit (.bool true)], args := [d1, d2] }
  | _ => none }
def combCombinesRow : OpenClaim := { program := "ytfajkfngjfhkoaa", sum := "0b5b9c4bd68398611fc37cf3ddfc8cef9d3a563b5331de0dca9efc7666923d8a", func := "cohort/cohortlaw05.CombCombines", spec := "combCombines", unfollowed := true, recurses := true, apart := false }
def CombCombinesSaid : Prop := combCombinesRow.holds Try.pinned (OpenSpec.ofChange combCombinesSpec)

/-- ITS FALSE NEIGHBOUR: 'it returns false'. Refute it at one input. -/
def combCombinesWrong : ChangeSpec := { name := "combCombines", fn := fun _ => fun
  | [d1, d2] => { results := [.lit (.bool false)], args := [d1, d2] }
  | _ => none }
def CombCombinesWrongFalsely : Prop := combCombinesRow.holds Try.pinned (OpenSpec.ofChange combCombinesWrong)

/- THE SECOND FORM. 'bulk': how many values and letters a reading holds, each counted each time it is reached (what is shared counts as often as it is met; a slice's spare places count too). A statement '..UptoSaid' is the law's where the arguments, and the package variables that the reading takes, are together of bulk at most 1048576: NARROWER than '..Said'. Prove '..Said' where nothing that the law and all that it calls make is longer than what came in: it says more and counts as full. Else prove '..UptoSaid'. A law counts once. -/
mutual
def uptoBulk {H : Type} : DataW H → Nat
  | .lit (.string bytes) => bytes.length + 1
  | .lit _ => 1
  | .nil => 1
  | .ptr d => uptoBulk d + 1
  | .slice elems spare => uptoBulkAll elems + uptoBulkAll spare + 1
  | .agg parts => uptoBulkAll parts + 1
  | .iface _ d => uptoBulk d + 1
  | .map entries => uptoBulkEntries entries + 1
  | .held _ => 1
def uptoBulkAll {H : Type} : List (DataW H) → Nat
  | [] => 0
  | d :: r => uptoBulk d + uptoBulkAll r
def uptoBulkEntries {H : Type} : List (Lit × DataW H) → Nat
  | [] => 0
  | x :: r => uptoBulkEntry x + uptoBulkEntries r
def uptoBulkEntry {H : Type} : Lit × DataW H → Nat
  | (.string bytes, d) => bytes.length + uptoBulk d + 1
  | (_, d) => uptoBulk d + 1
 end
def uptoSmall : (H : Type) → List (DataW H) → Bool := fun _ ds => decide (uptoBulkAll ds ≤ 1048576)
def OpenSpec.upto (s : _root_.Go.ChangeSpec) : _root_.Go.OpenSpec := { _root_.Go.OpenSpec.ofChange s with cond := some uptoSmall }

/-- 'cohortlaw03.GraphReads', WHERE WHAT IT READS IS OF BULK AT MOST 1048576: true; the input reads as it did. -/
def graphReadsUptoRow : OpenClaim := { program := "ytfajkfngjfhkoaa", sum := "0b5b9c4bd68398611fc37cf3ddfc8cef9d3a563b5331de0dca9efc7666923d8a", func := "cohort/cohortlaw03.GraphReads", spec := "graphReads", unfollowed := true, recurses := true, apart := false, narrowed := true }
def GraphReadsUptoSaid : Prop := graphReadsUptoRow.holds Try.pinned (OpenSpec.upto graphReadsSpec)

/-- 'cohortlaw03.GraphParts', WHERE WHAT IT READS IS OF BULK AT MOST 1048576: true; the input reads as it did. -/
def graphPartsUptoRow : OpenClaim := { program := "ytfajkfngjfhkoaa", sum := "0b5b9c4bd68398611fc37cf3ddfc8cef9d3a563b5331de0dca9efc7666923d8a", func := "cohort/cohortlaw03.GraphParts", spec := "graphParts", unfollowed := true, recurses := true, apart := false, narrowed := true }
def GraphPartsUptoSaid : Prop := graphPartsUptoRow.holds Try.pinned (OpenSpec.upto graphPartsSpec)

/-- 'cohortlaw03.GraphFinds', WHERE WHAT IT READS IS OF BULK AT MOST 1048576: true; the input reads as it did. -/
def graphFindsUptoRow : OpenClaim := { program := "ytfajkfngjfhkoaa", sum := "0b5b9c4bd68398611fc37cf3ddfc8cef9d3a563b5331de0dca9efc7666923d8a", func := "cohort/cohortlaw03.GraphFinds", spec := "graphFinds", unfollowed := true, recurses := true, apart := false, narrowed := true }
def GraphFindsUptoSaid : Prop := graphFindsUptoRow.holds Try.pinned (OpenSpec.upto graphFindsSpec)

/-- 'cohortlaw05.CombBoxes', WHERE WHAT IT READS IS OF BULK AT MOST 1048576: true; the input reads as it did. -/
def combBoxesUptoRow : OpenClaim := { program := "ytfajkfngjfhkoaa", sum := "0b5b9c4bd68398611fc37cf3ddfc8cef9d3a563b5331de0dca9efc7666923d8a", func := "cohort/cohortlaw05.CombBoxes", spec := "combBoxes", inPlace := ["maps.clone"], unfollowed := true, recurses := true, apart := false, narrowed := true }
def CombBoxesUptoSaid : Prop := combBoxesUptoRow.holds Try.pinned (OpenSpec.upto combBoxesSpec)

/-- 'cohortlaw05.CombOrders', WHERE WHAT IT READS IS OF BULK AT MOST 1048576: true; the input reads as it did. -/
def combOrdersUptoRow : OpenClaim := { program := "ytfajkfngjfhkoaa", sum := "0b5b9c4bd68398611fc37cf3ddfc8cef9d3a563b5331de0dca9efc7666923d8a", func := "cohort/cohortlaw05.CombOrders", spec := "combOrders", inPlace := ["maps.clone"], unfollowed := true, recurses := true, apart := false, narrowed := true }
def CombOrdersUptoSaid : Prop := combOrdersUptoRow.holds Try.pinned (OpenSpec.upto combOrdersSpec)

/-- 'cohortlaw05.CombCombines', WHERE WHAT IT READS IS OF BULK AT MOST 1048576: true; the input reads as it did. -/
def combCombinesUptoRow : OpenClaim := { program := "ytfajkfngjfhkoaa", sum := "0b5b9c4bd68398611fc37cf3ddfc8cef9d3a563b5331de0dca9efc7666923d8a", func := "cohort/cohortlaw05.CombCombines", spec := "combCombines", unfollowed := true, recurses := true, apart := false, narrowed := true }
def CombCombinesUptoSaid : Prop := combCombinesUptoRow.holds Try.pinned (OpenSpec.upto combCombinesSpec)

end Rows
end Go.Proofs.Ytfajkfngjfhkoaa
