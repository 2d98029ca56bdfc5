/-
  No cell of these rows narrows 'for every input' (looked for: loops, veiled, ifaces, maps, wideKeys, modest, calm, conditions, laid).
  DERIVED. THE GIVEN ROWS OF THIS SEAT. 6 by the template 'for every input the law returns true; each argument reads behind the call as it read before'; 0 by the template 'total and deterministic' (their statements: YtjbkbhilcmiamaaTotals.lean).
  GIVEN WITH THE SEED: the statements are not yours to turn. If you find one false, say at which input.
  Laid BY PROGRAM, IN A SANDBOX (cutbox-rows.mjs): the forced cells as the released guide's own fill.sh prints them over the translation 4b7cf281efcb2725… (all of the seat's roots in one cut). By AI agents, Wed Nov 11 2026. No macro, syntax, notation, axiom, sorry.
-/
import Derived.Test.YtjbkbhilcmiamaaChecked
import GoSem.Claim
import GoSem.ClaimJoined
import GoSem.ClaimMapViews
import Derived.JoinedTies
import Derived.KernelRfl
namespace Go.Proofs.Ytjbkbhilcmiamaa
/- THE CELL 'sum', in the pinned program and in every row, IS THE sha256 OF THE DUMP (.gsa) THAT YtjbkbhilcmiamaaProg.lean LOADS. Nothing in Lean hashes anything: it is a label: what it is worth is what the hold of that sum in a sandbox is worth. -/
noncomputable def Try.pinned : Pinned := { name := "ytjbkbhilcmiamaa", sum := "4b7cf281efcb272553ff080c6e5aa6b982624a8151645b728a71b1ce9768fd2e", checked := Try.checked }
namespace Rows
def none {H : Type} : Left H := { results := [], args := [] }

/-- 'cohortlaw04.AggAdds': WHATEVER THE INPUT: true; the input reads as it did. -/
def aggAddsSpec : ChangeSpec := { name := "aggAdds", fn := fun _ => fun
  | [d] => { results := [.lit (.bool true)], args := [d] }
  | _ => none }
def aggAddsRow : OpenClaim := { program := "ytjbkbhilcmiamaa", sum := "4b7cf281efcb272553ff080c6e5aa6b982624a8151645b728a71b1ce9768fd2e", func := "cohort/cohortlaw04.AggAdds", spec := "aggAdds", apart := false }
def AggAddsSaid : Prop := aggAddsRow.holds Try.pinned (OpenSpec.ofChange aggAddsSpec)

/-- ITS FALSE NEIGHBOUR: 'it returns false'. Refute it at one input. -/
def aggAddsWrong : ChangeSpec := { name := "aggAdds", fn := fun _ => fun
  | [d] => { results := [.lit (.bool false)], args := [d] }
  | _ => none }
def AggAddsWrongFalsely : Prop := aggAddsRow.holds Try.pinned (OpenSpec.ofChange aggAddsWrong)

/-- 'cohortlaw04.AggMerges': WHATEVER THE INPUT: true; the input reads as it did. -/
def aggMergesSpec : ChangeSpec := { name := "aggMerges", fn := fun _ => fun
  | [d1, d2] => { results := [.lit (.bool true)], args := [d1, d2] }
  | _ => none }
def aggMergesRow : OpenClaim := { program := "ytjbkbhilcmiamaa", sum := "4b7cf281efcb272553ff080c6e5aa6b982624a8151645b728a71b1ce9768fd2e", func := "cohort/cohortlaw04.AggMerges", spec := "aggMerges", apart := false }
def AggMergesSaid : Prop := aggMergesRow.holds Try.pinned (OpenSpec.ofChange aggMergesSpec)

/-- ITS FALSE NEIGHBOUR: 'it returns false'. Refute it at one input. -/
def aggMergesWrong : ChangeSpec := { name := "aggMerges", fn := fun _ => fun
  | [d1, d2] => { results := [.lit (.bool false)], args := [d1, d2] }
  | _ => none }
def AggMergesWrongFalsely : Prop := aggMergesRow.holds Try.pinned (OpenSpec.ofChange aggMergesWrong)

/-- 'cohortlaw04.AggOrders': WHATEVER THE INPUT: true; the input reads as it did. -/
def aggOrdersSpec : ChangeSpec := { name := "aggOrders", fn := fun _ => fun
  | [d1, d2] => { results := [.lit (.bool true)], args := [d1, d2] }
  | _ => none }
def aggOrdersRow : OpenClaim := { program := "ytjbkbhilcmiamaa", sum := "4b7cf281efcb272553ff080c6e5aa6b982624a8151645b728a71b1ce9768fd2e", func := "cohort/cohortlaw04.AggOrders", spec := "aggOrders", apart := false }
def AggOrdersSaid : Prop := aggOrdersRow.holds Try.pinned (OpenSpec.ofChange aggOrdersSpec)

/-- ITS FALSE NEIGHBOUR: 'it returns false'. Refute it at one input. -/
def aggOrdersWrong : ChangeSpec := { name := "aggOrders", fn := fun _ => fun
  | [d1, d2] => { results := [.lit (.bool false)], args := [d1, d2] }
  | _ => none }
def AggOrdersWrongFalsely : Prop := aggOrdersRow.holds Try.pinned (OpenSpec.ofChange aggOrdersWrong)

/-- 'cohortlaw04.AggBytes': WHATEVER THE INPUT: true; the input reads as it did. -/
def aggBytesSpec : ChangeSpec := { name := "aggBytes", fn := fun _ => fun
  | [d1, d2] => { results := [.lit (.bool true)], args := [d1, d2] }
  | _ => none }
def aggBytesRow : OpenClaim := { program := "ytjbkbhilcmiamaa", sum := "4b7cf281efcb272553ff080c6e5aa6b982624a8151645b728a71b1ce9768fd2e", func := "cohort/cohortlaw04.AggBytes", spec := "aggBytes", recurses := true, apart := false }
def AggBytesSaid : Prop := aggBytesRow.holds Try.pinned (OpenSpec.ofChange aggBytesSpec)

/-- ITS FALSE NEIGHBOUR: 'it returns false'. Refute it at one input. -/
def aggBytesWrong : ChangeSpec := { name := "aggBytes", fn := fun _ => fun
  | [d1, d2] => { results := [.lit (.bool false)], args := [d1, d2] }
  | _ => none }
def AggBytesWrongFalsely : Prop := aggBytesRow.holds Try.pinned (OpenSpec.ofChange aggBytesWrong)

/-- 'cohortlaw03.GraphReads': WHATEVER THE INPUT: true; the input reads as it did. -/
def graphReadsSpec : ChangeSpec := { name := "graphReads", fn := fun _ => fun
  | [d] => { results := [.lit (.bool true)], args := [d] }
  | _ => none }
def graphReadsRow : OpenClaim := { program := "ytjbkbhilcmiamaa", sum := "4b7cf281efcb272553ff080c6e5aa6b982624a8151645b728a71b1ce9768fd2e", func := "cohort/cohortlaw03.GraphReads", spec := "graphReads", unfollowed := true, recurses := true, apart := false }
def GraphReadsSaid : Prop := graphReadsRow.holds Try.pinned (OpenSpec.ofChange graphReadsSpec)

/-- ITS FALSE NEIGHBOUR: 'it returns false'. Refute it at one input. -/
def graphReadsWrong : ChangeSpec := { name := "graphReads", fn := fun _ => fun
  | [d] => { results := [.lit (.bool false)], args := [d] }
  | _ => none }
def GraphReadsWrongFalsely : Prop := graphReadsRow.holds Try.pinned (OpenSpec.ofChange graphReadsWrong)

/-- 'cohortlaw03.GraphParts': WHATEVER THE INPUT: true; the input reads as it did. -/
def graphPartsSpec : ChangeSpec := { name := "graphParts", fn := fun _ => fun
  | [d1, d2, d3] => { results := [.lit (.bool true)], args := [d1, d2, d3] }
  | _ => none }
def graphPartsRow : OpenClaim := { program := "ytjbkbhilcmiamaa", sum := "4b7cf281efcb272553ff080c6e5aa6b982624a8151645b728a71b1ce9768fd2e", func := "cohort/cohortlaw03.GraphParts", spec := "graphParts", unfollowed := true, recurses := true, apart := false }
def GraphPartsSaid : Prop := graphPartsRow.holds Try.pinned (OpenSpec.ofChange graphPartsSpec)

/-- ITS FALSE NEIGHBOUR: 'it returns false'. Refute it at one input. -/
def graphPartsWrong : ChangeSpec := { name := "graphParts", fn := fun _ => fun
  | [d1, d2, d3] => { results := [.lit (.bool false)], args := [d1, d2, d3] }
  | _ => none }
def GraphPartsWrongFalsely : Prop := graphPartsRow.holds Try.pinned (OpenSpec.ofChange graphPartsWrong)

/- THE SECOND FORM. 'bulk': how many values and letters a reading holds, each counted each time it is reached (what is shared counts as often as it is met; a slice's spare places count too). A statement '..UptoSaid' is the law's where the arguments, and the package variables that the reading takes, are together of bulk at most 1048576: NARROWER than '..Said'. Prove '..Said' where nothing that the law and all that it calls make is longer than what came in: it says more and counts as full. Else prove '..UptoSaid'. A law counts once. -/
mutual
def uptoBulk {H : Type} : DataW H → Nat
  | .lit (.string bytes) => bytes.length + 1
  | .lit _ => 1
  | .nil => 1
  | .ptr d => uptoBulk d + 1
  | .slice elems spare => uptoBulkAll elems + uptoBulkAll spare + 1
  | .agg parts => uptoBulkAll parts + 1
  | .iface _ d => uptoBulk d + 1
  | .map entries => uptoBulkEntries entries + 1
  | .held _ => 1
def uptoBulkAll {H : Type} : List (DataW H) → Nat
  | [] => 0
  | d :: r => uptoBulk d + uptoBulkAll r
def uptoBulkEntries {H : Type} : List (Lit × DataW H) → Nat
  | [] => 0
  | x :: r => uptoBulkEntry x + uptoBulkEntries r
def uptoBulkEntry {H : Type} : Lit × DataW H → Nat
  | (.string bytes, d) => bytes.length + uptoBulk d + 1
  | (_, d) => uptoBulk d + 1
 end
def uptoSmall : (H : Type) → List (DataW H) → Bool := fun _ ds => decide (uptoBulkAll ds ≤ 1048576)
def OpenSpec.upto (s : _root_.Go.ChangeSpec) : _root_.Go.OpenSpec := { _root_.Go.OpenSpec.ofChange s with cond := some uptoSmall }

/-- 'cohortlaw04.AggAdds', WHERE WHAT IT READS IS OF BULK AT MOST 1048576: true; the input reads as it did. -/
def aggAddsUptoRow : OpenClaim := { program := "ytjbkbhilcmiamaa", sum := "4b7cf281efcb272553ff080c6e5aa6b982624a8151645b728a71b1ce9768fd2e", func := "cohort/cohortlaw04.AggAdds", spec := "aggAdds", apart := false, narrowed := true }
def AggAddsUptoSaid : Prop := aggAddsUptoRow.holds Try.pinned (OpenSpec.upto aggAddsSpec)

/-- 'cohortlaw04.AggMerges', WHERE WHAT IT READS IS OF BULK AT MOST 1048576: true; the input reads as it did. -/
def aggMergesUptoRow : OpenClaim := { program := "ytjbkbhilcmiamaa", sum := "4b7cf281efcb272553ff080c6e5aa6b982624a8151645b728a71b1ce9768fd2e", func := "cohort/cohortlaw04.AggMerges", spec := "aggMerges", apart := false, narrowed := true }
def AggMergesUptoSaid : Prop := aggMergesUptoRow.holds Try.pinned (OpenSpec.upto aggMergesSpec)

/-- 'cohortlaw04.AggOrders', WHERE WHAT IT READS IS OF BULK AT MOST 1048576: true; the input reads as it did. -/
def aggOrdersUptoRow : OpenClaim := { program := "ytjbkbhilcmiamaa", sum := "4b7cf281efcb272553ff080c6e5aa6b982624a8151645b728a71b1ce9768fd2e", func := "cohort/cohortlaw04.AggOrders", spec := "aggOrders", apart := false, narrowed := true }
def AggOrdersUptoSaid : Prop := aggOrdersUptoRow.holds Try.pinned (OpenSpec.upto aggOrdersSpec)

/-- 'cohortlaw04.AggBytes', WHERE WHAT IT READS IS OF BULK AT MOST 1048576: true; the input reads as it did. -/
def aggBytesUptoRow : OpenClaim := { program := "ytjbkbhilcmiamaa", sum := "4b7cf281efcb272553ff080c6e5aa6b982624a8151645b728a71b1ce9768fd2e", func := "cohort/cohortlaw04.AggBytes", spec := "aggBytes", recurses := true, apart := false, narrowed := true }
def AggBytesUptoSaid : Prop := aggBytesUptoRow.holds Try.pinned (OpenSpec.upto aggBytesSpec)

/-- 'cohortlaw03.GraphReads', WHERE WHAT IT READS IS OF BULK AT MOST 1048576: true; the input reads as it did. -/
def graphReadsUptoRow : OpenClaim := { program := "ytjbkbhilcmiamaa", sum := "4b7cf281efcb272553ff080c6e5aa6b982624a8151645b728a71b1ce9768fd2e", func := "cohort/cohortlaw03.GraphReads", spec := "graphReads", unfollowed := true, recurses := true, apart := false, narrowed := true }
def GraphReadsUptoSaid : Prop := graphReadsUptoRow.holds Try.pinned (OpenSpec.upto graphReadsSpec)

/-- 'cohortlaw03.GraphParts', WHERE WHAT IT READS IS OF BULK AT MOST 1048576: true; the input reads as it did. -/
def graphPartsUptoRow : OpenClaim := { program := "ytjbkbhilcmiamaa", sum := "4b7cf281efcb272553ff080c6e5aa6b982624a8151645b728a71b1ce9768fd2e", func := "cohort/cohortlaw03.GraphParts", spec := "graphParts", unfollowed := true, recurses := true, apart := false, narrowed := true }
def GraphPartsUptoSaid : Prop := graphPartsUptoRow.holds Try.pinned (OpenSpec.upto graphPartsSpec)

end Rows
end Go.Proofs.Ytjbkbhilcmiamaa
