/-
  No cell of these rows narrows 'for every input' (looked for: loops, veiled, ifaces, maps, wideKeys, modest, calm, conditions, laid).
  DERIVED. THE GIVEN ROWS OF THIS SEAT. 4 by the template 'for every input the law returns true; each argument reads behind the call as it read before'; 0 by the template 'total and deterministic' (their statements: YtnhjflebaeokeaaGreatTotals.lean).
  GIVEN WITH THE SEED: the statements are not yours to turn. If you find one false, say at which input.
  Laid BY PROGRAM, IN A SANDBOX (cutbox-rows.mjs): the forced cells as the released guide's own fill.sh prints them over the translation 59bf60bc1aa78f07… (all of the seat's roots in one cut). By AI agents, Wed Nov 11 2026. No macro, syntax, notation, axiom, sorry.
-/
import Derived.Test.YtnhjflebaeokeaaGreatChecked
import GoSem.Claim
import GoSem.ClaimJoined
import GoSem.ClaimMapViews
import Derived.JoinedTies
import Derived.KernelRfl
namespace Go.Proofs.YtnhjflebaeokeaaGreat
/- THE CELL 'sum', in the pinned program and in every row, IS THE sha256 OF THE DUMP (.gsa) THAT YtnhjflebaeokeaaGreatProg.lean LOADS. Nothing in Lean hashes anything: it is a label: what it is worth is what the hold of that sum in a sandbox is worth. -/
noncomputable def Tryz.pinned : Pinned := { name := "ytnhjflebaeokeaagreat", sum := "59bf60bc1aa78f0762a13f9d5a1f51dcd15349595f5887cde6216a549bf2f7a0", checked := Tryz.checked }
namespace Rows
def none {H : Type} : Left H := { results := [], args := [] }

/-- 'cohortlaw14.RnodeKeeps': WHATEVER THE INPUT: true; the input reads as it did. -/
def rnodeKeepsSpec : ChangeSpec := { name := "rnodeKeeps", fn := fun _ => fun
  | [d] => { results := [.lit (.bool true)], args := [d] }
  | _ => none }
def rnodeKeepsRow : OpenClaim := { program := "ytnhjflebaeokeaagreat", sum := "59bf60bc1aa78f0762a13f9d5a1f51dcd15349595f5887cde6216a549bf2f7a0", func := "cohort/cohortlaw14.RnodeKeeps", spec := "rnodeKeeps", inPlace := ["internal/abi.NoEscape", "maps.clone"], unfollowed := true, recurses := true, apart := false }
def RnodeKeepsSaid : Prop := rnodeKeepsRow.holds Tryz.pinned (OpenSpec.ofChange rnodeKeepsSpec)

/-- ITS FALSE NEIGHBOUR: 'it returns false'. Refute it at one input. -/
def rnodeKeepsWrong : ChangeSpec := { name := "rnodeKeeps", fn := fun _ => fun
  | [d] => { results := [.lit (.bool false)], args := [d] }
  | _ => none }
def RnodeKeepsWrongFalsely : Prop := rnodeKeepsRow.holds Tryz.pinned (OpenSpec.ofChange rnodeKeepsWrong)

/-- 'cohortlaw14.RnodeFalls': WHATEVER THE INPUT: true; the input reads as it did. -/
def rnodeFallsSpec : ChangeSpec := { name := "rnodeFalls", fn := fun _ => fun
  | [d1, d2] => { results := [.lit (.bool true)], args := [d1, d2] }
  | _ => none }
def rnodeFallsRow : OpenClaim := { program := "ytnhjflebaeokeaagreat", sum := "59bf60bc1aa78f0762a13f9d5a1f51dcd15349595f5887cde6216a549bf2f7a0", func := "cohort/cohortlaw14.RnodeFalls", spec := "rnodeFalls", inPlace := ["internal/abi.NoEscape", "maps.clone"], unfollowed := true, recurses := true, apart := false }
def RnodeFallsSaid : Prop := rnodeFallsRow.holds Tryz.pinned (OpenSpec.ofChange rnodeFallsSpec)

/-- ITS FALSE NEIGHBOUR: 'it returns false'. Refute it at one input. -/
def rnodeFallsWrong : ChangeSpec := { name := "rnodeFalls", fn := fun _ => fun
  | [d1, d2] => { results := [.lit (.bool false)], args := [d1, d2] }
  | _ => none }
def RnodeFallsWrongFalsely : Prop := rnodeFallsRow.holds Tryz.pinned (OpenSpec.ofChange rnodeFallsWrong)

/-- 'cohortlaw14.RnodePromises': WHATEVER THE INPUT: true; the input reads as it did. -/
def rnodePromisesSpec : ChangeSpec := { name := "rnodePromises", fn := fun _ => fun
  | [d1, d2] => { results := [.lit (.bool true)], args := [d1, d2] }
  | _ => none }
def rnodePromisesRow : OpenClaim := { program := "ytnhjflebaeokeaagreat", sum := "59bf60bc1aa78f0762a13f9d5a1f51dcd15349595f5887cde6216a549bf2f7a0", func := "cohort/cohortlaw14.RnodePromises", spec := "rnodePromises", inPlace := ["internal/abi.NoEscape", "maps.clone"], unfollowed := true, recurses := true, apart := false }
def RnodePromisesSaid : Prop := rnodePromisesRow.holds Tryz.pinned (OpenSpec.ofChange rnodePromisesSpec)

/-- ITS FALSE NEIGHBOUR: 'it returns false'. Refute it at one input. -/
def rnodePromisesWrong : ChangeSpec := { name := "rnodePromises", fn := fun _ => fun
  | [d1, d2] => { results := [.lit (.bool false)], args := [d1, d2] }
  | _ => none }
def RnodePromisesWrongFalsely : Prop := rnodePromisesRow.holds Tryz.pinned (OpenSpec.ofChange rnodePromisesWrong)

/-- 'cohortlaw14.RnodeReads': WHATEVER THE INPUT: true; the input reads as it did. -/
def rnodeReadsSpec : ChangeSpec := { name := "rnodeReads", fn := fun _ => fun
  | [d1, d2, d3] => { results := [.lit (.bool true)], args := [d1, d2, d3] }
  | _ => none }
def rnodeReadsRow : OpenClaim := { program := "ytnhjflebaeokeaagreat", sum := "59bf60bc1aa78f0762a13f9d5a1f51dcd15349595f5887cde6216a549bf2f7a0", func := "cohort/cohortlaw14.RnodeReads", spec := "rnodeReads", inPlace := ["internal/abi.NoEscape", "maps.clone"], unfollowed := true, recurses := true, apart := false }
def RnodeReadsSaid : Prop := rnodeReadsRow.holds Tryz.pinned (OpenSpec.ofChange rnodeReadsSpec)

/-- ITS FALSE NEIGHBOUR: 'it returns false'. Refute it at one input. -/
def rnodeReadsWrong : ChangeSpec := { name := "rnodeReads", fn := fun _ => fun
  | [d1, d2, d3] => { results := [.lit (.bool false)], args := [d1, d2, d3] }
  | _ => none }
def RnodeReadsWrongFalsely : Prop := rnodeReadsRow.holds Tryz.pinned (OpenSpec.ofChange rnodeReadsWrong)

/- THE SECOND FORM. 'bulk': how many values and letters a reading holds, each counted each time it is reached (what is shared counts as often as it is met; a slice's spare places count too). A statement '..UptoSaid' is the law's where the arguments, and the package variables that the reading takes, are together of bulk at most 1048576: NARROWER than '..Said'. Prove '..Said' where nothing that the law and all that it calls make is longer than what came in: it says more and counts as full. Else prove '..UptoSaid'. A law counts once. -/
mutual
def uptoBulk {H : Type} : DataW H → Nat
  | .lit (.string bytes) => bytes.length + 1
  | .lit _ => 1
  | .nil => 1
  | .ptr d => uptoBulk d + 1
  | .slice elems spare => uptoBulkAll elems + uptoBulkAll spare + 1
  | .agg parts => uptoBulkAll parts + 1
  | .iface _ d => uptoBulk d + 1
  | .map entries => uptoBulkEntries entries + 1
  | .held _ => 1
def uptoBulkAll {H : Type} : List (DataW H) → Nat
  | [] => 0
  | d :: r => uptoBulk d + uptoBulkAll r
def uptoBulkEntries {H : Type} : List (Lit × DataW H) → Nat
  | [] => 0
  | x :: r => uptoBulkEntry x + uptoBulkEntries r
def uptoBulkEntry {H : Type} : Lit × DataW H → Nat
  | (.string bytes, d) => bytes.length + uptoBulk d + 1
  | (_, d) => uptoBulk d + 1
 end
def uptoSmall : (H : Type) → List (DataW H) → Bool := fun _ ds => decide (uptoBulkAll ds ≤ 1048576)
def OpenSpec.upto (s : _root_.Go.ChangeSpec) : _root_.Go.OpenSpec := { _root_.Go.OpenSpec.ofChange s with cond := some uptoSmall }

/-- 'cohortlaw14.RnodeKeeps', WHERE WHAT IT READS IS OF BULK AT MOST 1048576: true; the input reads as it did. -/
def rnodeKeepsUptoRow : OpenClaim := { program := "ytnhjflebaeokeaagreat", sum := "59bf60bc1aa78f0762a13f9d5a1f51dcd15349595f5887cde6216a549bf2f7a0", func := "cohort/cohortlaw14.RnodeKeeps", spec := "rnodeKeeps", inPlace := ["internal/abi.NoEscape", "maps.clone"], unfollowed := true, recurses := true, apart := false, narrowed := true }
def RnodeKeepsUptoSaid : Prop := rnodeKeepsUptoRow.holds Tryz.pinned (OpenSpec.upto rnodeKeepsSpec)

/-- 'cohortlaw14.RnodeFalls', WHERE WHAT IT READS IS OF BULK AT MOST 1048576: true; the input reads as it did. -/
def rnodeFallsUptoRow : OpenClaim := { program := "ytnhjflebaeokeaagreat", sum := "59bf60bc1aa78f0762a13f9d5a1f51dcd15349595f5887cde6216a549bf2f7a0", func := "cohort/cohortlaw14.RnodeFalls", spec := "rnodeFalls", inPlace := ["internal/abi.NoEscape", "maps.clone"], unfollowed := true, recurses := true, apart := false, narrowed := true }
def RnodeFallsUptoSaid : Prop := rnodeFallsUptoRow.holds Tryz.pinned (OpenSpec.upto rnodeFallsSpec)

/-- 'cohortlaw14.RnodePromises', WHERE WHAT IT READS IS OF BULK AT MOST 1048576: true; the input reads as it did. -/
def rnodePromisesUptoRow : OpenClaim := { program := "ytnhjflebaeokeaagreat", sum := "59bf60bc1aa78f0762a13f9d5a1f51dcd15349595f5887cde6216a549bf2f7a0", func := "cohort/cohortlaw14.RnodePromises", spec := "rnodePromises", inPlace := ["internal/abi.NoEscape", "maps.clone"], unfollowed := true, recurses := true, apart := false, narrowed := true }
def RnodePromisesUptoSaid : Prop := rnodePromisesUptoRow.holds Tryz.pinned (OpenSpec.upto rnodePromisesSpec)

/-- 'cohortlaw14.RnodeReads', WHERE WHAT IT READS IS OF BULK AT MOST 1048576: true; the input reads as it did. -/
def rnodeReadsUptoRow : OpenClaim := { program := "ytnhjflebaeokeaagreat", sum := "59bf60bc1aa78f0762a13f9d5a1f51dcd15349595f5887cde6216a549bf2f7a0", func := "cohort/cohortlaw14.RnodeReads", spec := "rnodeReads", inPlace := ["internal/abi.NoEscape", "maps.clone"], unfollowed := true, recurses := true, apart := false, narrowed := true }
def RnodeReadsUptoSaid : Prop := rnodeReadsUptoRow.holds Tryz.pinned (OpenSpec.upto rnodeReadsSpec)

end Rows
end Go.Proofs.YtnhjflebaeokeaaGreat
