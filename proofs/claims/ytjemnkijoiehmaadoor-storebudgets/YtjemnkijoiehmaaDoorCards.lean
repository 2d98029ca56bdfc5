/-
  DERIVED. GIVEN WITH THE SEED: THE CARDS: each row of YtjemnkijoiehmaaDoorRows.lean that lists a variable, with what it lists TIED to the program's text (the seventh form; the later family's looks); each row that meets fmt, with fmt's text TOLD by the authors' own Lean function (tested against real Go, not proved from fmt's source: count such statements apart). THE CARD IS WHAT COUNTS. Prove the row's statement (the work); the ties are given (YtjemnkijoiehmaaDoorTie.lean); close each card by the builder's one call (the guide's Derived/Test/ToyasCard.lean, 'card_holds'). Laid BY PROGRAM, IN A SANDBOX (cutbox-door.mjs). By AI agents, Wed Nov 11 2026. No macro, syntax, notation, axiom, sorry.
-/
import Derived.Test.YtjemnkijoiehmaaDoorRows
import GoSem.ClaimSeven
namespace Go.Proofs.YtjemnkijoiehmaaDoor
namespace Rows

/-- THE TIED CARD OF 'cohortlaw19.StoreBudgets'. -/
def storeBudgetsCard : Claim7 := { stood := { row := storeBudgetsRow, standIns := [], harness := (true, "a9e0a41068d1985f4fc0b50afa5e63b172fe50e0921f29072a39854308510759"), looks := true }, kinds := [], alts := [], laidByText := true, laidKinds := [.data, .data, .data], laidTests := true, laidLooks := .later }
def StoreBudgetsCardSaid : Prop := Claim7.holds Tryd.pinned (.plain (OpenSpec.ofChange storeBudgetsSpec)) storeBudgetsCard

/-- THE SECOND FORM's CARD OF 'cohortlaw19.StoreBudgets'. -/
def storeBudgetsUptoCard : Claim7 := { stood := { row := storeBudgetsUptoRow, standIns := [], harness := (true, "a9e0a41068d1985f4fc0b50afa5e63b172fe50e0921f29072a39854308510759"), looks := true }, kinds := [], alts := [], laidByText := true, laidKinds := [.data, .data, .data], laidTests := true, laidLooks := .later }
def StoreBudgetsUptoCardSaid : Prop := Claim7.holds Tryd.pinned (.plain (OpenSpec.upto storeBudgetsSpec)) storeBudgetsUptoCard
end Rows
end Go.Proofs.YtjemnkijoiehmaaDoor
