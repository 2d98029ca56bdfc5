import Derived.Test.YtnhjflebaeokeaaGreatGrDataM
import Derived.Test.YtnhjflebaeokeaaGreatProg
import Derived.Laws.BitsAllLaws
import Derived.WalkKit
import Derived.WalkSpells
import Derived.WalkLawsBesides
/- A graph's bytes, as plain lists. -/
namespace Go.Proofs.YtnhjflebaeokeaaGreat
open Go.RowKit
/-- How many bytes at most. -/
def room (G : List Vx) : Nat := (G.map fun v => 30 + 20 * v.es.length).sum
end Go.Proofs.YtnhjflebaeokeaaGreat
