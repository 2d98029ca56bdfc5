import Derived.Test.YtnhijofnhflklaaGreatAgGetM
import Derived.Test.YtnhijofnhflklaaGreatKnDataM
import Derived.Laws.Tables
import Derived.Laws.OwnMore
/- An aggregate to which one number was given. -/
namespace Go.Proofs.YtnhijofnhflklaaGreat
open Go.RowKit
theorem size_agm : (Tryz.prog.info? 89).map (·.size) = some 10 := by kernel_rfl
theorem ag_setRow {w0 w : World} {g : Nat} (hb : Below w0.heap.size w0 w) (hg : w0.heap.size ≤ g) (cs : Array Value) : Below w0.heap.size w0 (w.setRow g cs) := hb.trans ((fr_setRow w g cs).below hb.size (fun k hk => by omega))
end Go.Proofs.YtnhijofnhflklaaGreat
