import Derived.Test.YtfidojdolbmjdaaProg
import Derived.Test.YtfidojdolbmjdaaGrDataM
import Derived.Test.YtfidojdolbmjdaaRefReaderM
import Derived.Test.YtfidojdolbmjdaaWriterWM
import Derived.WalkKit
import Derived.WalkSpells
import Derived.WalkLawsBesides
import Derived.Deep.QuietTactic
import Derived.BigQuiet
import Derived.Deep.RegionWith
/- What rising, Edges and endsRise return. -/
namespace Go.Proofs.Ytfidojdolbmjdaa
open Go.RowKit

theorem rise_false {l : List Int} {j : Nat} (h : j + 1 < l.length) (hn : ¬ l[j] < l[j + 1]) : riseB l = false := by
  rw [Bool.eq_false_iff]
  intro hr
  exact hn ((riseB_iff l).1 hr j h)
theorem rise_at {l : List Int} {k m : Nat} {x y : Int} (hk : k = m + 1) (h : k < l.length) (hm : l[m]'(by omega) = x) (hn : l[k] = y) (hr : y ≤ x) : riseB l = false := by
  subst hk
  exact rise_false h (by rw [hm, hn]; omega)
theorem rise_step {l : List Int} {k m : Nat} {x y : Int} (hk : k = m + 1) (h : k < l.length) (hm : l[m]'(by omega) = x) (hn : l[k] = y) (hr : x < y) (H : ∀ j (h : j + 1 < l.length), j + 1 < k → l[j] < l[j + 1]) : ∀ j (h : j + 1 < l.length), j + 1 < k + 1 → l[j] < l[j + 1] := by
  subst hk
  intro j hj hjk
  by_cases e : j = m
  · subst e; rw [hm, hn]; exact hr
  · exact H j hj (by omega)

end Go.Proofs.Ytfidojdolbmjdaa
