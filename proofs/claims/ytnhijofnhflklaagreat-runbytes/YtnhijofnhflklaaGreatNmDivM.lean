import Derived.Test.YtnhijofnhflklaaGreatProg
import Derived.Test.YtnhijofnhflklaaGreatNmAddM
import Derived.WalkKit
import Derived.WalkSpells
import Derived.WalkLawsBesides
import Derived.Laws.MathBits
import Derived.Test.YtnhijofnhflklaaGreatNmMathM
import Derived.Laws.Bits64b
import Derived.BigQuiet
import Derived.Deep.CutBlock
import Derived.Deep.DeepCutAuto
/- math/bits.Div64: a number of 128 bits over one of 64. -/
namespace Go.Proofs.YtnhijofnhflklaaGreat
open Go.RowKit

/-- The digits of a division by halves: what stands ahead of the loops. -/
structure Split (hi lo y : Int) (s : Nat) (V v1 v0 U u1 u0 : Int) : Prop where
  e1 : IntKind.u64.wrap (y * 2 ^ s) = V
  e2 : bits .and .u64 V 4294967295 = v0
  e3 : V / 4294967296 = v1
  e6 : bits .or .u64 (IntKind.u64.wrap (hi * 2 ^ s)) (lo / 2 ^ (64 - s)) = U
  e7 : IntKind.u64.wrap (lo * 2 ^ s) / 4294967296 = u1
  e8 : bits .and .u64 (IntKind.u64.wrap (lo * 2 ^ s)) 4294967295 = u0
  q : IntKind.u64.wrap (U.tdiv v1) = U / v1
  r : IntKind.u64.wrap (U - IntKind.u64.wrap ((U / v1) * v1)) = U % v1
  hV : v1 * 4294967296 + v0 = V
  v1b : 2147483648 ≤ v1 ∧ v1 < 4294967296
  v0b : 0 ≤ v0 ∧ v0 < 4294967296
  u1b : 0 ≤ u1 ∧ u1 < 4294967296
  u0b : 0 ≤ u0 ∧ u0 < 4294967296
  UV : 0 ≤ U ∧ U < V
theorem Split.first {hi lo y : Int} {s : Nat} {V v1 v0 U u1 u0 : Int} (S : Split hi lo y s V v1 v0 U u1 u0) : (U / v1) * v1 + U % v1 = U ∧ (U * 4294967296 + u1) / V ≤ U / v1 ∧ (0 ≤ U / v1 ∧ U / v1 ≤ 4294967297) ∧ 0 ≤ U % v1 ∧ U % v1 < 4294967296 := by
  obtain ⟨h1, h2⟩ := S.v1b
  obtain ⟨h3, h4⟩ := S.v0b
  obtain ⟨h5, h6⟩ := S.u1b
  obtain ⟨h7, h8⟩ := S.UV
  have h := digit_first (u0 := u1) h1 h3 h4 h7 (by rw [S.hV]; exact h8) h5 h6
  rw [S.hV] at h
  have h9 := Int.emod_lt_of_pos U (show 0 < v1 by omega)
  refine ⟨by rw [Int.mul_comm]; exact Int.mul_ediv_add_emod U v1, h.1, ⟨Int.ediv_nonneg h7 (by omega), h.2⟩, Int.emod_nonneg _ (by omega), by omega⟩
end Go.Proofs.YtnhijofnhflklaaGreat
