import Derived.Test.YtnhijofnhflklaaGreatKnDataM
import Derived.Test.YtnhijofnhflklaaGreatKcSmallM
/- The ends of a vertex's edges but itself; a message to each of some vertices. -/
namespace Go.Proofs.YtnhijofnhflklaaGreat
open Go.RowKit
/-- A row of numbers of one's own. -/
def KI (w : World) (base : Nat) (v : Value) (L : List Int) : Prop := w.ownsRow base 2 1 v L.length (L.map (Value.int .i64))
theorem infoKI : (Tryz.prog.info? 2).map (fun i => (i.zero, i.size, i.bytes)) = some (some (.int .i64 0), 1, 8) := by kernel_rfl
theorem ki_snoc {w : World} {base n : Nat} {v : Value} {L : List Int} {x : Int} (hn : n = L.length) (h : w.ownsRow base 2 1 v (n + 1) (L.map (Value.int .i64) ++ [.int .i64 x])) : KI w base v (L ++ [x]) := by
  subst hn
  unfold KI
  rw [List.length_append, List.map_append]
  simpa using h
theorem KI.at_ {w : World} {base : Nat} {ao : Option Addr} {n c : Nat} {L : List Int} (h : KI w base (.slice ao n c) L) : IsAt w ao L := by
  intro hl
  have hn : n = L.length := by obtain ⟨_, _, e⟩ := k_shape h; cases e; rfl
  subst hn
  obtain ⟨g, rfl, _, hc⟩ := k_at h hl
  refine ⟨g, 0, rfl, fun j hj => ?_⟩
  rw [Nat.zero_add]
  exact hc j _ (by simp [hj])
theorem k_one1 {W : World} {b : Nat} {t : TypeId} {f : Nat × Nat} {x : Value} (h : W.heap[b]? = some (.cells #[x] t f)) : ∀ (j : Nat) (u : Value), [x][j]? = some u → W.cell? ((⟨b, 0, none⟩ : Addr).add j) = some u := by
  intro j u hu
  rw [Addr.add_lit, Nat.zero_add]
  simp [World.cell?, h]
  simpa using hu
theorem k_oneI (x : Int) : ∀ u ∈ [Value.int .i64 x], u.oneCell' = true := by
  intro u hu
  simp at hu
  subst hu
  rfl
end Go.Proofs.YtnhijofnhflklaaGreat
