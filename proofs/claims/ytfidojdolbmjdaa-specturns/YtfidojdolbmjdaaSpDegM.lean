import Derived.Test.YtfidojdolbmjdaaSpWvM
import Derived.Test.YtfidojdolbmjdaaSpIbM
/- spec.Degrees. -/
namespace Go.Proofs.Ytfidojdolbmjdaa
open Go.RowKit Go.Shelf
attribute [local go_sem] Oper.semAt_some
theorem flatA_at : ∀ (L : List Ed) (k : Nat) (h : k < L.length), (L.flatMap encA2)[k * 2]? = some (.int .i64 L[k].t) ∧ (L.flatMap encA2)[k * 2 + 1]? = some (.int .i64 L[k].w)
  | [], k, h => by simp at h
  | e :: L, 0, h => by simp [encA2]
  | e :: L, k + 1, h => by
    have := flatA_at L k (by simpa using h)
    rw [List.flatMap_cons]
    have e1 : (k + 1) * 2 = k * 2 + 2 := by omega
    rw [e1]
    simpa [encA2] using this
theorem arc_at {W : World} {base : Nat} {v : Value} {L : List Ed} (h : W.ownsRow base 75 2 v L.length (L.flatMap encA2)) (hl : 0 < L.length) : ∃ g cap, v = .slice (some ⟨g, 0, none⟩) L.length cap ∧ ∀ k (hk : k < L.length), W.cell? ⟨g, k * 2, none⟩ = some (.int .i64 L[k].t) ∧ W.cell? ⟨g, k * 2 + 1, none⟩ = some (.int .i64 L[k].w) := by
  obtain ⟨g, cap, cur, rfl, hc, hB, ht⟩ := own_blk h hl
  refine ⟨g, cap, rfl, fun k hk => ?_⟩
  obtain ⟨e1, e2⟩ := flatA_at L k hk
  rw [← ht, List.getElem?_take, if_pos (by omega)] at e1 e2
  exact ⟨(hB.cell _).trans e1, (hB.cell _).trans e2⟩
end Go.Proofs.Ytfidojdolbmjdaa
