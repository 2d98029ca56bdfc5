import Derived.RangeFuncNested
import Derived.RangeFuncBound
import Derived.RangeFuncCalls
import Derived.RangeFuncLeaves
import Derived.Shelf.Abstract
import Derived.Shelf.RegionOpen
import Derived.OwnWalkIn
import Derived.TacticsInMore
import Derived.LoopNIn
import Derived.LoopIn
import Derived.Test.YtfidojdolbmjdaaGrDataM
import Derived.Test.YtfidojdolbmjdaaProg
import Derived.WalkKit
/- The iterator over a graph's edges: every edge, vertex by vertex, each with where it begins, up to where a round says no more. -/
namespace Go.Proofs.Ytfidojdolbmjdaa
open Go.RowKit Go.Shelf
attribute [local go_sem] Oper.semAt_some

/-- What a round keeps: all below n₀, and all cells from n₁ on. -/
structure Kc (n₀ n₁ : Nat) (W W' : World) : Prop where
  low : Below n₀ W W'
  cells : ∀ k, n₁ ≤ k → ∀ c t f, W.heap[k]? = some (.cells c t f) → W'.heap[k]? = some (.cells c t f)
theorem Kc.refl (n₀ n₁ : Nat) (W : World) : Kc n₀ n₁ W W := ⟨Below.refl _ _, fun _ _ _ _ _ h => h⟩
theorem Kc.trans {n₀ n₁ : Nat} {A B C : World} (h : Kc n₀ n₁ A B) (k : Kc n₀ n₁ B C) : Kc n₀ n₁ A C := ⟨h.low.trans k.low, fun i hi c t f hc => k.cells i hi c t f (h.cells i hi c t f hc)⟩
theorem Kc.put {n₀ n₁ : Nat} {w : World} (hn : n₀ ≤ w.heap.size) (W : World) (l : Nat) (o o' : Obj) (hl : w.heap.size ≤ l) (h : W.heap[l]? = some o) (h1 : o.isCells = false) (h2 : o.isWalk = false) : Kc n₀ n₁ W (W.putObj l o') :=
  ⟨belowK_b hn W l o o' hl h h1 h2, fun k _ _ _ _ hc => by
    have hne : k ≠ l := fun e => by subst e; rw [hc] at h; cases h; simp [Obj.isCells] at h1
    exact (World.putObj_heap_other hne).trans hc⟩
/-- All edges, vertex by vertex. -/
def evs (G : List Vx) : List (Int × Ed) := G.flatMap fun v => v.es.map fun e => (v.id, e)
theorem evs_snoc (G : List Vx) (k : Nat) (h : k < G.length) : evs (G.take (k + 1)) = evs (G.take k) ++ G[k].es.map fun e => (G[k].id, e) := by
  unfold evs
  rw [List.take_succ_eq_append_getElem h, List.flatMap_append]; simp
theorem evs_pre (G : List Vx) (k : Nat) : evs (G.take k) <+: evs G := by
  unfold evs
  conv => rhs; rw [← List.take_append_drop k G]
  rw [List.flatMap_append]; exact List.prefix_append _ _
theorem evs_in (G : List Vx) (k : Nat) (h : k < G.length) (j : Nat) : evs (G.take k) ++ (G[k].es.take j).map (fun e => (G[k].id, e)) <+: evs G := by
  refine List.IsPrefix.trans ?_ (evs_pre G (k + 1))
  rw [evs_snoc G k h]
  refine (List.prefix_append_right_inj _).2 ?_
  conv => rhs; rw [← List.take_append_drop j G[k].es, List.map_append]
  exact List.prefix_append _ _
theorem take_snoc_map {L : List Ed} {j : Nat} (h : j < L.length) (x : Int) : (L.take (j + 1)).map (fun e => (x, e)) = (L.take j).map (fun e => (x, e)) ++ [(x, L[j])] := by
  rw [List.take_succ_eq_append_getElem h, List.map_append]; rfl
def encE (x : Int × Ed) : Array Value := #[.int .i64 x.1, .agg #[.int .i64 x.2.t, .int .i64 x.2.w]]
theorem box3 {W : World} {b : Nat} {t : TypeId} {u0 u1 u2 : Value} (h : W.heap[b]? = some (.cells #[u0, u1, u2] t (0, 0))) : W.cell? ⟨b, 0, none⟩ = some u0 ∧ W.cell? ⟨b, 1, none⟩ = some u1 ∧ W.cell? ⟨b, 2, none⟩ = some u2 := by
  simp [World.cell?, h]

end Go.Proofs.Ytfidojdolbmjdaa
