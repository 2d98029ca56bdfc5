import Derived.Test.YtmpbdaogdahiiaaSpWvM
/- spec.Degrees. -/
namespace Go.Proofs.Ytmpbdaogdahiiaa
open Go.RowKit Go.Shelf
attribute [local go_sem] Oper.semAt_some
/-- A block of ints, of one's own. -/
def IB (W : World) (m : Nat) (L : List Int) : Prop := W.heap[m]? = some (.cells (L.map (Value.int .i64)).toArray 2 (0, 0))
theorem IB.lt {W : World} {m : Nat} {L : List Int} (h : IB W m L) : m < W.heap.size := lt_of_block h
theorem IB.cell {W : World} {m : Nat} {L : List Int} (h : IB W m L) {j : Nat} (hj : j < L.length) : W.cell? ⟨m, j, none⟩ = some (.int .i64 L[j]) ∧ W.frozen? ⟨m, j, none⟩ = false := by
  unfold IB at h
  constructor
  · simp [World.cell?, h, hj]
  · simp [World.frozen?, h]
theorem IB.set {W : World} {m : Nat} {L : List Int} (h : IB W m L) (j : Nat) (x : Int) : IB (W.setCell ⟨m, j, none⟩ (.int .i64 x)) m (L.set j x) := by
  unfold IB at h ⊢
  rw [set_heap h, List.setIfInBounds_toArray, List.map_set]
theorem IB.kept {W W' : World} {m : Nat} {L : List Int} {S : Nat → Prop} (h : IB W m L) (f : Fr W W' S) (hs : ¬ S m) : IB W' m L := (f.block m h.lt hs).trans h
theorem IB.new {W W' : World} {m : Nat} {L : List Int} (h : IB W m L) (hb : Below W.heap.size W W') : IB W' m L := (hb.block m h.lt).trans h
theorem IB.made (W : World) (n : Nat) : IB (W.alloc (.cells (madeCells #[.int .i64 0] n) 2)) W.heap.size (List.replicate n 0) := by
  unfold IB
  rw [heap_alloc_new]
  have : madeCells #[Value.int .i64 0] n = ((List.replicate n (0 : Int)).map (Value.int .i64)).toArray := by
    apply Array.ext
    · rw [size_madeCells]; simp
    · intro i h1 h2
      simp [madeCells, Nat.mod_one]
  rw [this]
theorem flatA_at : ∀ (L : List Ed) (k : Nat) (h : k < L.length), (L.flatMap encA2)[k * 2]? = some (.int .i64 L[k].t) ∧ (L.flatMap encA2)[k * 2 + 1]? = some (.int .i64 L[k].w)
  | [], k, h => by simp at h
  | e :: L, 0, h => by simp [encA2]
  | e :: L, k + 1, h => by
    have := flatA_at L k (by simpa using h)
    rw [List.flatMap_cons]
    have e1 : (k + 1) * 2 = k * 2 + 2 := by omega
    rw [e1]
    simpa [encA2] using this
theorem arc_at {W : World} {base : Nat} {v : Value} {L : List Ed} (h : W.ownsRow base 111 2 v L.length (L.flatMap encA2)) (hl : 0 < L.length) : ∃ g cap, v = .slice (some ⟨g, 0, none⟩) L.length cap ∧ ∀ k (hk : k < L.length), W.cell? ⟨g, k * 2, none⟩ = some (.int .i64 L[k].t) ∧ W.cell? ⟨g, k * 2 + 1, none⟩ = some (.int .i64 L[k].w) := by
  obtain ⟨g, cap, cur, rfl, hc, hB, ht⟩ := own_blk h hl
  refine ⟨g, cap, rfl, fun k hk => ?_⟩
  obtain ⟨e1, e2⟩ := flatA_at L k hk
  rw [← ht, List.getElem?_take, if_pos (by omega)] at e1 e2
  exact ⟨(hB.cell _).trans e1, (hB.cell _).trans e2⟩
end Go.Proofs.Ytmpbdaogdahiiaa
