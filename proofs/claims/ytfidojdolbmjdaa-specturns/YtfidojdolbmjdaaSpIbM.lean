import Derived.Test.YtfidojdolbmjdaaSpNumM
import Derived.Test.YtfidojdolbmjdaaMuRowM
/- A block of ints, of one's own. -/
namespace Go.Proofs.Ytfidojdolbmjdaa
open Go.RowKit
/-- A block of ints, of one's own. -/
def IB (W : World) (m : Nat) (L : List Int) : Prop := W.heap[m]? = some (.cells (L.map (Value.int .i64)).toArray 2 (0, 0))
theorem IB.lt {W : World} {m : Nat} {L : List Int} (h : IB W m L) : m < W.heap.size := lt_of_block h
theorem IB.cell {W : World} {m : Nat} {L : List Int} (h : IB W m L) {j : Nat} (hj : j < L.length) : W.cell? ⟨m, j, none⟩ = some (.int .i64 L[j]) ∧ W.frozen? ⟨m, j, none⟩ = false := by
  unfold IB at h
  constructor
  · simp [World.cell?, h, hj]
  · simp [World.frozen?, h]
theorem IB.set {W : World} {m : Nat} {L : List Int} (h : IB W m L) (j : Nat) (x : Int) : IB (W.setCell ⟨m, j, none⟩ (.int .i64 x)) m (L.set j x) := by
  unfold IB at h ⊢
  rw [set_heap h, List.setIfInBounds_toArray, List.map_set]
theorem IB.kept {W W' : World} {m : Nat} {L : List Int} {S : Nat → Prop} (h : IB W m L) (f : Fr W W' S) (hs : ¬ S m) : IB W' m L := (f.block m h.lt hs).trans h
theorem IB.new {W W' : World} {m : Nat} {L : List Int} (h : IB W m L) (hb : Below W.heap.size W W') : IB W' m L := (hb.block m h.lt).trans h
theorem IB.made (W : World) (n : Nat) : IB (W.alloc (.cells (madeCells #[.int .i64 0] n) 2)) W.heap.size (List.replicate n 0) := by
  unfold IB
  rw [heap_alloc_new]
  have : madeCells #[Value.int .i64 0] n = ((List.replicate n (0 : Int)).map (Value.int .i64)).toArray := by
    apply Array.ext
    · rw [size_madeCells]; simp
    · intro i h1 h2
      simp [madeCells, Nat.mod_one]
  rw [this]
theorem sp_setRow (w : World) (g : Nat) (cs : Array Value) : Fr w (w.setRow g cs) (fun k => k = g) := ⟨rfl, rfl, rfl, by simp, fun k _ hn => setRow_other w g k cs hn⟩
end Go.Proofs.Ytfidojdolbmjdaa
