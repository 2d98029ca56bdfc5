import Derived.Test.YtfidojdolbmjdaaNumM
import Derived.Below
import Derived.Laws.IdiomCopy
import Derived.Lib.AppendZerosOnto
/- Rows that are written in place: cells set one behind the other, clear and copy of elements of several cells. No function of the program is named here. -/
namespace Go.Proofs.Ytfidojdolbmjdaa
open Go.RowKit
theorem set_heap {w : World} {b : Nat} {t : TypeId} {f : Nat × Nat} {cs : Array Value} (h : w.heap[b]? = some (.cells cs t f)) (i : Nat) (v : Value) : (w.setCell ⟨b, i, none⟩ v).heap[b]? = some (.cells (cs.setIfInBounds i v) t f) := by
  have hlt : b < w.heap.size := (Array.getElem?_eq_some_iff.1 h).1
  have h' : w.heap[b] = .cells cs t f := by simpa [Array.getElem?_eq_getElem hlt] using h
  show (w.heap.modify b _)[b]? = _
  rw [Array.getElem?_eq_getElem (by simpa using hlt), Array.getElem_modify_self, h']
  rfl
/-- Cells written over others. -/
def over (cur : List Value) (o : Nat) (vs : List Value) : List Value := cur.take o ++ vs ++ cur.drop (o + vs.length)
theorem over_len (cur : List Value) (o : Nat) (vs : List Value) (h : o + vs.length ≤ cur.length) : (over cur o vs).length = cur.length := by
  unfold over; simp; omega
theorem setCells_heap {b : Nat} {t : TypeId} {f : Nat × Nat} : ∀ (vs : List Value) (o : Nat) (w : World) (cur : Array Value), w.heap[b]? = some (.cells cur t f) → o + vs.length ≤ cur.size → (w.setCells b o vs).heap[b]? = some (.cells (over cur.toList o vs).toArray t f)
  | [], o, w, cur, h, _ => by
    unfold over
    simp only [World.setCells, List.append_nil, List.length_nil, Nat.add_zero, List.take_append_drop, Array.toArray_toList]
    exact h
  | v :: r, o, w, cur, h, hl => by
    have ih := setCells_heap r (o + 1) (w.setCell ⟨b, o, none⟩ v) (cur.setIfInBounds o v) (set_heap h o v) (by simp at hl ⊢; omega)
    rw [World.setCells, ih]
    have e : over (cur.setIfInBounds o v).toList (o + 1) r = over cur.toList o (v :: r) := by
      unfold over
      have := list_seg_step cur.toList o v r (by simp at hl ⊢; omega)
      simpa [Array.toList_setIfInBounds, Nat.add_assoc] using this
    rw [e]
/-- A block of a row of one's own. -/
structure Blk (w : World) (base : Nat) (e : TypeId) (size g cap : Nat) (cur : List Value) : Prop where
  low : base ≤ g
  heap : w.heap[g]? = some (.cells cur.toArray e (0, 0))
  max : cap ≤ maxLen
  size : cur.length = cap * size
theorem Blk.own {w : World} {base : Nat} {e : TypeId} {size g cap : Nat} {cur : List Value} (h : Blk w base e size g cap cur) {n : Nat} (hn : n ≤ cap) : w.ownsRow base e size (.slice (some ⟨g, 0, none⟩) n cap) n (cur.take (n * size)) := by
  refine ⟨?_, .inr ⟨g, cap, cur.toArray, rfl, h.low, h.heap, hn, h.max, by simpa using h.size, by simp⟩⟩
  have := Nat.mul_le_mul_right size hn
  rw [List.length_take, h.size]; omega
theorem own_blk {w : World} {base : Nat} {e : TypeId} {size : Nat} {v : Value} {n : Nat} {xs : List Value} (h : w.ownsRow base e size v n xs) (hn : 0 < n) : ∃ g cap cur, v = .slice (some ⟨g, 0, none⟩) n cap ∧ n ≤ cap ∧ Blk w base e size g cap cur ∧ cur.take (n * size) = xs := by
  rcases h.2 with ⟨_, h2⟩ | ⟨g, cap, cur, h1, h2, h3, h4, h5, h6, h7⟩
  · omega
  · exact ⟨g, cap, cur.toList, h1, h4, ⟨h2, by simpa using h3, h5, by simpa using h6⟩, h7⟩
theorem Blk.lt {w : World} {base : Nat} {e : TypeId} {size g cap : Nat} {cur : List Value} (h : Blk w base e size g cap cur) : g < w.heap.size := (Array.getElem?_eq_some_iff.1 h.heap).1
theorem Blk.set {w : World} {base : Nat} {e : TypeId} {size g cap : Nat} {cur : List Value} (h : Blk w base e size g cap cur) (o : Nat) (vs : List Value) (hl : o + vs.length ≤ cap * size) : Blk (w.setCells g o vs) base e size g cap (over cur o vs) := by
  refine ⟨h.low, ?_, h.max, ?_⟩
  · have := setCells_heap vs o w _ h.heap (by simpa [h.size] using hl)
    simpa using this
  · rw [over_len _ _ _ (by rw [h.size]; exact hl), h.size]
theorem Blk.drew {w : World} {base : Nat} {e : TypeId} {size g cap : Nat} {cur : List Value} (h : Blk w base e size g cap cur) : Blk w.drew base e size g cap cur := ⟨h.low, h.heap, h.max, h.size⟩
theorem Blk.cell {w : World} {base : Nat} {e : TypeId} {size g cap : Nat} {cur : List Value} (h : Blk w base e size g cap cur) (j : Nat) : w.cell? ⟨g, j, none⟩ = cur[j]? := by
  simp [World.cell?, h.heap]
theorem Blk.there {w : World} {base : Nat} {e : TypeId} {size g cap : Nat} {cur : List Value} (h : Blk w base e size g cap cur) {j : Nat} (hj : j < cap * size) : (w.cell? ⟨g, j, none⟩).isSome = true := by
  rw [h.cell, List.getElem?_eq_getElem (by rw [h.size]; exact hj)]; rfl
section
variable {P : Program}
end
end Go.Proofs.Ytfidojdolbmjdaa
