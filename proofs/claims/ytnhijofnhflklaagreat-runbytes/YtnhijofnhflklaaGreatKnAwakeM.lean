import Derived.Test.YtnhijofnhflklaaGreatKnToM
import Derived.Test.YtnhijofnhflklaaGreatNmAddM
import Derived.Laws.Tables
import Derived.Laws.OwnMore
/- The document's awake of layer 7. -/
namespace Go.Proofs.YtnhijofnhflklaaGreat
open Go.RowKit
/-- An Input's box and an Output's box, side by side. -/
theorem two_boxes (w : World) (c : Array Value) {W0 : World} (h : (w.alloc (.cells c 177)).alloc (.cells #[.int .i64 0, .bool false, .slice none 0 0, .slice none 0 0, .bool false, .bool false, .bool false, .bool false, .bool false, .int .i64 0, .int .i64 0, .int .i64 0, .int .i64 0, .int .i64 0, .int .i64 0] 174) = W0) : InBox W0 w.heap.size c ∧ OutBox W0 (w.heap.size + 1) #[.int .i64 0, .bool false, .slice none 0 0, .slice none 0 0, .bool false, .bool false, .bool false, .bool false, .bool false, .int .i64 0, .int .i64 0, .int .i64 0, .int .i64 0, .int .i64 0, .int .i64 0] ∧ Below w.heap.size w W0 ∧ W0.heap.size = w.heap.size + 2 := by
  rw [← h]
  have h1 := OutBox.made (w.alloc (.cells c 177)) #[.int .i64 0, .bool false, .slice none 0 0, .slice none 0 0, .bool false, .bool false, .bool false, .bool false, .bool false, .int .i64 0, .int .i64 0, .int .i64 0, .int .i64 0, .int .i64 0, .int .i64 0]
  rw [World.size_alloc] at h1
  exact ⟨(InBox.made w c).new (one_newK _ _), h1, (one_newK _ _).trans ((one_newK _ _).mono (by simp)), by simp⟩
/-- Step's boxes: what it was given, what it tells, what it has. -/
theorem three_boxes (w : World) (c z : Array Value) {W0 : World} (h : ((w.alloc (.cells c 177)).alloc (.cells #[.int .i64 0, .bool false, .slice none 0 0, .slice none 0 0, .bool false, .bool false, .bool false, .bool false, .bool false, .int .i64 0, .int .i64 0, .int .i64 0, .int .i64 0, .int .i64 0, .int .i64 0] 174)).alloc (.cells z 174) = W0) : InBox W0 w.heap.size c ∧ OutBox W0 (w.heap.size + 1) #[.int .i64 0, .bool false, .slice none 0 0, .slice none 0 0, .bool false, .bool false, .bool false, .bool false, .bool false, .int .i64 0, .int .i64 0, .int .i64 0, .int .i64 0, .int .i64 0, .int .i64 0] ∧ OutBox W0 (w.heap.size + 2) z ∧ Below w.heap.size w W0 ∧ W0.heap.size = w.heap.size + 3 := by
  obtain ⟨W1, hW1⟩ : ∃ W1, (w.alloc (.cells c 177)).alloc (.cells #[.int .i64 0, .bool false, .slice none 0 0, .slice none 0 0, .bool false, .bool false, .bool false, .bool false, .bool false, .int .i64 0, .int .i64 0, .int .i64 0, .int .i64 0, .int .i64 0, .int .i64 0] 174) = W1 := ⟨_, rfl⟩
  obtain ⟨a1, a2, a3, a4⟩ := two_boxes w c hW1
  rw [hW1] at h
  rw [← h]
  have h1 := OutBox.made W1 z
  rw [a4] at h1
  exact ⟨a1.new (one_newK _ _), a2.new (one_newK _ _), h1, a3.trans ((one_newK _ _).mono (by omega)), by simp [a4]⟩
end Go.Proofs.YtnhijofnhflklaaGreat
