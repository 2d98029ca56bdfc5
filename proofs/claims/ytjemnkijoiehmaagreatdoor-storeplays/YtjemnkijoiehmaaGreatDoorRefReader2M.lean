import Derived.Test.YtjemnkijoiehmaaGreatDoorRefReaderM
/- What the document's reader (a value) answers to each taking: what begins with a number. -/
namespace Go.Proofs.YtjemnkijoiehmaaGreatDoor
open Go.RowKit
theorem rd_via {s : ByteArray} {a n a' : Nat} {e e' : Int} (ha : a ≤ s.size) (h : rdNum s a e = (n, a', e')) :
    (e' ≠ 0 ∧ n = 0 ∧ a' = a ∧ ∀ (α : Type) (z : α) (f : Nat → Nat → α × Nat × Int), rdWith z s a e f = (z, a, e')) ∨ (e' = 0 ∧ e = 0 ∧ n < 18446744073709551616 ∧ ∃ k, a' = a + k ∧ a + k ≤ s.size ∧ ∀ (α : Type) (z : α) (f : Nat → Nat → α × Nat × Int), rdWith z s a e f = f n k) := by
  by_cases he : e = 0
  · subst he
    rcases three s a ha with ⟨m, k, hp, h1, h2, h3, h4⟩ | ⟨m, k, x, hp, hx⟩
    · right
      rw [show rdNum s a 0 = (m, a + k, 0) from rd_ok hp] at h
      simp only [Prod.mk.injEq] at h
      obtain ⟨rfl, rfl, rfl⟩ := h
      exact ⟨rfl, rfl, h4, k, rfl, h2, fun _ _ _ => rd_ok hp⟩
    · left
      rw [show rdNum s a 0 = (0, a, (x : Int)) from rd_bad hp hx] at h
      simp only [Prod.mk.injEq] at h
      obtain ⟨rfl, rfl, rfl⟩ := h
      exact ⟨by omega, rfl, rfl, fun _ _ _ => rd_bad hp hx⟩
  · left
    rw [show rdNum s a e = (0, a, e) from rd_err he] at h
    simp only [Prod.mk.injEq] at h
    obtain ⟨rfl, rfl, rfl⟩ := h
    exact ⟨he, rfl, rfl, fun _ _ _ => rd_err he⟩
end Go.Proofs.YtjemnkijoiehmaaGreatDoor
