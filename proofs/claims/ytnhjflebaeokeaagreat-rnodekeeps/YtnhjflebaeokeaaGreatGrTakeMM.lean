import Derived.Test.YtnhjflebaeokeaaGreatReadSpecM
import Derived.Test.YtnhjflebaeokeaaGreatGrBytesM
/- Plain mathematics of taking edges, vertices and graphs off bytes. -/
namespace Go.Proofs.YtnhjflebaeokeaaGreat
open Go.RowKit
theorem rdCount_to {s : ByteArray} {a n a' : Nat} {e e' : Int} {most : Nat} (ha : a ≤ s.size) (h : rdCount s a e most = (n, a', e')) : a' ≤ s.size ∧ n ≤ most ∧ (e' = 0 → e = 0) ∧ (0 < n → e' = 0) := by
  by_cases he : e = 0
  · subst he
    rcases three s a ha with ⟨m, k, hp, h1, h2, h3, h4⟩ | ⟨m, k, x, hp, hx⟩
    · have hq : rdCount s a 0 most = if (most : Int) < 0 ∨ (most : Int) < m then (0, a, 5) else (m, a + k, 0) := rd_ok hp
      rw [hq] at h
      split at h
      · simp only [Prod.mk.injEq] at h
        obtain ⟨rfl, rfl, rfl⟩ := h
        exact ⟨ha, by omega, fun _ => rfl, fun h => by omega⟩
      · simp only [Prod.mk.injEq] at h
        obtain ⟨rfl, rfl, rfl⟩ := h
        exact ⟨h2, by omega, fun _ => rfl, fun _ => rfl⟩
    · rw [show rdCount s a 0 most = (0, a, (x : Int)) from rd_bad hp hx] at h
      simp only [Prod.mk.injEq] at h
      obtain ⟨rfl, rfl, rfl⟩ := h
      exact ⟨ha, by omega, fun _ => rfl, fun h => by omega⟩
  · rw [show rdCount s a e most = (0, a, e) from rd_err he] at h
    simp only [Prod.mk.injEq] at h
    obtain ⟨rfl, rfl, rfl⟩ := h
    exact ⟨ha, by omega, fun h => h, fun h => by omega⟩
end Go.Proofs.YtnhjflebaeokeaaGreat
