import Derived.Test.YtidghoipmggklaaGreatReadSpecM
import Derived.Test.YtidghoipmggklaaGreatGrBytesM
/- Plain mathematics of taking edges, vertices and graphs off bytes. -/
namespace Go.Proofs.YtidghoipmggklaaGreat
open Go.RowKit
/-- So many edges, up to the first error; how many bytes are taken, the error. -/
def rdEs (s : ByteArray) : Nat → Nat → Int → List Ed × Nat × Int
  | 0, a, e => ([], a, e)
  | n + 1, a, e =>
    if (rdNum s (rdNum s a e).2.1 (rdNum s a e).2.2).2.2 = 0 then
      (⟨unfoldN (rdNum s a e).1, unfoldN (rdNum s (rdNum s a e).2.1 (rdNum s a e).2.2).1⟩ :: (rdEs s n (rdNum s (rdNum s a e).2.1 (rdNum s a e).2.2).2.1 0).1, (rdEs s n (rdNum s (rdNum s a e).2.1 (rdNum s a e).2.2).2.1 0).2)
    else ([], (rdNum s (rdNum s a e).2.1 (rdNum s a e).2.2).2.1, (rdNum s (rdNum s a e).2.1 (rdNum s a e).2.2).2.2)
theorem rdEs_go {s : ByteArray} {n a t a1 w a2 : Nat} {e e1 : Int} (h1 : rdNum s a e = (t, a1, e1)) (h2 : rdNum s a1 e1 = (w, a2, 0)) : rdEs s (n + 1) a e = (⟨unfoldN t, unfoldN w⟩ :: (rdEs s n a2 0).1, (rdEs s n a2 0).2) := by
  simp only [rdEs, h1, h2, if_true]
theorem rdEs_bad {s : ByteArray} {n a t a1 w a2 : Nat} {e e1 e2 : Int} (h1 : rdNum s a e = (t, a1, e1)) (h2 : rdNum s a1 e1 = (w, a2, e2)) (h : e2 ≠ 0) : rdEs s (n + 1) a e = ([], a2, e2) := by
  simp only [rdEs, h1, h2, if_neg h]
/-- A vertex, off bytes. -/
def rdV (s : ByteArray) (a : Nat) (e : Int) : Vx × Nat × Int :=
  let p := rdNum s a e
  let q := rdNum s p.2.1 p.2.2
  let c := rdCount s q.2.1 q.2.2 2048
  (⟨unfoldN p.1, unfoldN q.1, (rdEs s c.1 c.2.1 c.2.2).1⟩, (rdEs s c.1 c.2.1 c.2.2).2)
/-- So many vertices; none is told where there is an error. -/
def rdVs (s : ByteArray) : Nat → Nat → Int → List Vx × Nat × Int
  | 0, a, e => ([], a, e)
  | n + 1, a, e => if (rdV s a e).2.2 = 0 then ((rdV s a e).1 :: (rdVs s n (rdV s a e).2.1 0).1, (rdVs s n (rdV s a e).2.1 0).2) else ([], (rdV s a e).2)
/-- A graph's vertices, off bytes. -/
def rdGs (s : ByteArray) (a : Nat) (e : Int) : List Vx × Nat × Int :=
  let c := rdCount s a e 256
  rdVs s c.1 c.2.1 c.2.2
/-- A graph, off bytes: behind the last vertex Check's error. -/
def rdG (s : ByteArray) (a : Nat) (e : Int) : List Vx × Nat × Int :=
  let g := rdGs s a e
  if g.2.2 = 0 then (if chk g.1 = 0 then g else ([], g.2.1, chk g.1)) else ([], g.2)
theorem rdNum_to {s : ByteArray} {a n a' : Nat} {e e' : Int} (ha : a ≤ s.size) (h : rdNum s a e = (n, a', e')) : a' ≤ s.size ∧ n < 18446744073709551616 ∧ (e' = 0 → e = 0) := by
  by_cases he : e = 0
  · subst he
    rcases three s a ha with ⟨m, k, hp, h1, h2, h3, h4⟩ | ⟨m, k, x, hp, hx⟩
    · rw [show rdNum s a 0 = (m, a + k, 0) from rd_ok hp] at h
      simp only [Prod.mk.injEq] at h
      obtain ⟨rfl, rfl, rfl⟩ := h
      exact ⟨h2, h4, fun _ => rfl⟩
    · rw [show rdNum s a 0 = (0, a, (x : Int)) from rd_bad hp hx] at h
      simp only [Prod.mk.injEq] at h
      obtain ⟨rfl, rfl, rfl⟩ := h
      exact ⟨ha, by decide, fun _ => rfl⟩
  · rw [show rdNum s a e = (0, a, e) from rd_err he] at h
    simp only [Prod.mk.injEq] at h
    obtain ⟨rfl, rfl, rfl⟩ := h
    exact ⟨ha, by decide, fun h => h⟩
theorem rdCount_to {s : ByteArray} {a n a' : Nat} {e e' : Int} {most : Nat} (ha : a ≤ s.size) (h : rdCount s a e most = (n, a', e')) : a' ≤ s.size ∧ n ≤ most ∧ (e' = 0 → e = 0) ∧ (0 < n → e' = 0) := by
  by_cases he : e = 0
  · subst he
    rcases three s a ha with ⟨m, k, hp, h1, h2, h3, h4⟩ | ⟨m, k, x, hp, hx⟩
    · have hq : rdCount s a 0 most = if (most : Int) < 0 ∨ (most : Int) < m then (0, a, 5) else (m, a + k, 0) := rd_ok hp
      rw [hq] at h
      split at h
      · simp only [Prod.mk.injEq] at h
        obtain ⟨rfl, rfl, rfl⟩ := h
        exact ⟨ha, by omega, fun _ => rfl, fun h => by omega⟩
      · simp only [Prod.mk.injEq] at h
        obtain ⟨rfl, rfl, rfl⟩ := h
        exact ⟨h2, by omega, fun _ => rfl, fun _ => rfl⟩
    · rw [show rdCount s a 0 most = (0, a, (x : Int)) from rd_bad hp hx] at h
      simp only [Prod.mk.injEq] at h
      obtain ⟨rfl, rfl, rfl⟩ := h
      exact ⟨ha, by omega, fun _ => rfl, fun h => by omega⟩
  · rw [show rdCount s a e most = (0, a, e) from rd_err he] at h
    simp only [Prod.mk.injEq] at h
    obtain ⟨rfl, rfl, rfl⟩ := h
    exact ⟨ha, by omega, fun h => h, fun h => by omega⟩
theorem rdEs_to (s : ByteArray) : ∀ (n a : Nat) (e : Int), a ≤ s.size → (rdEs s n a e).2.1 ≤ s.size ∧ (rdEs s n a e).1.length ≤ n ∧ ∀ x ∈ (rdEs s n a e).1, x.ok := by
  intro n
  induction n with
  | zero => intro a e ha; exact ⟨ha, Nat.le_refl _, fun x hx => by cases hx⟩
  | succ n ih =>
    intro a e ha
    obtain ⟨⟨t, a1, e1⟩, h1⟩ : ∃ q, rdNum s a e = q := ⟨_, rfl⟩
    obtain ⟨⟨w, a2, e2⟩, h2⟩ : ∃ q, rdNum s a1 e1 = q := ⟨_, rfl⟩
    have g1 := rdNum_to ha h1
    have g2 := rdNum_to g1.1 h2
    by_cases hz : e2 = 0
    · subst hz
      rw [rdEs_go h1 h2]
      have := ih a2 0 g2.1
      refine ⟨this.1, by simp; exact this.2.1, fun x hx => ?_⟩
      rcases List.mem_cons.1 hx with rfl | hx
      · exact ⟨by unfold I64 unfoldN; dsimp only; split <;> omega, by unfold I64 unfoldN; dsimp only; split <;> omega⟩
      · exact this.2.2 x hx
    · rw [rdEs_bad h1 h2 hz]
      exact ⟨g2.1, Nat.zero_le _, fun x hx => by cases hx⟩
theorem rdV_to {s : ByteArray} {a : Nat} {e : Int} (ha : a ≤ s.size) : (rdV s a e).2.1 ≤ s.size ∧ (rdV s a e).1.es.length ≤ 2048 ∧ (rdV s a e).1.ok := by
  obtain ⟨⟨t, a1, e1⟩, h1⟩ : ∃ q, rdNum s a e = q := ⟨_, rfl⟩
  obtain ⟨⟨w, a2, e2⟩, h2⟩ : ∃ q, rdNum s a1 e1 = q := ⟨_, rfl⟩
  obtain ⟨⟨n, a3, e3⟩, h3⟩ : ∃ q, rdCount s a2 e2 (2048 : Nat) = q := ⟨_, rfl⟩
  have g1 := rdNum_to ha h1
  have g2 := rdNum_to g1.1 h2
  have g3 := rdCount_to g2.1 h3
  have g4 := rdEs_to s n a3 e3 g3.1
  have hq : rdV s a e = (⟨unfoldN t, unfoldN w, (rdEs s n a3 e3).1⟩, (rdEs s n a3 e3).2) := by
    unfold rdV; simp only [h1, h2]; rw [show (2048 : Int) = ((2048 : Nat) : Int) from rfl, h3]
  rw [hq]
  refine ⟨g4.1, Nat.le_trans g4.2.1 g3.2.1, ⟨?_, ?_, g4.2.2, Nat.le_trans (Nat.le_trans g4.2.1 g3.2.1) (by decide)⟩⟩
  · have := g1.2.1; unfold I64 unfoldN; dsimp only; split <;> omega
  · have := g2.2.1; unfold I64 unfoldN; dsimp only; split <;> omega
theorem rdVs_to (s : ByteArray) : ∀ (n a : Nat) (e : Int), a ≤ s.size → (rdVs s n a e).2.1 ≤ s.size ∧ (rdVs s n a e).1.length ≤ n ∧ ∀ x ∈ (rdVs s n a e).1, x.ok := by
  intro n
  induction n with
  | zero => intro a e ha; exact ⟨ha, Nat.le_refl _, fun x hx => by cases hx⟩
  | succ n ih =>
    intro a e ha
    have g := rdV_to (e := e) ha
    unfold rdVs
    split
    · have := ih (rdV s a e).2.1 0 g.1
      refine ⟨this.1, by simp; exact this.2.1, fun x hx => ?_⟩
      rcases List.mem_cons.1 hx with rfl | hx
      · exact g.2.2
      · exact this.2.2 x hx
    · exact ⟨g.1, Nat.zero_le _, fun x hx => by cases hx⟩
end Go.Proofs.YtidghoipmggklaaGreat
