import Derived.Test.YtmpbdaogdahiiaaSpNbrM
import Derived.Test.YtmpbdaogdahiiaaSpNearM
/- The rows of neighbours of a graph, on plain data. -/
namespace Go.Proofs.Ytmpbdaogdahiiaa
open Go.RowKit Go.Shelf
/-- The rows of neighbours of a graph that may be. -/
def nearR (G : List Vx) : List (List Int) := (foldW (ids G) G.length (evs G)).2.map nearL
theorem nearR_len (G : List Vx) : (nearR G).length = G.length := by rw [nearR, List.length_map]; exact (foldW_lens _ _ _).2
theorem nearL_len (l : List Int) : (nearL l).length ≤ l.length := by
  unfold nearL Lib.compact Lib.compactUpTo
  rw [List.length_map]
  refine Nat.le_trans (List.length_filter_le _ _) ?_
  simp [srt_len]
theorem nearR_at {G : List Vx} {i : Nat} (hi : i < G.length) : ∃ h : i < (nearR G).length, (nearR G)[i] = nearL ((foldW (ids G) G.length (evs G)).2.getD i []) := by
  have hl := (foldW_lens (ids G) G.length (evs G)).2
  refine ⟨by rw [nearR_len]; exact hi, ?_⟩
  simp [nearR, List.getD, hl, hi]
theorem nearR_row {G : List Vx} (hr : Rise (ids G)) (hth : thereE G = true) (he : (evs G).length ≤ 2048) {i : Nat} (hi : i < G.length) : Rise ((nearR G).getD i []) ∧ ((nearR G).getD i []).length ≤ 4096 ∧ ∀ y, y ∈ (nearR G).getD i [] ↔ ∃ j : Nat, y = (j : Int) ∧ nearP G i j := by
  obtain ⟨h, e⟩ := nearR_at hi
  have e1 : (nearR G).getD i [] = nearL ((foldW (ids G) G.length (evs G)).2.getD i []) := by rw [← e]; simp [List.getD, h]
  rw [e1]
  refine ⟨rise_pw (nearL_rise _), ?_, fun y => mem_nearL.trans (near_mem hr hth hi y)⟩
  have h1 := nearL_len ((foldW (ids G) G.length (evs G)).2.getD i [])
  have h2 := (foldW_rows (ids G) G.length (evs G) i).2
  omega
theorem nearP_lt {G : List Vx} {i j : Nat} (h : nearP G i j) : j < G.length := by
  rcases h.2 with ⟨_, h, _⟩ | ⟨_, h, _⟩ <;> exact h
end Go.Proofs.Ytmpbdaogdahiiaa
