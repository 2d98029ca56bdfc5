import Derived.Test.YtmpbdaogdahiiaaSpNrM
/- The least color that no lesser neighbour has, on plain data. -/
namespace Go.Proofs.Ytmpbdaogdahiiaa
theorem pig_le : ∀ (c : Nat) (L : List Int), (∀ d : Nat, d < c → (d : Int) ∈ L) → c ≤ L.length
  | 0, _, _ => Nat.zero_le _
  | c + 1, L, h => by
    have h1 := h c (Nat.lt_succ_self c)
    have h2 := pig_le c (L.erase (c : Int)) (fun d hd => (List.mem_erase_of_ne (by omega)).2 (h d (by omega)))
    rw [List.length_erase_of_mem h1] at h2
    have := List.length_pos_of_mem h1
    omega
/-- No lesser neighbour has a color. -/
def colA (L C : List Int) (i c : Nat) : Prop := ∀ x ∈ L, x < (i : Int) → C.getD x.toNat 0 ≠ (c : Int)
/-- Each lesser color is a lesser neighbour's. -/
def colB (L C : List Int) (i c : Nat) : Prop := ∀ d : Nat, d < c → ∃ x ∈ L, x < (i : Int) ∧ C.getD x.toNat 0 = (d : Int)
/-- A vertex has its color. -/
def colOK (N : List (List Int)) (C : List Int) (i : Nat) : Prop := ∃ c : Nat, C.getD i 0 = (c : Int) ∧ c ≤ 4096 ∧ colA (N.getD i []) C i c ∧ colB (N.getD i []) C i c
theorem colB_le {L C : List Int} {i c : Nat} (h : colB L C i c) : c ≤ L.length := by
  have := pig_le c (L.map fun x => C.getD x.toNat 0) (fun d hd => by
    obtain ⟨x, hx, _, e⟩ := h d hd
    exact List.mem_map.2 ⟨x, hx, e⟩)
  simpa using this
theorem gd_ne {C : List Int} {j k : Nat} (v : Int) (h : k ≠ j) : (C.set j v).getD k 0 = C.getD k 0 := by
  simp [List.getD, Ne.symm h]
theorem gd_eq {C : List Int} {j : Nat} (v : Int) (h : j < C.length) : (C.set j v).getD j 0 = v := by
  simp [List.getD, h]
theorem col_put {N : List (List Int)} {C : List Int} {j c : Nat} (h : ∀ i, i < j → colOK N C i) (hA : colA (N.getD j []) C j c) (hB : colB (N.getD j []) C j c) (hc : c ≤ 4096) (hj : j < C.length) (h0 : ∀ i, i ≤ j → ∀ x ∈ N.getD i [], 0 ≤ x) : ∀ i, i < j + 1 → colOK N (C.set j (c : Int)) i := by
  have key : ∀ i, i ≤ j → ∀ d, colA (N.getD i []) C i d → colB (N.getD i []) C i d → colA (N.getD i []) (C.set j (c : Int)) i d ∧ colB (N.getD i []) (C.set j (c : Int)) i d := fun i hi d h1 h2 => by
    refine ⟨fun x hx hl => ?_, fun e he => ?_⟩
    · have := h0 i hi x hx
      rw [gd_ne _ (by omega)]
      exact h1 x hx hl
    · obtain ⟨x, hx, hl, e1⟩ := h2 e he
      have := h0 i hi x hx
      exact ⟨x, hx, hl, by rw [gd_ne _ (by omega)]; exact e1⟩
  intro i hi
  by_cases e : i = j
  · subst e
    exact ⟨c, gd_eq _ hj, hc, key i (Nat.le_refl _) c hA hB⟩
  · obtain ⟨d, h1, h2, h3, h4⟩ := h i (by omega)
    exact ⟨d, by rw [gd_ne _ e]; exact h1, h2, key i (by omega) d h3 h4⟩
end Go.Proofs.Ytmpbdaogdahiiaa
