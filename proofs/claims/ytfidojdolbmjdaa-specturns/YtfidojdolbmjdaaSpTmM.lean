import Derived.WalkKit
/- SpecTurns, plain: the number that is there most often, the least of several. -/
namespace Go.Proofs.Ytfidojdolbmjdaa
open Go
/-- There, and nobody is there more often, nor as often and less. -/
def IsBest (L : List Int) (v : Int) : Prop := v ∈ L ∧ ∀ x ∈ L, L.count x < L.count v ∨ (L.count x = L.count v ∧ v ≤ x)
theorem IsBest.one {L : List Int} {v u : Int} (h : IsBest L v) (g : IsBest L u) : v = u := by
  rcases h.2 u g.1 with h1 | ⟨h1, h2⟩
  · rcases g.2 v h.1 with g1 | ⟨g1, _⟩
    · omega
    · omega
  · rcases g.2 v h.1 with g1 | ⟨_, g2⟩
    · omega
    · omega
theorem IsBest.perm {L M : List Int} (hp : L.Perm M) {v : Int} (h : IsBest L v) : IsBest M v := by
  refine ⟨hp.mem_iff.1 h.1, fun x hx => ?_⟩
  rw [← hp.count_eq, ← hp.count_eq]
  exact h.2 x (hp.mem_iff.2 hx)
theorem count_snoc (L : List Int) (n x : Int) : (L ++ [n]).count x = L.count x + (if n = x then 1 else 0) := by
  rw [List.count_append, List.count_singleton]
  congr 1
  by_cases e : n = x <;> simp [e]
/-- One more behind numbers that do not fall. -/
theorem IsBest.step {L : List Int} {v n : Int} (h : IsBest L v) (hn : ∀ x ∈ L, x ≤ n) : (L.count v < (L ++ [n]).count n → IsBest (L ++ [n]) n) ∧ (¬ L.count v < (L ++ [n]).count n → IsBest (L ++ [n]) v ∧ (L ++ [n]).count v = L.count v) := by
  have hle : ∀ x ∈ L, L.count x ≤ L.count v := fun x hx => by rcases h.2 x hx with h1 | h1 <;> omega
  constructor
  · intro hlt
    refine ⟨by simp, fun x hx => ?_⟩
    rcases List.mem_append.1 hx with hx | hx
    · by_cases e : n = x
      · subst e; exact .inr ⟨rfl, Int.le_refl _⟩
      · left
        have := hle x hx
        rw [count_snoc, if_neg e]
        omega
    · rw [List.mem_singleton.1 hx]
      exact .inr ⟨rfl, Int.le_refl _⟩
  · intro hge
    have hnv : n ≠ v := fun e => by
      subst e
      rw [count_snoc, if_pos rfl] at hge
      omega
    have hcv : (L ++ [n]).count v = L.count v := by rw [count_snoc, if_neg hnv, Nat.add_zero]
    refine ⟨⟨List.mem_append_left _ h.1, fun x hx => ?_⟩, hcv⟩
    rw [hcv]
    by_cases e : n = x
    · subst e
      have := hn v h.1
      rcases Nat.lt_or_ge ((L ++ [n]).count n) (L.count v) with h1 | h1
      · exact .inl h1
      · exact .inr ⟨by omega, this⟩
    · rw [count_snoc, if_neg e, Nat.add_zero]
      rcases List.mem_append.1 hx with hx | hx
      · exact h.2 x hx
      · exact absurd (List.mem_singleton.1 hx).symm e
theorem IsBest.first (n : Int) : IsBest [n] n := ⟨by simp, fun x hx => by rw [List.mem_singleton.1 hx]; exact .inr ⟨rfl, Int.le_refl _⟩⟩
/-- Behind numbers that do not fall: how often the last one is there. -/
theorem run_same {L : List Int} {n : Int} : (L ++ [n]).count n = L.count n + 1 := by rw [count_snoc, if_pos rfl]
theorem run_new {L : List Int} {n m : Int} (hs : ∀ x ∈ L, x ≤ m) (hm : m < n) : (L ++ [n]).count n = 1 := by
  rw [count_snoc, if_pos rfl]
  have : L.count n = 0 := List.count_eq_zero.2 (fun hx => by have := hs n hx; omega)
  omega
/-- The law's own way: one by one, in any order. -/
def bestF (L : List Int) (st : Int × Nat) (y : Int) : Int × Nat := if st.2 < L.count y ∨ (L.count y = st.2 ∧ y < st.1) then (y, L.count y) else st
theorem snoc_ind {p : List Int → Prop} (h0 : p []) (h1 : ∀ P y, p P → p (P ++ [y])) (P : List Int) : p P := by
  have : ∀ Q : List Int, p Q.reverse := by
    intro Q
    induction Q with
    | nil => exact h0
    | cons a Q ih => rw [List.reverse_cons]; exact h1 _ _ ih
  have h := this P.reverse
  rwa [List.reverse_reverse] at h
theorem bestF_is (L : List Int) (d : Int) : ∀ (P : List Int), (∀ x ∈ P, x ∈ L) → P ≠ [] → (P.foldl (bestF L) (d, 0)).1 ∈ P ∧ (P.foldl (bestF L) (d, 0)).2 = L.count (P.foldl (bestF L) (d, 0)).1 ∧ ∀ x ∈ P, L.count x < (P.foldl (bestF L) (d, 0)).2 ∨ (L.count x = (P.foldl (bestF L) (d, 0)).2 ∧ (P.foldl (bestF L) (d, 0)).1 ≤ x) := by
  intro P
  refine snoc_ind (p := fun P => (∀ x ∈ P, x ∈ L) → P ≠ [] → (P.foldl (bestF L) (d, 0)).1 ∈ P ∧ (P.foldl (bestF L) (d, 0)).2 = L.count (P.foldl (bestF L) (d, 0)).1 ∧ ∀ x ∈ P, L.count x < (P.foldl (bestF L) (d, 0)).2 ∨ (L.count x = (P.foldl (bestF L) (d, 0)).2 ∧ (P.foldl (bestF L) (d, 0)).1 ≤ x)) ?_ ?_ P
  · intro _ h; exact absurd rfl h
  · intro P y ih hsub _
    rw [List.foldl_append, List.foldl_cons, List.foldl_nil]
    have hy : 0 < L.count y := List.count_pos_iff.2 (hsub y (by simp))
    by_cases hP : P = []
    · subst hP
      have e : bestF L (List.foldl (bestF L) (d, 0) []) y = (y, L.count y) := by
        unfold bestF
        rw [if_pos (.inl hy)]
      rw [e]
      exact ⟨by simp, rfl, fun x hx => by simp at hx; subst hx; exact .inr ⟨rfl, Int.le_refl _⟩⟩
    · obtain ⟨h1, h2, h3⟩ := ih (fun x hx => hsub x (List.mem_append_left _ hx)) hP
      generalize P.foldl (bestF L) (d, 0) = st at h1 h2 h3
      unfold bestF
      split
      · rename_i hc
        refine ⟨by simp, rfl, fun x hx => ?_⟩
        rcases List.mem_append.1 hx with hx | hx
        · rcases h3 x hx with g | ⟨g1, g2⟩
          · left
            show L.count x < L.count y
            rcases hc with hc | hc <;> omega
          · rcases hc with hc | hc
            · left
              show L.count x < L.count y
              omega
            · right
              exact ⟨by show L.count x = L.count y; omega, by show y ≤ x; omega⟩
        · rw [List.mem_singleton.1 hx]
          exact .inr ⟨rfl, Int.le_refl _⟩
      · rename_i hc
        refine ⟨List.mem_append_left _ h1, h2, fun x hx => ?_⟩
        rcases List.mem_append.1 hx with hx | hx
        · exact h3 x hx
        · rw [List.mem_singleton.1 hx]
          have c1 : ¬ st.2 < L.count y := fun h => hc (.inl h)
          have c2 : ¬ (L.count y = st.2 ∧ y < st.1) := fun h => hc (.inr h)
          rcases Nat.lt_or_ge (L.count y) st.2 with g | g
          · exact .inl g
          · exact .inr ⟨by omega, by
              apply Classical.byContradiction
              intro h
              exact c2 ⟨by omega, by omega⟩⟩
theorem best_law {L : List Int} (hL : L ≠ []) (d : Int) : IsBest L (L.foldl (bestF L) (d, 0)).1 := by
  obtain ⟨h1, h2, h3⟩ := bestF_is L d L (fun _ h => h) hL
  refine ⟨h1, fun x hx => ?_⟩
  rw [← h2]
  exact h3 x hx
end Go.Proofs.Ytfidojdolbmjdaa
