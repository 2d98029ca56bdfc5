/- Partitions in turn, plain: which places a worker has, and how many. -/
import Derived.Test.YtipopaicehimeaaPlF2
namespace Go.Proofs.Ytipopaicehimeaa
open Go
theorem plcs_at {A : List Int} {x : Int} {n i : Nat} (h : i < (plcs A x n).length) : ∃ o : Nat, (plcs A x n)[i] = (o : Int) ∧ o < n ∧ A[o]? = some x := by
  have hm := List.getElem_mem h
  unfold plcs at hm
  obtain ⟨o, ho, e⟩ := List.mem_map.1 hm
  rw [List.mem_filter, List.mem_range] at ho
  exact ⟨o, e.symm, ho.1, by simpa using ho.2⟩
theorem plcs_rise (A : List Int) (x : Int) (n : Nat) : (plcs A x n).Pairwise (· < ·) := by
  unfold plcs
  refine List.pairwise_map.2 ?_
  refine (List.Pairwise.filter _ List.pairwise_lt_range).imp ?_
  intro a b h
  omega
theorem turn_at {R : List Int} {p i : Nat} (hi : i < p) : (turnP R p p)[i]? = some (R.getD (i % R.length) 0) := by
  unfold turnP
  rw [List.getElem?_map, List.getElem?_range hi]
  simp [hi]
theorem div_step {n m k : Nat} (hk : k < m) : (n + 1 + (m - 1 - k)) / m = (n + (m - 1 - k)) / m + (if n % m = k then 1 else 0) := by
  have hm : 0 < m := by omega
  have hr := Nat.mod_lt n hm
  have hd := Nat.div_add_mod n m
  generalize n / m = q at hd
  generalize n % m = r at hd hr
  subst hd
  have e1 : ∀ z, m * q + r + z + (m - 1 - k) = (r + z + (m - 1 - k)) + m * q := fun z => by omega
  have e2 := e1 1
  have e3 := e1 0
  rw [Nat.add_zero, Nat.add_zero] at e3
  rw [e2, e3, Nat.add_mul_div_left _ _ hm, Nat.add_mul_div_left _ _ hm]
  by_cases h1 : r = k
  · subst h1
    rw [if_pos rfl, show r + 1 + (m - 1 - r) = m by omega, show r + (m - 1 - r) = m - 1 by omega, Nat.div_self hm, Nat.div_eq_of_lt (by omega)]
    omega
  · rw [if_neg h1]
    by_cases h2 : r < k
    · rw [Nat.div_eq_of_lt (show r + 1 + (m - 1 - k) < m by omega), Nat.div_eq_of_lt (show r + (m - 1 - k) < m by omega)]
      omega
    · have h3 : ∀ y, m ≤ y → y < 2 * m → y / m = 1 := fun y h4 h5 => by
        rw [Nat.div_eq_iff hm]
        omega
      rw [h3 _ (by omega) (by omega), h3 _ (by omega) (by omega)]
      omega
theorem plcs_count {R : List Int} (hR : RiseI R) {p k : Nat} (hk : k < R.length) : ∀ n, n ≤ p → (plcs (turnP R p p) R[k] n).length = (n + (R.length - 1 - k)) / R.length := by
  intro n
  induction n with
  | zero =>
    intro _
    rw [Nat.div_eq_of_lt (by omega)]
    rfl
  | succ n ih =>
    intro hn
    rw [plcs_succ, List.length_append, ih (by omega), div_step hk, turn_at (by omega)]
    congr 1
    have hm : n % R.length < R.length := Nat.mod_lt _ (by omega)
    rw [List.getD, List.getElem?_eq_getElem hm, Option.getD_some]
    by_cases h : n % R.length = k
    · rw [if_pos h]
      have e : R[n % R.length] = R[k] := by simp only [h]
      rw [if_pos (by rw [e])]
      rfl
    · rw [if_neg h, if_neg ?_]
      · rfl
      · intro e
        have e2 := Option.some.inj e
        rcases Nat.lt_or_gt_of_ne h with h2 | h2
        · have := rise_lt hR hk h2; omega
        · have := rise_lt hR hm h2; omega
theorem plcs_between {R : List Int} (hR : RiseI R) {p k : Nat} (hk : k < R.length) : p / R.length ≤ (plcs (turnP R p p) R[k] p).length ∧ (plcs (turnP R p p) R[k] p).length ≤ p / R.length + 1 := by
  rw [plcs_count hR hk p (Nat.le_refl _)]
  have hm : 0 < R.length := by omega
  refine ⟨Nat.div_le_div_right (by omega), ?_⟩
  have : (p + (R.length - 1 - k)) / R.length ≤ (p + R.length) / R.length := Nat.div_le_div_right (by omega)
  rwa [Nat.add_div_right _ hm] at this
end Go.Proofs.Ytipopaicehimeaa
