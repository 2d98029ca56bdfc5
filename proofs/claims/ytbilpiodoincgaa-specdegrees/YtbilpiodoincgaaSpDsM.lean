import Derived.Test.YtbilpiodoincgaaSpDmM
import Derived.Test.YtbilpiodoincgaaGrClone2M
import Derived.Test.YtbilpiodoincgaaGrThereM
/- SpecDegrees: sums. -/
namespace Go.Proofs.Ytbilpiodoincgaa
open Go.RowKit Go.Shelf
attribute [local go_sem] Oper.semAt_some
theorem sumE_evs (G : List Vx) (hl : G.length ≤ 256) (hok : ∀ v ∈ G, v.ok) : ∀ k, k ≤ G.length → sumE (G.take k) = (evs (G.take k)).length ∧ (evs (G.take k)).length ≤ k * 8796093022208
  | 0, _ => by simp [sumE, evs]
  | k + 1, h => by
    obtain ⟨ih, ib⟩ := sumE_evs G hl hok k (by omega)
    have hk := (hok _ (List.getElem_mem (show k < G.length by omega))).len
    have e : (evs (G.take (k + 1))).length = (evs (G.take k)).length + G[k].es.length := by rw [evs_snoc G k (by omega)]; simp
    refine ⟨?_, by omega⟩
    rw [sumE_snoc G k (by omega), ih, e]
    unfold wrap64
    omega
theorem evs_few {G : List Vx} (hc : chk G = 0) (hok : ∀ v ∈ G, v.ok) : (evs G).length ≤ 2048 := by
  obtain ⟨hl, _⟩ := rise_of hc
  obtain ⟨h1, _⟩ := sumE_evs G hl hok G.length (Nat.le_refl _)
  rw [List.take_length] at h1
  unfold chk at hc
  split at hc
  · cases hc
  · split at hc
    · cases hc
    · rename_i h2
      have : ¬ 2048 < sumE G := fun h => h2 (Or.inl h)
      omega
theorem toN_le (l : List (Int × Ed)) (x : Int) : toN l x ≤ l.length := List.countP_le_length
theorem toN_app (a b : List (Int × Ed)) (x : Int) : toN (a ++ b) x = toN a x + toN b x := List.countP_append
theorem evs_take_le (G : List Vx) (k : Nat) : (evs (G.take k)).length ≤ (evs G).length := by
  have h : evs G = evs (G.take k) ++ evs (G.drop k) := by
    unfold evs
    rw [← List.flatMap_append, List.take_append_drop]
  rw [h, List.length_append]
  omega
theorem es_le {G : List Vx} {j : Nat} (h : j < G.length) : G[j].es.length ≤ (evs G).length := by
  have h1 := evs_take_le G (j + 1)
  rw [evs_snoc G j h, List.length_append, List.length_map] at h1
  omega
def sumD (G : List Vx) (j : Nat) : Nat := ((G.take j).map (degV G)).sum
theorem sumD_succ {G : List Vx} {j : Nat} (h : j < G.length) : sumD G (j + 1) = sumD G j + degV G G[j] := by
  unfold sumD
  rw [List.take_add_one, List.getElem?_eq_getElem h]
  simp only [Option.toList_some, List.map_append, List.map_cons, List.map_nil, List.sum_append, List.sum_cons, List.sum_nil, Nat.add_zero]
theorem sumD_le {G : List Vx} (hE : (evs G).length ≤ 2048) : ∀ j, j ≤ G.length → sumD G j ≤ j * 4096
  | 0, _ => by simp [sumD]
  | j + 1, h => by
    have := sumD_le hE j (by omega)
    have h1 := es_le (show j < G.length by omega)
    have h2 := toN_le (evs G) G[j].id
    rw [sumD_succ (by omega)]
    unfold degV
    omega
theorem prs_in (n : Nat) (O : List (List Ed)) (hO : ∀ l ∈ O, ∀ e ∈ l, 0 ≤ e.t ∧ e.t < n) : ∀ i, i + O.length ≤ n → ∀ p ∈ prs i O, p.1 < n ∧ p.2 < n := by
  induction O with
  | nil => intro i _ p hp; simp [prs] at hp
  | cons l O ih =>
    intro i hi p hp
    rw [List.length_cons] at hi
    rw [prs, List.mem_append] at hp
    rcases hp with hp | hp
    · obtain ⟨e, he, rfl⟩ := List.mem_map.1 hp
      have := hO l (List.mem_cons_self ..) e he
      exact ⟨by show i < n; omega, by show e.t.toNat < n; omega⟩
    · exact ih (fun l' hl' => hO l' (List.mem_cons_of_mem _ hl')) (i + 1) (by omega) p hp
theorem sumD_all {G : List Vx} (hr : Rise (ids G)) (hth : thereE G = true) : sumD G G.length = 2 * (evs G).length := by
  have h1 := deg_all G.length (prs 0 (G.map (rowO (ids G)))) (prs_in _ _ (outIn hr hth) 0 (by simp))
  rw [prs_len, outSum] at h1
  rw [← h1]
  unfold sumD
  rw [List.take_length]
  congr 1
  have h2 := deg_tab hr hth
  apply List.ext_getElem?
  intro j
  by_cases hj : j < G.length
  · have h3 := tabP_at (prs 0 (G.map (rowO (ids G)))) hj
    rw [h2, List.getElem?_map, List.getElem?_eq_getElem hj] at h3
    rw [List.getElem?_map, List.getElem?_eq_getElem hj]
    simp [hj] at h3 ⊢
    exact_mod_cast h3
  · rw [List.getElem?_eq_none (by simp; omega), List.getElem?_eq_none (by simp; omega)]
end Go.Proofs.Ytbilpiodoincgaa
