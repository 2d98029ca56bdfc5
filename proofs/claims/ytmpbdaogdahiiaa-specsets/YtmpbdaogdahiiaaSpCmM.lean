import Derived.Test.YtmpbdaogdahiiaaSpLvM
/- Who leaves a core, one behind the other, on plain data. -/
namespace Go.Proofs.Ytmpbdaogdahiiaa
/-- Rows of neighbours: each once, the one of the other. -/
structure Rows2 (N : List (List Int)) (n : Nat) : Prop where
  len : N.length = n
  nod : ∀ i, i < n → (N.getD i []).Nodup
  nat : ∀ i, i < n → ∀ x ∈ N.getD i [], ∃ j : Nat, j < n ∧ x = j
  self : ∀ i, i < n → ((i : Nat) : Int) ∉ N.getD i []
  sym : ∀ i j, i < n → j < n → ((j : Nat) : Int) ∈ N.getD i [] → ((i : Nat) : Int) ∈ N.getD j []
/-- How many neighbours are not among those that have left. -/
def cntC (N : List (List Int)) (R : List Nat) (i : Nat) : Nat := (N.getD i []).countP (fun x => !R.contains x.toNat)
structure CoreI (N : List (List Int)) (n : Nat) (k : Int) (L : List Int) (R : List Nat) : Prop where
  len : L.length = n
  nod : R.Nodup
  sub : ∀ r ∈ R, r < n
  out : ∀ r ∈ R, L.getD r 0 = -1
  inn : ∀ i, i < n → i ∉ R → L.getD i 0 = cntC N R i
  chn : ∀ t (h : t < R.length), ((cntC N (R.take t) R[t] : Nat) : Int) < k
theorem lvF_at : ∀ (row : List Int) (L : List Int), row.Nodup → (∀ x ∈ row, ∃ j : Nat, x = j) → ∀ y, y < L.length → (lvF row L).getD y 0 = if ((y : Nat) : Int) ∈ row ∧ 0 ≤ L.getD y 0 then L.getD y 0 - 1 else L.getD y 0
  | [], L, _, _, y, _ => by simp [lvF]
  | x :: row, L, hn, hx, y, hy => by
    obtain ⟨t, rfl⟩ := hx x (List.mem_cons_self ..)
    have hn' := List.nodup_cons.1 hn
    have ih := lvF_at row (lvOne L t) hn'.2 (fun z hz => hx z (List.mem_cons_of_mem _ hz)) y (by rw [lvOne_len]; exact hy)
    have e : lvF ((t : Int) :: row) L = lvF row (lvOne L t) := rfl
    rw [e, ih]
    by_cases ht : y = t
    · subst ht
      rw [if_neg (fun h => hn'.1 h.1)]
      unfold lvOne
      rw [Int.toNat_natCast]
      by_cases h0 : 0 ≤ L.getD y 0
      · rw [if_pos h0, gd_eq _ hy, if_pos ⟨List.mem_cons_self .., h0⟩]
      · rw [if_neg h0, if_neg (fun h => h0 h.2)]
    · have e1 : (lvOne L (t : Int)).getD y 0 = L.getD y 0 := by
        unfold lvOne
        rw [Int.toNat_natCast]
        split
        · exact gd_ne _ ht
        · rfl
      have e2 : ((y : Nat) : Int) ∈ (t : Int) :: row ↔ ((y : Nat) : Int) ∈ row := by
        rw [List.mem_cons]
        constructor
        · rintro (h | h)
          · omega
          · exact h
        · exact .inr
      rw [e1]
      simp only [e2]
theorem cnt_snoc (R : List Nat) (i : Nat) (hi : i ∉ R) : ∀ (l : List Int), l.Nodup → (∀ x ∈ l, ∃ j : Nat, x = j) → l.countP (fun x => !(R ++ [i]).contains x.toNat) + (if ((i : Nat) : Int) ∈ l then 1 else 0) = l.countP (fun x => !R.contains x.toNat)
  | [], _, _ => by simp
  | x :: l, hn, hx => by
    obtain ⟨t, rfl⟩ := hx x (List.mem_cons_self ..)
    have hn' := List.nodup_cons.1 hn
    have ih := cnt_snoc R i hi l hn'.2 (fun z hz => hx z (List.mem_cons_of_mem _ hz))
    rw [List.countP_cons, List.countP_cons]
    by_cases ht : t = i
    · subst ht
      have e1 : (!(R ++ [t]).contains ((t : Nat) : Int).toNat) = false := by simp
      have e2 : (!R.contains ((t : Nat) : Int).toNat) = true := by simpa using hi
      rw [if_neg hn'.1] at ih
      rw [e1, e2, if_pos (List.mem_cons_self ..)]
      simp only [Bool.false_eq_true, if_false, if_true]
      omega
    · have e1 : (!(R ++ [i]).contains ((t : Nat) : Int).toNat) = (!R.contains ((t : Nat) : Int).toNat) := by simp [ht]
      have e2 : (((i : Nat) : Int) ∈ ((t : Nat) : Int) :: l) ↔ ((i : Nat) : Int) ∈ l := by
        rw [List.mem_cons]
        constructor
        · rintro (h | h)
          · omega
          · exact h
        · exact .inr
      rw [e1]
      simp only [e2]
      omega
theorem CoreI.step {N : List (List Int)} {n : Nat} {k : Int} {L : List Int} {R : List Nat} (hN : Rows2 N n) (h : CoreI N n k L R) {i : Nat} (hi : i < n) (h0 : 0 ≤ L.getD i 0) (hk : L.getD i 0 < k) : CoreI N n k (lvF (N.getD i []) (L.set i (-1))) (R ++ [i]) := by
  have hiR : i ∉ R := fun e => by have := h.out i e; omega
  have hsl : (L.set i (-1)).length = n := by rw [List.length_set]; exact h.len
  have hat : ∀ y, y < n → (lvF (N.getD i []) (L.set i (-1))).getD y 0 = if ((y : Nat) : Int) ∈ N.getD i [] ∧ 0 ≤ (L.set i (-1)).getD y 0 then (L.set i (-1)).getD y 0 - 1 else (L.set i (-1)).getD y 0 := fun y hy => lvF_at _ _ (hN.nod i hi) (fun x hx => by obtain ⟨j, _, e⟩ := hN.nat i hi x hx; exact ⟨j, e⟩) y (by rw [hsl]; exact hy)
  refine ⟨by rw [lvF_len]; exact hsl, ?_, ?_, ?_, ?_, ?_⟩
  · rw [List.nodup_append]
    refine ⟨h.nod, by simp, fun a ha b hb e => ?_⟩
    rw [List.mem_singleton.1 hb] at e
    exact hiR (e ▸ ha)
  · intro r hr
    rcases List.mem_append.1 hr with h1 | h1
    · exact h.sub r h1
    · rw [List.mem_singleton.1 h1]; exact hi
  · intro r hr
    rcases List.mem_append.1 hr with h1 | h1
    · have hne : r ≠ i := fun e => hiR (e ▸ h1)
      have h2 := h.out r h1
      rw [hat r (h.sub r h1), gd_ne _ hne, if_neg (fun e => by omega)]
      exact h2
    · rw [List.mem_singleton.1 h1, hat i hi, gd_eq _ (by rw [h.len]; exact hi), if_neg (fun e => by omega)]
  · intro y hy hyR
    have hy1 : y ∉ R := fun e => hyR (List.mem_append_left _ e)
    have hy2 : y ≠ i := fun e => hyR (by rw [e]; simp)
    have h1 := h.inn y hy hy1
    have h2 := cnt_snoc R i hiR (N.getD y []) (hN.nod y hy) (fun x hx => by obtain ⟨j, _, e⟩ := hN.nat y hy x hx; exact ⟨j, e⟩)
    rw [hat y hy, gd_ne _ hy2, h1]
    unfold cntC at h1 ⊢
    by_cases hm : ((y : Nat) : Int) ∈ N.getD i []
    · have hm' := hN.sym i y hi hy hm
      rw [if_pos ⟨hm, by omega⟩]
      rw [if_pos hm'] at h2
      omega
    · have hm' : ((i : Nat) : Int) ∉ N.getD y [] := fun e => hm (hN.sym y i hy hi e)
      rw [if_neg (fun e => hm e.1)]
      rw [if_neg hm'] at h2
      omega
  · intro t ht
    rw [List.length_append, List.length_singleton] at ht
    by_cases e : t = R.length
    · subst e
      have h1 := h.inn i hi hiR
      simp only [List.getElem_append_right (Nat.le_refl _), Nat.sub_self, List.getElem_singleton]
      rw [List.take_left]
      omega
    · have ht' : t < R.length := by omega
      have h1 := h.chn t ht'
      rw [List.getElem_append_left ht', List.take_append_of_le_length (by omega)]
      exact h1
/-- How long the rows are, as far as they are counted. -/
def lenF (N : List (List Int)) (n j : Nat) : List Int := (List.range n).map fun i => if i < j then ((N.getD i []).length : Int) else 0
theorem lenF_len (N : List (List Int)) (n j : Nat) : (lenF N n j).length = n := by simp [lenF]
theorem lenF_zero (N : List (List Int)) (n : Nat) : lenF N n 0 = List.replicate n 0 := by
  apply List.ext_getElem?
  intro i
  by_cases h : i < n <;> simp [lenF, h]
theorem lenF_set (N : List (List Int)) (n j : Nat) : (lenF N n j).set j ((N.getD j []).length : Int) = lenF N n (j + 1) := by
  apply List.ext_getElem?
  intro i
  rw [List.getElem?_set]
  by_cases h : i < n
  · by_cases e : j = i
    · subst e
      simp [lenF, h]
    · have : (i < j + 1) ↔ (i < j) := by omega
      simp [lenF, h, e, this]
  · by_cases e : j = i
    · subst e; simp [lenF, h]
    · simp [lenF, h, e]
theorem lenF_core (N : List (List Int)) (n : Nat) (k : Int) : CoreI N n k (lenF N n n) [] := by
  refine ⟨lenF_len N n n, List.nodup_nil, fun r hr => absurd hr (by simp), fun r hr => absurd hr (by simp), fun i hi _ => ?_, fun t ht => absurd ht (by simp)⟩
  simp [lenF, cntC, List.getD, hi]
theorem lenF_bd {N : List (List Int)} {n j : Nat} (h : ∀ i, i < n → (N.getD i []).length ≤ 4096) : ∀ y ∈ lenF N n j, -1 ≤ y ∧ y ≤ 4096 := by
  intro y hy
  obtain ⟨i, hi, rfl⟩ := List.mem_map.1 hy
  have := h i (List.mem_range.1 hi)
  split <;> omega
/-- How many are there. -/
def nnC (L : List Int) : Nat := L.countP fun x => decide (0 ≤ x)
theorem nn_set {L : List Int} {i : Nat} {x : Int} (h : i < L.length) (hx : 0 ≤ x → 0 ≤ L[i]) : nnC (L.set i x) ≤ nnC L := by
  unfold nnC
  rw [List.countP_set h]
  have hp : 0 ≤ L[i] → 0 < L.countP (fun x => decide (0 ≤ x)) := fun h0 => List.countP_pos_iff.2 ⟨_, List.getElem_mem h, by simpa using h0⟩
  by_cases h0 : 0 ≤ L[i]
  · have := hp h0
    by_cases h1 : 0 ≤ x <;> simp [h0, h1] <;> omega
  · have h1 : ¬ 0 ≤ x := fun e => h0 (hx e)
    simp [h0, h1]
theorem nn_lv : ∀ (row L : List Int), nnC (lvF row L) ≤ nnC L
  | [], _ => Nat.le_refl _
  | x :: row, L => by
    refine Nat.le_trans (nn_lv row (lvOne L x)) ?_
    unfold lvOne
    split
    · rename_i h
      by_cases hl : x.toNat < L.length
      · refine nn_set hl (fun _ => ?_)
        have : L.getD x.toNat 0 = L[x.toNat] := by simp [List.getD, hl]
        omega
      · rw [List.set_eq_of_length_le (by omega)]
        exact Nat.le_refl _
    · exact Nat.le_refl _
theorem nn_step {L : List Int} {i : Nat} (row : List Int) (h : i < L.length) (h0 : 0 ≤ L[i]) : nnC (lvF row (L.set i (-1))) < nnC L := by
  refine Nat.lt_of_le_of_lt (nn_lv row _) ?_
  unfold nnC
  rw [List.countP_set h]
  have : 0 < L.countP (fun x => decide (0 ≤ x)) := List.countP_pos_iff.2 ⟨_, List.getElem_mem h, by simpa using h0⟩
  simp [h0]
  omega
end Go.Proofs.Ytmpbdaogdahiiaa
