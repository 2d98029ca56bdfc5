import Derived.Test.YtbilpiodoincgaaSpGoodM
/- The rows of a web, out of a graph. -/
namespace Go.Proofs.Ytbilpiodoincgaa
open Go.RowKit Go.Shelf
/-- A vertex's edges, by places. -/
def rowO (I : List Int) (v : Vx) : List Ed := v.es.map fun e => ⟨(findN I e.t : Nat), e.w⟩
theorem rise_less {l : List Int} (h : Rise l) : ∀ (d i : Nat) (h' : i + d + 1 < l.length), l[i] < l[i + d + 1]
  | 0, i, h' => h i h'
  | d + 1, i, h' => by
    have h1 := rise_less h d i (by omega)
    have h2 := h (i + d + 1) (by omega)
    have e : i + (d + 1) + 1 = i + d + 1 + 1 := by omega
    simp only [e]
    omega
theorem rise_two {l : List Int} (h : Rise l) {i j : Nat} (hj : j < l.length) (hij : i < j) : l[i] < l[j] := by
  have := rise_less h (j - i - 1) i (by omega)
  have e : i + (j - i - 1) + 1 = j := by omega
  simp only [e] at this
  exact this
theorem findN_self {l : List Int} (h : Rise l) {j : Nat} (hj : j < l.length) : findN l l[j] = j :=
  findN_eq (Nat.le_of_lt hj) (fun i _ hi => rise_two h hj hi) (fun i hi hji => by
    by_cases e : i = j
    · subst e; omega
    · have := rise_two h hi (show j < i by omega)
      omega)
theorem foldA (I : List Int) (x : Int) (a : Nat) (hx : findN I x = a) : ∀ (L : List Ed) (s : List (List Ed) × List (List Int)), a < s.1.length → ((L.map fun e => (x, e)).foldl (stepW I) s).1 = s.1.set a (s.1.getD a [] ++ L.map fun e => ⟨(findN I e.t : Nat), e.w⟩)
  | [], s, h => by
    simp only [List.map_nil, List.foldl_nil, List.append_nil]
    apply List.ext_getElem?
    intro k
    rw [List.getElem?_set]
    by_cases e : a = k
    · subst e; simp [h, List.getD]
    · simp [e]
  | e :: L, s, h => by
    rw [List.map_cons, List.foldl_cons, foldA I x a hx L _ (by simp [stepW, addW, h])]
    simp only [stepW, hx, addW]
    rw [List.set_set]
    congr 1
    simp [List.getD, h]
theorem foldO {G : List Vx} (hr : Rise (ids G)) : ∀ j, j ≤ G.length → (foldW (ids G) G.length (evs (G.take j))).1 = (G.take j).map (rowO (ids G)) ++ List.replicate (G.length - j) []
  | 0, _ => by simp [evs, foldW]
  | j + 1, h => by
    have hj : j < G.length := by omega
    have ih := foldO hr j (by omega)
    have hid : findN (ids G) G[j].id = j := by
      have hji : j < (ids G).length := by rw [ids_len]; exact hj
      have := findN_self hr hji
      have e : (ids G)[j] = G[j].id := by simp [ids]
      rw [e] at this
      exact this
    rw [evs_snoc G j hj]
    unfold foldW at ih ⊢
    rw [List.foldl_append, foldA (ids G) G[j].id j hid _ _ (by rw [ih]; simp; omega), ih]
    have e1 : ((G.take j).map (rowO (ids G))).length = j := by simp; omega
    have e2 : List.replicate (G.length - j) ([] : List Ed) = [] :: List.replicate (G.length - (j + 1)) [] := by
      rw [← List.replicate_succ]; congr 1; omega
    rw [e2]
    have e3 : ((G.take j).map (rowO (ids G)) ++ [] :: List.replicate (G.length - (j + 1)) []).getD j [] = [] := by
      rw [List.getD, List.getElem?_append_right (by omega), e1]; simp
    rw [e3, List.set_append_right _ _ (by omega), e1, Nat.sub_self, List.set_cons_zero, List.nil_append, List.take_add_one, List.getElem?_eq_getElem hj]
    simp only [Option.toList_some, List.map_append, List.map_cons, List.map_nil, List.append_assoc, List.cons_append, List.nil_append]
    rfl
theorem outRows {G : List Vx} (hr : Rise (ids G)) : (foldW (ids G) G.length (evs G)).1 = G.map (rowO (ids G)) := by
  have := foldO hr G.length (Nat.le_refl _)
  rw [List.take_length] at this
  simpa using this
theorem outSum (I : List Int) : ∀ G : List Vx, ((G.map (rowO I)).map List.length).sum = (evs G).length
  | [] => rfl
  | v :: G => by
    have := outSum I G
    unfold evs at this ⊢
    simp [rowO] at this ⊢
    omega
theorem outIn {G : List Vx} (hr : Rise (ids G)) (hth : thereE G = true) : ∀ l ∈ G.map (rowO (ids G)), ∀ e ∈ l, 0 ≤ e.t ∧ e.t < G.length := by
  intro l hl e he
  obtain ⟨v, hv, rfl⟩ := List.mem_map.1 hl
  obtain ⟨d, hd, rfl⟩ := List.mem_map.1 he
  have h1 : (v.id, d) ∈ evs G := List.mem_flatMap.2 ⟨v, hv, List.mem_map.2 ⟨d, hd, rfl⟩⟩
  have h2 := (found_mem hr (ev_ids h1 hth).2).2
  rw [ids_len] at h2
  exact ⟨by simp, by simpa using h2⟩
/-- How many edges lead to a vertex. -/
def toN (l : List (Int × Ed)) (x : Int) : Nat := l.countP fun p => decide (p.2.t = x)
theorem prs_fst (O : List (List Ed)) (j : Nat) : ∀ i, (prs i O).countP (fun p => p.1 == j) = if i ≤ j then (O.getD (j - i) []).length else 0 := by
  induction O with
  | nil => intro i; simp [prs]
  | cons l O ih =>
    intro i
    have h1 : (l.map fun e => (i, e.t.toNat)).countP (fun p => p.1 == j) = if i = j then l.length else 0 := by
      rw [List.countP_map]
      by_cases e : i = j
      · subst e; simp [Function.comp_def]
      · simp [Function.comp_def, e]
    rw [prs, List.countP_append, h1, ih (i + 1)]
    by_cases e : i = j
    · subst e
      rw [if_pos rfl, if_neg (by omega), if_pos (Nat.le_refl _)]
      simp
    · by_cases h : i ≤ j
      · have e2 : j - i = (j - (i + 1)) + 1 := by omega
        rw [if_neg e, if_pos (by omega), if_pos h, e2, Nat.zero_add]
        simp
      · rw [if_neg e, if_neg (by omega), if_neg h]
theorem prs_snd (I : List Int) (j : Nat) : ∀ (G : List Vx) i, (prs i (G.map (rowO I))).countP (fun p => p.2 == j) = (evs G).countP (fun p => decide (findN I p.2.t = j)) := by
  intro G
  induction G with
  | nil => intro i; rfl
  | cons v G ih =>
    intro i
    have h0 : evs (v :: G) = (v.es.map fun e => (v.id, e)) ++ evs G := by unfold evs; rfl
    rw [List.map_cons, prs, List.countP_append, ih (i + 1), h0, List.countP_append]
    congr 1
    unfold rowO
    rw [List.map_map, List.countP_map, List.countP_map]
    apply List.countP_congr
    intro e _
    simp [Function.comp_def]
theorem toN_find {G : List Vx} (hr : Rise (ids G)) (hth : thereE G = true) {j : Nat} (hj : j < G.length) : (evs G).countP (fun p => decide (findN (ids G) p.2.t = j)) = toN (evs G) G[j].id := by
  unfold toN
  apply List.countP_congr
  intro p hp
  have hji : j < (ids G).length := by rw [ids_len]; exact hj
  have e : (ids G)[j] = G[j].id := by simp [ids]
  have hm := (ev_ids hp hth).2
  obtain ⟨k, hk, hke⟩ := List.getElem_of_mem hm
  simp only [decide_eq_true_eq]
  constructor
  · intro h
    rw [← hke, findN_self hr hk] at h
    subst h
    rw [← hke]
    exact e
  · intro h
    rw [h, ← e, findN_self hr hji]
/-- A vertex's degree. -/
def degV (G : List Vx) (v : Vx) : Nat := v.es.length + toN (evs G) v.id
theorem deg_tab {G : List Vx} (hr : Rise (ids G)) (hth : thereE G = true) : tabP G.length (prs 0 (G.map (rowO (ids G)))) = G.map fun v => (degV G v : Int) := by
  apply List.ext_getElem?
  intro j
  by_cases hj : j < G.length
  · rw [tabP_at _ hj, List.getElem?_map, List.getElem?_eq_getElem hj]
    simp only [Option.map_some]
    congr 2
    unfold cntP degV
    rw [prs_fst, prs_snd, toN_find hr hth hj, if_pos (Nat.zero_le _)]
    simp [List.getD, hj, rowO]
  · rw [List.getElem?_eq_none (by rw [tabP_len]; omega), List.getElem?_eq_none (by simp; omega)]
theorem sum_ind (n k : Nat) (hk : k < n) : ((List.range n).map fun j => if k = j then 1 else 0).sum = 1 := by
  induction n with
  | zero => omega
  | succ n ih =>
    rw [List.range_succ, List.map_append, List.sum_append]
    by_cases e : k = n
    · subst e
      have h0 : ((List.range k).map fun j => if k = j then 1 else 0).sum = 0 := by
        rw [List.sum_eq_zero_iff_forall_eq_nat]
        intro x hx
        obtain ⟨j, hj, rfl⟩ := List.mem_map.1 hx
        rw [List.mem_range] at hj
        rw [if_neg (by omega)]
      rw [h0]
      simp
    · rw [ih (by omega)]
      simp [e]
theorem sum_add (L : List Nat) (f g : Nat → Nat) : (L.map fun j => f j + g j).sum = (L.map f).sum + (L.map g).sum := by
  induction L with
  | nil => rfl
  | cons a L ih => simp only [List.map_cons, List.sum_cons, ih]; omega
theorem deg_all (n : Nat) : ∀ (ps : List (Nat × Nat)), (∀ p ∈ ps, p.1 < n ∧ p.2 < n) → ((List.range n).map fun j => cntP ps j).sum = 2 * ps.length
  | [], _ => by
    have : (fun j => cntP [] j) = fun _ => 0 := by funext j; simp [cntP]
    rw [this, List.map_const', List.sum_replicate_nat]
    simp
  | p :: ps, h => by
    have e : (fun j => cntP (p :: ps) j) = fun j => cntP ps j + ((if p.1 = j then 1 else 0) + (if p.2 = j then 1 else 0)) := by
      funext j
      unfold cntP
      simp only [List.countP_cons, beq_iff_eq]
      omega
    obtain ⟨h1, h2⟩ := h p (List.mem_cons_self ..)
    rw [e, sum_add, sum_add, deg_all n ps (fun q hq => h q (List.mem_cons_of_mem _ hq)), sum_ind n p.1 h1, sum_ind n p.2 h2, List.length_cons]
    omega
end Go.Proofs.Ytbilpiodoincgaa
