import Derived.Test.YtmpbdaogdahiiaaSpWvM
/- What the rows of neighbours hold, in the graph's words. -/
namespace Go.Proofs.Ytmpbdaogdahiiaa
open Go.RowKit Go.Sort
theorem mem_addW {L : List (List Int)} {i k : Nat} {x y : Int} (hi : i < L.length) (hk : k < L.length) : y ∈ (addW L i x).getD k [] ↔ (k = i ∧ y = x) ∨ y ∈ L.getD k [] := by
  unfold addW
  by_cases e : k = i
  · subst e
    simp [List.getD, hk]
    constructor
    · rintro (h | h)
      · exact .inr h
      · exact .inl h
    · rintro (h | h)
      · exact .inr h
      · exact .inl h
  · rw [List.getD, List.getElem?_set_ne (fun h => e h.symm)]
    constructor
    · intro h
      exact .inr h
    · rintro (⟨h, _⟩ | h)
      · exact absurd h e
      · exact h
/-- An edge makes two vertices neighbours. -/
def edgeN (I : List Int) (i : Nat) (y : Int) (x : Int × Ed) : Prop := findN I x.1 ≠ findN I x.2.t ∧ ((findN I x.1 = i ∧ y = (findN I x.2.t : Nat)) ∨ (findN I x.2.t = i ∧ y = (findN I x.1 : Nat)))
theorem mem_foldW {I : List Int} {n i : Nat} {y : Int} (hi : i < n) (l : List (Int × Ed)) (hl : ∀ x ∈ l, findN I x.1 < n ∧ findN I x.2.t < n) (s : List (List Ed) × List (List Int)) (h1 : s.1.length = n) (h2 : s.2.length = n) : y ∈ (l.foldl (stepW I) s).2.getD i [] ↔ (∃ x ∈ l, edgeN I i y x) ∨ y ∈ s.2.getD i [] := by
  induction l generalizing s with
  | nil => simp
  | cons x r ih =>
    obtain ⟨hx1, hx2⟩ := hl x List.mem_cons_self
    have hlen := foldW_len I n [x] s h1 h2
    rw [List.foldl_cons, ih (fun z hz => hl z (List.mem_cons_of_mem _ hz)) (stepW I s x) hlen.1 hlen.2]
    have hst : y ∈ (stepW I s x).2.getD i [] ↔ edgeN I i y x ∨ y ∈ s.2.getD i [] := by
      unfold stepW edgeN
      by_cases e : findN I x.1 = findN I x.2.t
      · simp only [e, if_true]
        simp
      · simp only [if_neg e]
        rw [mem_addW (by rw [addW_len, h2]; exact hx2) (by rw [addW_len, h2]; exact hi), mem_addW (by rw [h2]; exact hx1) (by rw [h2]; exact hi)]
        constructor
        · rintro (⟨a, b⟩ | ⟨a, b⟩ | h)
          · exact .inl ⟨e, .inr ⟨a.symm, b⟩⟩
          · exact .inl ⟨e, .inl ⟨a.symm, b⟩⟩
          · exact .inr h
        · rintro (⟨_, ⟨a, b⟩ | ⟨a, b⟩⟩ | h)
          · exact .inr (.inl ⟨a.symm, b⟩)
          · exact .inl ⟨a.symm, b⟩
          · exact .inr (.inr h)
    rw [hst]
    constructor
    · rintro (⟨z, hz, he⟩ | h | h)
      · exact .inl ⟨z, List.mem_cons_of_mem _ hz, he⟩
      · exact .inl ⟨x, List.mem_cons_self, h⟩
      · exact .inr h
    · rintro (⟨z, hz, he⟩ | h)
      · rcases List.mem_cons.1 hz with rfl | hz
        · exact .inr (.inl he)
        · exact .inl ⟨z, hz, he⟩
      · exact .inr (.inr h)
/-- Two vertices are neighbours, in either direction. -/
def nearP (G : List Vx) (i j : Nat) : Prop := i ≠ j ∧ ((∃ (hi : i < G.length) (hj : j < G.length), ∃ e ∈ G[i].es, e.t = G[j].id) ∨ ∃ (hi : i < G.length) (hj : j < G.length), ∃ e ∈ G[j].es, e.t = G[i].id)
theorem mem_evs {G : List Vx} {x : Int × Ed} : x ∈ evs G ↔ ∃ (a : Nat) (ha : a < G.length), x.1 = G[a].id ∧ x.2 ∈ G[a].es := by
  unfold evs
  rw [List.mem_flatMap]
  constructor
  · rintro ⟨v, hv, hx⟩
    obtain ⟨e, he, rfl⟩ := List.mem_map.1 hx
    obtain ⟨a, ha, rfl⟩ := List.mem_iff_getElem.1 hv
    exact ⟨a, ha, rfl, he⟩
  · rintro ⟨a, ha, h1, h2⟩
    exact ⟨G[a], List.getElem_mem ha, List.mem_map.2 ⟨x.2, h2, by rw [← h1]⟩⟩
theorem id_at {G : List Vx} (hr : Rise (ids G)) {a : Nat} (ha : a < G.length) : findN (ids G) G[a].id = a := by
  have hl : a < (ids G).length := by rw [ids_len]; exact ha
  have := findN_eq (l := ids G) (x := (ids G)[a]) (Nat.le_of_lt hl) (fun i _ hi => hr.lt a i hl hi) (fun i hi hji => by
    by_cases e : i = a
    · subst e; omega
    · have := hr.lt i a hi (by omega)
      omega)
  rw [ids_get G a ha] at this
  exact this
theorem end_at {G : List Vx} (hr : Rise (ids G)) (hth : thereE G = true) {a : Nat} (ha : a < G.length) {e : Ed} (he : e ∈ G[a].es) : ∃ (b : Nat) (hb : b < G.length), e.t = G[b].id ∧ findN (ids G) e.t = b := by
  unfold thereE at hth
  have h1 := List.all_eq_true.1 (List.all_eq_true.1 hth G[a] (List.getElem_mem ha)) e he
  have h2 : e.t ∈ ids G := by simpa using h1
  obtain ⟨v, hv, hid⟩ := List.mem_map.1 h2
  obtain ⟨b, hb, rfl⟩ := List.mem_iff_getElem.1 hv
  exact ⟨b, hb, hid.symm, by rw [← hid]; exact id_at hr hb⟩
/-- Who stands in a row of neighbours. -/
theorem near_mem {G : List Vx} (hr : Rise (ids G)) (hth : thereE G = true) {i : Nat} (hi : i < G.length) (y : Int) : y ∈ (foldW (ids G) G.length (evs G)).2.getD i [] ↔ ∃ j : Nat, y = (j : Int) ∧ nearP G i j := by
  have hl : ∀ x ∈ evs G, findN (ids G) x.1 < G.length ∧ findN (ids G) x.2.t < G.length := by
    intro x hx
    obtain ⟨a, ha, h1, h2⟩ := mem_evs.1 hx
    obtain ⟨b, hb, _, h4⟩ := end_at hr hth ha h2
    rw [h1, id_at hr ha, h4]
    exact ⟨ha, hb⟩
  unfold foldW
  rw [mem_foldW hi (evs G) hl _ (by simp) (by simp)]
  have e0 : y ∉ (List.replicate G.length ([] : List Int)).getD i [] := by simp [List.getD, hi]
  constructor
  · rintro (⟨x, hx, hne, h⟩ | h)
    · obtain ⟨a, ha, h1, h2⟩ := mem_evs.1 hx
      obtain ⟨b, hb, h3, h4⟩ := end_at hr hth ha h2
      rw [h1, id_at hr ha, h4] at hne h
      rcases h with ⟨rfl, rfl⟩ | ⟨rfl, rfl⟩
      · exact ⟨b, rfl, hne, .inl ⟨ha, hb, x.2, h2, h3⟩⟩
      · exact ⟨a, rfl, fun e => hne e.symm, .inr ⟨hb, ha, x.2, h2, h3⟩⟩
    · exact absurd h e0
  · rintro ⟨j, rfl, hne, h⟩
    left
    rcases h with ⟨h1, h2, e, he, ht⟩ | ⟨h1, h2, e, he, ht⟩
    · refine ⟨(G[i].id, e), mem_evs.2 ⟨i, h1, rfl, he⟩, ?_⟩
      unfold edgeN
      simp only
      rw [id_at hr h1, ht, id_at hr h2]
      exact ⟨hne, .inl ⟨rfl, rfl⟩⟩
    · refine ⟨(G[j].id, e), mem_evs.2 ⟨j, h2, rfl, he⟩, ?_⟩
      unfold edgeN
      simp only
      rw [id_at hr h2, ht, id_at hr h1]
      exact ⟨fun x => hne x.symm, .inr ⟨rfl, rfl⟩⟩
theorem mem_upTo {d : Array Int} {m : Nat} {y : Int} : y ∈ Lib.compactUpTo d m ↔ ∃ i, i < m ∧ d[i]! = y := by
  unfold Lib.compactUpTo
  constructor
  · intro h
    obtain ⟨i, hi, rfl⟩ := List.mem_map.1 h
    exact ⟨i, List.mem_range.1 (List.mem_filter.1 hi).1, rfl⟩
  · rintro ⟨i, hi, rfl⟩
    induction i with
    | zero => exact List.mem_map.2 ⟨0, List.mem_filter.2 ⟨List.mem_range.2 hi, by simp [Lib.keeps]⟩, rfl⟩
    | succ i ih =>
      by_cases e : d[i + 1]! = d[i]!
      · rw [e]
        exact ih (by omega)
      · exact List.mem_map.2 ⟨i + 1, List.mem_filter.2 ⟨List.mem_range.2 hi, by simp [Lib.keeps, e]⟩, rfl⟩
theorem mem_nearL {l : List Int} {y : Int} : y ∈ nearL l ↔ y ∈ l := by
  unfold nearL Lib.compact
  rw [mem_upTo]
  have hm : y ∈ srt l ↔ y ∈ l := (List.mergeSort_perm l _).mem_iff
  rw [← hm]
  constructor
  · rintro ⟨i, hi, rfl⟩
    have : (srt l).toArray[i]! = (srt l)[i] := by simp [hi]
    rw [this]
    exact List.getElem_mem hi
  · intro h
    obtain ⟨i, hi, rfl⟩ := List.mem_iff_getElem.1 h
    exact ⟨i, hi, by simp [hi]⟩
theorem srt_le (l : List Int) {i j : Nat} (hj : j < (srt l).length) (hij : i ≤ j) : (srt l)[i] ≤ (srt l)[j] := by
  have hp := List.pairwise_mergeSort (le := fun x y : Int => decide (x ≤ y)) (fun a b c h1 h2 => by simp at *; omega) (fun a b => by simp; omega) l
  rcases Nat.lt_or_eq_of_le hij with h | rfl
  · have := List.pairwise_iff_getElem.1 hp i j (by show i < (srt l).length; omega) hj h
    exact of_decide_eq_true this
  · exact Int.le_refl _
/-- A row of neighbours rises. -/
theorem nearL_rise (l : List Int) : (nearL l).Pairwise (· < ·) := by
  unfold nearL Lib.compact Lib.compactUpTo
  refine List.pairwise_map.2 ?_
  have hr : ((List.range (srt l).length).filter (Lib.keeps (srt l).toArray)).Pairwise (fun a b => a < b) := List.Pairwise.filter _ List.pairwise_lt_range
  refine List.Pairwise.imp_of_mem ?_ hr
  intro a b ha hb hab
  obtain ⟨_, hk⟩ := List.mem_filter.1 hb
  have hbl := List.mem_range.1 (List.mem_filter.1 hb).1
  have hkk : (srt l).toArray[b]! ≠ (srt l).toArray[b - 1]! := by
    rcases of_decide_eq_true hk with h | h
    · omega
    · exact h
  have e1 : (srt l).toArray[b]! = (srt l)[b] := by simp [hbl]
  have e2 : (srt l).toArray[b - 1]! = (srt l)[b - 1] := by simp [show b - 1 < (srt l).length by omega]
  have e3 : (srt l).toArray[a]! = (srt l)[a] := by simp [show a < (srt l).length by omega]
  rw [e1, e2] at hkk
  rw [e1, e3]
  have h1 := srt_le l (i := b - 1) (j := b) hbl (by omega)
  have h2 := srt_le l (i := a) (j := b - 1) (by omega) (by omega)
  omega
/-- Two vertices are neighbours, as a truth. -/
def nearD (G : List Vx) (a b : Nat) : Bool := decide (a ≠ b) && ((G.getD a ⟨0, 0, []⟩).es.any (fun e => e.t == (G.getD b ⟨0, 0, []⟩).id) || (G.getD b ⟨0, 0, []⟩).es.any (fun e => e.t == (G.getD a ⟨0, 0, []⟩).id))
theorem nearD_iff {G : List Vx} {a b : Nat} (ha : a < G.length) (hb : b < G.length) : nearD G a b = true ↔ nearP G a b := by
  unfold nearD nearP
  simp only [List.getD, List.getElem?_eq_getElem ha, List.getElem?_eq_getElem hb, Option.getD_some, Bool.and_eq_true, decide_eq_true_eq, Bool.or_eq_true, List.any_eq_true, beq_iff_eq]
  constructor
  · rintro ⟨h, h1 | h1⟩
    · exact ⟨h, .inl ⟨ha, hb, h1⟩⟩
    · exact ⟨h, .inr ⟨ha, hb, h1⟩⟩
  · rintro ⟨h, ⟨_, _, h1⟩ | ⟨_, _, h1⟩⟩
    · exact ⟨h, .inl h1⟩
    · exact ⟨h, .inr h1⟩
end Go.Proofs.Ytmpbdaogdahiiaa
