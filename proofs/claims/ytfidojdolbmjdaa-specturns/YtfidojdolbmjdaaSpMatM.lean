import Derived.Test.YtfidojdolbmjdaaSpPlaceM
import Derived.Test.YtfidojdolbmjdaaMuRowM
/- Rows of rows of one's own: each row in a block of its own, or none. -/
namespace Go.Proofs.Ytfidojdolbmjdaa
open Go.RowKit
/-- Rows of rows: vs are the rows' slices, in block b. -/
structure Mat {α : Type} (w : World) (te tO : TypeId) (sz : Nat) (enc : α → List Value) (base b : Nat) (vs : List Value) (L : List (List α)) : Prop where
  blk : w.heap[b]? = some (.cells vs.toArray tO (0, 0))
  len : vs.length = L.length
  row : ∀ i (h : i < L.length), ∃ v, vs[i]? = some v ∧ w.ownsRow base te sz v L[i].length (L[i].flatMap enc)
  dis : ∀ (i j : Nat) (u v : Value) (k : Nat), i ≠ j → vs[i]? = some u → vs[j]? = some v → u.ownBlock = some k → v.ownBlock ≠ some k
  lo : b < base
/-- A block is one of the rows'. -/
def rowsB (vs : List Value) (k : Nat) : Prop := ∃ (i : Nat) (v : Value), vs[i]? = some v ∧ v.ownBlock = some k
section
variable {α : Type} {w w' w1 : World} {te tO : TypeId} {sz : Nat} {enc : α → List Value} {base b : Nat} {vs : List Value} {L : List (List α)}
theorem so_fr {w w' : World} {base : Nat} {e : TypeId} {size : Nat} {v : Value} {n : Nat} {xs : List Value} {S : Nat → Prop} (h : w.ownsRow base e size v n xs) (f : Fr w w' S) (hs : ∀ k, v.ownBlock = some k → ¬ S k) : w'.ownsRow base e size v n xs := by
  refine ⟨h.1, ?_⟩
  rcases h.2 with h2 | ⟨g, cap, cur, rfl, h3, h4, h5⟩
  · exact Or.inl h2
  · exact Or.inr ⟨g, cap, cur, rfl, h3, (f.block g (Array.getElem?_eq_some_iff.1 h4).1 (hs g rfl)).trans h4, h5⟩
theorem Mat.kept {S : Nat → Prop} (h : Mat w te tO sz enc base b vs L) (f : Fr w w' S) (hb : ¬ S b) (hs : ∀ k, rowsB vs k → ¬ S k) : Mat w' te tO sz enc base b vs L :=
  ⟨(f.block b (Array.getElem?_eq_some_iff.1 h.blk).1 hb).trans h.blk, h.len, fun i hi => by
    obtain ⟨v, hv, ho⟩ := h.row i hi
    exact ⟨v, hv, so_fr ho f (fun k hk => hs k ⟨i, v, hv, hk⟩)⟩, h.dis, h.lo⟩
theorem Mat.new (h : Mat w te tO sz enc base b vs L) (hb : Below w.heap.size w w') : Mat w' te tO sz enc base b vs L := h.kept (Fr.ofBelow hb (fun _ => False)) (fun h => h) (fun _ _ h => h)
theorem Mat.lt (h : Mat w te tO sz enc base b vs L) {k : Nat} (hk : rowsB vs k) : base ≤ k ∧ k < w.heap.size := by
  obtain ⟨i, v, hv, ho⟩ := hk
  have hi : i < L.length := by rw [← h.len]; exact (List.getElem?_eq_some_iff.1 hv).1
  obtain ⟨v', hv', ho'⟩ := h.row i hi
  rw [hv] at hv'
  cases hv'
  exact ho'.lt k ho
theorem Mat.cell (h : Mat w te tO sz enc base b vs L) {i : Nat} {v : Value} (hv : vs[i]? = some v) : w.cell? ⟨b, i, none⟩ = some v ∧ w.frozen? ⟨b, i, none⟩ = false := by
  have := h.blk
  refine ⟨?_, ?_⟩
  · simp [World.cell?, this, hv]
  · simp [World.frozen?, this]
theorem Mat.at_ (h : Mat w te tO sz enc base b vs L) {i : Nat} (hi : i < L.length) : ∃ v, vs[i]? = some v ∧ w.cell? ⟨b, i, none⟩ = some v ∧ w.frozen? ⟨b, i, none⟩ = false ∧ w.ownsRow base te sz v L[i].length (L[i].flatMap enc) := by
  obtain ⟨v, hv, ho⟩ := h.row i hi
  exact ⟨v, hv, (h.cell hv).1, (h.cell hv).2, ho⟩
/-- One row is laid anew: by another slice, whose block is the elder row's, or new. -/
theorem Mat.put (h : Mat w te tO sz enc base b vs L) {i : Nat} {u v : Value} {M : List α} (hu : vs[i]? = some u) (f : Fr w w1 (fun k => u.ownBlock = some k)) (ho : w1.ownsRow base te sz v M.length (M.flatMap enc)) (hat : ∀ k, v.ownBlock = some k → u.ownBlock = some k ∨ w.heap.size ≤ k) :
    Mat (w1.setCell ⟨b, i, none⟩ v) te tO sz enc base b (vs.set i v) (L.set i M) := by
  have hi : i < L.length := by rw [← h.len]; exact (List.getElem?_eq_some_iff.1 hu).1
  have hiv : i < vs.length := by rw [h.len]; exact hi
  have hbw := (Array.getElem?_eq_some_iff.1 h.blk).1
  have hub : ∀ k, u.ownBlock = some k → base ≤ k := fun k hk => (h.lt ⟨i, u, hu, hk⟩).1
  have hvb : ∀ k, v.ownBlock = some k → base ≤ k := fun k hk => (ho.lt k hk).1
  have hlo := h.lo
  have hblk1 : w1.heap[b]? = some (.cells vs.toArray tO (0, 0)) := (f.block b hbw (fun e => by have := hub b e; omega)).trans h.blk
  have fS : Fr w1 (w1.setCell ⟨b, i, none⟩ v) (fun k => k = b) := Fr.setCell _ _ _ rfl
  refine ⟨?_, by rw [List.length_set, List.length_set, h.len], ?_, ?_, h.lo⟩
  · have := set_heap hblk1 i v
    rw [this, List.setIfInBounds_toArray]
  · intro j hj
    rw [List.length_set] at hj
    by_cases e : i = j
    · subst e
      refine ⟨v, by rw [List.getElem?_set_self hiv], ?_⟩
      rw [List.getElem_set_self]
      exact so_fr ho fS (fun k hk e => by have := hvb k hk; omega)
    · obtain ⟨v', hv', ho'⟩ := h.row j hj
      refine ⟨v', by rw [List.getElem?_set_ne e]; exact hv', ?_⟩
      rw [List.getElem_set_ne e]
      refine so_fr (so_fr ho' f (fun k hk => h.dis j i v' u k (fun h => e h.symm) hv' hu hk)) fS (fun k hk e => by have := (ho'.lt k hk).1; omega)
  · intro j l x y k hjl hx hy hk
    by_cases e : i = j
    · subst e
      rw [List.getElem?_set_self hiv] at hx
      cases hx
      rw [List.getElem?_set_ne hjl] at hy
      have hly : l < L.length := by rw [← h.len]; exact (List.getElem?_eq_some_iff.1 hy).1
      rcases hat k hk with h1 | h1
      · exact h.dis i l u y k hjl hu hy h1
      · intro h2
        have := (h.lt ⟨l, y, hy, h2⟩).2
        omega
    · rw [List.getElem?_set_ne e] at hx
      by_cases e' : i = l
      · subst e'
        rw [List.getElem?_set_self hiv] at hy
        cases hy
        intro h2
        rcases hat k h2 with h1 | h1
        · exact h.dis j i x u k hjl hx hu hk h1
        · have := (h.lt ⟨j, x, hx, hk⟩).2
          omega
      · rw [List.getElem?_set_ne e'] at hy
        exact h.dis j l x y k hjl hx hy hk
theorem rows_set {vs : List Value} {i : Nat} {u v : Value} {N : Nat} (hu : vs[i]? = some u) (hat : ∀ k, v.ownBlock = some k → u.ownBlock = some k ∨ N ≤ k) {k : Nat} (h : rowsB (vs.set i v) k) : rowsB vs k ∨ N ≤ k := by
  obtain ⟨j, x, hx, hk⟩ := h
  by_cases e : i = j
  · subst e
    rw [List.getElem?_set_self (List.getElem?_eq_some_iff.1 hu).1] at hx
    cases hx
    rcases hat k hk with h1 | h1
    · exact .inl ⟨i, u, hu, h1⟩
    · exact .inr h1
  · rw [List.getElem?_set_ne e] at hx
    exact .inl ⟨j, x, hx, hk⟩
/-- Rows that are all none. -/
theorem Mat.made {n : Nat} (hb : w.heap[b]? = some (.cells (madeCells #[.slice none 0 0] n) tO (0, 0))) (hlo : b < base) : Mat w te tO sz enc base b (List.replicate n (.slice none 0 0)) (List.replicate n ([] : List α)) := by
  refine ⟨?_, by simp, fun i hi => ⟨.slice none 0 0, by simp at hi; simp [hi], ?_⟩, ?_, hlo⟩
  · rw [hb]
    have : madeCells #[Value.slice none 0 0] n = (List.replicate n (Value.slice none 0 0)).toArray := by
      apply Array.ext
      · simp [size_madeCells]
      · intro i h1 h2
        simp [madeCells, Nat.mod_one]
    rw [this]
  · have : (List.replicate n ([] : List α))[i] = [] := by simp
    rw [this]
    exact World.ownsRow_nil _ _ _ _
  · intro i j u v k _ hu _ hk
    have : u = .slice none 0 0 := by
      have := List.mem_of_getElem? hu
      exact List.eq_of_mem_replicate this
    subst this
    simp [Value.ownBlock] at hk
end
def encI1 (x : Int) : List Value := [.int .i64 x]
def encA2 (e : Ed) : List Value := [.int .i64 e.t, .int .i64 e.w]
theorem flat_I1 (L : List Int) : L.flatMap encI1 = L.map (Value.int .i64) := by
  induction L with
  | nil => rfl
  | cons a L ih => rw [List.flatMap_cons, List.map_cons, ih]; rfl
end Go.Proofs.Ytfidojdolbmjdaa
