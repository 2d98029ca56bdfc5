import Derived.Test.YtfidojdolbmjdaaSpMatM
import Derived.Test.YtfidojdolbmjdaaGrIterTM
import Derived.Test.YtfidojdolbmjdaaGrClone2M
import Derived.Test.YtfidojdolbmjdaaGrThereM
/- spec.weave: what its rounds hold. -/
namespace Go.Proofs.Ytfidojdolbmjdaa
open Go.RowKit
/-- What lies in a block of a function's code. -/
def inBlkW (n : Nat) : Code → Option Code
  | .block m c => if m = n then some c else inBlkW n c
  | .loop c => inBlkW n c
  | .seq a b => match inBlkW n a with
    | some c => some c
    | none => inBlkW n b
  | .scope c => inBlkW n c
  | .cond _ a b => match inBlkW n a with
    | some c => some c
    | none => inBlkW n b
  | .rangeFunc _ _ _ b => inBlkW n b
  | _ => none
/-- One edge more: rows of edges to places, rows of neighbours. -/
def addW {α : Type} (L : List (List α)) (i : Nat) (x : α) : List (List α) := L.set i (L.getD i [] ++ [x])
def stepW (I : List Int) (s : List (List Ed) × List (List Int)) (x : Int × Ed) : List (List Ed) × List (List Int) :=
  (addW s.1 (findN I x.1) ⟨(findN I x.2.t : Nat), x.2.w⟩, if findN I x.1 = findN I x.2.t then s.2 else addW (addW s.2 (findN I x.1) ((findN I x.2.t : Nat) : Int)) (findN I x.2.t) ((findN I x.1 : Nat) : Int))
def foldW (I : List Int) (n : Nat) (l : List (Int × Ed)) : List (List Ed) × List (List Int) := l.foldl (stepW I) (List.replicate n [], List.replicate n [])
theorem foldW_snoc (I : List Int) (n : Nat) (l : List (Int × Ed)) (x : Int × Ed) : foldW I n (l ++ [x]) = stepW I (foldW I n l) x := by unfold foldW; rw [List.foldl_append]; rfl
theorem addW_len {α : Type} (L : List (List α)) (i : Nat) (x : α) : (addW L i x).length = L.length := by unfold addW; simp
theorem addW_row {α : Type} (L : List (List α)) (i j : Nat) (x : α) : ((addW L i x).getD j []).length ≤ (L.getD j []).length + 1 := by
  unfold addW
  by_cases e : i = j
  · subst e
    by_cases h : i < L.length
    · simp [List.getD, h]
    · simp [List.getD, h]
  · simp [List.getD, List.getElem?_set_ne e]
theorem foldW_len (I : List Int) (n : Nat) : ∀ (l : List (Int × Ed)) (s : List (List Ed) × List (List Int)), s.1.length = n → s.2.length = n → (l.foldl (stepW I) s).1.length = n ∧ (l.foldl (stepW I) s).2.length = n
  | [], _, h1, h2 => ⟨h1, h2⟩
  | x :: l, s, h1, h2 => by
    refine foldW_len I n l (stepW I s x) ?_ ?_
    · unfold stepW; rw [addW_len]; exact h1
    · unfold stepW; dsimp only; split
      · exact h2
      · rw [addW_len, addW_len]; exact h2
theorem foldW_lens (I : List Int) (n : Nat) (l : List (Int × Ed)) : (foldW I n l).1.length = n ∧ (foldW I n l).2.length = n := foldW_len I n l _ (by simp) (by simp)
theorem foldW_few (I : List Int) : ∀ (l : List (Int × Ed)) (s : List (List Ed) × List (List Int)) (c : Nat), (∀ j, (s.1.getD j []).length ≤ c ∧ (s.2.getD j []).length ≤ 2 * c) → ∀ j, ((l.foldl (stepW I) s).1.getD j []).length ≤ c + l.length ∧ ((l.foldl (stepW I) s).2.getD j []).length ≤ 2 * (c + l.length)
  | [], _, _, h => h
  | x :: l, s, c, h => by
    intro j
    have := foldW_few I l (stepW I s x) (c + 1) (fun j => by
      have h1 := h j
      unfold stepW
      dsimp only
      have h2 := addW_row s.1 (findN I x.1) j (⟨(findN I x.2.t : Nat), x.2.w⟩ : Ed)
      refine ⟨by omega, ?_⟩
      split
      · omega
      · have h3 := addW_row (addW s.2 (findN I x.1) ((findN I x.2.t : Nat) : Int)) (findN I x.2.t) j ((findN I x.1 : Nat) : Int)
        have h4 := addW_row s.2 (findN I x.1) j ((findN I x.2.t : Nat) : Int)
        omega) j
    rw [List.foldl_cons, List.length_cons]
    omega
theorem foldW_rows (I : List Int) (n : Nat) (l : List (Int × Ed)) (j : Nat) : ((foldW I n l).1.getD j []).length ≤ l.length ∧ ((foldW I n l).2.getD j []).length ≤ 2 * l.length := by
  have := foldW_few I l (List.replicate n [], List.replicate n []) 0 (fun j => by simp [List.getD]; constructor <;> (cases h : (List.replicate n ([] : List _))[j]? <;> simp_all [List.getElem?_replicate])) j
  simpa [foldW] using this
/-- What the rounds hold. -/
structure WV (w W : World) (wb gi ci g1 g2 B n : Nat) (I : List Int) (s : List (List Ed) × List (List Int)) (T : Nat → Prop) : Prop where
  web : W.heap[wb]? = some (.cells #[.slice (some ⟨gi, 0, none⟩) n ci, .slice (some ⟨g1, 0, none⟩) n n, .slice (some ⟨g2, 0, none⟩) n n] 70 (0, 0))
  idr : RwI W 2 w.heap.size (.slice (some ⟨gi, 0, none⟩) n ci) I
  om : ∃ vs, Mat W 75 73 2 encA2 B g1 vs s.1 ∧ ∀ k, rowsB vs k → T k
  nm : ∃ vs, Mat W 3 116 1 encI1 B g2 vs s.2 ∧ ∀ k, rowsB vs k → T k
  low : Below w.heap.size w W
  t1 : T g1
  t2 : T g2
  lo : w.heap.size ≤ wb ∧ w.heap.size ≤ g1 ∧ w.heap.size ≤ g2
  hi : wb < B ∧ gi < B ∧ g1 < B ∧ g2 < B
section
variable {w W W' : World} {wb gi ci g1 g2 B n : Nat} {I : List Int} {s : List (List Ed) × List (List Int)} {T : Nat → Prop}
theorem WV.kept {S : Nat → Prop} (h : WV w W wb gi ci g1 g2 B n I s T) (f : Fr W W' S) (h1 : ∀ k, k < B → ¬ S k) (h2 : ∀ k, T k → ¬ S k) (h3 : ∀ k, S k → w.heap.size ≤ k) : WV w W' wb gi ci g1 g2 B n I s T := by
  have hi := h.hi
  obtain ⟨vs1, m1, r1⟩ := h.om
  obtain ⟨vs2, m2, r2⟩ := h.nm
  refine ⟨(f.block _ (Array.getElem?_eq_some_iff.1 h.web).1 (h1 _ hi.1)).trans h.web, ri_fr h.idr f (fun k hk => ?_), ⟨vs1, m1.kept f (h1 _ hi.2.2.1) (fun k hk => h2 _ (r1 k hk)), r1⟩, ⟨vs2, m2.kept f (h1 _ hi.2.2.2) (fun k hk => h2 _ (r2 k hk)), r2⟩, h.low.trans (f.below h.low.size h3), h.t1, h.t2, h.lo, h.hi⟩
  simp [Value.ownBlock] at hk
  subst hk
  exact h1 _ hi.2.1
theorem WV.new (h : WV w W wb gi ci g1 g2 B n I s T) (hb : Below W.heap.size W W') : WV w W' wb gi ci g1 g2 B n I s T := h.kept (Fr.ofBelow hb (fun _ => False)) (fun _ _ h => h) (fun _ _ h => h) (fun _ h => h.elim)
theorem WV.more {T' : Nat → Prop} (h : WV w W wb gi ci g1 g2 B n I s T) (ht : ∀ k, T k → T' k) : WV w W wb gi ci g1 g2 B n I s T' := by
  obtain ⟨vs1, m1, r1⟩ := h.om
  obtain ⟨vs2, m2, r2⟩ := h.nm
  exact ⟨h.web, h.idr, ⟨vs1, m1, fun k hk => ht k (r1 k hk)⟩, ⟨vs2, m2, fun k hk => ht k (r2 k hk)⟩, h.low, ht _ h.t1, ht _ h.t2, h.lo, h.hi⟩
theorem mat_ne {α β : Type} {te te' tO tO' : TypeId} {sz sz' : Nat} {enc : α → List Value} {enc' : β → List Value} {base base' b b' : Nat} {vs vs' : List Value} {L : List (List α)} {L' : List (List β)} (h : Mat W te tO sz enc base b vs L) (h' : Mat W te' tO' sz' enc' base' b' vs' L') (hne : te ≠ te') {k : Nat} (hk : rowsB vs k) : ¬ rowsB vs' k := by
  rintro ⟨j, v', hv', ho'⟩
  obtain ⟨i, v, hv, ho⟩ := hk
  obtain ⟨u, hu, hr⟩ := h.row i (by rw [← h.len]; exact (List.getElem?_eq_some_iff.1 hv).1)
  obtain ⟨u', hu', hr'⟩ := h'.row j (by rw [← h'.len]; exact (List.getElem?_eq_some_iff.1 hv').1)
  rw [hv] at hu; cases hu
  rw [hv'] at hu'; cases hu'
  rcases hr.2 with ⟨e, _⟩ | ⟨g, cap, cur, ev, _, hg, _⟩
  · rw [e] at ho; simp [Value.ownBlock] at ho
  rcases hr'.2 with ⟨e, _⟩ | ⟨g', cap', cur', ev', _, hg', _⟩
  · rw [e] at ho'; simp [Value.ownBlock] at ho'
  rw [ev] at ho
  rw [ev'] at ho'
  simp [Value.ownBlock] at ho ho'
  subst ho ho'
  rw [hg] at hg'
  injection hg' with e
  injection e with _ e _
  exact hne e
theorem getD_of {α : Type} {L : List (List α)} {i : Nat} (h : i < L.length) : L.getD i [] = L[i] := by simp [List.getD, h]
/-- A row of edges gets one more. -/
theorem WV.addO {a : Nat} {z : Ed} {u v : Value} {w1 : World} (h : WV w W wb gi ci g1 g2 B n I s T) {vs : List Value} (m1 : Mat W 75 73 2 encA2 B g1 vs s.1) (r1 : ∀ k, rowsB vs k → T k) (hu : vs[a]? = some u) (f : Fr W w1 (fun k => u.ownBlock = some k)) (ho : w1.ownsRow B 75 2 v (s.1.getD a [] ++ [z]).length ((s.1.getD a [] ++ [z]).flatMap encA2)) (hat : ∀ k, v.ownBlock = some k → u.ownBlock = some k ∨ W.heap.size ≤ k) :
    WV w (w1.setCell ⟨g1, a, none⟩ v) wb gi ci g1 g2 B n I (addW s.1 a z, s.2) (fun k => T k ∨ W.heap.size ≤ k) := by
  obtain ⟨vs2, m2, r2⟩ := h.nm
  have hi := h.hi
  have hub : ∀ k, u.ownBlock = some k → B ≤ k ∧ rowsB vs k := fun k hk => ⟨(m1.lt ⟨a, u, hu, hk⟩).1, ⟨a, u, hu, hk⟩⟩
  have fS : Fr w1 (w1.setCell ⟨g1, a, none⟩ v) (fun k => k = g1) := Fr.setCell _ _ _ rfl
  have ft : Fr W (w1.setCell ⟨g1, a, none⟩ v) (fun k => u.ownBlock = some k ∨ k = g1) := (f.mono (fun _ _ h => .inl h)).trans fS (fun _ _ h => .inr h)
  have hg1 : g1 ≠ g2 := fun e => by
    have x1 := m1.blk
    have x2 := m2.blk
    rw [← e, x1] at x2
    injection x2 with e
    injection e with _ e _
    exact absurd e (by decide)
  have hg3 : wb ≠ g1 := fun e => by
    have x1 := m1.blk
    have x2 := h.web
    rw [e, x1] at x2
    injection x2 with e
    injection e with _ e _
    exact absurd e (by decide)
  refine ⟨(ft.block _ (Array.getElem?_eq_some_iff.1 h.web).1 (fun e => ?_)).trans h.web, ri_fr h.idr ft (fun k hk e => ?_), ⟨vs.set a v, m1.put hu f ho hat, fun k hk => ?_⟩, ⟨vs2, m2.kept ft (fun e => ?_) (fun k hk e => ?_), fun k hk => .inl (r2 k hk)⟩, h.low.trans (ft.below h.low.size (fun k hk => ?_)), .inl h.t1, .inl h.t2, h.lo, h.hi⟩
  · rcases e with e | e
    · have := (hub _ e).1; omega
    · exact hg3 e
  · have hk' : gi = k := by simpa [Value.ownBlock] using hk
    subst hk'
    rcases e with e | e
    · have := (hub _ e).1; omega
    · subst e
      have x1 := m1.blk
      rcases h.idr.2 with ⟨e2, _⟩ | ⟨g, cap, cur, e2, _, hg, _⟩
      · cases e2
      · cases e2
        rw [x1] at hg
        injection hg with e
        injection e with _ e _
        exact absurd e (by decide)
  · rcases rows_set hu hat hk with h1 | h1
    · exact .inl (r1 k h1)
    · exact .inr h1
  · rcases e with e | e
    · have := (hub _ e).1; omega
    · exact hg1 e.symm
  · rcases e with e | e
    · exact mat_ne m1 m2 (by decide) (hub k e).2 hk
    · have := (m2.lt hk).1; omega
  · rcases hk with e | e
    · have := (hub _ e).1; have := h.lo; omega
    · have := h.lo; omega
/-- A row of neighbours gets one more. -/
theorem WV.addN {a : Nat} {z : Int} {u v : Value} {w1 : World} (h : WV w W wb gi ci g1 g2 B n I s T) {vs : List Value} (m2 : Mat W 3 116 1 encI1 B g2 vs s.2) (r2 : ∀ k, rowsB vs k → T k) (hu : vs[a]? = some u) (f : Fr W w1 (fun k => u.ownBlock = some k)) (ho : w1.ownsRow B 3 1 v (s.2.getD a [] ++ [z]).length ((s.2.getD a [] ++ [z]).flatMap encI1)) (hat : ∀ k, v.ownBlock = some k → u.ownBlock = some k ∨ W.heap.size ≤ k) :
    WV w (w1.setCell ⟨g2, a, none⟩ v) wb gi ci g1 g2 B n I (s.1, addW s.2 a z) (fun k => T k ∨ W.heap.size ≤ k) := by
  obtain ⟨vs1, m1, r1⟩ := h.om
  have hi := h.hi
  have hub : ∀ k, u.ownBlock = some k → B ≤ k ∧ rowsB vs k := fun k hk => ⟨(m2.lt ⟨a, u, hu, hk⟩).1, ⟨a, u, hu, hk⟩⟩
  have fS : Fr w1 (w1.setCell ⟨g2, a, none⟩ v) (fun k => k = g2) := Fr.setCell _ _ _ rfl
  have ft : Fr W (w1.setCell ⟨g2, a, none⟩ v) (fun k => u.ownBlock = some k ∨ k = g2) := (f.mono (fun _ _ h => .inl h)).trans fS (fun _ _ h => .inr h)
  have hg1 : g1 ≠ g2 := fun e => by
    have x1 := m1.blk
    have x2 := m2.blk
    rw [← e, x1] at x2
    injection x2 with e
    injection e with _ e _
    exact absurd e (by decide)
  have hg3 : wb ≠ g2 := fun e => by
    have x1 := m2.blk
    have x2 := h.web
    rw [e, x1] at x2
    injection x2 with e
    injection e with _ e _
    exact absurd e (by decide)
  refine ⟨(ft.block _ (Array.getElem?_eq_some_iff.1 h.web).1 (fun e => ?_)).trans h.web, ri_fr h.idr ft (fun k hk e => ?_), ⟨vs1, m1.kept ft (fun e => ?_) (fun k hk e => ?_), fun k hk => .inl (r1 k hk)⟩, ⟨vs.set a v, m2.put hu f ho hat, fun k hk => ?_⟩, h.low.trans (ft.below h.low.size (fun k hk => ?_)), .inl h.t1, .inl h.t2, h.lo, h.hi⟩
  · rcases e with e | e
    · have := (hub _ e).1; omega
    · exact hg3 e
  · have hk' : gi = k := by simpa [Value.ownBlock] using hk
    subst hk'
    rcases e with e | e
    · have := (hub _ e).1; omega
    · subst e
      have x1 := m2.blk
      rcases h.idr.2 with ⟨e2, _⟩ | ⟨g, cap, cur, e2, _, hg, _⟩
      · cases e2
      · cases e2
        rw [x1] at hg
        injection hg with e
        injection e with _ e _
        exact absurd e (by decide)
  · rcases e with e | e
    · have := (hub _ e).1; omega
    · exact hg1 e
  · rcases e with e | e
    · exact mat_ne m2 m1 (by decide) (hub k e).2 hk
    · have := (m1.lt hk).1; omega
  · rcases rows_set hu hat hk with h1 | h1
    · exact .inl (r2 k h1)
    · exact .inr h1
  · rcases hk with e | e
    · have := (hub _ e).1; have := h.lo; omega
    · have := h.lo; omega
end
end Go.Proofs.Ytfidojdolbmjdaa
