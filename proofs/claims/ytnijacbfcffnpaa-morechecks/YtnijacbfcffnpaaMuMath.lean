/- Requests as plain lists: their order, those that count, what each does to a graph. No function of the program is named here. -/
import Derived.Test.YtnijacbfcffnpaaNum
import Derived.Test.YtnijacbfcffnpaaGrData
namespace Go.Proofs.Ytnijacbfcffnpaa
open Go.RowKit

/-- A request: Kind, ID, To, V. -/
structure Mu where
  k : Int
  i : Int
  t : Int
  v : Int
structure Mu.ok (m : Mu) : Prop where
  k : I64 m.k
  i : I64 m.i
  t : I64 m.t
  v : I64 m.v
def muCells (m : Mu) : List Value := [.int .i64 m.k, .int .i64 m.i, .int .i64 m.t, .int .i64 m.v]
def u3 (x y : Int) : Int := if x < y then -1 else if y < x then 1 else 0
/-- What Compare tells. -/
def cmpU (x y : Mu) : Int :=
  if u3 x.k y.k ≠ 0 then u3 x.k y.k else if u3 x.i y.i ≠ 0 then u3 x.i y.i else if u3 x.t y.t ≠ 0 then u3 x.t y.t else u3 x.v y.v
/-- Is a request done ahead of another one? -/
def ult (x y : Mu) : Bool :=
  if x.k ≠ y.k then decide (x.k < y.k) else if x.i ≠ y.i then decide (x.i < y.i) else if x.t ≠ y.t then decide (x.t < y.t) else decide (x.v < y.v)
theorem u3_neg (x y : Int) : u3 x y < 0 ↔ x < y := by unfold u3; split <;> (try split) <;> omega
theorem u3_pos (x y : Int) : 0 < u3 x y ↔ y < x := by unfold u3; split <;> (try split) <;> omega
theorem u3_zero (x y : Int) : u3 x y = 0 ↔ x = y := by unfold u3; split <;> (try split) <;> omega
theorem cmpU_lt (x y : Mu) : decide (cmpU x y < 0) = ult x y := by
  unfold cmpU ult
  simp only [ne_eq, u3_zero]
  split
  · simp [u3_neg]
  · split
    · simp [u3_neg]
    · split <;> simp [u3_neg]
theorem ult_iff (x y : Mu) : ult x y = true ↔ (x.k < y.k ∨ x.k = y.k ∧ (x.i < y.i ∨ x.i = y.i ∧ (x.t < y.t ∨ x.t = y.t ∧ x.v < y.v))) := by
  unfold ult
  split
  · rename_i h; simp; omega
  · rename_i h
    split
    · rename_i h'; simp; omega
    · split
      · simp; omega
      · simp; omega
theorem cmpU_gt (x y : Mu) : decide (0 < cmpU x y) = ult y x := by
  rw [Bool.eq_iff_iff, decide_eq_true_eq, ult_iff]
  unfold cmpU u3
  repeat' split
  all_goals omega
theorem ult_irrefl (x : Mu) : ult x x = false := by
  rw [Bool.eq_false_iff]; intro h; rw [ult_iff] at h; omega
theorem ult_trans (x y z : Mu) (h : ult x y = true) (h' : ult y z = true) : ult x z = true := by
  rw [ult_iff] at *; omega
theorem ult_ntrans (x y z : Mu) (h : ult x y = false) (h' : ult y z = false) : ult x z = false := by
  rw [Bool.eq_false_iff, ne_eq, ult_iff] at *; omega
theorem ult_total (x y : Mu) (h : ult x y = false) (h' : ult y x = false) : x = y := by
  rw [Bool.eq_false_iff, ne_eq, ult_iff] at *
  cases x; cases y
  simp only [Mu.mk.injEq] at *
  omega
def ule (x y : Mu) : Bool := !ult y x
/-- A list in order. -/
def sortU (l : List Mu) : List Mu := l.mergeSort ule
theorem sortU_perm (l : List Mu) : (sortU l).Perm l := List.mergeSort_perm l ule
theorem ule_trans (a b c : Mu) (h : ule a b = true) (h' : ule b c = true) : ule a c = true := by
  unfold ule at *
  simp only [Bool.not_eq_true'] at *
  exact ult_ntrans _ _ _ h' h
theorem ule_total (a b : Mu) : (ule a b || ule b a) = true := by
  unfold ule
  cases h : ult b a
  · rfl
  · cases h' : ult a b
    · rfl
    · have := ult_trans _ _ _ h h'
      rw [ult_irrefl] at this
      cases this
theorem sortU_sorted (l : List Mu) : (sortU l).Pairwise (fun a b => ule a b = true) := List.pairwise_mergeSort ule_trans ule_total l
theorem ule_anti {a b : Mu} (h : ule a b = true) (h' : ule b a = true) : a = b := by
  unfold ule at *
  simp only [Bool.not_eq_true'] at *
  exact ult_total _ _ h' h
theorem ule_iff (x y : Mu) : ule x y = true ↔ (x.k < y.k ∨ x.k = y.k ∧ (x.i < y.i ∨ x.i = y.i ∧ (x.t < y.t ∨ x.t = y.t ∧ x.v ≤ y.v))) := by
  unfold ule
  rw [Bool.not_eq_true', Bool.eq_false_iff, ne_eq, ult_iff]
  omega
/-- There is one list in order. -/
theorem sortU_of {l m : List Mu} (hp : m.Perm l) (hs : m.Pairwise (fun a b => ule a b = true)) : m = sortU l :=
  List.Perm.eq_of_pairwise (fun _ _ _ _ h h' => ule_anti h h') hs (sortU_sorted l) (hp.trans (sortU_perm l).symm)
theorem sortU_congr {l m : List Mu} (hp : m.Perm l) : sortU m = sortU l := sortU_of ((sortU_perm m).trans hp) (sortU_sorted m)
theorem sortU_len (l : List Mu) : (sortU l).length = l.length := (sortU_perm l).length_eq
theorem sortU_filter (l : List Mu) (p : Mu → Bool) : (sortU l).filter p = sortU (l.filter p) := by
  refine sortU_of ((sortU_perm l).filter p) ?_
  exact (sortU_sorted l).filter p
theorem sortU_mem {l : List Mu} {x : Mu} : x ∈ sortU l ↔ x ∈ l := (sortU_perm l).mem_iff
theorem sortU_one (m : Mu) : sortU [m] = [m] := (sortU_of (List.Perm.refl _) (by simp)).symm
theorem sortU_nil : sortU [] = [] := (sortU_of (List.Perm.refl _) (by simp)).symm
/-- One more, put in where it belongs. -/
theorem sortU_put (l : List Mu) (m : Mu) (k : Nat) (hk : k ≤ l.length) (h1 : ∀ j (h : j < (sortU l).length), k ≤ j → ult m (sortU l)[j] = true) (h2 : 0 < k → ∀ h : k - 1 < (sortU l).length, ult m (sortU l)[k - 1] = false) :
    (sortU l).take k ++ [m] ++ (sortU l).drop k = sortU (l ++ [m]) := by
  refine sortU_of ?_ ?_
  · refine List.Perm.trans (l₂ := (sortU l).take k ++ (sortU l).drop k ++ [m]) ?_ ?_
    · rw [List.append_assoc, List.append_assoc]
      exact List.Perm.append_left _ List.perm_append_comm
    · rw [List.take_append_drop]
      exact (sortU_perm l).append_right _
  · have hs := sortU_sorted l
    have hs' := hs
    rw [← List.take_append_drop k (sortU l), List.pairwise_append] at hs'
    obtain ⟨ha, hb, hab⟩ := hs'
    rw [List.append_assoc, List.pairwise_append]
    refine ⟨ha, ?_, ?_⟩
    · rw [List.singleton_append, List.pairwise_cons]
      refine ⟨fun x hx => ?_, hb⟩
      obtain ⟨j, hj, rfl⟩ := List.mem_iff_getElem.1 hx
      rw [List.getElem_drop]
      have hkj : k + j < (sortU l).length := by rw [List.length_drop] at hj; omega
      have := h1 (k + j) hkj (by omega)
      unfold ule
      cases hq : ult (sortU l)[k + j] m
      · rfl
      · have := ult_trans _ _ _ this hq
        rw [ult_irrefl] at this
        cases this
    · intro x hx y hy
      rw [List.singleton_append, List.mem_cons] at hy
      rcases hy with rfl | hy
      · obtain ⟨j, hj, rfl⟩ := List.mem_iff_getElem.1 hx
        rw [List.getElem_take]
        have hlen := sortU_len l
        rw [List.length_take] at hj
        have h3 := h2 (by omega) (by omega)
        have h4 : ule (sortU l)[k - 1] y = true := by unfold ule; rw [h3]; rfl
        by_cases e : j = k - 1
        · subst e; exact h4
        · exact ule_trans _ _ _ (List.pairwise_iff_getElem.1 hs j (k - 1) (by omega) (by omega) (by omega)) h4
      · exact hab x hx y hy
/-- Do two requests ask for the same thing? -/
def sameU (a b : Mu) : Bool := a.k == b.k && a.i == b.i && a.t == b.t
theorem sameU_iff (a b : Mu) : sameU a b = true ↔ a.k = b.k ∧ a.i = b.i ∧ a.t = b.t := by
  unfold sameU
  simp only [Bool.and_eq_true, beq_iff_eq, and_assoc]
/-- Those that count behind one that stands ahead of them: each that does not ask for what the one ahead of it asks for. -/
def ddF (p : Mu) : List Mu → List Mu
  | [] => []
  | m :: l => if sameU m p then ddF m l else m :: ddF m l
/-- Of those that ask for the same, the first one. -/
def dd : List Mu → List Mu
  | [] => []
  | m :: l => m :: ddF m l
/-- The requests that count, in their order. -/
def thatC (l : List Mu) : List Mu := dd (sortU l)
theorem ddF_same {p q : Mu} (h : p.k = q.k ∧ p.i = q.i ∧ p.t = q.t) : ∀ l, ddF p l = ddF q l
  | [] => rfl
  | m :: l => by
    have e : sameU m p = sameU m q := by unfold sameU; rw [h.1, h.2.1, h.2.2]
    unfold ddF
    rw [e]
theorem ddF_len (p : Mu) : ∀ l, (ddF p l).length ≤ l.length
  | [] => Nat.le_refl _
  | m :: l => by
    unfold ddF
    have := ddF_len m l
    split <;> simp <;> omega
theorem dd_len : ∀ l, (dd l).length ≤ l.length
  | [] => Nat.le_refl _
  | m :: l => by unfold dd; have := ddF_len m l; simp; omega
theorem thatC_len (l : List Mu) : (thatC l).length ≤ l.length := by
  unfold thatC; have := dd_len (sortU l); rw [sortU_len] at this; exact this
theorem ddF_sub (p : Mu) : ∀ l, (ddF p l).Sublist l
  | [] => List.Sublist.refl _
  | m :: l => by
    unfold ddF
    split
    · exact (ddF_sub m l).cons m
    · exact (ddF_sub m l).cons_cons m
theorem dd_sub : ∀ l, (dd l).Sublist l
  | [] => List.Sublist.refl _
  | m :: l => by unfold dd; exact (ddF_sub m l).cons_cons m
theorem thatC_mem {l : List Mu} {m : Mu} (h : m ∈ thatC l) : m ∈ l := sortU_mem.1 ((dd_sub _).subset h)
theorem thatC_sorted (l : List Mu) : (thatC l).Pairwise (fun a b => ule a b = true) := (sortU_sorted l).sublist (dd_sub _)
theorem ddF_has (p : Mu) : ∀ (l : List Mu) (m : Mu), m ∈ l → sameU m p = true ∨ ∃ m' ∈ ddF p l, sameU m m' = true
  | [], m, h => (by cases h)
  | x :: l, m, h => by
    unfold ddF
    rcases List.mem_cons.1 h with rfl | h
    · cases e : sameU m p
      · exact .inr ⟨m, by simp, by simp [sameU]⟩
      · exact .inl rfl
    · rcases ddF_has x l m h with e | ⟨m', h1, h2⟩
      · cases ex : sameU x p
        · exact .inr ⟨x, by simp, e⟩
        · rw [sameU_iff] at e ex ⊢
          exact .inl ⟨by omega, by omega, by omega⟩
      · refine .inr ⟨m', ?_, h2⟩
        split
        · exact h1
        · exact List.mem_cons_of_mem _ h1
theorem dd_has : ∀ (l : List Mu) (m : Mu), m ∈ l → ∃ m' ∈ dd l, sameU m m' = true
  | [], m, h => (by cases h)
  | x :: l, m, h => by
    unfold dd
    rcases List.mem_cons.1 h with rfl | h
    · exact ⟨m, by simp, by simp [sameU]⟩
    · rcases ddF_has x l m h with e | ⟨m', h1, h2⟩
      · exact ⟨x, by simp, e⟩
      · exact ⟨m', List.mem_cons_of_mem _ h1, h2⟩
theorem thatC_has {l : List Mu} {m : Mu} (h : m ∈ l) : ∃ m' ∈ thatC l, sameU m m' = true := dd_has _ m (sortU_mem.2 h)
/-- Those that count among some, chosen by what they ask for. -/
theorem ddF_filter (q : Mu → Bool) (hq : ∀ a b, sameU a b = true → q a = q b) : ∀ (l : List Mu) (p p' : Mu), (∀ m ∈ l, q m = true → sameU m p = sameU m p') → (∀ m ∈ l, q m = true → sameU m p = true → q p = true) → l.Pairwise (fun a b => ule a b = true) → (∀ m ∈ l, ule p m = true) → (∀ m ∈ l, ule p' m = true) → (ddF p l).filter q = ddF p' (l.filter q) := by
  intro l
  induction l with
  | nil => intros; rfl
  | cons m l ih =>
    intro p p' h1 h2 hs hp hp'
    rw [List.pairwise_cons] at hs
    cases hm : q m
    · rw [List.filter_cons_of_neg (by simp [hm])]
      have e : (ddF p (m :: l)).filter q = (ddF m l).filter q := by
        conv => lhs; unfold ddF
        split
        · rfl
        · rw [List.filter_cons_of_neg (by simp [hm])]
      rw [e]
      refine ih m p' ?_ ?_ hs.2 hs.1 (fun x hx => hp' x (List.mem_cons_of_mem _ hx))
      · intro x hx hqx
        cases e1 : sameU x m
        · cases e2 : sameU x p'
          · rfl
          · exfalso
            have e3 : sameU x p = true := by rw [h1 x (List.mem_cons_of_mem _ hx) hqx]; exact e2
            have e4 : sameU x m = true := by
              have a1 := (ule_iff _ _).1 (hs.1 x hx)
              have a2 := (ule_iff _ _).1 (hp m (by simp))
              rw [sameU_iff] at e3 ⊢
              omega
            rw [e4] at e1
            cases e1
        · have := hq x m e1
          rw [hqx, hm] at this
          cases this
      · intro x hx hqx e1
        rw [← hq x m e1]
        exact hqx
    · rw [List.filter_cons_of_pos hm]
      have h3 := h1 m (by simp) hm
      unfold ddF
      rw [h3]
      have ih' := ih m m (fun _ _ _ => rfl) (fun x _ hqx e1 => by rw [← hq x m e1]; exact hqx) hs.2 hs.1 hs.1
      split
      · exact ih'
      · rw [List.filter_cons_of_pos hm, ih']
theorem dd_filter (q : Mu → Bool) (hq : ∀ a b, sameU a b = true → q a = q b) : ∀ (l : List Mu), l.Pairwise (fun a b => ule a b = true) → (dd l).filter q = dd (l.filter q) := by
  intro l
  induction l with
  | nil => intro _; rfl
  | cons m l ih =>
    intro hs
    rw [List.pairwise_cons] at hs
    cases hm : q m
    · rw [List.filter_cons_of_neg (by simp [hm]), ← ih hs.2, show dd (m :: l) = m :: ddF m l from rfl, List.filter_cons_of_neg (by simp [hm])]
      cases l with
      | nil => rfl
      | cons x l =>
        rw [show dd (x :: l) = x :: ddF x l from rfl, show ddF m (x :: l) = if sameU x m then ddF x l else x :: ddF x l from rfl]
        cases hx : sameU x m
        · rfl
        · have hqx : q x = false := by rw [hq x m hx]; exact hm
          rw [if_pos rfl, List.filter_cons_of_neg (by simp [hqx])]
    · rw [List.filter_cons_of_pos hm, show dd (m :: l) = m :: ddF m l from rfl, show dd (m :: l.filter q) = m :: ddF m (l.filter q) from rfl, List.filter_cons_of_pos hm, ddF_filter q hq l m m (fun _ _ _ => rfl) (fun x _ hqx e1 => by rw [← hq x m e1]; exact hqx) hs.2 hs.1 hs.1]
theorem thatC_filter (l : List Mu) (q : Mu → Bool) (hq : ∀ a b, sameU a b = true → q a = q b) : thatC (l.filter q) = (thatC l).filter q := by
  unfold thatC
  rw [← sortU_filter, dd_filter q hq _ (sortU_sorted l)]
theorem thatC_perm {l m : List Mu} (h : m.Perm l) : thatC m = thatC l := by unfold thatC; rw [sortU_congr h]
end Go.Proofs.Ytnijacbfcffnpaa
