import Derived.Sort.Walk0
import Derived.Below
/- Files on plain data: a list sorted by names; what is found, put and taken away; changes. -/
namespace Go.Proofs.YtjemnkijoiehmaaGreatDoor
open Go.RowKit
abbrev Bs := List UInt8
abbrev Fl := List (Bs × Bs)
theorem b_irr (a : Bs) : ¬ a < a := List.lt_irrefl a
theorem b_tr {a b c : Bs} (h : a < b) (k : b < c) : a < c := List.lt_trans h k
theorem b_tri {a b : Bs} (h : ¬ a < b) (k : ¬ a = b) : b < a := by
  have h1 : b ≤ a := h
  by_cases e : b < a
  · exact e
  · exact absurd (List.le_antisymm (show a ≤ b from e) h1) k
theorem b_ne {a b : Bs} (h : a < b) : ¬ a = b := fun e => b_irr a (by rw [e] at h ⊢; exact h)
/-- Where a name stands, or would stand. -/
def posF (k : Bs) : Fl → Nat
  | [] => 0
  | p :: r => if p.1 < k then posF k r + 1 else 0
def getF (k : Bs) : Fl → Option Bs
  | [] => none
  | p :: r => if p.1 < k then getF k r else if p.1 = k then some p.2 else none
def putF (k v : Bs) : Fl → Fl
  | [] => [(k, v)]
  | p :: r => if p.1 < k then p :: putF k v r else if p.1 = k then (k, v) :: r else (k, v) :: p :: r
def delF (k : Bs) : Fl → Fl
  | [] => []
  | p :: r => if p.1 < k then p :: delF k r else if p.1 = k then r else p :: r
def SortF (l : Fl) : Prop := l.Pairwise (fun p q => p.1 < q.1)
theorem posF_le (k : Bs) (l : Fl) : posF k l ≤ l.length := by
  induction l with
  | nil => exact Nat.le_refl _
  | cons p r ih => unfold posF; split <;> simp <;> omega
theorem putF_is (k v : Bs) (l : Fl) : putF k v l = l.take (posF k l) ++ (k, v) :: l.drop (if (getF k l).isSome then posF k l + 1 else posF k l) := by
  induction l with
  | nil => rfl
  | cons p r ih =>
    by_cases hp : p.1 < k
    · rw [putF, if_pos hp, ih, posF, if_pos hp, getF, if_pos hp]
      cases (getF k r).isSome <;> simp
    · rw [putF, if_neg hp, posF, if_neg hp, getF, if_neg hp]
      by_cases e : p.1 = k <;> simp [e]
theorem delF_is (k : Bs) (l : Fl) : delF k l = if (getF k l).isSome then l.take (posF k l) ++ l.drop (posF k l + 1) else l := by
  induction l with
  | nil => rfl
  | cons p r ih =>
    by_cases hp : p.1 < k
    · rw [delF, if_pos hp, ih, posF, if_pos hp, getF, if_pos hp]
      cases (getF k r).isSome <;> simp
    · rw [delF, if_neg hp, posF, if_neg hp, getF, if_neg hp]
      by_cases e : p.1 = k <;> simp [e]
theorem getF_low {k : Bs} {l : Fl} (h : ∀ p ∈ l, k < p.1) : getF k l = none := by
  cases l with
  | nil => rfl
  | cons p r =>
    have := h p (by simp)
    have n1 : ¬ p.1 < k := fun g => b_irr _ (b_tr this g)
    rw [getF, if_neg n1, if_neg (fun e => b_ne this e.symm)]
theorem getF_mem {k v : Bs} {l : Fl} (h : getF k l = some v) : (k, v) ∈ l := by
  induction l with
  | nil => cases h
  | cons p r ih =>
    rw [getF] at h
    split at h
    · exact List.mem_cons_of_mem _ (ih h)
    · split at h
      · rename_i e
        cases h
        rw [← e]
        exact List.mem_cons_self
      · cases h
theorem getF_of_mem {l : Fl} (hs : SortF l) {p : Bs × Bs} (h : p ∈ l) : getF p.1 l = some p.2 := by
  induction l with
  | nil => cases h
  | cons q r ih =>
    rcases List.mem_cons.1 h with rfl | h
    · rw [getF, if_neg (b_irr _), if_pos rfl]
    · rw [getF, if_pos ((List.pairwise_cons.1 hs).1 p h)]
      exact ih (List.pairwise_cons.1 hs).2 h
theorem mem_putF {k v : Bs} {l : Fl} {p : Bs × Bs} (h : p ∈ putF k v l) : p = (k, v) ∨ p ∈ l := by
  induction l with
  | nil => exact .inl (by simpa [putF] using h)
  | cons q r ih =>
    rw [putF] at h
    split at h
    · rcases List.mem_cons.1 h with rfl | h
      · exact .inr List.mem_cons_self
      · rcases ih h with h | h
        · exact .inl h
        · exact .inr (List.mem_cons_of_mem _ h)
    · split at h
      · rcases List.mem_cons.1 h with rfl | h
        · exact .inl rfl
        · exact .inr (List.mem_cons_of_mem _ h)
      · rcases List.mem_cons.1 h with rfl | h
        · exact .inl rfl
        · exact .inr h
theorem mem_delF {k : Bs} {l : Fl} {p : Bs × Bs} (h : p ∈ delF k l) : p ∈ l := by
  rw [delF_is] at h
  split at h
  · rcases List.mem_append.1 h with h | h
    · exact List.mem_of_mem_take h
    · exact List.mem_of_mem_drop h
  · exact h
theorem sort_putF {l : Fl} (k v : Bs) (h : SortF l) : SortF (putF k v l) := by
  induction l with
  | nil => exact List.pairwise_singleton _ _
  | cons p r ih =>
    obtain ⟨h1, h2⟩ := List.pairwise_cons.1 h
    rw [putF]
    split
    · rename_i hp
      refine List.pairwise_cons.2 ⟨fun q hq => ?_, ih h2⟩
      rcases mem_putF hq with rfl | hq
      · exact hp
      · exact h1 q hq
    · rename_i hp
      split
      · rename_i e
        exact List.pairwise_cons.2 ⟨fun q hq => by rw [← e]; exact h1 q hq, h2⟩
      · rename_i e
        have hk := b_tri hp e
        refine List.pairwise_cons.2 ⟨fun q hq => ?_, h⟩
        rcases List.mem_cons.1 hq with rfl | hq
        · exact hk
        · exact b_tr hk (h1 q hq)
theorem sort_delF {l : Fl} (k : Bs) (h : SortF l) : SortF (delF k l) := by
  induction l with
  | nil => exact List.Pairwise.nil
  | cons p r ih =>
    obtain ⟨h1, h2⟩ := List.pairwise_cons.1 h
    rw [delF]
    split
    · exact List.pairwise_cons.2 ⟨fun q hq => h1 q (mem_delF hq), ih h2⟩
    · split
      · exact h2
      · exact h
theorem getF_put {l : Fl} (hs : SortF l) (k v j : Bs) : getF j (putF k v l) = if j = k then some v else getF j l := by
  induction l with
  | nil =>
    show (if k < j then none else if k = j then some v else none) = if j = k then some v else none
    by_cases e : j = k
    · subst e; rw [if_neg (b_irr _)]
    · rw [if_neg e]
      split
      · rfl
      · rw [if_neg (fun h => e h.symm)]
  | cons p r ih =>
    obtain ⟨h1, h2⟩ := List.pairwise_cons.1 hs
    rw [putF]
    split
    · rename_i hp
      rw [getF, getF]
      by_cases e : p.1 < j
      · rw [if_pos e, if_pos e]; exact ih h2
      · rw [if_neg e, if_neg e]
        by_cases e2 : j = k
        · subst e2; exact absurd hp e
        · rw [if_neg e2]
    · rename_i hp
      split
      · rename_i e
        subst e
        rw [getF, getF]
        by_cases e2 : j = p.1
        · subst e2
          rw [if_neg (b_irr _)]; simp
        · rw [if_neg e2]
          split
          · rfl
          · rw [if_neg (fun h => e2 h.symm)]
            rw [if_neg (fun h => e2 h.symm)]
      · rename_i e
        have hk := b_tri hp e
        rw [getF]
        by_cases e2 : j = k
        · subst e2
          rw [if_neg (b_irr _)]; simp
        · rw [if_neg e2]
          split
          · rfl
          · rename_i hj
            rw [if_neg (fun h => e2 h.symm)]
            have hjk := b_tri hj (fun h => e2 h.symm)
            refine (getF_low fun q hq => ?_).symm
            rcases List.mem_cons.1 hq with rfl | hq
            · exact b_tr hjk hk
            · exact b_tr (b_tr hjk hk) (h1 q hq)
theorem getF_del {l : Fl} (hs : SortF l) (k j : Bs) : getF j (delF k l) = if j = k then none else getF j l := by
  induction l with
  | nil => simp [delF, getF]
  | cons p r ih =>
    obtain ⟨h1, h2⟩ := List.pairwise_cons.1 hs
    rw [delF]
    split
    · rename_i hp
      rw [getF, getF]
      by_cases e : p.1 < j
      · rw [if_pos e, if_pos e]; exact ih h2
      · rw [if_neg e, if_neg e]
        by_cases e2 : j = k
        · subst e2; exact absurd hp e
        · rw [if_neg e2]
    · rename_i hp
      split
      · rename_i e
        subst e
        by_cases e2 : j = p.1
        · subst e2
          rw [if_pos rfl]
          exact getF_low h1
        · rw [if_neg e2, getF]
          split
          · rfl
          · rename_i hj
            rw [if_neg (fun h => e2 h.symm)]
            have hjk := b_tri hj (fun h => e2 h.symm)
            exact getF_low fun q hq => b_tr hjk (h1 q hq)
      · rename_i e
        have hk := b_tri hp e
        by_cases e2 : j = k
        · subst e2
          rw [if_pos rfl]
          refine getF_low fun q hq => ?_
          rcases List.mem_cons.1 hq with rfl | hq
          · exact hk
          · exact b_tr hk (h1 q hq)
        · rw [if_neg e2]
theorem nodupF {l : Fl} (h : SortF l) : l.Nodup := by
  refine List.Pairwise.imp ?_ h
  intro p q g e
  rw [e] at g
  exact b_irr _ g
theorem sortF_ext {l m : Fl} (hl : SortF l) (hm : SortF m) (h : ∀ k, getF k l = getF k m) : l = m := by
  have n1 : l.Nodup := nodupF hl
  have n2 : m.Nodup := nodupF hm
  have hp : l.Perm m := (List.perm_ext_iff_of_nodup n1 n2).2 fun p => ⟨fun g => getF_mem ((h p.1).symm.trans (getF_of_mem hl g)), fun g => getF_mem ((h p.1).trans (getF_of_mem hm g))⟩
  exact List.Perm.eq_of_pairwise (le := fun p q : Bs × Bs => p.1 < q.1) (fun (a b : Bs × Bs) _ _ (g1 : a.1 < b.1) (g2 : b.1 < a.1) => absurd (b_tr g1 g2) (b_irr _)) hl hm hp
theorem len_putF (k v : Bs) (l : Fl) : (putF k v l).length ≤ l.length + 1 := by
  rw [putF_is]
  simp
  have := posF_le k l
  split <;> omega
theorem len_delF (k : Bs) (l : Fl) : (delF k l).length ≤ l.length := by
  rw [delF_is]
  split
  · simp
    omega
  · exact Nat.le_refl _
/-- A change. -/
structure Chg where
  k : Int
  nm : Bs
  to : Bs
  s : Bs
def Chg.ok (c : Chg) : Prop := (c.k = 0 ∨ c.k = 1 ∨ (c.k = 2 ∧ ¬ c.nm = c.to) ∨ c.k = 3) ∧ c.nm.length ≤ 32 ∧ c.to.length ≤ 32
def ofF (k : Bs) (l : Fl) : Bs := (getF k l).getD []
/-- Files behind a change. -/
def doF (l : Fl) (c : Chg) : Fl :=
  if c.k = 0 then putF c.nm (ofF c.nm l ++ c.s) l
  else if c.k = 1 then putF c.nm c.s l
  else if c.k = 2 then putF c.to (ofF c.nm l) (delF c.nm l)
  else delF c.nm l
theorem sort_doF {l : Fl} (c : Chg) (h : SortF l) : SortF (doF l c) := by
  unfold doF
  split
  · exact sort_putF _ _ h
  · split
    · exact sort_putF _ _ h
    · split
      · exact sort_putF _ _ (sort_delF _ h)
      · exact sort_delF _ h
def doneF (l : Fl) (L : List Chg) : Fl := L.foldl doF l
theorem doneF_snoc (l : Fl) (L : List Chg) (c : Chg) : doneF l (L ++ [c]) = doF (doneF l L) c := by
  unfold doneF
  rw [List.foldl_append]
  rfl
theorem len_doF (l : Fl) (c : Chg) : (doF l c).length ≤ l.length + 1 := by
  unfold doF
  split
  · exact len_putF _ _ _
  · split
    · exact len_putF _ _ _
    · split
      · exact Nat.le_trans (len_putF _ _ _) (by have := len_delF c.nm l; omega)
      · exact Nat.le_trans (len_delF _ _) (Nat.le_succ _)
theorem len_doneF (L : List Chg) (l : Fl) : (doneF l L).length ≤ l.length + L.length := by
  induction L generalizing l with
  | nil => exact Nat.le_refl _
  | cons c r ih =>
    have h1 := ih (doF l c)
    have h2 := len_doF l c
    show (doneF (doF l c) r).length ≤ _
    simp only [List.length_cons]
    omega
/-- All bytes of files are at most so many. -/
def FitF (B : Nat) (l : Fl) : Prop := ∀ p ∈ l, p.2.length ≤ B
theorem FitF.of {B : Nat} {l : Fl} (h : FitF B l) (k : Bs) : (ofF k l).length ≤ B := by
  unfold ofF
  cases e : getF k l with
  | none => exact Nat.zero_le _
  | some v => exact h _ (getF_mem e)
theorem FitF.mono {B C : Nat} {l : Fl} (h : FitF B l) (hb : B ≤ C) : FitF C l := fun p hp => Nat.le_trans (h p hp) hb
theorem FitF.doF {B : Nat} {l : Fl} (h : FitF B l) (c : Chg) : FitF (B + c.s.length) (doF l c) := by
  intro p hp
  unfold Go.Proofs.YtjemnkijoiehmaaGreatDoor.doF at hp
  split at hp
  · rcases mem_putF hp with rfl | hp
    · have := h.of c.nm
      simp
      omega
    · exact Nat.le_trans (h p hp) (Nat.le_add_right _ _)
  · split at hp
    · rcases mem_putF hp with rfl | hp
      · simp
      · exact Nat.le_trans (h p hp) (Nat.le_add_right _ _)
    · split at hp
      · rcases mem_putF hp with rfl | hp
        · have := h.of c.nm
          simp
          omega
        · exact Nat.le_trans (h p (mem_delF hp)) (Nat.le_add_right _ _)
      · exact Nat.le_trans (h p (mem_delF hp)) (Nat.le_add_right _ _)
end Go.Proofs.YtjemnkijoiehmaaGreatDoor
