import Derived.Sort.Walk0
import Derived.Below
import Derived.Test.YtnhjflebaeokeaaGreatStrM
import Derived.Test.YtnhjflebaeokeaaGreatNumM
import Derived.Test.YtnhjflebaeokeaaGreatProg
import Derived.Maps.OwnSet
import Derived.Sort.KeysCollected
import Derived.WalkKit
import Derived.OwnWalk
import Derived.WalkSpells
import Derived.WalkLawsBesides
section
/- Files on plain data: a list sorted by names; what is found, put and taken away; changes. -/
namespace Go.Proofs.YtnhjflebaeokeaaGreat
open Go.RowKit
abbrev Bs := List UInt8
abbrev Fl := List (Bs × Bs)
theorem b_irr (a : Bs) : ¬ a < a := List.lt_irrefl a
theorem b_tr {a b c : Bs} (h : a < b) (k : b < c) : a < c := List.lt_trans h k
theorem b_tri {a b : Bs} (h : ¬ a < b) (k : ¬ a = b) : b < a := by
  have h1 : b ≤ a := h
  by_cases e : b < a
  · exact e
  · exact absurd (List.le_antisymm (show a ≤ b from e) h1) k
theorem b_ne {a b : Bs} (h : a < b) : ¬ a = b := fun e => b_irr a (by rw [e] at h ⊢; exact h)
/-- Where a name stands, or would stand. -/
def posF (k : Bs) : Fl → Nat
  | [] => 0
  | p :: r => if p.1 < k then posF k r + 1 else 0
def getF (k : Bs) : Fl → Option Bs
  | [] => none
  | p :: r => if p.1 < k then getF k r else if p.1 = k then some p.2 else none
def putF (k v : Bs) : Fl → Fl
  | [] => [(k, v)]
  | p :: r => if p.1 < k then p :: putF k v r else if p.1 = k then (k, v) :: r else (k, v) :: p :: r
def delF (k : Bs) : Fl → Fl
  | [] => []
  | p :: r => if p.1 < k then p :: delF k r else if p.1 = k then r else p :: r
def SortF (l : Fl) : Prop := l.Pairwise (fun p q => p.1 < q.1)
theorem posF_le (k : Bs) (l : Fl) : posF k l ≤ l.length := by
  induction l with
  | nil => exact Nat.le_refl _
  | cons p r ih => unfold posF; split <;> simp <;> omega
theorem putF_is (k v : Bs) (l : Fl) : putF k v l = l.take (posF k l) ++ (k, v) :: l.drop (if (getF k l).isSome then posF k l + 1 else posF k l) := by
  induction l with
  | nil => rfl
  | cons p r ih =>
    by_cases hp : p.1 < k
    · rw [putF, if_pos hp, ih, posF, if_pos hp, getF, if_pos hp]
      cases (getF k r).isSome <;> simp
    · rw [putF, if_neg hp, posF, if_neg hp, getF, if_neg hp]
      by_cases e : p.1 = k <;> simp [e]
theorem delF_is (k : Bs) (l : Fl) : delF k l = if (getF k l).isSome then l.take (posF k l) ++ l.drop (posF k l + 1) else l := by
  induction l with
  | nil => rfl
  | cons p r ih =>
    by_cases hp : p.1 < k
    · rw [delF, if_pos hp, ih, posF, if_pos hp, getF, if_pos hp]
      cases (getF k r).isSome <;> simp
    · rw [delF, if_neg hp, posF, if_neg hp, getF, if_neg hp]
      by_cases e : p.1 = k <;> simp [e]
theorem getF_low {k : Bs} {l : Fl} (h : ∀ p ∈ l, k < p.1) : getF k l = none := by
  cases l with
  | nil => rfl
  | cons p r =>
    have := h p (by simp)
    have n1 : ¬ p.1 < k := fun g => b_irr _ (b_tr this g)
    rw [getF, if_neg n1, if_neg (fun e => b_ne this e.symm)]
theorem getF_mem {k v : Bs} {l : Fl} (h : getF k l = some v) : (k, v) ∈ l := by
  induction l with
  | nil => cases h
  | cons p r ih =>
    rw [getF] at h
    split at h
    · exact List.mem_cons_of_mem _ (ih h)
    · split at h
      · rename_i e
        cases h
        rw [← e]
        exact List.mem_cons_self
      · cases h
theorem getF_of_mem {l : Fl} (hs : SortF l) {p : Bs × Bs} (h : p ∈ l) : getF p.1 l = some p.2 := by
  induction l with
  | nil => cases h
  | cons q r ih =>
    rcases List.mem_cons.1 h with rfl | h
    · rw [getF, if_neg (b_irr _), if_pos rfl]
    · rw [getF, if_pos ((List.pairwise_cons.1 hs).1 p h)]
      exact ih (List.pairwise_cons.1 hs).2 h
theorem mem_putF {k v : Bs} {l : Fl} {p : Bs × Bs} (h : p ∈ putF k v l) : p = (k, v) ∨ p ∈ l := by
  induction l with
  | nil => exact .inl (by simpa [putF] using h)
  | cons q r ih =>
    rw [putF] at h
    split at h
    · rcases List.mem_cons.1 h with rfl | h
      · exact .inr List.mem_cons_self
      · rcases ih h with h | h
        · exact .inl h
        · exact .inr (List.mem_cons_of_mem _ h)
    · split at h
      · rcases List.mem_cons.1 h with rfl | h
        · exact .inl rfl
        · exact .inr (List.mem_cons_of_mem _ h)
      · rcases List.mem_cons.1 h with rfl | h
        · exact .inl rfl
        · exact .inr h
theorem mem_delF {k : Bs} {l : Fl} {p : Bs × Bs} (h : p ∈ delF k l) : p ∈ l := by
  rw [delF_is] at h
  split at h
  · rcases List.mem_append.1 h with h | h
    · exact List.mem_of_mem_take h
    · exact List.mem_of_mem_drop h
  · exact h
theorem sort_putF {l : Fl} (k v : Bs) (h : SortF l) : SortF (putF k v l) := by
  induction l with
  | nil => exact List.pairwise_singleton _ _
  | cons p r ih =>
    obtain ⟨h1, h2⟩ := List.pairwise_cons.1 h
    rw [putF]
    split
    · rename_i hp
      refine List.pairwise_cons.2 ⟨fun q hq => ?_, ih h2⟩
      rcases mem_putF hq with rfl | hq
      · exact hp
      · exact h1 q hq
    · rename_i hp
      split
      · rename_i e
        exact List.pairwise_cons.2 ⟨fun q hq => by rw [← e]; exact h1 q hq, h2⟩
      · rename_i e
        have hk := b_tri hp e
        refine List.pairwise_cons.2 ⟨fun q hq => ?_, h⟩
        rcases List.mem_cons.1 hq with rfl | hq
        · exact hk
        · exact b_tr hk (h1 q hq)
theorem sort_delF {l : Fl} (k : Bs) (h : SortF l) : SortF (delF k l) := by
  induction l with
  | nil => exact List.Pairwise.nil
  | cons p r ih =>
    obtain ⟨h1, h2⟩ := List.pairwise_cons.1 h
    rw [delF]
    split
    · exact List.pairwise_cons.2 ⟨fun q hq => h1 q (mem_delF hq), ih h2⟩
    · split
      · exact h2
      · exact h
theorem getF_put {l : Fl} (hs : SortF l) (k v j : Bs) : getF j (putF k v l) = if j = k then some v else getF j l := by
  induction l with
  | nil =>
    show (if k < j then none else if k = j then some v else none) = if j = k then some v else none
    by_cases e : j = k
    · subst e; rw [if_neg (b_irr _)]
    · rw [if_neg e]
      split
      · rfl
      · rw [if_neg (fun h => e h.symm)]
  | cons p r ih =>
    obtain ⟨h1, h2⟩ := List.pairwise_cons.1 hs
    rw [putF]
    split
    · rename_i hp
      rw [getF, getF]
      by_cases e : p.1 < j
      · rw [if_pos e, if_pos e]; exact ih h2
      · rw [if_neg e, if_neg e]
        by_cases e2 : j = k
        · subst e2; exact absurd hp e
        · rw [if_neg e2]
    · rename_i hp
      split
      · rename_i e
        subst e
        rw [getF, getF]
        by_cases e2 : j = p.1
        · subst e2
          rw [if_neg (b_irr _)]; simp
        · rw [if_neg e2]
          split
          · rfl
          · rw [if_neg (fun h => e2 h.symm)]
            rw [if_neg (fun h => e2 h.symm)]
      · rename_i e
        have hk := b_tri hp e
        rw [getF]
        by_cases e2 : j = k
        · subst e2
          rw [if_neg (b_irr _)]; simp
        · rw [if_neg e2]
          split
          · rfl
          · rename_i hj
            rw [if_neg (fun h => e2 h.symm)]
            have hjk := b_tri hj (fun h => e2 h.symm)
            refine (getF_low fun q hq => ?_).symm
            rcases List.mem_cons.1 hq with rfl | hq
            · exact b_tr hjk hk
            · exact b_tr (b_tr hjk hk) (h1 q hq)
theorem getF_del {l : Fl} (hs : SortF l) (k j : Bs) : getF j (delF k l) = if j = k then none else getF j l := by
  induction l with
  | nil => simp [delF, getF]
  | cons p r ih =>
    obtain ⟨h1, h2⟩ := List.pairwise_cons.1 hs
    rw [delF]
    split
    · rename_i hp
      rw [getF, getF]
      by_cases e : p.1 < j
      · rw [if_pos e, if_pos e]; exact ih h2
      · rw [if_neg e, if_neg e]
        by_cases e2 : j = k
        · subst e2; exact absurd hp e
        · rw [if_neg e2]
    · rename_i hp
      split
      · rename_i e
        subst e
        by_cases e2 : j = p.1
        · subst e2
          rw [if_pos rfl]
          exact getF_low h1
        · rw [if_neg e2, getF]
          split
          · rfl
          · rename_i hj
            rw [if_neg (fun h => e2 h.symm)]
            have hjk := b_tri hj (fun h => e2 h.symm)
            exact getF_low fun q hq => b_tr hjk (h1 q hq)
      · rename_i e
        have hk := b_tri hp e
        by_cases e2 : j = k
        · subst e2
          rw [if_pos rfl]
          refine getF_low fun q hq => ?_
          rcases List.mem_cons.1 hq with rfl | hq
          · exact hk
          · exact b_tr hk (h1 q hq)
        · rw [if_neg e2]
theorem nodupF {l : Fl} (h : SortF l) : l.Nodup := by
  refine List.Pairwise.imp ?_ h
  intro p q g e
  rw [e] at g
  exact b_irr _ g
theorem sortF_ext {l m : Fl} (hl : SortF l) (hm : SortF m) (h : ∀ k, getF k l = getF k m) : l = m := by
  have n1 : l.Nodup := nodupF hl
  have n2 : m.Nodup := nodupF hm
  have hp : l.Perm m := (List.perm_ext_iff_of_nodup n1 n2).2 fun p => ⟨fun g => getF_mem ((h p.1).symm.trans (getF_of_mem hl g)), fun g => getF_mem ((h p.1).trans (getF_of_mem hm g))⟩
  exact List.Perm.eq_of_pairwise (le := fun p q : Bs × Bs => p.1 < q.1) (fun (a b : Bs × Bs) _ _ (g1 : a.1 < b.1) (g2 : b.1 < a.1) => absurd (b_tr g1 g2) (b_irr _)) hl hm hp
theorem len_putF (k v : Bs) (l : Fl) : (putF k v l).length ≤ l.length + 1 := by
  rw [putF_is]
  simp
  have := posF_le k l
  split <;> omega
theorem len_delF (k : Bs) (l : Fl) : (delF k l).length ≤ l.length := by
  rw [delF_is]
  split
  · simp
    omega
  · exact Nat.le_refl _
/-- A change. -/
structure Chg where
  k : Int
  nm : Bs
  to : Bs
  s : Bs
def Chg.ok (c : Chg) : Prop := (c.k = 0 ∨ c.k = 1 ∨ (c.k = 2 ∧ ¬ c.nm = c.to) ∨ c.k = 3) ∧ c.nm.length ≤ 32 ∧ c.to.length ≤ 32
def ofF (k : Bs) (l : Fl) : Bs := (getF k l).getD []
/-- Files behind a change. -/
def doF (l : Fl) (c : Chg) : Fl :=
  if c.k = 0 then putF c.nm (ofF c.nm l ++ c.s) l
  else if c.k = 1 then putF c.nm c.s l
  else if c.k = 2 then putF c.to (ofF c.nm l) (delF c.nm l)
  else delF c.nm l
theorem sort_doF {l : Fl} (c : Chg) (h : SortF l) : SortF (doF l c) := by
  unfold doF
  split
  · exact sort_putF _ _ h
  · split
    · exact sort_putF _ _ h
    · split
      · exact sort_putF _ _ (sort_delF _ h)
      · exact sort_delF _ h
def doneF (l : Fl) (L : List Chg) : Fl := L.foldl doF l
theorem sort_doneF {l : Fl} (L : List Chg) (h : SortF l) : SortF (doneF l L) := by
  induction L generalizing l with
  | nil => exact h
  | cons c r ih => exact ih (sort_doF c h)
theorem doneF_snoc (l : Fl) (L : List Chg) (c : Chg) : doneF l (L ++ [c]) = doF (doneF l L) c := by
  unfold doneF
  rw [List.foldl_append]
  rfl
theorem len_doF (l : Fl) (c : Chg) : (doF l c).length ≤ l.length + 1 := by
  unfold doF
  split
  · exact len_putF _ _ _
  · split
    · exact len_putF _ _ _
    · split
      · exact Nat.le_trans (len_putF _ _ _) (by have := len_delF c.nm l; omega)
      · exact Nat.le_trans (len_delF _ _) (Nat.le_succ _)
theorem len_doneF (L : List Chg) (l : Fl) : (doneF l L).length ≤ l.length + L.length := by
  induction L generalizing l with
  | nil => exact Nat.le_refl _
  | cons c r ih =>
    have h1 := ih (doF l c)
    have h2 := len_doF l c
    show (doneF (doF l c) r).length ≤ _
    simp only [List.length_cons]
    omega
/-- All bytes of files are at most so many. -/
def FitF (B : Nat) (l : Fl) : Prop := ∀ p ∈ l, p.2.length ≤ B
theorem FitF.of {B : Nat} {l : Fl} (h : FitF B l) (k : Bs) : (ofF k l).length ≤ B := by
  unfold ofF
  cases e : getF k l with
  | none => exact Nat.zero_le _
  | some v => exact h _ (getF_mem e)
theorem FitF.mono {B C : Nat} {l : Fl} (h : FitF B l) (hb : B ≤ C) : FitF C l := fun p hp => Nat.le_trans (h p hp) hb
theorem FitF.doF {B : Nat} {l : Fl} (h : FitF B l) (c : Chg) : FitF (B + c.s.length) (doF l c) := by
  intro p hp
  unfold Go.Proofs.YtnhjflebaeokeaaGreat.doF at hp
  split at hp
  · rcases mem_putF hp with rfl | hp
    · have := h.of c.nm
      simp
      omega
    · exact Nat.le_trans (h p hp) (Nat.le_add_right _ _)
  · split at hp
    · rcases mem_putF hp with rfl | hp
      · simp
      · exact Nat.le_trans (h p hp) (Nat.le_add_right _ _)
    · split at hp
      · rcases mem_putF hp with rfl | hp
        · have := h.of c.nm
          simp
          omega
        · exact Nat.le_trans (h p (mem_delF hp)) (Nat.le_add_right _ _)
      · exact Nat.le_trans (h p (mem_delF hp)) (Nat.le_add_right _ _)
end Go.Proofs.YtnhjflebaeokeaaGreat
end

section
/- A map of names to files in memory: what it says, look-ups, updates, deletions. -/
namespace Go.Proofs.YtnhjflebaeokeaaGreat
open Go.RowKit Go.Maps
/-- How a file reads. -/
def fileR (v : Value) : Option (DataW Unit × List MemPlace) :=
  match v with
  | .agg cs => match cs.toList with
    | [.string s] => some (.lit (.string s.data.toList), [])
    | _ => none
  | _ => none
theorem fileR_mk (v : Bs) : fileR (.agg #[.string (str v)]) = some (.lit (.string v), []) := rfl
theorem fileR_inv {v : Value} {z : DataW Unit × List MemPlace} (h : fileR v = some z) : ∃ x, v = .agg #[.string (str x)] ∧ z = (.lit (.string x), []) := by
  unfold fileR at h
  split at h
  · rename_i cs
    split at h
    · rename_i s e
      cases h
      refine ⟨s.data.toList, ?_, rfl⟩
      rw [str_data, ← Array.toArray_toList (xs := cs), e]
    · cases h
  · cases h
theorem lawS : Keyed Tryz.prog 9 := string_keyed Tryz.underlying9
theorem keyS {k : Bs} (h : k.length ≤ maxLen) : keyOf Tryz.prog 9 (.string (str k)) = some (.string k) := WideMaps.keyOf_string_mk Tryz.underlying9 h
theorem zeroF (w : World) : (zeroValue 132).run Tryz.prog w = .ok (.agg #[.string (str [])]) w := by kernel_rfl
/-- A map that says what the files are. -/
def FMap (w : World) (b : Nat) (l : Fl) : Prop := SortF l ∧ ∃ D : DataW Unit, (∃ n, w.ownsMap Tryz.prog 9 fileR b n D) ∧ ∀ k : Bs, Maps.has D (.string k) = (getF k l).isSome ∧ D.atKey (.string k) (.lit (.string [])) = .lit (.string (ofF k l))
theorem FMap.same {w w' : World} {b : Nat} {l : Fl} (h : FMap w b l) (e : w'.heap[b]? = w.heap[b]?) : FMap w' b l := by
  obtain ⟨hs, D, ⟨n, es, clock, hb, r⟩, hat⟩ := h
  exact ⟨hs, D, ⟨n, es, clock, e.trans hb, r⟩, hat⟩
theorem FMap.lt {w : World} {b : Nat} {l : Fl} (h : FMap w b l) : b < w.heap.size := by
  obtain ⟨_, D, ⟨_, h⟩, _⟩ := h
  exact h.lt
theorem FMap.isMap {w : World} {b : Nat} {l : Fl} (h : FMap w b l) : ∃ es c, w.heap[b]? = some (.map es c) := by
  obtain ⟨hs, D, ⟨n, es, clock, hb, r⟩, hat⟩ := h
  exact ⟨es, clock, hb⟩
theorem FMap.made (w : World) : FMap (w.alloc (.map #[] 0)) w.heap.size [] := ⟨List.Pairwise.nil, _, ⟨0, World.ownsMap_made w _ _ _⟩, fun _ => ⟨rfl, rfl⟩⟩
theorem own_tight {w : World} {b n : Nat} {D : DataW Unit} (h : w.ownsMap Tryz.prog 9 fileR b n D) : w.ownsMap Tryz.prog 9 fileR b (Maps.size D) D := by
  obtain ⟨es, clock, hb, F, _, rfl⟩ := h
  exact ⟨es, clock, hb, F, by simp [Maps.size, length_sorted], rfl⟩
theorem keys_perm {w : World} {b n : Nat} {D : DataW Unit} {l : Fl} (hs : SortF l) (h : w.ownsMap Tryz.prog 9 fileR b n D) (hat : ∀ k : Bs, Maps.has D (.string k) = (getF k l).isSome) : (l.map (·.1)).Perm (strKeys D) := by
  obtain ⟨es, rfl, hp, _⟩ := h.entries lawS
  obtain ⟨es', e, hk⟩ := h.keysOf
  cases e
  refine perm_strKeys hp (fun p hp => ?_) ?_ fun x => ?_
  · obtain ⟨key, hkey⟩ := hk p hp
    obtain ⟨x, _, hx, _⟩ := Maps.keyOf_str Tryz.underlying9 hkey
    exact ⟨x, hx⟩
  · refine List.pairwise_map.2 (List.Pairwise.imp ?_ hs)
    intro p q g e
    rw [e] at g
    exact b_irr _ g
  · rw [hat x]
    constructor
    · intro hx
      obtain ⟨p, hp, rfl⟩ := List.mem_map.1 hx
      rw [getF_of_mem hs hp]
      rfl
    · intro hx
      obtain ⟨v, hv⟩ := Option.isSome_iff_exists.1 hx
      exact List.mem_map.2 ⟨_, getF_mem hv, rfl⟩
theorem size_is {w : World} {b n : Nat} {D : DataW Unit} {l : Fl} (hs : SortF l) (h : w.ownsMap Tryz.prog 9 fileR b n D) (hat : ∀ k : Bs, Maps.has D (.string k) = (getF k l).isSome) : Maps.size D = l.length := by
  have hp := (keys_perm hs h hat).length_eq
  obtain ⟨es, rfl, _, _⟩ := h.entries lawS
  rw [List.length_map] at hp
  simpa [strKeys, Maps.size] using hp.symm
theorem FMap.look {w : World} {b : Nat} {l : Fl} (h : FMap w b l) {k : Bs} (hk : k.length ≤ maxLen) : (Instr.lookup 80 (.map (some b)) (.string (str k)) false).run Tryz.prog w = .ok (.agg #[.string (str (ofF k l))]) w := by
  obtain ⟨_, D, ⟨n, h⟩, hat⟩ := h
  obtain ⟨v, ps, hrun, hv⟩ := h.lookup lawS Tryz.underlying80 (z := .agg #[.string (str [])]) (zeroF w) (fileR_mk []) (keyS hk)
  obtain ⟨x, rfl, hz⟩ := fileR_inv hv
  rw [(hat k).2] at hz
  simp only [Prod.mk.injEq, DataW.lit.injEq, Lit.string.injEq] at hz
  rw [hrun, hz.1]
theorem FMap.lookOk {w : World} {b : Nat} {l : Fl} (h : FMap w b l) {k : Bs} (hk : k.length ≤ maxLen) : (Instr.lookup 80 (.map (some b)) (.string (str k)) true).run Tryz.prog w = .ok (.tuple #[.agg #[.string (str (ofF k l))], .bool (getF k l).isSome]) w := by
  obtain ⟨_, D, ⟨n, h⟩, hat⟩ := h
  obtain ⟨v, ps, hrun, hv⟩ := h.look_ok lawS Tryz.underlying80 (z := .agg #[.string (str [])]) (zeroF w) (fileR_mk []) (keyS hk)
  obtain ⟨x, rfl, hz⟩ := fileR_inv hv
  rw [(hat k).2] at hz
  simp only [Prod.mk.injEq, DataW.lit.injEq, Lit.string.injEq] at hz
  rw [hrun, hz.1, (hat k).1]
theorem nil_look {w : World} {k : Bs} (hk : k.length ≤ maxLen) : (Instr.lookup 80 (.map none) (.string (str k)) true).run Tryz.prog w = .ok (.tuple #[.agg #[.string (str [])], .bool false]) w := by
  have := Maps.look_nil (w := w) true lawS Tryz.underlying80 (zeroF w) (keyS hk)
  simpa using this
theorem skey_ne {i j : Bs} (h : i ≠ j) : (Lit.string i) ≠ (Lit.string j) := by
  intro e
  cases e
  exact h rfl
theorem ofF_put {l : Fl} (hs : SortF l) (k v j : Bs) : ofF j (putF k v l) = if j = k then v else ofF j l := by
  unfold ofF
  rw [getF_put hs]
  split <;> rfl
theorem ofF_del {l : Fl} (hs : SortF l) (k j : Bs) : ofF j (delF k l) = if j = k then [] else ofF j l := by
  unfold ofF
  rw [getF_del hs]
  split <;> rfl
theorem FMap.put {w : World} {b : Nat} {l : Fl} (h : FMap w b l) (hn : l.length < maxLen) {k : Bs} (hk : k.length ≤ maxLen) (v : Bs) : ∃ w', (Instr.mapUpdate 80 (.map (some b)) (.string (str k)) (.agg #[.string (str v)])).run Tryz.prog w = .ok () w' ∧ FMap w' b (putF k v l) ∧ Fr w w' (fun j => j = b) := by
  obtain ⟨hs, D, ⟨n, h⟩, hat⟩ := h
  have ht := own_tight h
  rw [size_is hs h (fun k => (hat k).1)] at ht
  obtain ⟨w', hrun, h1, h2⟩ := ht.store lawS Tryz.underlying80 hn (keyS hk) (fileR_mk v)
  refine ⟨w', hrun, ⟨sort_putF _ _ hs, _, ⟨_, h1⟩, fun y => ?_⟩, Fr.grown h2.grown (fun k e => by cases e; rfl)⟩
  rw [getF_put hs, ofF_put hs]
  by_cases e : y = k
  · subst e
    rw [if_pos rfl, if_pos rfl, atKey_put_same h.isMap (show WideAt.IsKeyLit (.string y) from trivial), has_put_same h.isMap (show WideAt.IsKeyLit (.string y) from trivial)]
    exact ⟨rfl, rfl⟩
  · rw [if_neg e, if_neg e, atKey_put_other (skey_ne e), has_put_other (skey_ne e)]
    exact hat y
theorem FMap.del {w : World} {b : Nat} {l : Fl} (h : FMap w b l) {k : Bs} (hk : k.length ≤ maxLen) (ty : TypeId) : ∃ w', (Builtin.delete_ #[80, 9] ty #[.map (some b), .string (str k)]).run Tryz.prog w = .ok (.tuple #[]) w' ∧ FMap w' b (delF k l) ∧ Fr w w' (fun j => j = b) := by
  obtain ⟨hs, D, ⟨n, h⟩, hat⟩ := h
  obtain ⟨w', hrun, h1, h2⟩ := h.drop lawS Tryz.underlying80 (keyS hk) ty
  refine ⟨w', hrun, ⟨sort_delF _ hs, _, ⟨_, h1⟩, fun y => ?_⟩, Fr.grown h2.grown (fun k e => by cases e; rfl)⟩
  rw [getF_del hs, ofF_del hs]
  by_cases e : y = k
  · subst e
    rw [if_pos rfl, if_pos rfl, atKey_del_same, has_del_same]
    exact ⟨rfl, rfl⟩
  · rw [if_neg e, if_neg e, atKey_del_other (skey_ne e), has_del_other (skey_ne e)]
    exact hat y
/-- The same map, told by another list. -/
theorem FMap.ext {w : World} {b : Nat} {l m : Fl} (h : FMap w b l) (hm : SortF m) (e : ∀ k, getF k l = getF k m) : FMap w b m := by
  rw [← sortF_ext h.1 hm e]
  exact h
/-- A map, or none. -/
def MapAt (w : World) (mb : Option Nat) (l : Fl) : Prop := match mb with
  | none => l = []
  | some b => FMap w b l
theorem MapAt.sort {w : World} {mb : Option Nat} {l : Fl} (h : MapAt w mb l) : SortF l := by
  cases mb with
  | none => rw [show l = [] from h]; exact List.Pairwise.nil
  | some b => exact (show FMap w b l from h).1
theorem MapAt.look {w : World} {mb : Option Nat} {l : Fl} (h : MapAt w mb l) {k : Bs} (hk : k.length ≤ maxLen) : (Instr.lookup 80 (.map mb) (.string (str k)) true).run Tryz.prog w = .ok (.tuple #[.agg #[.string (str (ofF k l))], .bool (getF k l).isSome]) w := by
  cases mb with
  | none => rw [show l = [] from h]; exact nil_look hk
  | some b => exact FMap.lookOk h hk
end Go.Proofs.YtnhjflebaeokeaaGreat
end

section
/- Which texts may be names: both functions answer alike. -/
namespace Go.Proofs.YtnhjflebaeokeaaGreat
open Go.RowKit
def inB (c : UInt8) : Bool := decide (97 ≤ c.toNat ∧ c.toNat ≤ 122) || decide (48 ≤ c.toNat ∧ c.toNat ≤ 57) || decide (c.toNat = 46) || decide (c.toNat = 45)
def nameB (l : List UInt8) : Bool := decide (1 ≤ l.length ∧ l.length ≤ 32) && l.all inB
set_option maxHeartbeats 400000 in
theorem inname_any (c : UInt8) (w : World) : Calls Tryz.prog 154 #[.int .u8 c.toNat] w fun r w' => r = .returned (.bool (inB c)) ∧ w' = w := by
  have h0 := c.toNat_lt
  have key : ∀ n : Nat, c.toNat = n → inB c = (decide (97 ≤ n ∧ n ≤ 122) || decide (48 ≤ n ∧ n ≤ 57) || decide (n = 46) || decide (n = 45)) := fun n e => by subst e; rfl
  generalize c.toNat = n at *
  have K := key n rfl
  clear key
  generalize inB c = b at K ⊢
  have HK : Hid (b = (decide (97 ≤ n ∧ n ≤ 122) || decide (48 ≤ n ∧ n ≤ 57) || decide (n = 46) || decide (n = 45))) := K
  clear K
  go_enter Tryz.func154, Tryz.ntmps154
  go_wp2
  all_goals (go_ret; refine ⟨?_, rfl⟩; rw [HK.out])
  all_goals (refine congrArg Ending.returned (congrArg Value.bool ?_); rw [Bool.eq_iff_iff]; simp; try omega)
theorem take_all {l : List UInt8} {k : Nat} (h : ∀ c ∈ l.take k, inB c = true) (hk : l.length ≤ k) : l.all inB = true := by
  rw [List.take_of_length_le hk] at h
  exact List.all_eq_true.2 h
theorem take_more {s : ByteArray} {k : Nat} (hlt : k < s.size) (h : ∀ c ∈ s.data.toList.take k, inB c = true) (hc : inB s[k] = true) : ∀ c ∈ s.data.toList.take (k + 1), inB c = true := by
  have hl : k < s.data.toList.length := by simpa using hlt
  intro c hm
  rw [List.take_succ_eq_append_getElem hl, List.mem_append, List.mem_singleton] at hm
  rcases hm with hm | rfl
  · exact h c hm
  · simpa [ByteArray.getElem_eq_getElem_data] using hc
theorem not_all {s : ByteArray} {k : Nat} (hlt : k < s.size) (hc : inB s[k] = false) : nameB s.data.toList = false := by
  have hl : k < s.data.toList.length := by simpa using hlt
  unfold nameB
  rw [Bool.and_eq_false_iff]
  refine .inr ?_
  rw [List.all_eq_false]
  exact ⟨s.data.toList[k], List.getElem_mem hl, by simpa [ByteArray.getElem_eq_getElem_data] using hc⟩
theorem name_long {s : ByteArray} (h : ¬ (1 ≤ s.size ∧ s.size ≤ 32)) : nameB s.data.toList = false := by
  unfold nameB
  rw [Bool.and_eq_false_iff]
  refine .inl (decide_eq_false ?_)
  simpa using h
theorem name_ok {s : ByteArray} (h : 1 ≤ s.size ∧ s.size ≤ 32) {k : Nat} (ha : ∀ c ∈ s.data.toList.take k, inB c = true) (hk : s.size ≤ k) : nameB s.data.toList = true := by
  unfold nameB
  rw [Bool.and_eq_true]
  exact ⟨decide_eq_true (by simpa using h), take_all ha (by simpa using hk)⟩
set_option maxHeartbeats 400000 in
theorem name_any (s : ByteArray) (w : World) (hs : s.size ≤ maxLen) : Calls Tryz.prog 130 #[.string s] w fun r w' => r = .returned (.bool (nameB s.data.toList)) ∧ w' = w := by
  unfold maxLen at hs
  by_cases hlen : 1 ≤ s.size ∧ s.size ≤ 32
  · obtain ⟨h1, h2⟩ := hlen
    have HA : Hid (1 ≤ s.size ∧ s.size ≤ 32) := ⟨h1, h2⟩
    go_enter Tryz.func130, Tryz.ntmps130
    go_wp2
    go_loop [3, 14] (fun _ i => ∃ k : Nat, k ≤ s.size ∧ i = .int .i64 k ∧ ∀ c ∈ s.data.toList.take k, inB c = true) (fun _ i => s.size - (intOf i).toNat)
    case atStart => exact ⟨0, Nat.zero_le _, rfl, by simp⟩
    case round =>
      obtain ⟨k, hk, rfl, ha⟩ := hrel
      by_cases hlt : k < s.size
      · have HT : Hid (∀ c ∈ s.data.toList.take k, inB c = true) := ha
        clear ha
        cases hc : inB s[k] with
        | true =>
          have hC : Calls Tryz.prog 154 #[.int .u8 (s[k].toNat : Nat)] w fun r w' => r = .returned (.bool true) ∧ w' = w := by rw [← hc]; exact inname_any _ w
          have HC : Hid (inB s[k] = true) := hc
          clear hc
          go_wp2_with (go_at_call 154; refine hC.mono ?_; rintro r w' ⟨rfl, rfl⟩)
          go_round
          case rel => exact ⟨k + 1, by omega, by go_num, take_more hlt HT.out HC.out⟩
          case measure => simp [intOf]; omega
        | false =>
          have hC : Calls Tryz.prog 154 #[.int .u8 (s[k].toNat : Nat)] w fun r w' => r = .returned (.bool false) ∧ w' = w := by rw [← hc]; exact inname_any _ w
          have HC : Hid (inB s[k] = false) := hc
          clear hc
          go_wp2_with (go_at_call 154; refine hC.mono ?_; rintro r w' ⟨rfl, rfl⟩)
          go_ret
          exact ⟨by rw [not_all hlt HC.out]; rfl, rfl⟩
      · have HT : Hid (nameB s.data.toList = true) := name_ok HA.out ha (by omega)
        clear ha
        go_wp2
        go_ret
        exact ⟨by rw [HT.out]; rfl, rfl⟩
  · have HF : Hid (nameB s.data.toList = false) := name_long hlen
    by_cases h1 : s.size < 1
    · go_enter Tryz.func130, Tryz.ntmps130
      go_wp2
      go_ret
      exact ⟨by rw [HF.out]; rfl, rfl⟩
    · have h2 : 32 < s.size := by omega
      go_enter Tryz.func130, Tryz.ntmps130
      go_wp2
      go_ret
      exact ⟨by rw [HF.out]; rfl, rfl⟩
end Go.Proofs.YtnhjflebaeokeaaGreat
end

section
/- A disk as it lies in memory: its block, the maps of files, the row of loose changes. -/
namespace Go.Proofs.YtnhjflebaeokeaaGreat
open Go.RowKit Go.Maps
variable {Xm : Nat → Prop}
def chCells (c : Chg) : List Value := [.int .i64 c.k, .string (str c.nm), .string (str c.to), .string (str c.s)]
/-- A disk on plain data: what is sure, what is loose, how many changes there were, is it dead, the slice of its plan. -/
structure Dk where
  sure : Fl
  loose : List Chg
  n : Nat
  dead : Bool
  pv : Value
def Dk.now (A : Dk) : Fl := doneF A.sure A.loose
/-- Blocks that a disk writes: maps, disks, rows of changes, but none of others' (Xm). -/
def DkB (Xm : Nat → Prop) (w : World) (k : Nat) : Prop := ((∃ es c, w.heap[k]? = some (.map es c)) ∨ ∃ c t f, w.heap[k]? = some (.cells c t f) ∧ (t = 83 ∨ t = 122)) ∧ ¬ Xm k
/-- What a call on a disk leaves alone. -/
def FrD (Xm : Nat → Prop) (B : Nat) (w w' : World) : Prop := Fr w w' (fun k => B ≤ k ∧ DkB Xm w k)
theorem FrD.refl (B : Nat) (w : World) : FrD Xm B w w := Fr.refl _ _
theorem FrD.trans {B : Nat} {a b c : World} (h : FrD Xm B a b) (k : FrD Xm B b c) : FrD Xm B a c := by
  refine ⟨k.os.trans h.os, k.tape.trans h.tape, k.output.trans h.output, Nat.le_trans h.size k.size, fun i hi hn => ?_⟩
  have e := h.block i hi hn
  refine (k.block i (Nat.lt_of_lt_of_le hi h.size) (fun ⟨h1, h2⟩ => hn ⟨h1, ?_⟩)).trans e
  unfold DkB at h2 ⊢
  rw [← e]
  exact h2
theorem FrD.new {B : Nat} {w w' : World} (h : Below w.heap.size w w') : FrD Xm B w w' := Fr.ofBelow h _
theorem FrD.below {B : Nat} {w w' : World} (h : FrD Xm B w w') (hB : B ≤ w.heap.size) : Below B w w' := Fr.below h hB (fun _ hk => hk.1)
theorem lt_blk {w : World} {k : Nat} {o : Obj} (h : w.heap[k]? = some o) : k < w.heap.size := (Array.getElem?_eq_some_iff.1 h).1
structure DA (Xm : Nat → Prop) (w : World) (B p : Nat) (A : Dk) (mn ms : Option Nat) (lv : Value) : Prop where
  blk : w.heap[p]? = some (.cells #[.map mn, .map ms, lv, A.pv, .int .i64 A.n, .bool A.dead] 83 (0, 0))
  now : MapAt w mn A.now
  sure : MapAt w ms A.sure
  two : (mn = none ∧ ms = none ∧ A.loose = []) ∨ ∃ a b, mn = some a ∧ ms = some b ∧ a ≠ b
  row : w.ownsRow B 122 4 lv A.loose.length (A.loose.flatMap chCells)
  ok : ∀ c ∈ A.loose, c.ok
  hp : B ≤ p
  hn : ∀ k, mn = some k → B ≤ k
  hs : ∀ k, ms = some k → B ≤ k
  nx : ∀ k, k = p ∨ mn = some k ∨ ms = some k ∨ lv.ownBlock = some k → ¬ Xm k
  lx : ∀ k, Xm k → k < w.heap.size
def DkAt (Xm : Nat → Prop) (w : World) (B p : Nat) (A : Dk) : Prop := ∃ mn ms lv, DA Xm w B p A mn ms lv
theorem MapAt.kept {w w' : World} {mb : Option Nat} {l : Fl} (h : MapAt w mb l) {S : Nat → Prop} (f : Fr w w' S) (hS : ∀ k, mb = some k → ¬ S k) : MapAt w' mb l := by
  cases mb with
  | none => exact h
  | some b => exact FMap.same h (f.block b (FMap.lt h) (hS b rfl))
theorem row_keep {w w' : World} {base : Nat} {e : TypeId} {size : Nat} {v : Value} {n : Nat} {xs : List Value} {S : Nat → Prop} (h : w.ownsRow base e size v n xs) (f : Fr w w' S) (hS : ∀ k, v.ownBlock = some k → ¬ S k) : w'.ownsRow base e size v n xs := by
  refine ⟨h.1, ?_⟩
  rcases h.2 with h2 | ⟨g, cap, cur, rfl, h3, h4, h5⟩
  · exact Or.inl h2
  · exact Or.inr ⟨g, cap, cur, rfl, h3, (f.block g (lt_blk h4) (hS g rfl)).trans h4, h5⟩
theorem row_tag {w : World} {base : Nat} {e : TypeId} {size : Nat} {v : Value} {n : Nat} {xs : List Value} (h : w.ownsRow base e size v n xs) {k : Nat} (hk : v.ownBlock = some k) : base ≤ k ∧ ∃ c f, w.heap[k]? = some (.cells c e f) := by
  rcases h.2 with ⟨h2, _⟩ | ⟨g, cap, cur, rfl, h3, h4, h5⟩
  · rw [h2] at hk; cases hk
  · cases hk
    exact ⟨h3, _, _, h4⟩
theorem map_tag {w : World} {mb : Option Nat} {l : Fl} (h : MapAt w mb l) {k : Nat} (hk : mb = some k) : ∃ es c, w.heap[k]? = some (.map es c) := by
  subst hk
  exact FMap.isMap h
section
variable {w w' : World} {B p : Nat} {A : Dk} {mn ms : Option Nat} {lv : Value}
theorem DA.plt (h : DA Xm w B p A mn ms lv) : p < w.heap.size := lt_blk h.blk
theorem DA.kept (h : DA Xm w B p A mn ms lv) {S : Nat → Prop} (f : Fr w w' S) (hS : ∀ k, S k → k ≠ p ∧ mn ≠ some k ∧ ms ≠ some k ∧ lv.ownBlock ≠ some k) : DA Xm w' B p A mn ms lv :=
  { h with
    blk := (f.block p h.plt (fun s => (hS p s).1 rfl)).trans h.blk
    now := h.now.kept f (fun k e s => (hS k s).2.1 e)
    sure := h.sure.kept f (fun k e s => (hS k s).2.2.1 e)
    row := row_keep h.row f (fun k e s => (hS k s).2.2.2 e)
    lx := fun k hk => Nat.lt_of_lt_of_le (h.lx k hk) f.size }
theorem DA.new (h : DA Xm w B p A mn ms lv) (hb : Below w.heap.size w w') : DA Xm w' B p A mn ms lv := h.kept (Fr.ofBelow hb (fun _ => False)) (fun _ f => f.elim)
theorem DkAt.new (h : DkAt Xm w B p A) (hb : Below w.heap.size w w') : DkAt Xm w' B p A := by
  obtain ⟨mn, ms, lv, h⟩ := h
  exact ⟨mn, ms, lv, h.new hb⟩
/-- Blocks that are new are no maps of the disk. -/
theorem DkAt.others (h : DkAt Xm w B p A) (hb : Below w.heap.size w w') : DkAt (fun k => Xm k ∨ (w.heap.size ≤ k ∧ k < w'.heap.size)) w' B p A := by
  obtain ⟨mn, ms, lv, h⟩ := h
  have h' := h.new hb
  refine ⟨mn, ms, lv, { h' with nx := fun k e hx => ?_, lx := fun k hx => ?_ }⟩
  · rcases hx with hx | hx
    · exact h.nx k e hx
    · rcases e with e | e | e | e
      · have := h.plt
        omega
      · obtain ⟨es, c, hm⟩ := map_tag h.now e
        have := lt_blk hm
        omega
      · obtain ⟨es, c, hm⟩ := map_tag h.sure e
        have := lt_blk hm
        omega
      · obtain ⟨_, c, f, hm⟩ := row_tag h.row e
        have := lt_blk hm
        omega
  · rcases hx with hx | hx
    · exact h'.lx k hx
    · exact hx.2
theorem DkAt.kept (h : DkAt Xm w B p A) {S : Nat → Prop} (f : Fr w w' S) (hS : ∀ k, S k → Xm k) : DkAt Xm w' B p A := by
  obtain ⟨mn, ms, lv, h⟩ := h
  exact ⟨mn, ms, lv, h.kept f (fun k s => ⟨fun e => h.nx k (.inl e) (hS k s), fun e => h.nx k (.inr (.inl e)) (hS k s), fun e => h.nx k (.inr (.inr (.inl e))) (hS k s), fun e => h.nx k (.inr (.inr (.inr e))) (hS k s)⟩)⟩
theorem DA.cells (h : DA Xm w B p A mn ms lv) : w.cell? ⟨p, 0, none⟩ = some (.map mn) ∧ w.cell? ⟨p, 1, none⟩ = some (.map ms) ∧ w.cell? ⟨p, 2, none⟩ = some lv ∧ w.cell? ⟨p, 3, none⟩ = some A.pv ∧ w.cell? ⟨p, 4, none⟩ = some (.int .i64 A.n) ∧ w.cell? ⟨p, 5, none⟩ = some (.bool A.dead) := by
  have := h.blk
  simp [World.cell?, this]
theorem DA.free (h : DA Xm w B p A mn ms lv) : ∀ i, w.frozen? ⟨p, i, none⟩ = false := by
  have := h.blk
  intro i
  simp [World.frozen?, this]
/-- The blocks of a disk are apart. -/
theorem DA.pmap (h : DA Xm w B p A mn ms lv) : mn ≠ some p ∧ ms ≠ some p := by
  refine ⟨fun e => ?_, fun e => ?_⟩
  · obtain ⟨es, c, hb⟩ := map_tag h.now e
    rw [h.blk] at hb; cases hb
  · obtain ⟨es, c, hb⟩ := map_tag h.sure e
    rw [h.blk] at hb; cases hb
theorem DA.prow (h : DA Xm w B p A mn ms lv) : lv.ownBlock ≠ some p := by
  intro e
  obtain ⟨_, c, f, hb⟩ := row_tag h.row e
  rw [h.blk] at hb
  cases hb
theorem DA.mrow (h : DA Xm w B p A mn ms lv) {k : Nat} (hk : lv.ownBlock = some k) : mn ≠ some k ∧ ms ≠ some k := by
  obtain ⟨_, c, f, hb⟩ := row_tag h.row hk
  refine ⟨fun e => ?_, fun e => ?_⟩
  · obtain ⟨es, c', hb'⟩ := map_tag h.now e
    rw [hb] at hb'; cases hb'
  · obtain ⟨es, c', hb'⟩ := map_tag h.sure e
    rw [hb] at hb'; cases hb'
theorem DA.shape (h : DA Xm w B p A mn ms lv) : ∃ ao c, lv = .slice ao A.loose.length c := by
  rcases h.row.2 with ⟨h1, h2⟩ | ⟨g, cap, cur, rfl, _⟩
  · exact ⟨none, 0, by rw [h1, h2]⟩
  · exact ⟨_, _, rfl⟩
/-- The block p may be written, too. -/
theorem DA.frP (h : DA Xm w B p A mn ms lv) {S : Nat → Prop} (f : Fr w w' S) (hS : ∀ k, S k → k = p) : FrD Xm B w w' :=
  Fr.mono f (fun k _ s => by rw [hS k s]; exact ⟨h.hp, .inr ⟨_, _, _, h.blk, .inl rfl⟩, h.nx p (.inl rfl)⟩)
end
theorem chc_len (L : List Chg) : (L.flatMap chCells).length = L.length * 4 := by
  induction L with
  | nil => rfl
  | cons c r ih => rw [List.flatMap_cons, List.length_append, ih]; simp [chCells]; omega
theorem chc_get (L : List Chg) (j : Nat) (h : j < L.length) : (L.flatMap chCells)[j * 4]? = some (.int .i64 L[j].k) ∧ (L.flatMap chCells)[j * 4 + 1]? = some (.string (str L[j].nm)) ∧ (L.flatMap chCells)[j * 4 + 2]? = some (.string (str L[j].to)) ∧ (L.flatMap chCells)[j * 4 + 3]? = some (.string (str L[j].s)) := by
  induction L generalizing j with
  | nil => simp at h
  | cons c r ih =>
    rw [List.flatMap_cons]
    have hl : (chCells c).length = 4 := rfl
    cases j with
    | zero => simp [chCells]
    | succ j =>
      have h1 := ih j (by simpa using h)
      have e : ∀ i, (chCells c ++ r.flatMap chCells)[(j + 1) * 4 + i]? = (r.flatMap chCells)[j * 4 + i]? := fun i => by
        rw [List.getElem?_append_right (by rw [hl]; omega), hl]
        congr 1
        omega
      have e0 := e 0
      have e1 := e 1
      have e2 := e 2
      have e3 := e 3
      rw [Nat.add_zero, Nat.add_zero] at e0
      rw [e0, e1, e2, e3]
      simpa using h1
/-- The cells of a row of changes. -/
theorem chrow_at {w : World} {B n cap : Nat} {o : Option Addr} {L : List Chg} (h : w.ownsRow B 122 4 (.slice o n cap) L.length (L.flatMap chCells)) (hL : 0 < L.length) : ∃ g, o = some ⟨g, 0, none⟩ ∧ n = L.length ∧ n ≤ cap ∧ ∀ j (hj : j < L.length), w.cell? ⟨g, j * 4, none⟩ = some (.int .i64 L[j].k) ∧ w.cell? ⟨g, j * 4 + 1, none⟩ = some (.string (str L[j].nm)) ∧ w.cell? ⟨g, j * 4 + 2, none⟩ = some (.string (str L[j].to)) ∧ w.cell? ⟨g, j * 4 + 3, none⟩ = some (.string (str L[j].s)) := by
  rcases h.2 with ⟨h1, h2⟩ | ⟨g, cap', cur, h1, hb, hg, hn, hc, hcs', ht⟩
  · omega
  · cases h1
    refine ⟨g, rfl, rfl, hn, fun j hj => ?_⟩
    have hl := chc_len L
    obtain ⟨a0, a1, a2, a3⟩ := chc_get L j hj
    rw [← ht] at a0 a1 a2 a3
    have hlt : ∀ i, i < 4 → j * 4 + i < L.length * 4 := fun i hi => by omega
    rw [List.getElem?_take_of_lt (by have := hlt 0 (by decide); omega)] at a0
    rw [List.getElem?_take_of_lt (hlt 1 (by decide))] at a1
    rw [List.getElem?_take_of_lt (hlt 2 (by decide))] at a2
    rw [List.getElem?_take_of_lt (hlt 3 (by decide))] at a3
    simp only [Array.getElem?_toList] at a0 a1 a2 a3
    refine ⟨?_, ?_, ?_, ?_⟩ <;> simp [World.cell?, hg, a0, a1, a2, a3]
end Go.Proofs.YtnhjflebaeokeaaGreat
end
