import Derived.Test.YtnhijofnhflklaaGreatRegUM
/- A region that draws its order, in which some operations change the world one behind the other: what each gives, in any order. -/
namespace Go.Proofs.YtnhijofnhflklaaGreat
open Go Go.RowKit
section
variable {P : Program} {Q : Exit → Act → World → Prop} {md : Region.Mode}
/-- The slots; an operation without one has a number that no slot has. -/
def dstsT : List Nat → List Oper → Bool
  | [], [] => true
  | d :: ds, o :: os => (o.dst == some d || (o.dst == none && decide (1000000 ≤ d))) && !ds.contains d && dstsT ds os
  | _, _ => false
theorem dstsT_len : ∀ {ds : List Nat} {os : List Oper}, dstsT ds os = true → ds.length = os.length
  | [], [], _ => rfl
  | [], _ :: _, h => by cases h
  | _ :: _, [], h => by cases h
  | d :: ds, o :: os, h => by
    simp only [dstsT, Bool.and_eq_true] at h
    simp [dstsT_len h.2]
theorem dstsT_at : ∀ {ds : List Nat} {os : List Oper}, dstsT ds os = true → ∀ {i : Nat} {o : Oper}, os[i]? = some o → (o.dst = some (ds.getD i 0) ∨ o.dst = none ∧ 1000000 ≤ ds.getD i 0) ∧ ds.getD i 0 ∈ ds
  | [], [], _, i, o, h => by simp at h
  | [], _ :: _, h, _, _, _ => by cases h
  | _ :: _, [], h, _, _, _ => by cases h
  | d :: ds, o :: os, h, 0, x, e => by
    simp only [dstsT, Bool.and_eq_true, Bool.or_eq_true, decide_eq_true_eq, beq_iff_eq] at h
    cases e
    exact ⟨by simpa using h.1.1, by simp⟩
  | d :: ds, o :: os, h, i + 1, x, e => by
    simp only [dstsT, Bool.and_eq_true] at h
    have := dstsT_at h.2 (i := i) e
    exact ⟨by simpa using this.1, by simpa using Or.inr this.2⟩
theorem dstsT_ne : ∀ {ds : List Nat} {os : List Oper}, dstsT ds os = true → ∀ {i j : Nat}, i < ds.length → j < ds.length → i ≠ j → ds.getD i 0 ≠ ds.getD j 0
  | [], [], _, i, j, h, _, _ => by simp at h
  | [], _ :: _, h, _, _, _, _, _ => by cases h
  | _ :: _, [], h, _, _, _, _, _ => by cases h
  | d :: ds, o :: os, h, i, j, hi, hj, hne => by
    simp only [dstsT, Bool.and_eq_true] at h
    have hm : d ∉ ds := by simpa using h.1.2
    have mem : ∀ k, k < ds.length → ds.getD k 0 ∈ ds := fun k hk => by simp [List.getD, hk]
    cases i with
    | zero =>
      cases j with
      | zero => exact absurd rfl hne
      | succ j =>
        have := mem j (by simpa using hj)
        intro e
        simp only [List.getD_cons_zero, List.getD_cons_succ] at e
        exact hm (e ▸ this)
    | succ i =>
      cases j with
      | zero =>
        have := mem i (by simpa using hi)
        intro e
        simp only [List.getD_cons_zero, List.getD_cons_succ] at e
        exact hm (e ▸ this)
      | succ j =>
        simp only [List.getD_cons_succ]
        exact dstsT_ne h.2 (by simpa using hi) (by simpa using hj) (fun e => hne (by omega))
theorem puts_far {A : Act} {X : Nat → Value} {ds : List Nat} {d : Nat} (v : Value) (h : A.tmps.size ≤ d) : puts A (upd X d v) ds = puts A X ds := by
  refine act_ext (by rw [puts_defers, puts_defers]) (fun k => ?_)
  rw [puts_at, puts_at]
  by_cases e : k ∈ ds ∧ k < A.tmps.size
  · rw [if_pos e, if_pos e]
    have : k ≠ d := by omega
    simp [upd, this]
  · rw [if_neg e, if_neg e]
/-- The operations that change the world stand in a row. -/
def tailB (md : Region.Mode) (all : List Oper) (tl : List (Option Nat)) (M : Nat) : Bool :=
  ((List.range all.length).all fun i => match tl.getD i none with
    | none => true
    | some m => decide (m < M) && ((List.range all.length).all fun j => decide (i = j) || !(tl.getD j none == some m)) && (match m with
      | 0 => true
      | m + 1 => (List.range all.length).any fun j => (tl.getD j none == some m) && waitsB md all all.length i j)) &&
  ((List.range M).all fun m => (List.range all.length).any fun i => tl.getD i none == some m)
structure Tails (md : Region.Mode) (all : List Oper) (tl : List (Option Nat)) (M : Nat) : Prop where
  lt : ∀ i m, i < all.length → tl.getD i none = some m → m < M
  one : ∀ i j m, i < all.length → j < all.length → tl.getD i none = some m → tl.getD j none = some m → i = j
  prev : ∀ i m, i < all.length → tl.getD i none = some (m + 1) → ∃ j, j < all.length ∧ tl.getD j none = some m ∧ waitsB md all all.length i j = true
  ex : ∀ m, m < M → ∃ i, i < all.length ∧ tl.getD i none = some m
theorem tailB_at {all : List Oper} {tl : List (Option Nat)} {M : Nat} (h : tailB md all tl M = true) : Tails md all tl M := by
  unfold tailB at h
  rw [Bool.and_eq_true] at h
  obtain ⟨h1, h2⟩ := h
  have h1' := fun i (hi : i < all.length) => List.all_eq_true.1 h1 i (List.mem_range.2 hi)
  refine ⟨fun i m hi e => ?_, fun i j m hi hj e e' => ?_, fun i m hi e => ?_, fun m hm => ?_⟩
  · have := h1' i hi
    rw [e] at this
    simp only [Bool.and_eq_true, decide_eq_true_eq] at this
    exact this.1.1
  · have := h1' i hi
    rw [e] at this
    simp only [Bool.and_eq_true] at this
    have := List.all_eq_true.1 this.1.2 j (List.mem_range.2 hj)
    rw [e'] at this
    simpa using this
  · have := h1' i hi
    rw [e] at this
    simp only [Bool.and_eq_true] at this
    obtain ⟨j, hj, h3⟩ := List.any_eq_true.1 this.2
    rw [Bool.and_eq_true] at h3
    exact ⟨j, List.mem_range.1 hj, by simpa using h3.1, h3.2⟩
  · obtain ⟨i, hi, h3⟩ := List.any_eq_true.1 (List.all_eq_true.1 h2 m (List.mem_range.2 hm))
    exact ⟨i, List.mem_range.1 hi, by simpa using h3⟩
def StepsT (P : Program) (md : Region.Mode) (Q : Exit → Act → World → Prop) (A : Act) (ds : List Nat) (all : List Oper) (tl : List (Option Nat)) (V : Nat → Value → World → Prop) (T : Nat → (Nat → Value) → World → Prop) (R : World → World → Prop) : Nat → List Oper → Prop
  | _, [] => True
  | i, o :: os => ((tl.getD i none = none → ∀ X W m, T m X W → (∀ j q, j < all.length → tl.getD j none = some q → waitsB md all all.length j i = true → m ≤ q) → (∀ k, needs md o k = true → V k (X (ds.getD k 0)) W) → (∀ k, k < all.length → waitsB md all all.length k i = true → X (ds.getD k 0) = A.eval (.tmp (ds.getD k 0))) → o.wp P (puts A X ds) W (fun a' W' => ∃ v, a' = (puts A X ds).put o.dst v ∧ V i v W' ∧ T m X W' ∧ R W W') Q) ∧
      (∀ m, tl.getD i none = some m → ∀ X W, T m X W → (∀ k, needs md o k = true → V k (X (ds.getD k 0)) W) → (∀ k, k < all.length → waitsB md all all.length k i = true → X (ds.getD k 0) = A.eval (.tmp (ds.getD k 0))) → o.wp P (puts A X ds) W (fun a' W' => ∃ v, a' = (puts A X ds).put o.dst v ∧ V i v W' ∧ T (m + 1) (upd X (ds.getD i 0) v) W' ∧ R W W') Q)) ∧ StepsT P md Q A ds all tl V T R (i + 1) os
structure JT (md : Region.Mode) (A : Act) (ds : List Nat) (all : List Oper) (tl : List (Option Nat)) (M : Nat) (V : Nat → Value → World → Prop) (T : Nat → (Nat → Value) → World → Prop) (on : Nat → Prop) (X : Nat → Value) (W : World) : Prop where
  vals : ∀ k, k < all.length → on k → V k (X (ds.getD k 0)) W
  bound : ∀ k, on k → k < all.length
  closed : ∀ k o, all[k]? = some o → on k → ∀ m, needs md o m = true → on m
  tail : ∃ m, m ≤ M ∧ T m X W ∧ ∀ i j, i < all.length → tl.getD i none = some j → (on i ↔ j < m)
theorem steps_of_T {A : Act} {ds : List Nat} {V : Nat → Value → World → Prop} {T : Nat → (Nat → Value) → World → Prop} {R : World → World → Prop} {all : List Oper} {tl : List (Option Nat)} {M : Nat} (hsz : A.tmps.size ≤ 1000000) (hds : dstsT ds all = true) (htl : Tails md all tl M)
    (hV : ∀ i v W W', V i v W → R W W' → V i v W') (hT : ∀ m X X' W, (∀ i, i < all.length → tl.getD i none ≠ none → X (ds.getD i 0) = X' (ds.getD i 0)) → T m X W → T m X' W) :
    ∀ {os : List Oper} {i : Nat}, (∀ j o, os[j]? = some o → all[i + j]? = some o) → StepsT P md Q A ds all tl V T R i os → Steps P md Q A ds (fun on X W => JT md A ds all tl M V T on X W ∧ ∀ k, k < all.length → ¬ on k → X (ds.getD k 0) = A.eval (.tmp (ds.getD k 0))) i os
  | [], _, _, _ => trivial
  | o :: os, i, hall, h => by
    have hoi := hall 0 o rfl
    rw [Nat.add_zero] at hoi
    have hil : i < all.length := (List.getElem?_eq_some_iff.1 hoi).1
    obtain ⟨hd1, hd2⟩ := dstsT_at hds hoi
    refine ⟨?_, steps_of_T hsz hds htl hV hT (fun j o' e => by have := hall (j + 1) o' (by simpa using e); rwa [show i + 1 + j = i + (j + 1) by omega]) h.2⟩
    rintro on X W ⟨⟨h1, h2, h4, m, hmM, hTm, hon⟩, h5⟩ hn hk
    have hput : ∀ v, (puts A X ds).put o.dst v = puts A (upd X (ds.getD i 0) v) ds := by
      intro v
      rcases hd1 with e | ⟨e, e'⟩
      · rw [e]; exact puts_put v hd2
      · rw [e, puts_far v (by omega)]; rfl
    have hne : ∀ k, k < all.length → k ≠ i → ds.getD k 0 ≠ ds.getD i 0 := fun k hkl hki => dstsT_ne hds (by rw [dstsT_len hds]; exact hkl) (by rw [dstsT_len hds]; exact hil) hki
    have hold : ∀ k, k < all.length → waitsB md all all.length k i = true → X (ds.getD k 0) = A.eval (.tmp (ds.getD k 0)) := fun k hkl hw => h5 k hkl (fun hon => hn (waits_on h4 _ _ _ hw hon))
    have hneed : ∀ k, needs md o k = true → V k (X (ds.getD k 0)) W := fun k hk' => h1 k (h2 k (hk k hk')) (hk k hk')
    have fin : ∀ (v : Value) (W' : World) (m' : Nat), V i v W' → R W W' → m' ≤ M → T m' (upd X (ds.getD i 0) v) W' → (∀ i' j, i' < all.length → tl.getD i' none = some j → ((i' = i ∨ on i') ↔ j < m')) →
        (JT md A ds all tl M V T (fun k => k = i ∨ on k) (upd X (ds.getD i 0) v) W' ∧ ∀ k, k < all.length → ¬ (k = i ∨ on k) → upd X (ds.getD i 0) v (ds.getD k 0) = A.eval (.tmp (ds.getD k 0))) := by
      intro v W' m' hv hR hm' hT' hon'
      have hlast : ∀ k, k < all.length → ¬ (k = i ∨ on k) → upd X (ds.getD i 0) v (ds.getD k 0) = A.eval (.tmp (ds.getD k 0)) := by
        intro k hkl hk'
        simp only [upd, hne k hkl (fun e => hk' (Or.inl e)), if_false]
        exact h5 k hkl (fun hon => hk' (Or.inr hon))
      refine ⟨⟨?_, ?_, ?_, ⟨m', hm', hT', hon'⟩⟩, hlast⟩
      · rintro k hkl (rfl | hk')
        · simpa [upd] using hv
        · simp only [upd, hne k hkl (fun e => hn (e ▸ hk')), if_false]
          exact hV _ _ _ _ (h1 k hkl hk') hR
      · rintro k (rfl | hk')
        · exact hil
        · exact h2 k hk'
      · rintro k o' ho' (rfl | hk') m hm
        · rw [hoi] at ho'
          cases ho'
          exact Or.inr (hk m hm)
        · exact Or.inr (h4 k o' ho' hk' m hm)
    cases ht : tl.getD i none with
    | none =>
      refine Oper.wp_mono ?_ (h.1.1 ht X W m hTm (fun j q hj e hw => by
        rcases Nat.lt_or_ge q m with h' | h'
        · exact absurd (waits_on h4 _ _ _ hw ((hon j q hj e).2 h')) hn
        · exact h') hneed hold)
      rintro a' W' ⟨v, rfl, hv, hT', hR⟩
      refine ⟨_, hput v, fin v W' m hv hR hmM (hT m X _ W' (fun k hkl hkt => ?_) hT') (fun i' j hi' e => ?_)⟩
      · have : k ≠ i := fun e => hkt (e ▸ ht)
        unfold upd
        rw [if_neg (hne k hkl this)]
      · rw [← hon i' j hi' e]
        constructor
        · rintro (rfl | h') <;> first | exact h' | (rw [ht] at e; cases e)
        · exact Or.inr
    | some j =>
      have hmj : m = j := by
        have h6 : ¬ j < m := fun hlt => hn ((hon i j hil ht).2 hlt)
        rcases Nat.lt_or_ge m j with h7 | h7
        · exfalso
          obtain ⟨j', rfl⟩ : ∃ j', j = j' + 1 := ⟨j - 1, by omega⟩
          obtain ⟨q, hq, hqt, hw⟩ := htl.prev i j' hil ht
          have hqon : on q := by
            obtain ⟨f, hf⟩ : ∃ f, all.length = f + 1 := ⟨all.length - 1, by omega⟩
            rw [hf] at hw
            unfold waitsB at hw
            rw [hoi] at hw
            obtain ⟨e, he, h8⟩ := Array.any_eq_true'.1 hw
            rw [Bool.and_eq_true, Bool.or_eq_true] at h8
            have hm8 : on e.on := hk e.on (Array.any_eq_true'.2 ⟨e, he, by rw [h8.1]; simp⟩)
            rcases h8.2 with h9 | h9
            · rw [← show e.on = q by simpa using h9]; exact hm8
            · exact waits_on h4 _ _ _ h9 hm8
          have := (hon q j' hq hqt).1 hqon
          omega
        · omega
      subst hmj
      refine Oper.wp_mono ?_ (h.1.2 m ht X W hTm hneed hold)
      rintro a' W' ⟨v, rfl, hv, hT', hR⟩
      refine ⟨_, hput v, fin v W' (m + 1) hv hR (htl.lt i m hil ht) hT' (fun i' j hi' e => ?_)⟩
      constructor
      · rintro (rfl | h')
        · rw [ht] at e; cases e; omega
        · have := (hon i' j hi' e).1 h'; omega
      · intro hj
        by_cases hjm : j = m
        · subst hjm; exact Or.inl (htl.one i' i j hi' hil e ht)
        · exact Or.inr ((hon i' j hi' e).2 (by omega))
/-- The whole region. -/
theorem wp_region_T {id : Nat} {ops : List Oper} {a : Act} {w : World} (ds : List Nat) (tl : List (Option Nat)) (M : Nat) (V : Nat → Value → World → Prop) (T : Nat → (Nat → Value) → World → Prop) (R : World → World → Prop) (hm : P.follows .mixedOrders = true) (hp : plainB .any ops = true) (hsz : a.tmps.size ≤ 1000000) (hds : dstsT ds ops = true) (htl : tailB .any ops tl M = true)
    (hV : ∀ i v W W', V i v W → R W W' → V i v W') (hT : ∀ m X X' W, (∀ i, i < ops.length → tl.getD i none ≠ none → X (ds.getD i 0) = X' (ds.getD i 0)) → T m X W → T m X' W)
    (h0 : T 0 (fun k => a.tmps.getD k undef) w.drew) (hst : StepsT P .any Q a ds ops tl V T R 0 ops)
    (hdone : ∀ X W, (∀ i, i < ops.length → V i (X (ds.getD i 0)) W) → T M X W → Q .normal (puts a X ds) W) : (Code.region id ops.toArray true).wp P Q a w := by
  have htl' := tailB_at htl
  refine wp_region_J ds _ hm hp ?_ (steps_of_T hsz hds htl' hV hT (all := ops) (i := 0) (fun j o e => by rwa [Nat.zero_add]) hst) ?_
  · exact ⟨⟨fun _ _ h => h.elim, fun _ h => h.elim, fun _ _ _ h => h.elim, 0, Nat.zero_le _, h0, fun i j _ _ => ⟨fun h => h.elim, fun h => absurd h (by omega)⟩⟩, fun _ _ _ => rfl⟩
  · rintro on X W ⟨⟨h1, _, _, m, hmM, hTm, hon⟩, _⟩ hall
    have : m = M := by
      rcases Nat.lt_or_ge m M with h | h
      · obtain ⟨i, hi, e⟩ := htl'.ex m h
        have := (hon i m hi e).1 (hall i hi)
        omega
      · omega
    subst this
    exact hdone X W (fun i hi => h1 i hi (hall i hi)) hTm
end
end Go.Proofs.YtnhijofnhflklaaGreat
