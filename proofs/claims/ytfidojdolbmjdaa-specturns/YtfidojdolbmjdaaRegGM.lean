import Derived.Test.YtfidojdolbmjdaaRegUM
/- A region that draws its order, lays new blocks alone and has operations that are done only where a truth says so: what each operation gives, in any order. -/
namespace Go.Proofs.Ytfidojdolbmjdaa
open Go Go.RowKit
section
variable {P : Program} {Q : Exit → Act → World → Prop} {md : Region.Mode}
/-- Is the operation done, where the truths that guard others are these? -/
def wantG (gb : Nat → Bool) (o : Oper) : Bool := match o.guard with
  | none => true
  | some (j, want) => gb j == want
/-- Each operation waits for earlier ones alone, and for its guard. -/
def orderB (md : Region.Mode) (ops : List Oper) : Bool := (List.range ops.length).all fun i => match ops[i]? with
  | some o => (o.after.all fun e => !Region.binds md e || decide (e.on < i)) && (match o.guard with
    | none => true
    | some (j, _) => needs md o j && decide (j < ops.length))
  | none => true
theorem orderB_at {ops : List Oper} (h : orderB md ops = true) {i : Nat} {o : Oper} (ho : ops[i]? = some o) : (∀ e ∈ o.after, Region.binds md e = true → e.on < i) ∧ ∀ j want, o.guard = some (j, want) → needs md o j = true ∧ j < ops.length := by
  have hlt : i < ops.length := (List.getElem?_eq_some_iff.1 ho).1
  have := List.all_eq_true.1 h i (List.mem_range.2 hlt)
  rw [ho] at this
  simp only [Bool.and_eq_true] at this
  refine ⟨fun e he hb => ?_, fun j want hg => ?_⟩
  · have := Array.all_eq_true'.1 this.1 e he
    rw [hb] at this
    simpa using this
  · have h2 := this.2
    rw [hg] at h2
    simp only [Bool.and_eq_true, decide_eq_true_eq] at h2
    exact h2
theorem all_onG {ops : List Oper} (hp : orderB md ops = true) {listed : Array Bool} (hs : listed.size = ops.length) (hr : Region.ready md ops.toArray listed = []) : ∀ i, i < ops.length → onL listed i := by
  intro i
  induction i using Nat.strongRecOn with
  | ind i ih =>
    intro hi
    by_cases h : listed.getD i true = false
    · exfalso
      have : i ∈ Region.ready md ops.toArray listed := by
        refine mem_ready.2 ⟨h, ops[i], by simp [hi], fun e he hb => ?_⟩
        have hlt := (orderB_at hp (i := i) (o := ops[i]) (by simp [hi])).1 e he hb
        exact ih e.on hlt (by omega)
      rw [hr] at this
      cases this
    · unfold onL
      rw [Array.getD_eq_getD_getElem?] at h ⊢
      have hil : i < listed.size := by omega
      simp [hil] at h ⊢
      exact h
def StepsG (P : Program) (md : Region.Mode) (Q : Exit → Act → World → Prop) (A : Act) (ds : List Nat) (all : List Oper) (V : Nat → Value → World → Prop) (gb : Nat → Bool) (W0 : World) : Nat → List Oper → Prop
  | _, [] => True
  | i, o :: os => ((wantG gb o = true → ∀ X W, Below W0.heap.size W0 W → (∀ k, needs md o k = true → V k (X (ds.getD k 0)) W) → (∀ k, k < all.length → waitsB md all all.length k i = true → X (ds.getD k 0) = A.eval (.tmp (ds.getD k 0))) → o.wp P (puts A X ds) W (fun a' W' => ∃ v, a' = (puts A X ds).put o.dst v ∧ V i v W' ∧ Below W.heap.size W W') Q) ∧ (wantG gb o = false → ∀ W, V i undef W)) ∧ StepsG P md Q A ds all V gb W0 (i + 1) os
theorem StepsG.at_ {A : Act} {ds : List Nat} {all : List Oper} {V : Nat → Value → World → Prop} {gb : Nat → Bool} {W0 : World} : ∀ {os : List Oper} {i : Nat}, StepsG P md Q A ds all V gb W0 i os → ∀ {j : Nat} {o : Oper}, os[j]? = some o →
    (wantG gb o = true → ∀ X W, Below W0.heap.size W0 W → (∀ k, needs md o k = true → V k (X (ds.getD k 0)) W) → (∀ k, k < all.length → waitsB md all all.length k (i + j) = true → X (ds.getD k 0) = A.eval (.tmp (ds.getD k 0))) → o.wp P (puts A X ds) W (fun a' W' => ∃ v, a' = (puts A X ds).put o.dst v ∧ V (i + j) v W' ∧ Below W.heap.size W W') Q) ∧ (wantG gb o = false → ∀ W, V (i + j) undef W)
  | [], _, _, _, _, h => by cases h
  | _ :: _, i, h, 0, _, e => by cases e; exact h.1
  | _ :: os, i, h, j + 1, _, e => by
    have := StepsG.at_ h.2 (j := j) e
    rwa [show i + 1 + j = i + (j + 1) by omega] at this
structure JG (md : Region.Mode) (A : Act) (ds : List Nat) (all : List Oper) (V : Nat → Value → World → Prop) (W0 : World) (on : Nat → Prop) (X : Nat → Value) (W : World) : Prop where
  vals : ∀ k, k < all.length → on k → V k (X (ds.getD k 0)) W
  bound : ∀ k, on k → k < all.length
  low : Below W0.heap.size W0 W
  shut : ∀ k o, all[k]? = some o → on k → ∀ m, needs md o m = true → on m
  old : ∀ k, k < all.length → ¬ on k → X (ds.getD k 0) = A.eval (.tmp (ds.getD k 0))
theorem JG.step {A : Act} {ds : List Nat} {all : List Oper} {V : Nat → Value → World → Prop} {W0 : World} {on : Nat → Prop} {X : Nat → Value} {W W' : World} (hds : dstsB ds all = true) (hV : ∀ i v W W', V i v W → Below W.heap.size W W' → V i v W') (h : JG md A ds all V W0 on X W) {i : Nat} {o : Oper} (hoi : all[i]? = some o) (hn : ¬ on i) (hk : ∀ k, needs md o k = true → on k) {v : Value} (hv : V i v W') (hb : Below W.heap.size W W') :
    JG md A ds all V W0 (fun k => k = i ∨ on k) (upd X (ds.getD i 0) v) W' := by
  have hil : i < all.length := (List.getElem?_eq_some_iff.1 hoi).1
  have hne : ∀ k, k < all.length → k ≠ i → upd X (ds.getD i 0) v (ds.getD k 0) = X (ds.getD k 0) := fun k hkl hki => by
    have := dstsB_ne hds (by rw [dstsB_len hds]; exact hkl) (by rw [dstsB_len hds]; exact hil) hki
    simp only [upd, this, if_false]
  refine ⟨?_, ?_, h.low.trans (hb.mono h.low.size), ?_, ?_⟩
  · rintro k hkl (rfl | hk')
    · simpa [upd] using hv
    · rw [hne k hkl (fun e => hn (e ▸ hk'))]
      exact hV _ _ _ _ (h.vals k hkl hk') hb
  · rintro k (rfl | hk')
    · exact hil
    · exact h.bound k hk'
  · rintro k o' ho' (rfl | hk') m hm
    · rw [hoi] at ho'
      cases ho'
      exact Or.inr (hk m hm)
    · exact Or.inr (h.shut k o' ho' hk' m hm)
  · intro k hkl hk'
    rw [hne k hkl (fun e => hk' (Or.inl e))]
    exact h.old k hkl (fun hon => hk' (Or.inr hon))
def guardsIn (ops : List Oper) (gs : List Nat) : Bool := ops.all fun o => match o.guard with
  | none => true
  | some (j, _) => gs.contains j
theorem guards_at {ops : List Oper} {gs : List Nat} (h : guardsIn ops gs = true) {i : Nat} {o : Oper} {j : Nat} {want : Bool} (ho : ops[i]? = some o) (hg : o.guard = some (j, want)) : j ∈ gs := by
  have := List.all_eq_true.1 h o (List.mem_of_getElem? ho)
  rw [hg] at this
  simpa using this
end
end Go.Proofs.Ytfidojdolbmjdaa
