/- As RegV, where an operation reads a slot that a later one of the region writes. -/
import Derived.Test.YtmgjlamglhpnaaaGreatRegVM
namespace Go.Proofs.YtmgjlamglhpnaaaGreat
open Go Go.RowKit
section
variable {P : Program} {Q : Exit → Act → World → Prop} {md : Region.Mode}
def waitsB (md : Region.Mode) (all : List Oper) : Nat → Nat → Nat → Bool
 | 0, _, _ => false
 | f + 1, s, i => match all[s]? with
  | some o => o.after.any fun e => Region.binds md e && (e.on == i || waitsB md all f e.on i)
  | none => false
theorem waits_on {all : List Oper} {on : Nat → Prop} (hc : ∀ k o, all[k]? = some o → on k → ∀ m, needs md o m = true → on m) : ∀ (f s i : Nat), waitsB md all f s i = true → on s → on i
 | 0, _, _, h, _ => by cases h
 | f + 1, s, i, h, hs => by
  unfold waitsB at h
  cases ho : all[s]? with
  | none => rw [ho] at h; cases h
  | some o =>
   rw [ho] at h
   obtain ⟨e, he, h2⟩ := Array.any_eq_true'.1 h
   rw [Bool.and_eq_true, Bool.or_eq_true] at h2
   have hm : on e.on := hc s o ho hs e.on (Array.any_eq_true'.2 ⟨e, he, by rw [h2.1]; simp⟩)
   rcases h2.2 with h3 | h3
   ·rw [← show e.on = i by simpa using h3]; exact hm
   ·exact waits_on hc f e.on i h3 hm
def StepsU (P : Program) (md : Region.Mode) (Q : Exit → Act → World → Prop) (A : Act) (ds : List Nat) (all : List Oper) (V : Nat → Value → World → Prop) (W0 : World) : Nat → List Oper → Prop
 | _, [] => True
 | i, o :: os => (∀ X W, Below W0.heap.size W0 W → (∀ k, needs md o k = true → V k (X (ds.getD k 0)) W) → (∀ k, k < all.length → waitsB md all all.length k i = true → X (ds.getD k 0) = A.eval (.tmp (ds.getD k 0))) → o.wp P (puts A X ds) W (fun a' W' => ∃ v, a' = (puts A X ds).put o.dst v ∧ V i v W' ∧ Below W.heap.size W W') Q) ∧ StepsU P md Q A ds all V W0 (i + 1) os
theorem steps_of_U {A : Act} {ds : List Nat} {V : Nat → Value → World → Prop} {W0 : World} {all : List Oper} (hds : dstsB ds all = true) (hV : ∀ i v W W', V i v W → Below W.heap.size W W' → V i v W') :
  ∀ {os : List Oper} {i : Nat}, (∀ j o, os[j]? = some o → all[i + j]? = some o) → StepsU P md Q A ds all V W0 i os →
   Steps P md Q A ds (fun on X W => (∀ k, k < all.length → on k → V k (X (ds.getD k 0)) W) ∧ (∀ k, on k → k < all.length) ∧ Below W0.heap.size W0 W ∧ (∀ k o, all[k]? = some o → on k → ∀ m, needs md o m = true → on m) ∧ (∀ k, k < all.length → ¬ on k → X (ds.getD k 0) = A.eval (.tmp (ds.getD k 0)))) i os
 | [], _, _, _ => trivial
 | o :: os, i, hall, h => by
  have hoi := hall 0 o rfl
  rw [Nat.add_zero] at hoi
  have hil : i < all.length := (List.getElem?_eq_some_iff.1 hoi).1
  obtain ⟨hd1, hd2⟩ := dstsB_at hds hoi
  refine ⟨?_, steps_of_U hds hV (fun j o' e => by have := hall (j + 1) o' (by simpa using e); rwa [show i + 1 + j = i + (j + 1) by omega]) h.2⟩
  rintro on X W ⟨h1, h2, h3, h4, h5⟩ hn hk
  refine Oper.wp_mono ?_ (h.1 X W h3 (fun k hk' => h1 k (h2 k (hk k hk')) (hk k hk')) (fun k hkl hw => h5 k hkl (fun hon => hn (waits_on h4 _ _ _ hw hon))))
  rintro a' W' ⟨v, rfl, hv, hb⟩
  refine ⟨upd X (ds.getD i 0) v, by rw [hd1]; exact puts_put v hd2, ?_, ?_, h3.trans (hb.mono h3.size), ?_, ?_⟩
  ·rintro k hkl (rfl | hk')
   ·simpa [upd] using hv
   ·have hne : k ≠ i := fun e => hn (e ▸ hk')
    have := dstsB_ne hds (by rw [dstsB_len hds]; exact hkl) (by rw [dstsB_len hds]; exact hil) hne
    simp only [upd, this, if_false]
    exact hV _ _ _ _ (h1 k hkl hk') hb
  ·rintro k (rfl | hk')
   ·exact hil
   ·exact h2 k hk'
  ·rintro k o' ho' (rfl | hk') m hm
   ·rw [hoi] at ho'
    cases ho'
    exact Or.inr (hk m hm)
   ·exact Or.inr (h4 k o' ho' hk' m hm)
  ·intro k hkl hk'
   have hne : k ≠ i := fun e => hk' (Or.inl e)
   have := dstsB_ne hds (by rw [dstsB_len hds]; exact hkl) (by rw [dstsB_len hds]; exact hil) hne
   simp only [upd, this, if_false]
   exact h5 k hkl (fun hon => hk' (Or.inr hon))
theorem wp_region_U {id : Nat} {ops : List Oper} {a : Act} {w : World} (ds : List Nat) (V : Nat → Value → World → Prop) (hm : P.follows .mixedOrders = true) (hp : plainB .any ops = true) (hds : dstsB ds ops = true)
  (hV : ∀ i v W W', V i v W → Below W.heap.size W W' → V i v W') (hst : StepsU P .any Q a ds ops V w 0 ops)
  (hdone : ∀ X W, Below w.heap.size w W → (∀ i, i < ops.length → V i (X (ds.getD i 0)) W) → Q .normal (puts a X ds) W) : (Code.region id ops.toArray true).wp P Q a w := by
 refine wp_region_J ds _ hm hp ?_ (steps_of_U hds hV (all := ops) (i := 0) (fun j o e => by rwa [Nat.zero_add]) hst) ?_
 ·exact ⟨fun _ _ h => h.elim, fun _ h => h.elim, ⟨rfl, rfl, rfl, Nat.le_refl _, fun _ _ => rfl⟩, fun _ _ _ h => h.elim, fun _ _ _ => rfl⟩
 ·rintro on X W ⟨h1, _, h3, _, _⟩ hall
  exact hdone X W h3 (fun i hi => h1 i hi (hall i hi))
end
end Go.Proofs.YtmgjlamglhpnaaaGreat
