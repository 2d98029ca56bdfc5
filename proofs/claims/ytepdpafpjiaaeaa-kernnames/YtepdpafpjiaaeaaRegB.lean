/- A region that draws its order, lays new boxes and fills them: what each operation gives, in any order; at last each box holds what was stored into it. -/
import Derived.Test.YtepdpafpjiaaeaaRegU
import Derived.Laws.Tables
namespace Go.Proofs.Ytepdpafpjiaaeaa
open Go Go.RowKit
section
variable {P : Program} {Q : Exit → Act → World → Prop} {md : Region.Mode}
/-- ks: 0 a value, 1 a new box, 2 a store into a box; sl: an operation's slot (0 at a store); tg: a store's box. -/
structure BoxPlan where
  ks : List Nat
  sl : List Nat
  tg : List Nat
def BoxPlan.k (p : BoxPlan) (i : Nat) : Nat := p.ks.getD i 0
def BoxPlan.s (p : BoxPlan) (i : Nat) : Nat := p.sl.getD i 0
def BoxPlan.t (p : BoxPlan) (i : Nat) : Nat := p.tg.getD i 0
/-- The plan fits the region. -/
def BoxPlan.fits (p : BoxPlan) (md : Region.Mode) (ds : List Nat) (ops : List Oper) : Bool :=
  (List.range ops.length).all fun i => match ops[i]? with
    | some o => (if p.k i = 2 then o.dst.isNone && decide (p.k (p.t i) = 1) && decide (p.t i < ops.length) && needs md o (p.t i) else (o.dst == some (p.s i)) && ds.contains (p.s i)) &&
      (List.range ops.length).all fun j => decide (i = j) || (if p.k i = 2 then decide (p.k j ≠ 2) || decide (p.t i ≠ p.t j) else decide (p.k j = 2) || decide (p.s i ≠ p.s j))
    | none => true
structure PlanAt (p : BoxPlan) (md : Region.Mode) (ds : List Nat) (ops : List Oper) (i : Nat) (o : Oper) : Prop where
  store : p.k i = 2 → o.dst = none ∧ p.k (p.t i) = 1 ∧ p.t i < ops.length ∧ needs md o (p.t i) = true
  slot : p.k i ≠ 2 → o.dst = some (p.s i) ∧ p.s i ∈ ds
  one : ∀ j, j < ops.length → i ≠ j → p.k i = 2 → p.k j = 2 → p.t i ≠ p.t j
  ne : ∀ j, j < ops.length → i ≠ j → p.k i ≠ 2 → p.k j ≠ 2 → p.s i ≠ p.s j
theorem BoxPlan.at_ {p : BoxPlan} {ds : List Nat} {ops : List Oper} (h : p.fits md ds ops = true) {i : Nat} {o : Oper} (ho : ops[i]? = some o) : PlanAt p md ds ops i o := by
  have hlt : i < ops.length := (List.getElem?_eq_some_iff.1 ho).1
  have h1 := List.all_eq_true.1 h i (List.mem_range.2 hlt)
  rw [ho] at h1
  simp only [Bool.and_eq_true] at h1
  obtain ⟨h2, h3⟩ := h1
  have h4 : ∀ j, j < ops.length → i ≠ j → (if p.k i = 2 then decide (p.k j ≠ 2) || decide (p.t i ≠ p.t j) else decide (p.k j = 2) || decide (p.s i ≠ p.s j)) = true := fun j hj hne => by
    have := List.all_eq_true.1 h3 j (List.mem_range.2 hj)
    simpa [hne] using this
  refine ⟨fun hk => ?_, fun hk => ?_, fun j hj hne hk hkj => ?_, fun j hj hne hk hkj => ?_⟩
  · rw [if_pos hk] at h2
    simp only [Bool.and_eq_true, decide_eq_true_eq, Option.isNone_iff_eq_none] at h2
    exact ⟨h2.1.1.1, h2.1.1.2, h2.1.2, h2.2⟩
  · rw [if_neg hk] at h2
    simp only [Bool.and_eq_true, beq_iff_eq, List.contains_iff_mem] at h2
    exact h2
  · have := h4 j hj hne
    rw [if_pos hk] at this
    simpa [hkj] using this
  · have := h4 j hj hne
    rw [if_neg hk] at this
    simpa [hkj] using this
/-- A box as it lies. -/
def BoxAt (W0 W : World) (u : Value) (t : TypeId) (n : Nat) (e : Nat) (c : Array Value) : Prop := u = .pointer (some ⟨e, 0, none⟩) ∧ W0.heap.size ≤ e ∧ W.heap[e]? = some (.cells c t (0, 0)) ∧ c.size = n
/-- One step for each operation. -/
def StepsB (P : Program) (md : Region.Mode) (Q : Exit → Act → World → Prop) (A : Act) (ds : List Nat) (p : BoxPlan) (V : Nat → Value → World → Prop) (bt : Nat → TypeId) (bn : Nat → Nat) (bc : Nat → Array Value) (W0 : World) : Nat → List Oper → Prop
  | _, [] => True
  | i, o :: os => (∀ X W, Below W0.heap.size W0 W → (∀ k, needs md o k = true → p.k k = 0 → V k (X (p.s k)) W) →
      (p.k i = 0 → o.wp P (puts A X ds) W (fun a' W' => ∃ v, a' = (puts A X ds).put o.dst v ∧ V i v W' ∧ Below W.heap.size W W') Q) ∧
      (p.k i = 1 → o.wp P (puts A X ds) W (fun a' W' => ∃ c, a' = (puts A X ds).put o.dst (.pointer (some ⟨W.heap.size, 0, none⟩)) ∧ W' = W.alloc (.cells c (bt i)) ∧ c.size = bn i) Q) ∧
      (p.k i = 2 → ∀ e c, BoxAt W0 W (X (p.s (p.t i))) (bt (p.t i)) (bn (p.t i)) e c → o.wp P (puts A X ds) W (fun a' W' => a' = puts A X ds ∧ W' = W.setRow e (bc i)) Q)) ∧
    StepsB P md Q A ds p V bt bn bc W0 (i + 1) os
structure JB (N : Nat) (p : BoxPlan) (V : Nat → Value → World → Prop) (bt : Nat → TypeId) (bn : Nat → Nat) (bc : Nat → Array Value) (W0 : World) (on : Nat → Prop) (X : Nat → Value) (W : World) : Prop where
  low : Below W0.heap.size W0 W
  bound : ∀ k, on k → k < N
  vals : ∀ i, on i → p.k i = 0 → V i (X (p.s i)) W
  box : ∀ i, on i → p.k i = 1 → ∃ e c, BoxAt W0 W (X (p.s i)) (bt i) (bn i) e c ∧ ∀ s, on s → p.k s = 2 → p.t s = i → c = bc s
  apart : ∀ i j, on i → on j → p.k i = 1 → p.k j = 1 → i ≠ j → X (p.s i) ≠ X (p.s j)
  dep : ∀ s, on s → p.k s = 2 → on (p.t s)
theorem steps_of_B {A : Act} {ds : List Nat} {p : BoxPlan} {V : Nat → Value → World → Prop} {bt : Nat → TypeId} {bn : Nat → Nat} {bc : Nat → Array Value} {W0 : World} {all : List Oper} (hfit : p.fits md ds all = true) (h3 : ∀ i, p.k i ≤ 2) (hbc : ∀ i, p.k i = 2 → (bc i).size = bn (p.t i))
    (hV : ∀ i v W W', V i v W → Below W0.heap.size W W' → V i v W') :
    ∀ {os : List Oper} {i : Nat}, (∀ j o, os[j]? = some o → all[i + j]? = some o) → StepsB P md Q A ds p V bt bn bc W0 i os → Steps P md Q A ds (JB all.length p V bt bn bc W0) i os
  | [], _, _, _ => trivial
  | o :: os, i, hall, h => by
    have hoi := hall 0 o rfl
    rw [Nat.add_zero] at hoi
    have hil : i < all.length := (List.getElem?_eq_some_iff.1 hoi).1
    have hp := BoxPlan.at_ hfit hoi
    refine ⟨?_, steps_of_B hfit h3 hbc hV (fun j o' e => by have := hall (j + 1) o' (by simpa using e); rwa [show i + 1 + j = i + (j + 1) by omega]) h.2⟩
    intro on X W hJ hn hk
    have hs := h.1 X W hJ.low (fun k hk' hk0 => hJ.vals k (hk k hk') hk0)
    have hne : ∀ k, on k → k ≠ i := fun k hk' e => hn (e ▸ hk')
    have nes : ∀ k, on k → p.k i ≠ 2 → p.k k ≠ 2 → p.s k ≠ p.s i := fun k hk' a b => (hp.ne k (hJ.bound k hk') (fun e => hne k hk' e.symm) a b).symm
    have h012 : p.k i = 0 ∨ p.k i = 1 ∨ p.k i = 2 := by have := h3 i; omega
    rcases h012 with hki | hki | hki
    · have hki2 : p.k i ≠ 2 := by omega
      obtain ⟨hd1, hd2⟩ := hp.slot hki2
      refine Oper.wp_mono ?_ (hs.1 hki)
      rintro a' W' ⟨v, rfl, hv, hb⟩
      refine ⟨upd X (p.s i) v, by rw [hd1]; exact puts_put v hd2, hJ.low.trans (hb.mono hJ.low.size), ?_, ?_, ?_, ?_, ?_⟩
      · rintro k (rfl | hk')
        · exact hil
        · exact hJ.bound k hk'
      · rintro k (rfl | hk') hk0
        · simpa [upd] using hv
        · simp only [upd, nes k hk' hki2 (by omega), if_false]
          exact hV _ _ _ _ (hJ.vals k hk' hk0) (hb.mono hJ.low.size)
      · rintro k (rfl | hk') hk0
        · omega
        · obtain ⟨e, c, ⟨b1, b2, b3, b4⟩, b5⟩ := hJ.box k hk' hk0
          refine ⟨e, c, ⟨by simp only [upd, nes k hk' hki2 (by omega), if_false]; exact b1, b2, (hb.block _ (Array.getElem?_eq_some_iff.1 b3).1).trans b3, b4⟩, ?_⟩
          rintro s (rfl | hs') hs2 ht
          · omega
          · exact b5 s hs' hs2 ht
      · rintro k j (rfl | hk') (rfl | hj') hk1 hj1 hkj
        · omega
        · omega
        · omega
        · simp only [upd, nes k hk' hki2 (by omega), nes j hj' hki2 (by omega), if_false]
          exact hJ.apart k j hk' hj' hk1 hj1 hkj
      · rintro s (rfl | hs') hs2
        · omega
        · exact Or.inr (hJ.dep s hs' hs2)
    · have hki2 : p.k i ≠ 2 := by omega
      obtain ⟨hd1, hd2⟩ := hp.slot hki2
      refine Oper.wp_mono ?_ (hs.2.1 hki)
      rintro a' W' ⟨c0, rfl, rfl, hc0⟩
      have hb : Below W.heap.size W (W.alloc (.cells c0 (bt i))) := (Below.refl _ _).alloc (Nat.le_refl _) _
      refine ⟨upd X (p.s i) (.pointer (some ⟨W.heap.size, 0, none⟩)), by rw [hd1]; exact puts_put _ hd2, hJ.low.trans (hb.mono hJ.low.size), ?_, ?_, ?_, ?_, ?_⟩
      · rintro k (rfl | hk')
        · exact hil
        · exact hJ.bound k hk'
      · rintro k (rfl | hk') hk0
        · omega
        · simp only [upd, nes k hk' hki2 (by omega), if_false]
          exact hV _ _ _ _ (hJ.vals k hk' hk0) (hb.mono hJ.low.size)
      · rintro k (rfl | hk') hk0
        · refine ⟨W.heap.size, c0, ⟨by simp [upd], hJ.low.size, heap_alloc_new _ _, hc0⟩, ?_⟩
          rintro s (rfl | hs') hs2 ht
          · omega
          · exact absurd (ht ▸ hJ.dep s hs' hs2) hn
        · obtain ⟨e, c, ⟨b1, b2, b3, b4⟩, b5⟩ := hJ.box k hk' hk0
          refine ⟨e, c, ⟨by simp only [upd, nes k hk' hki2 (by omega), if_false]; exact b1, b2, (hb.block _ (Array.getElem?_eq_some_iff.1 b3).1).trans b3, b4⟩, ?_⟩
          rintro s (rfl | hs') hs2 ht
          · omega
          · exact b5 s hs' hs2 ht
      · have old : ∀ k, on k → p.k k = 1 → upd X (p.s i) (.pointer (some ⟨W.heap.size, 0, none⟩)) (p.s k) = X (p.s k) ∧ X (p.s k) ≠ .pointer (some ⟨W.heap.size, 0, none⟩) := fun k hk' hk1 => by
          refine ⟨by simp only [upd, nes k hk' hki2 (by omega), if_false], ?_⟩
          obtain ⟨e, c, ⟨b1, _, b3, _⟩, _⟩ := hJ.box k hk' hk1
          rw [b1]
          intro hc
          have hlt := (Array.getElem?_eq_some_iff.1 b3).1
          simp only [Value.pointer.injEq, Option.some.injEq, Addr.mk.injEq] at hc
          omega
        rintro k j (rfl | hk') (rfl | hj') hk1 hj1 hkj
        · exact absurd rfl hkj
        · rw [(old j hj' hj1).1]
          simp only [upd, if_true]
          exact fun e => (old j hj' hj1).2 e.symm
        · rw [(old k hk' hk1).1]
          simp only [upd, if_true]
          exact (old k hk' hk1).2
        · rw [(old k hk' hk1).1, (old j hj' hj1).1]
          exact hJ.apart k j hk' hj' hk1 hj1 hkj
      · rintro s (rfl | hs') hs2
        · omega
        · exact Or.inr (hJ.dep s hs' hs2)
    · obtain ⟨hd1, ht1, htl, hnd⟩ := hp.store hki
      have hon := hk _ hnd
      obtain ⟨e, c, hbx, _⟩ := hJ.box _ hon ht1
      refine Oper.wp_mono ?_ (hs.2.2 hki e c hbx)
      rintro a' W' ⟨rfl, rfl⟩
      obtain ⟨b1, b2, b3, b4⟩ := hbx
      have hb : Below W0.heap.size W (W.setRow e (bc i)) := ⟨rfl, rfl, rfl, by simp, fun k hk' => setRow_other _ _ _ _ (by omega)⟩
      refine ⟨X, rfl, hJ.low.trans hb, ?_, ?_, ?_, ?_, ?_⟩
      · rintro k (rfl | hk')
        · exact hil
        · exact hJ.bound k hk'
      · rintro k (rfl | hk') hk0
        · omega
        · exact hV _ _ _ _ (hJ.vals k hk' hk0) hb
      · rintro k (rfl | hk') hk0
        · omega
        · by_cases hkt : k = p.t i
          · subst hkt
            refine ⟨e, bc i, ⟨b1, b2, setRow_heap _ _ _ _ _ _ b3, hbc i hki⟩, ?_⟩
            rintro s (rfl | hs') hs2 ht
            · rfl
            · exact absurd ht.symm (hp.one s (hJ.bound s hs') (fun e => hne s hs' e.symm) hki hs2)
          · obtain ⟨e', c', ⟨b1', b2', b3', b4'⟩, b5'⟩ := hJ.box k hk' hk0
            have hee : e' ≠ e := fun he => by
              subst he
              exact hJ.apart k (p.t i) hk' hon hk0 ht1 hkt (b1'.trans b1.symm)
            refine ⟨e', c', ⟨b1', b2', (setRow_other _ _ _ _ hee).trans b3', b4'⟩, ?_⟩
            rintro s (rfl | hs') hs2 ht
            · exact absurd ht (fun e => hkt e.symm)
            · exact b5' s hs' hs2 ht
      · rintro k j (rfl | hk') (rfl | hj') hk1 hj1 hkj
        · omega
        · omega
        · omega
        · exact hJ.apart k j hk' hj' hk1 hj1 hkj
      · rintro s (rfl | hs') hs2
        · exact Or.inr hon
        · exact Or.inr (hJ.dep s hs' hs2)
/-- The whole region. -/
theorem wp_region_B {id : Nat} {ops : List Oper} {a : Act} {w : World} (ds : List Nat) (p : BoxPlan) (V : Nat → Value → World → Prop) (bt : Nat → TypeId) (bn : Nat → Nat) (bc : Nat → Array Value) (hm : P.follows .mixedOrders = true) (hpl : plainB .any ops = true) (hfit : p.fits .any ds ops = true) (h3 : ∀ i, p.k i ≤ 2) (hbc : ∀ i, p.k i = 2 → (bc i).size = bn (p.t i))
    (hV : ∀ i v W W', V i v W → Below w.heap.size W W' → V i v W') (hst : StepsB P .any Q a ds p V bt bn bc w 0 ops)
    (hdone : ∀ X W, Below w.heap.size w W → (∀ i, i < ops.length → p.k i = 0 → V i (X (p.s i)) W) → (∀ s, s < ops.length → p.k s = 2 → ∃ e, BoxAt w W (X (p.s (p.t s))) (bt (p.t s)) (bn (p.t s)) e (bc s)) → (∀ i j, i < ops.length → j < ops.length → p.k i = 1 → p.k j = 1 → i ≠ j → X (p.s i) ≠ X (p.s j)) → Q .normal (puts a X ds) W) : (Code.region id ops.toArray true).wp P Q a w := by
  refine wp_region_J ds _ hm hpl ?_ (steps_of_B hfit h3 hbc hV (all := ops) (i := 0) (fun j o e => by rwa [Nat.zero_add]) hst) ?_
  · exact ⟨⟨rfl, rfl, rfl, Nat.le_refl _, fun _ _ => rfl⟩, fun _ h => h.elim, fun _ h => h.elim, fun _ h => h.elim, fun _ _ h => h.elim, fun _ h => h.elim⟩
  · intro on X W hJ hall
    refine hdone X W hJ.low (fun i hi hk => hJ.vals i (hall i hi) hk) (fun s hs hk => ?_) (fun i j hi hj => hJ.apart i j (hall i hi) (hall j hj))
    have hp := BoxPlan.at_ hfit (i := s) (o := ops[s]) (by simp [hs])
    obtain ⟨_, ht1, htl, _⟩ := hp.store hk
    obtain ⟨e, c, hbx, hc⟩ := hJ.box _ (hall _ htl) ht1
    rw [hc s (hall s hs) hk rfl] at hbx
    exact ⟨e, hbx⟩
end
end Go.Proofs.Ytepdpafpjiaaeaa
