import Derived.Test.YthkfbaoeimjgaaaGreatRegIM
import Derived.Below
/- A region that draws its order and lays new blocks alone: what each operation gives, in any order, stays as it is. One step an operation, one fact a slot. -/
namespace Go.Proofs.YthkfbaoeimjgaaaGreat
open Go Go.RowKit
section
variable {P : Program} {Q : Exit → Act → World → Prop} {md : Region.Mode}
/-- One step for each operation: what it needs is there; it gives what it must. -/
def StepsV (P : Program) (md : Region.Mode) (Q : Exit → Act → World → Prop) (A : Act) (ds : List Nat) (V : Nat → Value → World → Prop) (W0 : World) : Nat → List Oper → Prop
  | _, [] => True
  | i, o :: os => (∀ X W, Below W0.heap.size W0 W → (∀ k, needs md o k = true → V k (X (ds.getD k 0)) W) → o.wp P (puts A X ds) W (fun a' W' => ∃ v, a' = (puts A X ds).put o.dst v ∧ V i v W' ∧ Below W.heap.size W W') Q) ∧ StepsV P md Q A ds V W0 (i + 1) os
def dstsB : List Nat → List Oper → Bool
  | [], [] => true
  | d :: ds, o :: os => (o.dst == some d) && !ds.contains d && dstsB ds os
  | _, _ => false
theorem dstsB_len : ∀ {ds : List Nat} {os : List Oper}, dstsB ds os = true → ds.length = os.length
  | [], [], _ => rfl
  | [], _ :: _, h => by cases h
  | _ :: _, [], h => by cases h
  | d :: ds, o :: os, h => by
    simp only [dstsB, Bool.and_eq_true] at h
    simp [dstsB_len h.2]
theorem dstsB_at : ∀ {ds : List Nat} {os : List Oper}, dstsB ds os = true → ∀ {i : Nat} {o : Oper}, os[i]? = some o → o.dst = some (ds.getD i 0) ∧ ds.getD i 0 ∈ ds
  | [], [], _, i, o, h => by simp at h
  | [], _ :: _, h, _, _, _ => by cases h
  | _ :: _, [], h, _, _, _ => by cases h
  | d :: ds, o :: os, h, 0, x, e => by
    simp only [dstsB, Bool.and_eq_true] at h
    cases e
    exact ⟨by simpa using h.1.1, by simp⟩
  | d :: ds, o :: os, h, i + 1, x, e => by
    simp only [dstsB, Bool.and_eq_true] at h
    have := dstsB_at h.2 (i := i) e
    exact ⟨by simpa using this.1, by simpa using Or.inr this.2⟩
theorem dstsB_ne : ∀ {ds : List Nat} {os : List Oper}, dstsB ds os = true → ∀ {i j : Nat}, i < ds.length → j < ds.length → i ≠ j → ds.getD i 0 ≠ ds.getD j 0
  | [], [], _, i, j, h, _, _ => by simp at h
  | [], _ :: _, h, _, _, _, _, _ => by cases h
  | _ :: _, [], h, _, _, _, _, _ => by cases h
  | d :: ds, o :: os, h, i, j, hi, hj, hne => by
    simp only [dstsB, Bool.and_eq_true] at h
    have hm : d ∉ ds := by simpa using h.1.2
    have mem : ∀ k, k < ds.length → ds.getD k 0 ∈ ds := fun k hk => by rw [List.getD_eq_getElem?_getD, List.getElem?_eq_getElem hk]; exact List.getElem_mem hk
    cases i with
    | zero =>
      cases j with
      | zero => exact absurd rfl hne
      | succ j =>
        intro e
        have e' : d = ds.getD j 0 := by simpa using e
        exact hm (e' ▸ mem j (by simpa using hj))
    | succ i =>
      cases j with
      | zero =>
        intro e
        have e' : ds.getD i 0 = d := by simpa using e
        exact hm (e' ▸ mem i (by simpa using hi))
      | succ j =>
        have := dstsB_ne h.2 (i := i) (j := j) (by simpa using hi) (by simpa using hj) (by omega)
        simpa using this
theorem steps_of_V {A : Act} {ds : List Nat} {V : Nat → Value → World → Prop} {W0 : World} {all : List Oper} (hds : dstsB ds all = true) (hV : ∀ i v W W', V i v W → Below W.heap.size W W' → V i v W') :
    ∀ {os : List Oper} {i : Nat}, (∀ j o, os[j]? = some o → all[i + j]? = some o) → StepsV P md Q A ds V W0 i os →
      Steps P md Q A ds (fun on X W => (∀ k, k < all.length → on k → V k (X (ds.getD k 0)) W) ∧ (∀ k, on k → k < all.length) ∧ Below W0.heap.size W0 W) i os
  | [], _, _, _ => trivial
  | o :: os, i, hall, h => by
    have hoi := hall 0 o rfl
    rw [Nat.add_zero] at hoi
    have hil : i < all.length := (List.getElem?_eq_some_iff.1 hoi).1
    obtain ⟨hd1, hd2⟩ := dstsB_at hds hoi
    refine ⟨?_, steps_of_V hds hV (fun j o' e => by have := hall (j + 1) o' (by simpa using e); rwa [show i + 1 + j = i + (j + 1) by omega]) h.2⟩
    rintro on X W ⟨h1, h2, h3⟩ hn hk
    refine Oper.wp_mono ?_ (h.1 X W h3 (fun k hk' => h1 k (h2 k (hk k hk')) (hk k hk')))
    rintro a' W' ⟨v, rfl, hv, hb⟩
    refine ⟨upd X (ds.getD i 0) v, by rw [hd1]; exact puts_put v hd2, ?_, ?_, h3.trans (hb.mono h3.size)⟩
    · rintro k hkl (rfl | hk')
      · simpa [upd] using hv
      · have hne : k ≠ i := fun e => hn (e ▸ hk')
        have := dstsB_ne hds (by rw [dstsB_len hds]; exact hkl) (by rw [dstsB_len hds]; exact hil) hne
        simp only [upd, this, if_false]
        exact hV _ _ _ _ (h1 k hkl hk') hb
    · rintro k (rfl | hk')
      · exact hil
      · exact h2 k hk'
/-- The whole region. -/
theorem wp_region_V {id : Nat} {ops : List Oper} {a : Act} {w : World} (ds : List Nat) (V : Nat → Value → World → Prop) (hm : P.follows .mixedOrders = true) (hp : plainB .any ops = true) (hds : dstsB ds ops = true)
    (hV : ∀ i v W W', V i v W → Below W.heap.size W W' → V i v W') (hst : StepsV P .any Q a ds V w 0 ops)
    (hdone : ∀ X W, Below w.heap.size w W → (∀ i, i < ops.length → V i (X (ds.getD i 0)) W) → Q .normal (puts a X ds) W) : (Code.region id ops.toArray true).wp P Q a w := by
  refine wp_region_J ds _ hm hp ?_ (steps_of_V hds hV (all := ops) (i := 0) (fun j o e => by rwa [Nat.zero_add]) hst) ?_
  · exact ⟨fun _ _ h => h.elim, fun _ h => h.elim, ⟨rfl, rfl, rfl, Nat.le_refl _, fun _ _ => rfl⟩⟩
  · rintro on X W ⟨h1, _, h3⟩ hall
    exact hdone X W h3 (fun i hi => h1 i hi (hall i hi))
theorem v_value {o : Oper} {a : Act} {w : World} {v : Value} {V : Value → World → Prop} (h : (execOp a.eval o).run P w = .ok (.value v) w) (hV : V v w) : o.wp P a w (fun a' W' => ∃ v, a' = a.put o.dst v ∧ V v W' ∧ Below w.heap.size w W') Q :=
  op_value h ⟨v, rfl, hV, Below.refl _ _⟩
theorem v_call {o : Oper} {a : Act} {w : World} {f : FuncId} {vs : Array Value} {V : Value → World → Prop} (h : (execOp a.eval o).run P w = .ok (.enter f vs) w) (hK : Calls P f vs w fun r w' => ∃ v, r = .returned v ∧ V v w' ∧ Below w.heap.size w w') : o.wp P a w (fun a' W' => ∃ v, a' = a.put o.dst v ∧ V v W' ∧ Below w.heap.size w W') Q :=
  op_call h (hK.mono fun _ _ ⟨v, e, hv, hb⟩ => ⟨v, e, v, rfl, hv, hb⟩)
end
end Go.Proofs.YthkfbaoeimjgaaaGreat
