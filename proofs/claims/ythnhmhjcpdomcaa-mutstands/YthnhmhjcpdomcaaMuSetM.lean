import Derived.Test.YthnhmhjcpdomcaaMuDo
import Derived.Test.YthnhmhjcpdomcaaRegI
import Derived.Below
import Derived.Test.YthnhmhjcpdomcaaProg
import Derived.Maps.OwnSet
import Derived.WalkKit
import Derived.OwnWalk
section
/- Graphs that may be: vertices and edges rise, and how many there are. -/
namespace Go.Proofs.Ythnhmhjcpdomcaa
open Go.RowKit
theorem fold_sum : ∀ (G : List Vx) (a : Int) (B : Nat), 0 ≤ a → (∀ v ∈ G, v.es.length ≤ B) → a + G.length * B ≤ 4611686018427387904 → G.foldl (fun a v => wrap64 (a + v.es.length)) a = a + ((G.map fun v => v.es.length).sum : Nat) ∧ ∀ v ∈ G, (v.es.length : Int) ≤ ((G.map fun v => v.es.length).sum : Nat)
  | [], a, B, _, _, _ => ⟨by simp, fun v hv => (by cases hv)⟩
  | v :: G, a, B, h0, hB, hs => by
    have hv := hB v (by simp)
    have e : (((v :: G).length : Nat) : Int) * B = (G.length : Int) * B + B := by rw [List.length_cons]; push_cast; rw [Int.add_mul, Int.one_mul]
    rw [e] at hs
    have hp : (0 : Int) ≤ (G.length : Int) * B := Int.mul_nonneg (by omega) (by omega)
    have hw : wrap64 (a + v.es.length) = a + v.es.length := by
      have h2 : a + (v.es.length : Int) ≤ 4611686018427387904 := by omega
      unfold wrap64
      omega
    have ih := fold_sum G (a + v.es.length) B (by omega) (fun y hy => hB y (by simp [hy])) (by omega)
    rw [List.foldl_cons, hw, ih.1, List.map_cons, List.sum_cons]
    refine ⟨by push_cast; omega, fun y hy => ?_⟩
    rcases List.mem_cons.1 hy with rfl | hy
    · push_cast; omega
    · have := ih.2 y hy; push_cast; omega
theorem up_of {G : List Vx} (h : chk G = 0) (hok : ∀ v ∈ G, v.ok) : Up 2048 G := by
  have hl : G.length ≤ 256 := by
    unfold chk at h
    split at h
    · cases h
    · rename_i hn; omega
  have hs : sumE G ≤ 2048 := by
    unfold chk at h
    split at h
    · cases h
    · split at h
      · cases h
      · rename_i hn; omega
  have := fold_sum G 0 8796093022208 (Int.le_refl _) (fun v hv => (hok v hv).len) (by omega)
  have e : sumE G = ((G.map fun v => v.es.length).sum : Nat) := by unfold sumE; rw [this.1]; simp
  refine ⟨by omega, fun v hv => ?_⟩
  have := this.2 v hv
  omega
theorem fine_of {G : List Vx} (h : chk G = 0) : Fine G := by
  unfold chk at h
  split at h
  · cases h
  · rename_i hn
    split at h
    · cases h
    · rename_i hn2
      refine ⟨rise_pw.1 ((riseB_iff _).1 ?_), fun v hv => rise_pw.1 ((riseB_iff _).1 ?_)⟩
      · cases hb : riseB (ids G) with
        | true => rfl
        | false => exact absurd (Or.inr hb) hn
      · cases hb : risesE G with
        | true => exact List.all_eq_true.1 hb v hv
        | false => exact absurd (Or.inr (Or.inl hb)) hn2
/-- Numbers of 64 bits stay such. -/
theorem doV_okk {v : Vx} {m : Mu} (h : v.ok) (hm : m.ok) (hl : v.es.length < 8796093022208) : ∀ y ∈ (doV v m).1, y.ok := by
  intro y hy
  unfold doV at hy
  split at hy
  · cases hy
  · split at hy
    · split at hy
      · rw [List.mem_singleton] at hy
        subst hy
        refine ⟨h.id, h.val, fun e he => ?_, by simp only [List.length_append, List.length_take, List.length_drop]; omega⟩
        rcases List.mem_append.1 he with he | he
        · exact h.es e (List.mem_of_mem_take he)
        · exact h.es e (List.mem_of_mem_drop he)
      · rw [List.mem_singleton] at hy; subst hy; exact h
    · split at hy
      · split at hy
        · rw [List.mem_singleton] at hy; subst hy; exact h
        · rw [List.mem_singleton] at hy
          subst hy
          refine ⟨h.id, h.val, fun e he => ?_, by simp only [List.length_append, List.length_take, List.length_cons, List.length_drop]; omega⟩
          rcases List.mem_append.1 he with he | he
          · exact h.es e (List.mem_of_mem_take he)
          · rcases List.mem_cons.1 he with rfl | he
            · exact ⟨hm.t, hm.v⟩
            · exact h.es e (List.mem_of_mem_drop he)
      · rw [List.mem_singleton] at hy; subst hy; exact h
theorem doG_okk {G : List Vx} {m : Mu} (hf : Fine G) (h : ∀ v ∈ G, v.ok) (hm : m.ok) (hl : ∀ v ∈ G, v.es.length < 8796093022208) : ∀ y ∈ (doG G m).1, y.ok := by
  intro y hy
  rcases doG_form hf m with ⟨A, v, B, h1, h2, h3, h4, e⟩ | ⟨A, B, h1, h3, h4, e⟩
  · rw [e] at hy
    rw [h1] at h hl
    rcases List.mem_append.1 hy with hy | hy
    · exact h y (by simp [hy])
    · rcases List.mem_append.1 hy with hy | hy
      · exact doV_okk (h v (by simp)) hm (hl v (by simp)) y hy
      · exact h y (by simp [hy])
  · rw [e] at hy
    rw [h1] at h
    rcases List.mem_append.1 hy with hy | hy
    · exact h y (by simp [hy])
    · rcases List.mem_append.1 hy with hy | hy
      · unfold noV at hy
        split at hy
        · rw [List.mem_singleton] at hy
          subst hy
          exact ⟨hm.i, hm.v, fun e he => (by cases he), by simp⟩
        · cases hy
      · exact h y (by simp [hy])
theorem runU_okk {s : List Vx × Nat} {n : Nat} (hf : Fine s.1) (hu : Up n s.1) (h : ∀ v ∈ s.1, v.ok) : ∀ (l : List Mu), (∀ m ∈ l, m.ok) → n + l.length < 8796093022208 → ∀ y ∈ (runU s l).1, y.ok := by
  intro l
  induction l generalizing s n with
  | nil => exact fun _ _ => h
  | cons m l ih =>
    intro hm hl
    rw [List.length_cons] at hl
    exact ih (s := stepU s m) (doG_fine hf m) (doG_up hf m hu) (doG_okk hf h (hm m (by simp)) (fun v hv => by have := hu.2 v hv; omega)) (fun x hx => hm x (by simp [hx])) (by omega)
theorem appG_okk {G : List Vx} {l : List Mu} {n : Nat} (hf : Fine G) (hu : Up n G) (h : ∀ v ∈ G, v.ok) (hm : ∀ m ∈ l, m.ok) (hl : n + l.length < 8796093022208) : ∀ y ∈ (appG G l).1, y.ok :=
  runU_okk (s := (G, 0)) hf hu h (thatC l) (fun m hx => hm m (thatC_mem hx)) (by have := thatC_len l; omega)
end Go.Proofs.Ythnhmhjcpdomcaa
end

section
/- A region that draws its order and lays new blocks alone: what each operation gives, in any order, stays as it is. One step an operation, one fact a slot. -/
namespace Go.Proofs.Ythnhmhjcpdomcaa
open Go Go.RowKit
section
variable {P : Program} {Q : Exit → Act → World → Prop} {md : Region.Mode}
/-- One step for each operation: what it needs is there; it gives what it must. -/
def StepsV (P : Program) (md : Region.Mode) (Q : Exit → Act → World → Prop) (A : Act) (ds : List Nat) (V : Nat → Value → World → Prop) (W0 : World) : Nat → List Oper → Prop
  | _, [] => True
  | i, o :: os => (∀ X W, Below W0.heap.size W0 W → (∀ k, needs md o k = true → V k (X (ds.getD k 0)) W) → o.wp P (puts A X ds) W (fun a' W' => ∃ v, a' = (puts A X ds).put o.dst v ∧ V i v W' ∧ Below W.heap.size W W') Q) ∧ StepsV P md Q A ds V W0 (i + 1) os
def dstsB : List Nat → List Oper → Bool
  | [], [] => true
  | d :: ds, o :: os => (o.dst == some d) && !ds.contains d && dstsB ds os
  | _, _ => false
theorem dstsB_len : ∀ {ds : List Nat} {os : List Oper}, dstsB ds os = true → ds.length = os.length
  | [], [], _ => rfl
  | [], _ :: _, h => by cases h
  | _ :: _, [], h => by cases h
  | d :: ds, o :: os, h => by
    simp only [dstsB, Bool.and_eq_true] at h
    simp [dstsB_len h.2]
theorem dstsB_at : ∀ {ds : List Nat} {os : List Oper}, dstsB ds os = true → ∀ {i : Nat} {o : Oper}, os[i]? = some o → o.dst = some (ds.getD i 0) ∧ ds.getD i 0 ∈ ds
  | [], [], _, i, o, h => by simp at h
  | [], _ :: _, h, _, _, _ => by cases h
  | _ :: _, [], h, _, _, _ => by cases h
  | d :: ds, o :: os, h, 0, x, e => by
    simp only [dstsB, Bool.and_eq_true] at h
    cases e
    exact ⟨by simpa using h.1.1, by simp⟩
  | d :: ds, o :: os, h, i + 1, x, e => by
    simp only [dstsB, Bool.and_eq_true] at h
    have := dstsB_at h.2 (i := i) e
    exact ⟨by simpa using this.1, by simpa using Or.inr this.2⟩
theorem dstsB_ne : ∀ {ds : List Nat} {os : List Oper}, dstsB ds os = true → ∀ {i j : Nat}, i < ds.length → j < ds.length → i ≠ j → ds.getD i 0 ≠ ds.getD j 0
  | [], [], _, i, j, h, _, _ => by simp at h
  | [], _ :: _, h, _, _, _, _, _ => by cases h
  | _ :: _, [], h, _, _, _, _, _ => by cases h
  | d :: ds, o :: os, h, i, j, hi, hj, hne => by
    simp only [dstsB, Bool.and_eq_true] at h
    have hm : d ∉ ds := by simpa using h.1.2
    have mem : ∀ k, k < ds.length → ds.getD k 0 ∈ ds := fun k hk => by rw [List.getD_eq_getElem?_getD, List.getElem?_eq_getElem hk]; exact List.getElem_mem hk
    cases i with
    | zero =>
      cases j with
      | zero => exact absurd rfl hne
      | succ j =>
        intro e
        have e' : d = ds.getD j 0 := by simpa using e
        exact hm (e' ▸ mem j (by simpa using hj))
    | succ i =>
      cases j with
      | zero =>
        intro e
        have e' : ds.getD i 0 = d := by simpa using e
        exact hm (e' ▸ mem i (by simpa using hi))
      | succ j =>
        have := dstsB_ne h.2 (i := i) (j := j) (by simpa using hi) (by simpa using hj) (by omega)
        simpa using this
theorem steps_of_V {A : Act} {ds : List Nat} {V : Nat → Value → World → Prop} {W0 : World} {all : List Oper} (hds : dstsB ds all = true) (hV : ∀ i v W W', V i v W → Below W.heap.size W W' → V i v W') :
    ∀ {os : List Oper} {i : Nat}, (∀ j o, os[j]? = some o → all[i + j]? = some o) → StepsV P md Q A ds V W0 i os →
      Steps P md Q A ds (fun on X W => (∀ k, k < all.length → on k → V k (X (ds.getD k 0)) W) ∧ (∀ k, on k → k < all.length) ∧ Below W0.heap.size W0 W) i os
  | [], _, _, _ => trivial
  | o :: os, i, hall, h => by
    have hoi := hall 0 o rfl
    rw [Nat.add_zero] at hoi
    have hil : i < all.length := (List.getElem?_eq_some_iff.1 hoi).1
    obtain ⟨hd1, hd2⟩ := dstsB_at hds hoi
    refine ⟨?_, steps_of_V hds hV (fun j o' e => by have := hall (j + 1) o' (by simpa using e); rwa [show i + 1 + j = i + (j + 1) by omega]) h.2⟩
    rintro on X W ⟨h1, h2, h3⟩ hn hk
    refine Oper.wp_mono ?_ (h.1 X W h3 (fun k hk' => h1 k (h2 k (hk k hk')) (hk k hk')))
    rintro a' W' ⟨v, rfl, hv, hb⟩
    refine ⟨upd X (ds.getD i 0) v, by rw [hd1]; exact puts_put v hd2, ?_, ?_, h3.trans (hb.mono h3.size)⟩
    · rintro k hkl (rfl | hk')
      · simpa [upd] using hv
      · have hne : k ≠ i := fun e => hn (e ▸ hk')
        have := dstsB_ne hds (by rw [dstsB_len hds]; exact hkl) (by rw [dstsB_len hds]; exact hil) hne
        simp only [upd, this, if_false]
        exact hV _ _ _ _ (h1 k hkl hk') hb
    · rintro k (rfl | hk')
      · exact hil
      · exact h2 k hk'
/-- The whole region. -/
theorem wp_region_V {id : Nat} {ops : List Oper} {a : Act} {w : World} (ds : List Nat) (V : Nat → Value → World → Prop) (hm : P.follows .mixedOrders = true) (hp : plainB .any ops = true) (hds : dstsB ds ops = true)
    (hV : ∀ i v W W', V i v W → Below W.heap.size W W' → V i v W') (hst : StepsV P .any Q a ds V w 0 ops)
    (hdone : ∀ X W, Below w.heap.size w W → (∀ i, i < ops.length → V i (X (ds.getD i 0)) W) → Q .normal (puts a X ds) W) : (Code.region id ops.toArray true).wp P Q a w := by
  refine wp_region_J ds _ hm hp ?_ (steps_of_V hds hV (all := ops) (i := 0) (fun j o e => by rwa [Nat.zero_add]) hst) ?_
  · exact ⟨fun _ _ h => h.elim, fun _ h => h.elim, ⟨rfl, rfl, rfl, Nat.le_refl _, fun _ _ => rfl⟩⟩
  · rintro on X W ⟨h1, _, h3⟩ hall
    exact hdone X W h3 (fun i hi => h1 i hi (hall i hi))
theorem v_value {o : Oper} {a : Act} {w : World} {v : Value} {V : Value → World → Prop} (h : (execOp a.eval o).run P w = .ok (.value v) w) (hV : V v w) : o.wp P a w (fun a' W' => ∃ v, a' = a.put o.dst v ∧ V v W' ∧ Below w.heap.size w W') Q :=
  op_value h ⟨v, rfl, hV, Below.refl _ _⟩
theorem v_skip {o : Oper} {a : Act} {w : World} {V : Value → World → Prop} (h : (execOp a.eval o).run P w = .ok .skip w) (hV : V undef w) : o.wp P a w (fun a' W' => ∃ v, a' = a.put o.dst v ∧ V v W' ∧ Below w.heap.size w W') Q :=
  op_skip h ⟨undef, rfl, hV, Below.refl _ _⟩
theorem v_call {o : Oper} {a : Act} {w : World} {f : FuncId} {vs : Array Value} {V : Value → World → Prop} (h : (execOp a.eval o).run P w = .ok (.enter f vs) w) (hK : Calls P f vs w fun r w' => ∃ v, r = .returned v ∧ V v w' ∧ Below w.heap.size w w') : o.wp P a w (fun a' W' => ∃ v, a' = a.put o.dst v ∧ V v W' ∧ Below w.heap.size w W') Q :=
  op_call h (hK.mono fun _ _ ⟨v, e, hv, hb⟩ => ⟨v, e, v, rfl, hv, hb⟩)
end
end Go.Proofs.Ythnhmhjcpdomcaa
end

section
/- As RegV, where an operation reads a slot that a later one of the region writes. -/
namespace Go.Proofs.Ythnhmhjcpdomcaa
open Go Go.RowKit
section
variable {P : Program} {Q : Exit → Act → World → Prop} {md : Region.Mode}
/-- Number s waits for number i, by others too. -/
def waitsB (md : Region.Mode) (all : List Oper) : Nat → Nat → Nat → Bool
  | 0, _, _ => false
  | f + 1, s, i => match all[s]? with
    | some o => o.after.any fun e => Region.binds md e && (e.on == i || waitsB md all f e.on i)
    | none => false
theorem waits_on {all : List Oper} {on : Nat → Prop} (hc : ∀ k o, all[k]? = some o → on k → ∀ m, needs md o m = true → on m) : ∀ (f s i : Nat), waitsB md all f s i = true → on s → on i
  | 0, _, _, h, _ => by cases h
  | f + 1, s, i, h, hs => by
    unfold waitsB at h
    cases ho : all[s]? with
    | none => rw [ho] at h; cases h
    | some o =>
      rw [ho] at h
      obtain ⟨e, he, h2⟩ := Array.any_eq_true'.1 h
      rw [Bool.and_eq_true, Bool.or_eq_true] at h2
      have hm : on e.on := hc s o ho hs e.on (Array.any_eq_true'.2 ⟨e, he, by rw [h2.1]; simp⟩)
      rcases h2.2 with h3 | h3
      · rw [← show e.on = i by simpa using h3]; exact hm
      · exact waits_on hc f e.on i h3 hm
def StepsU (P : Program) (md : Region.Mode) (Q : Exit → Act → World → Prop) (A : Act) (ds : List Nat) (all : List Oper) (V : Nat → Value → World → Prop) (W0 : World) : Nat → List Oper → Prop
  | _, [] => True
  | i, o :: os => (∀ X W, Below W0.heap.size W0 W → (∀ k, needs md o k = true → V k (X (ds.getD k 0)) W) → (∀ k, k < all.length → waitsB md all all.length k i = true → X (ds.getD k 0) = A.eval (.tmp (ds.getD k 0))) → o.wp P (puts A X ds) W (fun a' W' => ∃ v, a' = (puts A X ds).put o.dst v ∧ V i v W' ∧ Below W.heap.size W W') Q) ∧ StepsU P md Q A ds all V W0 (i + 1) os
theorem steps_of_U {A : Act} {ds : List Nat} {V : Nat → Value → World → Prop} {W0 : World} {all : List Oper} (hds : dstsB ds all = true) (hV : ∀ i v W W', V i v W → Below W.heap.size W W' → V i v W') :
    ∀ {os : List Oper} {i : Nat}, (∀ j o, os[j]? = some o → all[i + j]? = some o) → StepsU P md Q A ds all V W0 i os →
      Steps P md Q A ds (fun on X W => (∀ k, k < all.length → on k → V k (X (ds.getD k 0)) W) ∧ (∀ k, on k → k < all.length) ∧ Below W0.heap.size W0 W ∧ (∀ k o, all[k]? = some o → on k → ∀ m, needs md o m = true → on m) ∧ (∀ k, k < all.length → ¬ on k → X (ds.getD k 0) = A.eval (.tmp (ds.getD k 0)))) i os
  | [], _, _, _ => trivial
  | o :: os, i, hall, h => by
    have hoi := hall 0 o rfl
    rw [Nat.add_zero] at hoi
    have hil : i < all.length := (List.getElem?_eq_some_iff.1 hoi).1
    obtain ⟨hd1, hd2⟩ := dstsB_at hds hoi
    refine ⟨?_, steps_of_U hds hV (fun j o' e => by have := hall (j + 1) o' (by simpa using e); rwa [show i + 1 + j = i + (j + 1) by omega]) h.2⟩
    rintro on X W ⟨h1, h2, h3, h4, h5⟩ hn hk
    refine Oper.wp_mono ?_ (h.1 X W h3 (fun k hk' => h1 k (h2 k (hk k hk')) (hk k hk')) (fun k hkl hw => h5 k hkl (fun hon => hn (waits_on h4 _ _ _ hw hon))))
    rintro a' W' ⟨v, rfl, hv, hb⟩
    refine ⟨upd X (ds.getD i 0) v, by rw [hd1]; exact puts_put v hd2, ?_, ?_, h3.trans (hb.mono h3.size), ?_, ?_⟩
    · rintro k hkl (rfl | hk')
      · simpa [upd] using hv
      · have hne : k ≠ i := fun e => hn (e ▸ hk')
        have := dstsB_ne hds (by rw [dstsB_len hds]; exact hkl) (by rw [dstsB_len hds]; exact hil) hne
        simp only [upd, this, if_false]
        exact hV _ _ _ _ (h1 k hkl hk') hb
    · rintro k (rfl | hk')
      · exact hil
      · exact h2 k hk'
    · rintro k o' ho' (rfl | hk') m hm
      · rw [hoi] at ho'
        cases ho'
        exact Or.inr (hk m hm)
      · exact Or.inr (h4 k o' ho' hk' m hm)
    · intro k hkl hk'
      have hne : k ≠ i := fun e => hk' (Or.inl e)
      have := dstsB_ne hds (by rw [dstsB_len hds]; exact hkl) (by rw [dstsB_len hds]; exact hil) hne
      simp only [upd, this, if_false]
      exact h5 k hkl (fun hon => hk' (Or.inr hon))
/-- The whole region. -/
theorem wp_region_U {id : Nat} {ops : List Oper} {a : Act} {w : World} (ds : List Nat) (V : Nat → Value → World → Prop) (hm : P.follows .mixedOrders = true) (hp : plainB .any ops = true) (hds : dstsB ds ops = true)
    (hV : ∀ i v W W', V i v W → Below W.heap.size W W' → V i v W') (hst : StepsU P .any Q a ds ops V w 0 ops)
    (hdone : ∀ X W, Below w.heap.size w W → (∀ i, i < ops.length → V i (X (ds.getD i 0)) W) → Q .normal (puts a X ds) W) : (Code.region id ops.toArray true).wp P Q a w := by
  refine wp_region_J ds _ hm hp ?_ (steps_of_U hds hV (all := ops) (i := 0) (fun j o e => by rwa [Nat.zero_add]) hst) ?_
  · exact ⟨fun _ _ h => h.elim, fun _ h => h.elim, ⟨rfl, rfl, rfl, Nat.le_refl _, fun _ _ => rfl⟩, fun _ _ _ h => h.elim, fun _ _ _ => rfl⟩
  · rintro on X W ⟨h1, _, h3, _, _⟩ hall
    exact hdone X W h3 (fun i hi => h1 i hi (hall i hi))
end
end Go.Proofs.Ythnhmhjcpdomcaa
end

section
/- A region that draws its order, lays new blocks alone and has operations that are done only where a truth says so: what each operation gives, in any order. -/
namespace Go.Proofs.Ythnhmhjcpdomcaa
open Go Go.RowKit
section
variable {P : Program} {Q : Exit → Act → World → Prop} {md : Region.Mode}
/-- Is the operation done, where the truths that guard others are these? -/
def wantG (gb : Nat → Bool) (o : Oper) : Bool := match o.guard with
  | none => true
  | some (j, want) => gb j == want
/-- Each operation waits for earlier ones alone, and for its guard. -/
def orderB (md : Region.Mode) (ops : List Oper) : Bool := (List.range ops.length).all fun i => match ops[i]? with
  | some o => (o.after.all fun e => !Region.binds md e || decide (e.on < i)) && (match o.guard with
    | none => true
    | some (j, _) => needs md o j && decide (j < ops.length))
  | none => true
theorem orderB_at {ops : List Oper} (h : orderB md ops = true) {i : Nat} {o : Oper} (ho : ops[i]? = some o) : (∀ e ∈ o.after, Region.binds md e = true → e.on < i) ∧ ∀ j want, o.guard = some (j, want) → needs md o j = true ∧ j < ops.length := by
  have hlt : i < ops.length := (List.getElem?_eq_some_iff.1 ho).1
  have := List.all_eq_true.1 h i (List.mem_range.2 hlt)
  rw [ho] at this
  simp only [Bool.and_eq_true] at this
  refine ⟨fun e he hb => ?_, fun j want hg => ?_⟩
  · have := Array.all_eq_true'.1 this.1 e he
    rw [hb] at this
    simpa using this
  · have h2 := this.2
    rw [hg] at h2
    simp only [Bool.and_eq_true, decide_eq_true_eq] at h2
    exact h2
theorem all_onG {ops : List Oper} (hp : orderB md ops = true) {listed : Array Bool} (hs : listed.size = ops.length) (hr : Region.ready md ops.toArray listed = []) : ∀ i, i < ops.length → onL listed i := by
  intro i
  induction i using Nat.strongRecOn with
  | ind i ih =>
    intro hi
    by_cases h : listed.getD i true = false
    · exfalso
      have : i ∈ Region.ready md ops.toArray listed := by
        refine mem_ready.2 ⟨h, ops[i], by simp [hi], fun e he hb => ?_⟩
        have hlt := (orderB_at hp (i := i) (o := ops[i]) (by simp [hi])).1 e he hb
        exact ih e.on hlt (by omega)
      rw [hr] at this
      cases this
    · unfold onL
      rw [Array.getD_eq_getD_getElem?] at h ⊢
      have hil : i < listed.size := by omega
      simp [hil] at h ⊢
      exact h
def StepsG (P : Program) (md : Region.Mode) (Q : Exit → Act → World → Prop) (A : Act) (ds : List Nat) (all : List Oper) (V : Nat → Value → World → Prop) (gb : Nat → Bool) (W0 : World) : Nat → List Oper → Prop
  | _, [] => True
  | i, o :: os => ((wantG gb o = true → ∀ X W, Below W0.heap.size W0 W → (∀ k, needs md o k = true → V k (X (ds.getD k 0)) W) → (∀ k, k < all.length → waitsB md all all.length k i = true → X (ds.getD k 0) = A.eval (.tmp (ds.getD k 0))) → o.wp P (puts A X ds) W (fun a' W' => ∃ v, a' = (puts A X ds).put o.dst v ∧ V i v W' ∧ Below W.heap.size W W') Q) ∧ (wantG gb o = false → ∀ W, V i undef W)) ∧ StepsG P md Q A ds all V gb W0 (i + 1) os
theorem StepsG.at_ {A : Act} {ds : List Nat} {all : List Oper} {V : Nat → Value → World → Prop} {gb : Nat → Bool} {W0 : World} : ∀ {os : List Oper} {i : Nat}, StepsG P md Q A ds all V gb W0 i os → ∀ {j : Nat} {o : Oper}, os[j]? = some o →
    (wantG gb o = true → ∀ X W, Below W0.heap.size W0 W → (∀ k, needs md o k = true → V k (X (ds.getD k 0)) W) → (∀ k, k < all.length → waitsB md all all.length k (i + j) = true → X (ds.getD k 0) = A.eval (.tmp (ds.getD k 0))) → o.wp P (puts A X ds) W (fun a' W' => ∃ v, a' = (puts A X ds).put o.dst v ∧ V (i + j) v W' ∧ Below W.heap.size W W') Q) ∧ (wantG gb o = false → ∀ W, V (i + j) undef W)
  | [], _, _, _, _, h => by cases h
  | _ :: _, i, h, 0, _, e => by cases e; exact h.1
  | _ :: os, i, h, j + 1, _, e => by
    have := StepsG.at_ h.2 (j := j) e
    rwa [show i + 1 + j = i + (j + 1) by omega] at this
structure JG (md : Region.Mode) (A : Act) (ds : List Nat) (all : List Oper) (V : Nat → Value → World → Prop) (W0 : World) (on : Nat → Prop) (X : Nat → Value) (W : World) : Prop where
  vals : ∀ k, k < all.length → on k → V k (X (ds.getD k 0)) W
  bound : ∀ k, on k → k < all.length
  low : Below W0.heap.size W0 W
  shut : ∀ k o, all[k]? = some o → on k → ∀ m, needs md o m = true → on m
  old : ∀ k, k < all.length → ¬ on k → X (ds.getD k 0) = A.eval (.tmp (ds.getD k 0))
theorem JG.step {A : Act} {ds : List Nat} {all : List Oper} {V : Nat → Value → World → Prop} {W0 : World} {on : Nat → Prop} {X : Nat → Value} {W W' : World} (hds : dstsB ds all = true) (hV : ∀ i v W W', V i v W → Below W.heap.size W W' → V i v W') (h : JG md A ds all V W0 on X W) {i : Nat} {o : Oper} (hoi : all[i]? = some o) (hn : ¬ on i) (hk : ∀ k, needs md o k = true → on k) {v : Value} (hv : V i v W') (hb : Below W.heap.size W W') :
    JG md A ds all V W0 (fun k => k = i ∨ on k) (upd X (ds.getD i 0) v) W' := by
  have hil : i < all.length := (List.getElem?_eq_some_iff.1 hoi).1
  have hne : ∀ k, k < all.length → k ≠ i → upd X (ds.getD i 0) v (ds.getD k 0) = X (ds.getD k 0) := fun k hkl hki => by
    have := dstsB_ne hds (by rw [dstsB_len hds]; exact hkl) (by rw [dstsB_len hds]; exact hil) hki
    simp only [upd, this, if_false]
  refine ⟨?_, ?_, h.low.trans (hb.mono h.low.size), ?_, ?_⟩
  · rintro k hkl (rfl | hk')
    · simpa [upd] using hv
    · rw [hne k hkl (fun e => hn (e ▸ hk'))]
      exact hV _ _ _ _ (h.vals k hkl hk') hb
  · rintro k (rfl | hk')
    · exact hil
    · exact h.bound k hk'
  · rintro k o' ho' (rfl | hk') m hm
    · rw [hoi] at ho'
      cases ho'
      exact Or.inr (hk m hm)
    · exact Or.inr (h.shut k o' ho' hk' m hm)
  · intro k hkl hk'
    rw [hne k hkl (fun e => hk' (Or.inl e))]
    exact h.old k hkl (fun hon => hk' (Or.inr hon))
theorem wpAny_G {ops : List Oper} {A : Act} {ds : List Nat} {V : Nat → Value → World → Prop} {gb : Nat → Bool} {W0 : World} (hp : orderB md ops = true) (hds : dstsB ds ops = true) (hsz : ∀ d ∈ ds, d < A.tmps.size) (hV : ∀ i v W W', V i v W → Below W.heap.size W W' → V i v W')
    (hgb : ∀ (i : Nat) (o : Oper) (j : Nat) (want : Bool), ops[i]? = some o → o.guard = some (j, want) → ∀ v W, V j v W → v = .bool (gb j)) (hst : StepsG P md Q A ds ops V gb W0 0 ops)
    (hdone : ∀ X W, Below W0.heap.size W0 W → (∀ i, i < ops.length → V i (X (ds.getD i 0)) W) → Q .normal (puts A X ds) W) :
    ∀ (fuel : Nat) (listed : Array Bool) (X : Nat → Value) (W : World), listed.size = ops.length → offs listed ≤ fuel → JG md A ds ops V W0 (onL listed) X W → wpAny P md ops.toArray Q fuel listed (puts A X ds) W
  | 0, listed, X, W, hs, ho, hJ => by
    have hr : Region.ready md ops.toArray listed = [] := by
      cases hr : Region.ready md ops.toArray listed with
      | nil => rfl
      | cons i l =>
        have : i ∈ Region.ready md ops.toArray listed := by rw [hr]; exact List.mem_cons_self
        have := offs_set (mem_ready.1 this).1
        omega
    exact ⟨hr, hdone X W hJ.low (fun i hi => hJ.vals i hi (all_onG hp hs hr i hi))⟩
  | fuel + 1, listed, X, W, hs, ho, hJ => by
    refine ⟨fun hr => hdone X W hJ.low (fun i hi => hJ.vals i hi (all_onG hp hs hr i hi)), fun i hi => ?_⟩
    obtain ⟨hn, o, hoi, hd⟩ := mem_ready.1 hi
    have hoi' : ops[i]? = some o := by simpa using hoi
    have hlt : i < listed.size := by rw [hs]; exact (List.getElem?_eq_some_iff.1 hoi').1
    have hn' : ¬ onL listed i := by
      unfold onL
      rw [Array.getD_eq_getD_getElem?] at hn ⊢
      simp [hlt] at hn ⊢
      exact hn
    have hk : ∀ k, needs md o k = true → onL listed k := fun k hk => by
      obtain ⟨e, he, h2⟩ := Array.any_eq_true'.1 hk
      rw [Bool.and_eq_true] at h2
      have := hd e he h2.1
      rwa [show e.on = k by simpa using h2.2] at this
    obtain ⟨hd1, hd2⟩ := dstsB_at hds hoi'
    have hw : Region.wanted o (yielded ops.toArray (puts A X ds).tmps) = wantG gb o := by
      unfold Region.wanted wantG
      cases hg : o.guard with
      | none => rfl
      | some jw =>
        obtain ⟨j, want⟩ := jw
        obtain ⟨hnj, hjl⟩ := (orderB_at hp hoi').2 j want hg
        have hv := hgb i o j want hoi' hg _ W (hJ.vals j hjl (hk j hnj))
        have hoj : ops[j]? = some (ops[j]) := by simp [hjl]
        obtain ⟨hj1, hj2⟩ := dstsB_at hds hoj
        have hy : yielded ops.toArray (puts A X ds).tmps j = some (gb j) := by
          unfold yielded
          have h1 : (ops.toArray[j]?).bind (·.dst) = some (ds.getD j 0) := by simpa [hjl] using hj1
          rw [h1]
          show (match (puts A X ds).tmps[ds.getD j 0]? with | some (.bool b) => some b | _ => none) = _
          rw [puts_at, if_pos ⟨hj2, hsz _ hj2⟩, hv]
        show (yielded ops.toArray (puts A X ds).tmps j == some want) = _
        rw [hy]
        simp
    have fin : ∀ v W', V i v W' → Below W.heap.size W W' → wpAny P md ops.toArray Q fuel (listed.setIfInBounds i true) ((puts A X ds).put o.dst v) W' := fun v W' hv hb => by
      rw [hd1, puts_put v hd2]
      refine wpAny_G hp hds hsz hV hgb hst hdone fuel _ _ W' (by simpa using hs) (by have := offs_set hn; omega) ?_
      rw [onL_set hlt]
      exact hJ.step hds hV hoi' hn' hk hv hb
    have hstep := StepsG.at_ hst hoi'
    rw [Nat.zero_add] at hstep
    unfold wpOp
    rw [hoi]
    simp only [hw]
    cases hwg : wantG gb o
    · simp only [Bool.false_eq_true, if_false]
      exact fin undef W (hstep.2 hwg W) (Below.refl _ _)
    · simp only [if_true]
      refine .inl (Oper.wp_mono ?_ (hstep.1 hwg X W hJ.low (fun k hk' => hJ.vals k (hJ.bound k (hk k hk')) (hk k hk')) (fun k hkl hwt => hJ.old k hkl (fun hon => hn' (waits_on hJ.shut _ _ _ hwt hon)))))
      rintro a' W' ⟨v, rfl, hv, hb⟩
      exact fin v W' hv hb
/-- The whole region. -/
theorem wp_region_G {id : Nat} {ops : List Oper} {a : Act} {w : World} (ds : List Nat) (V : Nat → Value → World → Prop) (gb : Nat → Bool) (hm : P.follows .mixedOrders = true) (hp : orderB .any ops = true) (hds : dstsB ds ops = true) (hsz : ∀ d ∈ ds, d < a.tmps.size)
    (hV : ∀ i v W W', V i v W → Below W.heap.size W W' → V i v W') (hgb : ∀ (i : Nat) (o : Oper) (j : Nat) (want : Bool), ops[i]? = some o → o.guard = some (j, want) → ∀ v W, V j v W → v = .bool (gb j)) (hst : StepsG P .any Q a ds ops V gb w 0 ops)
    (hdone : ∀ X W, Below w.heap.size w W → (∀ i, i < ops.length → V i (X (ds.getD i 0)) W) → Q .normal (puts a X ds) W) : (Code.region id ops.toArray true).wp P Q a w := by
  refine wp_region_any hm ?_
  have h := wpAny_G (md := .any) hp hds hsz hV hgb hst hdone ops.length (Array.replicate ops.length false) (fun k => a.tmps.getD k undef) w.drew (by simp) (by
    unfold offs
    refine Nat.le_trans (List.length_filter_le _ _) ?_
    simp) (by
    have : onL (Array.replicate ops.length false) = fun _ => False := by
      funext k
      unfold onL
      rw [Array.getD_eq_getD_getElem?, Array.getElem?_replicate]
      split <;> simp
    rw [this]
    exact ⟨fun _ _ h => h.elim, fun _ h => h.elim, ⟨rfl, rfl, rfl, Nat.le_refl _, fun _ _ => rfl⟩, fun _ _ _ h => h.elim, fun _ _ _ => rfl⟩)
  rw [puts_self] at h
  simpa using h
def guardsIn (ops : List Oper) (gs : List Nat) : Bool := ops.all fun o => match o.guard with
  | none => true
  | some (j, _) => gs.contains j
theorem guards_at {ops : List Oper} {gs : List Nat} (h : guardsIn ops gs = true) {i : Nat} {o : Oper} {j : Nat} {want : Bool} (ho : ops[i]? = some o) (hg : o.guard = some (j, want)) : j ∈ gs := by
  have := List.all_eq_true.1 h o (List.mem_of_getElem? ho)
  rw [hg] at this
  simpa using this
end
end Go.Proofs.Ythnhmhjcpdomcaa
end

section
/- As RegG, where the last operation has no slot, waits for all others, and changes the world. -/
namespace Go.Proofs.Ythnhmhjcpdomcaa
open Go Go.RowKit
section
variable {P : Program} {Q : Exit → Act → World → Prop} {md : Region.Mode}
/-- The last one waits for each other. -/
def lastB (md : Region.Mode) (pre : List Oper) (lo : Oper) : Bool := lo.guard.isNone && (List.range pre.length).all fun i => lo.after.any fun e => Region.binds md e && (e.on == i || waitsB md pre pre.length e.on i)
theorem lastB_on {pre : List Oper} {lo : Oper} (h : lastB md pre lo = true) {on : Nat → Prop} (hc : ∀ k o, pre[k]? = some o → on k → ∀ m, needs md o m = true → on m) (hk : ∀ k, needs md lo k = true → on k) : ∀ i, i < pre.length → on i := by
  intro i hi
  unfold lastB at h
  rw [Bool.and_eq_true] at h
  have h1 := List.all_eq_true.1 h.2 i (List.mem_range.2 hi)
  obtain ⟨e, he, h2⟩ := Array.any_eq_true'.1 h1
  rw [Bool.and_eq_true, Bool.or_eq_true] at h2
  have hm : on e.on := hk e.on (Array.any_eq_true'.2 ⟨e, he, by rw [h2.1]; simp⟩)
  rcases h2.2 with h3 | h3
  · rw [← show e.on = i by simpa using h3]; exact hm
  · exact waits_on hc _ _ _ h3 hm
theorem none_ready {ops : List Oper} {listed : Array Bool} (h : ∀ i, i < ops.length → onL listed i) : Region.ready md ops.toArray listed = [] := by
  cases hr : Region.ready md ops.toArray listed with
  | nil => rfl
  | cons i l =>
    exfalso
    have hi : i ∈ Region.ready md ops.toArray listed := by rw [hr]; exact List.mem_cons_self
    obtain ⟨hn, o, hoi, _⟩ := mem_ready.1 hi
    have hoi' : ops[i]? = some o := by simpa using hoi
    have := h i (List.getElem?_eq_some_iff.1 hoi').1
    unfold onL at this
    rw [Array.getD_eq_getD_getElem?] at this hn
    cases hx : listed[i]? <;> simp [hx] at this hn
    rw [this] at hn
    cases hn
theorem wpAny_end {ops : List Oper} {a : Act} {W : World} {listed : Array Bool} (h : ∀ i, i < ops.length → onL listed i) (hQ : Q .normal a W) : ∀ fuel, wpAny P md ops.toArray Q fuel listed a W
  | 0 => ⟨none_ready h, hQ⟩
  | fuel + 1 => ⟨fun _ => hQ, fun i hi => by rw [none_ready h] at hi; cases hi⟩
theorem wpAny_M {pre : List Oper} {lo : Oper} {A : Act} {ds : List Nat} {V : Nat → Value → World → Prop} {gb : Nat → Bool} {W0 : World} (hp : orderB md (pre ++ [lo]) = true) (hlast : lastB md pre lo = true) (hds : dstsB ds pre = true) (hsz : ∀ d ∈ ds, d < A.tmps.size) (hV : ∀ i v W W', V i v W → Below W.heap.size W W' → V i v W')
    (hgb : ∀ (i : Nat) (o : Oper) (j : Nat) (want : Bool), pre[i]? = some o → o.guard = some (j, want) → ∀ v W, V j v W → v = .bool (gb j)) (hst : StepsG P md Q A ds pre V gb W0 0 pre)
    (hdone : ∀ X W, Below W0.heap.size W0 W → (∀ i, i < pre.length → V i (X (ds.getD i 0)) W) → lo.wp P (puts A X ds) W (fun a' W' => Q .normal a' W') Q) :
    ∀ (fuel : Nat) (listed : Array Bool) (X : Nat → Value) (W : World), listed.size = (pre ++ [lo]).length → offs listed ≤ fuel → JG md A ds pre V W0 (onL listed) X W → wpAny P md (pre ++ [lo]).toArray Q fuel listed (puts A X ds) W
  | 0, listed, X, W, hs, ho, hJ => by
    have hr : Region.ready md (pre ++ [lo]).toArray listed = [] := by
      cases hr : Region.ready md (pre ++ [lo]).toArray listed with
      | nil => rfl
      | cons i l =>
        have : i ∈ Region.ready md (pre ++ [lo]).toArray listed := by rw [hr]; exact List.mem_cons_self
        have := offs_set (mem_ready.1 this).1
        omega
    have := hJ.bound _ (all_onG hp hs hr pre.length (by simp))
    exact absurd this (Nat.lt_irrefl _)
  | fuel + 1, listed, X, W, hs, ho, hJ => by
    refine ⟨fun hr => absurd (hJ.bound _ (all_onG hp hs hr pre.length (by simp))) (Nat.lt_irrefl _), fun i hi => ?_⟩
    obtain ⟨hn, o, hoi, hd⟩ := mem_ready.1 hi
    have hoi1 : (pre ++ [lo])[i]? = some o := by simpa using hoi
    have hlt : i < listed.size := by rw [hs]; exact (List.getElem?_eq_some_iff.1 hoi1).1
    have hil : i < (pre ++ [lo]).length := (List.getElem?_eq_some_iff.1 hoi1).1
    have hn' : ¬ onL listed i := by
      unfold onL
      rw [Array.getD_eq_getD_getElem?] at hn ⊢
      simp [hlt] at hn ⊢
      exact hn
    have hk : ∀ k, needs md o k = true → onL listed k := fun k hk => by
      obtain ⟨e, he, h2⟩ := Array.any_eq_true'.1 hk
      rw [Bool.and_eq_true] at h2
      have := hd e he h2.1
      rwa [show e.on = k by simpa using h2.2] at this
    by_cases hil2 : i < pre.length
    · have hoi' : pre[i]? = some o := by rwa [List.getElem?_append_left hil2] at hoi1
      obtain ⟨hd1, hd2⟩ := dstsB_at hds hoi'
      have hw : Region.wanted o (yielded (pre ++ [lo]).toArray (puts A X ds).tmps) = wantG gb o := by
        unfold Region.wanted wantG
        cases hg : o.guard with
        | none => rfl
        | some jw =>
          obtain ⟨j, want⟩ := jw
          obtain ⟨hnj, _⟩ := (orderB_at hp hoi1).2 j want hg
          have hjl := hJ.bound j (hk j hnj)
          have hv := hgb i o j want hoi' hg _ W (hJ.vals j hjl (hk j hnj))
          have hoj : pre[j]? = some (pre[j]) := by simp [hjl]
          obtain ⟨hj1, hj2⟩ := dstsB_at hds hoj
          have hy : yielded (pre ++ [lo]).toArray (puts A X ds).tmps j = some (gb j) := by
            unfold yielded
            have h1 : ((pre ++ [lo]).toArray[j]?).bind (·.dst) = some (ds.getD j 0) := by
              have e : (pre ++ [lo]).toArray[j]? = some pre[j] := by
                rw [List.getElem?_toArray, List.getElem?_append_left hjl]; exact hoj
              rw [e]
              exact hj1
            rw [h1]
            show (match (puts A X ds).tmps[ds.getD j 0]? with | some (.bool b) => some b | _ => none) = _
            rw [puts_at, if_pos ⟨hj2, hsz _ hj2⟩, hv]
          show (yielded (pre ++ [lo]).toArray (puts A X ds).tmps j == some want) = _
          rw [hy]
          simp
      have fin : ∀ v W', V i v W' → Below W.heap.size W W' → wpAny P md (pre ++ [lo]).toArray Q fuel (listed.setIfInBounds i true) ((puts A X ds).put o.dst v) W' := fun v W' hv hb => by
        rw [hd1, puts_put v hd2]
        refine wpAny_M hp hlast hds hsz hV hgb hst hdone fuel _ _ W' (by simpa using hs) (by have := offs_set hn; omega) ?_
        rw [onL_set hlt]
        exact hJ.step hds hV hoi' hn' hk hv hb
      have hstep := StepsG.at_ hst hoi'
      rw [Nat.zero_add] at hstep
      unfold wpOp
      rw [hoi]
      simp only [hw]
      cases hwg : wantG gb o
      · simp only [Bool.false_eq_true, if_false]
        exact fin undef W (hstep.2 hwg W) (Below.refl _ _)
      · simp only [if_true]
        refine .inl (Oper.wp_mono ?_ (hstep.1 hwg X W hJ.low (fun k hk' => hJ.vals k (hJ.bound k (hk k hk')) (hk k hk')) (fun k hkl hwt => hJ.old k hkl (fun hon => hn' (waits_on hJ.shut _ _ _ hwt hon)))))
        rintro a' W' ⟨v, rfl, hv, hb⟩
        exact fin v W' hv hb
    · have hie : i = pre.length := by simp at hil; omega
      subst hie
      have hol : o = lo := by simpa using hoi1.symm
      subst hol
      have hall := lastB_on hlast hJ.shut hk
      have hgn : o.guard = none := by
        unfold lastB at hlast
        rw [Bool.and_eq_true] at hlast
        simpa using hlast.1
      have hw : Region.wanted o (yielded (pre ++ [o]).toArray (puts A X ds).tmps) = true := by
        unfold Region.wanted
        rw [hgn]
      unfold wpOp
      rw [hoi]
      simp only [hw, if_true]
      refine .inl (Oper.wp_mono ?_ (hdone X W hJ.low (fun k hkl => hJ.vals k hkl (hall k hkl))))
      intro a' W' hQ
      refine wpAny_end (fun k hkl => ?_) hQ fuel
      rw [onL_set hlt]
      by_cases e : k = pre.length
      · exact .inl e
      · exact .inr (hall k (by simp at hkl; omega))
/-- The whole region. -/
theorem wp_region_M {id : Nat} {ops : List Oper} {a : Act} {w : World} (n : Nat) {lo : Oper} (hlo : ops.drop n = [lo]) (ds : List Nat) (V : Nat → Value → World → Prop) (gb : Nat → Bool) (hm : P.follows .mixedOrders = true) (hp : orderB .any ops = true) (hlast : lastB .any (ops.take n) lo = true) (hds : dstsB ds (ops.take n) = true) (hsz : ∀ d ∈ ds, d < a.tmps.size)
    (hV : ∀ i v W W', V i v W → Below W.heap.size W W' → V i v W') (hgb : ∀ (i : Nat) (o : Oper) (j : Nat) (want : Bool), (ops.take n)[i]? = some o → o.guard = some (j, want) → ∀ v W, V j v W → v = .bool (gb j)) (hst : StepsG P .any Q a ds (ops.take n) V gb w 0 (ops.take n))
    (hdone : ∀ X W, Below w.heap.size w W → (∀ i, i < (ops.take n).length → V i (X (ds.getD i 0)) W) → lo.wp P (puts a X ds) W (fun a' W' => Q .normal a' W') Q) : (Code.region id ops.toArray true).wp P Q a w := by
  obtain ⟨pre, hpre⟩ : ∃ pre, ops.take n = pre := ⟨_, rfl⟩
  have ho : ops = pre ++ [lo] := by rw [← hlo, ← hpre, List.take_append_drop]
  rw [hpre] at hlast hds hgb hst hdone
  clear hlo hpre
  subst ho
  refine wp_region_any hm ?_
  have h := wpAny_M (md := .any) hp hlast hds hsz hV hgb hst hdone (pre ++ [lo]).length (Array.replicate (pre ++ [lo]).length false) (fun k => a.tmps.getD k undef) w.drew (by simp) (by
    unfold offs
    refine Nat.le_trans (List.length_filter_le _ _) ?_
    simp) (by
    have : onL (Array.replicate (pre ++ [lo]).length false) = fun _ => False := by
      funext k
      unfold onL
      rw [Array.getD_eq_getD_getElem?, Array.getElem?_replicate]
      split <;> simp
    rw [this]
    exact ⟨fun _ _ h => h.elim, fun _ h => h.elim, ⟨rfl, rfl, rfl, Nat.le_refl _, fun _ _ => rfl⟩, fun _ _ _ h => h.elim, fun _ _ _ => rfl⟩)
  rw [puts_self] at h
  simpa using h
end
end Go.Proofs.Ythnhmhjcpdomcaa
end

section
/- Which vertices stand behind all requests: on plain lists. -/
namespace Go.Proofs.Ythnhmhjcpdomcaa
open Go.RowKit
theorem doV_ids {v : Vx} {m : Mu} (hv : v.id = m.i) (x : Int) : x ∈ ids (doV v m).1 ↔ (m.i = x ∧ m.k ≠ 2) := by
  unfold doV
  split
  · rename_i h; simp [ids, h]
  · rename_i h
    repeat' split
    all_goals simp [ids, hv, h, eq_comm]
theorem noV_ids {m : Mu} (x : Int) : x ∈ ids (noV m).1 ↔ (m.i = x ∧ m.k = 3) := by
  unfold noV
  split <;> rename_i h <;> simp [ids, h, eq_comm]
/-- Who stands behind one request. -/
theorem doG_ids {G : List Vx} (hf : Fine G) (m : Mu) (x : Int) : x ∈ ids (doG G m).1 ↔ ((m.k = 3 ∧ m.i = x) ∨ (x ∈ ids G ∧ ¬ (m.k = 2 ∧ m.i = x))) := by
  have key : ∀ {A : List Vx} {q : Int → Prop}, (∀ a ∈ A, q a.id) → x ∈ ids A → q x := by
    intro A q h hx
    obtain ⟨a, ha, rfl⟩ := List.mem_map.1 hx
    exact h a ha
  rcases doG_form hf m with ⟨A, v, B, h1, h2, h3, h4, e⟩ | ⟨A, B, h1, h3, h4, e⟩
  · rw [e, h1]
    simp only [ids_app, ids_cons, List.mem_append, List.mem_cons, doV_ids h2]
    have ha := key (q := fun y => y < m.i) h3
    have hb := key (q := fun y => m.i < y) h4
    constructor
    · rintro (h | ⟨h, h'⟩ | h)
      · have := ha h; exact .inr ⟨.inl h, by omega⟩
      · exact .inr ⟨.inr (.inl (by omega)), by omega⟩
      · have := hb h; exact .inr ⟨.inr (.inr h), by omega⟩
    · rintro (⟨h, h'⟩ | ⟨h | h | h, h'⟩)
      · exact .inr (.inl ⟨h', by omega⟩)
      · exact .inl h
      · exact .inr (.inl ⟨by omega, fun hk => h' ⟨hk, by omega⟩⟩)
      · exact .inr (.inr h)
  · rw [e, h1]
    simp only [ids_app, List.mem_append, noV_ids]
    have ha := key (q := fun y => y < m.i) h3
    have hb := key (q := fun y => m.i < y) h4
    constructor
    · rintro (h | ⟨h, h'⟩ | h)
      · have := ha h; exact .inr ⟨.inl h, by omega⟩
      · exact .inl ⟨h', h⟩
      · have := hb h; exact .inr ⟨.inr h, by omega⟩
    · rintro (⟨h, h'⟩ | ⟨h | h, h'⟩)
      · exact .inr (.inl ⟨h', h⟩)
      · exact .inl h
      · exact .inr (.inr h)
/-- Is a number asked to come, to go? -/
def comes (l : List Mu) (x : Int) : Prop := ∃ m ∈ l, m.k = 3 ∧ m.i = x
def goes (l : List Mu) (x : Int) : Prop := ∃ m ∈ l, m.k = 2 ∧ m.i = x
theorem comes_cons {m : Mu} {l : List Mu} {x : Int} : comes (m :: l) x ↔ ((m.k = 3 ∧ m.i = x) ∨ comes l x) := by
  unfold comes; simp only [List.mem_cons, exists_eq_or_imp]
theorem goes_cons {m : Mu} {l : List Mu} {x : Int} : goes (m :: l) x ↔ ((m.k = 2 ∧ m.i = x) ∨ goes l x) := by
  unfold goes; simp only [List.mem_cons, exists_eq_or_imp]
theorem runU_ids (x : Int) : ∀ (l : List Mu) {s : List Vx × Nat}, Fine s.1 → l.Pairwise (fun a b => ule a b = true) → (x ∈ ids (runU s l).1 ↔ (comes l x ∨ (x ∈ ids s.1 ∧ ¬ goes l x))) := by
  intro l
  induction l with
  | nil => intro s _ _; simp [runU, comes, goes]
  | cons m l ih =>
    intro s hf hs
    rw [List.pairwise_cons] at hs
    have h := ih (s := stepU s m) (doG_fine hf m) hs.2
    rw [show runU s (m :: l) = runU (stepU s m) l from rfl, h, show (stepU s m).1 = (doG s.1 m).1 from rfl, doG_ids hf, comes_cons, goes_cons]
    have hk : m.k = 3 → ¬ goes l x := by
      rintro h3 ⟨m', h1, h2, _⟩
      have := (ule_iff _ _).1 (hs.1 m' h1)
      omega
    constructor
    · rintro (h | ⟨h | ⟨h, h'⟩, h''⟩)
      · exact .inl (.inr h)
      · exact .inl (.inl h)
      · exact .inr ⟨h, fun q => q.elim h' h''⟩
    · rintro ((h | h) | ⟨h, h'⟩)
      · exact .inr ⟨.inl h, hk h.1⟩
      · exact .inl h
      · exact .inr ⟨.inr ⟨h, fun q => h' (.inl q)⟩, fun q => h' (.inr q)⟩
/-- Who stands behind all requests. -/
theorem appG_ids {G : List Vx} (hf : Fine G) (l : List Mu) (x : Int) : x ∈ ids (appG G l).1 ↔ (comes l x ∨ (x ∈ ids G ∧ ¬ goes l x)) := by
  have e1 : comes (thatC l) x ↔ comes l x := by
    constructor
    · rintro ⟨m, h, h'⟩; exact ⟨m, thatC_mem h, h'⟩
    · rintro ⟨m, h, h2, h3⟩
      obtain ⟨m', h', hs⟩ := thatC_has h
      rw [sameU_iff] at hs
      exact ⟨m', h', by omega, by omega⟩
  have e2 : goes (thatC l) x ↔ goes l x := by
    constructor
    · rintro ⟨m, h, h'⟩; exact ⟨m, thatC_mem h, h'⟩
    · rintro ⟨m, h, h2, h3⟩
      obtain ⟨m', h', hs⟩ := thatC_has h
      rw [sameU_iff] at hs
      exact ⟨m', h', by omega, by omega⟩
  rw [← e1, ← e2]
  exact runU_ids x (thatC l) (s := (G, 0)) hf (thatC_sorted l)
/-- What the two maps say. -/
def goneB (l : List Mu) (x : Int) : Bool := l.any (fun m => m.k == 2 && m.i == x)
def cameB (l : List Mu) (x : Int) : Bool := l.any (fun m => m.k == 3 && m.i == x)
theorem goneB_iff (l : List Mu) (x : Int) : goneB l x = true ↔ goes l x := by unfold goneB goes; simp [List.any_eq_true]
theorem cameB_iff (l : List Mu) (x : Int) : cameB l x = true ↔ comes l x := by unfold cameB comes; simp [List.any_eq_true]
end Go.Proofs.Ythnhmhjcpdomcaa
end

section
/- A map of numbers to truths: how it lies, a look-up, an update. -/
namespace Go.Proofs.Ythnhmhjcpdomcaa
open Go.RowKit Go.Maps
theorem plainElem_bool_inv {P : Program} {e : TypeId} (he : P.underlying e = some .bool) {v : Value} {z : DataW Unit × List MemPlace} (h : plainElem P e v = some z) : ∃ a, v = .bool a ∧ z = (.lit (.bool a), []) := by
  unfold plainElem at h
  rw [he] at h
  cases v <;> simp at h
  exact ⟨_, rfl, h.symm⟩
/-- A map that says f. -/
def BMap (w : World) (b n : Nat) (f : Int → Bool) : Prop := ∃ D : DataW Unit, w.ownsMap Try.prog 2 (plainElem Try.prog 4) b n D ∧ ∀ x, D.atKey (.int .i64 x) (.lit (.bool false)) = .lit (.bool (f x))
theorem mkeyOf {id : Int} (h : I64 id) : keyOf Try.prog 2 (.int .i64 id) = some (.int .i64 id) := keyOf_int_mk Try.underlying2 (WalkArith.wf_i64 ⟨h.1, h.2⟩)
theorem mlaw64 : Keyed Try.prog 2 := int_keyed Try.underlying2
theorem BMap.made (w : World) : BMap (w.alloc (.map #[] 0)) w.heap.size 0 (fun _ => false) := ⟨_, World.ownsMap_made w _ _ _, fun _ => rfl⟩
theorem BMap.same {w w' : World} {b n : Nat} {f : Int → Bool} (h : BMap w b n f) (e : w'.heap[b]? = w.heap[b]?) : BMap w' b n f := by
  obtain ⟨D, ⟨es, clock, hb, r⟩, hat⟩ := h
  exact ⟨D, ⟨es, clock, e.trans hb, r⟩, hat⟩
theorem BMap.lt {w : World} {b n : Nat} {f : Int → Bool} (h : BMap w b n f) : b < w.heap.size := by
  obtain ⟨D, h, _⟩ := h
  exact h.lt
theorem BMap.new {w w' : World} {b n : Nat} {f : Int → Bool} (h : BMap w b n f) (hb : Below w.heap.size w w') : BMap w' b n f := h.same (hb.block b h.lt)
theorem BMap.look {w : World} {b n : Nat} {f : Int → Bool} (h : BMap w b n f) {x : Int} (hx : I64 x) : (Instr.lookup 67 (.map (some b)) (.int .i64 x) false).run Try.prog w = .ok (.bool (f x)) w := by
  obtain ⟨D, h, hat⟩ := h
  obtain ⟨v, ps, hrun, hv⟩ := h.lookup mlaw64 Try.underlying67 (z := .bool false) (by go_simp) (plainElem_bool Try.underlying4 false) (mkeyOf hx)
  obtain ⟨a, rfl, hz⟩ := plainElem_bool_inv Try.underlying4 hv
  rw [hat x] at hz
  simp only [Prod.mk.injEq, DataW.lit.injEq, Lit.bool.injEq] at hz
  rw [hrun, hz.1]
theorem mkey_ne {i j : Int} (h : i ≠ j) : (Lit.int .i64 i) ≠ (Lit.int .i64 j) := by
  intro e
  cases e
  exact h rfl
theorem BMap.put {w : World} {b n : Nat} {f : Int → Bool} (h : BMap w b n f) (hn : n < maxLen) {x : Int} (hx : I64 x) (c : Bool) : ∃ w', (Instr.mapUpdate 67 (.map (some b)) (.int .i64 x) (.bool c)).run Try.prog w = .ok () w' ∧ BMap w' b (n + 1) (fun y => if y = x then c else f y) ∧ Fr w w' (fun k => k = b) := by
  obtain ⟨D, h, hat⟩ := h
  obtain ⟨w', hrun, h1, h2⟩ := h.store mlaw64 Try.underlying67 hn (mkeyOf hx) (plainElem_bool Try.underlying4 c)
  refine ⟨w', hrun, ⟨_, h1, fun y => ?_⟩, Fr.grown h2.grown (fun k e => by cases e; rfl)⟩
  simp only
  by_cases e : y = x
  · subst e
    rw [if_pos rfl, atKey_put_same h.isMap (show WideAt.IsKeyLit (.int .i64 y) from trivial)]
  · rw [if_neg e, atKey_put_other (mkey_ne e), hat]
end Go.Proofs.Ythnhmhjcpdomcaa
end
