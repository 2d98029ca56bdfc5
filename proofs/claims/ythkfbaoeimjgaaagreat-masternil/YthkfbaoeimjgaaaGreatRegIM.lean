import Derived.OrdersHeld
import Derived.Deep.RegionHeld
import Derived.Deep.RegionWith
import Derived.OrdersIn
/- A region that draws its order, by what holds behind whatever has come up: one step an operation. -/
namespace Go.Proofs.YthkfbaoeimjgaaaGreat
open Go
/-- The slots of a region laid over a frame. -/
def puts (A : Act) (X : Nat → Value) : List Nat → Act
  | [] => A
  | d :: ds => (puts A X ds).put (some d) (X d)
def upd (X : Nat → Value) (d : Nat) (v : Value) : Nat → Value := fun k => if k = d then v else X k
theorem puts_defers (A : Act) (X : Nat → Value) : ∀ ds, (puts A X ds).defers = A.defers
  | [] => rfl
  | _ :: ds => puts_defers A X ds
theorem puts_size (A : Act) (X : Nat → Value) : ∀ ds, (puts A X ds).tmps.size = A.tmps.size
  | [] => rfl
  | d :: ds => by show (Array.setIfInBounds _ _ _).size = _; rw [Array.size_setIfInBounds]; exact puts_size A X ds
theorem puts_at (A : Act) (X : Nat → Value) (k : Nat) : ∀ ds : List Nat, (puts A X ds).tmps[k]? = if k ∈ ds ∧ k < A.tmps.size then some (X k) else A.tmps[k]?
  | [] => by simp [puts]
  | d :: ds => by
    show (Array.setIfInBounds (puts A X ds).tmps d (X d))[k]? = _
    rw [Array.getElem?_setIfInBounds, puts_size, puts_at A X k ds]
    by_cases hk : d = k
    · subst hk
      by_cases hl : d < A.tmps.size
      · simp [hl]
      · simp [hl]
    · have : k ≠ d := fun e => hk e.symm
      simp [hk, this]
theorem act_ext {a b : Act} (h1 : a.defers = b.defers) (h2 : ∀ k : Nat, a.tmps[k]? = b.tmps[k]?) : a = b := by
  obtain ⟨a1, a2⟩ := a
  obtain ⟨b1, b2⟩ := b
  have : a1 = b1 := Array.ext_getElem? h2
  simp only at h1
  rw [this, h1]
theorem puts_put {A : Act} {X : Nat → Value} {ds : List Nat} {d : Nat} (v : Value) (hd : d ∈ ds) : (puts A X ds).put (some d) v = puts A (upd X d v) ds := by
  refine act_ext ?_ ?_
  · rw [puts_defers]; exact puts_defers A X ds
  · intro k
    show (Array.setIfInBounds (puts A X ds).tmps d v)[k]? = _
    rw [Array.getElem?_setIfInBounds, puts_size, puts_at, puts_at]
    by_cases hk : d = k
    · subst hk
      by_cases hl : d < A.tmps.size
      · simp [hl, hd, upd]
      · simp [hl]
    · have : k ≠ d := fun e => hk e.symm
      simp [hk, this, upd]
theorem puts_self (A : Act) (ds : List Nat) : puts A (fun k => A.tmps.getD k undef) ds = A := by
  refine act_ext (puts_defers _ _ _) fun k => ?_
  rw [puts_at]
  split
  · rename_i h; simp [h.2]
  · rfl
theorem eval_in {A : Act} {X : Nat → Value} {ds : List Nat} {k : Nat} (hk : k ∈ ds) (hl : k < A.tmps.size) : (puts A X ds).eval (.tmp k) = X k := by
  show Array.getD _ _ _ = _
  rw [Array.getD_eq_getD_getElem?, puts_at, if_pos ⟨hk, hl⟩]
  rfl
theorem eval_out {A : Act} {X : Nat → Value} {ds : List Nat} {k : Nat} (hk : k ∉ ds) : (puts A X ds).eval (.tmp k) = A.eval (.tmp k) := by
  show Array.getD _ _ _ = Array.getD _ _ _
  rw [Array.getD_eq_getD_getElem?, puts_at, if_neg (fun h => hk h.1), Array.getD_eq_getD_getElem?]
section
variable {P : Program} {Q : Exit → Act → World → Prop} {md : Region.Mode}
/-- Number k must come up ahead of the operation. -/
def needs (md : Region.Mode) (o : Oper) (k : Nat) : Bool := o.after.any fun e => Region.binds md e && e.on == k
/-- One step for each operation. -/
def Steps (P : Program) (md : Region.Mode) (Q : Exit → Act → World → Prop) (A : Act) (ds : List Nat) (J : (Nat → Prop) → (Nat → Value) → World → Prop) : Nat → List Oper → Prop
  | _, [] => True
  | i, o :: os => (∀ on X W, J on X W → ¬ on i → (∀ k, needs md o k = true → on k) → o.wp P (puts A X ds) W (fun a' W' => ∃ X', a' = puts A X' ds ∧ J (fun k => k = i ∨ on k) X' W') Q) ∧ Steps P md Q A ds J (i + 1) os
theorem Steps.at_ {A : Act} {ds : List Nat} {J : (Nat → Prop) → (Nat → Value) → World → Prop} : ∀ {os : List Oper} {i : Nat}, Steps P md Q A ds J i os → ∀ {j : Nat} {o : Oper}, os[j]? = some o →
    ∀ on X W, J on X W → ¬ on (i + j) → (∀ k, needs md o k = true → on k) → o.wp P (puts A X ds) W (fun a' W' => ∃ X', a' = puts A X' ds ∧ J (fun k => k = i + j ∨ on k) X' W') Q
  | [], _, _, _, _, h => by cases h
  | _ :: _, i, h, 0, _, e => by cases e; exact h.1
  | _ :: os, i, h, j + 1, _, e => by
    have := Steps.at_ h.2 (j := j) e
    rwa [show i + 1 + j = i + (j + 1) by omega] at this
/-- No operation is guarded, and each waits for earlier ones alone. -/
def plainB (md : Region.Mode) (ops : List Oper) : Bool := (List.range ops.length).all fun i => match ops[i]? with
  | some o => o.guard.isNone && o.after.all fun e => !Region.binds md e || decide (e.on < i)
  | none => true
theorem plainB_at {ops : List Oper} (h : plainB md ops = true) {i : Nat} {o : Oper} (ho : ops[i]? = some o) : o.guard = none ∧ ∀ e ∈ o.after, Region.binds md e = true → e.on < i := by
  have hlt : i < ops.length := (List.getElem?_eq_some_iff.1 ho).1
  have := List.all_eq_true.1 h i (List.mem_range.2 hlt)
  rw [ho] at this
  simp only [Bool.and_eq_true, Option.isNone_iff_eq_none] at this
  refine ⟨this.1, fun e he hb => ?_⟩
  have := Array.all_eq_true'.1 this.2 e he
  rw [hb] at this
  simpa using this
def onL (listed : Array Bool) : Nat → Prop := fun k => listed.getD k false = true
theorem onL_set {listed : Array Bool} {i : Nat} (hi : i < listed.size) : onL (listed.setIfInBounds i true) = fun k => k = i ∨ onL listed k := by
  funext k
  unfold onL
  rw [Array.getD_eq_getD_getElem?, Array.getElem?_setIfInBounds, Array.getD_eq_getD_getElem?]
  by_cases hk : i = k
  · subst hk; simp [hi]
  · have : k ≠ i := fun e => hk e.symm
    simp [hk, this]
def offs (listed : Array Bool) : Nat := (listed.toList.filter (· == false)).length
theorem offs_set {listed : Array Bool} {i : Nat} (h : listed.getD i true = false) : offs (listed.setIfInBounds i true) + 1 = offs listed := by
  obtain ⟨l⟩ := listed
  unfold offs
  rw [Array.getD_eq_getD_getElem?] at h
  simp only [List.getElem?_toArray, List.setIfInBounds_toArray] at h ⊢
  induction l generalizing i with
  | nil => simp at h
  | cons b l ih =>
    cases i with
    | zero =>
      simp at h
      subst h
      simp
    | succ i =>
      have := ih (i := i) (by simpa using h)
      cases b <;> simp at this ⊢ <;> omega
theorem all_on {ops : List Oper} (hp : plainB md ops = true) {listed : Array Bool} (hs : listed.size = ops.length) (hr : Region.ready md ops.toArray listed = []) : ∀ i, i < ops.length → onL listed i := by
  intro i
  induction i using Nat.strongRecOn with
  | ind i ih =>
    intro hi
    by_cases h : listed.getD i true = false
    · exfalso
      have : i ∈ Region.ready md ops.toArray listed := by
        refine mem_ready.2 ⟨h, ops[i], by simp [hi], fun e he hb => ?_⟩
        have hlt := (plainB_at hp (i := i) (o := ops[i]) (by simp [hi])).2 e he hb
        exact ih e.on hlt (by omega)
      rw [hr] at this
      cases this
    · unfold onL
      rw [Array.getD_eq_getD_getElem?] at h ⊢
      have hil : i < listed.size := by omega
      simp [hil] at h ⊢
      exact h
theorem wpAny_J {ops : List Oper} {A : Act} {ds : List Nat} (J : (Nat → Prop) → (Nat → Value) → World → Prop) (hp : plainB md ops = true) (hst : Steps P md Q A ds J 0 ops)
    (hdone : ∀ on X W, J on X W → (∀ i, i < ops.length → on i) → Q .normal (puts A X ds) W) :
    ∀ (fuel : Nat) (listed : Array Bool) (X : Nat → Value) (W : World), listed.size = ops.length → offs listed ≤ fuel → J (onL listed) X W → wpAny P md ops.toArray Q fuel listed (puts A X ds) W
  | 0, listed, X, W, hs, ho, hJ => by
    have hr : Region.ready md ops.toArray listed = [] := by
      cases hr : Region.ready md ops.toArray listed with
      | nil => rfl
      | cons i l =>
        have : i ∈ Region.ready md ops.toArray listed := by rw [hr]; exact List.mem_cons_self
        have := offs_set (mem_ready.1 this).1
        omega
    exact ⟨hr, hdone _ _ _ hJ (all_on hp hs hr)⟩
  | fuel + 1, listed, X, W, hs, ho, hJ => by
    refine ⟨fun hr => hdone _ _ _ hJ (all_on hp hs hr), fun i hi => ?_⟩
    obtain ⟨hn, o, hoi, hd⟩ := mem_ready.1 hi
    have hoi' : ops[i]? = some o := by simpa using hoi
    have hlt : i < listed.size := by rw [hs]; exact (List.getElem?_eq_some_iff.1 hoi').1
    have hstep := Steps.at_ hst hoi' (onL listed) X W hJ (by
      rw [Nat.zero_add]
      unfold onL
      rw [Array.getD_eq_getD_getElem?] at hn ⊢
      simp [hlt] at hn ⊢
      exact hn) (fun k hk => by
      obtain ⟨e, he, h2⟩ := Array.any_eq_true'.1 hk
      rw [Bool.and_eq_true] at h2
      have := hd e he h2.1
      rwa [show e.on = k by simpa using h2.2] at this)
    unfold wpOp
    rw [hoi]
    have hw : Region.wanted o (yielded ops.toArray (puts A X ds).tmps) = true := by simp [Region.wanted, (plainB_at hp hoi').1]
    simp only [hw, if_true]
    refine .inl (Oper.wp_mono ?_ hstep)
    rintro a' W' ⟨X', rfl, hJ'⟩
    refine wpAny_J J hp hst hdone fuel _ X' W' (by simpa using hs) (by have := offs_set hn; omega) ?_
    rw [onL_set hlt]
    rwa [Nat.zero_add] at hJ'
/-- The whole region. -/
theorem wp_region_J {id : Nat} {ops : List Oper} {a : Act} {w : World} (ds : List Nat) (J : (Nat → Prop) → (Nat → Value) → World → Prop) (hm : P.follows .mixedOrders = true) (hp : plainB .any ops = true)
    (h0 : J (fun _ => False) (fun k => a.tmps.getD k undef) w.drew) (hst : Steps P .any Q a ds J 0 ops)
    (hdone : ∀ on X W, J on X W → (∀ i, i < ops.length → on i) → Q .normal (puts a X ds) W) : (Code.region id ops.toArray true).wp P Q a w := by
  refine wp_region_any hm ?_
  have h := wpAny_J (md := .any) J hp hst hdone ops.length (Array.replicate ops.length false) (fun k => a.tmps.getD k undef) w.drew (by simp) (by
    unfold offs
    refine Nat.le_trans (List.length_filter_le _ _) ?_
    simp) (by
    have : onL (Array.replicate ops.length false) = fun _ => False := by
      funext k
      unfold onL
      rw [Array.getD_eq_getD_getElem?, Array.getElem?_replicate]
      split <;> simp
    rw [this]
    exact h0)
  rw [puts_self] at h
  simpa using h
theorem op_value {o : Oper} {a : Act} {w w' : World} {v : Value} {K : Act → World → Prop} (h : (execOp a.eval o).run P w = .ok (.value v) w') (hK : K (a.put o.dst v) w') : o.wp P a w K Q := by
  unfold Oper.wp
  rw [h]
  exact hK
theorem op_call {o : Oper} {a : Act} {w : World} {f : FuncId} {vs : Array Value} {K : Act → World → Prop} (h : (execOp a.eval o).run P w = .ok (.enter f vs) w) (hK : Calls P f vs w fun r w' => ∃ v, r = .returned v ∧ K (a.put o.dst v) w') : o.wp P a w K Q := by
  unfold Oper.wp
  rw [h]
  refine Calls.mono hK ?_
  rintro e w' ⟨v, rfl, h'⟩
  exact h'
end
/-- A region of a function's code. -/
def regionJ (n : Nat) : Code → Option Code
  | .region m ops d => if m = n then some (.region m ops d) else none
  | .loop c => regionJ n c
  | .seq a b => match regionJ n a with
    | some c => some c
    | none => regionJ n b
  | .block _ c => regionJ n c
  | .scope c => regionJ n c
  | .cond _ a b => match regionJ n a with
    | some c => some c
    | none => regionJ n b
  | _ => none
end Go.Proofs.YthkfbaoeimjgaaaGreat
