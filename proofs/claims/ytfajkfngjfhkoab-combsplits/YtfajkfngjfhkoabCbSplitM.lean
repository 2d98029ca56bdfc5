/- Combined in two parts, and these together: what all come to at once. No walk here. -/
import Derived.Test.YtfajkfngjfhkoabCbComb
namespace Go.Proofs.Ytfajkfngjfhkoab
open Go.RowKit
def gF (k x : Int) (l : List Msg) : Int := l.foldl (fun a m => jn k a m.v) x
/-- Small values: none has more than 40 bits. -/
def Sml (c : Int) (x : Int) : Prop := -(c * 1099511627776) ≤ x ∧ x ≤ c * 1099511627776
theorem jn_small {k a b c : Int} (hc : 0 ≤ c) (ha : Sml c a) (hb : Sml 1 b) : Sml (c + 1) (jn k a b) := by
  unfold Sml at *
  unfold jn
  have : (c + 1) * 1099511627776 = c * 1099511627776 + 1099511627776 := by omega
  rw [this]
  have h0 : 0 ≤ c * 1099511627776 := by omega
  generalize c * 1099511627776 = q at *
  split
  · split <;> omega
  · split
    · split <;> omega
    · omega
theorem jnE_small {k a b c : Int} (hc' : c ≤ 100) (ha : Sml c a) (hb : Sml 1 b) : jnE k a b = false := by
  unfold Sml at *
  unfold jnE
  simp only [decide_eq_false_iff_not]
  omega
theorem foldM_small {k : Int} : ∀ (l : List Msg) (x : Int) (c : Int), 0 ≤ c → Sml c x → (∀ m ∈ l, Sml 1 m.v) → c + l.length ≤ 100 → foldM k x l = some (gF k x l)
  | [], x, c, _, _, _, _ => rfl
  | m :: l, x, c, h0, hx, hl, hc => by
    rw [List.length_cons] at hc
    have h1 := jnE_small (k := k) (c := c) (by omega) hx (hl m (List.mem_cons_self ..))
    have h2 := jn_small (k := k) h0 hx (hl m (List.mem_cons_self ..))
    have := foldM_small (k := k) l (jn k x m.v) (c + 1) (by omega) h2 (fun m' hm => hl m' (List.mem_cons_of_mem _ hm)) (by omega)
    show (if jnE k x m.v then none else foldM k (jn k x m.v) l) = some (gF k (jn k x m.v) l)
    rw [h1]
    exact this
theorem jn_assoc {k : Int} (hk : k = 1 ∨ k = 2 ∨ k = 3) (a b c : Int) : jn k (jn k a b) c = jn k a (jn k b c) := by
  rcases hk with rfl | rfl | rfl
  · simp only [jn]; simp; omega
  · simp only [jn, if_true]
    by_cases h1 : b < a <;> by_cases h2 : c < b <;> by_cases h3 : c < a <;> simp [h1, h2, h3] <;> omega
  · simp only [jn]
    by_cases h1 : a < b <;> by_cases h2 : b < c <;> by_cases h3 : a < c <;> simp [h1, h2, h3] <;> omega
theorem gF_assoc {k : Int} (hk : k = 1 ∨ k = 2 ∨ k = 3) (a : Int) : ∀ (l : List Msg) (b : Int), gF k (jn k a b) l = jn k a (gF k b l)
  | [], b => rfl
  | m :: l, b => by
    show gF k (jn k (jn k a b) m.v) l = jn k a (gF k (jn k b m.v) l)
    rw [jn_assoc hk, gF_assoc hk a l]
theorem gF_app (k x : Int) (l m : List Msg) : gF k x (l ++ m) = gF k (gF k x l) m := by unfold gF; exact List.foldl_append ..
theorem combO_small {k : Int} (hk : k ≠ 0) {m : Msg} {l : List Msg} (h : ∀ x ∈ m :: l, Sml 1 x.v) (hl : (m :: l).length ≤ 60) : combO k (m :: l) = some [⟨m.f, m.t, m.a, gF k m.v l⟩] := by
  show (if k = 0 then some (m :: l) else (foldM k m.v l).map fun v => [⟨m.f, m.t, m.a, v⟩]) = _
  rw [List.length_cons] at hl
  rw [if_neg hk, foldM_small l m.v 1 (by decide) (h m (List.mem_cons_self ..)) (fun x hx => h x (List.mem_cons_of_mem _ hx)) (by omega)]
  rfl
theorem gF_small {k : Int} : ∀ (l : List Msg) (x : Int) (c : Int), 0 ≤ c → Sml c x → (∀ m ∈ l, Sml 1 m.v) → Sml (c + l.length) (gF k x l)
  | [], x, c, _, hx, _ => by
    show Sml (c + (0 : Nat)) x
    rw [show c + ((0 : Nat) : Int) = c by omega]
    exact hx
  | m :: l, x, c, h0, hx, hl => by
    have h2 := jn_small (k := k) h0 hx (hl m (List.mem_cons_self ..))
    have := gF_small (k := k) l (jn k x m.v) (c + 1) (by omega) h2 (fun m' hm => hl m' (List.mem_cons_of_mem _ hm))
    have e : c + ((m :: l).length : Int) = c + 1 + l.length := by rw [List.length_cons]; omega
    rw [e]
    exact this
/-- The four that Combine is asked for. -/
theorem splits {k : Int} (hk : k = 1 ∨ k = 2 ∨ k = 3) {O : List Msg} (h : ∀ x ∈ O, Sml 1 x.v) (hl : O.length ≤ 60) (n : Nat) (hn : n < O.length ∨ O = []) :
    ∃ A B R, combO k (O.take n) = some A ∧ combO k (O.drop n) = some B ∧ combO k O = some R ∧ combO k (A ++ B) = some R := by
  have hk0 : k ≠ 0 := by omega
  match O, h, hl, hn with
  | [], _, _, _ => exact ⟨[], [], [], by simp [combO], by simp [combO], rfl, rfl⟩
  | m :: l, h, hl, hn =>
    have hR := combO_small hk0 h hl
    cases n with
    | zero =>
      refine ⟨[], _, _, by simp [combO], hR, hR, ?_⟩
      simp [combO, hk0, foldM]
    | succ n =>
      have hn' : n < l.length := by
        rcases hn with hn | hn
        · simpa using hn
        · cases hn
      have hA := combO_small hk0 (m := m) (l := l.take n) (fun x hx => h x (by
        rcases List.mem_cons.1 hx with rfl | hx
        · simp
        · exact List.mem_cons_of_mem _ (List.mem_of_mem_take hx))) (by simp at hl ⊢; omega)
      have hd : l.drop n = l[n] :: l.drop (n + 1) := List.drop_eq_getElem_cons hn'
      have hB := combO_small hk0 (m := l[n]) (l := l.drop (n + 1)) (fun x hx => h x (by
        rw [← hd] at hx
        exact List.mem_cons_of_mem _ (List.mem_of_mem_drop hx))) (by simp at hl ⊢; omega)
      refine ⟨_, _, _, hA, by rw [List.drop_succ_cons, hd]; exact hB, hR, ?_⟩
      have hm1 : Sml 1 m.v := h m (by simp)
      have hs1 := gF_small (k := k) (l.take n) m.v 1 (by decide) hm1 (fun x hx => h x (List.mem_cons_of_mem _ (List.mem_of_mem_take hx)))
      have hy1 : Sml 1 l[n].v := h _ (List.mem_cons_of_mem _ (List.getElem_mem hn'))
      have hs2 := gF_small (k := k) (l.drop (n + 1)) l[n].v 1 (by decide) hy1 (fun x hx => h x (List.mem_cons_of_mem _ (List.mem_of_mem_drop hx)))
      have hE : jnE k (gF k m.v (l.take n)) (gF k l[n].v (l.drop (n + 1))) = false := by
        have e1 : ((l.take n).length : Int) ≤ 60 := by simp at hl ⊢; omega
        have e2 : ((l.drop (n + 1)).length : Int) ≤ 60 := by simp at hl ⊢; omega
        unfold Sml at hs1 hs2
        unfold jnE
        simp only [decide_eq_false_iff_not]
        omega
      have hval : jn k (gF k m.v (l.take n)) (gF k l[n].v (l.drop (n + 1))) = gF k m.v l := by
        rw [← gF_assoc hk]
        have e : l = l.take n ++ (l[n] :: l.drop (n + 1)) := by rw [← hd, List.take_append_drop]
        conv => rhs; rw [e, gF_app]
        rfl
      simp only [List.cons_append, List.nil_append, combO, if_neg hk0, foldM, hE, hval]
      rfl
def smallM (m : Msg) : Msg := ⟨m.f, m.t, m.a, m.v.tmod 1099511627776⟩
theorem smallM_sml (m : Msg) : Sml 1 (smallM m).v := by
  unfold Sml smallM
  simp only
  have h1 := Int.tmod_lt_of_pos m.v (b := 1099511627776) (by decide)
  have h2 := Int.lt_tmod_of_pos m.v (b := 1099511627776) (by decide)
  omega
theorem smallM_ok {m : Msg} (h : m.ok) : (smallM m).ok := by
  refine ⟨h.f, h.t, h.a, ?_⟩
  have := smallM_sml m
  unfold Sml at this
  unfold I64
  omega
end Go.Proofs.Ytfajkfngjfhkoab
