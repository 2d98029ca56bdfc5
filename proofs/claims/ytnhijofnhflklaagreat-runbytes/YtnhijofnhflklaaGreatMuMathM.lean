import Derived.Test.YtnhijofnhflklaaGreatNumM
import Derived.Test.YtnhijofnhflklaaGreatGrDataM
/- Requests as plain lists: their order, those that count, what each does to a graph. No function of the program is named here. -/
namespace Go.Proofs.YtnhijofnhflklaaGreat
open Go.RowKit

/-- A request: Kind, ID, To, V. -/
structure Mu where
  k : Int
  i : Int
  t : Int
  v : Int
structure Mu.ok (m : Mu) : Prop where
  k : I64 m.k
  i : I64 m.i
  t : I64 m.t
  v : I64 m.v
def muCells (m : Mu) : List Value := [.int .i64 m.k, .int .i64 m.i, .int .i64 m.t, .int .i64 m.v]
def u3 (x y : Int) : Int := if x < y then -1 else if y < x then 1 else 0
/-- What Compare tells. -/
def cmpU (x y : Mu) : Int :=
  if u3 x.k y.k ≠ 0 then u3 x.k y.k else if u3 x.i y.i ≠ 0 then u3 x.i y.i else if u3 x.t y.t ≠ 0 then u3 x.t y.t else u3 x.v y.v
/-- Is a request done ahead of another one? -/
def ult (x y : Mu) : Bool :=
  if x.k ≠ y.k then decide (x.k < y.k) else if x.i ≠ y.i then decide (x.i < y.i) else if x.t ≠ y.t then decide (x.t < y.t) else decide (x.v < y.v)
theorem u3_neg (x y : Int) : u3 x y < 0 ↔ x < y := by unfold u3; split <;> (try split) <;> omega
theorem u3_zero (x y : Int) : u3 x y = 0 ↔ x = y := by unfold u3; split <;> (try split) <;> omega
theorem cmpU_lt (x y : Mu) : decide (cmpU x y < 0) = ult x y := by
  unfold cmpU ult
  simp only [ne_eq, u3_zero]
  split
  · simp [u3_neg]
  · split
    · simp [u3_neg]
    · split <;> simp [u3_neg]
theorem ult_iff (x y : Mu) : ult x y = true ↔ (x.k < y.k ∨ x.k = y.k ∧ (x.i < y.i ∨ x.i = y.i ∧ (x.t < y.t ∨ x.t = y.t ∧ x.v < y.v))) := by
  unfold ult
  split
  · rename_i h; simp; omega
  · rename_i h
    split
    · rename_i h'; simp; omega
    · split
      · simp; omega
      · simp; omega
theorem ult_irrefl (x : Mu) : ult x x = false := by
  rw [Bool.eq_false_iff]; intro h; rw [ult_iff] at h; omega
theorem ult_trans (x y z : Mu) (h : ult x y = true) (h' : ult y z = true) : ult x z = true := by
  rw [ult_iff] at *; omega
theorem ult_ntrans (x y z : Mu) (h : ult x y = false) (h' : ult y z = false) : ult x z = false := by
  rw [Bool.eq_false_iff, ne_eq, ult_iff] at *; omega
theorem ult_total (x y : Mu) (h : ult x y = false) (h' : ult y x = false) : x = y := by
  rw [Bool.eq_false_iff, ne_eq, ult_iff] at *
  cases x; cases y
  simp only [Mu.mk.injEq] at *
  omega
def ule (x y : Mu) : Bool := !ult y x
/-- A list in order. -/
def sortU (l : List Mu) : List Mu := l.mergeSort ule
theorem sortU_perm (l : List Mu) : (sortU l).Perm l := List.mergeSort_perm l ule
theorem ule_trans (a b c : Mu) (h : ule a b = true) (h' : ule b c = true) : ule a c = true := by
  unfold ule at *
  simp only [Bool.not_eq_true'] at *
  exact ult_ntrans _ _ _ h' h
theorem ule_total (a b : Mu) : (ule a b || ule b a) = true := by
  unfold ule
  cases h : ult b a
  · rfl
  · cases h' : ult a b
    · rfl
    · have := ult_trans _ _ _ h h'
      rw [ult_irrefl] at this
      cases this
theorem sortU_sorted (l : List Mu) : (sortU l).Pairwise (fun a b => ule a b = true) := List.pairwise_mergeSort ule_trans ule_total l
theorem ule_anti {a b : Mu} (h : ule a b = true) (h' : ule b a = true) : a = b := by
  unfold ule at *
  simp only [Bool.not_eq_true'] at *
  exact ult_total _ _ h' h
/-- There is one list in order. -/
theorem sortU_of {l m : List Mu} (hp : m.Perm l) (hs : m.Pairwise (fun a b => ule a b = true)) : m = sortU l :=
  List.Perm.eq_of_pairwise (fun _ _ _ _ h h' => ule_anti h h') hs (sortU_sorted l) (hp.trans (sortU_perm l).symm)
theorem sortU_len (l : List Mu) : (sortU l).length = l.length := (sortU_perm l).length_eq
theorem sortU_mem {l : List Mu} {x : Mu} : x ∈ sortU l ↔ x ∈ l := (sortU_perm l).mem_iff
theorem sortU_nil : sortU [] = [] := (sortU_of (List.Perm.refl _) (by simp)).symm
/-- Do two requests ask for the same thing? -/
def sameU (a b : Mu) : Bool := a.k == b.k && a.i == b.i && a.t == b.t
/-- Those that count behind one that stands ahead of them: each that does not ask for what the one ahead of it asks for. -/
def ddF (p : Mu) : List Mu → List Mu
  | [] => []
  | m :: l => if sameU m p then ddF m l else m :: ddF m l
/-- Of those that ask for the same, the first one. -/
def dd : List Mu → List Mu
  | [] => []
  | m :: l => m :: ddF m l
/-- The requests that count, in their order. -/
def thatC (l : List Mu) : List Mu := dd (sortU l)
theorem ddF_len (p : Mu) : ∀ l, (ddF p l).length ≤ l.length
  | [] => Nat.le_refl _
  | m :: l => by
    unfold ddF
    have := ddF_len m l
    split <;> simp <;> omega
theorem dd_len : ∀ l, (dd l).length ≤ l.length
  | [] => Nat.le_refl _
  | m :: l => by unfold dd; have := ddF_len m l; simp; omega
theorem thatC_len (l : List Mu) : (thatC l).length ≤ l.length := by
  unfold thatC; have := dd_len (sortU l); rw [sortU_len] at this; exact this
theorem ddF_sub (p : Mu) : ∀ l, (ddF p l).Sublist l
  | [] => List.Sublist.refl _
  | m :: l => by
    unfold ddF
    split
    · exact (ddF_sub m l).cons m
    · exact (ddF_sub m l).cons_cons m
theorem dd_sub : ∀ l, (dd l).Sublist l
  | [] => List.Sublist.refl _
  | m :: l => by unfold dd; exact (ddF_sub m l).cons_cons m
theorem thatC_mem {l : List Mu} {m : Mu} (h : m ∈ thatC l) : m ∈ l := sortU_mem.1 ((dd_sub _).subset h)
end Go.Proofs.YtnhijofnhflklaaGreat
