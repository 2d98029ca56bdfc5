import Derived.Test.YtnhijofnhflklaaGreatNumM
import Derived.Test.YtnhijofnhflklaaGreatGrDataM
/- Messages as plain lists: their order, a list in order, what a box holds, what a combiner makes. No function of the program is named here. -/
namespace Go.Proofs.YtnhijofnhflklaaGreat
open Go.RowKit

/-- A message: From, To, At, V. -/
structure Msg where
  f : Int
  t : Int
  a : Int
  v : Int
structure Msg.ok (m : Msg) : Prop where
  f : I64 m.f
  t : I64 m.t
  a : I64 m.a
  v : I64 m.v
def msgCells (m : Msg) : List Value := [.int .i64 m.f, .int .i64 m.t, .int .i64 m.a, .int .i64 m.v]
def c3 (x y : Int) : Int := if x < y then -1 else if y < x then 1 else 0
/-- What Compare tells. -/
def cmpM (x y : Msg) : Int :=
  if c3 x.t y.t ≠ 0 then c3 x.t y.t else if c3 x.f y.f ≠ 0 then c3 x.f y.f else if c3 x.a y.a ≠ 0 then c3 x.a y.a else c3 x.v y.v
/-- Does a message stand ahead of another one? -/
def mlt (x y : Msg) : Bool :=
  if x.t ≠ y.t then decide (x.t < y.t) else if x.f ≠ y.f then decide (x.f < y.f) else if x.a ≠ y.a then decide (x.a < y.a) else decide (x.v < y.v)
theorem c3_neg (x y : Int) : c3 x y < 0 ↔ x < y := by unfold c3; split <;> (try split) <;> omega
theorem c3_zero (x y : Int) : c3 x y = 0 ↔ x = y := by unfold c3; split <;> (try split) <;> omega
theorem cmpM_lt (x y : Msg) : decide (cmpM x y < 0) = mlt x y := by
  unfold cmpM mlt
  simp only [ne_eq, c3_zero]
  split
  · simp [c3_neg]
  · split
    · simp [c3_neg]
    · split <;> simp [c3_neg]
theorem mlt_iff (x y : Msg) : mlt x y = true ↔ (x.t < y.t ∨ x.t = y.t ∧ (x.f < y.f ∨ x.f = y.f ∧ (x.a < y.a ∨ x.a = y.a ∧ x.v < y.v))) := by
  unfold mlt
  split
  · rename_i h; simp; omega
  · rename_i h
    split
    · rename_i h'; simp; omega
    · split
      · simp; omega
      · simp; omega
theorem mlt_irrefl (x : Msg) : mlt x x = false := by
  rw [Bool.eq_false_iff]; intro h; rw [mlt_iff] at h; omega
theorem mlt_trans (x y z : Msg) (h : mlt x y = true) (h' : mlt y z = true) : mlt x z = true := by
  rw [mlt_iff] at *; omega
theorem mlt_ntrans (x y z : Msg) (h : mlt x y = false) (h' : mlt y z = false) : mlt x z = false := by
  rw [Bool.eq_false_iff, ne_eq, mlt_iff] at *; omega
theorem mlt_total (x y : Msg) (h : mlt x y = false) (h' : mlt y x = false) : x = y := by
  rw [Bool.eq_false_iff, ne_eq, mlt_iff] at *
  cases x; cases y
  simp only [Msg.mk.injEq] at *
  omega
def mle (x y : Msg) : Bool := !mlt y x
/-- A list in order. -/
def sortM (l : List Msg) : List Msg := l.mergeSort mle
theorem sortM_perm (l : List Msg) : (sortM l).Perm l := List.mergeSort_perm l mle
theorem sortM_len (l : List Msg) : (sortM l).length = l.length := (sortM_perm l).length_eq
/-- A combiner's step: the value and the error. -/
def jn (k : Int) (a b : Int) : Int := if k = 2 then (if b < a then b else a) else if k = 3 then (if a < b then b else a) else a + b
def jnE (k : Int) (a b : Int) : Bool := decide (k ≠ 2 ∧ k ≠ 3 ∧ ¬ (-9223372036854775808 ≤ a + b ∧ a + b ≤ 9223372036854775807))
/-- What many come to: none, where there is no room. -/
def foldM (k : Int) : Int → List Msg → Option Int
  | x, [] => some x
  | x, m :: l => if jnE k x m.v then none else foldM k (jn k x m.v) l
theorem foldM_app (k : Int) : ∀ (l m : List Msg) (x : Int), foldM k x (l ++ m) = (foldM k x l).bind fun y => foldM k y m
  | [], m, x => rfl
  | a :: l, m, x => by
    simp only [List.cons_append, foldM]
    split
    · rfl
    · exact foldM_app k l m _
/-- Those that go to a vertex. -/
def toV (B : List Msg) (id : Int) : List Msg := B.filter fun m => m.t == id
def offV (B : List Msg) (id : Int) : List Msg := B.filter fun m => !(m.t == id)
theorem toV_app (B C : List Msg) (id : Int) : toV (B ++ C) id = toV B id ++ toV C id := by unfold toV; exact List.filter_append ..
theorem toV_snoc_same (B : List Msg) (m : Msg) : toV (B ++ [m]) m.t = toV B m.t ++ [m] := by rw [toV_app]; simp [toV]
theorem toV_snoc_other (B : List Msg) (m : Msg) {id : Int} (h : m.t ≠ id) : toV (B ++ [m]) id = toV B id := by rw [toV_app]; simp [toV, h]
theorem toV_off_same (B : List Msg) (id : Int) : toV (offV B id) id = [] := by
  unfold toV offV
  rw [List.filter_filter, List.filter_eq_nil_iff]
  intro m _
  simp
theorem toV_off_other (B : List Msg) {id i : Int} (h : i ≠ id) : toV (offV B id) i = toV B i := by
  unfold toV offV
  rw [List.filter_filter]
  refine List.filter_congr fun m _ => ?_
  by_cases e : m.t = i
  · subst e; simp [h]
  · simp [e]
end Go.Proofs.YtnhijofnhflklaaGreat
