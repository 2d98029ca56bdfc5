import Derived.Test.YtnijacbfcffnpaaProg
import Derived.Test.YtnijacbfcffnpaaNmAdd
import Derived.Test.YtnijacbfcffnpaaNum
import Derived.Handy
import Derived.Laws.StructEq
section
/- agg.known, agg.join and the document's join at any values. -/
namespace Go.Proofs.Ytnijacbfcffnpaa
open Go.RowKit

theorem ret_b {a b : Bool} (h : a = b) : Ending.returned (.bool a) = .returned (.bool b) := by rw [h]
theorem known_in (k : Int) (w : World) (h : 0 ≤ k) (h' : k ≤ 4) : Calls Try.prog 104 #[.int .i64 k] w fun e w' => e = .returned (.bool true) ∧ w' = w := by
  go_enter Try.func104, Try.ntmps104
  go_wp2
  all_goals first | (exfalso; omega) | (go_ret; exact ⟨ret_b (by simp; omega), rfl⟩)
theorem known_out (k : Int) (w : World) (h : ¬ (0 ≤ k ∧ k ≤ 4)) : Calls Try.prog 104 #[.int .i64 k] w fun e w' => e = .returned (.bool false) ∧ w' = w := by
  go_enter Try.func104, Try.ntmps104
  go_wp2
  all_goals first | (exfalso; omega) | (go_ret; exact ⟨ret_b (by first | rfl | (simp; omega)), rfl⟩)

/-- The bits that two numbers have in common, and those of either. -/
def andI (a b : Int) : Int := IntKind.i64.wrap ((BitVec.ofInt IntKind.i64.bits a &&& BitVec.ofInt IntKind.i64.bits b).toNat : Int)
def orI (a b : Int) : Int := IntKind.i64.wrap ((BitVec.ofInt IntKind.i64.bits a ||| BitVec.ofInt IntKind.i64.bits b).toNat : Int)
/-- Two values of a kind as one, where there is room; the error. -/
def jv (k : Nat) (a b : Int) : Int :=
  match k with
  | 0 => hv (a + b)
  | 1 => if b < a then b else a
  | 2 => if a < b then b else a
  | 3 => andI a b
  | _ => orI a b
def je (k : Nat) (a b : Int) : Int := if k = 0 then he (a + b) else 0
theorem ret2e {a b a' b' : Int} (h : a = a') (h' : b = b') : Ending.returned (.tuple #[.int .i64 a, .int .i64 b]) = .returned (.tuple #[.int .i64 a', .int .i64 b']) := by rw [h, h']

theorem join_any (k : Nat) (a b : Int) (w : World) (hk : k ≤ 4) (ha : -9223372036854775808 ≤ a) (ha' : a ≤ 9223372036854775807) (hb : -9223372036854775808 ≤ b) (hb' : b ≤ 9223372036854775807) :
    Calls Try.prog 130 #[.int .i64 (k : Int), .int .i64 a, .int .i64 b] w fun e w' => e = .returned (.tuple #[.int .i64 (jv k a b), .int .i64 (je k a b)]) ∧ w' = w := by
  have hc : k = 0 ∨ k = 1 ∨ k = 2 ∨ k = 3 ∨ k = 4 := by omega
  rcases hc with rfl | rfl | rfl | rfl | rfl
  · go_enter Try.func130, Try.ntmps130
    go_wp2
    all_goals go_ret2
    all_goals exact ⟨ret2e (by show _ = hv (a + b); unfold hv; split <;> omega) (by show _ = he (a + b); unfold he; split <;> omega), rfl⟩
  · go_enter Try.func130, Try.ntmps130
    go_wp2
    all_goals go_ret2
    all_goals exact ⟨ret2e (by simp only [jv]; split <;> omega) rfl, rfl⟩
  · go_enter Try.func130, Try.ntmps130
    go_wp2
    all_goals go_ret2
    all_goals exact ⟨ret2e (by simp only [jv]; split <;> omega) rfl, rfl⟩
  · go_enter Try.func130, Try.ntmps130
    go_wp2
    go_ret2
    exact ⟨rfl, rfl⟩
  · go_enter Try.func130, Try.ntmps130
    go_wp2
    go_ret2
    exact ⟨rfl, rfl⟩
end Go.Proofs.Ytnijacbfcffnpaa
end

section
/- agg.Add at any aggregate, kind by kind. -/
namespace Go.Proofs.Ytnijacbfcffnpaa
open Go.RowKit

/-- An aggregate as a value: five flags, five numbers. -/
def AG (h : Nat → Bool) (v : Nat → Int) : Value := .agg #[.bool (h 0), .bool (h 1), .bool (h 2), .bool (h 3), .bool (h 4), .int .i64 (v 0), .int .i64 (v 1), .int .i64 (v 2), .int .i64 (v 3), .int .i64 (v 4)]
def updA {α : Type} (f : Nat → α) (k : Nat) (a : α) : Nat → α := fun i => if i = k then a else f i

theorem add_out (h : Nat → Bool) (v : Nat → Int) (k x : Int) (w : World) (hk : ¬ (0 ≤ k ∧ k ≤ 4)) :
    Calls Try.prog 107 #[AG h v, .int .i64 k, .int .i64 x] w fun e w' => e = .returned (.tuple #[AG h v, .int .i64 1]) ∧ Below w.heap.size w w' := by
  unfold AG
  go_enter Try.func107, Try.ntmps107
  go_wp2_with (go_at_call 104; refine (known_out k _ hk).mono ?_; rintro e w1 ⟨rfl, rfl⟩)
  all_goals go_returns
  all_goals exact ⟨rfl, by go_grown⟩

theorem add_new0 (h : Nat → Bool) (v : Nat → Int) (x : Int) (w : World) (hh : h 0 = false) :
    Calls Try.prog 107 #[AG h v, .int .i64 0, .int .i64 x] w fun e w' => e = .returned (.tuple #[AG (updA h 0 true) (updA v 0 x), .int .i64 0]) ∧ Below w.heap.size w w' := by
  unfold AG
  go_enter Try.func107, Try.ntmps107
  go_wp2_with (first | (go_at_call 104; refine (known_in _ _ (by decide) (by decide)).mono ?_; rintro e w1 ⟨rfl, rfl⟩) | fail)
  go_returns
  exact ⟨rfl, by go_grown⟩
theorem add_old0 (h : Nat → Bool) (v : Nat → Int) (x n : Int) (w : World) (hh : h 0 = true)
    (hj : ∀ w, Calls Try.prog 130 #[.int .i64 0, .int .i64 (v 0), .int .i64 x] w fun e w' => e = .returned (.tuple #[.int .i64 n, .int .i64 0]) ∧ w' = w) :
    Calls Try.prog 107 #[AG h v, .int .i64 0, .int .i64 x] w fun e w' => e = .returned (.tuple #[AG (updA h 0 true) (updA v 0 n), .int .i64 0]) ∧ Below w.heap.size w w' := by
  unfold AG
  go_enter Try.func107, Try.ntmps107
  go_wp2_with (first | (go_at_call 104; refine (known_in _ _ (by decide) (by decide)).mono ?_; rintro e w1 ⟨rfl, rfl⟩) | (go_at_call 130; refine (hj _).mono ?_; rintro e w1 ⟨rfl, rfl⟩))
  go_returns
  exact ⟨rfl, by go_grown⟩

theorem add_new1 (h : Nat → Bool) (v : Nat → Int) (x : Int) (w : World) (hh : h 1 = false) :
    Calls Try.prog 107 #[AG h v, .int .i64 1, .int .i64 x] w fun e w' => e = .returned (.tuple #[AG (updA h 1 true) (updA v 1 x), .int .i64 0]) ∧ Below w.heap.size w w' := by
  unfold AG
  go_enter Try.func107, Try.ntmps107
  go_wp2_with (first | (go_at_call 104; refine (known_in _ _ (by decide) (by decide)).mono ?_; rintro e w1 ⟨rfl, rfl⟩) | fail)
  go_returns
  exact ⟨rfl, by go_grown⟩
theorem add_old1 (h : Nat → Bool) (v : Nat → Int) (x n : Int) (w : World) (hh : h 1 = true)
    (hj : ∀ w, Calls Try.prog 130 #[.int .i64 1, .int .i64 (v 1), .int .i64 x] w fun e w' => e = .returned (.tuple #[.int .i64 n, .int .i64 0]) ∧ w' = w) :
    Calls Try.prog 107 #[AG h v, .int .i64 1, .int .i64 x] w fun e w' => e = .returned (.tuple #[AG (updA h 1 true) (updA v 1 n), .int .i64 0]) ∧ Below w.heap.size w w' := by
  unfold AG
  go_enter Try.func107, Try.ntmps107
  go_wp2_with (first | (go_at_call 104; refine (known_in _ _ (by decide) (by decide)).mono ?_; rintro e w1 ⟨rfl, rfl⟩) | (go_at_call 130; refine (hj _).mono ?_; rintro e w1 ⟨rfl, rfl⟩))
  go_returns
  exact ⟨rfl, by go_grown⟩

theorem add_new2 (h : Nat → Bool) (v : Nat → Int) (x : Int) (w : World) (hh : h 2 = false) :
    Calls Try.prog 107 #[AG h v, .int .i64 2, .int .i64 x] w fun e w' => e = .returned (.tuple #[AG (updA h 2 true) (updA v 2 x), .int .i64 0]) ∧ Below w.heap.size w w' := by
  unfold AG
  go_enter Try.func107, Try.ntmps107
  go_wp2_with (first | (go_at_call 104; refine (known_in _ _ (by decide) (by decide)).mono ?_; rintro e w1 ⟨rfl, rfl⟩) | fail)
  go_returns
  exact ⟨rfl, by go_grown⟩
theorem add_old2 (h : Nat → Bool) (v : Nat → Int) (x n : Int) (w : World) (hh : h 2 = true)
    (hj : ∀ w, Calls Try.prog 130 #[.int .i64 2, .int .i64 (v 2), .int .i64 x] w fun e w' => e = .returned (.tuple #[.int .i64 n, .int .i64 0]) ∧ w' = w) :
    Calls Try.prog 107 #[AG h v, .int .i64 2, .int .i64 x] w fun e w' => e = .returned (.tuple #[AG (updA h 2 true) (updA v 2 n), .int .i64 0]) ∧ Below w.heap.size w w' := by
  unfold AG
  go_enter Try.func107, Try.ntmps107
  go_wp2_with (first | (go_at_call 104; refine (known_in _ _ (by decide) (by decide)).mono ?_; rintro e w1 ⟨rfl, rfl⟩) | (go_at_call 130; refine (hj _).mono ?_; rintro e w1 ⟨rfl, rfl⟩))
  go_returns
  exact ⟨rfl, by go_grown⟩

theorem add_new3 (h : Nat → Bool) (v : Nat → Int) (x : Int) (w : World) (hh : h 3 = false) :
    Calls Try.prog 107 #[AG h v, .int .i64 3, .int .i64 x] w fun e w' => e = .returned (.tuple #[AG (updA h 3 true) (updA v 3 x), .int .i64 0]) ∧ Below w.heap.size w w' := by
  unfold AG
  go_enter Try.func107, Try.ntmps107
  go_wp2_with (first | (go_at_call 104; refine (known_in _ _ (by decide) (by decide)).mono ?_; rintro e w1 ⟨rfl, rfl⟩) | fail)
  go_returns
  exact ⟨rfl, by go_grown⟩
theorem add_old3 (h : Nat → Bool) (v : Nat → Int) (x n : Int) (w : World) (hh : h 3 = true)
    (hj : ∀ w, Calls Try.prog 130 #[.int .i64 3, .int .i64 (v 3), .int .i64 x] w fun e w' => e = .returned (.tuple #[.int .i64 n, .int .i64 0]) ∧ w' = w) :
    Calls Try.prog 107 #[AG h v, .int .i64 3, .int .i64 x] w fun e w' => e = .returned (.tuple #[AG (updA h 3 true) (updA v 3 n), .int .i64 0]) ∧ Below w.heap.size w w' := by
  unfold AG
  go_enter Try.func107, Try.ntmps107
  go_wp2_with (first | (go_at_call 104; refine (known_in _ _ (by decide) (by decide)).mono ?_; rintro e w1 ⟨rfl, rfl⟩) | (go_at_call 130; refine (hj _).mono ?_; rintro e w1 ⟨rfl, rfl⟩))
  go_returns
  exact ⟨rfl, by go_grown⟩

theorem add_new4 (h : Nat → Bool) (v : Nat → Int) (x : Int) (w : World) (hh : h 4 = false) :
    Calls Try.prog 107 #[AG h v, .int .i64 4, .int .i64 x] w fun e w' => e = .returned (.tuple #[AG (updA h 4 true) (updA v 4 x), .int .i64 0]) ∧ Below w.heap.size w w' := by
  unfold AG
  go_enter Try.func107, Try.ntmps107
  go_wp2_with (first | (go_at_call 104; refine (known_in _ _ (by decide) (by decide)).mono ?_; rintro e w1 ⟨rfl, rfl⟩) | fail)
  go_returns
  exact ⟨rfl, by go_grown⟩
theorem add_old4 (h : Nat → Bool) (v : Nat → Int) (x n : Int) (w : World) (hh : h 4 = true)
    (hj : ∀ w, Calls Try.prog 130 #[.int .i64 4, .int .i64 (v 4), .int .i64 x] w fun e w' => e = .returned (.tuple #[.int .i64 n, .int .i64 0]) ∧ w' = w) :
    Calls Try.prog 107 #[AG h v, .int .i64 4, .int .i64 x] w fun e w' => e = .returned (.tuple #[AG (updA h 4 true) (updA v 4 n), .int .i64 0]) ∧ Below w.heap.size w w' := by
  unfold AG
  go_enter Try.func107, Try.ntmps107
  go_wp2_with (first | (go_at_call 104; refine (known_in _ _ (by decide) (by decide)).mono ?_; rintro e w1 ⟨rfl, rfl⟩) | (go_at_call 130; refine (hj _).mono ?_; rintro e w1 ⟨rfl, rfl⟩))
  go_returns
  exact ⟨rfl, by go_grown⟩

theorem add_no0 (h : Nat → Bool) (v : Nat → Int) (x n : Int) (w : World) (hh : h 0 = true)
    (hj : ∀ w, Calls Try.prog 130 #[.int .i64 0, .int .i64 (v 0), .int .i64 x] w fun e w' => e = .returned (.tuple #[.int .i64 n, .int .i64 20]) ∧ w' = w) :
    Calls Try.prog 107 #[AG h v, .int .i64 0, .int .i64 x] w fun e w' => e = .returned (.tuple #[AG h v, .int .i64 20]) ∧ Below w.heap.size w w' := by
  unfold AG
  go_enter Try.func107, Try.ntmps107
  go_wp2_with (first | (go_at_call 104; refine (known_in _ _ (by decide) (by decide)).mono ?_; rintro e w1 ⟨rfl, rfl⟩) | (go_at_call 130; refine (hj _).mono ?_; rintro e w1 ⟨rfl, rfl⟩))
  go_returns
  exact ⟨by rw [hh], by go_grown⟩
end Go.Proofs.Ytnijacbfcffnpaa
end

section
/- The document's add at any aggregate, kind by kind. -/
namespace Go.Proofs.Ytnijacbfcffnpaa
open Go.RowKit

end Go.Proofs.Ytnijacbfcffnpaa
end

section
/- agg.Add, agg.Get and the document's add: contracts over aggregates whose kinds have a value or none. -/
namespace Go.Proofs.Ytnijacbfcffnpaa
open Go.RowKit

def oh (o : Nat → Option Int) (i : Nat) : Bool := (o i).isSome
def ov (o : Nat → Option Int) (i : Nat) : Int := (o i).getD 0
/-- The value of an aggregate of which each kind has a number, or none (then 0 stands there). -/
def AO (o : Nat → Option Int) : Value := AG (oh o) (ov o)
/-- The aggregate behind a value given to a kind, and the error. -/
def addO (o : Nat → Option Int) (k x : Int) : Nat → Option Int :=
  if 0 ≤ k ∧ k ≤ 4 then
    match o k.toNat with
    | none => updA o k.toNat (some x)
    | some y => if je k.toNat y x = 0 then updA o k.toNat (some (jv k.toNat y x)) else o
  else o
def addE (o : Nat → Option Int) (k x : Int) : Int :=
  if 0 ≤ k ∧ k ≤ 4 then
    match o k.toNat with
    | none => 0
    | some y => je k.toNat y x
  else 1
def I6 (x : Int) : Prop := -9223372036854775808 ≤ x ∧ x ≤ 9223372036854775807
def OkO (o : Nat → Option Int) : Prop := ∀ i y, o i = some y → I6 y
theorem wrap_bd (n : Int) : -9223372036854775808 ≤ IntKind.i64.wrap n ∧ IntKind.i64.wrap n ≤ 9223372036854775807 := by
  rw [IntKind.wrap_i64]
  try unfold wrap64
  omega
theorem jv_bd {k : Nat} {a b : Int} (ha : I6 a) (hb : I6 b) : I6 (jv k a b) := by
  unfold I6 at *
  unfold jv
  split
  · exact hv_bd _
  · split <;> assumption
  · split <;> assumption
  · exact wrap_bd _
  · exact wrap_bd _
theorem updA_at {α : Type} (f : Nat → α) (k : Nat) (a : α) : updA f k a k = a := if_pos rfl
theorem updA_ne {α : Type} (f : Nat → α) {k i : Nat} (a : α) (h : i ≠ k) : updA f k a i = f i := if_neg h
theorem OkO.updA {o : Nat → Option Int} (h : OkO o) (k : Nat) {x : Int} (hx : I6 x) : OkO (updA o k (some x)) := by
  intro i y e
  by_cases hi : i = k
  · subst hi; rw [updA_at] at e; cases e; exact hx
  · rw [updA_ne _ _ hi] at e; exact h i y e
theorem OkO.add {o : Nat → Option Int} (h : OkO o) (k : Int) {x : Int} (hx : I6 x) : OkO (addO o k x) := by
  unfold addO
  split
  · split
    · exact h.updA _ hx
    · rename_i y e
      split
      · exact h.updA _ (jv_bd (h _ _ e) hx)
      · exact h
  · exact h
theorem OkO.none : OkO (fun _ => none) := fun _ _ e => by cases e
theorem je_cases (k : Nat) (a b : Int) : je k a b = 0 ∨ k = 0 ∧ je k a b = 20 := by
  unfold je
  split
  · rcases he_cases (a + b) with h | h
    · exact .inl h.1
    · exact .inr ⟨by assumption, h.1⟩
  · exact .inl rfl
theorem oh_upd (o : Nat → Option Int) (k : Nat) (x : Int) : updA (oh o) k true = oh (updA o k (some x)) := by
  funext i
  unfold oh updA
  split <;> rfl
theorem ov_upd (o : Nat → Option Int) (k : Nat) (x : Int) : updA (ov o) k x = ov (updA o k (some x)) := by
  funext i
  unfold ov updA
  split <;> rfl
theorem AO_upd (o : Nat → Option Int) (k : Nat) (x : Int) : AG (updA (oh o) k true) (updA (ov o) k x) = AO (updA o k (some x)) := by
  rw [oh_upd o k x, ov_upd]; rfl
theorem addO_out {o : Nat → Option Int} {k x : Int} (h : ¬ (0 ≤ k ∧ k ≤ 4)) : addO o k x = o ∧ addE o k x = 1 := ⟨if_neg h, if_neg h⟩
theorem addO_new {o : Nat → Option Int} {k : Nat} {x : Int} (hk : k ≤ 4) (h : o k = none) : addO o k x = updA o k (some x) ∧ addE o k x = 0 := by
  unfold addO addE
  rw [if_pos (by omega), if_pos (by omega), Int.toNat_natCast]
  simp only [h]
  exact ⟨by first | rfl | trivial, by first | rfl | trivial⟩
theorem addO_old {o : Nat → Option Int} {k : Nat} {x y : Int} (hk : k ≤ 4) (h : o k = some y) (hj : je k y x = 0) : addO o k x = updA o k (some (jv k y x)) ∧ addE o k x = 0 := by
  unfold addO addE
  rw [if_pos (by omega), if_pos (by omega), Int.toNat_natCast]
  simp only [h, hj]
  exact ⟨by first | rfl | trivial, by first | rfl | trivial⟩
theorem addO_no {o : Nat → Option Int} {k : Nat} {x y e : Int} (hk : k ≤ 4) (h : o k = some y) (hj : je k y x = e) (he : e ≠ 0) : addO o k x = o ∧ addE o k x = e := by
  unfold addO addE
  rw [if_pos (by omega), if_pos (by omega), Int.toNat_natCast]
  simp only [h, hj]
  exact ⟨if_neg he, trivial⟩
theorem oh_some {o : Nat → Option Int} {k : Nat} {y : Int} (h : o k = some y) : oh o k = true := by unfold oh; rw [h]; rfl
theorem ov_some {o : Nat → Option Int} {k : Nat} {y : Int} (h : o k = some y) : ov o k = y := by unfold ov; rw [h]; rfl
theorem oh_none {o : Nat → Option Int} {k : Nat} (h : o k = none) : oh o k = false := by unfold oh; rw [h]; rfl
theorem ov_none {o : Nat → Option Int} {k : Nat} (h : o k = none) : ov o k = 0 := by unfold ov; rw [h]; rfl
theorem ret_ao {x y : Value} {e f : Int} (h : x = y) (h' : e = f) : Ending.returned (.tuple #[x, .int .i64 e]) = .returned (.tuple #[y, .int .i64 f]) := by rw [h, h']
theorem ends_new {o : Nat → Option Int} {k : Nat} {x : Int} (hk : k ≤ 4) (h : o k = none) : Ending.returned (.tuple #[AG (updA (oh o) k true) (updA (ov o) k x), .int .i64 0]) = .returned (.tuple #[AO (addO o k x), .int .i64 (addE o k x)]) := by
  rw [(addO_new hk h).1, (addO_new hk h).2, AO_upd]
theorem ends_old {o : Nat → Option Int} {k : Nat} {x y : Int} (hk : k ≤ 4) (h : o k = some y) (hj : je k y x = 0) : Ending.returned (.tuple #[AG (updA (oh o) k true) (updA (ov o) k (jv k y x)), .int .i64 0]) = .returned (.tuple #[AO (addO o k x), .int .i64 (addE o k x)]) := by
  rw [(addO_old hk h hj).1, (addO_old hk h hj).2, AO_upd]
theorem ends_no {o : Nat → Option Int} {k : Nat} {x y e : Int} (hk : k ≤ 4) (h : o k = some y) (hj : je k y x = e) (he : e ≠ 0) : Ending.returned (.tuple #[AG (oh o) (ov o), .int .i64 e]) = .returned (.tuple #[AO (addO o k x), .int .i64 (addE o k x)]) := by
  rw [(addO_no hk h hj he).1, (addO_no hk h hj he).2]; rfl
theorem kind5 {k : Int} (h : 0 ≤ k ∧ k ≤ 4) : k = ((0 : Nat) : Int) ∨ k = ((1 : Nat) : Int) ∨ k = ((2 : Nat) : Int) ∨ k = ((3 : Nat) : Int) ∨ k = ((4 : Nat) : Int) := by omega

theorem aAdd_any (o : Nat → Option Int) (k x : Int) (w : World) (ho : OkO o) (hx : I6 x) :
    Calls Try.prog 107 #[AO o, .int .i64 k, .int .i64 x] w fun e w' => e = .returned (.tuple #[AO (addO o k x), .int .i64 (addE o k x)]) ∧ Below w.heap.size w w' := by
  by_cases hk : 0 ≤ k ∧ k ≤ 4
  · have H : ∀ (n : Nat), n ≤ 4 → ∀ y, o n = some y → ∀ w, Calls Try.prog 130 #[.int .i64 (n : Int), .int .i64 (ov o n), .int .i64 x] w fun e w' => e = .returned (.tuple #[.int .i64 (jv n y x), .int .i64 (je n y x)]) ∧ w' = w := fun n hn y hy w => by
      rw [ov_some hy]; exact join_any n y x w hn (ho n y hy).1 (ho n y hy).2 hx.1 hx.2
    rcases kind5 hk with rfl | rfl | rfl | rfl | rfl
    · cases e : o 0 with
      | none => exact (add_new0 (oh o) (ov o) x w (oh_none e)).mono fun e' w' h => ⟨h.1.trans (ends_new (by decide) e), h.2⟩
      | some y =>
        have HJ := H 0 (by decide) y e
        rcases je_cases 0 y x with hj | ⟨hk0, hj⟩
        · rw [hj] at HJ
          exact (add_old0 (oh o) (ov o) x (jv 0 y x) w (oh_some e) HJ).mono fun e' w' h => ⟨h.1.trans (ends_old (by decide) e hj), h.2⟩
        · rw [hj] at HJ
          exact (add_no0 (oh o) (ov o) x (jv 0 y x) w (oh_some e) HJ).mono fun e' w' h => ⟨h.1.trans (ends_no (by decide) e hj (by decide)), h.2⟩
    · cases e : o 1 with
      | none => exact (add_new1 (oh o) (ov o) x w (oh_none e)).mono fun e' w' h => ⟨h.1.trans (ends_new (by decide) e), h.2⟩
      | some y =>
        have HJ := H 1 (by decide) y e
        rcases je_cases 1 y x with hj | ⟨hk0, hj⟩
        · rw [hj] at HJ
          exact (add_old1 (oh o) (ov o) x (jv 1 y x) w (oh_some e) HJ).mono fun e' w' h => ⟨h.1.trans (ends_old (by decide) e hj), h.2⟩
        · exact absurd hk0 (by decide)
    · cases e : o 2 with
      | none => exact (add_new2 (oh o) (ov o) x w (oh_none e)).mono fun e' w' h => ⟨h.1.trans (ends_new (by decide) e), h.2⟩
      | some y =>
        have HJ := H 2 (by decide) y e
        rcases je_cases 2 y x with hj | ⟨hk0, hj⟩
        · rw [hj] at HJ
          exact (add_old2 (oh o) (ov o) x (jv 2 y x) w (oh_some e) HJ).mono fun e' w' h => ⟨h.1.trans (ends_old (by decide) e hj), h.2⟩
        · exact absurd hk0 (by decide)
    · cases e : o 3 with
      | none => exact (add_new3 (oh o) (ov o) x w (oh_none e)).mono fun e' w' h => ⟨h.1.trans (ends_new (by decide) e), h.2⟩
      | some y =>
        have HJ := H 3 (by decide) y e
        rcases je_cases 3 y x with hj | ⟨hk0, hj⟩
        · rw [hj] at HJ
          exact (add_old3 (oh o) (ov o) x (jv 3 y x) w (oh_some e) HJ).mono fun e' w' h => ⟨h.1.trans (ends_old (by decide) e hj), h.2⟩
        · exact absurd hk0 (by decide)
    · cases e : o 4 with
      | none => exact (add_new4 (oh o) (ov o) x w (oh_none e)).mono fun e' w' h => ⟨h.1.trans (ends_new (by decide) e), h.2⟩
      | some y =>
        have HJ := H 4 (by decide) y e
        rcases je_cases 4 y x with hj | ⟨hk0, hj⟩
        · rw [hj] at HJ
          exact (add_old4 (oh o) (ov o) x (jv 4 y x) w (oh_some e) HJ).mono fun e' w' h => ⟨h.1.trans (ends_old (by decide) e hj), h.2⟩
        · exact absurd hk0 (by decide)
  · exact (add_out (oh o) (ov o) k x w hk).mono fun e w' h => ⟨h.1.trans (by rw [(addO_out hk).1, (addO_out hk).2]; rfl), h.2⟩
end Go.Proofs.Ytnijacbfcffnpaa
end

section
/- agg.Get, and two aggregates held against one another. -/
namespace Go.Proofs.Ytnijacbfcffnpaa
open Go.RowKit

theorem get_out (h : Nat → Bool) (v : Nat → Int) (k : Int) (w : World) (hk : ¬ (0 ≤ k ∧ k ≤ 4)) :
    Calls Try.prog 73 #[AG h v, .int .i64 k] w fun e w' => e = .returned (.tuple #[.int .i64 0, .bool false]) ∧ Below w.heap.size w w' := by
  have hu : undef = Value.tuple #[] := rfl
  unfold AG
  go_enter Try.func73, Try.ntmps73
  go_wp2_with (go_at_call 104; refine (known_out k _ hk).mono ?_; rintro e w1 ⟨rfl, rfl⟩)
  go_returns
  exact ⟨rfl, by go_grown⟩
theorem get_yes0 (h : Nat → Bool) (v : Nat → Int) (w : World) (hh : h 0 = true) :
    Calls Try.prog 73 #[AG h v, .int .i64 0] w fun e w' => e = .returned (.tuple #[.int .i64 (v 0), .bool true]) ∧ Below w.heap.size w w' := by
  unfold AG
  go_enter Try.func73, Try.ntmps73
  go_wp2_with (go_at_call 104; refine (known_in _ _ (by decide) (by decide)).mono ?_; rintro e w1 ⟨rfl, rfl⟩)
  go_returns
  exact ⟨rfl, by go_grown⟩
theorem get_no0 (h : Nat → Bool) (v : Nat → Int) (w : World) (hh : h 0 = false) :
    Calls Try.prog 73 #[AG h v, .int .i64 0] w fun e w' => e = .returned (.tuple #[.int .i64 0, .bool false]) ∧ Below w.heap.size w w' := by
  unfold AG
  go_enter Try.func73, Try.ntmps73
  go_wp2_with (go_at_call 104; refine (known_in _ _ (by decide) (by decide)).mono ?_; rintro e w1 ⟨rfl, rfl⟩)
  go_returns
  exact ⟨rfl, by go_grown⟩
theorem get_yes1 (h : Nat → Bool) (v : Nat → Int) (w : World) (hh : h 1 = true) :
    Calls Try.prog 73 #[AG h v, .int .i64 1] w fun e w' => e = .returned (.tuple #[.int .i64 (v 1), .bool true]) ∧ Below w.heap.size w w' := by
  unfold AG
  go_enter Try.func73, Try.ntmps73
  go_wp2_with (go_at_call 104; refine (known_in _ _ (by decide) (by decide)).mono ?_; rintro e w1 ⟨rfl, rfl⟩)
  go_returns
  exact ⟨rfl, by go_grown⟩
theorem get_no1 (h : Nat → Bool) (v : Nat → Int) (w : World) (hh : h 1 = false) :
    Calls Try.prog 73 #[AG h v, .int .i64 1] w fun e w' => e = .returned (.tuple #[.int .i64 0, .bool false]) ∧ Below w.heap.size w w' := by
  unfold AG
  go_enter Try.func73, Try.ntmps73
  go_wp2_with (go_at_call 104; refine (known_in _ _ (by decide) (by decide)).mono ?_; rintro e w1 ⟨rfl, rfl⟩)
  go_returns
  exact ⟨rfl, by go_grown⟩
theorem get_yes2 (h : Nat → Bool) (v : Nat → Int) (w : World) (hh : h 2 = true) :
    Calls Try.prog 73 #[AG h v, .int .i64 2] w fun e w' => e = .returned (.tuple #[.int .i64 (v 2), .bool true]) ∧ Below w.heap.size w w' := by
  unfold AG
  go_enter Try.func73, Try.ntmps73
  go_wp2_with (go_at_call 104; refine (known_in _ _ (by decide) (by decide)).mono ?_; rintro e w1 ⟨rfl, rfl⟩)
  go_returns
  exact ⟨rfl, by go_grown⟩
theorem get_no2 (h : Nat → Bool) (v : Nat → Int) (w : World) (hh : h 2 = false) :
    Calls Try.prog 73 #[AG h v, .int .i64 2] w fun e w' => e = .returned (.tuple #[.int .i64 0, .bool false]) ∧ Below w.heap.size w w' := by
  unfold AG
  go_enter Try.func73, Try.ntmps73
  go_wp2_with (go_at_call 104; refine (known_in _ _ (by decide) (by decide)).mono ?_; rintro e w1 ⟨rfl, rfl⟩)
  go_returns
  exact ⟨rfl, by go_grown⟩
theorem get_yes3 (h : Nat → Bool) (v : Nat → Int) (w : World) (hh : h 3 = true) :
    Calls Try.prog 73 #[AG h v, .int .i64 3] w fun e w' => e = .returned (.tuple #[.int .i64 (v 3), .bool true]) ∧ Below w.heap.size w w' := by
  unfold AG
  go_enter Try.func73, Try.ntmps73
  go_wp2_with (go_at_call 104; refine (known_in _ _ (by decide) (by decide)).mono ?_; rintro e w1 ⟨rfl, rfl⟩)
  go_returns
  exact ⟨rfl, by go_grown⟩
theorem get_no3 (h : Nat → Bool) (v : Nat → Int) (w : World) (hh : h 3 = false) :
    Calls Try.prog 73 #[AG h v, .int .i64 3] w fun e w' => e = .returned (.tuple #[.int .i64 0, .bool false]) ∧ Below w.heap.size w w' := by
  unfold AG
  go_enter Try.func73, Try.ntmps73
  go_wp2_with (go_at_call 104; refine (known_in _ _ (by decide) (by decide)).mono ?_; rintro e w1 ⟨rfl, rfl⟩)
  go_returns
  exact ⟨rfl, by go_grown⟩
theorem get_yes4 (h : Nat → Bool) (v : Nat → Int) (w : World) (hh : h 4 = true) :
    Calls Try.prog 73 #[AG h v, .int .i64 4] w fun e w' => e = .returned (.tuple #[.int .i64 (v 4), .bool true]) ∧ Below w.heap.size w w' := by
  unfold AG
  go_enter Try.func73, Try.ntmps73
  go_wp2_with (go_at_call 104; refine (known_in _ _ (by decide) (by decide)).mono ?_; rintro e w1 ⟨rfl, rfl⟩)
  go_returns
  exact ⟨rfl, by go_grown⟩
theorem get_no4 (h : Nat → Bool) (v : Nat → Int) (w : World) (hh : h 4 = false) :
    Calls Try.prog 73 #[AG h v, .int .i64 4] w fun e w' => e = .returned (.tuple #[.int .i64 0, .bool false]) ∧ Below w.heap.size w w' := by
  unfold AG
  go_enter Try.func73, Try.ntmps73
  go_wp2_with (go_at_call 104; refine (known_in _ _ (by decide) (by decide)).mono ?_; rintro e w1 ⟨rfl, rfl⟩)
  go_returns
  exact ⟨rfl, by go_grown⟩

def getO (o : Nat → Option Int) (k : Int) : Option Int := if 0 ≤ k ∧ k ≤ 4 then o k.toNat else none
theorem getO_out {o : Nat → Option Int} {k : Int} (h : ¬ (0 ≤ k ∧ k ≤ 4)) : getO o k = none := if_neg h
theorem getO_in {o : Nat → Option Int} {k : Nat} (h : k ≤ 4) : getO o (k : Int) = o k := by
  unfold getO
  rw [if_pos (by omega), Int.toNat_natCast]
theorem get_any (o : Nat → Option Int) (k : Int) (w : World) :
    Calls Try.prog 73 #[AO o, .int .i64 k] w fun e w' => e = .returned (.tuple #[.int .i64 ((getO o k).getD 0), .bool (getO o k).isSome]) ∧ Below w.heap.size w w' := by
  by_cases hk : 0 ≤ k ∧ k ≤ 4
  · rcases kind5 hk with rfl | rfl | rfl | rfl | rfl
    · rw [getO_in (by decide)]
      cases e : o 0 with
      | none => exact get_no0 (oh o) (ov o) w (oh_none e)
      | some y => exact (get_yes0 (oh o) (ov o) w (oh_some e)).mono fun e' w' h => ⟨h.1.trans (by rw [ov_some e]; rfl), h.2⟩
    · rw [getO_in (by decide)]
      cases e : o 1 with
      | none => exact get_no1 (oh o) (ov o) w (oh_none e)
      | some y => exact (get_yes1 (oh o) (ov o) w (oh_some e)).mono fun e' w' h => ⟨h.1.trans (by rw [ov_some e]; rfl), h.2⟩
    · rw [getO_in (by decide)]
      cases e : o 2 with
      | none => exact get_no2 (oh o) (ov o) w (oh_none e)
      | some y => exact (get_yes2 (oh o) (ov o) w (oh_some e)).mono fun e' w' h => ⟨h.1.trans (by rw [ov_some e]; rfl), h.2⟩
    · rw [getO_in (by decide)]
      cases e : o 3 with
      | none => exact get_no3 (oh o) (ov o) w (oh_none e)
      | some y => exact (get_yes3 (oh o) (ov o) w (oh_some e)).mono fun e' w' h => ⟨h.1.trans (by rw [ov_some e]; rfl), h.2⟩
    · rw [getO_in (by decide)]
      cases e : o 4 with
      | none => exact get_no4 (oh o) (ov o) w (oh_none e)
      | some y => exact (get_yes4 (oh o) (ov o) w (oh_some e)).mono fun e' w' h => ⟨h.1.trans (by rw [ov_some e]; rfl), h.2⟩
  · rw [getO_out hk]
    exact get_out (oh o) (ov o) k w hk

theorem und_ag : Try.prog.underlying 72 = some (.struct (Try.prog.fieldsOf 72)) := by kernel_rfl
theorem sizes_ag : (Try.prog.info? 2).map (fun i => i.size) = some 1 ∧ (Try.prog.info? 4).map (fun i => i.size) = some 1 ∧ (Try.prog.info? 69).map (fun i => i.size) = some 5 ∧ (Try.prog.info? 70).map (fun i => i.size) = some 5 := ⟨by kernel_rfl, by kernel_rfl, by kernel_rfl, by kernel_rfl⟩
theorem part_h (w : World) (h : Nat → Bool) (v : Nat → Int) : (part 69 #[.bool (h 0), .bool (h 1), .bool (h 2), .bool (h 3), .bool (h 4), .int .i64 (v 0), .int .i64 (v 1), .int .i64 (v 2), .int .i64 (v 3), .int .i64 (v 4)] 0).run Try.prog w = .ok (.agg #[.bool (h 0), .bool (h 1), .bool (h 2), .bool (h 3), .bool (h 4)]) w := by
  obtain ⟨i, hi, hs⟩ := Option.map_eq_some_iff.1 sizes_ag.2.2.1
  simp [part, typeInfo, hi, hs, sizeOf]
theorem part_v (w : World) (h : Nat → Bool) (v : Nat → Int) : (part 70 #[.bool (h 0), .bool (h 1), .bool (h 2), .bool (h 3), .bool (h 4), .int .i64 (v 0), .int .i64 (v 1), .int .i64 (v 2), .int .i64 (v 3), .int .i64 (v 4)] 5).run Try.prog w = .ok (.agg #[.int .i64 (v 0), .int .i64 (v 1), .int .i64 (v 2), .int .i64 (v 3), .int .i64 (v 4)]) w := by
  obtain ⟨i, hi, hs⟩ := Option.map_eq_some_iff.1 sizes_ag.2.2.2
  simp [part, typeInfo, hi, hs, sizeOf]
theorem part_b (w : World) (a b c d e : Bool) (i : Nat) (hi : i < 5) : ∃ x, (part 4 #[.bool a, .bool b, .bool c, .bool d, .bool e] i).run Try.prog w = .ok (.bool x) w := by
  obtain ⟨j, hj, hs⟩ := Option.map_eq_some_iff.1 sizes_ag.2.1
  have hc : i = 0 ∨ i = 1 ∨ i = 2 ∨ i = 3 ∨ i = 4 := by omega
  rcases hc with rfl | rfl | rfl | rfl | rfl <;> simp [part, typeInfo, hj, hs, sizeOf]
theorem part_i (w : World) (a b c d e : Int) (i : Nat) (hi : i < 5) : ∃ x, (part 2 #[.int .i64 a, .int .i64 b, .int .i64 c, .int .i64 d, .int .i64 e] i).run Try.prog w = .ok (.int .i64 x) w := by
  obtain ⟨j, hj, hs⟩ := Option.map_eq_some_iff.1 sizes_ag.1
  have hc : i = 0 ∨ i = 1 ∨ i = 2 ∨ i = 3 ∨ i = 4 := by omega
  rcases hc with rfl | rfl | rfl | rfl | rfl <;> simp [part, typeInfo, hj, hs, sizeOf]
theorem size_b (w : World) : (sizeOf 4).run Try.prog w = .ok 1 w := by
  obtain ⟨j, hj, hs⟩ := Option.map_eq_some_iff.1 sizes_ag.2.1
  simp [sizeOf, typeInfo, hj, hs]
theorem size_i (w : World) : (sizeOf 2).run Try.prog w = .ok 1 w := by
  obtain ⟨j, hj, hs⟩ := Option.map_eq_some_iff.1 sizes_ag.1
  simp [sizeOf, typeInfo, hj, hs]
theorem eq_same_h (w : World) (a b c d e : Bool) (n : Nat) : (Op.equalIn (n + 2) 69 (.agg #[.bool a, .bool b, .bool c, .bool d, .bool e]) (.agg #[.bool a, .bool b, .bool c, .bool d, .bool e])).run Try.prog w = .ok true w := by
  unfold Op.equalIn
  obtain ⟨x0, h0⟩ := part_b w a b c d e 0 (by decide)
  obtain ⟨x1, h1⟩ := part_b w a b c d e 1 (by decide)
  obtain ⟨x2, h2⟩ := part_b w a b c d e 2 (by decide)
  obtain ⟨x3, h3⟩ := part_b w a b c d e 3 (by decide)
  obtain ⟨x4, h4⟩ := part_b w a b c d e 4 (by decide)
  have hq := fun x => run_equalIn_bool' (P := Try.prog) w n 4 x x Try.underlying4
  simp [run_underlying Try.underlying69, show List.range' 0 5 = [0, 1, 2, 3, 4] from rfl, h0, h1, h2, h3, h4, hq]
theorem eq_same_v (w : World) (a b c d e : Int) (n : Nat) : (Op.equalIn (n + 2) 70 (.agg #[.int .i64 a, .int .i64 b, .int .i64 c, .int .i64 d, .int .i64 e]) (.agg #[.int .i64 a, .int .i64 b, .int .i64 c, .int .i64 d, .int .i64 e])).run Try.prog w = .ok true w := by
  unfold Op.equalIn
  obtain ⟨x0, h0⟩ := part_i w a b c d e 0 (by decide)
  obtain ⟨x1, h1⟩ := part_i w a b c d e 1 (by decide)
  obtain ⟨x2, h2⟩ := part_i w a b c d e 2 (by decide)
  obtain ⟨x3, h3⟩ := part_i w a b c d e 3 (by decide)
  obtain ⟨x4, h4⟩ := part_i w a b c d e 4 (by decide)
  have hq := fun x => run_equalIn_int (P := Try.prog) w n 2 .i64 .i64 x x Try.underlying2
  simp [run_underlying Try.underlying70, show List.range' 0 5 = [0, 1, 2, 3, 4] from rfl, h0, h1, h2, h3, h4, hq]
theorem eq_same (w : World) (h : Nat → Bool) (v : Nat → Int) : (Op.equalIn 10000 72 (AG h v) (AG h v)).run Try.prog w = .ok true w := by
  unfold AG
  unfold Op.equalIn
  simp [run_underlying Try.underlying72, part_h, part_v, eq_same_h, eq_same_v]
theorem run_neqAG (w : World) (h : Nat → Bool) (v : Nat → Int) : (binOp .neq 72 (AG h v) (AG h v)).run Try.prog w = .ok (.bool false) w := by
  have := eq_same w h v
  unfold AG at *
  rw [run_neq_struct, this]
  rfl
theorem run_eqlAG (w : World) (h : Nat → Bool) (v : Nat → Int) : (binOp .eql 72 (AG h v) (AG h v)).run Try.prog w = .ok (.bool true) w := by
  have := eq_same w h v
  unfold AG at *
  rw [run_eql_struct, this]
  rfl
theorem run_guardAG (op : BinOp) (w : World) (x y : Operand) (h : Nat → Bool) (v : Nat → Int) : (eqGuard op 72 x y (AG h v) (AG h v)).run Try.prog w = .ok () w := by
  unfold AG
  exact run_eqGuard_agg w op 72 x y _ _ (by kernel_rfl)
end Go.Proofs.Ytnijacbfcffnpaa
end
