/- agg.known, agg.join and the document's join at any values. -/
import Derived.Test.YtmgjlamglhpnaaaGreatProg
import Derived.Test.YtmgjlamglhpnaaaGreatCbCombM
import Derived.Test.YtmgjlamglhpnaaaGreatNumM
import Derived.Handy
import Derived.Laws.StructEq
import Derived.Test.YtmgjlamglhpnaaaGreatGrDataM
import Derived.BigQuiet
import Derived.Deep.DeepCutAuto
import Derived.Deep.RegionHeld3
import Derived.Deep.Cut
import Derived.Test.YtmgjlamglhpnaaaGreatJbMM
namespace Go.Proofs.YtmgjlamglhpnaaaGreat
set_option maxRecDepth 100000
open Go.RowKit
theorem ret_b {a b : Bool} (h : a = b) : Ending.returned (.bool a) = .returned (.bool b) := by rw [h]
theorem known_in (k : Int) (w : World) (h : 0 ≤ k) (h' : k ≤ 4) : Calls Tryz.prog 134 #[.int .i64 k] w fun e w' => e = .returned (.bool true) ∧ w' = w := by
 go_enter Tryz.func134, Tryz.ntmps134
 go_wp2
 all_goals first | (exfalso; omega) | (go_ret; exact ⟨ret_b (by simp; omega), rfl⟩)
theorem known_out (k : Int) (w : World) (h : ¬ (0 ≤ k ∧ k ≤ 4)) : Calls Tryz.prog 134 #[.int .i64 k] w fun e w' => e = .returned (.bool false) ∧ w' = w := by
 go_enter Tryz.func134, Tryz.ntmps134
 go_wp2
 all_goals first | (exfalso; omega) | (go_ret; exact ⟨ret_b (by first | rfl | (simp; omega)), rfl⟩)
def andI (a b : Int) : Int := IntKind.i64.wrap ((BitVec.ofInt IntKind.i64.bits a &&& BitVec.ofInt IntKind.i64.bits b).toNat : Int)
def orI (a b : Int) : Int := IntKind.i64.wrap ((BitVec.ofInt IntKind.i64.bits a ||| BitVec.ofInt IntKind.i64.bits b).toNat : Int)
def jv (k : Nat) (a b : Int) : Int :=
 match k with
 | 0 => hv (a + b)
 | 1 => if b < a then b else a
 | 2 => if a < b then b else a
 | 3 => andI a b
 | _ => orI a b
def je (k : Nat) (a b : Int) : Int := if k = 0 then he (a + b) else 0
theorem ret2e {a b a' b' : Int} (h : a = a') (h' : b = b') : Ending.returned (.tuple #[.int .i64 a, .int .i64 b]) = .returned (.tuple #[.int .i64 a', .int .i64 b']) := by rw [h, h']
theorem ajoin_any (k : Nat) (a b : Int) (w : World) (hk : k ≤ 4) (ha : -9223372036854775808 ≤ a) (ha' : a ≤ 9223372036854775807) (hb : -9223372036854775808 ≤ b) (hb' : b ≤ 9223372036854775807) :
  Calls Tryz.prog 135 #[.int .i64 (k : Int), .int .i64 a, .int .i64 b] w fun e w' => e = .returned (.tuple #[.int .i64 (jv k a b), .int .i64 (je k a b)]) ∧ w' = w := by
 have hc : k = 0 ∨ k = 1 ∨ k = 2 ∨ k = 3 ∨ k = 4 := by omega
 rcases hc with rfl | rfl | rfl | rfl | rfl
 ·go_enter Tryz.func135, Tryz.ntmps135
  go_wp2
  all_goals go_ret2
  all_goals exact ⟨ret2e (by show _ = hv (a + b); unfold hv; split <;> omega) (by show _ = he (a + b); unfold he; split <;> omega), rfl⟩
 ·go_enter Tryz.func135, Tryz.ntmps135
  go_wp2
  all_goals go_ret2
  all_goals exact ⟨ret2e (by simp only [jv]; split <;> omega) rfl, rfl⟩
 ·go_enter Tryz.func135, Tryz.ntmps135
  go_wp2
  all_goals go_ret2
  all_goals exact ⟨ret2e (by simp only [jv]; split <;> omega) rfl, rfl⟩
 ·go_enter Tryz.func135, Tryz.ntmps135
  go_wp2
  go_ret2
  exact ⟨rfl, rfl⟩
 ·go_enter Tryz.func135, Tryz.ntmps135
  go_wp2
  go_ret2
  exact ⟨rfl, rfl⟩
def AG (h : Nat → Bool) (v : Nat → Int) : Value := .agg #[.bool (h 0), .bool (h 1), .bool (h 2), .bool (h 3), .bool (h 4), .int .i64 (v 0), .int .i64 (v 1), .int .i64 (v 2), .int .i64 (v 3), .int .i64 (v 4)]
def updA {α : Type} (f : Nat → α) (k : Nat) (a : α) : Nat → α := fun i => if i = k then a else f i
theorem add_out (h : Nat → Bool) (v : Nat → Int) (k x : Int) (w : World) (hk : ¬ (0 ≤ k ∧ k ≤ 4)) :
  Calls Tryz.prog 113 #[AG h v, .int .i64 k, .int .i64 x] w fun e w' => e = .returned (.tuple #[AG h v, .int .i64 1]) ∧ Below w.heap.size w w' := by
 unfold AG
 go_enter Tryz.func113, Tryz.ntmps113
 go_wp2_with (go_at_call 134; refine (known_out k _ hk).mono ?_; rintro e w1 ⟨rfl, rfl⟩)
 all_goals go_returns
 all_goals exact ⟨rfl, by go_grown⟩
theorem add_new0 (h : Nat → Bool) (v : Nat → Int) (x : Int) (w : World) (hh : h 0 = false) :
  Calls Tryz.prog 113 #[AG h v, .int .i64 0, .int .i64 x] w fun e w' => e = .returned (.tuple #[AG (updA h 0 true) (updA v 0 x), .int .i64 0]) ∧ Below w.heap.size w w' := by
 unfold AG
 go_enter Tryz.func113, Tryz.ntmps113
 go_wp2_with (first | (go_at_call 134; refine (known_in _ _ (by decide) (by decide)).mono ?_; rintro e w1 ⟨rfl, rfl⟩) | fail)
 go_returns
 exact ⟨rfl, by go_grown⟩
theorem add_old0 (h : Nat → Bool) (v : Nat → Int) (x n : Int) (w : World) (hh : h 0 = true)
  (hj : ∀ w, Calls Tryz.prog 135 #[.int .i64 0, .int .i64 (v 0), .int .i64 x] w fun e w' => e = .returned (.tuple #[.int .i64 n, .int .i64 0]) ∧ w' = w) :
  Calls Tryz.prog 113 #[AG h v, .int .i64 0, .int .i64 x] w fun e w' => e = .returned (.tuple #[AG (updA h 0 true) (updA v 0 n), .int .i64 0]) ∧ Below w.heap.size w w' := by
 unfold AG
 go_enter Tryz.func113, Tryz.ntmps113
 go_wp2_with (first | (go_at_call 134; refine (known_in _ _ (by decide) (by decide)).mono ?_; rintro e w1 ⟨rfl, rfl⟩) | (go_at_call 135; refine (hj _).mono ?_; rintro e w1 ⟨rfl, rfl⟩))
 go_returns
 exact ⟨rfl, by go_grown⟩
theorem add_new1 (h : Nat → Bool) (v : Nat → Int) (x : Int) (w : World) (hh : h 1 = false) :
  Calls Tryz.prog 113 #[AG h v, .int .i64 1, .int .i64 x] w fun e w' => e = .returned (.tuple #[AG (updA h 1 true) (updA v 1 x), .int .i64 0]) ∧ Below w.heap.size w w' := by
 unfold AG
 go_enter Tryz.func113, Tryz.ntmps113
 go_wp2_with (first | (go_at_call 134; refine (known_in _ _ (by decide) (by decide)).mono ?_; rintro e w1 ⟨rfl, rfl⟩) | fail)
 go_returns
 exact ⟨rfl, by go_grown⟩
theorem add_old1 (h : Nat → Bool) (v : Nat → Int) (x n : Int) (w : World) (hh : h 1 = true)
  (hj : ∀ w, Calls Tryz.prog 135 #[.int .i64 1, .int .i64 (v 1), .int .i64 x] w fun e w' => e = .returned (.tuple #[.int .i64 n, .int .i64 0]) ∧ w' = w) :
  Calls Tryz.prog 113 #[AG h v, .int .i64 1, .int .i64 x] w fun e w' => e = .returned (.tuple #[AG (updA h 1 true) (updA v 1 n), .int .i64 0]) ∧ Below w.heap.size w w' := by
 unfold AG
 go_enter Tryz.func113, Tryz.ntmps113
 go_wp2_with (first | (go_at_call 134; refine (known_in _ _ (by decide) (by decide)).mono ?_; rintro e w1 ⟨rfl, rfl⟩) | (go_at_call 135; refine (hj _).mono ?_; rintro e w1 ⟨rfl, rfl⟩))
 go_returns
 exact ⟨rfl, by go_grown⟩
theorem add_new2 (h : Nat → Bool) (v : Nat → Int) (x : Int) (w : World) (hh : h 2 = false) :
  Calls Tryz.prog 113 #[AG h v, .int .i64 2, .int .i64 x] w fun e w' => e = .returned (.tuple #[AG (updA h 2 true) (updA v 2 x), .int .i64 0]) ∧ Below w.heap.size w w' := by
 unfold AG
 go_enter Tryz.func113, Tryz.ntmps113
 go_wp2_with (first | (go_at_call 134; refine (known_in _ _ (by decide) (by decide)).mono ?_; rintro e w1 ⟨rfl, rfl⟩) | fail)
 go_returns
 exact ⟨rfl, by go_grown⟩
theorem add_old2 (h : Nat → Bool) (v : Nat → Int) (x n : Int) (w : World) (hh : h 2 = true)
  (hj : ∀ w, Calls Tryz.prog 135 #[.int .i64 2, .int .i64 (v 2), .int .i64 x] w fun e w' => e = .returned (.tuple #[.int .i64 n, .int .i64 0]) ∧ w' = w) :
  Calls Tryz.prog 113 #[AG h v, .int .i64 2, .int .i64 x] w fun e w' => e = .returned (.tuple #[AG (updA h 2 true) (updA v 2 n), .int .i64 0]) ∧ Below w.heap.size w w' := by
 unfold AG
 go_enter Tryz.func113, Tryz.ntmps113
 go_wp2_with (first | (go_at_call 134; refine (known_in _ _ (by decide) (by decide)).mono ?_; rintro e w1 ⟨rfl, rfl⟩) | (go_at_call 135; refine (hj _).mono ?_; rintro e w1 ⟨rfl, rfl⟩))
 go_returns
 exact ⟨rfl, by go_grown⟩
theorem add_new3 (h : Nat → Bool) (v : Nat → Int) (x : Int) (w : World) (hh : h 3 = false) :
  Calls Tryz.prog 113 #[AG h v, .int .i64 3, .int .i64 x] w fun e w' => e = .returned (.tuple #[AG (updA h 3 true) (updA v 3 x), .int .i64 0]) ∧ Below w.heap.size w w' := by
 unfold AG
 go_enter Tryz.func113, Tryz.ntmps113
 go_wp2_with (first | (go_at_call 134; refine (known_in _ _ (by decide) (by decide)).mono ?_; rintro e w1 ⟨rfl, rfl⟩) | fail)
 go_returns
 exact ⟨rfl, by go_grown⟩
theorem add_old3 (h : Nat → Bool) (v : Nat → Int) (x n : Int) (w : World) (hh : h 3 = true)
  (hj : ∀ w, Calls Tryz.prog 135 #[.int .i64 3, .int .i64 (v 3), .int .i64 x] w fun e w' => e = .returned (.tuple #[.int .i64 n, .int .i64 0]) ∧ w' = w) :
  Calls Tryz.prog 113 #[AG h v, .int .i64 3, .int .i64 x] w fun e w' => e = .returned (.tuple #[AG (updA h 3 true) (updA v 3 n), .int .i64 0]) ∧ Below w.heap.size w w' := by
 unfold AG
 go_enter Tryz.func113, Tryz.ntmps113
 go_wp2_with (first | (go_at_call 134; refine (known_in _ _ (by decide) (by decide)).mono ?_; rintro e w1 ⟨rfl, rfl⟩) | (go_at_call 135; refine (hj _).mono ?_; rintro e w1 ⟨rfl, rfl⟩))
 go_returns
 exact ⟨rfl, by go_grown⟩
theorem add_new4 (h : Nat → Bool) (v : Nat → Int) (x : Int) (w : World) (hh : h 4 = false) :
  Calls Tryz.prog 113 #[AG h v, .int .i64 4, .int .i64 x] w fun e w' => e = .returned (.tuple #[AG (updA h 4 true) (updA v 4 x), .int .i64 0]) ∧ Below w.heap.size w w' := by
 unfold AG
 go_enter Tryz.func113, Tryz.ntmps113
 go_wp2_with (first | (go_at_call 134; refine (known_in _ _ (by decide) (by decide)).mono ?_; rintro e w1 ⟨rfl, rfl⟩) | fail)
 go_returns
 exact ⟨rfl, by go_grown⟩
theorem add_old4 (h : Nat → Bool) (v : Nat → Int) (x n : Int) (w : World) (hh : h 4 = true)
  (hj : ∀ w, Calls Tryz.prog 135 #[.int .i64 4, .int .i64 (v 4), .int .i64 x] w fun e w' => e = .returned (.tuple #[.int .i64 n, .int .i64 0]) ∧ w' = w) :
  Calls Tryz.prog 113 #[AG h v, .int .i64 4, .int .i64 x] w fun e w' => e = .returned (.tuple #[AG (updA h 4 true) (updA v 4 n), .int .i64 0]) ∧ Below w.heap.size w w' := by
 unfold AG
 go_enter Tryz.func113, Tryz.ntmps113
 go_wp2_with (first | (go_at_call 134; refine (known_in _ _ (by decide) (by decide)).mono ?_; rintro e w1 ⟨rfl, rfl⟩) | (go_at_call 135; refine (hj _).mono ?_; rintro e w1 ⟨rfl, rfl⟩))
 go_returns
 exact ⟨rfl, by go_grown⟩
theorem add_no0 (h : Nat → Bool) (v : Nat → Int) (x n : Int) (w : World) (hh : h 0 = true)
  (hj : ∀ w, Calls Tryz.prog 135 #[.int .i64 0, .int .i64 (v 0), .int .i64 x] w fun e w' => e = .returned (.tuple #[.int .i64 n, .int .i64 20]) ∧ w' = w) :
  Calls Tryz.prog 113 #[AG h v, .int .i64 0, .int .i64 x] w fun e w' => e = .returned (.tuple #[AG h v, .int .i64 20]) ∧ Below w.heap.size w w' := by
 unfold AG
 go_enter Tryz.func113, Tryz.ntmps113
 go_wp2_with (first | (go_at_call 134; refine (known_in _ _ (by decide) (by decide)).mono ?_; rintro e w1 ⟨rfl, rfl⟩) | (go_at_call 135; refine (hj _).mono ?_; rintro e w1 ⟨rfl, rfl⟩))
 go_returns
 exact ⟨by rw [hh], by go_grown⟩
def oh (o : Nat → Option Int) (i : Nat) : Bool := (o i).isSome
def ov (o : Nat → Option Int) (i : Nat) : Int := (o i).getD 0
def AO (o : Nat → Option Int) : Value := AG (oh o) (ov o)
def addO (o : Nat → Option Int) (k x : Int) : Nat → Option Int :=
 if 0 ≤ k ∧ k ≤ 4 then
  match o k.toNat with
  | none => updA o k.toNat (some x)
  | some y => if je k.toNat y x = 0 then updA o k.toNat (some (jv k.toNat y x)) else o
 else o
def addE (o : Nat → Option Int) (k x : Int) : Int :=
 if 0 ≤ k ∧ k ≤ 4 then
  match o k.toNat with
  | none => 0
  | some y => je k.toNat y x
 else 1
def I6 (x : Int) : Prop := -9223372036854775808 ≤ x ∧ x ≤ 9223372036854775807
def OkO (o : Nat → Option Int) : Prop := ∀ i y, o i = some y → I6 y
theorem wrap_bd (n : Int) : -9223372036854775808 ≤ IntKind.i64.wrap n ∧ IntKind.i64.wrap n ≤ 9223372036854775807 := by
 rw [IntKind.wrap_i64]
 try unfold wrap64
 omega
theorem jv_bd {k : Nat} {a b : Int} (ha : I6 a) (hb : I6 b) : I6 (jv k a b) := by
 unfold I6 at *
 unfold jv
 split
 ·exact hv_bd _
 ·split <;> assumption
 ·split <;> assumption
 ·exact wrap_bd _
 ·exact wrap_bd _
theorem updA_at {α : Type} (f : Nat → α) (k : Nat) (a : α) : updA f k a k = a := if_pos rfl
theorem updA_ne {α : Type} (f : Nat → α) {k i : Nat} (a : α) (h : i ≠ k) : updA f k a i = f i := if_neg h
theorem OkO.updA {o : Nat → Option Int} (h : OkO o) (k : Nat) {x : Int} (hx : I6 x) : OkO (updA o k (some x)) := by
 intro i y e
 by_cases hi : i = k
 ·subst hi; rw [updA_at] at e; cases e; exact hx
 ·rw [updA_ne _ _ hi] at e; exact h i y e
theorem OkO.add {o : Nat → Option Int} (h : OkO o) (k : Int) {x : Int} (hx : I6 x) : OkO (addO o k x) := by
 unfold addO
 split
 ·split
  ·exact h.updA _ hx
  ·rename_i y e
   split
   ·exact h.updA _ (jv_bd (h _ _ e) hx)
   ·exact h
 ·exact h
theorem OkO.none : OkO (fun _ => none) := fun _ _ e => by cases e
theorem je_cases (k : Nat) (a b : Int) : je k a b = 0 ∨ k = 0 ∧ je k a b = 20 := by
 unfold je
 split
 ·rcases he_cases (a + b) with h | h
  ·exact .inl h.1
  ·exact .inr ⟨by assumption, h.1⟩
 ·exact .inl rfl
theorem oh_upd (o : Nat → Option Int) (k : Nat) (x : Int) : updA (oh o) k true = oh (updA o k (some x)) := by
 funext i
 unfold oh updA
 split <;> rfl
theorem ov_upd (o : Nat → Option Int) (k : Nat) (x : Int) : updA (ov o) k x = ov (updA o k (some x)) := by
 funext i
 unfold ov updA
 split <;> rfl
theorem AO_upd (o : Nat → Option Int) (k : Nat) (x : Int) : AG (updA (oh o) k true) (updA (ov o) k x) = AO (updA o k (some x)) := by
 rw [oh_upd o k x, ov_upd]; rfl
theorem addO_out {o : Nat → Option Int} {k x : Int} (h : ¬ (0 ≤ k ∧ k ≤ 4)) : addO o k x = o ∧ addE o k x = 1 := ⟨if_neg h, if_neg h⟩
theorem addO_new {o : Nat → Option Int} {k : Nat} {x : Int} (hk : k ≤ 4) (h : o k = none) : addO o k x = updA o k (some x) ∧ addE o k x = 0 := by
 unfold addO addE
 rw [if_pos (by omega), if_pos (by omega), Int.toNat_natCast]
 simp only [h]
 exact ⟨by first | rfl | trivial, by first | rfl | trivial⟩
theorem addO_old {o : Nat → Option Int} {k : Nat} {x y : Int} (hk : k ≤ 4) (h : o k = some y) (hj : je k y x = 0) : addO o k x = updA o k (some (jv k y x)) ∧ addE o k x = 0 := by
 unfold addO addE
 rw [if_pos (by omega), if_pos (by omega), Int.toNat_natCast]
 simp only [h, hj]
 exact ⟨by first | rfl | trivial, by first | rfl | trivial⟩
theorem addO_no {o : Nat → Option Int} {k : Nat} {x y e : Int} (hk : k ≤ 4) (h : o k = some y) (hj : je k y x = e) (he : e ≠ 0) : addO o k x = o ∧ addE o k x = e := by
 unfold addO addE
 rw [if_pos (by omega), if_pos (by omega), Int.toNat_natCast]
 simp only [h, hj]
 exact ⟨if_neg he, trivial⟩
theorem oh_some {o : Nat → Option Int} {k : Nat} {y : Int} (h : o k = some y) : oh o k = true := by unfold oh; rw [h]; rfl
theorem ov_some {o : Nat → Option Int} {k : Nat} {y : Int} (h : o k = some y) : ov o k = y := by unfold ov; rw [h]; rfl
theorem oh_none {o : Nat → Option Int} {k : Nat} (h : o k = none) : oh o k = false := by unfold oh; rw [h]; rfl
theorem ends_new {o : Nat → Option Int} {k : Nat} {x : Int} (hk : k ≤ 4) (h : o k = none) : Ending.returned (.tuple #[AG (updA (oh o) k true) (updA (ov o) k x), .int .i64 0]) = .returned (.tuple #[AO (addO o k x), .int .i64 (addE o k x)]) := by
 rw [(addO_new hk h).1, (addO_new hk h).2, AO_upd]
theorem ends_old {o : Nat → Option Int} {k : Nat} {x y : Int} (hk : k ≤ 4) (h : o k = some y) (hj : je k y x = 0) : Ending.returned (.tuple #[AG (updA (oh o) k true) (updA (ov o) k (jv k y x)), .int .i64 0]) = .returned (.tuple #[AO (addO o k x), .int .i64 (addE o k x)]) := by
 rw [(addO_old hk h hj).1, (addO_old hk h hj).2, AO_upd]
theorem ends_no {o : Nat → Option Int} {k : Nat} {x y e : Int} (hk : k ≤ 4) (h : o k = some y) (hj : je k y x = e) (he : e ≠ 0) : Ending.returned (.tuple #[AG (oh o) (ov o), .int .i64 e]) = .returned (.tuple #[AO (addO o k x), .int .i64 (addE o k x)]) := by
 rw [(addO_no hk h hj he).1, (addO_no hk h hj he).2]; rfl
theorem kind5 {k : Int} (h : 0 ≤ k ∧ k ≤ 4) : k = ((0 : Nat) : Int) ∨ k = ((1 : Nat) : Int) ∨ k = ((2 : Nat) : Int) ∨ k = ((3 : Nat) : Int) ∨ k = ((4 : Nat) : Int) := by omega
theorem aAdd_any (o : Nat → Option Int) (k x : Int) (w : World) (ho : OkO o) (hx : I6 x) :
  Calls Tryz.prog 113 #[AO o, .int .i64 k, .int .i64 x] w fun e w' => e = .returned (.tuple #[AO (addO o k x), .int .i64 (addE o k x)]) ∧ Below w.heap.size w w' := by
 by_cases hk : 0 ≤ k ∧ k ≤ 4
 ·have H : ∀ (n : Nat), n ≤ 4 → ∀ y, o n = some y → ∀ w, Calls Tryz.prog 135 #[.int .i64 (n : Int), .int .i64 (ov o n), .int .i64 x] w fun e w' => e = .returned (.tuple #[.int .i64 (jv n y x), .int .i64 (je n y x)]) ∧ w' = w := fun n hn y hy w => by
   rw [ov_some hy]; exact ajoin_any n y x w hn (ho n y hy).1 (ho n y hy).2 hx.1 hx.2
  rcases kind5 hk with rfl | rfl | rfl | rfl | rfl
  ·cases e : o 0 with
   | none => exact (add_new0 (oh o) (ov o) x w (oh_none e)).mono fun e' w' h => ⟨h.1.trans (ends_new (by decide) e), h.2⟩
   | some y =>
    have HJ := H 0 (by decide) y e
    rcases je_cases 0 y x with hj | ⟨hk0, hj⟩
    ·rw [hj] at HJ
     exact (add_old0 (oh o) (ov o) x (jv 0 y x) w (oh_some e) HJ).mono fun e' w' h => ⟨h.1.trans (ends_old (by decide) e hj), h.2⟩
    ·rw [hj] at HJ
     exact (add_no0 (oh o) (ov o) x (jv 0 y x) w (oh_some e) HJ).mono fun e' w' h => ⟨h.1.trans (ends_no (by decide) e hj (by decide)), h.2⟩
  ·cases e : o 1 with
   | none => exact (add_new1 (oh o) (ov o) x w (oh_none e)).mono fun e' w' h => ⟨h.1.trans (ends_new (by decide) e), h.2⟩
   | some y =>
    have HJ := H 1 (by decide) y e
    rcases je_cases 1 y x with hj | ⟨hk0, hj⟩
    ·rw [hj] at HJ
     exact (add_old1 (oh o) (ov o) x (jv 1 y x) w (oh_some e) HJ).mono fun e' w' h => ⟨h.1.trans (ends_old (by decide) e hj), h.2⟩
    ·exact absurd hk0 (by decide)
  ·cases e : o 2 with
   | none => exact (add_new2 (oh o) (ov o) x w (oh_none e)).mono fun e' w' h => ⟨h.1.trans (ends_new (by decide) e), h.2⟩
   | some y =>
    have HJ := H 2 (by decide) y e
    rcases je_cases 2 y x with hj | ⟨hk0, hj⟩
    ·rw [hj] at HJ
     exact (add_old2 (oh o) (ov o) x (jv 2 y x) w (oh_some e) HJ).mono fun e' w' h => ⟨h.1.trans (ends_old (by decide) e hj), h.2⟩
    ·exact absurd hk0 (by decide)
  ·cases e : o 3 with
   | none => exact (add_new3 (oh o) (ov o) x w (oh_none e)).mono fun e' w' h => ⟨h.1.trans (ends_new (by decide) e), h.2⟩
   | some y =>
    have HJ := H 3 (by decide) y e
    rcases je_cases 3 y x with hj | ⟨hk0, hj⟩
    ·rw [hj] at HJ
     exact (add_old3 (oh o) (ov o) x (jv 3 y x) w (oh_some e) HJ).mono fun e' w' h => ⟨h.1.trans (ends_old (by decide) e hj), h.2⟩
    ·exact absurd hk0 (by decide)
  ·cases e : o 4 with
   | none => exact (add_new4 (oh o) (ov o) x w (oh_none e)).mono fun e' w' h => ⟨h.1.trans (ends_new (by decide) e), h.2⟩
   | some y =>
    have HJ := H 4 (by decide) y e
    rcases je_cases 4 y x with hj | ⟨hk0, hj⟩
    ·rw [hj] at HJ
     exact (add_old4 (oh o) (ov o) x (jv 4 y x) w (oh_some e) HJ).mono fun e' w' h => ⟨h.1.trans (ends_old (by decide) e hj), h.2⟩
    ·exact absurd hk0 (by decide)
 ·exact (add_out (oh o) (ov o) k x w hk).mono fun e w' h => ⟨h.1.trans (by rw [(addO_out hk).1, (addO_out hk).2]; rfl), h.2⟩
theorem get_out (h : Nat → Bool) (v : Nat → Int) (k : Int) (w : World) (hk : ¬ (0 ≤ k ∧ k ≤ 4)) :
  Calls Tryz.prog 112 #[AG h v, .int .i64 k] w fun e w' => e = .returned (.tuple #[.int .i64 0, .bool false]) ∧ Below w.heap.size w w' := by
 have hu : undef = Value.tuple #[] := rfl
 unfold AG
 go_enter Tryz.func112, Tryz.ntmps112
 go_wp2_with (go_at_call 134; refine (known_out k _ hk).mono ?_; rintro e w1 ⟨rfl, rfl⟩)
 go_returns
 exact ⟨rfl, by go_grown⟩
theorem get_yes0 (h : Nat → Bool) (v : Nat → Int) (w : World) (hh : h 0 = true) :
  Calls Tryz.prog 112 #[AG h v, .int .i64 0] w fun e w' => e = .returned (.tuple #[.int .i64 (v 0), .bool true]) ∧ Below w.heap.size w w' := by
 unfold AG
 go_enter Tryz.func112, Tryz.ntmps112
 go_wp2_with (go_at_call 134; refine (known_in _ _ (by decide) (by decide)).mono ?_; rintro e w1 ⟨rfl, rfl⟩)
 go_returns
 exact ⟨rfl, by go_grown⟩
theorem get_no0 (h : Nat → Bool) (v : Nat → Int) (w : World) (hh : h 0 = false) :
  Calls Tryz.prog 112 #[AG h v, .int .i64 0] w fun e w' => e = .returned (.tuple #[.int .i64 0, .bool false]) ∧ Below w.heap.size w w' := by
 unfold AG
 go_enter Tryz.func112, Tryz.ntmps112
 go_wp2_with (go_at_call 134; refine (known_in _ _ (by decide) (by decide)).mono ?_; rintro e w1 ⟨rfl, rfl⟩)
 go_returns
 exact ⟨rfl, by go_grown⟩
theorem get_yes1 (h : Nat → Bool) (v : Nat → Int) (w : World) (hh : h 1 = true) :
  Calls Tryz.prog 112 #[AG h v, .int .i64 1] w fun e w' => e = .returned (.tuple #[.int .i64 (v 1), .bool true]) ∧ Below w.heap.size w w' := by
 unfold AG
 go_enter Tryz.func112, Tryz.ntmps112
 go_wp2_with (go_at_call 134; refine (known_in _ _ (by decide) (by decide)).mono ?_; rintro e w1 ⟨rfl, rfl⟩)
 go_returns
 exact ⟨rfl, by go_grown⟩
theorem get_no1 (h : Nat → Bool) (v : Nat → Int) (w : World) (hh : h 1 = false) :
  Calls Tryz.prog 112 #[AG h v, .int .i64 1] w fun e w' => e = .returned (.tuple #[.int .i64 0, .bool false]) ∧ Below w.heap.size w w' := by
 unfold AG
 go_enter Tryz.func112, Tryz.ntmps112
 go_wp2_with (go_at_call 134; refine (known_in _ _ (by decide) (by decide)).mono ?_; rintro e w1 ⟨rfl, rfl⟩)
 go_returns
 exact ⟨rfl, by go_grown⟩
theorem get_yes2 (h : Nat → Bool) (v : Nat → Int) (w : World) (hh : h 2 = true) :
  Calls Tryz.prog 112 #[AG h v, .int .i64 2] w fun e w' => e = .returned (.tuple #[.int .i64 (v 2), .bool true]) ∧ Below w.heap.size w w' := by
 unfold AG
 go_enter Tryz.func112, Tryz.ntmps112
 go_wp2_with (go_at_call 134; refine (known_in _ _ (by decide) (by decide)).mono ?_; rintro e w1 ⟨rfl, rfl⟩)
 go_returns
 exact ⟨rfl, by go_grown⟩
theorem get_no2 (h : Nat → Bool) (v : Nat → Int) (w : World) (hh : h 2 = false) :
  Calls Tryz.prog 112 #[AG h v, .int .i64 2] w fun e w' => e = .returned (.tuple #[.int .i64 0, .bool false]) ∧ Below w.heap.size w w' := by
 unfold AG
 go_enter Tryz.func112, Tryz.ntmps112
 go_wp2_with (go_at_call 134; refine (known_in _ _ (by decide) (by decide)).mono ?_; rintro e w1 ⟨rfl, rfl⟩)
 go_returns
 exact ⟨rfl, by go_grown⟩
theorem get_yes3 (h : Nat → Bool) (v : Nat → Int) (w : World) (hh : h 3 = true) :
  Calls Tryz.prog 112 #[AG h v, .int .i64 3] w fun e w' => e = .returned (.tuple #[.int .i64 (v 3), .bool true]) ∧ Below w.heap.size w w' := by
 unfold AG
 go_enter Tryz.func112, Tryz.ntmps112
 go_wp2_with (go_at_call 134; refine (known_in _ _ (by decide) (by decide)).mono ?_; rintro e w1 ⟨rfl, rfl⟩)
 go_returns
 exact ⟨rfl, by go_grown⟩
theorem get_no3 (h : Nat → Bool) (v : Nat → Int) (w : World) (hh : h 3 = false) :
  Calls Tryz.prog 112 #[AG h v, .int .i64 3] w fun e w' => e = .returned (.tuple #[.int .i64 0, .bool false]) ∧ Below w.heap.size w w' := by
 unfold AG
 go_enter Tryz.func112, Tryz.ntmps112
 go_wp2_with (go_at_call 134; refine (known_in _ _ (by decide) (by decide)).mono ?_; rintro e w1 ⟨rfl, rfl⟩)
 go_returns
 exact ⟨rfl, by go_grown⟩
theorem get_yes4 (h : Nat → Bool) (v : Nat → Int) (w : World) (hh : h 4 = true) :
  Calls Tryz.prog 112 #[AG h v, .int .i64 4] w fun e w' => e = .returned (.tuple #[.int .i64 (v 4), .bool true]) ∧ Below w.heap.size w w' := by
 unfold AG
 go_enter Tryz.func112, Tryz.ntmps112
 go_wp2_with (go_at_call 134; refine (known_in _ _ (by decide) (by decide)).mono ?_; rintro e w1 ⟨rfl, rfl⟩)
 go_returns
 exact ⟨rfl, by go_grown⟩
theorem get_no4 (h : Nat → Bool) (v : Nat → Int) (w : World) (hh : h 4 = false) :
  Calls Tryz.prog 112 #[AG h v, .int .i64 4] w fun e w' => e = .returned (.tuple #[.int .i64 0, .bool false]) ∧ Below w.heap.size w w' := by
 unfold AG
 go_enter Tryz.func112, Tryz.ntmps112
 go_wp2_with (go_at_call 134; refine (known_in _ _ (by decide) (by decide)).mono ?_; rintro e w1 ⟨rfl, rfl⟩)
 go_returns
 exact ⟨rfl, by go_grown⟩
def getO (o : Nat → Option Int) (k : Int) : Option Int := if 0 ≤ k ∧ k ≤ 4 then o k.toNat else none
theorem getO_out {o : Nat → Option Int} {k : Int} (h : ¬ (0 ≤ k ∧ k ≤ 4)) : getO o k = none := if_neg h
theorem getO_in {o : Nat → Option Int} {k : Nat} (h : k ≤ 4) : getO o (k : Int) = o k := by
 unfold getO
 rw [if_pos (by omega), Int.toNat_natCast]
theorem get_any (o : Nat → Option Int) (k : Int) (w : World) :
  Calls Tryz.prog 112 #[AO o, .int .i64 k] w fun e w' => e = .returned (.tuple #[.int .i64 ((getO o k).getD 0), .bool (getO o k).isSome]) ∧ Below w.heap.size w w' := by
 by_cases hk : 0 ≤ k ∧ k ≤ 4
 ·rcases kind5 hk with rfl | rfl | rfl | rfl | rfl
  ·rw [getO_in (by decide)]
   cases e : o 0 with
   | none => exact get_no0 (oh o) (ov o) w (oh_none e)
   | some y => exact (get_yes0 (oh o) (ov o) w (oh_some e)).mono fun e' w' h => ⟨h.1.trans (by rw [ov_some e]; rfl), h.2⟩
  ·rw [getO_in (by decide)]
   cases e : o 1 with
   | none => exact get_no1 (oh o) (ov o) w (oh_none e)
   | some y => exact (get_yes1 (oh o) (ov o) w (oh_some e)).mono fun e' w' h => ⟨h.1.trans (by rw [ov_some e]; rfl), h.2⟩
  ·rw [getO_in (by decide)]
   cases e : o 2 with
   | none => exact get_no2 (oh o) (ov o) w (oh_none e)
   | some y => exact (get_yes2 (oh o) (ov o) w (oh_some e)).mono fun e' w' h => ⟨h.1.trans (by rw [ov_some e]; rfl), h.2⟩
  ·rw [getO_in (by decide)]
   cases e : o 3 with
   | none => exact get_no3 (oh o) (ov o) w (oh_none e)
   | some y => exact (get_yes3 (oh o) (ov o) w (oh_some e)).mono fun e' w' h => ⟨h.1.trans (by rw [ov_some e]; rfl), h.2⟩
  ·rw [getO_in (by decide)]
   cases e : o 4 with
   | none => exact get_no4 (oh o) (ov o) w (oh_none e)
   | some y => exact (get_yes4 (oh o) (ov o) w (oh_some e)).mono fun e' w' h => ⟨h.1.trans (by rw [ov_some e]; rfl), h.2⟩
 ·rw [getO_out hk]
  exact get_out (oh o) (ov o) k w hk
def AC (h : Nat → Bool) (v : Nat → Int) : Array Value := #[.bool (h 0), .bool (h 1), .bool (h 2), .bool (h 3), .bool (h 4), .int .i64 (v 0), .int .i64 (v 1), .int .i64 (v 2), .int .i64 (v 3), .int .i64 (v 4)]
def AOc (o : Nat → Option Int) : Array Value := AC (oh o) (ov o)
def zc : Array Value := #[.bool false, .bool false, .bool false, .bool false, .bool false, .int .i64 0, .int .i64 0, .int .i64 0, .int .i64 0, .int .i64 0]
theorem mblk10 {w : World} {g : Nat} {t : TypeId} {a0 a1 a2 a3 a4 a5 a6 a7 a8 a9 : Value} (h : w.heap[g]? = some (.cells #[a0, a1, a2, a3, a4, a5, a6, a7, a8, a9] t (0, 0))) :
  (w.cell? ⟨g, 0, none⟩ = some a0 ∧ w.cell? ⟨g, 1, none⟩ = some a1 ∧ w.cell? ⟨g, 2, none⟩ = some a2 ∧ w.cell? ⟨g, 3, none⟩ = some a3 ∧ w.cell? ⟨g, 4, none⟩ = some a4 ∧ w.cell? ⟨g, 5, none⟩ = some a5 ∧ w.cell? ⟨g, 6, none⟩ = some a6 ∧ w.cell? ⟨g, 7, none⟩ = some a7 ∧ w.cell? ⟨g, 8, none⟩ = some a8 ∧ w.cell? ⟨g, 9, none⟩ = some a9) := by
 simp [World.cell?, h]
theorem froz10 {w : World} {g : Nat} {t : TypeId} {c : Array Value} (h : w.heap[g]? = some (.cells c t (0, 0))) (o : Nat) : w.frozen? ⟨g, o, none⟩ = false := by simp [World.frozen?, h]
theorem blk_set0 {w : World} {g i : Nat} {cs : Array Value} {t : TypeId} (v : Value) (h : w.heap[g]? = some (.cells cs t (0, 0))) : (w.setCell ⟨g, i, none⟩ v).heap[g]? = some (.cells (cs.setIfInBounds i v) t (0, 0)) := by
 have hlt := lt_of_block h
 have h' : w.heap[g] = .cells cs t (0, 0) := by simpa [Array.getElem?_eq_getElem hlt] using h
 show (w.heap.modify g _)[g]? = _
 rw [Array.getElem?_eq_getElem (by simpa using hlt), Array.getElem_modify_self, h']
 rfl
theorem mset10 {w : World} {g : Nat} {t : TypeId} {a0 a1 a2 a3 a4 a5 a6 a7 a8 a9 : Value} (b0 b1 b2 b3 b4 b5 b6 b7 b8 b9 : Value) (h : w.heap[g]? = some (.cells #[a0, a1, a2, a3, a4, a5, a6, a7, a8, a9] t (0, 0))) : ((((((((((w.setCell ⟨g, 0, none⟩ b0).setCell ⟨g, 1, none⟩ b1).setCell ⟨g, 2, none⟩ b2).setCell ⟨g, 3, none⟩ b3).setCell ⟨g, 4, none⟩ b4).setCell ⟨g, 5, none⟩ b5).setCell ⟨g, 6, none⟩ b6).setCell ⟨g, 7, none⟩ b7).setCell ⟨g, 8, none⟩ b8).setCell ⟨g, 9, none⟩ b9).heap[g]? = some (.cells #[b0, b1, b2, b3, b4, b5, b6, b7, b8, b9] t (0, 0)) := by
 have h1 : (w.setCell ⟨g, 0, none⟩ b0).heap[g]? = some (.cells #[b0, a1, a2, a3, a4, a5, a6, a7, a8, a9] t (0, 0)) := blk_set0 b0 h
 have h2 : ((w.setCell ⟨g, 0, none⟩ b0).setCell ⟨g, 1, none⟩ b1).heap[g]? = some (.cells #[b0, b1, a2, a3, a4, a5, a6, a7, a8, a9] t (0, 0)) := blk_set0 b1 h1
 have h3 : (((w.setCell ⟨g, 0, none⟩ b0).setCell ⟨g, 1, none⟩ b1).setCell ⟨g, 2, none⟩ b2).heap[g]? = some (.cells #[b0, b1, b2, a3, a4, a5, a6, a7, a8, a9] t (0, 0)) := blk_set0 b2 h2
 have h4 : ((((w.setCell ⟨g, 0, none⟩ b0).setCell ⟨g, 1, none⟩ b1).setCell ⟨g, 2, none⟩ b2).setCell ⟨g, 3, none⟩ b3).heap[g]? = some (.cells #[b0, b1, b2, b3, a4, a5, a6, a7, a8, a9] t (0, 0)) := blk_set0 b3 h3
 have h5 : (((((w.setCell ⟨g, 0, none⟩ b0).setCell ⟨g, 1, none⟩ b1).setCell ⟨g, 2, none⟩ b2).setCell ⟨g, 3, none⟩ b3).setCell ⟨g, 4, none⟩ b4).heap[g]? = some (.cells #[b0, b1, b2, b3, b4, a5, a6, a7, a8, a9] t (0, 0)) := blk_set0 b4 h4
 have h6 : ((((((w.setCell ⟨g, 0, none⟩ b0).setCell ⟨g, 1, none⟩ b1).setCell ⟨g, 2, none⟩ b2).setCell ⟨g, 3, none⟩ b3).setCell ⟨g, 4, none⟩ b4).setCell ⟨g, 5, none⟩ b5).heap[g]? = some (.cells #[b0, b1, b2, b3, b4, b5, a6, a7, a8, a9] t (0, 0)) := blk_set0 b5 h5
 have h7 : (((((((w.setCell ⟨g, 0, none⟩ b0).setCell ⟨g, 1, none⟩ b1).setCell ⟨g, 2, none⟩ b2).setCell ⟨g, 3, none⟩ b3).setCell ⟨g, 4, none⟩ b4).setCell ⟨g, 5, none⟩ b5).setCell ⟨g, 6, none⟩ b6).heap[g]? = some (.cells #[b0, b1, b2, b3, b4, b5, b6, a7, a8, a9] t (0, 0)) := blk_set0 b6 h6
 have h8 : ((((((((w.setCell ⟨g, 0, none⟩ b0).setCell ⟨g, 1, none⟩ b1).setCell ⟨g, 2, none⟩ b2).setCell ⟨g, 3, none⟩ b3).setCell ⟨g, 4, none⟩ b4).setCell ⟨g, 5, none⟩ b5).setCell ⟨g, 6, none⟩ b6).setCell ⟨g, 7, none⟩ b7).heap[g]? = some (.cells #[b0, b1, b2, b3, b4, b5, b6, b7, a8, a9] t (0, 0)) := blk_set0 b7 h7
 have h9 : (((((((((w.setCell ⟨g, 0, none⟩ b0).setCell ⟨g, 1, none⟩ b1).setCell ⟨g, 2, none⟩ b2).setCell ⟨g, 3, none⟩ b3).setCell ⟨g, 4, none⟩ b4).setCell ⟨g, 5, none⟩ b5).setCell ⟨g, 6, none⟩ b6).setCell ⟨g, 7, none⟩ b7).setCell ⟨g, 8, none⟩ b8).heap[g]? = some (.cells #[b0, b1, b2, b3, b4, b5, b6, b7, b8, a9] t (0, 0)) := blk_set0 b8 h8
 have h10 : ((((((((((w.setCell ⟨g, 0, none⟩ b0).setCell ⟨g, 1, none⟩ b1).setCell ⟨g, 2, none⟩ b2).setCell ⟨g, 3, none⟩ b3).setCell ⟨g, 4, none⟩ b4).setCell ⟨g, 5, none⟩ b5).setCell ⟨g, 6, none⟩ b6).setCell ⟨g, 7, none⟩ b7).setCell ⟨g, 8, none⟩ b8).setCell ⟨g, 9, none⟩ b9).heap[g]? = some (.cells #[b0, b1, b2, b3, b4, b5, b6, b7, b8, b9] t (0, 0)) := blk_set0 b9 h9
 exact h10
theorem fs10 (w : World) (g : Nat) (b0 b1 b2 b3 b4 b5 b6 b7 b8 b9 : Value) : Fr w ((((((((((w.setCell ⟨g, 0, none⟩ b0).setCell ⟨g, 1, none⟩ b1).setCell ⟨g, 2, none⟩ b2).setCell ⟨g, 3, none⟩ b3).setCell ⟨g, 4, none⟩ b4).setCell ⟨g, 5, none⟩ b5).setCell ⟨g, 6, none⟩ b6).setCell ⟨g, 7, none⟩ b7).setCell ⟨g, 8, none⟩ b8).setCell ⟨g, 9, none⟩ b9) (fun k => k = g) :=
 ((((((((((Fr.setCell (S := fun k => k = g) w ⟨g, 0, none⟩ b0 rfl).trans (Fr.setCell (S := fun k => k = g) _ ⟨g, 1, none⟩ b1 rfl) (fun _ _ h => h)).trans (Fr.setCell (S := fun k => k = g) _ ⟨g, 2, none⟩ b2 rfl) (fun _ _ h => h)).trans (Fr.setCell (S := fun k => k = g) _ ⟨g, 3, none⟩ b3 rfl) (fun _ _ h => h)).trans (Fr.setCell (S := fun k => k = g) _ ⟨g, 4, none⟩ b4 rfl) (fun _ _ h => h)).trans (Fr.setCell (S := fun k => k = g) _ ⟨g, 5, none⟩ b5 rfl) (fun _ _ h => h)).trans (Fr.setCell (S := fun k => k = g) _ ⟨g, 6, none⟩ b6 rfl) (fun _ _ h => h)).trans (Fr.setCell (S := fun k => k = g) _ ⟨g, 7, none⟩ b7 rfl) (fun _ _ h => h)).trans (Fr.setCell (S := fun k => k = g) _ ⟨g, 8, none⟩ b8 rfl) (fun _ _ h => h)).trans (Fr.setCell (S := fun k => k = g) _ ⟨g, 9, none⟩ b9 rfl) (fun _ _ h => h))
theorem size_ag : (Tryz.prog.info? 114).map (·.size) = some 10 := by kernel_rfl
theorem one_new' (w : World) (x : Obj) : Below w.heap.size w (w.alloc x) := (Below.refl _ _).alloc (Nat.le_refl _) _
theorem blk_al' {W : World} {k : Nat} {ob : Obj} (o : Obj) (h : W.heap[k]? = some ob) : (W.alloc o).heap[k]? = some ob := ((one_new' W o).block k (lt_of_block h)).trans h
def mstep (b : Nat → Option Int) (st : (Nat → Option Int) × Int) (k : Nat) : (Nat → Option Int) × Int :=
 if st.2 = 0 then
  match b k with
  | none => st
  | some v => (addO st.1 (k : Int) v, addE st.1 (k : Int) v)
 else st
def mrg (a b : Nat → Option Int) : Nat → (Nat → Option Int) × Int
 | 0 => (a, 0)
 | k + 1 => mstep b (mrg a b k) k
def mergeO (a b : Nat → Option Int) : Nat → Option Int := if (mrg a b 5).2 = 0 then (mrg a b 5).1 else a
def mergeE (a b : Nat → Option Int) : Int := (mrg a b 5).2
theorem mrg_none {a b : Nat → Option Int} {k : Nat} (h : b k = none) : mrg a b (k + 1) = mrg a b k := by
 show mstep b _ k = _
 unfold mstep
 rw [h]
 split <;> rfl
theorem mrg_some {a b : Nat → Option Int} {k : Nat} {v : Int} (h : b k = some v) (he : (mrg a b k).2 = 0) : mrg a b (k + 1) = (addO (mrg a b k).1 (k : Int) v, addE (mrg a b k).1 (k : Int) v) := by
 show mstep b _ k = _
 unfold mstep
 rw [h, if_pos he]
theorem mrg_stop {a b : Nat → Option Int} {k : Nat} (h : (mrg a b k).2 ≠ 0) : ∀ j, mrg a b (k + j) = mrg a b k
 | 0 => rfl
 | j + 1 => by
  show mstep b (mrg a b (k + j)) _ = _
  rw [mrg_stop h j]
  exact if_neg h
theorem mrg_ok {a b : Nat → Option Int} (ha : OkO a) (hb : OkO b) : ∀ k, OkO (mrg a b k).1
 | 0 => ha
 | k + 1 => by
  show OkO (mstep b _ k).1
  unfold mstep
  split
  ·split
   ·exact mrg_ok ha hb k
   ·rename_i v e
    exact (mrg_ok ha hb k).add _ (hb _ _ e)
  ·exact mrg_ok ha hb k
theorem merge_bad {a b : Nat → Option Int} {k : Nat} {e : Int} (hk : k < 5) (h : (mrg a b (k + 1)).2 = e) (he : e ≠ 0) : mergeO a b = a ∧ mergeE a b = e := by
 have h5 : mrg a b 5 = mrg a b (k + 1) := by
  have := mrg_stop (a := a) (b := b) (k := k + 1) (by rw [h]; exact he) (5 - (k + 1))
  rw [show k + 1 + (5 - (k + 1)) = 5 by omega] at this
  exact this
 unfold mergeO mergeE
 rw [h5, h]
 exact ⟨if_neg he, rfl⟩
theorem merge_good {a b : Nat → Option Int} (h : (mrg a b 5).2 = 0) : mergeO a b = (mrg a b 5).1 ∧ mergeE a b = 0 := ⟨if_pos h, h⟩
theorem addE_two {o : Nat → Option Int} {k : Nat} (hk : k ≤ 4) (x : Int) : addE o (k : Int) x = 0 ∨ addE o (k : Int) x = 20 := by
 cases e : o k with
 | none => exact .inl (addO_new hk e).2
 | some y =>
  rcases je_cases k y x with h | ⟨_, h⟩
  ·exact .inl (addO_old hk e h).2
  ·exact .inr (addO_no hk e h (by decide)).2
theorem get_some {o : Nat → Option Int} {k : Nat} {v : Int} (hk : k ≤ 4) (h : o k = some v) (w : World) :
  Calls Tryz.prog 112 #[AO o, .int .i64 (k : Int)] w fun e w' => e = .returned (.tuple #[.int .i64 v, .bool true]) ∧ Below w.heap.size w w' :=
 (get_any o k w).mono fun e w' h' => ⟨h'.1.trans (by rw [getO_in hk, h]; rfl), h'.2⟩
theorem get_none {o : Nat → Option Int} {k : Nat} (hk : k ≤ 4) (h : o k = none) (w : World) :
  Calls Tryz.prog 112 #[AO o, .int .i64 (k : Int)] w fun e w' => e = .returned (.tuple #[.int .i64 0, .bool false]) ∧ Below w.heap.size w w' :=
 (get_any o k w).mono fun e w' h' => ⟨h'.1.trans (by rw [getO_in hk, h]; rfl), h'.2⟩
theorem box_ao {w : World} {g : Nat} {t : TypeId} {o : Nat → Option Int} (h : w.heap[g]? = some (.cells (AOc o) t (0, 0))) : w.cell? ⟨g, 0, none⟩ = some (.bool (oh o 0)) ∧ w.cell? ⟨g, 1, none⟩ = some (.bool (oh o 1)) ∧ w.cell? ⟨g, 2, none⟩ = some (.bool (oh o 2)) ∧ w.cell? ⟨g, 3, none⟩ = some (.bool (oh o 3)) ∧ w.cell? ⟨g, 4, none⟩ = some (.bool (oh o 4)) ∧ w.cell? ⟨g, 5, none⟩ = some (.int .i64 (ov o 0)) ∧ w.cell? ⟨g, 6, none⟩ = some (.int .i64 (ov o 1)) ∧ w.cell? ⟨g, 7, none⟩ = some (.int .i64 (ov o 2)) ∧ w.cell? ⟨g, 8, none⟩ = some (.int .i64 (ov o 3)) ∧ w.cell? ⟨g, 9, none⟩ = some (.int .i64 (ov o 4)) := mblk10 h
theorem fro_ao {w : World} {g : Nat} {t : TypeId} {c : Array Value} (h : w.heap[g]? = some (.cells c t (0, 0))) : w.frozen? ⟨g, 0, none⟩ = false ∧ w.frozen? ⟨g, 1, none⟩ = false ∧ w.frozen? ⟨g, 2, none⟩ = false ∧ w.frozen? ⟨g, 3, none⟩ = false ∧ w.frozen? ⟨g, 4, none⟩ = false ∧ w.frozen? ⟨g, 5, none⟩ = false ∧ w.frozen? ⟨g, 6, none⟩ = false ∧ w.frozen? ⟨g, 7, none⟩ = false ∧ w.frozen? ⟨g, 8, none⟩ = false ∧ w.frozen? ⟨g, 9, none⟩ = false :=
 ⟨froz10 h 0, froz10 h 1, froz10 h 2, froz10 h 3, froz10 h 4, froz10 h 5, froz10 h 6, froz10 h 7, froz10 h 8, froz10 h 9⟩
theorem res_ct {fn : Func} {p u : Tmp} {ty : TypeId} (h : fn.results = #[.cell p ty, .tmp u]) (tmps : Array Value) (w : World) (g : Nat) (t : TypeId) (cs : Array Value) (fr : Nat × Nat) (d : TypeDesc)
  (hp : tmps.getD p undef = .pointer (some ⟨g, 0, none⟩)) (hg : w.heap[g]? = some (.cells cs t fr))
  (hu : Tryz.prog.underlying ty = some d) (hd : (match d with | .struct _ | .array _ _ => true | _ => false) = true) (hi : (Tryz.prog.info? ty).map (·.size) = some cs.size) :
  (results fn tmps).run Tryz.prog w = .ok (.tuple #[.agg cs, tmps.getD u undef]) w := by
 rw [results_cell_tmp h, hp]
 have := run_loadVar_row (P := Tryz.prog) w g t ty cs fr d hg hu (by cases d <;> first | rfl | exact hd) hi
 simp [asAddr, this]
structure MB (w wr : World) (a b o : Nat → Option Int) : Prop where
 ba : wr.heap[w.heap.size]? = some (.cells (AOc a) 114 (0, 0))
 bb : wr.heap[w.heap.size + 1]? = some (.cells (AOc b) 114 (0, 0))
 br : wr.heap[w.heap.size + 1 + 1]? = some (.cells zc 114 (0, 0))
 bo : wr.heap[w.heap.size + 1 + 1 + 1]? = some (.cells (AOc o) 114 (0, 0))
 low : Below w.heap.size w wr
theorem MB.new {w wr w' : World} {a b o : Nat → Option Int} (h : MB w wr a b o) (hb : Below wr.heap.size wr w') : MB w w' a b o :=
 ⟨(hb.block _ (lt_of_block h.ba)).trans h.ba, (hb.block _ (lt_of_block h.bb)).trans h.bb, (hb.block _ (lt_of_block h.br)).trans h.br, (hb.block _ (lt_of_block h.bo)).trans h.bo, h.low.trans (hb.mono h.low.size)⟩
theorem MB.al {w wr : World} {a b o : Nat → Option Int} (h : MB w wr a b o) (x : Obj) : MB w (wr.alloc x) a b o := h.new (one_new' _ _)
theorem MB.put {w wr w' : World} {a b o o' : Nat → Option Int} (h : MB w wr a b o) (f : Fr wr w' (fun k => k = w.heap.size + 1 + 1 + 1)) (hn : w'.heap[w.heap.size + 1 + 1 + 1]? = some (.cells (AOc o') 114 (0, 0))) : MB w w' a b o' :=
 ⟨(f.block _ (lt_of_block h.ba) (by omega)).trans h.ba, (f.block _ (lt_of_block h.bb) (by omega)).trans h.bb, (f.block _ (lt_of_block h.br) (by omega)).trans h.br, hn, h.low.trans (f.below h.low.size (fun k hk => by omega))⟩
theorem MB.start (w : World) (a b : Nat → Option Int) : MB w ((((w.alloc (.cells (AOc a) 114)).alloc (.cells (AOc b) 114)).alloc (.cells zc 114)).alloc (.cells (AOc a) 114)) a b a := by
 have s1 := World.size_alloc w (.cells (AOc a) 114)
 have s2 := World.size_alloc (w.alloc (.cells (AOc a) 114)) (.cells (AOc b) 114)
 have s3 := World.size_alloc ((w.alloc (.cells (AOc a) 114)).alloc (.cells (AOc b) 114)) (.cells zc 114)
 rw [s1] at s2
 rw [s2] at s3
 have h1 := heap_alloc_new (w.alloc (.cells (AOc a) 114)) (.cells (AOc b) 114)
 rw [s1] at h1
 have h2 := heap_alloc_new ((w.alloc (.cells (AOc a) 114)).alloc (.cells (AOc b) 114)) (.cells zc 114)
 rw [s2] at h2
 have h3 := heap_alloc_new (((w.alloc (.cells (AOc a) 114)).alloc (.cells (AOc b) 114)).alloc (.cells zc 114)) (.cells (AOc a) 114)
 rw [s3] at h3
 exact ⟨blk_al' _ (blk_al' _ (blk_al' _ (heap_alloc_new _ _))), blk_al' _ (blk_al' _ h1), blk_al' _ h2, h3, ((one_new' w _).trans (((one_new' _ _).trans (((one_new' _ _).trans ((one_new' _ _).mono (by simp))).mono (by simp))).mono (by simp)))⟩
set_option maxHeartbeats 4000000 in
theorem merge_any (a b : Nat → Option Int) (w : World) (ha : OkO a) (hb : OkO b) :
  Calls Tryz.prog 86 #[AO a, AO b] w fun e w' => e = .returned (.tuple #[AO (mergeO a b), .int .i64 (mergeE a b)]) ∧ Below w.heap.size w w' := by
 have HA : Hid (OkO a) := ha
 have HB : Hid (OkO b) := hb
 have HST : Hid _ := MB.start w a b
 clear ha hb
 show Calls Tryz.prog 86 #[AG (oh a) (ov a), AG (oh b) (ov b)] w _
 unfold AG
 go_enter Tryz.func86, Tryz.ntmps86
 go_wp2
 go_loopw [13] (fun i wr => ∃ (k : Nat) (o : Nat → Option Int), k ≤ 5 ∧ i = .int .i64 k ∧ Hid (mrg a b k = (o, 0)) ∧ MB w wr a b o) (fun i _ => 5 - (intOf i).toNat)
 case atStart => exact ⟨0, a, Nat.zero_le _, rfl, rfl, HST.out⟩
 case round =>
  obtain ⟨k, o, hk, rfl, HM, hT⟩ := hrel
  by_cases hlt : k < 5
  ·cases hv : b k with
   | none =>
    have HV : Hid _ := hv
    have HR : Hid (mrg a b (k + 1) = (o, 0)) := (mrg_none hv).trans HM.out
    obtain ⟨c0, c1, c2, c3, c4, c5, c6, c7, c8, c9⟩ := box_ao hT.bb
    clear hv HM
    go_wp2_with (go_at_call 112; refine (get_none (o := b) (by omega) HV.out _).mono ?_; rintro e w1 ⟨rfl, hb1⟩)
    go_roundw
    case rel => exact ⟨k + 1, o, by omega, by go_num, HR.out, hT.new hb1⟩
    case measure => simp [intOf]; omega
   | some v =>
    have HV : Hid _ := hv
    have HI : Hid (I6 v) := HB.out _ _ hv
    have HO : Hid (OkO o) := by have := mrg_ok HA.out HB.out k; rw [HM.out] at this; exact this
    have HR0 := mrg_some hv (by rw [HM.out])
    rw [HM.out] at HR0
    have HR : Hid _ := HR0
    obtain ⟨c0, c1, c2, c3, c4, c5, c6, c7, c8, c9⟩ := box_ao hT.bb
    clear hv HM HR0
    by_cases he : addE o k v = 0
    ·have HE : Hid _ := he
     clear he
     go_wp2_with (first
      | (go_at_call 112; refine (get_some (o := b) (by omega) HV.out _).mono ?_; rintro e w1 ⟨rfl, hb1⟩; have hT1 := hT.new hb1; obtain ⟨d0, d1, d2, d3, d4, d5, d6, d7, d8, d9⟩ := box_ao hT1.bo; clear c0 c1 c2 c3 c4 c5 c6 c7 c8 c9)
      | (go_at_call 113; refine (aAdd_any o k v _ HO.out HI.out).mono ?_; rintro e w2 ⟨rfl, hb2⟩; rw [HE.out]; simp only [AO, AG]; have hT2 := hT1.new hb2; have l2 := lt_of_block hT2.bo; obtain ⟨p0, p1, p2, p3, p4, p5, p6, p7, p8, p9⟩ := box_ao hT2.bo; obtain ⟨q0, q1, q2, q3, q4, q5, q6, q7, q8, q9⟩ := fro_ao hT2.bo; clear d0 d1 d2 d3 d4 d5 d6 d7 d8 d9))
     go_roundw
     case rel =>
      refine ⟨k + 1, addO o k v, by omega, by go_num, ?_, ?_⟩
      ·show _ = _
       rw [HR.out, HE.out]
      ·exact (hT2.put (fs10 _ _ _ _ _ _ _ _ _ _ _ _) (mset10 _ _ _ _ _ _ _ _ _ _ hT2.bo)).al _
     case measure => simp [intOf]; omega
    ·have HE : Hid (mergeO a b = a ∧ mergeE a b = addE o k v) := merge_bad hlt (by rw [HR.out]) he
     have her : addE o k v = 20 := (addE_two (by omega) v).resolve_left he
     rw [her] at HE
     have HH : Hid _ := her
     clear her he
     go_upto_region 9 with (first
      | (go_at_call 112; refine (get_some (o := b) (by omega) HV.out _).mono ?_; rintro e w1 ⟨rfl, hb1⟩; have hT1 := hT.new hb1; obtain ⟨d0, d1, d2, d3, d4, d5, d6, d7, d8, d9⟩ := box_ao hT1.bo; clear c0 c1 c2 c3 c4 c5 c6 c7 c8 c9)
      | (go_at_call 113; refine (aAdd_any o k v _ HO.out HI.out).mono ?_; rintro e w2 ⟨rfl, hb2⟩; rw [HH.out]; simp only [AO, AG]; have hT2 := hT1.new hb2; clear d0 d1 d2 d3 d4 d5 d6 d7 d8 d9))
     obtain ⟨W, hW⟩ : ∃ W, w2.alloc (.cells (AOc (addO o k v)) 114) = W := ⟨_, rfl⟩
     have hT3 := hT2.al (.cells (AOc (addO o k v)) 114)
     rw [hW] at hT3
     unfold AOc AC at hW
     rw [hW]
     clear hW hT2 hT1 hT hb1 hb2
     obtain ⟨p0, p1, p2, p3, p4, p5, p6, p7, p8, p9⟩ := box_ao hT3.ba
     have hbr := hT3.br
     unfold zc at hbr
     obtain ⟨r0, r1, r2, r3, r4, r5, r6, r7, r8, r9⟩ := mblk10 hbr
     obtain ⟨q0, q1, q2, q3, q4, q5, q6, q7, q8, q9⟩ := fro_ao hT3.br
     have HT3 : Hid _ := hT3
     clear hbr hT3
     go_wp2
     refine bodyPost_ret (v := .tuple #[AO a, .int .i64 20]) (res_ct Tryz.results86 _ _ (w.heap.size + 1 + 1) 114 (AOc a) (0, 0) _ rfl (mset10 _ _ _ _ _ _ _ _ _ _ HT3.out.br) Tryz.underlying114 rfl size_ag) rfl ?_
     exact ⟨by rw [HE.out.1, HE.out.2], HT3.out.low.trans ((fs10 _ _ _ _ _ _ _ _ _ _ _ _).below HT3.out.low.size (fun k hk => by omega))⟩
  ·obtain rfl : k = 5 := by omega
   have HG : Hid (mergeO a b = o ∧ mergeE a b = 0) := by
    have := merge_good (a := a) (b := b) (by rw [HM.out])
    rw [HM.out] at this
    exact this
   obtain ⟨c0, c1, c2, c3, c4, c5, c6, c7, c8, c9⟩ := box_ao hT.bo
   have hbr := hT.br
   unfold zc at hbr
   obtain ⟨r0, r1, r2, r3, r4, r5, r6, r7, r8, r9⟩ := mblk10 hbr
   obtain ⟨q0, q1, q2, q3, q4, q5, q6, q7, q8, q9⟩ := fro_ao hT.br
   clear hbr HM
   go_wp2
   refine bodyPost_ret (v := .tuple #[AO o, .int .i64 0]) (res_ct Tryz.results86 _ _ (w.heap.size + 1 + 1) 114 (AOc o) (0, 0) _ rfl (mset10 _ _ _ _ _ _ _ _ _ _ hT.br) Tryz.underlying114 rfl size_ag) rfl ?_
   exact ⟨by rw [HG.out.1, HG.out.2], hT.low.trans ((fs10 _ _ _ _ _ _ _ _ _ _ _ _).below hT.low.size (fun k hk => by omega))⟩
set_option maxHeartbeats 1000000 in
theorem to_any {w : World} {P : Nat → Prop} {st id va ma : Int} {eo mo po : Option Addr} {en ec mn mc pn pc : Nat} {ha u0 u1 u2 u3 u4 u5 u6 u7 u8 u9 : Value} (v : Int) (E : List Ed) (he : en = E.length) (hE : EdAt w P eo E) (hl : E.length ≤ 1048576) :
  Calls Tryz.prog 160 #[(.agg #[.int .i64 st, .int .i64 id, .int .i64 va, .slice eo en ec, ha, .slice mo mn mc, u0, u1, u2, u3, u4, u5, u6, u7, u8, u9, .int .i64 ma, .slice po pn pc]), .int .i64 v] w fun r w' => ∃ tv, r = .returned tv ∧ KM w' w.heap.size tv (toL id v E) ∧ Below w.heap.size w w' := by
 obtain ⟨i0, hi, hz0, hz1, hz2⟩ := info_parts infoKM
 subst he
 obtain ⟨W0, hW0⟩ : ∃ W0, w.alloc (.cells #[.int .i64 st, .int .i64 id, .int .i64 va, .slice eo E.length ec, ha, .slice mo mn mc, u0, u1, u2, u3, u4, u5, u6, u7, u8, u9, .int .i64 ma, .slice po pn pc] 156) = W0 := ⟨_, rfl⟩
 have hB0 : Below w.heap.size w W0 := by rw [← hW0]; exact one_newK _ _
 have hc := InBox.made w #[.int .i64 st, .int .i64 id, .int .i64 va, .slice eo E.length ec, ha, .slice mo mn mc, u0, u1, u2, u3, u4, u5, u6, u7, u8, u9, .int .i64 ma, .slice po pn pc]
 rw [hW0] at hc
 have HC : Hid _ := hc
 obtain ⟨_, _, _, k3, _⟩ := hc.cells
 have HE : Hid (EdAt W0 P eo E) := hE.kept (Fr.ofBelow hB0 (fun _ => False)) (fun k hk hp => ⟨fun h => h, hp⟩)
 have HB0 : Hid _ := hB0
 clear hE hc hB0
 go_enter Tryz.func160, Tryz.ntmps160
 go_wp2
 go_loopw [5, 6, 7, 12] (fun u _ _ i wr => ∃ (j : Nat) (ao : Option Addr) (c : Nat), j ≤ E.length ∧ u = .slice ao j c ∧ i = .int .i64 j ∧ KM wr W0.heap.size (.slice ao j c) ((toL id v E).take j) ∧ Below W0.heap.size W0 wr) (fun _ _ _ i _ => E.length - (intOf i).toNat)
 case atStart => exact ⟨0, none, 0, Nat.zero_le _, rfl, rfl, World.ownsRow_nil _ _ _ _, Below.refl _ _⟩
 case round =>
  obtain ⟨j, ao, c, hj, rfl, rfl, hR, hb⟩ := hrel
  by_cases hlt : j < E.length
  ·obtain ⟨b, off, rfl, hP, hc⟩ := HE.out (by omega)
   obtain ⟨e0, e1⟩ := hc j hlt
   have d0 := (hb.cell (p := ⟨b, off + j * 2, none⟩) (lt_cell e0)).trans e0
   have d1 := (hb.cell (p := ⟨b, off + j * 2 + 1, none⟩) (lt_cell e0)).trans e1
   have HS : Hid _ := toL_snoc id v E j hlt
   have HLg : Hid (((toL id v E).take j).length = j) := by show _ = _; rw [List.length_take, toL_len]; omega
   generalize E[j] = y at d0 d1 HS
   obtain ⟨_, q1, _⟩ := InBox.cells (InBox.new (InBox.new HC.out hb) (one_newK wr (.cells #[.int .i64 y.t, .int .i64 y.w] 62)))
   have HR : Hid (wr.ownsRow W0.heap.size 201 4 (.slice ao j c) j (((toL id v E).take j).flatMap msgCells)) := by have h := hR; unfold KM at h; rw [HLg.out] at h; exact h
   have HB : Hid _ := hb
   clear e0 e1 hc hR hb
   go_wp2_with (at_builtin; refine wpList_append_own_at _ rfl _ _ 116 rfl W0.heap.size 201 i0 (.agg #[.int .i64 0, .int .i64 0, .int .i64 0, .int .i64 0]) 4 32 Tryz.underlying116 hi hz0 hz1 hz2 rfl (by decide) (.slice ao j c) j (((toL id v E).take j).flatMap msgCells) rfl (k_new (k_new HR.out (one_newK _ _)) (one_newK _ _)) ⟨wr.heap.size + 1, 0, none⟩ 1 1 (msgCells ⟨id, y.t, j, v⟩) rfl rfl (k_four (by have := heap_alloc_new (wr.alloc (.cells #[.int .i64 y.t, .int .i64 y.w] 62)) (.cells #[.int .i64 id, .int .i64 y.t, .int .i64 j, .int .i64 v] 201); rw [World.size_alloc] at this; exact this)) (k_oneM _) (by unfold maxLen; omega) (by omega) (by have := HB.out.size; simp; omega) ?_)
   intro v' w4 hown hgrow hne hat
   have hM4 : KM w4 W0.heap.size v' ((toL id v E).take (j + 1)) := by rw [HS.out]; exact km_snoc (by rw [HLg.out]; exact hown)
   have hB3 : Below W0.heap.size W0 ((wr.alloc (.cells #[.int .i64 y.t, .int .i64 y.w] 62)).alloc (.cells #[.int .i64 id, .int .i64 y.t, .int .i64 j, .int .i64 v] 201)) := (HB.out.alloc HB.out.size _).alloc (by have := HB.out.size; simp; omega) _
   have hB4 : Below W0.heap.size W0 w4 := hB3.trans ((Fr.grown hgrow (S := fun k => W0.heap.size ≤ k) (fun k hk => (World.ownsRow.lt HR.out k hk).1)).below hB3.size (fun k hk => hk))
   obtain ⟨ao', c', rfl⟩ := k_shape hM4
   have e1 : ((toL id v E).take (j + 1)).length = j + 1 := by rw [HS.out, List.length_append, HLg.out]; rfl
   rw [e1] at hM4 ⊢
   have HM4 : Hid _ := hM4
   have HB4 : Hid _ := hB4
   clear hM4 hB3 hB4 hown hgrow hne hat e1
   go_wp2
   go_roundw
   case rel => exact ⟨j + 1, ao', c', by omega, rfl, by go_num, HM4.out, HB4.out⟩
   case measure => simp [intOf]; omega
  ·obtain rfl : j = E.length := by omega
   rw [List.take_of_length_le (by rw [toL_len]; exact Nat.le_refl _)] at hR
   have HR : Hid _ := hR
   have HB : Hid _ := hb
   clear hR hb
   go_wp2
   go_ret
   exact ⟨_, rfl, k_low HR.out HB0.out.size, HB0.out.trans (HB.out.mono HB0.out.size)⟩
end Go.Proofs.YtmgjlamglhpnaaaGreat
