import Derived.Test.YtnhijofnhflklaaGreatAgAddM
import Derived.Handy
/- agg.Add, agg.Get and the document's add: contracts over aggregates whose kinds have a value or none. -/
namespace Go.Proofs.YtnhijofnhflklaaGreat
open Go.RowKit

def oh (o : Nat → Option Int) (i : Nat) : Bool := (o i).isSome
def ov (o : Nat → Option Int) (i : Nat) : Int := (o i).getD 0
/-- The value of an aggregate of which each kind has a number, or none (then 0 stands there). -/
def AO (o : Nat → Option Int) : Value := AG (oh o) (ov o)
/-- The aggregate behind a value given to a kind, and the error. -/
def addO (o : Nat → Option Int) (k x : Int) : Nat → Option Int :=
  if 0 ≤ k ∧ k ≤ 4 then
    match o k.toNat with
    | none => updA o k.toNat (some x)
    | some y => if je k.toNat y x = 0 then updA o k.toNat (some (jv k.toNat y x)) else o
  else o
def addE (o : Nat → Option Int) (k x : Int) : Int :=
  if 0 ≤ k ∧ k ≤ 4 then
    match o k.toNat with
    | none => 0
    | some y => je k.toNat y x
  else 1
def I6 (x : Int) : Prop := -9223372036854775808 ≤ x ∧ x ≤ 9223372036854775807
def OkO (o : Nat → Option Int) : Prop := ∀ i y, o i = some y → I6 y
theorem wrap_bd (n : Int) : -9223372036854775808 ≤ IntKind.i64.wrap n ∧ IntKind.i64.wrap n ≤ 9223372036854775807 := by
  rw [IntKind.wrap_i64]
  try unfold wrap64
  omega
theorem jv_bd {k : Nat} {a b : Int} (ha : I6 a) (hb : I6 b) : I6 (jv k a b) := by
  unfold I6 at *
  unfold jv
  split
  · exact hv_bd _
  · split <;> assumption
  · split <;> assumption
  · exact wrap_bd _
  · exact wrap_bd _
theorem updA_at {α : Type} (f : Nat → α) (k : Nat) (a : α) : updA f k a k = a := if_pos rfl
theorem updA_ne {α : Type} (f : Nat → α) {k i : Nat} (a : α) (h : i ≠ k) : updA f k a i = f i := if_neg h
theorem OkO.updA {o : Nat → Option Int} (h : OkO o) (k : Nat) {x : Int} (hx : I6 x) : OkO (updA o k (some x)) := by
  intro i y e
  by_cases hi : i = k
  · subst hi; rw [updA_at] at e; cases e; exact hx
  · rw [updA_ne _ _ hi] at e; exact h i y e
theorem OkO.add {o : Nat → Option Int} (h : OkO o) (k : Int) {x : Int} (hx : I6 x) : OkO (addO o k x) := by
  unfold addO
  split
  · split
    · exact h.updA _ hx
    · rename_i y e
      split
      · exact h.updA _ (jv_bd (h _ _ e) hx)
      · exact h
  · exact h
theorem OkO.none : OkO (fun _ => none) := fun _ _ e => by cases e
theorem je_cases (k : Nat) (a b : Int) : je k a b = 0 ∨ k = 0 ∧ je k a b = 20 := by
  unfold je
  split
  · rcases he_cases (a + b) with h | h
    · exact .inl h.1
    · exact .inr ⟨by assumption, h.1⟩
  · exact .inl rfl
theorem oh_upd (o : Nat → Option Int) (k : Nat) (x : Int) : updA (oh o) k true = oh (updA o k (some x)) := by
  funext i
  unfold oh updA
  split <;> rfl
theorem ov_upd (o : Nat → Option Int) (k : Nat) (x : Int) : updA (ov o) k x = ov (updA o k (some x)) := by
  funext i
  unfold ov updA
  split <;> rfl
theorem AO_upd (o : Nat → Option Int) (k : Nat) (x : Int) : AG (updA (oh o) k true) (updA (ov o) k x) = AO (updA o k (some x)) := by
  rw [oh_upd o k x, ov_upd]; rfl
theorem addO_out {o : Nat → Option Int} {k x : Int} (h : ¬ (0 ≤ k ∧ k ≤ 4)) : addO o k x = o ∧ addE o k x = 1 := ⟨if_neg h, if_neg h⟩
theorem addO_new {o : Nat → Option Int} {k : Nat} {x : Int} (hk : k ≤ 4) (h : o k = none) : addO o k x = updA o k (some x) ∧ addE o k x = 0 := by
  unfold addO addE
  rw [if_pos (by omega), if_pos (by omega), Int.toNat_natCast]
  simp only [h]
  exact ⟨by first | rfl | trivial, by first | rfl | trivial⟩
theorem addO_old {o : Nat → Option Int} {k : Nat} {x y : Int} (hk : k ≤ 4) (h : o k = some y) (hj : je k y x = 0) : addO o k x = updA o k (some (jv k y x)) ∧ addE o k x = 0 := by
  unfold addO addE
  rw [if_pos (by omega), if_pos (by omega), Int.toNat_natCast]
  simp only [h, hj]
  exact ⟨by first | rfl | trivial, by first | rfl | trivial⟩
theorem addO_no {o : Nat → Option Int} {k : Nat} {x y e : Int} (hk : k ≤ 4) (h : o k = some y) (hj : je k y x = e) (he : e ≠ 0) : addO o k x = o ∧ addE o k x = e := by
  unfold addO addE
  rw [if_pos (by omega), if_pos (by omega), Int.toNat_natCast]
  simp only [h, hj]
  exact ⟨if_neg he, trivial⟩
theorem oh_some {o : Nat → Option Int} {k : Nat} {y : Int} (h : o k = some y) : oh o k = true := by unfold oh; rw [h]; rfl
theorem ov_some {o : Nat → Option Int} {k : Nat} {y : Int} (h : o k = some y) : ov o k = y := by unfold ov; rw [h]; rfl
theorem oh_none {o : Nat → Option Int} {k : Nat} (h : o k = none) : oh o k = false := by unfold oh; rw [h]; rfl
theorem ends_new {o : Nat → Option Int} {k : Nat} {x : Int} (hk : k ≤ 4) (h : o k = none) : Ending.returned (.tuple #[AG (updA (oh o) k true) (updA (ov o) k x), .int .i64 0]) = .returned (.tuple #[AO (addO o k x), .int .i64 (addE o k x)]) := by
  rw [(addO_new hk h).1, (addO_new hk h).2, AO_upd]
theorem ends_old {o : Nat → Option Int} {k : Nat} {x y : Int} (hk : k ≤ 4) (h : o k = some y) (hj : je k y x = 0) : Ending.returned (.tuple #[AG (updA (oh o) k true) (updA (ov o) k (jv k y x)), .int .i64 0]) = .returned (.tuple #[AO (addO o k x), .int .i64 (addE o k x)]) := by
  rw [(addO_old hk h hj).1, (addO_old hk h hj).2, AO_upd]
theorem ends_no {o : Nat → Option Int} {k : Nat} {x y e : Int} (hk : k ≤ 4) (h : o k = some y) (hj : je k y x = e) (he : e ≠ 0) : Ending.returned (.tuple #[AG (oh o) (ov o), .int .i64 e]) = .returned (.tuple #[AO (addO o k x), .int .i64 (addE o k x)]) := by
  rw [(addO_no hk h hj he).1, (addO_no hk h hj he).2]; rfl
theorem kind5 {k : Int} (h : 0 ≤ k ∧ k ≤ 4) : k = ((0 : Nat) : Int) ∨ k = ((1 : Nat) : Int) ∨ k = ((2 : Nat) : Int) ∨ k = ((3 : Nat) : Int) ∨ k = ((4 : Nat) : Int) := by omega

theorem aAdd_any (o : Nat → Option Int) (k x : Int) (w : World) (ho : OkO o) (hx : I6 x) :
    Calls Tryz.prog 141 #[AO o, .int .i64 k, .int .i64 x] w fun e w' => e = .returned (.tuple #[AO (addO o k x), .int .i64 (addE o k x)]) ∧ Below w.heap.size w w' := by
  by_cases hk : 0 ≤ k ∧ k ≤ 4
  · have H : ∀ (n : Nat), n ≤ 4 → ∀ y, o n = some y → ∀ w, Calls Tryz.prog 177 #[.int .i64 (n : Int), .int .i64 (ov o n), .int .i64 x] w fun e w' => e = .returned (.tuple #[.int .i64 (jv n y x), .int .i64 (je n y x)]) ∧ w' = w := fun n hn y hy w => by
      rw [ov_some hy]; exact ajoin_any n y x w hn (ho n y hy).1 (ho n y hy).2 hx.1 hx.2
    rcases kind5 hk with rfl | rfl | rfl | rfl | rfl
    · cases e : o 0 with
      | none => exact (add_new0 (oh o) (ov o) x w (oh_none e)).mono fun e' w' h => ⟨h.1.trans (ends_new (by decide) e), h.2⟩
      | some y =>
        have HJ := H 0 (by decide) y e
        rcases je_cases 0 y x with hj | ⟨hk0, hj⟩
        · rw [hj] at HJ
          exact (add_old0 (oh o) (ov o) x (jv 0 y x) w (oh_some e) HJ).mono fun e' w' h => ⟨h.1.trans (ends_old (by decide) e hj), h.2⟩
        · rw [hj] at HJ
          exact (add_no0 (oh o) (ov o) x (jv 0 y x) w (oh_some e) HJ).mono fun e' w' h => ⟨h.1.trans (ends_no (by decide) e hj (by decide)), h.2⟩
    · cases e : o 1 with
      | none => exact (add_new1 (oh o) (ov o) x w (oh_none e)).mono fun e' w' h => ⟨h.1.trans (ends_new (by decide) e), h.2⟩
      | some y =>
        have HJ := H 1 (by decide) y e
        rcases je_cases 1 y x with hj | ⟨hk0, hj⟩
        · rw [hj] at HJ
          exact (add_old1 (oh o) (ov o) x (jv 1 y x) w (oh_some e) HJ).mono fun e' w' h => ⟨h.1.trans (ends_old (by decide) e hj), h.2⟩
        · exact absurd hk0 (by decide)
    · cases e : o 2 with
      | none => exact (add_new2 (oh o) (ov o) x w (oh_none e)).mono fun e' w' h => ⟨h.1.trans (ends_new (by decide) e), h.2⟩
      | some y =>
        have HJ := H 2 (by decide) y e
        rcases je_cases 2 y x with hj | ⟨hk0, hj⟩
        · rw [hj] at HJ
          exact (add_old2 (oh o) (ov o) x (jv 2 y x) w (oh_some e) HJ).mono fun e' w' h => ⟨h.1.trans (ends_old (by decide) e hj), h.2⟩
        · exact absurd hk0 (by decide)
    · cases e : o 3 with
      | none => exact (add_new3 (oh o) (ov o) x w (oh_none e)).mono fun e' w' h => ⟨h.1.trans (ends_new (by decide) e), h.2⟩
      | some y =>
        have HJ := H 3 (by decide) y e
        rcases je_cases 3 y x with hj | ⟨hk0, hj⟩
        · rw [hj] at HJ
          exact (add_old3 (oh o) (ov o) x (jv 3 y x) w (oh_some e) HJ).mono fun e' w' h => ⟨h.1.trans (ends_old (by decide) e hj), h.2⟩
        · exact absurd hk0 (by decide)
    · cases e : o 4 with
      | none => exact (add_new4 (oh o) (ov o) x w (oh_none e)).mono fun e' w' h => ⟨h.1.trans (ends_new (by decide) e), h.2⟩
      | some y =>
        have HJ := H 4 (by decide) y e
        rcases je_cases 4 y x with hj | ⟨hk0, hj⟩
        · rw [hj] at HJ
          exact (add_old4 (oh o) (ov o) x (jv 4 y x) w (oh_some e) HJ).mono fun e' w' h => ⟨h.1.trans (ends_old (by decide) e hj), h.2⟩
        · exact absurd hk0 (by decide)
  · exact (add_out (oh o) (ov o) k x w hk).mono fun e w' h => ⟨h.1.trans (by rw [(addO_out hk).1, (addO_out hk).2]; rfl), h.2⟩
end Go.Proofs.YtnhijofnhflklaaGreat
