import Derived.Test.YtjemnkijoiehmaaGreatDoorDkF3M
/- The power fails: a beginning of what is loose survives. -/
namespace Go.Proofs.YtjemnkijoiehmaaGreatDoor
open Go.RowKit Go.Maps
variable {Xm : Nat → Prop}
attribute [local go_sem] Oper.semAt_some
def cutN (keep : Int) (n : Nat) : Nat := (min (max keep 0) (n : Int)).toNat
def tornC (c : Chg) (t : Int) : Chg := ⟨c.k, c.nm, c.to, c.s.take t.toNat⟩
/-- What is sure behind a fall. -/
def failF (l : Fl) (L : List Chg) (keep torn : Int) : Fl :=
  if h : cutN keep L.length < L.length then
    if 0 < torn ∧ (L[cutN keep L.length].k = 0 ∨ L[cutN keep L.length].k = 1) then doF (doneF l (L.take (cutN keep L.length))) (tornC L[cutN keep L.length] torn) else doneF l (L.take (cutN keep L.length))
  else doneF l (L.take (cutN keep L.length))
def Dk.fail (A : Dk) (keep torn : Int) : Dk := ⟨failF A.sure A.loose keep torn, [], A.n, true, A.pv⟩
/-- All bytes of changes. -/
def sz (L : List Chg) : Nat := (L.map (·.s.length)).sum
theorem FitF.doneF {M : Nat} {l : Fl} (h : FitF M l) (L : List Chg) : FitF (M + sz L) (doneF l L) := by
  induction L generalizing l M with
  | nil => exact h
  | cons c r ih =>
    have := ih (h.doF c)
    show FitF _ (Go.Proofs.YtjemnkijoiehmaaGreatDoor.doneF (Go.Proofs.YtjemnkijoiehmaaGreatDoor.doF l c) r)
    have e : M + sz (c :: r) = M + c.s.length + sz r := by simp [sz]; omega
    rw [e]
    exact this
theorem sz_take (L : List Chg) (k : Nat) (h : k < L.length) : sz (L.take k) + L[k].s.length ≤ sz L := by
  induction L generalizing k with
  | nil => simp at h
  | cons c r ih =>
    cases k with
    | zero => simp [sz]
    | succ k =>
      have := ih k (by simpa using h)
      simp only [sz, List.take_succ_cons, List.map_cons, List.sum_cons, List.getElem_cons_succ] at *
      omega
/-- Sizes of a disk. -/
structure BdA (A : Dk) (M : Nat) : Prop where
  fit : FitF M A.sure
  sum : M + sz A.loose ≤ 4611686018427387904
  len : A.sure.length + A.loose.length ≤ 1000000
  n : A.n ≤ 1000000
theorem BdA.at {A : Dk} {M : Nat} (h : BdA A M) (k : Nat) (hk : k < A.loose.length) : (doneF A.sure (A.loose.take k)).length < maxLen ∧ (ofF A.loose[k].nm (doneF A.sure (A.loose.take k))).length + A.loose[k].s.length ≤ maxLen := by
  have h1 := len_doneF (A.loose.take k) A.sure
  have h2 := (h.fit.doneF (A.loose.take k)).of A.loose[k].nm
  have h3 := sz_take A.loose k hk
  have h4 := h.len
  have h5 := h.sum
  rw [List.length_take] at h1
  unfold maxLen
  refine ⟨by omega, by omega⟩
section
variable {w : World} {B p : Nat} {A : Dk} {mn ms : Option Nat} {lv : Value}
end
end Go.Proofs.YtjemnkijoiehmaaGreatDoor
