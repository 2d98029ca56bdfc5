/- The document's Before, and lists that are turned. -/
import Derived.Test.YthnhmhjcpdomcaaMuRef
import Derived.Test.YthnhmhjcpdomcaaMuFine
namespace Go.Proofs.Ythnhmhjcpdomcaa
open Go.RowKit
set_option maxRecDepth 100000 in
set_option maxHeartbeats 1000000 in
theorem beforeU_any (x y : Mu) (w : World) : Calls Try.prog 20 #[.agg #[.int .i64 x.k, .int .i64 x.i, .int .i64 x.t, .int .i64 x.v], .agg #[.int .i64 y.k, .int .i64 y.i, .int .i64 y.t, .int .i64 y.v]] w fun e w' => e = .returned (.bool (ult x y)) ∧ Below w.heap.size w w' := by
  by_cases h1 : x.k = y.k
  · have b1 : (x.k != y.k) = false := by simpa using h1
    by_cases h2 : x.i = y.i
    · have e2 : (x.i != y.i) = false := by simpa using h2
      by_cases h3 : x.t = y.t
      · have b3 : (x.t != y.t) = false := by simpa using h3
        have HE : Hid (ult x y = decide (x.v < y.v)) := by show _ = _; simp [ult, h1, h2, h3]
        clear h1 h2 h3
        go_enter Try.func20, Try.ntmps20
        go_wp2
        go_ret
        exact ⟨by rw [HE.out]; rfl, b2 _ _ _⟩
      · have b3 : (x.t != y.t) = true := by simpa using h3
        have HE : Hid (ult x y = decide (x.t < y.t)) := by show _ = _; simp [ult, h1, h2, h3]
        clear h1 h2 h3
        go_enter Try.func20, Try.ntmps20
        go_wp2
        go_ret
        exact ⟨by rw [HE.out]; rfl, b2 _ _ _⟩
    · have e2 : (x.i != y.i) = true := by simpa using h2
      have HE : Hid (ult x y = decide (x.i < y.i)) := by show _ = _; simp [ult, h1, h2]
      clear h1 h2
      go_enter Try.func20, Try.ntmps20
      go_wp2
      go_ret
      exact ⟨by rw [HE.out]; rfl, b2 _ _ _⟩
  · have b1 : (x.k != y.k) = true := by simpa using h1
    have HE : Hid (ult x y = decide (x.k < y.k)) := by show _ = _; simp [ult, h1]
    clear h1
    go_enter Try.func20, Try.ntmps20
    go_wp2
    go_ret
    exact ⟨by rw [HE.out]; rfl, b2 _ _ _⟩

theorem turnU_get (l : List Mu) (r q : Nat) (hr : r < l.length) (hq : q < l.length) : (l.drop r ++ l.take r)[q]'(by simp; omega) = l[(q + r) % l.length]'(Nat.mod_lt _ (by omega)) := by
  by_cases h : q < l.length - r
  · rw [List.getElem_append_left (by simp; omega), List.getElem_drop]
    congr 1
    rw [Nat.mod_eq_of_lt (by omega)]
    omega
  · rw [List.getElem_append_right (by simp; omega), List.getElem_take]
    congr 1
    have : (q + r) % l.length = q + r - l.length := by
      rw [Nat.mod_eq_sub_mod (by omega), Nat.mod_eq_of_lt (by omega)]
    rw [this]
    simp
    omega
theorem turnU_perm (l : List Mu) (r : Nat) : (l.drop r ++ l.take r).Perm l := by
  refine List.perm_append_comm.trans ?_
  rw [List.take_append_drop]
theorem turnU_take (l : List Mu) (r q : Nat) (hr : r < l.length) (hq : q < l.length) : (l.drop r ++ l.take r).take (q + 1) = (l.drop r ++ l.take r).take q ++ [l[(q + r) % l.length]'(Nat.mod_lt _ (by omega))] := by
  rw [List.take_succ_eq_append_getElem (by simp; omega), turnU_get l r q hr hq]
theorem turnU_idx (turn : Int) (n : Nat) (hn : 0 < n) : ∃ (r0 : Int) (r : Nat), r < n ∧ turn.tmod n = r0 ∧ -(n : Int) < r0 ∧ r0 < n ∧ (r0 + n).tmod n = (r : Int) ∧ (r0 + n) % (n : Int) = (r : Int) := by
  have a := Int.tmod_lt_of_pos turn (b := (n : Int)) (by omega)
  have b := Int.tmod_lt_of_pos (-turn) (b := (n : Int)) (by omega)
  rw [Int.neg_tmod] at b
  have c := Int.emod_nonneg (turn.tmod n + n) (show (n : Int) ≠ 0 by omega)
  have d := Int.emod_lt_of_pos (turn.tmod n + n) (show (0 : Int) < n by omega)
  refine ⟨turn.tmod n, ((turn.tmod n + n) % (n : Int)).toNat, by omega, rfl, by omega, a, ?_, by omega⟩
  rw [Int.tmod_eq_emod_of_nonneg (by omega)]
  omega
/-- Each one twice. -/
def dup (l : List Mu) : List Mu := l.flatMap fun x => [x, x]
theorem dup_perm : ∀ l : List Mu, (dup l).Perm (l ++ l)
  | [] => List.Perm.refl _
  | x :: l => by
    show (x :: x :: dup l).Perm (x :: (l ++ x :: l))
    refine List.Perm.cons x ?_
    refine (List.Perm.cons x (dup_perm l)).trans ?_
    exact List.perm_middle.symm
theorem ule_refl (x : Mu) : ule x x = true := by rw [ule_iff]; omega
theorem mem_dup {l : List Mu} {x : Mu} (h : x ∈ dup l) : x ∈ l := by
  obtain ⟨y, hy, hx⟩ := List.mem_flatMap.1 h
  simp at hx
  subst hx
  exact hy
theorem dup_sorted : ∀ {l : List Mu}, l.Pairwise (fun a b => ule a b = true) → (dup l).Pairwise (fun a b => ule a b = true)
  | [], _ => List.Pairwise.nil
  | x :: l, h => by
    rw [List.pairwise_cons] at h
    show (x :: x :: dup l).Pairwise _
    rw [List.pairwise_cons, List.pairwise_cons]
    refine ⟨fun y hy => ?_, fun y hy => h.1 y (mem_dup hy), dup_sorted h.2⟩
    rcases List.mem_cons.1 hy with rfl | hy
    · exact ule_refl _
    · exact h.1 y (mem_dup hy)
theorem ddF_dup : ∀ (l : List Mu) (p : Mu), ddF p (dup l) = ddF p l
  | [], _ => rfl
  | x :: l, p => by
    have e : sameU x x = true := by simp [sameU]
    show ddF p (x :: x :: dup l) = ddF p (x :: l)
    have h1 : ddF x (x :: dup l) = ddF x l := by
      show (if sameU x x then ddF x (dup l) else x :: ddF x (dup l)) = ddF x l
      rw [e, if_pos rfl]
      exact ddF_dup l x
    show (if sameU x p then ddF x (x :: dup l) else x :: ddF x (x :: dup l)) = (if sameU x p then ddF x l else x :: ddF x l)
    rw [h1]
theorem dd_dup : ∀ l : List Mu, dd (dup l) = dd l
  | [] => rfl
  | x :: l => by
    have e : sameU x x = true := by simp [sameU]
    show x :: ddF x (x :: dup l) = x :: ddF x l
    congr 1
    show (if sameU x x then ddF x (dup l) else x :: ddF x (dup l)) = ddF x l
    rw [e, if_pos rfl]
    exact ddF_dup l x
theorem thatC_twice {l k : List Mu} (h : k.Perm l) : thatC (l ++ k) = thatC l := by
  have e : sortU (l ++ k) = dup (sortU l) := by
    refine (sortU_of ?_ (dup_sorted (sortU_sorted l))).symm
    refine (dup_perm _).trans ?_
    exact (sortU_perm l).append ((sortU_perm l).trans h.symm)
  unfold thatC
  rw [e, dd_dup]
theorem appG_perm (G : List Vx) {l k : List Mu} (h : k.Perm l) : appG G k = appG G l := by unfold appG; rw [thatC_perm h]
theorem appG_twice (G : List Vx) {l k : List Mu} (h : k.Perm l) : appG G (l ++ k) = appG G l := by unfold appG; rw [thatC_twice h]
end Go.Proofs.Ythnhmhjcpdomcaa
