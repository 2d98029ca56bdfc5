/- slices.CompactFunc of requests: of those that ask for the same, one behind the other, the first alone. -/
import Derived.Test.YthnhmhjcpdomcaaMuSort
import Derived.Test.YthnhmhjcpdomcaaGrWalk1
namespace Go.Proofs.Ythnhmhjcpdomcaa
open Go.RowKit Go.Sort
theorem ddF_snoc : ∀ (l : List Mu) (p x : Mu), ddF p (l ++ [x]) = ddF p l ++ (if sameU x (l.getLastD p) then [] else [x])
  | [], p, x => rfl
  | m :: l, p, x => by
    have ih := ddF_snoc l m x
    rw [List.cons_append, show ddF p (m :: (l ++ [x])) = if sameU m p then ddF m (l ++ [x]) else m :: ddF m (l ++ [x]) from rfl, show ddF p (m :: l) = if sameU m p then ddF m l else m :: ddF m l from rfl, ih, List.getLastD_cons]
    split <;> simp
theorem dd_snoc (l : List Mu) (p x : Mu) : dd (p :: l ++ [x]) = dd (p :: l) ++ (if sameU x (l.getLastD p) then [] else [x]) := by
  rw [List.cons_append, show dd (p :: (l ++ [x])) = p :: ddF p (l ++ [x]) from rfl, ddF_snoc]; rfl
theorem last_take {L : List Mu} {j : Nat} (h : j < L.length) {p : Mu} {l : List Mu} (e : L.take (j + 1) = p :: l) : l.getLastD p = L[j] := by
  have h1 : (L.take (j + 1)).getLast? = some L[j] := by
    rw [List.take_succ_eq_append_getElem h]; exact List.getLast?_concat
  rw [e, List.getLast?_cons] at h1
  rw [List.getLastD_eq_getLast?]
  exact Option.some.inj h1
theorem dd_take {L : List Mu} {j k : Nat} (hk : k = j + 1) (h : k < L.length) : dd (L.take (k + 1)) = dd (L.take k) ++ (if sameU (L[k]) (L[j]'(by omega)) then [] else [L[k]]) := by
  subst hk
  cases e : L.take (j + 1) with
  | nil => have := congrArg List.length e; rw [List.length_take, List.length_nil] at this; omega
  | cons p l =>
    rw [List.take_succ_eq_append_getElem h, e, dd_snoc, last_take (by omega) e]
/-- Do two requests ask for the same thing? -/
theorem samething_any (x y : Mu) (w : World) : Calls Try.prog 70 #[.agg #[.int .i64 x.k, .int .i64 x.i, .int .i64 x.t, .int .i64 x.v], .agg #[.int .i64 y.k, .int .i64 y.i, .int .i64 y.t, .int .i64 y.v]] w fun e w' => e = .returned (.bool (sameU x y)) ∧ Below w.heap.size w w' := by
  by_cases h1 : x.k = y.k
  · have e1 : (x.k == y.k) = true := by simpa using h1
    by_cases h2 : x.i = y.i
    · have e2 : (x.i == y.i) = true := by simpa using h2
      have HE : Hid (sameU x y = (x.t == y.t)) := by show _ = _; unfold sameU; rw [e1, e2]; simp
      clear h1 h2
      go_enter Try.func70, Try.ntmps70
      go_wp2
      go_ret
      exact ⟨by rw [HE.out]; rfl, b2 _ _ _⟩
    · have e2 : (x.i == y.i) = false := by simpa using h2
      have HE : Hid (sameU x y = false) := by show _ = _; unfold sameU; rw [e1, e2]; simp
      clear h1 h2
      go_enter Try.func70, Try.ntmps70
      go_wp2
      go_ret
      exact ⟨by rw [HE.out]; rfl, b2 _ _ _⟩
  · have e1 : (x.k == y.k) = false := by simpa using h1
    have HE : Hid (sameU x y = false) := by show _ = _; unfold sameU; rw [e1]; simp
    clear h1
    go_enter Try.func70, Try.ntmps70
    go_wp2
    go_ret
    exact ⟨by rw [HE.out]; rfl, b2 _ _ _⟩
end Go.Proofs.Ythnhmhjcpdomcaa
