/- slices.CompactFunc of requests: the walk. -/
import Derived.Test.YthnhmhjcpdomcaaMuComp
import Derived.Deep.RegionHeld
import Derived.Deep.Cut
import Derived.Deep.DeepCutAuto
namespace Go.Proofs.Ythnhmhjcpdomcaa
open Go.RowKit Go.Sort
theorem over_take_in' (cur : List Value) (o : Nat) (vs : List Value) {N : Nat} (h : o + vs.length ≤ N) (hN : N ≤ cur.length) : (over cur o vs).take N = over (cur.take N) o vs := by
  unfold over
  rw [List.take_append, List.take_of_length_le (by simp; omega), List.take_take, Nat.min_eq_left (by omega), List.drop_take]
  congr 1
  congr 1
  simp
  omega
theorem own_new' {w w' : World} {base : Nat} {e : TypeId} {size : Nat} {v : Value} {n : Nat} {xs : List Value} (h : w.ownsRow base e size v n xs) (hb : Below w.heap.size w w') : w'.ownsRow base e size v n xs := by
  refine ⟨h.1, ?_⟩
  rcases h.2 with hn | ⟨g, cap, cur, rfl, h2, hg, rest⟩
  · exact .inl hn
  · exact .inr ⟨g, cap, cur, rfl, h2, (hb.block g (Array.getElem?_eq_some_iff.1 hg).1).trans hg, rest⟩
/-- The four cells of a request in a row. -/
def UC (w : World) (g o : Nat) (x : Mu) : Prop := w.cell? ⟨g, o, none⟩ = some (.int .i64 x.k) ∧ w.cell? ⟨g, o + 1, none⟩ = some (.int .i64 x.i) ∧ w.cell? ⟨g, o + 2, none⟩ = some (.int .i64 x.t) ∧ w.cell? ⟨g, o + 3, none⟩ = some (.int .i64 x.v)
theorem UC.new {w w' : World} {g o : Nat} {x : Mu} (h : UC w g o x) (hb : Below w.heap.size w w') : UC w' g o x := by
  have f := Fr.ofBelow hb (fun _ => False)
  exact ⟨fr_cell f (fun h => h) h.1, fr_cell f (fun h => h) h.2.1, fr_cell f (fun h => h) h.2.2.1, fr_cell f (fun h => h) h.2.2.2⟩
theorem UC.drew {w w' : World} {g o : Nat} {x : Mu} (h : UC w g o x) (hb : Below w.drew.heap.size w.drew w') : UC w' g o x := UC.new (w := w.drew) h hb
theorem UO.cells {w : World} {base g n cap : Nat} {R : List Mu} (h : UO w base (.slice (some ⟨g, 0, none⟩) n cap) R) {j : Nat} (hj : j < R.length) : UC w g (j * 4) R[j] := by
  have hc : ∀ i u, (R.flatMap muCells)[i]? = some u → w.cell? ⟨g, i, none⟩ = some u := fun i u hu => by
    have := World.ownsRow.cells h (g := g) rfl i u hu
    rwa [Addr.add_lit, Nat.zero_add] at this
  obtain ⟨a0, a1, a2, a3⟩ := cellsU_get R j hj
  exact ⟨hc _ _ a0, hc _ _ a1, hc _ _ a2, hc _ _ a3⟩
theorem UO.soft {w : World} {base g n cap : Nat} {R : List Mu} (h : UO w base (.slice (some ⟨g, 0, none⟩) n cap) R) (o : Nat) : w.frozen? ⟨g, o, none⟩ = false := by
  rcases h.2 with ⟨h1, _⟩ | ⟨g', cap', cur, h1, _, hg, _⟩
  · cases h1
  · cases h1
    simp [World.frozen?, hg]
theorem UO.new {w w' : World} {base : Nat} {v : Value} {R : List Mu} (h : UO w base v R) (hb : Below w.heap.size w w') : UO w' base v R := own_new' h hb
theorem over_mu (A B : List Mu) (x y : Mu) : over ((A ++ y :: B).flatMap muCells) (A.length * 4) (muCells x) = (A ++ x :: B).flatMap muCells := by
  have hl := mu_len A
  unfold over
  rw [List.flatMap_append, List.flatMap_cons, List.take_left' hl, show A.length * 4 + (muCells x).length = A.length * 4 + 4 from rfl]
  rw [← List.append_assoc, List.drop_left' (by rw [List.length_append, hl]; rfl), List.flatMap_append, List.flatMap_cons, List.append_assoc]
/-- A request stored into a row. -/
theorem UO.set {w : World} {base g n cap : Nat} {R : List Mu} (h : UO w base (.slice (some ⟨g, 0, none⟩) n cap) R) {j : Nat} (hj : j < R.length) (x : Mu) :
    UO (w.setCells g (j * 4) (muCells x)) base (.slice (some ⟨g, 0, none⟩) n cap) (R.set j x) := by
  obtain ⟨g', cap', cur, h1, hn, hB, ht⟩ := own_blk h (by omega)
  cases h1
  have hmul := Nat.mul_le_mul_right 4 hn
  have hsz := hB.size
  have hB2 := (hB.set (j * 4) (muCells x) (by show j * 4 + 4 ≤ _; omega)).own hn
  rw [over_take_in' _ _ _ (by show j * 4 + 4 ≤ _; omega) (by omega), ht] at hB2
  have e : R = R.take j ++ R[j] :: R.drop (j + 1) := by rw [← List.drop_eq_getElem_cons hj, List.take_append_drop]
  have e2 : over (R.flatMap muCells) (j * 4) (muCells x) = (R.set j x).flatMap muCells := by
    have := over_mu (R.take j) (R.drop (j + 1)) x R[j]
    rw [← e, List.length_take, Nat.min_eq_left (by omega)] at this
    rw [this, List.set_eq_take_append_cons_drop, if_pos hj]
  rw [e2] at hB2
  unfold UO
  rw [List.length_set]
  exact hB2
end Go.Proofs.Ythnhmhjcpdomcaa
