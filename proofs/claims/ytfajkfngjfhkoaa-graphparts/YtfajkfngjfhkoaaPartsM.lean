/- GraphParts: pieces of its code, its boxes, the mathematics of partitions. -/
import Derived.Test.YtfajkfngjfhkoaaGrOfL
import Derived.Test.YtfajkfngjfhkoaaGrRefK
import Derived.Test.YtfajkfngjfhkoaaGrAwake
import Derived.Deep.Cut
import Derived.Deep.RegionHeld
import Derived.Deep.QuietTactic
import Derived.BigQuiet
import Derived.Outline
namespace Go.Proofs.Ytfajkfngjfhkoaa
open Go.RowKit
/-- What lies in a block of a function's code. -/
def inBlk (n : Nat) : Code → Option Code
  | .block m c => if m = n then some c else inBlk n c
  | .loop c => inBlk n c
  | .seq a b => match inBlk n a with
    | some c => some c
    | none => inBlk n b
  | .scope c => inBlk n c
  | .cond _ a b => match inBlk n a with
    | some c => some c
    | none => inBlk n b
  | .rangeFunc _ _ _ b => inBlk n b
  | _ => none
theorem inBlock_false {k : Nat} {K : Act → World → Prop} {Q' : Exit → Act → World → Prop} : ∀ e a w, Exit.inBlock k (Exit.then K (fun _ _ _ => False)) e a w → Exit.inBlock k (Exit.then K Q') e a w := by
  intro e a w h
  cases e with
  | exit id =>
    unfold Exit.inBlock at *
    dsimp only at *
    split
    · rename_i e
      rw [if_pos e] at h
      exact h
    · rename_i e
      rw [if_neg e] at h
      exact h.elim
  | normal => exact h
  | goto l => exact h.elim
  | ret => exact h.elim
  | panic ch => exact h.elim
  | outgrown => exact h.elim
/-- The three boxes that GraphParts begins with. -/
structure PB (w wr : World) (b0 : Nat) (ao : Option Addr) (n cap : Nat) (stop : Int) : Prop where
  gb : wr.heap[b0]? = some (.cells #[.slice ao n cap] 24 (0, 0))
  sb : wr.heap[b0 + 1]? = some (.cells #[.int .i64 stop] 3 (0, 0))
  rb : wr.heap[b0 + 1 + 1]? = some (.cells #[.bool false] 4 (0, 0))
  low : Below w.heap.size w wr
  lo : w.heap.size ≤ b0
theorem PB.new {w wr w' : World} {b0 : Nat} {ao : Option Addr} {n cap : Nat} {stop : Int} (h : PB w wr b0 ao n cap stop) (hb : Below wr.heap.size wr w') : PB w w' b0 ao n cap stop :=
  ⟨(hb.block _ (lt_of_block h.gb)).trans h.gb, (hb.block _ (lt_of_block h.sb)).trans h.sb, (hb.block _ (lt_of_block h.rb)).trans h.rb, h.low.trans (hb.mono h.low.size), h.lo⟩
theorem PB.gc {w wr : World} {b0 : Nat} {ao : Option Addr} {n cap : Nat} {stop : Int} (h : PB w wr b0 ao n cap stop) : wr.cell? ⟨b0, 0, none⟩ = some (.slice ao n cap) := (cl_one h.gb).1
/-- How many vertices are of partitions below a number. -/
def cntLt (G : List Vx) (pp : Int) (k : Nat) : Nat := (G.filter fun v => decide (partN v.id pp < k)).length
theorem partN_bd {id pp : Int} (h : 1 ≤ pp) : 0 ≤ partN id pp ∧ partN id pp < pp := by
  have := tmod_bd id pp (by omega)
  unfold partN
  rw [if_neg (by omega)]
  split <;> omega
theorem cntLt_zero (G : List Vx) (pp : Int) (h : 1 ≤ pp) : cntLt G pp 0 = 0 := by
  unfold cntLt
  rw [List.length_eq_zero_iff, List.filter_eq_nil_iff]
  intro v _
  have := partN_bd (id := v.id) h
  simp
  omega
theorem cntLt_succ (G : List Vx) (pp : Int) (k : Nat) : cntLt G pp (k + 1) = cntLt G pp k + (partG G pp k).length := by
  unfold cntLt partG
  induction G with
  | nil => rfl
  | cons v G ih =>
    simp only [List.filter_cons]
    by_cases h1 : partN v.id pp = k
    · rw [if_pos (by simp; omega), if_neg (by simp; omega), if_pos (by simp [inPart, h1])]
      simp only [List.length_cons, ih]
      omega
    · by_cases h2 : partN v.id pp < k
      · rw [if_pos (by simp; omega), if_pos (by simpa using h2), if_neg (by simp [inPart, h1])]
        simp only [List.length_cons, ih]
        omega
      · rw [if_neg (by simp; omega), if_neg (by simpa using h2), if_neg (by simp [inPart, h1])]
        exact ih
theorem cntLt_all (G : List Vx) (pp : Int) (k : Nat) (h : 1 ≤ pp) (hk : (k : Int) = pp) : cntLt G pp k = G.length := by
  unfold cntLt
  rw [List.filter_eq_self.2]
  intro v _
  have := partN_bd (id := v.id) h
  simp
  omega
theorem cntLt_le (G : List Vx) (pp : Int) (k : Nat) : cntLt G pp k ≤ G.length := List.length_filter_le _ _
theorem rise_pair {l : List Int} : Rise l ↔ l.Pairwise (· < ·) := by
  constructor
  · intro h
    rw [List.pairwise_iff_getElem]
    intro i j hi hj hij
    exact h.lt j i hj hij
  · intro h j hj
    rw [List.pairwise_iff_getElem] at h
    exact h j (j + 1) (by omega) hj (by omega)
theorem rise_part {G : List Vx} (pp p : Int) (h : Rise (ids G)) : Rise (ids (partG G pp p)) := by
  rw [rise_pair] at *
  unfold ids at *
  rw [List.pairwise_map] at *
  exact List.Pairwise.filter _ h
/-- Where a vertex of a partition stands. -/
theorem part_find {G : List Vx} {pp p : Int} (hr : Rise (ids G)) {j : Nat} (hj : j < (partG G pp p).length) : ∃ i, ∃ h : i < G.length, G[i] = (partG G pp p)[j] ∧ findN (ids G) (partG G pp p)[j].id = i ∧ foundB (ids G) (partG G pp p)[j].id = true ∧ partN (partG G pp p)[j].id pp = p := by
  have hm := List.getElem_mem hj
  obtain ⟨h1, h2⟩ := List.mem_filter.1 hm
  obtain ⟨i, hi, e⟩ := List.getElem_of_mem h1
  have hid : (ids G)[i]'(by rw [ids_len]; exact hi) = (partG G pp p)[j].id := by rw [ids_get G i hi, e]
  have hf : findN (ids G) (partG G pp p)[j].id = i := findN_eq (by rw [ids_len]; omega) (fun q hq hqi => by rw [← hid]; exact hr.lt i q (by rw [ids_len]; exact hi) hqi) (fun q hq hiq => by
    rw [← hid]
    by_cases e : q = i
    · subst e; omega
    · have := hr.lt q i hq (by omega); omega)
  refine ⟨i, hi, e, hf, ?_, by simpa [inPart] using h2⟩
  unfold foundB
  rw [hf, List.getElem?_eq_getElem (by rw [ids_len]; exact hi), hid]
  simp
end Go.Proofs.Ytfajkfngjfhkoaa
