/- Requests in their order: slices.SortFunc of a row of one's own. -/
import Derived.Test.YthnhmhjcpdomcaaMuCmp
namespace Go.Proofs.Ythnhmhjcpdomcaa
open Go.RowKit Go.Sort
/-- A row of requests of one's own. -/
def UO (w : World) (base : Nat) (v : Value) (L : List Mu) : Prop := w.ownsRow base 38 4 v L.length (L.flatMap muCells)
theorem mu_len (L : List Mu) : (L.flatMap muCells).length = L.length * 4 := by
  induction L with
  | nil => rfl
  | cons x L ih => rw [List.flatMap_cons, List.length_append, ih]; simp [muCells]; omega
theorem muOne (y : Mu) : ∀ u ∈ muCells y, u.oneCell' = true := by
  intro u hu
  simp [muCells] at hu
  rcases hu with rfl | rfl | rfl | rfl <;> rfl
theorem musOne (L : List Mu) : ∀ u ∈ L.flatMap muCells, u.oneCell' = true := by
  intro u hu
  obtain ⟨y, _, hy⟩ := List.mem_flatMap.1 hu
  exact muOne y u hy
theorem cellsU_get (L : List Mu) (j : Nat) (h : j < L.length) : (L.flatMap muCells)[j * 4]? = some (.int .i64 L[j].k) ∧ (L.flatMap muCells)[j * 4 + 1]? = some (.int .i64 L[j].i) ∧ (L.flatMap muCells)[j * 4 + 2]? = some (.int .i64 L[j].t) ∧ (L.flatMap muCells)[j * 4 + 3]? = some (.int .i64 L[j].v) := by
  have e : L = L.take j ++ L[j] :: L.drop (j + 1) := by rw [← List.drop_eq_getElem_cons h, List.take_append_drop]
  have hl : ((L.take j).flatMap muCells).length = j * 4 := by rw [mu_len, List.length_take]; omega
  generalize hx : L[j] = x at e
  rw [e, List.flatMap_append, List.flatMap_cons]
  refine ⟨?_, ?_, ?_, ?_⟩ <;> (rw [List.getElem?_append_right (by omega), hl]; simp [muCells])
theorem flatU_at (L : List Mu) (q r : Nat) (hq : q < L.length) (hr : r < 4) : (L.flatMap muCells)[q * 4 + r]? = (muCells L[q])[r]? := by
  obtain ⟨a0, a1, a2, a3⟩ := cellsU_get L q hq
  match r, hr with
  | 0, _ => rw [Nat.add_zero, a0]; rfl
  | 1, _ => rw [a1]; rfl
  | 2, _ => rw [a2]; rfl
  | 3, _ => rw [a3]; rfl
theorem flatU_get (L : List Mu) (t : Nat) (h : t < L.length * 4) : (L.flatMap muCells)[t]? = (muCells (L[t / 4]'(by omega)))[t % 4]? := by
  rw [← flatU_at L (t / 4) (t % 4) (by omega) (by omega)]
  congr 1
  omega
theorem flatKU_list [Inhabited Mu] (L : List Mu) : flatK muCells 4 L.toArray = (L.flatMap muCells).toArray := by
  apply Array.ext
  · rw [size_flatK, List.size_toArray, List.size_toArray, mu_len]
  · intro t h1 h2
    rw [size_flatK, List.size_toArray] at h1
    have e := get_flatK muCells 4 L.toArray t (by simpa using h1)
    rw [getElem!_pos _ t (by rw [size_flatK]; simpa using h1)] at e
    rw [e, List.getElem_toArray]
    have hj : t / 4 < L.length := by omega
    have e2 := flatU_get L t h1
    rw [List.getElem?_eq_getElem (by rw [mu_len]; exact h1)] at e2
    have e3 : L.toArray[t / 4]! = L[t / 4] := by rw [getElem!_pos L.toArray (t / 4) (by simpa using hj)]; simp
    rw [e3]
    have h4 : t % 4 < (muCells L[t / 4]).length := by simp [muCells]; omega
    rw [getElem!_pos (muCells L[t / 4]) (t % 4) h4]
    rw [List.getElem?_eq_getElem h4] at e2
    exact (Option.some.inj e2).symm
theorem take_putU (cur : Array Value) (xs : List Value) (h : xs.length ≤ cur.size) : (putCells id 0 xs.toArray cur).toList.take xs.length = xs := by
  apply List.ext_getElem?
  intro j
  by_cases hj : j < xs.length
  · rw [List.getElem?_take_of_lt hj, Array.getElem?_toList]
    simp [putCells, hj, show j < cur.size by omega]
  · rw [List.getElem?_take_eq_none (by omega), List.getElem?_eq_none (by omega)]
theorem sortedU_heap [Inhabited Mu] {w : World} {g n : Nat} {os : Array Obj} {cur : Array Value} {e : TypeId} (L : List Mu) (hb : w.heap[g]? = some (.cells cur e (0, 0))) :
    (sortWorldK muCells 4 w g 0 n L.toArray os).heap[g]? = some (.cells (putCells id 0 (L.flatMap muCells).toArray cur) e (0, 0)) := by
  have hg : g < w.heap.size := (Array.getElem?_eq_some_iff.1 hb).1
  unfold sortWorldK putRowK
  rw [heap_grow_old _ _ (by simpa using hg), flatKU_list]
  simp [putRow, mapBlock, Sort.ahead, Array.getElem?_modify, hb, onCells]
theorem sortedU_grown [Inhabited Mu] {w : World} {g n : Nat} {os : Array Obj} (d : Array Mu) : w.grownBy (sortWorldK muCells 4 w g 0 n d os) (some g) := by
  refine ⟨rfl, rfl, rfl, by simp [sortWorldK, putRowK], fun k hk hne => ?_⟩
  unfold sortWorldK putRowK
  rw [heap_grow_old _ _ (by simpa using hk)]
  have : g ≠ k := fun e => hne (by rw [e])
  simp [putRow, mapBlock, Sort.ahead, Array.getElem?_modify, this]
theorem lt_cmpU (x y : Mu) : ltOf cmpU x y = ult x y := cmpU_lt x y
theorem cmpU_swo : SWO (ltOf cmpU) where
  irrefl x := by rw [lt_cmpU]; exact ult_irrefl x
  trans x y z h1 h2 := by rw [lt_cmpU] at *; exact ult_trans x y z h1 h2
  ntrans x y z h1 h2 := by rw [lt_cmpU] at *; exact ult_ntrans x y z h1 h2
theorem cmpU_total (x y : Mu) (h : ltOf cmpU x y = false) (h' : ltOf cmpU y x = false) : x = y := by
  rw [lt_cmpU] at *
  exact ult_total x y h h'
theorem merge_sortU (L : List Mu) : (L.mergeSort fun x y => !ltOf cmpU y x) = sortU L := by
  unfold sortU
  congr 1
  funext x y
  unfold ule
  rw [lt_cmpU]
theorem aggMu : ∀ w, (isAgg 38).run Try.prog w = .ok true w := Try.isAgg38
theorem sizeMu : ∀ w, (Go.sizeOf 38).run Try.prog w = .ok 4 w := Try.sizeOf38
theorem cmpU_enters : ∀ args w, (callFunc 19 args).run Try.prog w = .ok (.enter 19 args) w := enters_of Try.func19 (by kernel_rfl) rfl
theorem holds_mus [Inhabited Mu] {w : World} {base g n cap : Nat} {L : List Mu} (h : UO w base (.slice (some ⟨g, 0, none⟩) n cap) L) : HoldsK muCells 4 w g 0 L.toArray := by
  intro j hj
  rw [flatKU_list] at hj ⊢
  rw [List.size_toArray] at hj
  have hc : w.cell? ⟨g, 0 + j, none⟩ = some (L.flatMap muCells)[j] := by
    have := World.ownsRow.cells h (g := g) rfl j _ (List.getElem?_eq_getElem hj)
    by_cases e : j = 0
    · subst e; simpa [Addr.add] using this
    · simpa [Addr.add, e] using this
  refine ⟨?_, ?_⟩
  · rw [hc, getElem!_pos _ _ (by simpa using hj)]; simp
  · rcases h.2 with ⟨h1, _⟩ | ⟨g', cap', cur, h1, _, hg, _⟩
    · cases h1
    · cases h1
      simp [World.frozen?, hg]
/-- slices.SortFunc of a row of one's own, not empty. -/
theorem sortFU_any {w : World} {base g cap : Nat} {L : List Mu} (h : UO w base (.slice (some ⟨g, 0, none⟩) L.length cap) L) (hs : L.length < 4611686018427387904) :
    Calls Try.prog 68 #[.slice (some ⟨g, 0, none⟩) L.length cap, .func (.func 19) #[] #[]] w fun e w' => e = .returned (.tuple #[]) ∧ UO w' base (.slice (some ⟨g, 0, none⟩) L.length cap) (sortU L) ∧ w.grownBy w' (some g) := by
  haveI : Inhabited Mu := ⟨⟨0, 0, 0, 0⟩⟩
  have hcon := AnyQ.slices_SortFunc_total layU 4 aggMu sizeMu muCells (fun _ => rfl) (fun x => muOne x) cmpU cmpU_swo 19 #[] g 0 cap L.toArray w cmpU_enters (fun _ _ _ _ x y => compare_mu x y _) (holds_mus h) (World.ownsRow.lt h g rfl).2 (by simpa using hs) cmpU_total
  change Calls Try.prog 68 _ _ _ at hcon
  rw [List.size_toArray, merge_sortU] at hcon
  refine hcon.mono ?_
  rintro e w' ⟨rfl, n, os, rfl⟩
  refine ⟨rfl, ?_, sortedU_grown _⟩
  rcases h.2 with ⟨h1, _⟩ | ⟨g', cap', cur, h1, h2, hg, hn, hc, hcs, ht⟩
  · cases h1
  · cases h1
    refine ⟨mu_len _, Or.inr ⟨g, cap, _, by rw [sortU_len], h2, sortedU_heap _ hg, by rw [sortU_len]; exact hn, hc, by simp [putCells, hcs], ?_⟩⟩
    have := take_putU cur ((sortU L).flatMap muCells) (by rw [mu_len, sortU_len, hcs]; exact Nat.mul_le_mul_right _ hn)
    rwa [mu_len] at this
end Go.Proofs.Ythnhmhjcpdomcaa
