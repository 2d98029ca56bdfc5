/- sorted: a list of its own, in order. -/
import Derived.Test.YtfajkfngjfhkoaaCbCmp
namespace Go.Proofs.Ytfajkfngjfhkoaa
open Go.RowKit Go.Sort
theorem flat_at (L : List Msg) (q r : Nat) (hq : q < L.length) (hr : r < 4) : (L.flatMap msgCells)[q * 4 + r]? = (msgCells L[q])[r]? := by
  obtain ⟨a0, a1, a2, a3⟩ := cells_get L q hq
  match r, hr with
  | 0, _ => rw [Nat.add_zero, a0]; rfl
  | 1, _ => rw [a1]; rfl
  | 2, _ => rw [a2]; rfl
  | 3, _ => rw [a3]; rfl
theorem flat_get (L : List Msg) (t : Nat) (h : t < L.length * 4) : (L.flatMap msgCells)[t]? = (msgCells (L[t / 4]'(by omega)))[t % 4]? := by
  rw [← flat_at L (t / 4) (t % 4) (by omega) (by omega)]
  congr 1
  omega
theorem flatK_list [Inhabited Msg] (L : List Msg) : flatK msgCells 4 L.toArray = (L.flatMap msgCells).toArray := by
  apply Array.ext
  · rw [size_flatK, List.size_toArray, List.size_toArray, msg_len]
  · intro t h1 h2
    rw [size_flatK, List.size_toArray] at h1
    have e := get_flatK msgCells 4 L.toArray t (by simpa using h1)
    rw [getElem!_pos _ t (by rw [size_flatK]; simpa using h1)] at e
    rw [e, List.getElem_toArray]
    have hj : t / 4 < L.length := by omega
    have e2 := flat_get L t h1
    rw [List.getElem?_eq_getElem (by rw [msg_len]; exact h1)] at e2
    have e3 : L.toArray[t / 4]! = L[t / 4] := by rw [getElem!_pos L.toArray (t / 4) (by simpa using hj)]; simp
    rw [e3]
    have h4 : t % 4 < (msgCells L[t / 4]).length := by simp [msgCells]; omega
    rw [getElem!_pos (msgCells L[t / 4]) (t % 4) h4]
    rw [List.getElem?_eq_getElem h4] at e2
    exact (Option.some.inj e2).symm
theorem take_put (cur : Array Value) (xs : List Value) (h : xs.length ≤ cur.size) : (putCells id 0 xs.toArray cur).toList.take xs.length = xs := by
  apply List.ext_getElem?
  intro j
  by_cases hj : j < xs.length
  · rw [List.getElem?_take_of_lt hj, Array.getElem?_toList]
    simp [putCells, hj, show j < cur.size by omega]
  · rw [List.getElem?_take_eq_none (by omega), List.getElem?_eq_none (by omega)]
theorem sorted_heap [Inhabited Msg] {w : World} {g n : Nat} {os : Array Obj} {cur : Array Value} {e : TypeId} (L : List Msg) (hb : w.heap[g]? = some (.cells cur e (0, 0))) :
    (sortWorldK msgCells 4 w g 0 n L.toArray os).heap[g]? = some (.cells (putCells id 0 (L.flatMap msgCells).toArray cur) e (0, 0)) := by
  have hg : g < w.heap.size := (Array.getElem?_eq_some_iff.1 hb).1
  unfold sortWorldK putRowK
  rw [heap_grow_old _ _ (by simpa using hg), flatK_list]
  simp [putRow, mapBlock, Sort.ahead, Array.getElem?_modify, hb, onCells]
theorem sorted_grown [Inhabited Msg] {w : World} {g n : Nat} {os : Array Obj} (d : Array Msg) : w.grownBy (sortWorldK msgCells 4 w g 0 n d os) (some g) := by
  refine ⟨rfl, rfl, rfl, by simp [sortWorldK, putRowK], fun k hk hne => ?_⟩
  unfold sortWorldK putRowK
  rw [heap_grow_old _ _ (by simpa using hk)]
  have : g ≠ k := fun e => hne (by rw [e])
  simp [putRow, mapBlock, Sort.ahead, Array.getElem?_modify, this]
theorem lt_cmp (x y : Msg) : ltOf cmpM x y = mlt x y := cmpM_lt x y
theorem cmp_swo : SWO (ltOf cmpM) where
  irrefl x := by rw [lt_cmp]; exact mlt_irrefl x
  trans x y z h1 h2 := by rw [lt_cmp] at *; exact mlt_trans x y z h1 h2
  ntrans x y z h1 h2 := by rw [lt_cmp] at *; exact mlt_ntrans x y z h1 h2
theorem cmp_total (x y : Msg) (h : ltOf cmpM x y = false) (h' : ltOf cmpM y x = false) : x = y := by
  rw [lt_cmp] at *
  exact mlt_total x y h h'
theorem merge_sortM (L : List Msg) : (L.mergeSort fun x y => !ltOf cmpM y x) = sortM L := by
  unfold sortM
  congr 1
  funext x y
  unfold mle
  rw [lt_cmp]
theorem aggMsg : ∀ w, (isAgg 67).run Try.prog w = .ok true w := Try.isAgg67
theorem sizeMsg : ∀ w, (Go.sizeOf 67).run Try.prog w = .ok 4 w := Try.sizeOf67
theorem cmp_enters : ∀ args w, (callFunc 36 args).run Try.prog w = .ok (.enter 36 args) w := enters_of Try.func36 (by kernel_rfl) rfl
theorem holds_msgs [Inhabited Msg] {w : World} {g n cap : Nat} {L : List Msg} (h : Mo w 67 (.slice (some ⟨g, 0, none⟩) n cap) L) : HoldsK msgCells 4 w g 0 L.toArray := by
  intro j hj
  rw [flatK_list] at hj ⊢
  rw [List.size_toArray] at hj
  have hc : w.cell? ⟨g, 0 + j, none⟩ = some (L.flatMap msgCells)[j] := by
    have := World.ownsRow.cells h (g := g) rfl j _ (List.getElem?_eq_getElem hj)
    by_cases e : j = 0
    · subst e; simpa [Addr.add] using this
    · simpa [Addr.add, e] using this
  refine ⟨?_, ?_⟩
  · rw [hc, getElem!_pos _ _ (by simpa using hj)]; simp
  · rcases h.2 with ⟨h1, _⟩ | ⟨g', cap', cur, h1, _, hg, _⟩
    · cases h1
    · cases h1
      simp [World.frozen?, hg]
/-- slices.SortFunc of a row of one's own, not empty. -/
theorem sortF_any {w : World} {g cap : Nat} {L : List Msg} (h : Mo w 67 (.slice (some ⟨g, 0, none⟩) L.length cap) L) (hs : L.length < 4611686018427387904) :
    Calls Try.prog 85 #[.slice (some ⟨g, 0, none⟩) L.length cap, .func (.func 36) #[] #[]] w fun e w' => e = .returned (.tuple #[]) ∧ Mo w' 67 (.slice (some ⟨g, 0, none⟩) L.length cap) (sortM L) ∧ w.grownBy w' (some g) := by
  haveI : Inhabited Msg := ⟨⟨0, 0, 0, 0⟩⟩
  have hcon := AnyQ.slices_SortFunc_total laySort 4 aggMsg sizeMsg msgCells (fun _ => rfl) (fun x => msgOne x) cmpM cmp_swo 36 #[] g 0 cap L.toArray w cmp_enters (fun _ _ _ _ x y => compare_msg x y _) (holds_msgs h) (h.lt g rfl) (by simpa using hs) cmp_total
  change Calls Try.prog 85 _ _ _ at hcon
  rw [List.size_toArray, merge_sortM] at hcon
  refine hcon.mono ?_
  rintro e w' ⟨rfl, n, os, rfl⟩
  refine ⟨rfl, ?_, sorted_grown _⟩
  rcases h.2 with ⟨h1, _⟩ | ⟨g', cap', cur, h1, h2, hg, hn, hc, hcs, ht⟩
  · cases h1
  · cases h1
    refine ⟨msg_len _, Or.inr ⟨g, cap, _, by rw [sortM_len], h2, sorted_heap _ hg, by rw [sortM_len]; exact hn, hc, by simp [putCells, hcs], ?_⟩⟩
    have := take_put cur ((sortM L).flatMap msgCells) (by rw [msg_len, sortM_len, hcs]; exact Nat.mul_le_mul_right _ hn)
    rwa [msg_len] at this
end Go.Proofs.Ytfajkfngjfhkoaa
