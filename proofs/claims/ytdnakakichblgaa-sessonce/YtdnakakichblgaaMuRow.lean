/- Rows that are written in place: cells set one behind the other, clear and copy of elements of several cells. No function of the program is named here. -/
import Derived.Test.YtdnakakichblgaaNum
import Derived.Below
import Derived.Laws.IdiomCopy
import Derived.Lib.AppendZerosOnto
namespace Go.Proofs.Ytdnakakichblgaa
open Go.RowKit
theorem fr_setCells (b : Nat) {S : Nat → Prop} (hS : S b) : ∀ (vs : List Value) (o : Nat) (w : World), Fr w (w.setCells b o vs) S
  | [], _, w => Fr.refl w S
  | v :: r, o, w => (Fr.setCell w ⟨b, o, none⟩ v hS).trans (fr_setCells b hS r (o + 1) _) (fun _ _ h => h)
theorem set_heap {w : World} {b : Nat} {t : TypeId} {f : Nat × Nat} {cs : Array Value} (h : w.heap[b]? = some (.cells cs t f)) (i : Nat) (v : Value) : (w.setCell ⟨b, i, none⟩ v).heap[b]? = some (.cells (cs.setIfInBounds i v) t f) := by
  have hlt : b < w.heap.size := (Array.getElem?_eq_some_iff.1 h).1
  have h' : w.heap[b] = .cells cs t f := by simpa [Array.getElem?_eq_getElem hlt] using h
  show (w.heap.modify b _)[b]? = _
  rw [Array.getElem?_eq_getElem (by simpa using hlt), Array.getElem_modify_self, h']
  rfl
/-- Cells written over others. -/
def over (cur : List Value) (o : Nat) (vs : List Value) : List Value := cur.take o ++ vs ++ cur.drop (o + vs.length)
theorem over_len (cur : List Value) (o : Nat) (vs : List Value) (h : o + vs.length ≤ cur.length) : (over cur o vs).length = cur.length := by
  unfold over; simp; omega
theorem setCells_heap {b : Nat} {t : TypeId} {f : Nat × Nat} : ∀ (vs : List Value) (o : Nat) (w : World) (cur : Array Value), w.heap[b]? = some (.cells cur t f) → o + vs.length ≤ cur.size → (w.setCells b o vs).heap[b]? = some (.cells (over cur.toList o vs).toArray t f)
  | [], o, w, cur, h, _ => by
    unfold over
    simp only [World.setCells, List.append_nil, List.length_nil, Nat.add_zero, List.take_append_drop, Array.toArray_toList]
    exact h
  | v :: r, o, w, cur, h, hl => by
    have ih := setCells_heap r (o + 1) (w.setCell ⟨b, o, none⟩ v) (cur.setIfInBounds o v) (set_heap h o v) (by simp at hl ⊢; omega)
    rw [World.setCells, ih]
    have e : over (cur.setIfInBounds o v).toList (o + 1) r = over cur.toList o (v :: r) := by
      unfold over
      have := list_seg_step cur.toList o v r (by simp at hl ⊢; omega)
      simpa [Array.toList_setIfInBounds, Nat.add_assoc] using this
    rw [e]
/-- A block of a row of one's own. -/
structure Blk (w : World) (base : Nat) (e : TypeId) (size g cap : Nat) (cur : List Value) : Prop where
  low : base ≤ g
  heap : w.heap[g]? = some (.cells cur.toArray e (0, 0))
  max : cap ≤ maxLen
  size : cur.length = cap * size
theorem Blk.own {w : World} {base : Nat} {e : TypeId} {size g cap : Nat} {cur : List Value} (h : Blk w base e size g cap cur) {n : Nat} (hn : n ≤ cap) : w.ownsRow base e size (.slice (some ⟨g, 0, none⟩) n cap) n (cur.take (n * size)) := by
  refine ⟨?_, .inr ⟨g, cap, cur.toArray, rfl, h.low, h.heap, hn, h.max, by simpa using h.size, by simp⟩⟩
  have := Nat.mul_le_mul_right size hn
  rw [List.length_take, h.size]; omega
theorem own_blk {w : World} {base : Nat} {e : TypeId} {size : Nat} {v : Value} {n : Nat} {xs : List Value} (h : w.ownsRow base e size v n xs) (hn : 0 < n) : ∃ g cap cur, v = .slice (some ⟨g, 0, none⟩) n cap ∧ n ≤ cap ∧ Blk w base e size g cap cur ∧ cur.take (n * size) = xs := by
  rcases h.2 with ⟨_, h2⟩ | ⟨g, cap, cur, h1, h2, h3, h4, h5, h6, h7⟩
  · omega
  · exact ⟨g, cap, cur.toList, h1, h4, ⟨h2, by simpa using h3, h5, by simpa using h6⟩, h7⟩
theorem Blk.lt {w : World} {base : Nat} {e : TypeId} {size g cap : Nat} {cur : List Value} (h : Blk w base e size g cap cur) : g < w.heap.size := (Array.getElem?_eq_some_iff.1 h.heap).1
theorem Blk.set {w : World} {base : Nat} {e : TypeId} {size g cap : Nat} {cur : List Value} (h : Blk w base e size g cap cur) (o : Nat) (vs : List Value) (hl : o + vs.length ≤ cap * size) : Blk (w.setCells g o vs) base e size g cap (over cur o vs) := by
  refine ⟨h.low, ?_, h.max, ?_⟩
  · have := setCells_heap vs o w _ h.heap (by simpa [h.size] using hl)
    simpa using this
  · rw [over_len _ _ _ (by rw [h.size]; exact hl), h.size]
theorem Blk.drew {w : World} {base : Nat} {e : TypeId} {size g cap : Nat} {cur : List Value} (h : Blk w base e size g cap cur) : Blk w.drew base e size g cap cur := ⟨h.low, h.heap, h.max, h.size⟩
theorem Blk.cell {w : World} {base : Nat} {e : TypeId} {size g cap : Nat} {cur : List Value} (h : Blk w base e size g cap cur) (j : Nat) : w.cell? ⟨g, j, none⟩ = cur[j]? := by
  simp [World.cell?, h.heap]
theorem Blk.there {w : World} {base : Nat} {e : TypeId} {size g cap : Nat} {cur : List Value} (h : Blk w base e size g cap cur) {j : Nat} (hj : j < cap * size) : (w.cell? ⟨g, j, none⟩).isSome = true := by
  rw [h.cell, List.getElem?_eq_getElem (by rw [h.size]; exact hj)]; rfl
theorem Blk.soft {w : World} {base : Nat} {e : TypeId} {size g cap : Nat} {cur : List Value} (h : Blk w base e size g cap cur) (j : Nat) : w.frozen? ⟨g, j, none⟩ = false := by
  simp [World.frozen?, h.heap]
theorem over_take_at (cur : List Value) (o : Nat) (vs : List Value) (h : o ≤ cur.length) : (over cur o vs).take (o + vs.length) = cur.take o ++ vs := by
  unfold over
  rw [List.take_append_of_le_length (by simp; omega), List.take_of_length_le (by simp; omega)]
theorem over_take_lo (cur : List Value) (o : Nat) (vs : List Value) {n : Nat} (h : n ≤ o) (ho : o ≤ cur.length) : (over cur o vs).take n = cur.take n := by
  unfold over
  rw [List.append_assoc, List.take_append_of_le_length (by simp; omega), List.take_take, Nat.min_eq_left h]
theorem over_one {cur vs : List Value} {o : Nat} (h : ∀ u ∈ cur, u.oneCell' = true) (h' : ∀ u ∈ vs, u.oneCell' = true) : ∀ u ∈ over cur o vs, u.oneCell' = true := by
  intro u hu
  unfold over at hu
  simp only [List.mem_append] at hu
  rcases hu with (hu | hu) | hu
  · exact h u (List.mem_of_mem_take hu)
  · exact h' u hu
  · exact h u (List.mem_of_mem_drop hu)
section
variable {P : Program}
theorem wp_clear_run (w : World) {o : Oper} {a : Act} {K : Act → World → Prop} {Q : Exit → Act → World → Prop} (d : Operand) (t : TypeId)
    (ho : o.op = .call { callee := .builtin .clear, args := #[d], argTypes := #[t] }) (v : Value) (hd : a.eval d = v) {v' : Value} {w' : World}
    (hr : (Builtin.clear_ #[t] o.type #[v]).run P w = .ok v' w') (h : K (a.put o.dst v') w') : o.wp P a w K Q := by
  unfold Oper.wp execOp
  simp only [ho, resolve, invoke, builtin, Sem.run_bind, Sem.run_pure, Result.andThen_ok, List.map_toArray, List.map_cons, List.map_nil, hd, hr]
  exact h
theorem wpList_clear_run (w : World) {ops : Array Oper} {rest : List Oper} {o : Oper} {a : Act} {Q : Exit → Act → World → Prop} (hgd : o.guard = none) (d : Operand) (t : TypeId)
    (ho : o.op = .call { callee := .builtin .clear, args := #[d], argTypes := #[t] }) (v : Value) (hd : a.eval d = v) {v' : Value} {w' : World}
    (hr : (Builtin.clear_ #[t] o.type #[v]).run P w = .ok v' w') (h : wpList P ops Q rest (a.put o.dst v') w') : wpList P ops Q (o :: rest) a w :=
  wpList_plain hgd fun _ hK => wp_clear_run w d t ho v hd hr (hK _ _ h)
theorem wp_copy_run (w : World) {o : Oper} {a : Act} {K : Act → World → Prop} {Q : Exit → Act → World → Prop} (d s : Operand) (t t' : TypeId)
    (ho : o.op = .call { callee := .builtin .copy, args := #[d, s], argTypes := #[t, t'] }) (v u : Value) (hd : a.eval d = v) (hs : a.eval s = u) {v' : Value} {w' : World}
    (hr : (Builtin.copy_ #[t, t'] o.type #[v, u]).run P w = .ok v' w') (h : K (a.put o.dst v') w') : o.wp P a w K Q := by
  unfold Oper.wp execOp
  simp only [ho, resolve, invoke, builtin, Sem.run_bind, Sem.run_pure, Result.andThen_ok, List.map_toArray, List.map_cons, List.map_nil, hd, hs, hr]
  exact h
theorem wpList_copy_run (w : World) {ops : Array Oper} {rest : List Oper} {o : Oper} {a : Act} {Q : Exit → Act → World → Prop} (hgd : o.guard = none) (d s : Operand) (t t' : TypeId)
    (ho : o.op = .call { callee := .builtin .copy, args := #[d, s], argTypes := #[t, t'] }) (v u : Value) (hd : a.eval d = v) (hs : a.eval s = u) {v' : Value} {w' : World}
    (hr : (Builtin.copy_ #[t, t'] o.type #[v, u]).run P w = .ok v' w') (h : wpList P ops Q rest (a.put o.dst v') w') : wpList P ops Q (o :: rest) a w :=
  wpList_plain hgd fun _ hK => wp_copy_run w d s t t' ho v u hd hs hr (hK _ _ h)
theorem step_copy_run {ops : Array Oper} {o : Oper} {a : Act} {w : World} {K : Act → World → Prop} {Q : Exit → Act → World → Prop} {E : Prop}
    (hg : o.guard = none) (d x : Operand) (dT sT : TypeId) (hop : o.op = Op.call { callee := Callee.builtin Builtin.copy, args := #[d, x], argTypes := #[dT, sT] })
    (v u : Value) (hd : a.eval d = v) (hx : a.eval x = u) {v' : Value} {w' : World} (hr : (Builtin.copy_ #[dT, sT] o.type #[v, u]).run P w = .ok v' w') (hK : K (a.put o.dst v') w') :
    if Region.wanted o (yielded ops a.tmps) = true then Oper.wp P o a w K Q else E := by
  have hw : Region.wanted o (yielded ops a.tmps) = true := by simp [Region.wanted, hg]
  rw [if_pos hw]
  unfold Oper.wp
  simp [execOp, hop, resolve, invoke, builtin, hd, hx, hr, Result.andThen]
  exact hK
theorem zc_one {z : Array Value} {n : Nat} (hs : 0 < z.size) (h1 : ∀ v ∈ z.toList, v.oneCell' = true) : ∀ v ∈ (Builtin.zeroCells z n).toList, v.oneCell' = true := by
  intro v hv
  simp only [Builtin.zeroCells, Array.toList_map, List.mem_map] at hv
  obtain ⟨i, _, rfl⟩ := hv
  rw [getElem!_pos z (i % z.size) (Nat.mod_lt _ hs)]
  exact h1 _ (by simp)
theorem zc_len (z : Array Value) (n : Nat) : (Builtin.zeroCells z n).toList.length = n * z.size := by simp [Builtin.zeroCells]
/-- clear of a slice whose elements have several cells. -/
theorem run_clear_k (w : World) (t e ty : TypeId) (z : Value) (ht : P.underlying t = some (.slice e)) (hv : ∀ w, (zeroValue e).run P w = .ok z w) (hs : 0 < z.cells.size) (h1 : ∀ v ∈ z.cells.toList, v.oneCell' = true) (b o n c : Nat) (hn : 0 < n)
    (hc : ∀ j, j < n * z.cells.size → (w.cell? ⟨b, o + j, none⟩).isSome = true) (hf : ∀ j, j < n * z.cells.size → w.frozen? ⟨b, o + j, none⟩ = false) :
    (Builtin.clear_ #[t] ty #[.slice (some ⟨b, o, none⟩) n c]).run P w = .ok (.tuple #[]) (w.setCells b o (Builtin.zeroCells z.cells n).toList) := by
  have hst := run_storeCells_cells (P := P) b o (Builtin.zeroCells z.cells n).toList 0 w (by rw [zc_len]; simpa using hc) (by rw [zc_len]; simpa using hf) (zc_one hs h1)
  simp only [Nat.add_zero] at hst
  obtain ⟨m, rfl⟩ : ∃ m, n = m + 1 := ⟨n - 1, by omega⟩
  simp [Builtin.clear_, run_underlying ht, hv, hst]
/-- copy of elements of several cells: all is read before anything is written. -/
theorem run_copy_k (w : World) (dT sT ty elem : TypeId) (i : TypeInfo) (b o dLen dCap : Nat) (a : Addr) (sLen sCap m : Nat) (cs : List Value)
    (hu : P.underlying dT = some (.slice elem)) (hi : P.info? elem = some i) (hm : Nat.min sLen dLen = m) (hn : cs.length = m * i.size)
    (hsrc : ∀ j v, cs[j]? = some v → w.cell? (a.add j) = some v) (hc : ∀ j, j < cs.length → (w.cell? ⟨b, o + j, none⟩).isSome = true) (hf : ∀ j, j < cs.length → w.frozen? ⟨b, o + j, none⟩ = false) (h1 : ∀ v ∈ cs, v.oneCell' = true) :
    (Builtin.copy_ #[dT, sT] ty #[.slice (some ⟨b, o, none⟩) dLen dCap, .slice (some a) sLen sCap]).run P w = .ok (goInt m) (w.setCells b o cs) := by
  have hl := run_loadCells_list (P := P) w a cs hsrc
  rw [hn] at hl
  have hst := run_storeCells_cells (P := P) b o cs 0 w (by simpa using hc) (by simpa using hf) h1
  simp [Builtin.copy_, run_underlying hu, Builtin.lenOf, Builtin.firstCells, sizeOf, typeInfo, hi, hm, hl, hst]
end
end Go.Proofs.Ytdnakakichblgaa
