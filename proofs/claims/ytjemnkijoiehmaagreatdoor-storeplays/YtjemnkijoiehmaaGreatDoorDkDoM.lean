import Derived.Test.YtjemnkijoiehmaaGreatDoorDkF1M
/- A change is done to a map of files. -/
namespace Go.Proofs.YtjemnkijoiehmaaGreatDoor
open Go.RowKit Go.Maps
attribute [local go_sem] Oper.semAt_some
theorem add_len {a b : Bs} (h : a.length + b.length ≤ maxLen) : ¬ 9223372036854775807 < (str a).size + (str b).size := by
  unfold maxLen at h
  rw [str_size, str_size]
  omega
theorem field_file (s : ByteArray) (W : World) : (Instr.field 72 (.agg #[.string s]) 0).run Tryz.prog W = .ok (.string s) W := by kernel_rfl
def chV (c : Chg) : Value := .agg #[.int .i64 c.k, .string (str c.nm), .string (str c.to), .string (str c.s)]
theorem FMap.new {w w' : World} {b : Nat} {l : Fl} (h : FMap w b l) (hb : Below w.heap.size w w') : FMap w' b l := h.same (hb.block b h.lt)
theorem one_newD (w : World) (x : Obj) : Below w.heap.size w (w.alloc x) := (Below.refl _ _).alloc (Nat.le_refl _) _
theorem box4 {w : World} {b : Nat} {x0 x1 x2 x3 : Value} {t : TypeId} (h : w.heap[b]? = some (.cells #[x0, x1, x2, x3] t (0, 0))) : w.cell? ⟨b, 0, none⟩ = some x0 ∧ w.cell? ⟨b, 1, none⟩ = some x1 ∧ w.cell? ⟨b, 2, none⟩ = some x2 ∧ w.cell? ⟨b, 3, none⟩ = some x3 := by
  simp [World.cell?, h]
section
variable {w : World} {b : Nat} {l : Fl} {nm tq ss : Bs}
theorem do_start (k : Int) (h : FMap w b l) : ∃ W q, w.alloc (.cells #[.int .i64 k, .string (str nm), .string (str tq), .string (str ss)] 86) = W ∧ w.heap.size = q ∧ FMap W b l ∧ Fr w W (fun k => k = b) ∧ W.cell? ⟨q, 0, none⟩ = some (.int .i64 k) ∧ W.cell? ⟨q, 1, none⟩ = some (.string (str nm)) ∧ W.cell? ⟨q, 2, none⟩ = some (.string (str tq)) ∧ W.cell? ⟨q, 3, none⟩ = some (.string (str ss)) ∧ q ≠ b ∧ q < W.heap.size := by
  have hB := one_newD w (.cells #[.int .i64 k, .string (str nm), .string (str tq), .string (str ss)] 86)
  exact ⟨_, _, rfl, rfl, h.new hB, Fr.ofBelow hB _, (box4 (heap_alloc_new _ _)).1, (box4 (heap_alloc_new _ _)).2.1, (box4 (heap_alloc_new _ _)).2.2.1, (box4 (heap_alloc_new _ _)).2.2.2, by have := h.lt; omega, by simp⟩
set_option maxRecDepth 100000 in
set_option maxHeartbeats 400000 in
theorem do_0 (h : FMap w b l) (hl : l.length < maxLen) (hN : nm.length ≤ maxLen) (hf : (ofF nm l).length + ss.length ≤ maxLen) : Calls Tryz.prog 59 #[.agg #[.int .i64 0, .string (str nm), .string (str tq), .string (str ss)], .map (some b)] w fun r w' => r = .returned (.tuple #[]) ∧ FMap w' b (putF nm (ofF nm l ++ ss) l) ∧ Fr w w' (fun k => k = b) := by
  obtain ⟨W, q, hW, hq, hM, hF, c0, c1, c2, c3, _, _⟩ := do_start (nm := nm) (tq := tq) (ss := ss) 0 h
  obtain ⟨w2, hrun, hP, hF2⟩ := hM.put hl hN (ofF nm l ++ ss)
  have hlk := hM.look hN
  have hadd := add_len hf
  have hfd := field_file
  rw [← str_append] at hrun
  have HR : Hid (FMap w2 b (putF nm (ofF nm l ++ ss) l) ∧ Fr w w2 (fun k => k = b)) := ⟨hP, hF.trans hF2 (fun _ _ h => h)⟩
  clear hP hF2 hF hM h
  go_enter Tryz.func59, Tryz.ntmps59
  go_wp2
  go_end0
  exact ⟨rfl, HR.out⟩
set_option maxRecDepth 100000 in
set_option maxHeartbeats 400000 in
theorem do_1 (h : FMap w b l) (hl : l.length < maxLen) (hN : nm.length ≤ maxLen) : Calls Tryz.prog 59 #[.agg #[.int .i64 1, .string (str nm), .string (str tq), .string (str ss)], .map (some b)] w fun r w' => r = .returned (.tuple #[]) ∧ FMap w' b (putF nm ss l) ∧ Fr w w' (fun k => k = b) := by
  obtain ⟨W, q, hW, hq, hM, hF, c0, c1, c2, c3, _, _⟩ := do_start (nm := nm) (tq := tq) (ss := ss) 1 h
  obtain ⟨w2, hrun, hP, hF2⟩ := hM.put hl hN ss
  have HR : Hid (FMap w2 b (putF nm ss l) ∧ Fr w w2 (fun k => k = b)) := ⟨hP, hF.trans hF2 (fun _ _ h => h)⟩
  clear hP hF2 hF hM h
  go_enter Tryz.func59, Tryz.ntmps59
  go_wp2
  go_end0
  exact ⟨rfl, HR.out⟩
theorem swap_putdel (hs : SortF l) (hne : ¬ nm = tq) (v : Bs) : ∀ k, getF k (delF nm (putF tq v l)) = getF k (putF tq v (delF nm l)) := by
  intro k
  rw [getF_del (sort_putF _ _ hs), getF_put hs, getF_put (sort_delF _ hs), getF_del hs]
  by_cases e : k = nm
  · subst e
    rw [if_pos rfl, if_neg hne, if_pos rfl]
  · rw [if_neg e, if_neg e]
set_option maxRecDepth 100000 in
set_option maxHeartbeats 400000 in
theorem do_2 (h : FMap w b l) (hl : l.length < maxLen) (hN : nm.length ≤ maxLen) (hT : tq.length ≤ maxLen) (hne : ¬ nm = tq) : Calls Tryz.prog 59 #[.agg #[.int .i64 2, .string (str nm), .string (str tq), .string (str ss)], .map (some b)] w fun r w' => r = .returned (.tuple #[]) ∧ FMap w' b (putF tq (ofF nm l) (delF nm l)) ∧ Fr w w' (fun k => k = b) := by
  obtain ⟨W, q, hW, hq, hM, hF, c0, c1, c2, c3, hqb, hql⟩ := do_start (nm := nm) (tq := tq) (ss := ss) 2 h
  obtain ⟨w2, hrun, hP, hF2⟩ := hM.put hl hT (ofF nm l)
  have hlk := hM.look hN
  obtain ⟨w3, hrun3, hP3, hF3⟩ := hP.del hN 0
  have d1 : w2.cell? ⟨q, 1, none⟩ = some (.string (str nm)) := by
    have := hF2.block q hql hqb
    rw [← c1]
    simp only [World.cell?, this]
  have HR : Hid (FMap w3 b (putF tq (ofF nm l) (delF nm l)) ∧ Fr w w3 (fun k => k = b)) := ⟨hP3.ext (sort_putF _ _ (sort_delF _ h.1)) (swap_putdel h.1 hne _), (hF.trans hF2 (fun _ _ h => h)).trans hF3 (fun _ _ h => h)⟩
  clear hP hF2 hF hM h hP3 hF3 hne
  go_enter Tryz.func59, Tryz.ntmps59
  go_wp2
  go_end0
  exact ⟨rfl, HR.out⟩
set_option maxRecDepth 100000 in
set_option maxHeartbeats 400000 in
theorem do_3 (h : FMap w b l) (hN : nm.length ≤ maxLen) : Calls Tryz.prog 59 #[.agg #[.int .i64 3, .string (str nm), .string (str tq), .string (str ss)], .map (some b)] w fun r w' => r = .returned (.tuple #[]) ∧ FMap w' b (delF nm l) ∧ Fr w w' (fun k => k = b) := by
  obtain ⟨W, q, hW, hq, hM, hF, c0, c1, c2, c3, _, _⟩ := do_start (nm := nm) (tq := tq) (ss := ss) 3 h
  obtain ⟨w2, hrun, hP, hF2⟩ := hM.del hN 0
  have HR : Hid (FMap w2 b (delF nm l) ∧ Fr w w2 (fun k => k = b)) := ⟨hP, hF.trans hF2 (fun _ _ h => h)⟩
  clear hP hF2 hF hM h
  go_enter Tryz.func59, Tryz.ntmps59
  go_wp2
  go_end0
  exact ⟨rfl, HR.out⟩
end
theorem do_any {w : World} {b : Nat} {l : Fl} (h : FMap w b l) (c : Chg) (hc : c.ok) (hl : l.length < maxLen) (hf : (ofF c.nm l).length + c.s.length ≤ maxLen) : Calls Tryz.prog 59 #[chV c, .map (some b)] w fun r w' => r = .returned (.tuple #[]) ∧ FMap w' b (doF l c) ∧ Fr w w' (fun k => k = b) := by
  obtain ⟨hk, hn1, hn2⟩ := hc
  have h32 : (32 : Nat) ≤ maxLen := by decide
  have hm1 := Nat.le_trans hn1 h32
  have hm2 := Nat.le_trans hn2 h32
  obtain ⟨k, nm, tq, s⟩ := c
  simp only at hk hm1 hm2 hf
  unfold chV
  rcases hk with rfl | rfl | ⟨rfl, hne⟩ | rfl
  · exact do_0 h hl hm1 hf
  · exact do_1 h hl hm1
  · exact do_2 h hl hm1 hm2 hne
  · exact do_3 h hm1
end Go.Proofs.YtjemnkijoiehmaaGreatDoor
