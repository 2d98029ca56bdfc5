import Derived.Test.YtnhjflebaeokeaaGreatVwF3M
/- An entry that is committed; what must be kept. -/
namespace Go.Proofs.YtnhjflebaeokeaaGreat
open Go.RowKit Go.Maps
attribute [local go_sem] Oper.semAt_some
section
variable {w : World} {S : Nat → Prop} {p : Nat} {A : Nd} {lv : Value} {mw mg mu mk : Nat}
set_option maxRecDepth 100000 in
set_option maxHeartbeats 800000 in
theorem entry_out (h : NA w S p A lv mw mg mu mk) (ok : A.ok) {ix : Int} (hix : ix ≤ A.bi ∨ A.cm < ix) : Calls Tryz.prog 66 #[.pointer (some ⟨p, 0, none⟩), .int .i64 ix] w fun r w' => r = .returned (.tuple #[.agg #[.int .i64 0, .string (str [])], .bool false]) ∧ Below w.heap.size w w' := by
  have HH : Hid (NA w S p A lv mw mg mu mk) := h
  have HO : Hid A.ok := ok
  obtain ⟨_, _, _, _, c4, _, _, _, c8, _⟩ := h.cells
  generalize A.bi = bi at c4 hix
  generalize A.cm = cm at c8 hix
  clear h ok
  go_enter Tryz.func66, Tryz.ntmps66
  go_upto_region 1 with (fail)
  generalize hW : World.alloc _ _ = W
  have hB : Below w.heap.size w W := by rw [← hW]; exact vone_new w _
  have hZ : W.heap[w.heap.size]? = some (.cells #[.int .i64 0, .string (str [])] 106 (0, 0)) := by rw [← hW]; exact heap_alloc_new w _
  have d4 := (hB.cell (p := ⟨p, 4, none⟩) (vlt_cell c4)).trans c4
  have d8 := (hB.cell (p := ⟨p, 8, none⟩) (vlt_cell c8)).trans c8
  have HD : Hid (NA W S p A lv mw mg mu mk) := HH.out.new hB
  obtain ⟨z0, z1, f0, f1⟩ := vbox2 hZ
  obtain ⟨q, hq⟩ : ∃ q, w.heap.size = q := ⟨_, rfl⟩
  rw [hq] at hB hZ z0 z1 f0 f1 ⊢
  have HZ : Hid _ := hZ
  have HB : Hid (Below q w W) := hB
  have HQ : Hid (w.heap.size = q) := hq
  clear hW c4 c8 hB hZ HH hq
  have done : ∀ (V : World), V = (W.setCell ⟨q, 0, none⟩ (.int .i64 0)).setCell ⟨q, 1, none⟩ (.string (str [])) → Below w.heap.size w V := fun V e => by
    have hB2 := HB.out
    rw [HQ.out, e]
    exact hB2.trans (Fr.below (vset2_fr _ q _ _) (by have := hB2.size; have := HQ.out; omega) (fun k e => by omega))
  have HDone : Hid _ := done
  clear done
  by_cases h1 : ix ≤ bi
  · clear hix
    go_wp2_with (go_at_call 54; refine (none_ok HD.out HO.out).mono ?_; rintro r w1 ⟨rfl, rfl⟩)
    refine bodyPost_ret (v := .tuple #[.agg #[.int .i64 0, .string (str [])], .bool false]) (res_ctV Tryz.results66 _ _ q 106 _ (0, 0) _ rfl (vset2 _ _ HZ.out) Tryz.underlying106 rfl size_ent) rfl ?_
    exact ⟨rfl, HDone.out _ rfl⟩
  · have h2 : cm < ix := by omega
    clear hix
    go_wp2_with (go_at_call 54; refine (none_ok HD.out HO.out).mono ?_; rintro r w1 ⟨rfl, rfl⟩)
    refine bodyPost_ret (v := .tuple #[.agg #[.int .i64 0, .string (str [])], .bool false]) (res_ctV Tryz.results66 _ _ q 106 _ (0, 0) _ rfl (vset2 _ _ HZ.out) Tryz.underlying106 rfl size_ent) rfl ?_
    exact ⟨rfl, HDone.out _ rfl⟩
set_option maxRecDepth 100000 in
set_option maxHeartbeats 800000 in
theorem entry_in (h : NA w S p A lv mw mg mu mk) (ok : A.ok) {ix : Int} {j : Nat} (hj : j < A.log.length) (hix : ix - A.bi - 1 = j) (hc : ix ≤ A.cm) : Calls Tryz.prog 66 #[.pointer (some ⟨p, 0, none⟩), .int .i64 ix] w fun r w' => r = .returned (.tuple #[.agg #[.int .i64 A.log[j].v, .string A.log[j].s], .bool true]) ∧ Below w.heap.size w w' := by
  have HH : Hid (NA w S p A lv mw mg mu mk) := h
  have HO : Hid A.ok := ok
  obtain ⟨_, _, _, _, c4, _, _, _, c8, _⟩ := h.cells
  obtain ⟨e, he⟩ : ∃ e, A.log[j] = e := ⟨_, rfl⟩
  have HA : Hid (∀ W, NA W S p A lv mw mg mu mk → Calls Tryz.prog 101 #[.pointer (some ⟨p, 0, none⟩), .int .i64 ix] W fun r w' => r = .returned (.agg #[.int .i64 e.v, .string e.s]) ∧ Below W.heap.size W w') := fun W hW => by rw [← he]; exact vat_any hW ok hj hix
  rw [he]
  have h1 : ¬ ix ≤ A.bi := by omega
  have h2 : ¬ A.cm < ix := by omega
  generalize A.bi = bi at c4 h1
  generalize A.cm = cm at c8 h2
  clear h ok he hj hix hc
  go_enter Tryz.func66, Tryz.ntmps66
  go_upto_region 1 with (fail)
  generalize hW : World.alloc _ _ = W
  have hB : Below w.heap.size w W := by rw [← hW]; exact vone_new w _
  have hZ : W.heap[w.heap.size]? = some (.cells #[.int .i64 0, .string (str [])] 106 (0, 0)) := by rw [← hW]; exact heap_alloc_new w _
  have d4 := (hB.cell (p := ⟨p, 4, none⟩) (vlt_cell c4)).trans c4
  have d8 := (hB.cell (p := ⟨p, 8, none⟩) (vlt_cell c8)).trans c8
  have HD : Hid (NA W S p A lv mw mg mu mk) := HH.out.new hB
  obtain ⟨q, hq⟩ : ∃ q, w.heap.size = q := ⟨_, rfl⟩
  rw [hq] at hB hZ ⊢
  have HZ : Hid _ := hZ
  have HB : Hid (Below q w W) := hB
  have HQ : Hid (w.heap.size = q) := hq
  clear hW c4 c8 hB hZ HH hq
  go_upto_region 3 with (go_at_call 54; refine (none_ok HD.out HO.out).mono ?_; rintro r w1 ⟨rfl, rfl⟩)
  go_wp2_with (go_at_call 101; refine Calls.mono (HA.out _ HD.out) ?_; rintro r w1 ⟨rfl, hb1⟩; have HZ1 : Hid (w1.heap[q]? = some (.cells #[.int .i64 0, .string (str [])] 106 (0, 0))) := (hb1.block q (vlt_blk HZ.out)).trans HZ.out; obtain ⟨z0, z1, f0, f1⟩ := vbox2 HZ1.out; have HB1 : Hid (Below q w w1) := HB.out.trans (hb1.mono (by have := HB.out.size; have := HQ.out; omega)); clear hb1)
  refine bodyPost_ret (v := .tuple #[.agg #[.int .i64 e.v, .string e.s], .bool true]) (res_ctV Tryz.results66 _ _ q 106 _ (0, 0) _ rfl (vset2 _ _ HZ1.out) Tryz.underlying106 rfl size_ent) rfl ?_
  have hQ := HQ.out
  have hB2 := HB1.out
  rw [hQ]
  exact ⟨rfl, hB2.trans (Fr.below (vset2_fr _ q _ _) (by have := hB2.size; omega) (fun k e => by omega))⟩
end
end Go.Proofs.YtnhjflebaeokeaaGreat
