/- The document's files behind a change. -/
import Derived.Test.YthpojidkmmflhaaRfWo
namespace Go.Proofs.Ythpojidkmmflhaa
open Go.RowKit Go.Maps
attribute [local go_sem] Oper.semAt_some
section
variable {w : World} {v : Value} {l : Fl} {nm tt ss : Bs}
theorem done_start (k : Int) (h : FlAt w v l) : ∃ W q, w.alloc (.cells #[.int .i64 k, .string (str nm), .string (str tt), .string (str ss)] 66) = W ∧ w.heap.size = q ∧ FlAt W v l ∧ Below w.heap.size w W ∧ W.cell? ⟨q, 0, none⟩ = some (.int .i64 k) ∧ W.cell? ⟨q, 1, none⟩ = some (.string (str nm)) ∧ W.cell? ⟨q, 2, none⟩ = some (.string (str tt)) ∧ W.cell? ⟨q, 3, none⟩ = some (.string (str ss)) := by
  have hB := one_newD w (.cells #[.int .i64 k, .string (str nm), .string (str tt), .string (str ss)] 66)
  exact ⟨_, _, rfl, rfl, row_new h hB, hB, (box4 (heap_alloc_new _ _)).1, (box4 (heap_alloc_new _ _)).2.1, (box4 (heap_alloc_new _ _)).2.2.1, (box4 (heap_alloc_new _ _)).2.2.2⟩
set_option linter.unusedSimpArgs false in
set_option maxRecDepth 100000 in
set_option maxHeartbeats 4000000 in
theorem done_0 (h : FlAt w v l) (hl : l.length ≤ 1000000) (hf : (ofF nm l).length + ss.length ≤ maxLen) : Calls Try.prog 34 #[v, .agg #[.int .i64 0, .string (str nm), .string (str tt), .string (str ss)]] w fun r w' => ∃ v', r = .returned v' ∧ FlAt w' v' (putF nm (ofF nm l ++ ss) l) ∧ Below w.heap.size w w' := by
  obtain ⟨W, q, hW, hq, hM, hB, c0, c1, c2, c3⟩ := done_start (nm := nm) (tt := tt) (ss := ss) 0 h
  obtain ⟨Wd, hWd⟩ : ∃ Wd, W.drew = Wd := ⟨_, rfl⟩
  have hBd : Below w.heap.size w Wd := by rw [← hWd]; exact hB.drew
  have bd : Below W.heap.size W Wd := by rw [← hWd]; exact Below.drew (Below.refl _ _)
  have z1 := (bd.cell (p := ⟨q, 1, none⟩) (lt_cellD c1)).trans c1
  have z2 := (bd.cell (p := ⟨q, 2, none⟩) (lt_cellD c2)).trans c2
  have z3 := (bd.cell (p := ⟨q, 3, none⟩) (lt_cellD c3)).trans c3
  have HB : Hid (Below w.heap.size w Wd) := hBd
  have HM : Hid (FlAt Wd v l) := row_new hM bd
  have HOf : Hid (∀ V, Below Wd.heap.size Wd V → Calls Try.prog 49 #[v, .string (str nm)] V fun r w' => r = .returned (.string (str (ofF nm l))) ∧ Below V.heap.size V w') := fun V hV => of_any (row_new HM.out hV) hl
  have HWi : Hid (∀ V y, Below Wd.heap.size Wd V → Calls Try.prog 53 #[v, .string (str nm), .string (str y)] V fun r w' => ∃ v', r = .returned v' ∧ FlAt w' v' (putF nm y l) ∧ Below V.heap.size V w') := fun V y hV => with_any (row_new HM.out hV) hl
  have hadd := add_len hf
  have HAp : Hid (str (ofF nm l) ++ str ss = str (ofF nm l ++ ss)) := str_append _ _
  generalize ofF nm l = oo at *
  clear hM hB hBd bd h hf
  go_enter Try.func34, Try.ntmps34
  go_upto_region 3 with (fail)
  clear c0 c1 c2 c3
  refine wp_calmD ?_
  refine wp_region_L [11] (fun w' : World => w'.cell? ⟨q, 1, none⟩ = some (.string (str nm)) ∧ w'.cell? ⟨q, 2, none⟩ = some (.string (str tt)) ∧ w'.cell? ⟨q, 3, none⟩ = some (.string (str ss))) (by kernel_rfl) ?_
  rw [hWd]
  clear hWd hW hq
  have hS : (fun w' : World => w'.cell? ⟨q, 1, none⟩ = some (.string (str nm)) ∧ w'.cell? ⟨q, 2, none⟩ = some (.string (str tt)) ∧ w'.cell? ⟨q, 3, none⟩ = some (.string (str ss))) Wd := ⟨z1, z2, z3⟩
  refine wpAnyL_take (i := 0) 9 (v := v) rfl rfl (by kernel_rfl) (by kernel_rfl) (by kernel_rfl) (by kernel_rfl) (by kernel_rfl) (by kernel_rfl) (fun _ _ _ h => h) hS (by rfl) (by intro w' hSw; obtain ⟨z1, z2, z3⟩ := hSw; go_simp <;> with_reducible rfl) ?_
  simp only [Act.put, List.setIfInBounds_toArray, List.set_cons_zero, List.set_cons_succ]
  refine wpAnyL_take (i := 1) 10 (v := .pointer (some ⟨q, 1, none⟩)) rfl rfl (by kernel_rfl) (by kernel_rfl) (by kernel_rfl) (by kernel_rfl) (by kernel_rfl) (by kernel_rfl) (fun _ _ _ h => h) hS (by rfl) (by intro w' hSw; obtain ⟨z1, z2, z3⟩ := hSw; go_simp <;> with_reducible rfl) ?_
  simp only [Act.put, List.setIfInBounds_toArray, List.set_cons_zero, List.set_cons_succ]
  refine wpAnyL_take (i := 2) 11 (v := .string (str nm)) rfl rfl (by kernel_rfl) (by kernel_rfl) (by kernel_rfl) (by kernel_rfl) (by kernel_rfl) (by kernel_rfl) (fun _ _ _ h => h) hS (by rfl) (by intro w' hSw; obtain ⟨z1, z2, z3⟩ := hSw; go_simp <;> with_reducible rfl) ?_
  simp only [Act.put, List.setIfInBounds_toArray, List.set_cons_zero, List.set_cons_succ]
  refine wpAnyL_take (i := 3) 12 (v := v) rfl rfl (by kernel_rfl) (by kernel_rfl) (by kernel_rfl) (by kernel_rfl) (by kernel_rfl) (by kernel_rfl) (fun _ _ _ h => h) hS (by rfl) (by intro w' hSw; obtain ⟨z1, z2, z3⟩ := hSw; go_simp <;> with_reducible rfl) ?_
  simp only [Act.put, List.setIfInBounds_toArray, List.set_cons_zero, List.set_cons_succ]
  refine wpAnyL_take (i := 4) 13 (v := .pointer (some ⟨q, 1, none⟩)) rfl rfl (by kernel_rfl) (by kernel_rfl) (by kernel_rfl) (by kernel_rfl) (by kernel_rfl) (by kernel_rfl) (fun _ _ _ h => h) hS (by rfl) (by intro w' hSw; obtain ⟨z1, z2, z3⟩ := hSw; go_simp <;> with_reducible rfl) ?_
  simp only [Act.put, List.setIfInBounds_toArray, List.set_cons_zero, List.set_cons_succ]
  refine wpAnyL_take (i := 5) 14 (v := .string (str nm)) rfl rfl (by kernel_rfl) (by kernel_rfl) (by kernel_rfl) (by kernel_rfl) (by kernel_rfl) (by kernel_rfl) (fun _ _ _ h => h) hS (by rfl) (by intro w' hSw; obtain ⟨z1, z2, z3⟩ := hSw; go_simp <;> with_reducible rfl) ?_
  simp only [Act.put, List.setIfInBounds_toArray, List.set_cons_zero, List.set_cons_succ]
  refine wpAnyL_take (i := 7) 16 (v := .pointer (some ⟨q, 3, none⟩)) rfl rfl (by kernel_rfl) (by kernel_rfl) (by kernel_rfl) (by kernel_rfl) (by kernel_rfl) (by kernel_rfl) (fun _ _ _ h => h) hS (by rfl) (by intro w' hSw; obtain ⟨z1, z2, z3⟩ := hSw; go_simp <;> with_reducible rfl) ?_
  simp only [Act.put, List.setIfInBounds_toArray, List.set_cons_zero, List.set_cons_succ]
  refine wpAnyL_take (i := 8) 17 (v := .string (str ss)) rfl rfl (by kernel_rfl) (by kernel_rfl) (by kernel_rfl) (by kernel_rfl) (by kernel_rfl) (by kernel_rfl) (fun _ _ _ h => h) hS (by rfl) (by intro w' hSw; obtain ⟨z1, z2, z3⟩ := hSw; go_simp <;> with_reducible rfl) ?_
  simp only [Act.put, List.setIfInBounds_toArray, List.set_cons_zero, List.set_cons_succ]
  refine wpAnyL_one (i := 6) (by kernel_rfl) rfl (fun Ka hKa => ?_)
  go_simp
  refine Calls.mono (HOf.out Wd (Below.refl _ _)) ?_
  rintro r w1 ⟨rfl, hb1⟩
  have hS1 : (fun w' : World => w'.cell? ⟨q, 1, none⟩ = some (.string (str nm)) ∧ w'.cell? ⟨q, 2, none⟩ = some (.string (str tt)) ∧ w'.cell? ⟨q, 3, none⟩ = some (.string (str ss))) w1 := ⟨(hb1.cell (p := ⟨q, 1, none⟩) (lt_cellD z1)).trans z1, (hb1.cell (p := ⟨q, 2, none⟩) (lt_cellD z2)).trans z2, (hb1.cell (p := ⟨q, 3, none⟩) (lt_cellD z3)).trans z3⟩
  have HB1 : Hid (Below Wd.heap.size Wd w1) := hb1
  refine hKa.out _ _ (fun _ => hS1) ?_
  clear hKa Ka hb1
  try simp only [Act.put, List.setIfInBounds_toArray, List.set_cons_zero, List.set_cons_succ]
  refine wpAnyL_one (i := 9) (by kernel_rfl) rfl (fun Kb hKb => ?_)
  go_simp
  refine hKb.out _ _ (fun _ => hS1) ?_
  clear hKb Kb
  try simp only [Act.put, List.setIfInBounds_toArray, List.set_cons_zero, List.set_cons_succ]
  rw [HAp.out]
  refine wpAnyL_one (i := 10) (by kernel_rfl) rfl (fun Kc hKc => ?_)
  go_simp
  refine Calls.mono (HWi.out w1 _ HB1.out) ?_
  rintro r w2 ⟨v', rfl, m2, hb2⟩
  have HM2 : Hid (FlAt w2 v' (putF nm (oo ++ ss) l)) := m2
  have HB2 : Hid (Below w1.heap.size w1 w2) := hb2
  refine hKc.out _ _ (fun _ => ⟨(hb2.cell (p := ⟨q, 1, none⟩) (lt_cellD hS1.1)).trans hS1.1, (hb2.cell (p := ⟨q, 2, none⟩) (lt_cellD hS1.2.1)).trans hS1.2.1, (hb2.cell (p := ⟨q, 3, none⟩) (lt_cellD hS1.2.2)).trans hS1.2.2⟩) ?_
  clear hKc Kc m2 hb2
  try simp only [Act.put, List.setIfInBounds_toArray, List.set_cons_zero, List.set_cons_succ]
  refine wpAnyL_one (i := 11) (by kernel_rfl) rfl (fun Kd hKd => ?_)
  go_simp
  refine hKd.out _ _ (fun h => absurd h (Bool.eq_false_iff.1 (by kernel_rfl))) ?_
  clear hKd Kd
  refine wpAnyL_done (by kernel_rfl) ?_ _
  go_wp2_with (fail)
  go_ret
  exact ⟨_, rfl, HM2.out, (HB.out.trans (HB1.out.mono HB.out.size)).trans (HB2.out.mono (Nat.le_trans HB.out.size HB1.out.size))⟩
set_option maxRecDepth 100000 in
set_option maxHeartbeats 1000000 in
theorem done_1 (h : FlAt w v l) (hl : l.length ≤ 1000000) : Calls Try.prog 34 #[v, .agg #[.int .i64 1, .string (str nm), .string (str tt), .string (str ss)]] w fun r w' => ∃ v', r = .returned v' ∧ FlAt w' v' (putF nm ss l) ∧ Below w.heap.size w w' := by
  obtain ⟨W, q, hW, hq, hM, hB, c0, c1, c2, c3⟩ := done_start (nm := nm) (tt := tt) (ss := ss) 1 h
  have hWi : Calls Try.prog 53 #[v, .string (str nm), .string (str ss)] W fun r w' => ∃ v', r = .returned v' ∧ FlAt w' v' (putF nm ss l) ∧ Below W.heap.size W w' := with_any hM hl
  have HB : Hid (Below w.heap.size w W) := hB
  clear hM hB h
  go_enter Try.func34, Try.ntmps34
  go_wp2_with (go_at_call 53; refine hWi.mono ?_; rintro r w2 ⟨v', rfl, m2, hb2⟩; have HM2 : Hid _ := m2; have HB2 : Hid _ := hb2; clear m2 hb2)
  go_ret
  exact ⟨_, rfl, HM2.out, HB.out.trans (HB2.out.mono HB.out.size)⟩
set_option maxRecDepth 100000 in
set_option maxHeartbeats 1000000 in
theorem done_3 (h : FlAt w v l) (hl : l.length ≤ 1000000) : Calls Try.prog 34 #[v, .agg #[.int .i64 3, .string (str nm), .string (str tt), .string (str ss)]] w fun r w' => ∃ v', r = .returned v' ∧ FlAt w' v' (delF nm l) ∧ Below w.heap.size w w' := by
  obtain ⟨W, q, hW, hq, hM, hB, c0, c1, c2, c3⟩ := done_start (nm := nm) (tt := tt) (ss := ss) 3 h
  have hWi : Calls Try.prog 54 #[v, .string (str nm)] W fun r w' => ∃ v', r = .returned v' ∧ FlAt w' v' (delF nm l) ∧ Below W.heap.size W w' := without_any hM hl
  have HB : Hid (Below w.heap.size w W) := hB
  clear hM hB h
  go_enter Try.func34, Try.ntmps34
  go_wp2_with (go_at_call 54; refine hWi.mono ?_; rintro r w2 ⟨v', rfl, m2, hb2⟩; have HM2 : Hid _ := m2; have HB2 : Hid _ := hb2; clear m2 hb2)
  go_ret
  exact ⟨_, rfl, HM2.out, HB.out.trans (HB2.out.mono HB.out.size)⟩
set_option linter.unusedSimpArgs false in
set_option maxRecDepth 100000 in
set_option maxHeartbeats 4000000 in
theorem done_2 (h : FlAt w v l) (hl : l.length ≤ 1000000) : Calls Try.prog 34 #[v, .agg #[.int .i64 2, .string (str nm), .string (str tt), .string (str ss)]] w fun r w' => ∃ v', r = .returned v' ∧ FlAt w' v' (putF tt (ofF nm l) (delF nm l)) ∧ Below w.heap.size w w' := by
  obtain ⟨W, q, hW, hq, hM, hB, c0, c1, c2, c3⟩ := done_start (nm := nm) (tt := tt) (ss := ss) 2 h
  obtain ⟨Wd, hWd⟩ : ∃ Wd, W.drew = Wd := ⟨_, rfl⟩
  have hBd : Below w.heap.size w Wd := by rw [← hWd]; exact hB.drew
  have bd : Below W.heap.size W Wd := by rw [← hWd]; exact Below.drew (Below.refl _ _)
  have z1 := (bd.cell (p := ⟨q, 1, none⟩) (lt_cellD c1)).trans c1
  have z2 := (bd.cell (p := ⟨q, 2, none⟩) (lt_cellD c2)).trans c2
  have z3 := (bd.cell (p := ⟨q, 3, none⟩) (lt_cellD c3)).trans c3
  have HB : Hid (Below w.heap.size w Wd) := hBd
  have HM : Hid (FlAt Wd v l) := row_new hM bd
  have HOf : Hid (∀ V, Below Wd.heap.size Wd V → Calls Try.prog 49 #[v, .string (str nm)] V fun r w' => r = .returned (.string (str (ofF nm l))) ∧ Below V.heap.size V w') := fun V hV => of_any (row_new HM.out hV) hl
  have HWo : Hid (Calls Try.prog 54 #[v, .string (str nm)] Wd fun r w' => ∃ v', r = .returned v' ∧ FlAt w' v' (delF nm l) ∧ Below Wd.heap.size Wd w') := without_any HM.out hl
  have HDl : Hid ((delF nm l).length ≤ 1000000) := Nat.le_trans (len_delF nm l) hl
  generalize ofF nm l = oo at *
  clear hM hB hBd bd h
  go_enter Try.func34, Try.ntmps34
  go_upto_region 7 with (fail)
  clear c0 c1 c2 c3
  refine wp_calmD ?_
  refine wp_region_L [11] (fun w' : World => w'.cell? ⟨q, 1, none⟩ = some (.string (str nm)) ∧ w'.cell? ⟨q, 2, none⟩ = some (.string (str tt)) ∧ w'.cell? ⟨q, 3, none⟩ = some (.string (str ss))) (by kernel_rfl) ?_
  rw [hWd]
  clear hWd hW hq
  have hS : (fun w' : World => w'.cell? ⟨q, 1, none⟩ = some (.string (str nm)) ∧ w'.cell? ⟨q, 2, none⟩ = some (.string (str tt)) ∧ w'.cell? ⟨q, 3, none⟩ = some (.string (str ss))) Wd := ⟨z1, z2, z3⟩
  refine wpAnyL_take (i := 0) 30 (v := v) rfl rfl (by kernel_rfl) (by kernel_rfl) (by kernel_rfl) (by kernel_rfl) (by kernel_rfl) (by kernel_rfl) (fun _ _ _ h => h) hS (by rfl) (by intro w' hSw; obtain ⟨z1, z2, z3⟩ := hSw; go_simp <;> with_reducible rfl) ?_
  simp only [Act.put, List.setIfInBounds_toArray, List.set_cons_zero, List.set_cons_succ]
  refine wpAnyL_take (i := 1) 31 (v := .pointer (some ⟨q, 1, none⟩)) rfl rfl (by kernel_rfl) (by kernel_rfl) (by kernel_rfl) (by kernel_rfl) (by kernel_rfl) (by kernel_rfl) (fun _ _ _ h => h) hS (by rfl) (by intro w' hSw; obtain ⟨z1, z2, z3⟩ := hSw; go_simp <;> with_reducible rfl) ?_
  simp only [Act.put, List.setIfInBounds_toArray, List.set_cons_zero, List.set_cons_succ]
  refine wpAnyL_take (i := 2) 32 (v := .string (str nm)) rfl rfl (by kernel_rfl) (by kernel_rfl) (by kernel_rfl) (by kernel_rfl) (by kernel_rfl) (by kernel_rfl) (fun _ _ _ h => h) hS (by rfl) (by intro w' hSw; obtain ⟨z1, z2, z3⟩ := hSw; go_simp <;> with_reducible rfl) ?_
  simp only [Act.put, List.setIfInBounds_toArray, List.set_cons_zero, List.set_cons_succ]
  refine wpAnyL_take (i := 4) 34 (v := .pointer (some ⟨q, 2, none⟩)) rfl rfl (by kernel_rfl) (by kernel_rfl) (by kernel_rfl) (by kernel_rfl) (by kernel_rfl) (by kernel_rfl) (fun _ _ _ h => h) hS (by rfl) (by intro w' hSw; obtain ⟨z1, z2, z3⟩ := hSw; go_simp <;> with_reducible rfl) ?_
  simp only [Act.put, List.setIfInBounds_toArray, List.set_cons_zero, List.set_cons_succ]
  refine wpAnyL_take (i := 5) 35 (v := .string (str tt)) rfl rfl (by kernel_rfl) (by kernel_rfl) (by kernel_rfl) (by kernel_rfl) (by kernel_rfl) (by kernel_rfl) (fun _ _ _ h => h) hS (by rfl) (by intro w' hSw; obtain ⟨z1, z2, z3⟩ := hSw; go_simp <;> with_reducible rfl) ?_
  simp only [Act.put, List.setIfInBounds_toArray, List.set_cons_zero, List.set_cons_succ]
  refine wpAnyL_take (i := 6) 36 (v := v) rfl rfl (by kernel_rfl) (by kernel_rfl) (by kernel_rfl) (by kernel_rfl) (by kernel_rfl) (by kernel_rfl) (fun _ _ _ h => h) hS (by rfl) (by intro w' hSw; obtain ⟨z1, z2, z3⟩ := hSw; go_simp <;> with_reducible rfl) ?_
  simp only [Act.put, List.setIfInBounds_toArray, List.set_cons_zero, List.set_cons_succ]
  refine wpAnyL_take (i := 7) 37 (v := .pointer (some ⟨q, 1, none⟩)) rfl rfl (by kernel_rfl) (by kernel_rfl) (by kernel_rfl) (by kernel_rfl) (by kernel_rfl) (by kernel_rfl) (fun _ _ _ h => h) hS (by rfl) (by intro w' hSw; obtain ⟨z1, z2, z3⟩ := hSw; go_simp <;> with_reducible rfl) ?_
  simp only [Act.put, List.setIfInBounds_toArray, List.set_cons_zero, List.set_cons_succ]
  refine wpAnyL_take (i := 8) 38 (v := .string (str nm)) rfl rfl (by kernel_rfl) (by kernel_rfl) (by kernel_rfl) (by kernel_rfl) (by kernel_rfl) (by kernel_rfl) (fun _ _ _ h => h) hS (by rfl) (by intro w' hSw; obtain ⟨z1, z2, z3⟩ := hSw; go_simp <;> with_reducible rfl) ?_
  simp only [Act.put, List.setIfInBounds_toArray, List.set_cons_zero, List.set_cons_succ]
  refine wpAnyL_one (i := 3) (by kernel_rfl) rfl (fun Ka hKa => ?_)
  go_simp
  refine Calls.mono HWo.out ?_
  rintro r w1 ⟨v1, rfl, m1, hb1⟩
  have hS1 : (fun w' : World => w'.cell? ⟨q, 1, none⟩ = some (.string (str nm)) ∧ w'.cell? ⟨q, 2, none⟩ = some (.string (str tt)) ∧ w'.cell? ⟨q, 3, none⟩ = some (.string (str ss))) w1 := ⟨(hb1.cell (p := ⟨q, 1, none⟩) (lt_cellD z1)).trans z1, (hb1.cell (p := ⟨q, 2, none⟩) (lt_cellD z2)).trans z2, (hb1.cell (p := ⟨q, 3, none⟩) (lt_cellD z3)).trans z3⟩
  have HB1 : Hid (Below Wd.heap.size Wd w1) := hb1
  have HM1 : Hid (FlAt w1 v1 (delF nm l)) := m1
  refine hKa.out _ _ (fun _ => hS1) ?_
  clear hKa Ka hb1 m1
  try simp only [Act.put, List.setIfInBounds_toArray, List.set_cons_zero, List.set_cons_succ]
  refine wpAnyL_one (i := 9) (by kernel_rfl) rfl (fun Kb hKb => ?_)
  go_simp
  refine Calls.mono (HOf.out w1 HB1.out) ?_
  rintro r w2 ⟨rfl, hb2⟩
  have hS2 : (fun w' : World => w'.cell? ⟨q, 1, none⟩ = some (.string (str nm)) ∧ w'.cell? ⟨q, 2, none⟩ = some (.string (str tt)) ∧ w'.cell? ⟨q, 3, none⟩ = some (.string (str ss))) w2 := ⟨(hb2.cell (p := ⟨q, 1, none⟩) (lt_cellD hS1.1)).trans hS1.1, (hb2.cell (p := ⟨q, 2, none⟩) (lt_cellD hS1.2.1)).trans hS1.2.1, (hb2.cell (p := ⟨q, 3, none⟩) (lt_cellD hS1.2.2)).trans hS1.2.2⟩
  have HB2 : Hid (Below w1.heap.size w1 w2) := hb2
  refine hKb.out _ _ (fun _ => hS2) ?_
  clear hKb Kb hb2
  try simp only [Act.put, List.setIfInBounds_toArray, List.set_cons_zero, List.set_cons_succ]
  refine wpAnyL_one (i := 10) (by kernel_rfl) rfl (fun Kc hKc => ?_)
  go_simp
  have hW3 : Calls Try.prog 53 #[v1, .string (str tt), .string (str oo)] w2 fun r w' => ∃ v', r = .returned v' ∧ FlAt w' v' (putF tt oo (delF nm l)) ∧ Below w2.heap.size w2 w' := with_any (row_new HM1.out HB2.out) HDl.out
  refine Calls.mono hW3 ?_
  rintro r w3 ⟨v', rfl, m3, hb3⟩
  have HM3 : Hid (FlAt w3 v' (putF tt oo (delF nm l))) := m3
  have HB3 : Hid (Below w2.heap.size w2 w3) := hb3
  refine hKc.out _ _ (fun _ => ⟨(hb3.cell (p := ⟨q, 1, none⟩) (lt_cellD hS2.1)).trans hS2.1, (hb3.cell (p := ⟨q, 2, none⟩) (lt_cellD hS2.2.1)).trans hS2.2.1, (hb3.cell (p := ⟨q, 3, none⟩) (lt_cellD hS2.2.2)).trans hS2.2.2⟩) ?_
  clear hKc Kc m3 hb3 hW3
  try simp only [Act.put, List.setIfInBounds_toArray, List.set_cons_zero, List.set_cons_succ]
  refine wpAnyL_one (i := 11) (by kernel_rfl) rfl (fun Kd hKd => ?_)
  go_simp
  refine hKd.out _ _ (fun h => absurd h (Bool.eq_false_iff.1 (by kernel_rfl))) ?_
  clear hKd Kd
  refine wpAnyL_done (by kernel_rfl) ?_ _
  go_wp2_with (fail)
  go_ret
  have b12 := HB1.out.trans (HB2.out.mono HB1.out.size)
  have b13 := b12.trans (HB3.out.mono (Nat.le_trans HB1.out.size HB2.out.size))
  exact ⟨_, rfl, HM3.out, HB.out.trans (b13.mono HB.out.size)⟩
end
theorem done_any {w : World} {v : Value} {l : Fl} (h : FlAt w v l) (c : Chg) (hc : c.k = 0 ∨ c.k = 1 ∨ c.k = 2 ∨ c.k = 3) (hl : l.length ≤ 1000000) (hf : (ofF c.nm l).length + c.s.length ≤ maxLen) : Calls Try.prog 34 #[v, .agg #[.int .i64 c.k, .string (str c.nm), .string (str c.to), .string (str c.s)]] w fun r w' => ∃ v', r = .returned v' ∧ FlAt w' v' (doF l c) ∧ Below w.heap.size w w' := by
  obtain ⟨k, nm, tt, s⟩ := c
  simp only at hc hf
  rcases hc with rfl | rfl | rfl | rfl
  · exact done_0 h hl hf
  · exact done_1 h hl
  · exact done_2 h hl
  · exact done_3 h hl
end Go.Proofs.Ythpojidkmmflhaa
