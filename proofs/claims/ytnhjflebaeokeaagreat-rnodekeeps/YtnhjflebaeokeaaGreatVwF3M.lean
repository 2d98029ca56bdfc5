import Derived.Test.YtnhjflebaeokeaaGreatVwF2M
import Derived.Test.YtnhjflebaeokeaaGreatOrdLM
import Derived.Deep.RegionLaw
import Derived.BigRegion
import Derived.Laws.ResultCell
import Derived.Deep.Cut
import Derived.Deep.DeepCutAuto
import Derived.Deep.CutBlock
/- An entry of a master's log, by its index; one that is committed. -/
namespace Go.Proofs.YtnhjflebaeokeaaGreat
open Go.RowKit Go.Maps
attribute [local go_sem] Oper.semAt_some
theorem wp_calmV {P : Program} {c : Code} {Q : Exit → Act → World → Prop} {a : Act} {w : World} (h : c.wp P (Exit.then (fun a w => Q .normal a w) (fun _ _ _ => False)) a w) : c.wp P Q a w := Code.wp_mono (fun e a w h => by cases e <;> first | exact h | exact h.elim) h
theorem res_ctV {fn : Func} {p u : Tmp} {ty : TypeId} (h : fn.results = #[.cell p ty, .tmp u]) (tmps : Array Value) (w : World) (g : Nat) (t : TypeId) (cs : Array Value) (fr : Nat × Nat) (d : TypeDesc)
    (hp : tmps.getD p undef = .pointer (some ⟨g, 0, none⟩)) (hg : w.heap[g]? = some (.cells cs t fr))
    (hu : Tryz.prog.underlying ty = some d) (hd : (match d with | .struct _ | .array _ _ => true | _ => false) = true) (hi : (Tryz.prog.info? ty).map (·.size) = some cs.size) :
    (results fn tmps).run Tryz.prog w = .ok (.tuple #[.agg cs, tmps.getD u undef]) w := by
  rw [results_cell_tmp h, hp]
  have := run_loadVar_row (P := Tryz.prog) w g t ty cs fr d hg hu (by cases d <;> first | rfl | exact hd) hi
  simp [asAddr, this]
theorem size_ent : (Tryz.prog.info? 106).map (·.size) = some 2 := by kernel_rfl
theorem vset2 {W : World} {q : Nat} {t : TypeId} {x0 x1 : Value} (a b : Value) (h : W.heap[q]? = some (.cells #[x0, x1] t (0, 0))) : ((W.setCell ⟨q, 0, none⟩ a).setCell ⟨q, 1, none⟩ b).heap[q]? = some (.cells #[a, b] t (0, 0)) := vblk_set (i := 1) b (vblk_set (i := 0) a h)
theorem vset2_fr (W : World) (q : Nat) (a b : Value) : Fr W ((W.setCell ⟨q, 0, none⟩ a).setCell ⟨q, 1, none⟩ b) (fun k => k = q) := (Fr.setCell (S := fun k => k = q) W ⟨q, 0, none⟩ a rfl).trans (Fr.setCell (S := fun k => k = q) _ ⟨q, 1, none⟩ b rfl) (fun _ _ h => h)
theorem vbox2 {W : World} {q : Nat} {t : TypeId} {x0 x1 : Value} (h : W.heap[q]? = some (.cells #[x0, x1] t (0, 0))) : W.cell? ⟨q, 0, none⟩ = some x0 ∧ W.cell? ⟨q, 1, none⟩ = some x1 ∧ W.frozen? ⟨q, 0, none⟩ = false ∧ W.frozen? ⟨q, 1, none⟩ = false := by
  refine ⟨?_, ?_, ?_, ?_⟩ <;> simp [World.cell?, World.frozen?, h]
section
variable {w : World} {S : Nat → Prop} {p : Nat} {A : Nd} {lv : Value} {mw mg mu mk : Nat}
set_option maxRecDepth 100000 in
set_option maxHeartbeats 1000000 in
theorem vat_any (h : NA w S p A lv mw mg mu mk) (ok : A.ok) {ix : Int} {j : Nat} (hj : j < A.log.length) (hix : ix - A.bi - 1 = j) : Calls Tryz.prog 101 #[.pointer (some ⟨p, 0, none⟩), .int .i64 ix] w fun r w' => r = .returned (.agg #[.int .i64 A.log[j].v, .string A.log[j].s]) ∧ Below w.heap.size w w' := by
  obtain ⟨ao, cc, rfl, hcc, hao⟩ := h.log.shape
  obtain ⟨g, rfl⟩ := hao (by omega)
  obtain ⟨e0, e1⟩ := h.log.at_ j hj
  generalize A.log[j] = e at e0 e1 ⊢
  obtain ⟨_, _, _, _, c4, _, _, c7, _⟩ := h.cells
  have h0 := ok.bi0
  have h1 := ok.bi1
  have h2 := ok.len
  have hjn : (j : Int) < A.log.length := by omega
  generalize A.log.length = n at c7 h2 hjn
  generalize A.bi = bi at c4 h0 h1 hix
  clear h ok hcc hj hao
  have hx0 : 0 ≤ ix := by omega
  have hx1 : ix ≤ 2147485000 := by omega
  have HIX : Hid (ix - bi - 1 = (j : Int)) := hix
  clear hix
  go_enter Tryz.func101, Tryz.ntmps101
  go_upto_region 1 with (fail)
  generalize hW : World.alloc _ _ = W
  have hB : Below w.heap.size w W := by rw [← hW]; exact vone_new w _
  have hZ : W.heap[w.heap.size]? = some (.cells #[.int .i64 0, .string (str [])] 106 (0, 0)) := by rw [← hW]; exact heap_alloc_new w _
  have d4 := (hB.cell (p := ⟨p, 4, none⟩) (vlt_cell c4)).trans c4
  have d7 := (hB.cell (p := ⟨p, 7, none⟩) (vlt_cell c7)).trans c7
  have k0 := (hB.cell (p := ⟨g, j * 2, none⟩) (vlt_cell e0)).trans e0
  have k1 := (hB.cell (p := ⟨g, j * 2 + 1, none⟩) (vlt_cell e1)).trans e1
  clear hW c4 c7 e0 e1
  obtain ⟨q, hq⟩ : ∃ q, w.heap.size = q := ⟨_, rfl⟩
  rw [hq] at hB hZ ⊢
  obtain ⟨Wd, hWd⟩ : ∃ Wd, W.drew = Wd := ⟨_, rfl⟩
  have hB2 : Below q w Wd := by rw [← hWd]; exact Below.drew hB
  have hZ2 : Wd.heap[q]? = some (.cells #[.int .i64 0, .string (str [])] 106 (0, 0)) := by rw [← hWd]; exact hZ
  have x4 : Wd.cell? ⟨p, 4, none⟩ = some (.int .i64 bi) := by rw [← hWd]; exact d4
  have x7 : Wd.cell? ⟨p, 7, none⟩ = some (.slice (some ⟨g, 0, none⟩) n cc) := by rw [← hWd]; exact d7
  have xe : Wd.cell? ⟨g, j * 2, none⟩ = some (.int .i64 e.v) := by rw [← hWd]; exact k0
  have xf : Wd.cell? ⟨g, j * 2 + 1, none⟩ = some (.string e.s) := by rw [← hWd]; exact k1
  have HZ : Hid _ := hZ2
  have HB : Hid (Below q w Wd) := hB2
  have HQ : Hid (w.heap.size = q) := hq
  obtain ⟨z0, z1, f0, f1⟩ := vbox2 hZ2
  clear hB hZ hB2 hZ2 d4 d7 k0 k1 hq
  refine wp_calmV ?_
  refine wp_region_L [15] (fun w' : World => w'.cell? ⟨p, 4, none⟩ = some (.int .i64 bi) ∧ w'.cell? ⟨p, 7, none⟩ = some (.slice (some ⟨g, 0, none⟩) n cc) ∧ w'.cell? ⟨g, j * 2, none⟩ = some (.int .i64 e.v) ∧ w'.cell? ⟨g, j * 2 + 1, none⟩ = some (.string e.s)) (by kernel_rfl) ?_
  rw [hWd]
  clear hWd
  have hS : (fun w' : World => w'.cell? ⟨p, 4, none⟩ = some (.int .i64 bi) ∧ w'.cell? ⟨p, 7, none⟩ = some (.slice (some ⟨g, 0, none⟩) n cc) ∧ w'.cell? ⟨g, j * 2, none⟩ = some (.int .i64 e.v) ∧ w'.cell? ⟨g, j * 2 + 1, none⟩ = some (.string e.s)) Wd := ⟨x4, x7, xe, xf⟩
  have hix := HIX.out
  have hw1 : IntKind.i64.wrap (ix - bi) = ix - bi := IntWalk.i64_in _ (by omega)
  have hw2 : IntKind.i64.wrap (j : Int) = j := IntWalk.i64_in _ (by omega)
  refine wpAnyL_take (i := 0) 5 (v := .pointer (some ⟨p, 0, none⟩)) rfl rfl (by kernel_rfl) (by kernel_rfl) (by kernel_rfl) (by kernel_rfl) (by kernel_rfl) (by kernel_rfl) (fun _ _ _ h => h) hS (by rfl) (by intro w' hSw; obtain ⟨y0, y1, y2, y3⟩ := hSw; go_simp <;> with_reducible rfl) ?_
  simp only [Act.put, List.setIfInBounds_toArray, List.set_cons_zero, List.set_cons_succ]
  refine wpAnyL_take (i := 1) 6 (v := .pointer (some ⟨p, 0, none⟩)) rfl rfl (by kernel_rfl) (by kernel_rfl) (by kernel_rfl) (by kernel_rfl) (by kernel_rfl) (by kernel_rfl) (fun _ _ _ h => h) hS (by rfl) (by intro w' hSw; obtain ⟨y0, y1, y2, y3⟩ := hSw; go_simp <;> with_reducible rfl) ?_
  simp only [Act.put, List.setIfInBounds_toArray, List.set_cons_zero, List.set_cons_succ]
  refine wpAnyL_take (i := 2) 7 (v := .pointer (some ⟨p, 2, none⟩)) rfl rfl (by kernel_rfl) (by kernel_rfl) (by kernel_rfl) (by kernel_rfl) (by kernel_rfl) (by kernel_rfl) (fun _ _ _ h => h) hS (by rfl) (by intro w' hSw; obtain ⟨y0, y1, y2, y3⟩ := hSw; go_simp <;> with_reducible rfl) ?_
  simp only [Act.put, List.setIfInBounds_toArray, List.set_cons_zero, List.set_cons_succ]
  refine wpAnyL_take (i := 3) 8 (v := .pointer (some ⟨p, 7, none⟩)) rfl rfl (by kernel_rfl) (by kernel_rfl) (by kernel_rfl) (by kernel_rfl) (by kernel_rfl) (by kernel_rfl) (fun _ _ _ h => h) hS (by rfl) (by intro w' hSw; obtain ⟨y0, y1, y2, y3⟩ := hSw; go_simp <;> with_reducible rfl) ?_
  simp only [Act.put, List.setIfInBounds_toArray, List.set_cons_zero, List.set_cons_succ]
  refine wpAnyL_take (i := 4) 9 (v := .slice (some ⟨g, 0, none⟩) n cc) rfl rfl (by kernel_rfl) (by kernel_rfl) (by kernel_rfl) (by kernel_rfl) (by kernel_rfl) (by kernel_rfl) (fun _ _ _ h => h) hS (by rfl) (by intro w' hSw; obtain ⟨y0, y1, y2, y3⟩ := hSw; go_simp <;> with_reducible rfl) ?_
  simp only [Act.put, List.setIfInBounds_toArray, List.set_cons_zero, List.set_cons_succ]
  refine wpAnyL_take (i := 5) 10 (v := .int .i64 ix) rfl rfl (by kernel_rfl) (by kernel_rfl) (by kernel_rfl) (by kernel_rfl) (by kernel_rfl) (by kernel_rfl) (fun _ _ _ h => h) hS (by rfl) (by intro w' hSw; obtain ⟨y0, y1, y2, y3⟩ := hSw; go_simp <;> with_reducible rfl) ?_
  simp only [Act.put, List.setIfInBounds_toArray, List.set_cons_zero, List.set_cons_succ]
  refine wpAnyL_take (i := 6) 11 (v := .pointer (some ⟨p, 0, none⟩)) rfl rfl (by kernel_rfl) (by kernel_rfl) (by kernel_rfl) (by kernel_rfl) (by kernel_rfl) (by kernel_rfl) (fun _ _ _ h => h) hS (by rfl) (by intro w' hSw; obtain ⟨y0, y1, y2, y3⟩ := hSw; go_simp <;> with_reducible rfl) ?_
  simp only [Act.put, List.setIfInBounds_toArray, List.set_cons_zero, List.set_cons_succ]
  refine wpAnyL_take (i := 7) 12 (v := .pointer (some ⟨p, 0, none⟩)) rfl rfl (by kernel_rfl) (by kernel_rfl) (by kernel_rfl) (by kernel_rfl) (by kernel_rfl) (by kernel_rfl) (fun _ _ _ h => h) hS (by rfl) (by intro w' hSw; obtain ⟨y0, y1, y2, y3⟩ := hSw; go_simp <;> with_reducible rfl) ?_
  simp only [Act.put, List.setIfInBounds_toArray, List.set_cons_zero, List.set_cons_succ]
  refine wpAnyL_take (i := 8) 13 (v := .pointer (some ⟨p, 2, none⟩)) rfl rfl (by kernel_rfl) (by kernel_rfl) (by kernel_rfl) (by kernel_rfl) (by kernel_rfl) (by kernel_rfl) (fun _ _ _ h => h) hS (by rfl) (by intro w' hSw; obtain ⟨y0, y1, y2, y3⟩ := hSw; go_simp <;> with_reducible rfl) ?_
  simp only [Act.put, List.setIfInBounds_toArray, List.set_cons_zero, List.set_cons_succ]
  refine wpAnyL_take (i := 9) 14 (v := .pointer (some ⟨p, 4, none⟩)) rfl rfl (by kernel_rfl) (by kernel_rfl) (by kernel_rfl) (by kernel_rfl) (by kernel_rfl) (by kernel_rfl) (fun _ _ _ h => h) hS (by rfl) (by intro w' hSw; obtain ⟨y0, y1, y2, y3⟩ := hSw; go_simp <;> with_reducible rfl) ?_
  simp only [Act.put, List.setIfInBounds_toArray, List.set_cons_zero, List.set_cons_succ]
  refine wpAnyL_take (i := 10) 15 (v := .int .i64 bi) rfl rfl (by kernel_rfl) (by kernel_rfl) (by kernel_rfl) (by kernel_rfl) (by kernel_rfl) (by kernel_rfl) (fun _ _ _ h => h) hS (by rfl) (by intro w' hSw; obtain ⟨y0, y1, y2, y3⟩ := hSw; go_simp <;> with_reducible rfl) ?_
  simp only [Act.put, List.setIfInBounds_toArray, List.set_cons_zero, List.set_cons_succ]
  refine wpAnyL_take (i := 11) 16 (v := .int .i64 (ix - bi)) rfl rfl (by kernel_rfl) (by kernel_rfl) (by kernel_rfl) (by kernel_rfl) (by kernel_rfl) (by kernel_rfl) (fun _ _ _ h => h) hS (by rfl) (by intro w' hSw; obtain ⟨y0, y1, y2, y3⟩ := hSw; go_simp <;> with_reducible rfl) ?_
  simp only [Act.put, List.setIfInBounds_toArray, List.set_cons_zero, List.set_cons_succ]
  refine wpAnyL_take (i := 12) 17 (v := .int .i64 j) rfl rfl (by kernel_rfl) (by kernel_rfl) (by kernel_rfl) (by kernel_rfl) (by kernel_rfl) (by kernel_rfl) (fun _ _ _ h => h) hS (by rfl) (by intro w' hSw; obtain ⟨y0, y1, y2, y3⟩ := hSw; go_simp <;> with_reducible rfl) ?_
  simp only [Act.put, List.setIfInBounds_toArray, List.set_cons_zero, List.set_cons_succ]
  refine wpAnyL_take (i := 13) 18 (v := .pointer (some ⟨g, j * 2, none⟩)) rfl rfl (by kernel_rfl) (by kernel_rfl) (by kernel_rfl) (by kernel_rfl) (by kernel_rfl) (by kernel_rfl) (fun _ _ _ h => h) hS (by rfl) (by intro w' hSw; obtain ⟨y0, y1, y2, y3⟩ := hSw; go_simp <;> with_reducible rfl) ?_
  simp only [Act.put, List.setIfInBounds_toArray, List.set_cons_zero, List.set_cons_succ]
  refine wpAnyL_take (i := 14) 19 (v := .agg #[.int .i64 e.v, .string e.s]) rfl rfl (by kernel_rfl) (by kernel_rfl) (by kernel_rfl) (by kernel_rfl) (by kernel_rfl) (by kernel_rfl) (fun _ _ _ h => h) hS (by rfl) (by intro w' hSw; obtain ⟨y0, y1, y2, y3⟩ := hSw; go_simp <;> with_reducible rfl) ?_
  simp only [Act.put, List.setIfInBounds_toArray, List.set_cons_zero, List.set_cons_succ]
  refine wpAnyL_one (i := 15) (by kernel_rfl) rfl (fun Ka hKa => ?_)
  go_simp
  refine hKa.out _ _ (fun h => absurd h (Bool.eq_false_iff.1 (by kernel_rfl))) ?_
  clear hKa Ka
  refine wpAnyL_done (by kernel_rfl) ?_ _
  go_wp2
  refine bodyPost_ret (v := .agg #[.int .i64 e.v, .string e.s]) (results_cell_row Tryz.results101 _ _ q 106 _ (0, 0) _ rfl (vset2 _ _ HZ.out) Tryz.underlying106 rfl size_ent) rfl ?_
  have hQ := HQ.out
  have hB2 := HB.out
  rw [hQ]
  exact ⟨rfl, hB2.trans (Fr.below (vset2_fr _ q _ _) (by have := hB2.size; omega) (fun k e => by omega))⟩
end
end Go.Proofs.YtnhjflebaeokeaaGreat
