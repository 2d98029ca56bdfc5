import Derived.Test.YtjemnkijoiehmaaGreatDoorDkDoM
import Derived.BigQuiet
import Derived.Deep.DeepCutAuto
import Derived.Deep.CutBlock
import Derived.Deep.RegionWith
import Derived.Deep.RegionHeld
/- No fall strikes where there is no plan. -/
namespace Go.Proofs.YtjemnkijoiehmaaGreatDoor
open Go.RowKit Go.Maps
variable {Xm : Nat → Prop}
attribute [local go_sem] Oper.semAt_some
theorem res_ctD {fn : Func} {p u : Tmp} {ty : TypeId} (h : fn.results = #[.cell p ty, .tmp u]) (tmps : Array Value) (w : World) (g : Nat) (t : TypeId) (cs : Array Value) (fr : Nat × Nat) (d : TypeDesc)
    (hp : tmps.getD p undef = .pointer (some ⟨g, 0, none⟩)) (hg : w.heap[g]? = some (.cells cs t fr))
    (hu : Tryz.prog.underlying ty = some d) (hd : (match d with | .struct _ | .array _ _ => true | _ => false) = true) (hi : (Tryz.prog.info? ty).map (·.size) = some cs.size) :
    (results fn tmps).run Tryz.prog w = .ok (.tuple #[.agg cs, tmps.getD u undef]) w := by
  rw [results_cell_tmp h, hp]
  have := run_loadVar_row (P := Tryz.prog) w g t ty cs fr d hg hu (by cases d <;> first | rfl | exact hd) hi
  simp [asAddr, this]
theorem size_fall : (Tryz.prog.info? 105).map (·.size) = some 3 := by kernel_rfl
theorem blk_set {w : World} {g i : Nat} {cs : Array Value} {t : TypeId} (v : Value) (h : w.heap[g]? = some (.cells cs t (0, 0))) : (w.setCell ⟨g, i, none⟩ v).heap[g]? = some (.cells (cs.setIfInBounds i v) t (0, 0)) := by
  have hlt := lt_blk h
  have h' : w.heap[g] = .cells cs t (0, 0) := by simpa [Array.getElem?_eq_getElem hlt] using h
  show (w.heap.modify g _)[g]? = _
  rw [Array.getElem?_eq_getElem (by simpa using hlt), Array.getElem_modify_self, h']
  rfl
theorem heap_drewD (w : World) (n : Nat) : (w.drewN n).heap = w.heap := by
  induction n with
  | zero => rfl
  | succ n ih => exact ih
theorem bel_drewD {w w' : World} {B : Nat} (h : Below B w w') (n : Nat) : Below B w (w'.drewN n) := by
  induction n with
  | zero => exact h
  | succ n ih => exact ih.drew
theorem box3 {w : World} {b : Nat} {x0 x1 x2 : Value} {t : TypeId} (h : w.heap[b]? = some (.cells #[x0, x1, x2] t (0, 0))) : w.cell? ⟨b, 0, none⟩ = some x0 ∧ w.cell? ⟨b, 1, none⟩ = some x1 ∧ w.cell? ⟨b, 2, none⟩ = some x2 ∧ w.frozen? ⟨b, 0, none⟩ = false ∧ w.frozen? ⟨b, 1, none⟩ = false ∧ w.frozen? ⟨b, 2, none⟩ = false := by
  simp [World.cell?, World.frozen?, h]
theorem set3_fr (w : World) (g : Nat) (x0 x1 x2 : Value) : Fr w (((w.setCell ⟨g, 0, none⟩ x0).setCell ⟨g, 1, none⟩ x1).setCell ⟨g, 2, none⟩ x2) (fun k => k = g) :=
  ((Fr.setCell (S := fun k => k = g) w ⟨g, 0, none⟩ x0 rfl).trans (Fr.setCell (S := fun k => k = g) _ ⟨g, 1, none⟩ x1 rfl) (fun _ _ h => h)).trans (Fr.setCell (S := fun k => k = g) _ ⟨g, 2, none⟩ x2 rfl) (fun _ _ h => h)
theorem set3 {w : World} {g : Nat} {c0 c1 c2 : Value} {t : TypeId} (x0 x1 x2 : Value) (h : w.heap[g]? = some (.cells #[c0, c1, c2] t (0, 0))) : (((w.setCell ⟨g, 0, none⟩ x0).setCell ⟨g, 1, none⟩ x1).setCell ⟨g, 2, none⟩ x2).heap[g]? = some (.cells #[x0, x1, x2] t (0, 0)) := by
  have h1 : (w.setCell ⟨g, 0, none⟩ x0).heap[g]? = some (.cells #[x0, c1, c2] t (0, 0)) := blk_set x0 h
  have h2 : ((w.setCell ⟨g, 0, none⟩ x0).setCell ⟨g, 1, none⟩ x1).heap[g]? = some (.cells #[x0, x1, c2] t (0, 0)) := blk_set x1 h1
  exact blk_set x2 h2
/-- A plan in memory: falls, in order. -/
def PlanIs (w : World) (v : Value) (L : List (Int × Int × Int)) : Prop := ∃ ao c, v = .slice ao L.length c ∧ L.length ≤ c ∧ (0 < L.length → ∃ g off cs f, ao = some ⟨g, off, none⟩ ∧ w.heap[g]? = some (.cells cs 105 f) ∧ ∀ j (h : j < L.length), w.cell? ⟨g, off + j * 3, none⟩ = some (.int .i64 L[j].1) ∧ w.cell? ⟨g, off + j * 3 + 1, none⟩ = some (.int .i64 L[j].2.1) ∧ w.cell? ⟨g, off + j * 3 + 2, none⟩ = some (.int .i64 L[j].2.2))
theorem PlanIs.nil (w : World) : PlanIs w (.slice none 0 0) [] := ⟨none, 0, rfl, Nat.le_refl _, fun h => absurd h (by simp)⟩
theorem PlanIs.kept {w w' : World} {v : Value} {L : List (Int × Int × Int)} (h : PlanIs w v L) (hb : ∀ (g : Nat) (cs : Array Value) (f : Nat × Nat), w.heap[g]? = some (.cells cs 105 f) → w'.heap[g]? = w.heap[g]?) : PlanIs w' v L := by
  obtain ⟨ao, c, rfl, h1, h2⟩ := h
  refine ⟨ao, c, rfl, h1, fun h0 => ?_⟩
  obtain ⟨g, off, cs, f, e, h3, h4⟩ := h2 h0
  have hg := hb g cs f h3
  refine ⟨g, off, cs, f, e, hg.trans h3, fun j hj => ?_⟩
  obtain ⟨a0, a1, a2⟩ := h4 j hj
  exact ⟨(World.cell?_of_block (a := ⟨g, off + j * 3, none⟩) hg).trans a0, (World.cell?_of_block (a := ⟨g, off + j * 3 + 1, none⟩) hg).trans a1, (World.cell?_of_block (a := ⟨g, off + j * 3 + 2, none⟩) hg).trans a2⟩
theorem PlanIs.new {w w' : World} {v : Value} {L : List (Int × Int × Int)} (h : PlanIs w v L) (hb : Below w.heap.size w w') : PlanIs w' v L := h.kept (fun g _ _ hg => hb.block g (lt_blk hg))
theorem PlanIs.frD {w w' : World} {B : Nat} {v : Value} {L : List (Int × Int × Int)} (h : PlanIs w v L) (f : FrD Xm B w w') : PlanIs w' v L := h.kept (fun g cs fr hg => f.block g (lt_blk hg) (fun s => by
  rcases s.2.1 with ⟨es, c', hm⟩ | ⟨c', t, f'', hm, ht⟩
  · rw [hg] at hm; cases hm
  · rw [hg] at hm
    cases hm
    rcases ht with ht | ht <;> exact absurd ht (by decide)))
/-- No fall strikes at the next change. -/
def Quiet (w : World) (A : Dk) : Prop := ∃ L, PlanIs w A.pv L ∧ ∀ f ∈ L.head?, ¬ f.1 = (A.n : Int)
theorem Quiet.new {w w' : World} {A : Dk} (h : Quiet w A) (hb : Below w.heap.size w w') : Quiet w' A := by
  obtain ⟨L, h1, h2⟩ := h
  exact ⟨L, h1.new hb, h2⟩
theorem quiet_nil {w : World} {A : Dk} (h : A.pv = .slice none 0 0) : Quiet w A := ⟨[], by rw [h]; exact PlanIs.nil w, fun f hf => by cases hf⟩
set_option maxRecDepth 100000 in
set_option maxHeartbeats 400000 in
theorem struck_none {w : World} {B p : Nat} {A : Dk} {mn ms : Option Nat} {lv : Value} (h : DA Xm w B p A mn ms lv) {ao : Option Addr} {cc : Nat} (hpv : A.pv = .slice ao 0 cc) : Calls Tryz.prog 57 #[.pointer (some ⟨p, 0, none⟩)] w fun r w' => r = .returned (.tuple #[.agg #[.int .i64 0, .int .i64 0, .int .i64 0], .bool false]) ∧ Below w.heap.size w w' := by
  go_enter Tryz.func57, Tryz.ntmps57
  go_upto_region 1 with (fail)
  generalize hW : World.alloc _ _ = W
  have hB : Below w.heap.size w W := by rw [← hW]; exact one_newD w _
  have hZ : W.heap[w.heap.size]? = some (.cells #[.int .i64 0, .int .i64 0, .int .i64 0] 105 (0, 0)) := by rw [← hW]; exact heap_alloc_new w _
  obtain ⟨c0, c1, c2, c3, c4, c5⟩ := (h.new hB).cells
  rw [hpv] at c3
  have HB : Hid _ := hB
  have HZ : Hid _ := hZ
  clear hW hZ hB c0 c1 c2 c4 c5 h hpv
  obtain ⟨q, hq⟩ : ∃ q, w.heap.size = q := ⟨_, rfl⟩
  have HQ : Hid (w.heap.size = q) := hq
  rw [hq] at HB HZ
  rw [hq]
  clear hq
  go_quiet (fail)
  obtain ⟨W2, hW2⟩ : ∃ W2, W.drewN nq = W2 := ⟨_, rfl⟩
  rw [hW2]
  have HB2 : Hid (Below q w W2) := by show Below q w W2; rw [← hW2]; exact bel_drewD HB.out nq
  have HZ2 : Hid (W2.heap[q]? = some (.cells #[.int .i64 0, .int .i64 0, .int .i64 0] 105 (0, 0))) := by show _ = _; rw [← hW2, heap_drewD]; exact HZ.out
  obtain ⟨z0, z1, z2, f0, f1, f2⟩ := box3 HZ2.out
  clear hW2 HB HZ c3
  go_wp2
  refine bodyPost_ret (v := .tuple #[.agg #[.int .i64 0, .int .i64 0, .int .i64 0], .bool false]) (res_ctD Tryz.results57 _ _ q 105 _ (0, 0) _ rfl (set3 _ _ _ HZ2.out) Tryz.underlying105 rfl size_fall) rfl ?_
  have hQ := HQ.out
  have hB2 := HB2.out
  rw [hQ]
  exact ⟨rfl, hB2.trans (Fr.below (set3_fr _ q _ _ _) (by have := hB2.size; omega) (fun k e => by omega))⟩
set_option maxRecDepth 100000 in
set_option maxHeartbeats 400000 in
theorem struck_later {w : World} {B p : Nat} {A : Dk} {mn ms : Option Nat} {lv : Value} (h : DA Xm w B p A mn ms lv) {g off m cc : Nat} {f1 : Int} (hpv : A.pv = .slice (some ⟨g, off, none⟩) (m + 1) cc) (hf : w.cell? ⟨g, off, none⟩ = some (.int .i64 f1)) (hne : ¬ f1 = (A.n : Int)) : Calls Tryz.prog 57 #[.pointer (some ⟨p, 0, none⟩)] w fun r w' => r = .returned (.tuple #[.agg #[.int .i64 0, .int .i64 0, .int .i64 0], .bool false]) ∧ Below w.heap.size w w' := by
  go_enter Tryz.func57, Tryz.ntmps57
  go_upto_region 1 with (fail)
  generalize hW : World.alloc _ _ = W
  have hB : Below w.heap.size w W := by rw [← hW]; exact one_newD w _
  have hZ : W.heap[w.heap.size]? = some (.cells #[.int .i64 0, .int .i64 0, .int .i64 0] 105 (0, 0)) := by rw [← hW]; exact heap_alloc_new w _
  obtain ⟨c0, c1, c2, c3, c4, c5⟩ := (h.new hB).cells
  rw [hpv] at c3
  have cf := (hB.cell (p := ⟨g, off, none⟩) (World.block_lt_of_cell? w ⟨g, off, none⟩ hf)).trans hf
  have hneb : (f1 != (A.n : Int)) = true := by simpa using hne
  have hl0 : ((m : Int) + 1 == 0) = false := by simp; omega
  have hl1 : (0 : Int) < (m : Int) + 1 := by omega
  have HB : Hid _ := hB
  have HZ : Hid _ := hZ
  clear hW hZ hB c0 c1 c2 c5 h hpv hf hne
  obtain ⟨q, hq⟩ : ∃ q, w.heap.size = q := ⟨_, rfl⟩
  have HQ : Hid (w.heap.size = q) := hq
  rw [hq] at HB HZ
  rw [hq]
  clear hq
  go_quiet (fail)
  obtain ⟨W2, hW2⟩ : ∃ W2, W.drewN nq = W2 := ⟨_, rfl⟩
  rw [hW2]
  have HB2 : Hid (Below q w W2) := by show Below q w W2; rw [← hW2]; exact bel_drewD HB.out nq
  have HZ2 : Hid (W2.heap[q]? = some (.cells #[.int .i64 0, .int .i64 0, .int .i64 0] 105 (0, 0))) := by show _ = _; rw [← hW2, heap_drewD]; exact HZ.out
  obtain ⟨z0, z1, z2, f0, f1, f2⟩ := box3 HZ2.out
  clear hW2 HB HZ c3 c4 cf
  go_wp2
  refine bodyPost_ret (v := .tuple #[.agg #[.int .i64 0, .int .i64 0, .int .i64 0], .bool false]) (res_ctD Tryz.results57 _ _ q 105 _ (0, 0) _ rfl (set3 _ _ _ HZ2.out) Tryz.underlying105 rfl size_fall) rfl ?_
  have hQ := HQ.out
  have hB2 := HB2.out
  rw [hQ]
  exact ⟨rfl, hB2.trans (Fr.below (set3_fr _ q _ _ _) (by have := hB2.size; omega) (fun k e => by omega))⟩
theorem struck_quiet {w : World} {B p : Nat} {A : Dk} {mn ms : Option Nat} {lv : Value} (h : DA Xm w B p A mn ms lv) (hq : Quiet w A) : Calls Tryz.prog 57 #[.pointer (some ⟨p, 0, none⟩)] w fun r w' => r = .returned (.tuple #[.agg #[.int .i64 0, .int .i64 0, .int .i64 0], .bool false]) ∧ Below w.heap.size w w' := by
  obtain ⟨L, ⟨ao, c, hv, hc, hx⟩, hn⟩ := hq
  cases L with
  | nil => exact struck_none h hv
  | cons f L =>
    obtain ⟨g, off, cs, fr, rfl, _, hcs⟩ := hx (by simp)
    exact struck_later h (m := L.length) hv (by have h9 := (hcs 0 (by simp)).1; rw [Nat.zero_mul, Nat.add_zero] at h9; exact h9) (hn f (by simp))
end Go.Proofs.YtjemnkijoiehmaaGreatDoor
