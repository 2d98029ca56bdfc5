import Derived.Test.YtidghoipmggklaaGreatAgGetM
import Derived.Test.YtidghoipmggklaaGreatOrdLM
import Derived.Laws.ResultCell
/- Task of a worker whose partition is a course's first, at a course that has just begun. -/
namespace Go.Proofs.YtidghoipmggklaaGreat
open Go.RowKit Go.Maps
attribute [local go_sem] Oper.semAt_some
theorem wp_calmM {P : Program} {c : Code} {Q : Exit → Act → World → Prop} {a : Act} {w : World} (h : c.wp P (Exit.then (fun a w => Q .normal a w) (fun _ _ _ => False)) a w) : c.wp P Q a w := Code.wp_mono (fun e a w h => by cases e <;> first | exact h | exact h.elim) h
theorem res_ctM {fn : Func} {p u : Tmp} {ty : TypeId} (h : fn.results = #[.cell p ty, .tmp u]) (tmps : Array Value) (w : World) (g : Nat) (t : TypeId) (cs : Array Value) (fr : Nat × Nat) (d : TypeDesc)
    (hp : tmps.getD p undef = .pointer (some ⟨g, 0, none⟩)) (hg : w.heap[g]? = some (.cells cs t fr))
    (hu : Tryz.prog.underlying ty = some d) (hd : (match d with | .struct _ | .array _ _ => true | _ => false) = true) (hi : (Tryz.prog.info? ty).map (·.size) = some cs.size) :
    (results fn tmps).run Tryz.prog w = .ok (.tuple #[.agg cs, tmps.getD u undef]) w := by
  rw [results_cell_tmp h, hp]
  have := run_loadVar_row (P := Tryz.prog) w g t ty cs fr d hg hu (by cases d <;> first | rfl | exact hd) hi
  simp [asAddr, this]
theorem size_task : (Tryz.prog.info? 69).map (·.size) = some 26 := by kernel_rfl
theorem RunAt.q {w0 w : World} {p jb jc : Nat} {ax : Value} {mb : Option Nat} {ep : Int} {M : List Pz} {sp : List Value} {pa : Int} {q hb : Nat} {av : Value} (h : RunAt w0 w p jb jc ax mb ep M sp pa q hb av) (i : Nat) : w.cell? ⟨q, i, none⟩ = (crCells 1 ep 0 1 av (.map (some hb)))[i]? := by simp [World.cell?, h.cr]
theorem RunAt.new {w0 w w' : World} {p jb jc : Nat} {ax : Value} {mb : Option Nat} {ep : Int} {M : List Pz} {sp : List Value} {pa : Int} {q hb : Nat} {av : Value} (h : RunAt w0 w p jb jc ax mb ep M sp pa q hb av) (b : Below w.heap.size w w') : RunAt w0 w' p jb jc ax mb ep M sp pa q hb av := h.kept (Fr.ofBelow b (fun _ => False)) (fun h => h) (fun h => h) (fun _ _ h => h) (fun _ _ h => h)
set_option maxRecDepth 100000 in
set_option maxHeartbeats 2000000 in
theorem mtask_first {w0 w : World} {p jb jc : Nat} {ax : Value} {mb : Option Nat} {ep : Int} {M : List Pz} {P : Nat → Prop} {t : ByteArray} {go : Option Addr} {gc : Nat} {pv0 : Value} {G : List Vx} {ps : List Int} {st se pa : Int} {q hb ga ac : Nat} {A : List Int} {x : Int} (h : RunAt w0 w p jb jc ax mb ep M [.string t, .slice go G.length gc, pv0, .int .i64 st, .int .i64 se, .int .i64 pa] pa q hb (.slice (some ⟨ga, 0, none⟩) A.length ac)) (hA : asgn pa (risL (M.map (·.k))) = A) (h0 : A[0]? = some x) (hx : W6 x) (hAl : A.length ≤ 1000000)
    (hG : VxAt w P go G) (hok : ∀ v ∈ G, v.ok) (hgl : G.length * 40 ≤ 140737488355328) (hp : GS ie w pv0 ps) (hpl : ps.length * 8 ≤ 140737488355328) :
    Calls Tryz.prog 23 #[.pointer (some ⟨p, 0, none⟩), .int .i64 x] w fun r w' => ∃ v1 v2 bo c a3 c3, r = .returned (.tuple #[.agg #[.int .i64 1, .int .i64 ep, .int .i64 0, .int .i64 1, v1, v2, .string t, .slice bo G.length c, .slice a3 ps.length c3, .int .i64 st, .int .i64 se, .int .i64 pa, .bool false, .bool false, .bool false, .bool false, .bool false, .int .i64 0, .int .i64 0, .int .i64 0, .int .i64 0, .int .i64 0, .int .i64 0, .int .i64 0, .int .i64 0, .bool false], .bool true]) ∧ IO_ w' w.heap.size v1 (plcs A x A.length) ∧ IO_ w' w.heap.size v2 A ∧ Below w.heap.size w w' := by
  obtain ⟨W0, hW0⟩ : ∃ W0, w.alloc (.cells #[.int .i64 0, .int .i64 0, .int .i64 0, .int .i64 0, .slice none 0 0, .slice none 0 0, .string ⟨#[]⟩, .slice none 0 0, .slice none 0 0, .int .i64 0, .int .i64 0, .int .i64 0, .bool false, .bool false, .bool false, .bool false, .bool false, .int .i64 0, .int .i64 0, .int .i64 0, .int .i64 0, .int .i64 0, .int .i64 0, .int .i64 0, .int .i64 0, .bool false] 69) = W0 := ⟨_, rfl⟩
  have HB0 : Hid (Below w.heap.size w W0) := by rw [← hW0]; exact ma_new _ _
  have k0 := heap_alloc_new w (.cells #[.int .i64 0, .int .i64 0, .int .i64 0, .int .i64 0, .slice none 0 0, .slice none 0 0, .string ⟨#[]⟩, .slice none 0 0, .slice none 0 0, .int .i64 0, .int .i64 0, .int .i64 0, .bool false, .bool false, .bool false, .bool false, .bool false, .int .i64 0, .int .i64 0, .int .i64 0, .int .i64 0, .int .i64 0, .int .i64 0, .int .i64 0, .int .i64 0, .bool false] 69)
  rw [hW0] at k0
  obtain ⟨gr, hgr⟩ : ∃ gr, w.heap.size = gr := ⟨_, rfl⟩
  have HGr : Hid (w.heap.size = gr) := hgr
  rw [hgr] at k0
  have HK0 : Hid (W0.heap[gr]? = some (.cells #[.int .i64 0, .int .i64 0, .int .i64 0, .int .i64 0, .slice none 0 0, .slice none 0 0, .string ⟨#[]⟩, .slice none 0 0, .slice none 0 0, .int .i64 0, .int .i64 0, .int .i64 0, .bool false, .bool false, .bool false, .bool false, .bool false, .int .i64 0, .int .i64 0, .int .i64 0, .int .i64 0, .int .i64 0, .int .i64 0, .int .i64 0, .int .i64 0, .bool false] 69 (0, 0))) := k0
  have HRun : Hid (∀ V, Below w.heap.size w V → RunAt w0 V p jb jc ax mb ep M [.string t, .slice go G.length gc, pv0, .int .i64 st, .int .i64 se, .int .i64 pa] pa q hb (.slice (some ⟨ga, 0, none⟩) A.length ac)) := fun V hb => h.new hb
  have HA : Hid (∀ V, Below w.heap.size w V → IS V (.slice (some ⟨ga, 0, none⟩) A.length ac) A) := fun V hb => by
    have := (h.new hb).as_
    rw [hA] at this
    exact GO.toS this
  have HC0 : Hid (w.cell? ⟨ga, 0, none⟩ = some (.int .i64 x)) := by
    have := h.as_
    rw [hA] at this
    have hl : 0 < A.length := by
      rcases Nat.eq_zero_or_pos A.length with e | e
      · rw [List.eq_nil_of_length_eq_zero e] at h0; cases h0
      · exact e
    have e := this.at_ 0 hl
    rw [List.getElem?_eq_getElem hl] at h0
    injection h0 with h0
    rw [h0] at e
    exact e
  have hn : 0 < A.length := by
    rcases Nat.eq_zero_or_pos A.length with e | e
    · rw [List.eq_nil_of_length_eq_zero e] at h0; cases h0
    · exact e
  have HG : Hid (∀ V, Below w.heap.size w V → VxAt V P go G) := fun V hb => hG.new hb
  have HP : Hid (∀ V, Below w.heap.size w V → GS ie V pv0 ps) := fun V hb => hp.new hb
  have HOk : Hid (∀ v ∈ G, v.ok) := hok
  have HLn : Hid (G.length * 40 ≤ 140737488355328 ∧ ps.length * 8 ≤ 140737488355328 ∧ A.length ≤ 1000000) := ⟨hgl, hpl, hAl⟩
  have HX : Hid (W6 x) := hx
  have p04 : W0.cell? ⟨p, 4, none⟩ = some (.pointer (some ⟨q, 0, none⟩)) := (HRun.out _ HB0.out).ma.c.2.2.2.2
  have HR0 : Hid (RunAt w0 W0 p jb jc ax mb ep M [.string t, .slice go G.length gc, pv0, .int .i64 st, .int .i64 se, .int .i64 pa] pa q hb (.slice (some ⟨ga, 0, none⟩) A.length ac)) := HRun.out _ HB0.out
  have HC1 : Hid (W0.cell? ⟨ga, 0, none⟩ = some (.int .i64 x)) := gnew_cell HB0.out HC0.out
  clear h hA h0 hx hAl hG hok hgl hp hpl k0
  go_enter Tryz.func23, Tryz.ntmps23
  have HSr : Hid (∀ V, Below w.heap.size w V → (fun w' : World => w'.cell? ⟨q, 0, none⟩ = some (.int .i64 1) ∧ w'.cell? ⟨q, 1, none⟩ = some (.int .i64 ep) ∧ w'.cell? ⟨q, 2, none⟩ = some (.int .i64 0) ∧ w'.cell? ⟨q, 3, none⟩ = some (.int .i64 1) ∧ w'.cell? ⟨q, 4, none⟩ = some (.slice (some ⟨ga, 0, none⟩) A.length ac) ∧ w'.cell? ⟨q, 26, none⟩ = some (.int .i64 0) ∧ w'.cell? ⟨q, 27, none⟩ = some (.int .i64 0) ∧ w'.cell? ⟨q, 28, none⟩ = some (.int .i64 0) ∧ w'.cell? ⟨p, 2, none⟩ = some (.slice (some ⟨jb, 0, none⟩) 1 jc) ∧ w'.cell? ⟨jb, 0, none⟩ = some (.string t) ∧ w'.cell? ⟨jb, 1, none⟩ = some (.slice go G.length gc) ∧ w'.cell? ⟨jb, 2, none⟩ = some (pv0) ∧ w'.cell? ⟨jb, 3, none⟩ = some (.int .i64 st) ∧ w'.cell? ⟨jb, 4, none⟩ = some (.int .i64 se) ∧ w'.cell? ⟨jb, 5, none⟩ = some (.int .i64 pa) ∧ w'.cell? ⟨q, 6, none⟩ = some (.bool false) ∧ w'.cell? ⟨q, 7, none⟩ = some (.bool false) ∧ w'.cell? ⟨q, 8, none⟩ = some (.bool false) ∧ w'.cell? ⟨q, 9, none⟩ = some (.bool false) ∧ w'.cell? ⟨q, 10, none⟩ = some (.bool false) ∧ w'.cell? ⟨q, 11, none⟩ = some (.int .i64 0) ∧ w'.cell? ⟨q, 12, none⟩ = some (.int .i64 0) ∧ w'.cell? ⟨q, 13, none⟩ = some (.int .i64 0) ∧ w'.cell? ⟨q, 14, none⟩ = some (.int .i64 0) ∧ w'.cell? ⟨q, 15, none⟩ = some (.int .i64 0)) V) := fun V hb => by
    have R := HRun.out _ hb
    exact ⟨R.q 0, R.q 1, R.q 2, R.q 3, R.q 4, R.q 26, R.q 27, R.q 28, R.ma.c.2.2.1, (R.jb.cell (i := 0) (by decide)).1, (R.jb.cell (i := 1) (by decide)).1, (R.jb.cell (i := 2) (by decide)).1, (R.jb.cell (i := 3) (by decide)).1, (R.jb.cell (i := 4) (by decide)).1, (R.jb.cell (i := 5) (by decide)).1, R.q 6, R.q 7, R.q 8, R.q 9, R.q 10, R.q 11, R.q 12, R.q 13, R.q 14, R.q 15⟩
  go_upto_region 4 with (go_at_call 79; refine (cawaits_first hn HX.out (HR0.out.q 4) (HR0.out.q 5) HC1.out HR0.out.hd).mono ?_; rintro r wa ⟨rfl, hba⟩; have HBa : Hid (Below w.heap.size w wa) := HB0.out.trans (hba.mono HB0.out.size); have HWa : Hid (Below W0.heap.size W0 wa) := hba; have Ra := HRun.out _ HBa.out; have pa4 : wa.cell? ⟨p, 4, none⟩ = some (.pointer (some ⟨q, 0, none⟩)) := Ra.ma.c.2.2.2.2; clear hba Ra)
  obtain ⟨Wd, hWd⟩ : ∃ Wd, wa.drew = Wd := ⟨_, rfl⟩
  have bd : Below wa.heap.size wa Wd := by rw [← hWd]; exact Below.drew (Below.refl _ _)
  have HBd : Hid (Below w.heap.size w Wd) := HBa.out.trans (bd.mono HBa.out.size)
  have HKd : Hid (Wd.heap[gr]? = some (.cells #[.int .i64 0, .int .i64 0, .int .i64 0, .int .i64 0, .slice none 0 0, .slice none 0 0, .string ⟨#[]⟩, .slice none 0 0, .slice none 0 0, .int .i64 0, .int .i64 0, .int .i64 0, .bool false, .bool false, .bool false, .bool false, .bool false, .int .i64 0, .int .i64 0, .int .i64 0, .int .i64 0, .int .i64 0, .int .i64 0, .int .i64 0, .int .i64 0, .bool false] 69 (0, 0))) := (bd.block gr (by have := ma_lt HK0.out; have := HWa.out.size; omega)).trans ((HWa.out.block gr (ma_lt HK0.out)).trans HK0.out)
  clear bd pa4
  refine wp_calmM ?_
  refine wp_region_L [66] (fun w' : World => w'.cell? ⟨q, 0, none⟩ = some (.int .i64 1) ∧ w'.cell? ⟨q, 1, none⟩ = some (.int .i64 ep) ∧ w'.cell? ⟨q, 2, none⟩ = some (.int .i64 0) ∧ w'.cell? ⟨q, 3, none⟩ = some (.int .i64 1) ∧ w'.cell? ⟨q, 4, none⟩ = some (.slice (some ⟨ga, 0, none⟩) A.length ac) ∧ w'.cell? ⟨q, 26, none⟩ = some (.int .i64 0) ∧ w'.cell? ⟨q, 27, none⟩ = some (.int .i64 0) ∧ w'.cell? ⟨q, 28, none⟩ = some (.int .i64 0) ∧ w'.cell? ⟨p, 2, none⟩ = some (.slice (some ⟨jb, 0, none⟩) 1 jc) ∧ w'.cell? ⟨jb, 0, none⟩ = some (.string t) ∧ w'.cell? ⟨jb, 1, none⟩ = some (.slice go G.length gc) ∧ w'.cell? ⟨jb, 2, none⟩ = some (pv0) ∧ w'.cell? ⟨jb, 3, none⟩ = some (.int .i64 st) ∧ w'.cell? ⟨jb, 4, none⟩ = some (.int .i64 se) ∧ w'.cell? ⟨jb, 5, none⟩ = some (.int .i64 pa) ∧ w'.cell? ⟨q, 6, none⟩ = some (.bool false) ∧ w'.cell? ⟨q, 7, none⟩ = some (.bool false) ∧ w'.cell? ⟨q, 8, none⟩ = some (.bool false) ∧ w'.cell? ⟨q, 9, none⟩ = some (.bool false) ∧ w'.cell? ⟨q, 10, none⟩ = some (.bool false) ∧ w'.cell? ⟨q, 11, none⟩ = some (.int .i64 0) ∧ w'.cell? ⟨q, 12, none⟩ = some (.int .i64 0) ∧ w'.cell? ⟨q, 13, none⟩ = some (.int .i64 0) ∧ w'.cell? ⟨q, 14, none⟩ = some (.int .i64 0) ∧ w'.cell? ⟨q, 15, none⟩ = some (.int .i64 0)) (by kernel_rfl) ?_
  rw [hWd]
  clear hWd
  have hS : (fun w' : World => w'.cell? ⟨q, 0, none⟩ = some (.int .i64 1) ∧ w'.cell? ⟨q, 1, none⟩ = some (.int .i64 ep) ∧ w'.cell? ⟨q, 2, none⟩ = some (.int .i64 0) ∧ w'.cell? ⟨q, 3, none⟩ = some (.int .i64 1) ∧ w'.cell? ⟨q, 4, none⟩ = some (.slice (some ⟨ga, 0, none⟩) A.length ac) ∧ w'.cell? ⟨q, 26, none⟩ = some (.int .i64 0) ∧ w'.cell? ⟨q, 27, none⟩ = some (.int .i64 0) ∧ w'.cell? ⟨q, 28, none⟩ = some (.int .i64 0) ∧ w'.cell? ⟨p, 2, none⟩ = some (.slice (some ⟨jb, 0, none⟩) 1 jc) ∧ w'.cell? ⟨jb, 0, none⟩ = some (.string t) ∧ w'.cell? ⟨jb, 1, none⟩ = some (.slice go G.length gc) ∧ w'.cell? ⟨jb, 2, none⟩ = some (pv0) ∧ w'.cell? ⟨jb, 3, none⟩ = some (.int .i64 st) ∧ w'.cell? ⟨jb, 4, none⟩ = some (.int .i64 se) ∧ w'.cell? ⟨jb, 5, none⟩ = some (.int .i64 pa) ∧ w'.cell? ⟨q, 6, none⟩ = some (.bool false) ∧ w'.cell? ⟨q, 7, none⟩ = some (.bool false) ∧ w'.cell? ⟨q, 8, none⟩ = some (.bool false) ∧ w'.cell? ⟨q, 9, none⟩ = some (.bool false) ∧ w'.cell? ⟨q, 10, none⟩ = some (.bool false) ∧ w'.cell? ⟨q, 11, none⟩ = some (.int .i64 0) ∧ w'.cell? ⟨q, 12, none⟩ = some (.int .i64 0) ∧ w'.cell? ⟨q, 13, none⟩ = some (.int .i64 0) ∧ w'.cell? ⟨q, 14, none⟩ = some (.int .i64 0) ∧ w'.cell? ⟨q, 15, none⟩ = some (.int .i64 0)) Wd := HSr.out _ HBd.out
  refine wpAnyL_take (i := 0) 23 (v := .pointer (some ⟨q, 0, none⟩)) rfl rfl (by kernel_rfl) (by kernel_rfl) (by kernel_rfl) (by kernel_rfl) (by kernel_rfl) (by kernel_rfl) (fun _ _ _ h => h) hS (by rfl) (by intro w' hSw; obtain ⟨y0, y1, y2, y3, y4, y5, y6, y7, y8, y9, y10, y11, y12, y13, y14, y15, y16, y17, y18, y19, y20, y21, y22, y23, y24⟩ := hSw; go_simp <;> first | with_reducible rfl | (with_unfolding_all decide)) ?_
  simp only [Act.put, List.setIfInBounds_toArray, List.set_cons_zero, List.set_cons_succ]
  refine wpAnyL_take (i := 1) 24 (v := .pointer (some ⟨q, 0, none⟩)) rfl rfl (by kernel_rfl) (by kernel_rfl) (by kernel_rfl) (by kernel_rfl) (by kernel_rfl) (by kernel_rfl) (fun _ _ _ h => h) hS (by rfl) (by intro w' hSw; obtain ⟨y0, y1, y2, y3, y4, y5, y6, y7, y8, y9, y10, y11, y12, y13, y14, y15, y16, y17, y18, y19, y20, y21, y22, y23, y24⟩ := hSw; go_simp <;> first | with_reducible rfl | (with_unfolding_all decide)) ?_
  simp only [Act.put, List.setIfInBounds_toArray, List.set_cons_zero, List.set_cons_succ]
  refine wpAnyL_take (i := 2) 25 (v := .pointer (some ⟨q, 0, none⟩)) rfl rfl (by kernel_rfl) (by kernel_rfl) (by kernel_rfl) (by kernel_rfl) (by kernel_rfl) (by kernel_rfl) (fun _ _ _ h => h) hS (by rfl) (by intro w' hSw; obtain ⟨y0, y1, y2, y3, y4, y5, y6, y7, y8, y9, y10, y11, y12, y13, y14, y15, y16, y17, y18, y19, y20, y21, y22, y23, y24⟩ := hSw; go_simp <;> first | with_reducible rfl | (with_unfolding_all decide)) ?_
  simp only [Act.put, List.setIfInBounds_toArray, List.set_cons_zero, List.set_cons_succ]
  refine wpAnyL_take (i := 3) 26 (v := .int .i64 1) rfl rfl (by kernel_rfl) (by kernel_rfl) (by kernel_rfl) (by kernel_rfl) (by kernel_rfl) (by kernel_rfl) (fun _ _ _ h => h) hS (by rfl) (by intro w' hSw; obtain ⟨y0, y1, y2, y3, y4, y5, y6, y7, y8, y9, y10, y11, y12, y13, y14, y15, y16, y17, y18, y19, y20, y21, y22, y23, y24⟩ := hSw; go_simp <;> first | with_reducible rfl | (with_unfolding_all decide)) ?_
  simp only [Act.put, List.setIfInBounds_toArray, List.set_cons_zero, List.set_cons_succ]
  refine wpAnyL_take (i := 4) 27 (v := .pointer (some ⟨q, 0, none⟩)) rfl rfl (by kernel_rfl) (by kernel_rfl) (by kernel_rfl) (by kernel_rfl) (by kernel_rfl) (by kernel_rfl) (fun _ _ _ h => h) hS (by rfl) (by intro w' hSw; obtain ⟨y0, y1, y2, y3, y4, y5, y6, y7, y8, y9, y10, y11, y12, y13, y14, y15, y16, y17, y18, y19, y20, y21, y22, y23, y24⟩ := hSw; go_simp <;> first | with_reducible rfl | (with_unfolding_all decide)) ?_
  simp only [Act.put, List.setIfInBounds_toArray, List.set_cons_zero, List.set_cons_succ]
  refine wpAnyL_take (i := 5) 28 (v := .pointer (some ⟨q, 0, none⟩)) rfl rfl (by kernel_rfl) (by kernel_rfl) (by kernel_rfl) (by kernel_rfl) (by kernel_rfl) (by kernel_rfl) (fun _ _ _ h => h) hS (by rfl) (by intro w' hSw; obtain ⟨y0, y1, y2, y3, y4, y5, y6, y7, y8, y9, y10, y11, y12, y13, y14, y15, y16, y17, y18, y19, y20, y21, y22, y23, y24⟩ := hSw; go_simp <;> first | with_reducible rfl | (with_unfolding_all decide)) ?_
  simp only [Act.put, List.setIfInBounds_toArray, List.set_cons_zero, List.set_cons_succ]
  refine wpAnyL_take (i := 6) 29 (v := .pointer (some ⟨q, 1, none⟩)) rfl rfl (by kernel_rfl) (by kernel_rfl) (by kernel_rfl) (by kernel_rfl) (by kernel_rfl) (by kernel_rfl) (fun _ _ _ h => h) hS (by rfl) (by intro w' hSw; obtain ⟨y0, y1, y2, y3, y4, y5, y6, y7, y8, y9, y10, y11, y12, y13, y14, y15, y16, y17, y18, y19, y20, y21, y22, y23, y24⟩ := hSw; go_simp <;> first | with_reducible rfl | (with_unfolding_all decide)) ?_
  simp only [Act.put, List.setIfInBounds_toArray, List.set_cons_zero, List.set_cons_succ]
  refine wpAnyL_take (i := 7) 30 (v := .int .i64 ep) rfl rfl (by kernel_rfl) (by kernel_rfl) (by kernel_rfl) (by kernel_rfl) (by kernel_rfl) (by kernel_rfl) (fun _ _ _ h => h) hS (by rfl) (by intro w' hSw; obtain ⟨y0, y1, y2, y3, y4, y5, y6, y7, y8, y9, y10, y11, y12, y13, y14, y15, y16, y17, y18, y19, y20, y21, y22, y23, y24⟩ := hSw; go_simp <;> first | with_reducible rfl | (with_unfolding_all decide)) ?_
  simp only [Act.put, List.setIfInBounds_toArray, List.set_cons_zero, List.set_cons_succ]
  refine wpAnyL_take (i := 8) 31 (v := .pointer (some ⟨q, 0, none⟩)) rfl rfl (by kernel_rfl) (by kernel_rfl) (by kernel_rfl) (by kernel_rfl) (by kernel_rfl) (by kernel_rfl) (fun _ _ _ h => h) hS (by rfl) (by intro w' hSw; obtain ⟨y0, y1, y2, y3, y4, y5, y6, y7, y8, y9, y10, y11, y12, y13, y14, y15, y16, y17, y18, y19, y20, y21, y22, y23, y24⟩ := hSw; go_simp <;> first | with_reducible rfl | (with_unfolding_all decide)) ?_
  simp only [Act.put, List.setIfInBounds_toArray, List.set_cons_zero, List.set_cons_succ]
  refine wpAnyL_take (i := 9) 32 (v := .pointer (some ⟨q, 0, none⟩)) rfl rfl (by kernel_rfl) (by kernel_rfl) (by kernel_rfl) (by kernel_rfl) (by kernel_rfl) (by kernel_rfl) (fun _ _ _ h => h) hS (by rfl) (by intro w' hSw; obtain ⟨y0, y1, y2, y3, y4, y5, y6, y7, y8, y9, y10, y11, y12, y13, y14, y15, y16, y17, y18, y19, y20, y21, y22, y23, y24⟩ := hSw; go_simp <;> first | with_reducible rfl | (with_unfolding_all decide)) ?_
  simp only [Act.put, List.setIfInBounds_toArray, List.set_cons_zero, List.set_cons_succ]
  refine wpAnyL_take (i := 10) 33 (v := .pointer (some ⟨q, 2, none⟩)) rfl rfl (by kernel_rfl) (by kernel_rfl) (by kernel_rfl) (by kernel_rfl) (by kernel_rfl) (by kernel_rfl) (fun _ _ _ h => h) hS (by rfl) (by intro w' hSw; obtain ⟨y0, y1, y2, y3, y4, y5, y6, y7, y8, y9, y10, y11, y12, y13, y14, y15, y16, y17, y18, y19, y20, y21, y22, y23, y24⟩ := hSw; go_simp <;> first | with_reducible rfl | (with_unfolding_all decide)) ?_
  simp only [Act.put, List.setIfInBounds_toArray, List.set_cons_zero, List.set_cons_succ]
  refine wpAnyL_take (i := 11) 34 (v := .int .i64 0) rfl rfl (by kernel_rfl) (by kernel_rfl) (by kernel_rfl) (by kernel_rfl) (by kernel_rfl) (by kernel_rfl) (fun _ _ _ h => h) hS (by rfl) (by intro w' hSw; obtain ⟨y0, y1, y2, y3, y4, y5, y6, y7, y8, y9, y10, y11, y12, y13, y14, y15, y16, y17, y18, y19, y20, y21, y22, y23, y24⟩ := hSw; go_simp <;> first | with_reducible rfl | (with_unfolding_all decide)) ?_
  simp only [Act.put, List.setIfInBounds_toArray, List.set_cons_zero, List.set_cons_succ]
  refine wpAnyL_take (i := 12) 35 (v := .pointer (some ⟨q, 0, none⟩)) rfl rfl (by kernel_rfl) (by kernel_rfl) (by kernel_rfl) (by kernel_rfl) (by kernel_rfl) (by kernel_rfl) (fun _ _ _ h => h) hS (by rfl) (by intro w' hSw; obtain ⟨y0, y1, y2, y3, y4, y5, y6, y7, y8, y9, y10, y11, y12, y13, y14, y15, y16, y17, y18, y19, y20, y21, y22, y23, y24⟩ := hSw; go_simp <;> first | with_reducible rfl | (with_unfolding_all decide)) ?_
  simp only [Act.put, List.setIfInBounds_toArray, List.set_cons_zero, List.set_cons_succ]
  refine wpAnyL_take (i := 13) 36 (v := .pointer (some ⟨q, 0, none⟩)) rfl rfl (by kernel_rfl) (by kernel_rfl) (by kernel_rfl) (by kernel_rfl) (by kernel_rfl) (by kernel_rfl) (fun _ _ _ h => h) hS (by rfl) (by intro w' hSw; obtain ⟨y0, y1, y2, y3, y4, y5, y6, y7, y8, y9, y10, y11, y12, y13, y14, y15, y16, y17, y18, y19, y20, y21, y22, y23, y24⟩ := hSw; go_simp <;> first | with_reducible rfl | (with_unfolding_all decide)) ?_
  simp only [Act.put, List.setIfInBounds_toArray, List.set_cons_zero, List.set_cons_succ]
  refine wpAnyL_take (i := 14) 37 (v := .pointer (some ⟨q, 3, none⟩)) rfl rfl (by kernel_rfl) (by kernel_rfl) (by kernel_rfl) (by kernel_rfl) (by kernel_rfl) (by kernel_rfl) (fun _ _ _ h => h) hS (by rfl) (by intro w' hSw; obtain ⟨y0, y1, y2, y3, y4, y5, y6, y7, y8, y9, y10, y11, y12, y13, y14, y15, y16, y17, y18, y19, y20, y21, y22, y23, y24⟩ := hSw; go_simp <;> first | with_reducible rfl | (with_unfolding_all decide)) ?_
  simp only [Act.put, List.setIfInBounds_toArray, List.set_cons_zero, List.set_cons_succ]
  refine wpAnyL_take (i := 15) 38 (v := .int .i64 1) rfl rfl (by kernel_rfl) (by kernel_rfl) (by kernel_rfl) (by kernel_rfl) (by kernel_rfl) (by kernel_rfl) (fun _ _ _ h => h) hS (by rfl) (by intro w' hSw; obtain ⟨y0, y1, y2, y3, y4, y5, y6, y7, y8, y9, y10, y11, y12, y13, y14, y15, y16, y17, y18, y19, y20, y21, y22, y23, y24⟩ := hSw; go_simp <;> first | with_reducible rfl | (with_unfolding_all decide)) ?_
  simp only [Act.put, List.setIfInBounds_toArray, List.set_cons_zero, List.set_cons_succ]
  refine wpAnyL_take (i := 16) 39 (v := .pointer (some ⟨q, 0, none⟩)) rfl rfl (by kernel_rfl) (by kernel_rfl) (by kernel_rfl) (by kernel_rfl) (by kernel_rfl) (by kernel_rfl) (fun _ _ _ h => h) hS (by rfl) (by intro w' hSw; obtain ⟨y0, y1, y2, y3, y4, y5, y6, y7, y8, y9, y10, y11, y12, y13, y14, y15, y16, y17, y18, y19, y20, y21, y22, y23, y24⟩ := hSw; go_simp <;> first | with_reducible rfl | (with_unfolding_all decide)) ?_
  simp only [Act.put, List.setIfInBounds_toArray, List.set_cons_zero, List.set_cons_succ]
  refine wpAnyL_take (i := 17) 40 (v := .pointer (some ⟨q, 0, none⟩)) rfl rfl (by kernel_rfl) (by kernel_rfl) (by kernel_rfl) (by kernel_rfl) (by kernel_rfl) (by kernel_rfl) (fun _ _ _ h => h) hS (by rfl) (by intro w' hSw; obtain ⟨y0, y1, y2, y3, y4, y5, y6, y7, y8, y9, y10, y11, y12, y13, y14, y15, y16, y17, y18, y19, y20, y21, y22, y23, y24⟩ := hSw; go_simp <;> first | with_reducible rfl | (with_unfolding_all decide)) ?_
  simp only [Act.put, List.setIfInBounds_toArray, List.set_cons_zero, List.set_cons_succ]
  refine wpAnyL_take (i := 18) 41 (v := .pointer (some ⟨q, 4, none⟩)) rfl rfl (by kernel_rfl) (by kernel_rfl) (by kernel_rfl) (by kernel_rfl) (by kernel_rfl) (by kernel_rfl) (fun _ _ _ h => h) hS (by rfl) (by intro w' hSw; obtain ⟨y0, y1, y2, y3, y4, y5, y6, y7, y8, y9, y10, y11, y12, y13, y14, y15, y16, y17, y18, y19, y20, y21, y22, y23, y24⟩ := hSw; go_simp <;> first | with_reducible rfl | (with_unfolding_all decide)) ?_
  simp only [Act.put, List.setIfInBounds_toArray, List.set_cons_zero, List.set_cons_succ]
  refine wpAnyL_take (i := 19) 42 (v := .slice (some ⟨ga, 0, none⟩) A.length ac) rfl rfl (by kernel_rfl) (by kernel_rfl) (by kernel_rfl) (by kernel_rfl) (by kernel_rfl) (by kernel_rfl) (fun _ _ _ h => h) hS (by rfl) (by intro w' hSw; obtain ⟨y0, y1, y2, y3, y4, y5, y6, y7, y8, y9, y10, y11, y12, y13, y14, y15, y16, y17, y18, y19, y20, y21, y22, y23, y24⟩ := hSw; go_simp <;> first | with_reducible rfl | (with_unfolding_all decide)) ?_
  simp only [Act.put, List.setIfInBounds_toArray, List.set_cons_zero, List.set_cons_succ]
  refine wpAnyL_take (i := 20) 43 (v := .int .i64 x) rfl rfl (by kernel_rfl) (by kernel_rfl) (by kernel_rfl) (by kernel_rfl) (by kernel_rfl) (by kernel_rfl) (fun _ _ _ h => h) hS (by rfl) (by intro w' hSw; obtain ⟨y0, y1, y2, y3, y4, y5, y6, y7, y8, y9, y10, y11, y12, y13, y14, y15, y16, y17, y18, y19, y20, y21, y22, y23, y24⟩ := hSw; go_simp <;> first | with_reducible rfl | (with_unfolding_all decide)) ?_
  simp only [Act.put, List.setIfInBounds_toArray, List.set_cons_zero, List.set_cons_succ]
  refine wpAnyL_take (i := 22) 45 (v := .pointer (some ⟨q, 0, none⟩)) rfl rfl (by kernel_rfl) (by kernel_rfl) (by kernel_rfl) (by kernel_rfl) (by kernel_rfl) (by kernel_rfl) (fun _ _ _ h => h) hS (by rfl) (by intro w' hSw; obtain ⟨y0, y1, y2, y3, y4, y5, y6, y7, y8, y9, y10, y11, y12, y13, y14, y15, y16, y17, y18, y19, y20, y21, y22, y23, y24⟩ := hSw; go_simp <;> first | with_reducible rfl | (with_unfolding_all decide)) ?_
  simp only [Act.put, List.setIfInBounds_toArray, List.set_cons_zero, List.set_cons_succ]
  refine wpAnyL_take (i := 23) 46 (v := .pointer (some ⟨q, 0, none⟩)) rfl rfl (by kernel_rfl) (by kernel_rfl) (by kernel_rfl) (by kernel_rfl) (by kernel_rfl) (by kernel_rfl) (fun _ _ _ h => h) hS (by rfl) (by intro w' hSw; obtain ⟨y0, y1, y2, y3, y4, y5, y6, y7, y8, y9, y10, y11, y12, y13, y14, y15, y16, y17, y18, y19, y20, y21, y22, y23, y24⟩ := hSw; go_simp <;> first | with_reducible rfl | (with_unfolding_all decide)) ?_
  simp only [Act.put, List.setIfInBounds_toArray, List.set_cons_zero, List.set_cons_succ]
  refine wpAnyL_take (i := 24) 47 (v := .pointer (some ⟨q, 4, none⟩)) rfl rfl (by kernel_rfl) (by kernel_rfl) (by kernel_rfl) (by kernel_rfl) (by kernel_rfl) (by kernel_rfl) (fun _ _ _ h => h) hS (by rfl) (by intro w' hSw; obtain ⟨y0, y1, y2, y3, y4, y5, y6, y7, y8, y9, y10, y11, y12, y13, y14, y15, y16, y17, y18, y19, y20, y21, y22, y23, y24⟩ := hSw; go_simp <;> first | with_reducible rfl | (with_unfolding_all decide)) ?_
  simp only [Act.put, List.setIfInBounds_toArray, List.set_cons_zero, List.set_cons_succ]
  refine wpAnyL_take (i := 25) 48 (v := .slice (some ⟨ga, 0, none⟩) A.length ac) rfl rfl (by kernel_rfl) (by kernel_rfl) (by kernel_rfl) (by kernel_rfl) (by kernel_rfl) (by kernel_rfl) (fun _ _ _ h => h) hS (by rfl) (by intro w' hSw; obtain ⟨y0, y1, y2, y3, y4, y5, y6, y7, y8, y9, y10, y11, y12, y13, y14, y15, y16, y17, y18, y19, y20, y21, y22, y23, y24⟩ := hSw; go_simp <;> first | with_reducible rfl | (with_unfolding_all decide)) ?_
  simp only [Act.put, List.setIfInBounds_toArray, List.set_cons_zero, List.set_cons_succ]
  refine wpAnyL_take (i := 27) 50 (v := .pointer (some ⟨p, 0, none⟩)) rfl rfl (by kernel_rfl) (by kernel_rfl) (by kernel_rfl) (by kernel_rfl) (by kernel_rfl) (by kernel_rfl) (fun _ _ _ h => h) hS (by rfl) (by intro w' hSw; obtain ⟨y0, y1, y2, y3, y4, y5, y6, y7, y8, y9, y10, y11, y12, y13, y14, y15, y16, y17, y18, y19, y20, y21, y22, y23, y24⟩ := hSw; go_simp <;> first | with_reducible rfl | (with_unfolding_all decide)) ?_
  simp only [Act.put, List.setIfInBounds_toArray, List.set_cons_zero, List.set_cons_succ]
  refine wpAnyL_take (i := 28) 51 (v := .pointer (some ⟨p, 0, none⟩)) rfl rfl (by kernel_rfl) (by kernel_rfl) (by kernel_rfl) (by kernel_rfl) (by kernel_rfl) (by kernel_rfl) (fun _ _ _ h => h) hS (by rfl) (by intro w' hSw; obtain ⟨y0, y1, y2, y3, y4, y5, y6, y7, y8, y9, y10, y11, y12, y13, y14, y15, y16, y17, y18, y19, y20, y21, y22, y23, y24⟩ := hSw; go_simp <;> first | with_reducible rfl | (with_unfolding_all decide)) ?_
  simp only [Act.put, List.setIfInBounds_toArray, List.set_cons_zero, List.set_cons_succ]
  refine wpAnyL_take (i := 29) 52 (v := .pointer (some ⟨p, 2, none⟩)) rfl rfl (by kernel_rfl) (by kernel_rfl) (by kernel_rfl) (by kernel_rfl) (by kernel_rfl) (by kernel_rfl) (fun _ _ _ h => h) hS (by rfl) (by intro w' hSw; obtain ⟨y0, y1, y2, y3, y4, y5, y6, y7, y8, y9, y10, y11, y12, y13, y14, y15, y16, y17, y18, y19, y20, y21, y22, y23, y24⟩ := hSw; go_simp <;> first | with_reducible rfl | (with_unfolding_all decide)) ?_
  simp only [Act.put, List.setIfInBounds_toArray, List.set_cons_zero, List.set_cons_succ]
  refine wpAnyL_take (i := 30) 53 (v := .slice (some ⟨jb, 0, none⟩) 1 jc) rfl rfl (by kernel_rfl) (by kernel_rfl) (by kernel_rfl) (by kernel_rfl) (by kernel_rfl) (by kernel_rfl) (fun _ _ _ h => h) hS (by rfl) (by intro w' hSw; obtain ⟨y0, y1, y2, y3, y4, y5, y6, y7, y8, y9, y10, y11, y12, y13, y14, y15, y16, y17, y18, y19, y20, y21, y22, y23, y24⟩ := hSw; go_simp <;> first | with_reducible rfl | (with_unfolding_all decide)) ?_
  simp only [Act.put, List.setIfInBounds_toArray, List.set_cons_zero, List.set_cons_succ]
  refine wpAnyL_take (i := 31) 54 (v := .pointer (some ⟨q, 0, none⟩)) rfl rfl (by kernel_rfl) (by kernel_rfl) (by kernel_rfl) (by kernel_rfl) (by kernel_rfl) (by kernel_rfl) (fun _ _ _ h => h) hS (by rfl) (by intro w' hSw; obtain ⟨y0, y1, y2, y3, y4, y5, y6, y7, y8, y9, y10, y11, y12, y13, y14, y15, y16, y17, y18, y19, y20, y21, y22, y23, y24⟩ := hSw; go_simp <;> first | with_reducible rfl | (with_unfolding_all decide)) ?_
  simp only [Act.put, List.setIfInBounds_toArray, List.set_cons_zero, List.set_cons_succ]
  refine wpAnyL_take (i := 32) 55 (v := .pointer (some ⟨q, 0, none⟩)) rfl rfl (by kernel_rfl) (by kernel_rfl) (by kernel_rfl) (by kernel_rfl) (by kernel_rfl) (by kernel_rfl) (fun _ _ _ h => h) hS (by rfl) (by intro w' hSw; obtain ⟨y0, y1, y2, y3, y4, y5, y6, y7, y8, y9, y10, y11, y12, y13, y14, y15, y16, y17, y18, y19, y20, y21, y22, y23, y24⟩ := hSw; go_simp <;> first | with_reducible rfl | (with_unfolding_all decide)) ?_
  simp only [Act.put, List.setIfInBounds_toArray, List.set_cons_zero, List.set_cons_succ]
  refine wpAnyL_take (i := 33) 56 (v := .pointer (some ⟨q, 0, none⟩)) rfl rfl (by kernel_rfl) (by kernel_rfl) (by kernel_rfl) (by kernel_rfl) (by kernel_rfl) (by kernel_rfl) (fun _ _ _ h => h) hS (by rfl) (by intro w' hSw; obtain ⟨y0, y1, y2, y3, y4, y5, y6, y7, y8, y9, y10, y11, y12, y13, y14, y15, y16, y17, y18, y19, y20, y21, y22, y23, y24⟩ := hSw; go_simp <;> first | with_reducible rfl | (with_unfolding_all decide)) ?_
  simp only [Act.put, List.setIfInBounds_toArray, List.set_cons_zero, List.set_cons_succ]
  refine wpAnyL_take (i := 34) 57 (v := .int .i64 1) rfl rfl (by kernel_rfl) (by kernel_rfl) (by kernel_rfl) (by kernel_rfl) (by kernel_rfl) (by kernel_rfl) (fun _ _ _ h => h) hS (by rfl) (by intro w' hSw; obtain ⟨y0, y1, y2, y3, y4, y5, y6, y7, y8, y9, y10, y11, y12, y13, y14, y15, y16, y17, y18, y19, y20, y21, y22, y23, y24⟩ := hSw; go_simp <;> first | with_reducible rfl | (with_unfolding_all decide)) ?_
  simp only [Act.put, List.setIfInBounds_toArray, List.set_cons_zero, List.set_cons_succ]
  refine wpAnyL_take (i := 35) 58 (v := .int .i64 0) rfl rfl (by kernel_rfl) (by kernel_rfl) (by kernel_rfl) (by kernel_rfl) (by kernel_rfl) (by kernel_rfl) (fun _ _ _ h => h) hS (by rfl) (by intro w' hSw; obtain ⟨y0, y1, y2, y3, y4, y5, y6, y7, y8, y9, y10, y11, y12, y13, y14, y15, y16, y17, y18, y19, y20, y21, y22, y23, y24⟩ := hSw; go_simp <;> first | with_reducible rfl | (with_unfolding_all decide)) ?_
  simp only [Act.put, List.setIfInBounds_toArray, List.set_cons_zero, List.set_cons_succ]
  refine wpAnyL_take (i := 36) 59 (v := .pointer (some ⟨jb, 0, none⟩)) rfl rfl (by kernel_rfl) (by kernel_rfl) (by kernel_rfl) (by kernel_rfl) (by kernel_rfl) (by kernel_rfl) (fun _ _ _ h => h) hS (by rfl) (by intro w' hSw; obtain ⟨y0, y1, y2, y3, y4, y5, y6, y7, y8, y9, y10, y11, y12, y13, y14, y15, y16, y17, y18, y19, y20, y21, y22, y23, y24⟩ := hSw; go_simp <;> first | with_reducible rfl | (with_unfolding_all decide)) ?_
  simp only [Act.put, List.setIfInBounds_toArray, List.set_cons_zero, List.set_cons_succ]
  refine wpAnyL_take (i := 37) 60 (v := .pointer (some ⟨jb, 0, none⟩)) rfl rfl (by kernel_rfl) (by kernel_rfl) (by kernel_rfl) (by kernel_rfl) (by kernel_rfl) (by kernel_rfl) (fun _ _ _ h => h) hS (by rfl) (by intro w' hSw; obtain ⟨y0, y1, y2, y3, y4, y5, y6, y7, y8, y9, y10, y11, y12, y13, y14, y15, y16, y17, y18, y19, y20, y21, y22, y23, y24⟩ := hSw; go_simp <;> first | with_reducible rfl | (with_unfolding_all decide)) ?_
  simp only [Act.put, List.setIfInBounds_toArray, List.set_cons_zero, List.set_cons_succ]
  refine wpAnyL_take (i := 38) 61 (v := .agg #[.string t, .slice go G.length gc, pv0, .int .i64 st, .int .i64 se, .int .i64 pa]) rfl rfl (by kernel_rfl) (by kernel_rfl) (by kernel_rfl) (by kernel_rfl) (by kernel_rfl) (by kernel_rfl) (fun _ _ _ h => h) hS (by rfl) (by intro w' hSw; obtain ⟨y0, y1, y2, y3, y4, y5, y6, y7, y8, y9, y10, y11, y12, y13, y14, y15, y16, y17, y18, y19, y20, y21, y22, y23, y24⟩ := hSw; go_simp <;> first | with_reducible rfl | (with_unfolding_all decide)) ?_
  simp only [Act.put, List.setIfInBounds_toArray, List.set_cons_zero, List.set_cons_succ]
  refine wpAnyL_take (i := 40) 63 (v := .pointer (some ⟨q, 0, none⟩)) rfl rfl (by kernel_rfl) (by kernel_rfl) (by kernel_rfl) (by kernel_rfl) (by kernel_rfl) (by kernel_rfl) (fun _ _ _ h => h) hS (by rfl) (by intro w' hSw; obtain ⟨y0, y1, y2, y3, y4, y5, y6, y7, y8, y9, y10, y11, y12, y13, y14, y15, y16, y17, y18, y19, y20, y21, y22, y23, y24⟩ := hSw; go_simp <;> first | with_reducible rfl | (with_unfolding_all decide)) ?_
  simp only [Act.put, List.setIfInBounds_toArray, List.set_cons_zero, List.set_cons_succ]
  refine wpAnyL_take (i := 41) 64 (v := .pointer (some ⟨q, 0, none⟩)) rfl rfl (by kernel_rfl) (by kernel_rfl) (by kernel_rfl) (by kernel_rfl) (by kernel_rfl) (by kernel_rfl) (fun _ _ _ h => h) hS (by rfl) (by intro w' hSw; obtain ⟨y0, y1, y2, y3, y4, y5, y6, y7, y8, y9, y10, y11, y12, y13, y14, y15, y16, y17, y18, y19, y20, y21, y22, y23, y24⟩ := hSw; go_simp <;> first | with_reducible rfl | (with_unfolding_all decide)) ?_
  simp only [Act.put, List.setIfInBounds_toArray, List.set_cons_zero, List.set_cons_succ]
  refine wpAnyL_take (i := 42) 65 (v := .pointer (some ⟨q, 6, none⟩)) rfl rfl (by kernel_rfl) (by kernel_rfl) (by kernel_rfl) (by kernel_rfl) (by kernel_rfl) (by kernel_rfl) (fun _ _ _ h => h) hS (by rfl) (by intro w' hSw; obtain ⟨y0, y1, y2, y3, y4, y5, y6, y7, y8, y9, y10, y11, y12, y13, y14, y15, y16, y17, y18, y19, y20, y21, y22, y23, y24⟩ := hSw; go_simp <;> first | with_reducible rfl | (with_unfolding_all decide)) ?_
  simp only [Act.put, List.setIfInBounds_toArray, List.set_cons_zero, List.set_cons_succ]
  refine wpAnyL_take (i := 43) 66 (v := .agg #[.bool false, .bool false, .bool false, .bool false, .bool false, .int .i64 0, .int .i64 0, .int .i64 0, .int .i64 0, .int .i64 0]) rfl rfl (by kernel_rfl) (by kernel_rfl) (by kernel_rfl) (by kernel_rfl) (by kernel_rfl) (by kernel_rfl) (fun _ _ _ h => h) hS (by rfl) (by intro w' hSw; obtain ⟨y0, y1, y2, y3, y4, y5, y6, y7, y8, y9, y10, y11, y12, y13, y14, y15, y16, y17, y18, y19, y20, y21, y22, y23, y24⟩ := hSw; go_simp <;> first | with_reducible rfl | (with_unfolding_all decide)) ?_
  simp only [Act.put, List.setIfInBounds_toArray, List.set_cons_zero, List.set_cons_succ]
  refine wpAnyL_take (i := 44) 67 (v := .pointer (some ⟨q, 0, none⟩)) rfl rfl (by kernel_rfl) (by kernel_rfl) (by kernel_rfl) (by kernel_rfl) (by kernel_rfl) (by kernel_rfl) (fun _ _ _ h => h) hS (by rfl) (by intro w' hSw; obtain ⟨y0, y1, y2, y3, y4, y5, y6, y7, y8, y9, y10, y11, y12, y13, y14, y15, y16, y17, y18, y19, y20, y21, y22, y23, y24⟩ := hSw; go_simp <;> first | with_reducible rfl | (with_unfolding_all decide)) ?_
  simp only [Act.put, List.setIfInBounds_toArray, List.set_cons_zero, List.set_cons_succ]
  refine wpAnyL_take (i := 45) 68 (v := .pointer (some ⟨q, 0, none⟩)) rfl rfl (by kernel_rfl) (by kernel_rfl) (by kernel_rfl) (by kernel_rfl) (by kernel_rfl) (by kernel_rfl) (fun _ _ _ h => h) hS (by rfl) (by intro w' hSw; obtain ⟨y0, y1, y2, y3, y4, y5, y6, y7, y8, y9, y10, y11, y12, y13, y14, y15, y16, y17, y18, y19, y20, y21, y22, y23, y24⟩ := hSw; go_simp <;> first | with_reducible rfl | (with_unfolding_all decide)) ?_
  simp only [Act.put, List.setIfInBounds_toArray, List.set_cons_zero, List.set_cons_succ]
  refine wpAnyL_take (i := 46) 69 (v := .pointer (some ⟨q, 26, none⟩)) rfl rfl (by kernel_rfl) (by kernel_rfl) (by kernel_rfl) (by kernel_rfl) (by kernel_rfl) (by kernel_rfl) (fun _ _ _ h => h) hS (by rfl) (by intro w' hSw; obtain ⟨y0, y1, y2, y3, y4, y5, y6, y7, y8, y9, y10, y11, y12, y13, y14, y15, y16, y17, y18, y19, y20, y21, y22, y23, y24⟩ := hSw; go_simp <;> first | with_reducible rfl | (with_unfolding_all decide)) ?_
  simp only [Act.put, List.setIfInBounds_toArray, List.set_cons_zero, List.set_cons_succ]
  refine wpAnyL_take (i := 47) 70 (v := .int .i64 0) rfl rfl (by kernel_rfl) (by kernel_rfl) (by kernel_rfl) (by kernel_rfl) (by kernel_rfl) (by kernel_rfl) (fun _ _ _ h => h) hS (by rfl) (by intro w' hSw; obtain ⟨y0, y1, y2, y3, y4, y5, y6, y7, y8, y9, y10, y11, y12, y13, y14, y15, y16, y17, y18, y19, y20, y21, y22, y23, y24⟩ := hSw; go_simp <;> first | with_reducible rfl | (with_unfolding_all decide)) ?_
  simp only [Act.put, List.setIfInBounds_toArray, List.set_cons_zero, List.set_cons_succ]
  refine wpAnyL_take (i := 48) 71 (v := .pointer (some ⟨q, 0, none⟩)) rfl rfl (by kernel_rfl) (by kernel_rfl) (by kernel_rfl) (by kernel_rfl) (by kernel_rfl) (by kernel_rfl) (fun _ _ _ h => h) hS (by rfl) (by intro w' hSw; obtain ⟨y0, y1, y2, y3, y4, y5, y6, y7, y8, y9, y10, y11, y12, y13, y14, y15, y16, y17, y18, y19, y20, y21, y22, y23, y24⟩ := hSw; go_simp <;> first | with_reducible rfl | (with_unfolding_all decide)) ?_
  simp only [Act.put, List.setIfInBounds_toArray, List.set_cons_zero, List.set_cons_succ]
  refine wpAnyL_take (i := 49) 72 (v := .pointer (some ⟨q, 0, none⟩)) rfl rfl (by kernel_rfl) (by kernel_rfl) (by kernel_rfl) (by kernel_rfl) (by kernel_rfl) (by kernel_rfl) (fun _ _ _ h => h) hS (by rfl) (by intro w' hSw; obtain ⟨y0, y1, y2, y3, y4, y5, y6, y7, y8, y9, y10, y11, y12, y13, y14, y15, y16, y17, y18, y19, y20, y21, y22, y23, y24⟩ := hSw; go_simp <;> first | with_reducible rfl | (with_unfolding_all decide)) ?_
  simp only [Act.put, List.setIfInBounds_toArray, List.set_cons_zero, List.set_cons_succ]
  refine wpAnyL_take (i := 50) 73 (v := .pointer (some ⟨q, 27, none⟩)) rfl rfl (by kernel_rfl) (by kernel_rfl) (by kernel_rfl) (by kernel_rfl) (by kernel_rfl) (by kernel_rfl) (fun _ _ _ h => h) hS (by rfl) (by intro w' hSw; obtain ⟨y0, y1, y2, y3, y4, y5, y6, y7, y8, y9, y10, y11, y12, y13, y14, y15, y16, y17, y18, y19, y20, y21, y22, y23, y24⟩ := hSw; go_simp <;> first | with_reducible rfl | (with_unfolding_all decide)) ?_
  simp only [Act.put, List.setIfInBounds_toArray, List.set_cons_zero, List.set_cons_succ]
  refine wpAnyL_take (i := 51) 74 (v := .pointer (some ⟨q, 27, none⟩)) rfl rfl (by kernel_rfl) (by kernel_rfl) (by kernel_rfl) (by kernel_rfl) (by kernel_rfl) (by kernel_rfl) (fun _ _ _ h => h) hS (by rfl) (by intro w' hSw; obtain ⟨y0, y1, y2, y3, y4, y5, y6, y7, y8, y9, y10, y11, y12, y13, y14, y15, y16, y17, y18, y19, y20, y21, y22, y23, y24⟩ := hSw; go_simp <;> first | with_reducible rfl | (with_unfolding_all decide)) ?_
  simp only [Act.put, List.setIfInBounds_toArray, List.set_cons_zero, List.set_cons_succ]
  refine wpAnyL_take (i := 52) 75 (v := .int .i64 0) rfl rfl (by kernel_rfl) (by kernel_rfl) (by kernel_rfl) (by kernel_rfl) (by kernel_rfl) (by kernel_rfl) (fun _ _ _ h => h) hS (by rfl) (by intro w' hSw; obtain ⟨y0, y1, y2, y3, y4, y5, y6, y7, y8, y9, y10, y11, y12, y13, y14, y15, y16, y17, y18, y19, y20, y21, y22, y23, y24⟩ := hSw; go_simp <;> first | with_reducible rfl | (with_unfolding_all decide)) ?_
  simp only [Act.put, List.setIfInBounds_toArray, List.set_cons_zero, List.set_cons_succ]
  refine wpAnyL_take (i := 53) 76 (v := .pointer (some ⟨q, 0, none⟩)) rfl rfl (by kernel_rfl) (by kernel_rfl) (by kernel_rfl) (by kernel_rfl) (by kernel_rfl) (by kernel_rfl) (fun _ _ _ h => h) hS (by rfl) (by intro w' hSw; obtain ⟨y0, y1, y2, y3, y4, y5, y6, y7, y8, y9, y10, y11, y12, y13, y14, y15, y16, y17, y18, y19, y20, y21, y22, y23, y24⟩ := hSw; go_simp <;> first | with_reducible rfl | (with_unfolding_all decide)) ?_
  simp only [Act.put, List.setIfInBounds_toArray, List.set_cons_zero, List.set_cons_succ]
  refine wpAnyL_take (i := 54) 77 (v := .pointer (some ⟨q, 0, none⟩)) rfl rfl (by kernel_rfl) (by kernel_rfl) (by kernel_rfl) (by kernel_rfl) (by kernel_rfl) (by kernel_rfl) (fun _ _ _ h => h) hS (by rfl) (by intro w' hSw; obtain ⟨y0, y1, y2, y3, y4, y5, y6, y7, y8, y9, y10, y11, y12, y13, y14, y15, y16, y17, y18, y19, y20, y21, y22, y23, y24⟩ := hSw; go_simp <;> first | with_reducible rfl | (with_unfolding_all decide)) ?_
  simp only [Act.put, List.setIfInBounds_toArray, List.set_cons_zero, List.set_cons_succ]
  refine wpAnyL_take (i := 55) 78 (v := .pointer (some ⟨q, 27, none⟩)) rfl rfl (by kernel_rfl) (by kernel_rfl) (by kernel_rfl) (by kernel_rfl) (by kernel_rfl) (by kernel_rfl) (fun _ _ _ h => h) hS (by rfl) (by intro w' hSw; obtain ⟨y0, y1, y2, y3, y4, y5, y6, y7, y8, y9, y10, y11, y12, y13, y14, y15, y16, y17, y18, y19, y20, y21, y22, y23, y24⟩ := hSw; go_simp <;> first | with_reducible rfl | (with_unfolding_all decide)) ?_
  simp only [Act.put, List.setIfInBounds_toArray, List.set_cons_zero, List.set_cons_succ]
  refine wpAnyL_take (i := 56) 79 (v := .pointer (some ⟨q, 28, none⟩)) rfl rfl (by kernel_rfl) (by kernel_rfl) (by kernel_rfl) (by kernel_rfl) (by kernel_rfl) (by kernel_rfl) (fun _ _ _ h => h) hS (by rfl) (by intro w' hSw; obtain ⟨y0, y1, y2, y3, y4, y5, y6, y7, y8, y9, y10, y11, y12, y13, y14, y15, y16, y17, y18, y19, y20, y21, y22, y23, y24⟩ := hSw; go_simp <;> first | with_reducible rfl | (with_unfolding_all decide)) ?_
  simp only [Act.put, List.setIfInBounds_toArray, List.set_cons_zero, List.set_cons_succ]
  refine wpAnyL_take (i := 57) 80 (v := .int .i64 0) rfl rfl (by kernel_rfl) (by kernel_rfl) (by kernel_rfl) (by kernel_rfl) (by kernel_rfl) (by kernel_rfl) (fun _ _ _ h => h) hS (by rfl) (by intro w' hSw; obtain ⟨y0, y1, y2, y3, y4, y5, y6, y7, y8, y9, y10, y11, y12, y13, y14, y15, y16, y17, y18, y19, y20, y21, y22, y23, y24⟩ := hSw; go_simp <;> first | with_reducible rfl | (with_unfolding_all decide)) ?_
  simp only [Act.put, List.setIfInBounds_toArray, List.set_cons_zero, List.set_cons_succ]
  refine wpAnyL_take (i := 58) 81 (v := .pointer (some ⟨q, 0, none⟩)) rfl rfl (by kernel_rfl) (by kernel_rfl) (by kernel_rfl) (by kernel_rfl) (by kernel_rfl) (by kernel_rfl) (fun _ _ _ h => h) hS (by rfl) (by intro w' hSw; obtain ⟨y0, y1, y2, y3, y4, y5, y6, y7, y8, y9, y10, y11, y12, y13, y14, y15, y16, y17, y18, y19, y20, y21, y22, y23, y24⟩ := hSw; go_simp <;> first | with_reducible rfl | (with_unfolding_all decide)) ?_
  simp only [Act.put, List.setIfInBounds_toArray, List.set_cons_zero, List.set_cons_succ]
  refine wpAnyL_take (i := 59) 82 (v := .pointer (some ⟨q, 0, none⟩)) rfl rfl (by kernel_rfl) (by kernel_rfl) (by kernel_rfl) (by kernel_rfl) (by kernel_rfl) (by kernel_rfl) (fun _ _ _ h => h) hS (by rfl) (by intro w' hSw; obtain ⟨y0, y1, y2, y3, y4, y5, y6, y7, y8, y9, y10, y11, y12, y13, y14, y15, y16, y17, y18, y19, y20, y21, y22, y23, y24⟩ := hSw; go_simp <;> first | with_reducible rfl | (with_unfolding_all decide)) ?_
  simp only [Act.put, List.setIfInBounds_toArray, List.set_cons_zero, List.set_cons_succ]
  refine wpAnyL_take (i := 60) 83 (v := .pointer (some ⟨q, 2, none⟩)) rfl rfl (by kernel_rfl) (by kernel_rfl) (by kernel_rfl) (by kernel_rfl) (by kernel_rfl) (by kernel_rfl) (fun _ _ _ h => h) hS (by rfl) (by intro w' hSw; obtain ⟨y0, y1, y2, y3, y4, y5, y6, y7, y8, y9, y10, y11, y12, y13, y14, y15, y16, y17, y18, y19, y20, y21, y22, y23, y24⟩ := hSw; go_simp <;> first | with_reducible rfl | (with_unfolding_all decide)) ?_
  simp only [Act.put, List.setIfInBounds_toArray, List.set_cons_zero, List.set_cons_succ]
  refine wpAnyL_take (i := 61) 84 (v := .int .i64 0) rfl rfl (by kernel_rfl) (by kernel_rfl) (by kernel_rfl) (by kernel_rfl) (by kernel_rfl) (by kernel_rfl) (fun _ _ _ h => h) hS (by rfl) (by intro w' hSw; obtain ⟨y0, y1, y2, y3, y4, y5, y6, y7, y8, y9, y10, y11, y12, y13, y14, y15, y16, y17, y18, y19, y20, y21, y22, y23, y24⟩ := hSw; go_simp <;> first | with_reducible rfl | (with_unfolding_all decide)) ?_
  simp only [Act.put, List.setIfInBounds_toArray, List.set_cons_zero, List.set_cons_succ]
  refine wpAnyL_take (i := 62) 85 (v := .int .i64 1) rfl rfl (by kernel_rfl) (by kernel_rfl) (by kernel_rfl) (by kernel_rfl) (by kernel_rfl) (by kernel_rfl) (fun _ _ _ h => h) hS (by rfl) (by intro w' hSw; obtain ⟨y0, y1, y2, y3, y4, y5, y6, y7, y8, y9, y10, y11, y12, y13, y14, y15, y16, y17, y18, y19, y20, y21, y22, y23, y24⟩ := hSw; go_simp <;> first | with_reducible rfl | (with_unfolding_all decide)) ?_
  simp only [Act.put, List.setIfInBounds_toArray, List.set_cons_zero, List.set_cons_succ]
  refine wpAnyL_take (i := 63) 86 (v := .int .i64 1) rfl rfl (by kernel_rfl) (by kernel_rfl) (by kernel_rfl) (by kernel_rfl) (by kernel_rfl) (by kernel_rfl) (fun _ _ _ h => h) hS (by rfl) (by intro w' hSw; obtain ⟨y0, y1, y2, y3, y4, y5, y6, y7, y8, y9, y10, y11, y12, y13, y14, y15, y16, y17, y18, y19, y20, y21, y22, y23, y24⟩ := hSw; go_simp <;> first | with_reducible rfl | (with_unfolding_all decide)) ?_
  simp only [Act.put, List.setIfInBounds_toArray, List.set_cons_zero, List.set_cons_succ]
  refine wpAnyL_take (i := 64) 87 (v := .bool false) rfl rfl (by kernel_rfl) (by kernel_rfl) (by kernel_rfl) (by kernel_rfl) (by kernel_rfl) (by kernel_rfl) (fun _ _ _ h => h) hS (by rfl) (by intro w' hSw; obtain ⟨y0, y1, y2, y3, y4, y5, y6, y7, y8, y9, y10, y11, y12, y13, y14, y15, y16, y17, y18, y19, y20, y21, y22, y23, y24⟩ := hSw; go_simp <;> first | with_reducible rfl | (with_unfolding_all decide)) ?_
  simp only [Act.put, List.setIfInBounds_toArray, List.set_cons_zero, List.set_cons_succ]
  refine wpAnyL_one (i := 21) (by kernel_rfl) rfl (fun Ka hKa => ?_)
  go_simp
  refine (pparts x (HA.out _ HBd.out) (by have := HLn.out; omega)).mono ?_
  rintro r w1 ⟨v1, rfl, ho1, hb1⟩
  obtain ⟨a1, c1, rfl, -⟩ := GO.shape ho1
  have HO1 : Hid (IO_ w1 Wd.heap.size (.slice a1 (plcs A x A.length).length c1) (plcs A x A.length)) := ho1
  have HB1 : Hid (Below w.heap.size w w1) := HBd.out.trans (hb1.mono HBd.out.size)
  have HK1 : Hid (w1.heap[gr]? = some (.cells #[.int .i64 0, .int .i64 0, .int .i64 0, .int .i64 0, .slice none 0 0, .slice none 0 0, .string ⟨#[]⟩, .slice none 0 0, .slice none 0 0, .int .i64 0, .int .i64 0, .int .i64 0, .bool false, .bool false, .bool false, .bool false, .bool false, .int .i64 0, .int .i64 0, .int .i64 0, .int .i64 0, .int .i64 0, .int .i64 0, .int .i64 0, .int .i64 0, .bool false] 69 (0, 0))) := (hb1.block gr (ma_lt HKd.out)).trans HKd.out
  have HS1 : Hid (Wd.heap.size ≤ w1.heap.size) := hb1.size
  refine hKa.out _ _ (fun _ => HSr.out _ HB1.out) ?_
  clear hKa Ka ho1 hb1 hS
  try simp only [Act.put, List.setIfInBounds_toArray, List.set_cons_zero, List.set_cons_succ]
  refine wpAnyL_one (i := 26) (by kernel_rfl) rfl (fun Ka hKa => ?_)
  go_simp
  refine (pclone (by have := HLn.out; omega) (HA.out _ HB1.out)).mono ?_
  rintro r w2 ⟨v2, rfl, ho2, hb2⟩
  obtain ⟨a2, c2, rfl, -⟩ := GO.shape ho2
  have HO2 : Hid (IO_ w2 w1.heap.size (.slice a2 A.length c2) A) := ho2
  have HB2 : Hid (Below w.heap.size w w2) := HB1.out.trans (hb2.mono HB1.out.size)
  have HK2 : Hid (w2.heap[gr]? = some (.cells #[.int .i64 0, .int .i64 0, .int .i64 0, .int .i64 0, .slice none 0 0, .slice none 0 0, .string ⟨#[]⟩, .slice none 0 0, .slice none 0 0, .int .i64 0, .int .i64 0, .int .i64 0, .bool false, .bool false, .bool false, .bool false, .bool false, .int .i64 0, .int .i64 0, .int .i64 0, .int .i64 0, .int .i64 0, .int .i64 0, .int .i64 0, .int .i64 0, .bool false] 69 (0, 0))) := (hb2.block gr (ma_lt HK1.out)).trans HK1.out
  have HS2 : Hid (w1.heap.size ≤ w2.heap.size) := hb2.size
  have HO1b : Hid (IO_ w2 Wd.heap.size (.slice a1 (plcs A x A.length).length c1) (plcs A x A.length)) := GO.new HO1.out hb2
  refine hKa.out _ _ (fun _ => HSr.out _ HB2.out) ?_
  clear hKa Ka ho2 hb2
  try simp only [Act.put, List.setIfInBounds_toArray, List.set_cons_zero, List.set_cons_succ]
  refine wpAnyL_one (i := 39) (by kernel_rfl) rfl (fun Ka hKa => ?_)
  go_simp
  refine (mclone (HG.out _ HB2.out) HOk.out HLn.out.1 (HP.out _ HB2.out) HLn.out.2.1).mono ?_
  rintro r w3 ⟨bo, c, v3, rfl, -, ho3, hb3⟩
  obtain ⟨a3, c3, rfl, -⟩ := GO.shape ho3
  have HB3 : Hid (Below w.heap.size w w3) := HB2.out.trans (hb3.mono HB2.out.size)
  have HK3 : Hid (w3.heap[gr]? = some (.cells #[.int .i64 0, .int .i64 0, .int .i64 0, .int .i64 0, .slice none 0 0, .slice none 0 0, .string ⟨#[]⟩, .slice none 0 0, .slice none 0 0, .int .i64 0, .int .i64 0, .int .i64 0, .bool false, .bool false, .bool false, .bool false, .bool false, .int .i64 0, .int .i64 0, .int .i64 0, .int .i64 0, .int .i64 0, .int .i64 0, .int .i64 0, .int .i64 0, .bool false] 69 (0, 0))) := (hb3.block gr (ma_lt HK2.out)).trans HK2.out
  have HO1c : Hid (IO_ w3 Wd.heap.size (.slice a1 (plcs A x A.length).length c1) (plcs A x A.length)) := GO.new HO1b.out hb3
  have HO2c : Hid (IO_ w3 w1.heap.size (.slice a2 A.length c2) A) := GO.new HO2.out hb3
  refine hKa.out _ _ (fun _ => HSr.out _ HB3.out) ?_
  clear hKa Ka ho3 hb3
  try simp only [Act.put, List.setIfInBounds_toArray, List.set_cons_zero, List.set_cons_succ]
  refine wpAnyL_one (i := 65) (by kernel_rfl) rfl (fun Ka hKa => ?_)
  go_simp
  refine hKa.out _ _ (fun _ => HSr.out _ HB3.out) ?_
  clear hKa Ka
  try simp only [Act.put, List.setIfInBounds_toArray, List.set_cons_zero, List.set_cons_succ]
  refine wpAnyL_one (i := 66) (by kernel_rfl) rfl (fun Ka hKa => ?_)
  rw [if_pos (by kernel_rfl)]
  refine wp_store_row 69 _ _ rfl gr #[.int .i64 1, .int .i64 ep, .int .i64 0, .int .i64 1, .slice a1 (plcs A x A.length).length c1, .slice a2 A.length c2, .string t, .slice bo G.length c, .slice a3 ps.length c3, .int .i64 st, .int .i64 se, .int .i64 pa, .bool false, .bool false, .bool false, .bool false, .bool false, .int .i64 0, .int .i64 0, .int .i64 0, .int .i64 0, .int .i64 0, .int .i64 0, .int .i64 0, .int .i64 0, .bool false] rfl rfl 69 #[.int .i64 0, .int .i64 0, .int .i64 0, .int .i64 0, .slice none 0 0, .slice none 0 0, .string ⟨#[]⟩, .slice none 0 0, .slice none 0 0, .int .i64 0, .int .i64 0, .int .i64 0, .bool false, .bool false, .bool false, .bool false, .bool false, .int .i64 0, .int .i64 0, .int .i64 0, .int .i64 0, .int .i64 0, .int .i64 0, .int .i64 0, .int .i64 0, .bool false] HK3.out size_task rfl (by simp [Value.oneCell']) ?_
  refine hKa.out _ _ (fun h => absurd h (Bool.eq_false_iff.1 (by kernel_rfl))) ?_
  clear hKa Ka
  try simp only [Act.put, List.setIfInBounds_toArray]
  refine wpAnyL_one (i := 67) (by kernel_rfl) rfl (fun Ka hKa => ?_)
  go_simp
  refine hKa.out _ _ (fun h => absurd h (Bool.eq_false_iff.1 (by kernel_rfl))) ?_
  clear hKa Ka
  refine wpAnyL_done (by kernel_rfl) ?_ _
  go_wp2
  have hf := ap_setRow w3 gr #[.int .i64 1, .int .i64 ep, .int .i64 0, .int .i64 1, .slice a1 (plcs A x A.length).length c1, .slice a2 A.length c2, .string t, .slice bo G.length c, .slice a3 ps.length c3, .int .i64 st, .int .i64 se, .int .i64 pa, .bool false, .bool false, .bool false, .bool false, .bool false, .int .i64 0, .int .i64 0, .int .i64 0, .int .i64 0, .int .i64 0, .int .i64 0, .int .i64 0, .int .i64 0, .bool false]
  refine bodyPost_ret (v := .tuple #[.agg #[.int .i64 1, .int .i64 ep, .int .i64 0, .int .i64 1, .slice a1 (plcs A x A.length).length c1, .slice a2 A.length c2, .string t, .slice bo G.length c, .slice a3 ps.length c3, .int .i64 st, .int .i64 se, .int .i64 pa, .bool false, .bool false, .bool false, .bool false, .bool false, .int .i64 0, .int .i64 0, .int .i64 0, .int .i64 0, .int .i64 0, .int .i64 0, .int .i64 0, .int .i64 0, .bool false], .bool true]) (res_ctM Tryz.results23 _ _ gr 69 _ (0, 0) _ rfl (setRow_heap _ _ _ _ _ _ HK3.out) Tryz.underlying69 rfl size_task) rfl ?_
  have hg := HGr.out
  have hlow := HBd.out.size
  refine ⟨_, _, _, _, _, _, rfl, ?_, ?_, HB3.out.trans (hf.below HB3.out.size (fun k hk => by omega))⟩
  · exact (GO.kept HO1c.out hf (fun k hk e => by have := (GO.lt HO1c.out k hk).1; have := ma_lt HKd.out; omega)).lower hlow
  · exact (GO.kept HO2c.out hf (fun k hk e => by have := (GO.lt HO2c.out k hk).1; have := ma_lt HKd.out; have := HS1.out; omega)).lower (Nat.le_trans hlow HS1.out)
end Go.Proofs.YtidghoipmggklaaGreat
