import Derived.Test.YtfidojdolbmjdaaLawTn6M
import Derived.Test.YtfidojdolbmjdaaGrDataM
import Derived.Test.YtfidojdolbmjdaaProg
import Derived.WalkKit
import Derived.ProofKit
import Derived.OpenShut
import Derived.Deep.Slices
import Derived.Deep.Strs
import Derived.Lib.SmallJoins
import Derived.SizedLaws
section
/- SpecTurns. -/
namespace Go.Proofs.Ytfidojdolbmjdaa
open Go.RowKit Go.Shelf
attribute [local go_sem] Oper.semAt_some
theorem turns_num {k : Int} (_ : I64 k) : ∃ (r : Int) (q tn : Nat), Int.tmod k 6 = r ∧ -6 < r ∧ r < 6 ∧ Int.tmod (r + 6) 6 = (q : Int) ∧ (r + 6) % 6 = (q : Int) ∧ q ≤ 5 ∧ tn = q := by
  have h1 : -6 < Int.tmod k 6 := by
    by_cases h : 0 ≤ k
    · rw [Int.tmod_eq_emod_of_nonneg h]
      omega
    · have h2 : Int.tmod k 6 = -(Int.tmod (-k) 6) := by rw [Int.neg_tmod, Int.neg_neg]
      rw [h2, Int.tmod_eq_emod_of_nonneg (by omega)]
      omega
  have h2 : Int.tmod k 6 < 6 := Int.tmod_lt_of_pos k (by decide)
  refine ⟨_, ((Int.tmod k 6 + 6) % 6).toNat, _, rfl, h1, h2, ?_, ?_, ?_, rfl⟩
  · rw [Int.tmod_eq_emod_of_nonneg (by omega)]
    omega
  · omega
  · omega
set_option linter.unusedSimpArgs false in
set_option linter.unusedVariables false in
set_option maxRecDepth 100000 in
set_option maxHeartbeats 16000000 in
theorem law_turns {w : World} {P : Nat → Prop} {ao : Option Addr} (G : List Vx) (cap : Nat) (k : Int) (h : VxAt w P ao G) (hok : ∀ v ∈ G, v.ok) (hl : G.length * 40 ≤ 140737488355328) (hk : I64 k) :
    Calls Try.prog 4 #[.agg #[.slice ao G.length cap], .int .i64 k] w fun r w' => r = .returned (.bool true) ∧ Below w.heap.size w w' := by
  have HG : Hid (∀ W, Below w.heap.size w W → VxAt W (fun k => k < w.heap.size) ao G) := fun W hb => (h.mono (Q := fun k => k < w.heap.size) (fun k hk _ => hk)).new hb
  have HOk : Hid (∀ v ∈ G, v.ok) := hok
  have HB0 : Hid (Below w.heap.size w (w.alloc (.cells #[.slice ao G.length cap] 24))) := one_new _ _
  by_cases hg : goodB G = true
  · have hg' := hg
    unfold goodB at hg'
    rw [Bool.and_eq_true, Bool.and_eq_true] at hg'
    obtain ⟨⟨hc, h20⟩, _⟩ := hg'
    have hc : chk G = 0 := by simpa using hc
    have h20 : G.length ≤ 20 := by simpa using h20
    obtain ⟨_, hr⟩ := rise_of hc
    have hE := evs_few hc hok
    have hth : thereE G = true := (chk_ok hc).2.2.2.2
    obtain ⟨r0, q0, tn, hr0, hra, hrb, hq0, hq1, hq5, htn⟩ := turns_num hk
    subst htn
    have HRk : Hid (∀ W (t : Nat), Below w.heap.size w W → t ≤ 1000 → Calls Try.prog 12 #[.agg #[.slice ao G.length cap], .int .i64 t] W fun r w' => (∃ pa ca, r = .returned (.slice pa G.length ca) ∧ RwI w' 2 0 (.slice pa G.length ca) (ranksN G t)) ∧ Below W.heap.size W w') := fun W t hb ht => by
      refine (ranks_any cap (HG.out W hb) hok hr hth (by omega) hE ht).mono ?_
      rintro r w' ⟨⟨u, rfl, hu⟩, hb'⟩
      obtain ⟨pa, ca, rfl⟩ := ri_shape hu
      rw [(ranksN_ok hr hth t).1] at hu ⊢
      exact ⟨⟨pa, ca, rfl, hu⟩, hb'⟩
    have HLb : Hid (∀ W (t : Nat), Below w.heap.size w W → t ≤ 1000 → Calls Try.prog 13 #[.agg #[.slice ao G.length cap], .int .i64 t] W fun r w' => (∃ pa ca, r = .returned (.slice pa G.length ca) ∧ RwI w' 2 0 (.slice pa G.length ca) (labelsN G t)) ∧ Below W.heap.size W w') := fun W t hb ht => by
      refine (labels_any cap (HG.out W hb) hok hr hth (by omega) hE ht).mono ?_
      rintro r w' ⟨⟨u, rfl, hu⟩, hb'⟩
      obtain ⟨pa, ca, rfl⟩ := ri_shape hu
      rw [labelsN_len] at hu ⊢
      exact ⟨⟨pa, ca, rfl, hu⟩, hb'⟩
    have HAo : Hid (RkOk G.length (ranksN G tn)) := ranksN_ok hr hth tn
    have HBo : Hid (RkOk G.length (ranksN G (tn + 1))) := ranksN_ok hr hth (tn + 1)
    have HCl : Hid ((labelsN G tn).length = G.length) := labelsN_len G tn
    have HDl : Hid ((labelsN G (tn + 1)).length = G.length) := labelsN_len G (tn + 1)
    have HAB : Hid (∀ i, i < G.length → (ranksN G (tn + 1)).getD i 0 = 150000 / (G.length : Int) + rankIn (rowsG G) (ranksN G tn) G.length i * 85 / 100) := fun i hi => by
      have e : ranksN G (tn + 1) = rankT (rowsG G) G.length (ranksN G tn) := iterT_succ _ _ _
      rw [e, rankT_at hi]
    have HCD : Hid (∀ i, i < G.length → (labelsN G (tn + 1)).getD i 0 = bestOf (saidIn (rowsG G) (labelsN G tn) G.length i) ((labelsN G tn).getD i 0)) := fun i hi => by
      have e : labelsN G (tn + 1) = labT (rowsG G) G.length (labelsN G tn) := iterT_succ _ _ _
      rw [e, labT_at hi]
    have HO : Hid (∀ k, ∀ e ∈ (rowsG G).getD k [], e.t.toNat < G.length) := fun k e he => by have := rowsG_in hr hth k e he; omega
    have HCt : Hid (∀ i (hi : i < G.length) k (h : k < G.length), cntE ((rowsG G).getD k []) i = cntV G[k].es G[i].id) := fun i hi k h => cntV_row hr hth h hi
    have HLe : Hid (∀ k (h : k < G.length), ((rowsG G).getD k []).length = G[k].es.length ∧ G[k].es.length ≤ 2048) := fun k h => ⟨rowLen h, by have := es_le h; omega⟩
    have HLe2 : Hid (∀ k, ((rowsG G).getD k []).length ≤ 2048) := rowsG_len hE
    have HGd : Hid (goodB G = true) := hg
    obtain ⟨tm, htm⟩ : ∃ tm, tn + 1 = tm := ⟨_, rfl⟩
    have htm0 : tm ≤ 6 := by omega
    have hw1 : IntKind.i64.wrap r0 = r0 := IntWalk.i64_in _ (by omega)
    have hw2 : IntKind.i64.wrap (r0 + 6) = r0 + 6 := IntWalk.i64_in _ (by omega)
    have hw3 : wrap64 (r0 + 6) = r0 + 6 := by unfold wrap64; omega
    have hw4 : IntKind.i64.wrap (tn : Int) = (tn : Int) := IntWalk.i64_in _ (by omega)
    have hw5 : (tn : Int) + 1 = (tm : Int) := by omega
    have hw6 : IntKind.i64.wrap (tm : Int) = (tm : Int) := IntWalk.i64_in _ (by omega)
    have hw7 : wrap64 (tm : Int) = (tm : Int) := by unfold wrap64; omega
    rw [htm] at HBo HDl HAB HCD
    clear h hok hc hg hr hth hk htm hE
    go_enter Try.func4, Try.ntmps4
    go_upto_region 5 with (first
      | (go_at_call 10; refine (good_any cap (HG.out _ HB0.out) HOk.out hl).mono ?_; rintro r w1 ⟨rfl, hb1⟩; rw [HGd.out]; have x1 := (hb1.cell (p := ⟨w.heap.size, 0, none⟩) (by simp)).trans (cell_of_one (heap_alloc_new _ _)); have HB1 : Hid (Below w.heap.size w w1) := HB0.out.trans (hb1.mono HB0.out.size))
      | (go_at_call 9; refine (ref_any G cap (HG.out _ HB1.out) HOk.out hl).mono ?_; rintro r w2 ⟨bo2, c2, rfl, hV2, hb2⟩; have x2 := (hb2.cell (p := ⟨w.heap.size, 0, none⟩) (lt_cell x1)).trans x1; have HB2 : Hid (Below w.heap.size w w2) := HB1.out.trans (hb2.mono HB1.out.size)))
    have HV2 : Hid (VxAt w2 (fun k => w1.heap.size ≤ k) bo2 G) := hV2
    have HBw2 : Hid (Below w.heap.size w w2) := HB2.out
    clear hV2 hb1 hb2 x1 HB1 hr0 hq0 hq1 hw1 hw2 hw3 hra hrb
    obtain ⟨n, hn⟩ : ∃ n, G.length = n := ⟨_, rfl⟩
    have HN : Hid (G.length = n) := hn
    rw [hn] at x2 h20 HRk HLb HAo HBo HCl HDl HAB HCD HO ⊢
    clear hn
    generalize w.heap.size = q at x2 ⊢
    have hw8 : IntKind.i64.wrap ((tm : Int) - 1) = (tn : Int) := by rw [IntWalk.i64_in _ (by omega)]; omega
    have hw9 : (tm : Int) - 1 = (tn : Int) := by omega
    have htn1 : tn ≤ 1000 := by omega
    have htm1 : tm ≤ 1000 := by omega
    go_upto_region 5 with (fail)
    obtain ⟨w2d, hWd⟩ : ∃ Wd, World.drew w2 = Wd := ⟨_, rfl⟩
    have HBw2d : Hid (Below w.heap.size w w2d) := by show Below _ _ _; rw [← hWd]; exact bel_drewN HBw2.out 1
    have hbd5 : Below w2.heap.size w2 w2d := by rw [← hWd]; exact bel_drewN (Below.refl _ _) 1
    have hSw2d : (fun w' : World => w'.cell? ⟨q, 0, none⟩ = some (.slice ao n cap)) w2d := by rw [← hWd]; exact x2
    refine wp_calm ?_
    refine wp_region_L [] (fun w' : World => w'.cell? ⟨q, 0, none⟩ = some (.slice ao n cap)) (by kernel_rfl) ?_
    rw [hWd]
    clear hWd
    have hS := hSw2d
    refine wpAnyL_take (i := 0) 33 (v := .agg #[.slice ao n cap]) rfl rfl (by kernel_rfl) (by kernel_rfl) (by kernel_rfl) (by kernel_rfl) (by kernel_rfl) (by kernel_rfl) (fun _ _ _ h => h) hS (by rfl) (by intro w' hSw; have y0 := hSw; go_simp <;> with_reducible rfl) ?_
    simp only [Act.put, List.setIfInBounds_toArray, List.set_cons_zero, List.set_cons_succ]
    refine wpAnyL_take (i := 1) 34 (v := .int .i64 (tm : Int)) rfl rfl (by kernel_rfl) (by kernel_rfl) (by kernel_rfl) (by kernel_rfl) (by kernel_rfl) (by kernel_rfl) (fun _ _ _ h => h) hS (by rfl) (by intro w' hSw; have y0 := hSw; go_simp <;> with_reducible rfl) ?_
    simp only [Act.put, List.setIfInBounds_toArray, List.set_cons_zero, List.set_cons_succ]
    refine wpAnyL_take (i := 2) 35 (v := .int .i64 (tn : Int)) rfl rfl (by kernel_rfl) (by kernel_rfl) (by kernel_rfl) (by kernel_rfl) (by kernel_rfl) (by kernel_rfl) (fun _ _ _ h => h) hS (by rfl) (by intro w' hSw; have y0 := hSw; go_simp <;> with_reducible rfl) ?_
    simp only [Act.put, List.setIfInBounds_toArray, List.set_cons_zero, List.set_cons_succ]
    refine wpAnyL_take (i := 4) 37 (v := .agg #[.slice ao n cap]) rfl rfl (by kernel_rfl) (by kernel_rfl) (by kernel_rfl) (by kernel_rfl) (by kernel_rfl) (by kernel_rfl) (fun _ _ _ h => h) hS (by rfl) (by intro w' hSw; have y0 := hSw; go_simp <;> with_reducible rfl) ?_
    simp only [Act.put, List.setIfInBounds_toArray, List.set_cons_zero, List.set_cons_succ]
    refine wpAnyL_take (i := 5) 38 (v := .int .i64 (tm : Int)) rfl rfl (by kernel_rfl) (by kernel_rfl) (by kernel_rfl) (by kernel_rfl) (by kernel_rfl) (by kernel_rfl) (fun _ _ _ h => h) hS (by rfl) (by intro w' hSw; have y0 := hSw; go_simp <;> with_reducible rfl) ?_
    simp only [Act.put, List.setIfInBounds_toArray, List.set_cons_zero, List.set_cons_succ]
    refine wpAnyL_one (i := 3) (by kernel_rfl) rfl (fun Ka hKa => ?_)
    go_simp
    refine (HRk.out w2d tn HBw2d.out htn1).mono ?_
    rintro r w4 ⟨⟨pa, ca, rfl, hIa⟩, hbw4⟩
    have HBw4 : Hid (Below w.heap.size w w4) := HBw2d.out.trans (hbw4.mono HBw2d.out.size)
    have hSw4 : (fun w' : World => w'.cell? ⟨q, 0, none⟩ = some (.slice ao n cap)) w4 := (hbw4.cell (p := ⟨q, 0, none⟩) (lt_cell hSw2d)).trans hSw2d
    refine hKa.out _ _ (fun _ => hSw4) ?_
    clear hKa Ka
    try simp only [Act.put, List.setIfInBounds_toArray, List.set_cons_zero, List.set_cons_succ]
    refine wpAnyL_one (i := 6) (by kernel_rfl) rfl (fun Ka hKa => ?_)
    go_simp
    refine (HRk.out w4 tm HBw4.out htm1).mono ?_
    rintro r w5 ⟨⟨pb, cb, rfl, hIb⟩, hbw5⟩
    have HBw5 : Hid (Below w.heap.size w w5) := HBw4.out.trans (hbw5.mono HBw4.out.size)
    have hSw5 : (fun w' : World => w'.cell? ⟨q, 0, none⟩ = some (.slice ao n cap)) w5 := (hbw5.cell (p := ⟨q, 0, none⟩) (lt_cell hSw4)).trans hSw4
    refine hKa.out _ _ (fun _ => hSw5) ?_
    clear hKa Ka
    try simp only [Act.put, List.setIfInBounds_toArray, List.set_cons_zero, List.set_cons_succ]
    refine wpAnyL_take (i := 7) 7 (v := .slice pa n ca) rfl rfl (by kernel_rfl) (by kernel_rfl) (by kernel_rfl) (by kernel_rfl) (by kernel_rfl) (by kernel_rfl) (fun _ _ _ h => h) hSw5 (by rfl) (by intro w' hSw; go_simp <;> with_reducible rfl) ?_
    simp only [Act.put, List.setIfInBounds_toArray, List.set_cons_zero, List.set_cons_succ]
    refine wpAnyL_take (i := 8) 8 (v := .slice pb n cb) rfl rfl (by kernel_rfl) (by kernel_rfl) (by kernel_rfl) (by kernel_rfl) (by kernel_rfl) (by kernel_rfl) (fun _ _ _ h => h) hSw5 (by rfl) (by intro w' hSw; go_simp <;> with_reducible rfl) ?_
    simp only [Act.put, List.setIfInBounds_toArray, List.set_cons_zero, List.set_cons_succ]
    refine wpAnyL_done (by kernel_rfl) ?_ _
    clear x2 hS
    have x2 := hSw5
    go_upto_region 6 with (fail)
    obtain ⟨w5d, hWd⟩ : ∃ Wd, World.drew w5 = Wd := ⟨_, rfl⟩
    have HBw5d : Hid (Below w.heap.size w w5d) := by show Below _ _ _; rw [← hWd]; exact bel_drewN HBw5.out 1
    have hbd6 : Below w5.heap.size w5 w5d := by rw [← hWd]; exact bel_drewN (Below.refl _ _) 1
    have hSw5d : (fun w' : World => w'.cell? ⟨q, 0, none⟩ = some (.slice ao n cap)) w5d := by rw [← hWd]; exact x2
    refine wp_calm ?_
    refine wp_region_L [] (fun w' : World => w'.cell? ⟨q, 0, none⟩ = some (.slice ao n cap)) (by kernel_rfl) ?_
    rw [hWd]
    clear hWd
    have hS := hSw5d
    refine wpAnyL_take (i := 0) 40 (v := .agg #[.slice ao n cap]) rfl rfl (by kernel_rfl) (by kernel_rfl) (by kernel_rfl) (by kernel_rfl) (by kernel_rfl) (by kernel_rfl) (fun _ _ _ h => h) hS (by rfl) (by intro w' hSw; have y0 := hSw; go_simp <;> with_reducible rfl) ?_
    simp only [Act.put, List.setIfInBounds_toArray, List.set_cons_zero, List.set_cons_succ]
    refine wpAnyL_take (i := 1) 41 (v := .int .i64 (tm : Int)) rfl rfl (by kernel_rfl) (by kernel_rfl) (by kernel_rfl) (by kernel_rfl) (by kernel_rfl) (by kernel_rfl) (fun _ _ _ h => h) hS (by rfl) (by intro w' hSw; have y0 := hSw; go_simp <;> with_reducible rfl) ?_
    simp only [Act.put, List.setIfInBounds_toArray, List.set_cons_zero, List.set_cons_succ]
    refine wpAnyL_take (i := 2) 42 (v := .int .i64 (tn : Int)) rfl rfl (by kernel_rfl) (by kernel_rfl) (by kernel_rfl) (by kernel_rfl) (by kernel_rfl) (by kernel_rfl) (fun _ _ _ h => h) hS (by rfl) (by intro w' hSw; have y0 := hSw; go_simp <;> with_reducible rfl) ?_
    simp only [Act.put, List.setIfInBounds_toArray, List.set_cons_zero, List.set_cons_succ]
    refine wpAnyL_take (i := 4) 44 (v := .agg #[.slice ao n cap]) rfl rfl (by kernel_rfl) (by kernel_rfl) (by kernel_rfl) (by kernel_rfl) (by kernel_rfl) (by kernel_rfl) (fun _ _ _ h => h) hS (by rfl) (by intro w' hSw; have y0 := hSw; go_simp <;> with_reducible rfl) ?_
    simp only [Act.put, List.setIfInBounds_toArray, List.set_cons_zero, List.set_cons_succ]
    refine wpAnyL_take (i := 5) 45 (v := .int .i64 (tm : Int)) rfl rfl (by kernel_rfl) (by kernel_rfl) (by kernel_rfl) (by kernel_rfl) (by kernel_rfl) (by kernel_rfl) (fun _ _ _ h => h) hS (by rfl) (by intro w' hSw; have y0 := hSw; go_simp <;> with_reducible rfl) ?_
    simp only [Act.put, List.setIfInBounds_toArray, List.set_cons_zero, List.set_cons_succ]
    refine wpAnyL_one (i := 3) (by kernel_rfl) rfl (fun Ka hKa => ?_)
    go_simp
    refine (HLb.out w5d tn HBw5d.out htn1).mono ?_
    rintro r w6 ⟨⟨pc, cc, rfl, hIc⟩, hbw6⟩
    have HBw6 : Hid (Below w.heap.size w w6) := HBw5d.out.trans (hbw6.mono HBw5d.out.size)
    have hSw6 : (fun w' : World => w'.cell? ⟨q, 0, none⟩ = some (.slice ao n cap)) w6 := (hbw6.cell (p := ⟨q, 0, none⟩) (lt_cell hSw5d)).trans hSw5d
    refine hKa.out _ _ (fun _ => hSw6) ?_
    clear hKa Ka
    try simp only [Act.put, List.setIfInBounds_toArray, List.set_cons_zero, List.set_cons_succ]
    refine wpAnyL_one (i := 6) (by kernel_rfl) rfl (fun Ka hKa => ?_)
    go_simp
    refine (HLb.out w6 tm HBw6.out htm1).mono ?_
    rintro r w7 ⟨⟨pd, cd, rfl, hId⟩, hbw7⟩
    have HBw7 : Hid (Below w.heap.size w w7) := HBw6.out.trans (hbw7.mono HBw6.out.size)
    have hSw7 : (fun w' : World => w'.cell? ⟨q, 0, none⟩ = some (.slice ao n cap)) w7 := (hbw7.cell (p := ⟨q, 0, none⟩) (lt_cell hSw6)).trans hSw6
    refine hKa.out _ _ (fun _ => hSw7) ?_
    clear hKa Ka
    try simp only [Act.put, List.setIfInBounds_toArray, List.set_cons_zero, List.set_cons_succ]
    refine wpAnyL_take (i := 7) 9 (v := .slice pc n cc) rfl rfl (by kernel_rfl) (by kernel_rfl) (by kernel_rfl) (by kernel_rfl) (by kernel_rfl) (by kernel_rfl) (fun _ _ _ h => h) hSw7 (by rfl) (by intro w' hSw; go_simp <;> with_reducible rfl) ?_
    simp only [Act.put, List.setIfInBounds_toArray, List.set_cons_zero, List.set_cons_succ]
    refine wpAnyL_take (i := 8) 10 (v := .slice pd n cd) rfl rfl (by kernel_rfl) (by kernel_rfl) (by kernel_rfl) (by kernel_rfl) (by kernel_rfl) (by kernel_rfl) (fun _ _ _ h => h) hSw7 (by rfl) (by intro w' hSw; go_simp <;> with_reducible rfl) ?_
    simp only [Act.put, List.setIfInBounds_toArray, List.set_cons_zero, List.set_cons_succ]
    refine wpAnyL_done (by kernel_rfl) ?_ _
    clear x2 hS
    have x2 := hSw7
    have HB27 : Hid (Below w2.heap.size w2 w7) := ((((hbd5.trans (hbw4.mono hbd5.size)).trans (hbw5.mono (Nat.le_trans hbd5.size hbw4.size))).trans (hbd6.mono (Nat.le_trans (Nat.le_trans hbd5.size hbw4.size) hbw5.size))).trans (hbw6.mono (Nat.le_trans (Nat.le_trans (Nat.le_trans hbd5.size hbw4.size) hbw5.size) hbd6.size))).trans (hbw7.mono (Nat.le_trans (Nat.le_trans (Nat.le_trans (Nat.le_trans hbd5.size hbw4.size) hbw5.size) hbd6.size) hbw6.size))
    have HVx : Hid (VxAt w7 (fun k => w1.heap.size ≤ k) bo2 G) := HV2.out.new HB27.out
    have HIA : Hid (RwI w7 2 0 (.slice pa n ca) (ranksN G tn)) := ri_new (ri_new (ri_new (ri_new hIa hbw5) hbd6) hbw6) hbw7
    have HIB : Hid (RwI w7 2 0 (.slice pb n cb) (ranksN G tm)) := ri_new (ri_new (ri_new hIb hbd6) hbw6) hbw7
    have HIC : Hid (RwI w7 2 0 (.slice pc n cc) (labelsN G tn)) := ri_new hIc hbw7
    have HID : Hid (RwI w7 2 0 (.slice pd n cd) (labelsN G tm)) := hId
    have HBw : Hid (Below w.heap.size w w7) := HBw7.out
    clear hbd5 hbw4 hbw5 hbd6 hbw6 hbw7 hIa hIb hIc hId hSw2d hSw4 hSw5 hSw5d hSw6 hSw7 HBw2d HBw4 HBw5 HBw5d HBw6 HBw7 HRk HLb x2
    obtain ⟨A, hA⟩ : ∃ A, ranksN G tn = A := ⟨_, rfl⟩
    obtain ⟨Bn, hBn⟩ : ∃ Bn, ranksN G tm = Bn := ⟨_, rfl⟩
    obtain ⟨C, hC⟩ : ∃ C, labelsN G tn = C := ⟨_, rfl⟩
    obtain ⟨Dn, hDn⟩ : ∃ Dn, labelsN G tm = Dn := ⟨_, rfl⟩
    rw [hA] at HAo HAB HIA
    rw [hBn] at HBo HAB HIB
    rw [hC] at HCl HCD HIC
    rw [hDn] at HDl HCD HID
    clear hA hBn hC hDn
    go_wp2
    go_loopw [11, 12, 13, 14, 15, 16, 17, 18, 19, 20, 21] (fun av iv _ _ _ _ _ _ _ _ _ wr => ∃ j : Nat, j ≤ n ∧ iv = .int .i64 j ∧ av = .int .i64 (sumI j (fun k => Bn.getD k 0)) ∧ Hid (Below w7.heap.size w7 wr)) (fun _ iv _ _ _ _ _ _ _ _ _ _ => n - (intOf iv).toNat)
    case atStart => exact ⟨0, Nat.zero_le _, rfl, rfl, Below.refl _ _⟩
    case round =>
      obtain ⟨i, hi, rfl, rfl, HB⟩ := hrel
      by_cases hin : i < n
      · have HIn : Hid (i < n) := hin
        have hii : (i : Int) < n := by omega
        have HGet : Hid (∀ {p : Option Addr} {c : Nat} {X : List Int}, RwI w7 2 0 (.slice p n c) X → X.length = n → ∃ g, p = some ⟨g, 0, none⟩ ∧ ∀ k, k < n → w7.cell? ⟨g, k, none⟩ = some (.int .i64 (X.getD k 0))) := by
          intro p c X hX hXn
          obtain ⟨_, hat⟩ := ri_at hX
          obtain ⟨g, rfl, -, hc⟩ := hat (by omega)
          exact ⟨g, rfl, fun k hk => by rw [← get_d (by omega : k < X.length)]; exact (hc k (by omega)).1⟩
        obtain ⟨ga, rfl, hca⟩ := HGet.out HIA.out HAo.out.1
        obtain ⟨gb, rfl, hcb⟩ := HGet.out HIB.out HBo.out.1
        obtain ⟨gc, rfl, hcc⟩ := HGet.out HIC.out HCl.out
        obtain ⟨gd, rfl, hcd⟩ := HGet.out HID.out HDl.out
        obtain ⟨b, off, rfl, -, -⟩ := HVx.out (by rw [HN.out]; omega)
        have HCa : Hid _ := hca
        have HCb : Hid _ := hcb
        have HCc : Hid _ := hcc
        have HCd : Hid _ := hcd
        have hiG : i < G.length := by rw [HN.out]; exact hin
        have HCtI : Hid (∀ k (h : k < G.length), cntE ((rowsG G).getD k []) i = cntV G[k].es G[i].id) := HCt.out i hiG
        have HIdI : Hid (∀ h : i < G.length, G[i].id = G[i].id) := fun _ => rfl
        obtain ⟨idi, hidi⟩ : ∃ idi, G[i].id = idi := ⟨_, rfl⟩
        have HId2 : Hid (∀ h : i < G.length, G[i].id = idi) := fun _ => hidi
        have HCt2 : Hid (∀ k (h : k < G.length), cntE ((rowsG G).getD k []) i = cntV G[k].es idi) := fun k h => by rw [← hidi]; exact HCtI.out k h
        have HEm : Hid (∀ W, Below w7.heap.size w7 W → RwI (W.alloc (.cells #[] 2)) 2 w7.heap.size (.slice (some ⟨W.heap.size, 0, none⟩) 0 0) []) := fun W hb => own_empty hb.size
        clear hca hcb hcc hcd hiG HGet HCtI HIdI hidi
        go_wp2
        refine tn_loop2 (w := w7) h20 HIn.out HN.out HVx.out HId2.out HAo.out HCa.out HCc.out HO.out HCt2.out HLe.out (HEm.out _ HB.out) (HB.out.trans ((one_new _ _).mono HB.out.size)) ?_
        intro W2 sv2 y15 y16 y80 y81 y82 y83 y84 y85 y86 y87 y88 y89 y90 y91 y92 y93 y94 y95 y96 y97 y98 y99 y100 y101 y102 y103 y104 y105 y106 y107 y108 y109 y110 y111 y112 y113 y114 y115 y116 y117 y118 y119 y120 y121 y122 y123 y124 y125 y126 y127 y128 y129 y130 hsv hb2
        have HSv : Hid (RwI W2 2 w7.heap.size sv2 (saidIn (rowsG G) C n i)) := hsv
        have HB2 : Hid (Below w7.heap.size w7 W2) := hb2
        have hlen : (saidIn (rowsG G) C n i).length ≤ 1000000 := by have := saidIn_len (X := C) HLe2.out i n; omega
        have hsm := rankIn_le HAo.out.2.1 HO.out HAo.out.2.2 (Nat.le_refl n) HIn.out
        have hsn := rankIn_nn (O := rowsG G) HAo.out.2.1 i n
        have hbi := HAB.out i HIn.out
        have hdi := HCD.out i HIn.out
        have v0 := (HB2.out.cell (lt_cell (HCb.out i HIn.out))).trans (HCb.out i HIn.out)
        have HSu : Hid (sumI (i + 1) (fun k => Bn.getD k 0) = sumI i (fun k => Bn.getD k 0) + Bn.getD i 0) := sumI_succ _ _
        have HMo : Hid (sumI (i + 1) (fun k => Bn.getD k 0) ≤ 1000000) := Int.le_trans (sumI_mono HBo.out.2.1 HIn.out) HBo.out.2.2
        have hs0 := sumI_nn i (f := fun k => Bn.getD k 0) (fun k _ => HBo.out.2.1 k)
        have hb0 := HBo.out.2.1 i
        have hsu := HSu.out
        have hmo := HMo.out
        generalize rankIn (rowsG G) A n i = sm at hsm hsn hbi ⊢
        generalize saidIn (rowsG G) C n i = S at HSv hlen hdi
        generalize hsi : sumI i (fun k => Bn.getD k 0) = si at HSu hs0 hsu ⊢
        generalize hsi1 : sumI (i + 1) (fun k => Bn.getD k 0) = si1 at HSu HMo hsu hmo
        have HSi1 : Hid (sumI (i + 1) (fun k => Bn.getD k 0) = si1) := hsi1
        generalize hbi0 : Bn.getD i 0 = bi at v0 hbi HSu hsu hb0
        have HBi : Hid (Bn.getD i 0 = bi) := hbi0
        clear hbi0
        obtain ⟨own, hown⟩ : ∃ own, 150000 / (n : Int) = own := ⟨_, rfl⟩
        rw [hown] at hbi
        have ho0 : 0 ≤ own ∧ own ≤ 150000 := by rw [← hown]; exact ⟨Int.ediv_nonneg (by decide) (by omega), Int.ediv_le_self _ (by decide)⟩
        obtain ⟨ho0, ho1⟩ := ho0
        have e1 : Int.tdiv 150000 (n : Int) = own := by rw [Int.tdiv_eq_ediv_of_nonneg (by decide)]; exact hown
        have e2 : IntKind.i64.wrap own = own := IntWalk.i64_in _ (by omega)
        have e3 : IntKind.i64.wrap (sm * 85) = sm * 85 := IntWalk.i64_in _ (by omega)
        have e4 : Int.tdiv (sm * 85) 100 = sm * 85 / 100 := Int.tdiv_eq_ediv_of_nonneg (by omega)
        have e5 : IntKind.i64.wrap (sm * 85 / 100) = sm * 85 / 100 := IntWalk.i64_in _ (by omega)
        have e6 : IntKind.i64.wrap (own + sm * 85 / 100) = own + sm * 85 / 100 := IntWalk.i64_in _ (by omega)
        have e7 : (bi != own + sm * 85 / 100) = false := by rw [hbi]; simp
        have e8 : ¬ (n : Int) = 0 := by omega
        have e9 : ¬ n = 0 := by omega
        have e10 : wrap64 (sm * 85) = sm * 85 := by unfold wrap64; omega
        have e11 : wrap64 (own + sm * 85 / 100) = own + sm * 85 / 100 := by unfold wrap64; omega
        obtain ⟨so, sc, rfl⟩ := ri_shape HSv.out
        obtain ⟨ls, hls⟩ : ∃ ls, S.length = ls := ⟨_, rfl⟩
        have HLs : Hid (S.length = ls) := hls
        rw [hls] at HSv hlen ⊢
        clear hsi hsi1 hsv hb2 hbi hsm hsn hls
        go_upto_region 24 with (fail)
        refine wp_calm ?_
        refine wp_region_L [] (fun w' : World => w'.cell? ⟨gb, i, none⟩ = some (.int .i64 bi)) (by kernel_rfl) ?_
        obtain ⟨Wd, hWd⟩ : ∃ Wd, World.drew W2 = Wd := ⟨_, rfl⟩
        have hbd : Below W2.heap.size W2 Wd := by rw [← hWd]; exact bel_drewN (Below.refl _ _) 1
        rw [hWd]
        have hS : (fun w' : World => w'.cell? ⟨gb, i, none⟩ = some (.int .i64 bi)) Wd := (hbd.cell (lt_cell v0)).trans v0
        refine wpAnyL_take (i := 0) 131 (v := .slice (some ⟨gb, 0, none⟩) n cb) rfl rfl (by kernel_rfl) (by kernel_rfl) (by kernel_rfl) (by kernel_rfl) (by kernel_rfl) (by kernel_rfl) (fun _ _ _ h => h) hS (by rfl) (by intro w' hSw; have y0 := hSw; go_simp <;> with_reducible rfl) ?_
        simp only [Act.put, List.setIfInBounds_toArray, List.set_cons_zero, List.set_cons_succ]
        refine wpAnyL_take (i := 1) 132 (v := .int .i64 (i : Int)) rfl rfl (by kernel_rfl) (by kernel_rfl) (by kernel_rfl) (by kernel_rfl) (by kernel_rfl) (by kernel_rfl) (fun _ _ _ h => h) hS (by rfl) (by intro w' hSw; have y0 := hSw; go_simp <;> with_reducible rfl) ?_
        simp only [Act.put, List.setIfInBounds_toArray, List.set_cons_zero, List.set_cons_succ]
        refine wpAnyL_take (i := 2) 133 (v := .pointer (some ⟨gb, i, none⟩)) rfl rfl (by kernel_rfl) (by kernel_rfl) (by kernel_rfl) (by kernel_rfl) (by kernel_rfl) (by kernel_rfl) (fun _ _ _ h => h) hS (by rfl) (by intro w' hSw; have y0 := hSw; go_simp <;> with_reducible rfl) ?_
        simp only [Act.put, List.setIfInBounds_toArray, List.set_cons_zero, List.set_cons_succ]
        refine wpAnyL_take (i := 3) 134 (v := .int .i64 bi) rfl rfl (by kernel_rfl) (by kernel_rfl) (by kernel_rfl) (by kernel_rfl) (by kernel_rfl) (by kernel_rfl) (fun _ _ _ h => h) hS (by rfl) (by intro w' hSw; have y0 := hSw; go_simp <;> with_reducible rfl) ?_
        simp only [Act.put, List.setIfInBounds_toArray, List.set_cons_zero, List.set_cons_succ]
        refine wpAnyL_take (i := 4) 135 (v := .slice (some ⟨b, off, none⟩) n c2) rfl rfl (by kernel_rfl) (by kernel_rfl) (by kernel_rfl) (by kernel_rfl) (by kernel_rfl) (by kernel_rfl) (fun _ _ _ h => h) hS (by rfl) (by intro w' hSw; have y0 := hSw; go_simp <;> with_reducible rfl) ?_
        simp only [Act.put, List.setIfInBounds_toArray, List.set_cons_zero, List.set_cons_succ]
        refine wpAnyL_take (i := 5) 136 (v := .int .i64 (n : Int)) rfl rfl (by kernel_rfl) (by kernel_rfl) (by kernel_rfl) (by kernel_rfl) (by kernel_rfl) (by kernel_rfl) (fun _ _ _ h => h) hS (by rfl) (by intro w' hSw; have y0 := hSw; go_simp <;> with_reducible rfl) ?_
        simp only [Act.put, List.setIfInBounds_toArray, List.set_cons_zero, List.set_cons_succ]
        refine wpAnyL_take (i := 6) 137 (v := .int .i64 own) rfl rfl (by kernel_rfl) (by kernel_rfl) (by kernel_rfl) (by kernel_rfl) (by kernel_rfl) (by kernel_rfl) (fun _ _ _ h => h) hS (by rfl) (by intro w' hSw; have y0 := hSw; go_simp <;> with_reducible rfl) ?_
        simp only [Act.put, List.setIfInBounds_toArray, List.set_cons_zero, List.set_cons_succ]
        refine wpAnyL_take (i := 7) 138 (v := .int .i64 sm) rfl rfl (by kernel_rfl) (by kernel_rfl) (by kernel_rfl) (by kernel_rfl) (by kernel_rfl) (by kernel_rfl) (fun _ _ _ h => h) hS (by rfl) (by intro w' hSw; have y0 := hSw; go_simp <;> with_reducible rfl) ?_
        simp only [Act.put, List.setIfInBounds_toArray, List.set_cons_zero, List.set_cons_succ]
        refine wpAnyL_take (i := 8) 139 (v := .int .i64 (sm * 85)) rfl rfl (by kernel_rfl) (by kernel_rfl) (by kernel_rfl) (by kernel_rfl) (by kernel_rfl) (by kernel_rfl) (fun _ _ _ h => h) hS (by rfl) (by intro w' hSw; have y0 := hSw; go_simp <;> with_reducible rfl) ?_
        simp only [Act.put, List.setIfInBounds_toArray, List.set_cons_zero, List.set_cons_succ]
        refine wpAnyL_take (i := 9) 140 (v := .int .i64 (sm * 85 / 100)) rfl rfl (by kernel_rfl) (by kernel_rfl) (by kernel_rfl) (by kernel_rfl) (by kernel_rfl) (by kernel_rfl) (fun _ _ _ h => h) hS (by rfl) (by intro w' hSw; have y0 := hSw; go_simp <;> with_reducible rfl) ?_
        simp only [Act.put, List.setIfInBounds_toArray, List.set_cons_zero, List.set_cons_succ]
        refine wpAnyL_take (i := 10) 141 (v := .int .i64 (own + sm * 85 / 100)) rfl rfl (by kernel_rfl) (by kernel_rfl) (by kernel_rfl) (by kernel_rfl) (by kernel_rfl) (by kernel_rfl) (fun _ _ _ h => h) hS (by rfl) (by intro w' hSw; have y0 := hSw; go_simp <;> with_reducible rfl) ?_
        simp only [Act.put, List.setIfInBounds_toArray, List.set_cons_zero, List.set_cons_succ]
        refine wpAnyL_take (i := 11) 142 (v := .bool false) rfl rfl (by kernel_rfl) (by kernel_rfl) (by kernel_rfl) (by kernel_rfl) (by kernel_rfl) (by kernel_rfl) (fun _ _ _ h => h) hS (by rfl) (by intro w' hSw; have y0 := hSw; go_simp <;> with_reducible rfl) ?_
        simp only [Act.put, List.setIfInBounds_toArray, List.set_cons_zero, List.set_cons_succ]
        refine wpAnyL_done (by kernel_rfl) ?_ _
        clear hS hWd
        have HBd : Hid (Below w7.heap.size w7 Wd) := HB2.out.trans (hbd.mono HB2.out.size)
        have HSd : Hid (RwI Wd 2 w7.heap.size (.slice so ls sc) S) := ri_new HSv.out hbd
        clear e1 e2 e3 e4 e5 e6 e7 e8 e9 e10 e11 v0 hbd HSv HB2 hown
        have u0 := (HBd.out.cell (lt_cell (HCc.out i HIn.out))).trans (HCc.out i HIn.out)
        have HDi : Hid (Dn.getD i 0 = bestOf S (C.getD i 0)) := hdi
        generalize C.getD i 0 = d0 at u0 HDi
        clear hdi
        go_wp2
        refine tn_loop6 (w := w) HLs.out hlen HSd.out ?_
        intro W3 y18 y19 y20 y21 y147 y148 y149 y150 y151 y152 y153 y154 y155 y156 y157 y158 y159 y160 y161 y162 y163 y164 y165 y166 y167 y168 y169 y170 y171 y172 y173 y174 y175 y176 y177 y178 y179 y180 y181 y182 y183 y184 y185 y186 y187 y188 y189 y190 hb3
        have HB3 : Hid (Below w7.heap.size w7 W3) := HBd.out.trans (hb3.mono HBd.out.size)
        have z0 := (HB3.out.cell (lt_cell (HCd.out i HIn.out))).trans (HCd.out i HIn.out)
        have z1 := (HB3.out.cell (lt_cell (HCb.out i HIn.out))).trans (HCb.out i HIn.out)
        rw [HDi.out] at z0
        rw [HBi.out] at z1
        generalize bestOf S d0 = be at z0 ⊢
        have f1 : wrap64 (si + bi) = si + bi := by unfold wrap64; omega
        have f2 : IntKind.i64.wrap (si + bi) = si + bi := IntWalk.i64_in _ (by omega)
        clear u0 hb3
        go_wp2
        go_roundw
        case rel => exact ⟨i + 1, HIn.out, by go_num, by rw [HSi1.out, HSu.out], HB3⟩
        case measure => have := HIn.out; simp [intOf]; omega
      · obtain rfl : i = n := by omega
        have hsu := HBo.out.2.2
        generalize sumI i (fun k => Bn.getD k 0) = al at hsu ⊢
        go_wp2_with (go_at_call 11; refine (awake10 _).mono ?_; rintro r w9 ⟨rfl, hb9⟩)
        go_ret
        exact ⟨rfl, HBw.out.trans ((HB.out.trans (hb9.mono HB.out.size)).mono HBw.out.size)⟩
  · have hg : goodB G = false := by simpa using hg
    have HGd : Hid _ := hg
    clear h hok hg
    go_enter Try.func4, Try.ntmps4
    go_wp2_with (first
      | (go_at_call 10; refine (good_any cap (HG.out _ HB0.out) HOk.out hl).mono ?_; rintro r w1 ⟨rfl, hb1⟩; rw [HGd.out]; have HB1 : Hid (Below w.heap.size w w1) := HB0.out.trans (hb1.mono HB0.out.size))
      | (go_at_call 11; refine (awake10 _).mono ?_; rintro r w2 ⟨rfl, hb2⟩))
    go_ret
    exact ⟨rfl, HB1.out.trans (hb2.mono HB1.out.size)⟩
end Go.Proofs.Ytfidojdolbmjdaa
end

section
/- How edges, vertices and graphs that came in are opened. -/
namespace Go.Proofs.Ytfidojdolbmjdaa
open Go.RowKit Go.Deep Go.Joins Go.ChangeShapes
theorem cellsL : Try.prog.cellsOf 2 = 1 := by kernel_rfl
theorem cellsEs : Try.prog.cellsOf 54 = 1 := by kernel_rfl
theorem cellsVs : Try.prog.cellsOf 22 = 1 := by kernel_rfl
theorem cellsEd : Try.prog.cellsOf 53 = 2 := by kernel_rfl
theorem cellsVx : Try.prog.cellsOf 56 = 3 := by kernel_rfl
theorem cellsGr : Try.prog.cellsOf 24 = 1 := by kernel_rfl
theorem two_of {α : Type} {l : List α} (h : l.length = 2) : ∃ a b, l = [a, b] := by
  match l, h with
  | [a, b], _ => exact ⟨a, b, rfl⟩
theorem three_of {α : Type} {l : List α} (h : l.length = 3) : ∃ a b c, l = [a, b, c] := by
  match l, h with
  | [a, b, c], _ => exact ⟨a, b, c, rfl⟩
theorem add_none {b off : Nat} (j i : Nat) : (((⟨b, off, none⟩ : Addr).add j).add i) = ⟨b, off + j + i, none⟩ := by
  rw [add_add]
  unfold Addr.add
  split <;> simp_all <;> omega
section
variable {H : Type} {enc : TypeId × Value → H} {w : World} {base : Nat} {spare : Nat → Bool} {held : Bool}
def Ed.data (e : Ed) : DataW H := .agg [.lit (.int .i64 e.t), .lit (.int .i64 e.w)]
theorem i64_of {a : Int} (h : (Lit.int .i64 a).wf = true) : I64 a := by have := bounds_i64 h; unfold I64; omega
theorem open_ed {n : Nat} {cs : List Value} {x : DataW H × List MemPlace} (h : DataW.trod enc Try.prog w base spare held n 53 cs = some x) :
    ∃ y : Ed, cs = [.int .i64 y.t, .int .i64 y.w] ∧ x.1 = y.data ∧ y.ok := by
  obtain ⟨y0, y1, m, rfl, hl, h0, h1⟩ := trod_struct2 Try.underlying53 h
  rw [cellsEd] at hl
  obtain ⟨v0, v1, rfl⟩ := two_of hl
  simp only [cellsL] at h0 h1
  obtain ⟨a, e0, rfl, wa⟩ := DataW.trod_int Try.underlying2 h0
  obtain ⟨b, e1, rfl, wb⟩ := DataW.trod_int Try.underlying2 h1
  simp at e0 e1
  subst e0 e1
  exact ⟨⟨a, b⟩, rfl, rfl, ⟨i64_of wa, i64_of wb⟩⟩
theorem open_eds {n : Nat} {cs : List Value} {x : DataW H × List MemPlace} (h : DataW.trod enc Try.prog w base spare held n 54 cs = some x) :
    ∃ (ao : Option Addr) (cap : Nat) (L : List Ed), cs = [.slice ao L.length cap] ∧ (∀ y ∈ L, y.ok) ∧ L.length ≤ maxLen ∧ EdAt w (fun k => k < w.heap.size) ao L ∧ ((x.1 = .nil ∧ L = []) ∨ ∃ sp, x.1 = .slice (L.map Ed.data) sp) := by
  rcases open_slice Try.underlying54 h with ⟨h0, h1⟩ | ⟨a, len, cap, m, k, D, Pl, rfl, hb, hl, hm, hmm, rfl, hx⟩
  · exact ⟨none, 0, [], h0, fun y hy => (by cases hy), by simp, fun h => absurd h (by simp), Or.inl ⟨by rw [h1], rfl⟩⟩
  · have hlm : len ≤ m := by rw [hmm]; split <;> omega
    have each : ∀ i, i < len → ∃ y : Ed, w.cells? base (a.add (i * 2)) 2 = some [.int .i64 y.t, .int .i64 y.w] ∧ D i = y.data ∧ y.ok := by
      intro i hi
      obtain ⟨cs', h1, h2⟩ := hx i (by omega)
      rw [cellsEd] at h1
      obtain ⟨y, rfl, h3, h4⟩ := open_ed h2
      exact ⟨y, h1, h3, h4⟩
    haveI : Inhabited Ed := ⟨⟨0, 0⟩⟩
    obtain ⟨q, hq⟩ := choose_lt each
    have hlen : ((List.range len).map q).length = len := by simp
    refine ⟨some a, cap, (List.range len).map q, by rw [hlen], ?_, by rw [hlen]; omega, ?_, Or.inr ⟨(List.range (m - len)).map fun j => D (len + j), ?_⟩⟩
    · intro y hy
      obtain ⟨i, hi, rfl⟩ := List.mem_map.1 hy
      exact (hq i (List.mem_range.1 hi)).2.2
    · intro hpos
      rw [hlen] at hpos
      obtain ⟨_, _, hc0⟩ := World.cells?_some (hq 0 hpos).1
      have hs0 := World.cell?_spot (hc0 0 (by simp))
      have hspot : a.spot = none := by simpa [Addr.add] using hs0
      obtain ⟨b, off, spot⟩ := a
      simp only at hspot
      subst hspot
      have hcell : ∀ j (_ : j < len), w.cell? ⟨b, off + j * 2, none⟩ = some (.int .i64 (q j).t) ∧ w.cell? ⟨b, off + j * 2 + 1, none⟩ = some (.int .i64 (q j).w) := by
        intro j hj
        obtain ⟨_, _, hc⟩ := World.cells?_some (hq j hj).1
        have e0 := hc 0 (by simp)
        have e1 := hc 1 (by simp)
        rw [add_none] at e0 e1
        simp at e0 e1
        exact ⟨e0, e1⟩
      refine ⟨b, off, rfl, lt_cell (hcell 0 hpos).1, ?_⟩
      intro j hj
      have hj' : j < len := by simpa using hj
      simp only [List.getElem_map, List.getElem_range]
      exact hcell j hj'
    · show DataW.slice _ _ = _
      rw [List.map_map]
      congr 1
      exact List.map_congr_left (fun i hi => (hq i (List.mem_range.1 hi)).2.1)
/-- A vertex's three cells, opened. -/
theorem open_vx {n : Nat} {cs : List Value} {x : DataW H × List MemPlace} (h : DataW.trod enc Try.prog w base spare held n 56 cs = some x) :
    ∃ (y : Vx) (eo : Option Addr) (ec : Nat) (dx : DataW H), cs = [.int .i64 y.id, .int .i64 y.val, .slice eo y.es.length ec] ∧ I64 y.id ∧ I64 y.val ∧ (∀ e ∈ y.es, e.ok) ∧ y.es.length ≤ maxLen ∧ EdAt w (fun k => k < w.heap.size) eo y.es ∧ x.1 = .agg [.lit (.int .i64 y.id), .lit (.int .i64 y.val), dx] ∧ ((dx = .nil ∧ y.es = []) ∨ ∃ sp, dx = .slice (y.es.map Ed.data) sp) := by
  obtain ⟨y0, y1, y2, m, rfl, hl, h0, h1, h2⟩ := trod_struct3 Try.underlying56 h
  rw [cellsVx] at hl
  obtain ⟨v0, v1, v2, rfl⟩ := three_of hl
  simp only [cellsL, cellsEs] at h0 h1 h2
  obtain ⟨a, e0, rfl, wa⟩ := DataW.trod_int Try.underlying2 h0
  obtain ⟨b, e1, rfl, wb⟩ := DataW.trod_int Try.underlying2 h1
  obtain ⟨ao, cap, L, hcs, hok, hm, hE, hd⟩ := open_eds h2
  simp at e0 e1 hcs
  subst e0 e1 hcs
  exact ⟨⟨a, b, L⟩, ao, cap, y2.1, rfl, i64_of wa, i64_of wb, hok, hm, hE, rfl, hd⟩
end
end Go.Proofs.Ytfidojdolbmjdaa
end

section
/- How a graph that came in is opened, with its bounds. -/
namespace Go.Proofs.Ytfidojdolbmjdaa
open Go.RowKit Go.Deep Go.Joins Go.ChangeShapes
theorem bytesEd : Try.prog.bytesOf 53 = 16 := by kernel_rfl
theorem bytesVx : Try.prog.bytesOf 56 = 40 := by kernel_rfl
theorem mem_weightsAll {H : Type} {P : Program} {e : TypeId} : ∀ {ds : List (DataW H)} {d : DataW H} {n : Nat}, d ∈ ds → n ∈ d.weights P e → n ∈ DataW.weightsAll P e ds
  | [], _, _, h, _ => by cases h
  | d0 :: ds, d, n, h, hn => by
    simp only [DataW.weightsAll, List.mem_append]
    rcases List.mem_cons.1 h with rfl | h
    · exact Or.inl hn
    · exact Or.inr (mem_weightsAll h hn)
section
variable {H : Type} {enc : TypeId × Value → H} {w : World} {base : Nat} {spare : Nat → Bool} {held : Bool}
theorem vx_weight {y : Vx} {dx : DataW H} (hd : (dx = .nil ∧ y.es = []) ∨ ∃ sp, dx = .slice (y.es.map Ed.data) sp) (hw : ∀ m ∈ (DataW.agg [.lit (.int .i64 y.id), .lit (.int .i64 y.val), dx] : DataW H).weights Try.prog 56, m ≤ reachBytes) : y.es.length ≤ 8796093022208 := by
  rcases hd with ⟨_, h⟩ | ⟨sp, rfl⟩
  · rw [h]; simp
  · have := hw ((y.es.length + sp.length) * 16) (by
      have hu := Try.underlying56
      have hv := Try.underlying54
      simp [DataW.weights, DataW.weightsEach, hu, hv, bytesEd])
    unfold reachBytes at this
    omega
theorem open_vs {n : Nat} {cs : List Value} {x : DataW H × List MemPlace} (h : DataW.trod enc Try.prog w base spare held n 22 cs = some x) (hw : ∀ m ∈ x.1.weights Try.prog 22, m ≤ reachBytes) :
    ∃ (ao : Option Addr) (cap : Nat) (G : List Vx), cs = [.slice ao G.length cap] ∧ (∀ y ∈ G, y.ok) ∧ G.length * 40 ≤ 140737488355328 ∧ VxAt w (fun k => k < w.heap.size) ao G := by
  rcases open_slice Try.underlying22 h with ⟨h0, h1⟩ | ⟨a, len, cap, m, k, D, Pl, rfl, hb, hl, hm, hmm, rfl, hx⟩
  · exact ⟨none, 0, [], h0, fun y hy => (by cases hy), by simp, fun h => absurd h (by simp)⟩
  · have hlm : len ≤ m := by rw [hmm]; split <;> omega
    have hv := Try.underlying22
    have hlen40 : len * 40 ≤ 140737488355328 := by
      have := hw ((((List.range len).map D).length + ((List.range (m - len)).map fun j => D (len + j)).length) * 40) (by simp [DataW.weights, hv, bytesVx])
      unfold reachBytes at this
      simp only [List.length_map, List.length_range] at this
      omega
    have each : ∀ i, i < len → ∃ y : Vx, (∃ eo ec, w.cells? base (a.add (i * 3)) 3 = some [.int .i64 y.id, .int .i64 y.val, .slice eo y.es.length ec] ∧ EdAt w (fun k => k < w.heap.size) eo y.es) ∧ y.ok := by
      intro i hi
      obtain ⟨cs', h1, h2⟩ := hx i (by omega)
      rw [cellsVx] at h1
      obtain ⟨y, eo, ec, dx, rfl, hid, hvl, hes, _, hE, hD, hd⟩ := open_vx h2
      refine ⟨y, ⟨eo, ec, h1, hE⟩, hid, hvl, hes, vx_weight hd (fun m hm => hw m ?_)⟩
      simp only [DataW.weights, hv]
      refine List.mem_cons_of_mem _ (List.mem_append_left _ (mem_weightsAll (d := D i) (List.mem_map.2 ⟨i, List.mem_range.2 hi, rfl⟩) ?_))
      have hD' : D i = _ := hD
      rw [hD']
      exact hm
    haveI : Inhabited Vx := ⟨⟨0, 0, []⟩⟩
    obtain ⟨q, hq⟩ := choose_lt each
    have hlen : ((List.range len).map q).length = len := by simp
    refine ⟨some a, cap, (List.range len).map q, by rw [hlen], ?_, by rw [hlen]; exact hlen40, ?_⟩
    · intro y hy
      obtain ⟨i, hi, rfl⟩ := List.mem_map.1 hy
      exact (hq i (List.mem_range.1 hi)).2
    · intro hpos
      rw [hlen] at hpos
      obtain ⟨eo0, ec0, hq0, _⟩ := (hq 0 hpos).1
      obtain ⟨_, _, hc0⟩ := World.cells?_some hq0
      have hs0 := World.cell?_spot (hc0 0 (by simp))
      have hspot : a.spot = none := by simpa [Addr.add] using hs0
      obtain ⟨b, off, spot⟩ := a
      simp only at hspot
      subst hspot
      have hcell : ∀ j (_ : j < len), VxCell w (fun k => k < w.heap.size) b (off + j * 3) (q j) := by
        intro j hj
        obtain ⟨eo, ec, hqj, hE⟩ := (hq j hj).1
        obtain ⟨_, _, hc⟩ := World.cells?_some hqj
        have e0 := hc 0 (by simp)
        have e1 := hc 1 (by simp)
        have e2 := hc 2 (by simp)
        rw [add_none] at e0 e1 e2
        simp at e0 e1 e2
        exact ⟨eo, ec, e0, e1, e2, hE⟩
      refine ⟨b, off, rfl, ?_, ?_⟩
      · obtain ⟨_, _, e0, _⟩ := hcell 0 hpos
        exact lt_cell e0
      · intro j hj
        have hj' : j < len := by simpa using hj
        simp only [List.getElem_map, List.getElem_range]
        exact hcell j hj'
theorem open_gr {n : Nat} {cs : List Value} {x : DataW H × List MemPlace} (h : DataW.trod enc Try.prog w base spare held n 24 cs = some x) (hw : ∀ m ∈ x.1.weights Try.prog 24, m ≤ reachBytes) :
    ∃ (ao : Option Addr) (cap : Nat) (G : List Vx), cs = [.slice ao G.length cap] ∧ (∀ y ∈ G, y.ok) ∧ G.length * 40 ≤ 140737488355328 ∧ VxAt w (fun k => k < w.heap.size) ao G := by
  obtain ⟨y0, m, rfl, hl, h0⟩ := trod_struct1 Try.underlying24 h
  rw [cellsGr] at hl
  obtain ⟨v0, rfl⟩ : ∃ v, cs = [v] := List.length_eq_one_iff.1 hl
  simp only [cellsVs] at h0
  refine open_vs (x := y0) (by simpa using h0) (fun k hk => hw k ?_)
  have hu := Try.underlying24
  simp [DataW.weights, DataW.weightsEach, hu]
  exact hk
end
end Go.Proofs.Ytfidojdolbmjdaa
end
