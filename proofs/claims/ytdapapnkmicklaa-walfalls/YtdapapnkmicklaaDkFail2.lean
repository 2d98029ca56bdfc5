/- The power fails, where something is loose. -/
import Derived.Test.YtdapapnkmicklaaDkFail
namespace Go.Proofs.Ytdapapnkmicklaa
open Go.RowKit Go.Maps
attribute [local go_sem] Oper.semAt_some
theorem doneF_take (l : Fl) (L : List Chg) (k : Nat) (h : k < L.length) : doneF l (L.take (k + 1)) = doF (doneF l (L.take k)) L[k] := by
  rw [List.take_succ_eq_append_getElem h, doneF_snoc]
section
variable {w : World} {B p : Nat} {A : Dk} {lv : Value}
set_option linter.unusedSimpArgs false in
set_option maxRecDepth 100000 in
set_option maxHeartbeats 4000000 in
theorem fail_some {a b M : Nat} (h : DA w B p A (some a) (some b) lv) (hB : B ≤ w.heap.size) (hbd : BdA A M) (hL : 0 < A.loose.length) (keep tn : Int) : Calls Try.prog 46 #[.pointer (some ⟨p, 0, none⟩), .int .i64 keep, .int .i64 tn] w fun r w' => r = .returned (.tuple #[]) ∧ DkAt w' B p (A.fail keep tn) ∧ FrD B w w' := by
  obtain ⟨ao, cp, rfl⟩ := h.shape
  obtain ⟨g, rfl, _, hcap, hcells⟩ := chrow_at h.row hL
  obtain ⟨c0, c1, c2, c3, c4, c5⟩ := h.cells
  have hk := cutN_is keep A.loose.length
  have HKle : Hid (cutN keep A.loose.length ≤ A.loose.length) := cutN_le _ _
  have HFail : Hid (A.fail keep tn = ⟨failF A.sure A.loose keep tn, [], A.n, true, A.pv⟩) := rfl
  have HF1 : Hid (∀ hh : cutN keep A.loose.length < A.loose.length, 0 < tn → (A.loose[cutN keep A.loose.length].k == 0 || A.loose[cutN keep A.loose.length].k == 1) = true → failF A.sure A.loose keep tn = doF (doneF A.sure (A.loose.take (cutN keep A.loose.length))) (tornC A.loose[cutN keep A.loose.length] tn)) := fun hh h1 h2 => by
    unfold failF
    rw [dif_pos hh, if_pos ⟨h1, by simpa using h2⟩]
  have HF2 : Hid (∀ hh : cutN keep A.loose.length < A.loose.length, 0 < tn → (A.loose[cutN keep A.loose.length].k == 0 || A.loose[cutN keep A.loose.length].k == 1) = false → failF A.sure A.loose keep tn = doneF A.sure (A.loose.take (cutN keep A.loose.length))) := fun hh h1 h2 => by
    unfold failF
    rw [dif_pos hh, if_neg (fun e => by have := e.2; simp at h2; omega)]
  have HF3 : Hid (¬ (cutN keep A.loose.length < A.loose.length ∧ 0 < tn) → failF A.sure A.loose keep tn = doneF A.sure (A.loose.take (cutN keep A.loose.length))) := fun hh => by
    unfold failF
    by_cases h1 : cutN keep A.loose.length < A.loose.length
    · rw [dif_pos h1, if_neg (fun e => hh ⟨h1, e.1⟩)]
    · rw [dif_neg h1]
  have hpb : p ≠ b := fun e => h.pmap.2 (by rw [e])
  have hgb : g ≠ b := fun e => (h.mrow (k := g) rfl).2 (by rw [e])
  have HD : Hid (DA w B p A (some a) (some b) (.slice (some ⟨g, 0, none⟩) A.loose.length cp)) := h
  have HBd : Hid (BdA A M) := hbd
  have HS : Hid (B ≤ w.heap.size) := hB
  have HC : Hid (∀ j (hj : j < A.loose.length), w.cell? ⟨g, j * 4, none⟩ = some (.int .i64 A.loose[j].k) ∧ w.cell? ⟨g, j * 4 + 1, none⟩ = some (.string (str A.loose[j].nm)) ∧ w.cell? ⟨g, j * 4 + 2, none⟩ = some (.string (str A.loose[j].to)) ∧ w.cell? ⟨g, j * 4 + 3, none⟩ = some (.string (str A.loose[j].s))) := hcells
  have hfs : FMap w b A.sure := h.sure
  have HM0 : Hid (FMap w b A.sure) := hfs
  have HOk : Hid (∀ j (hj : j < A.loose.length), A.loose[j].ok) := fun j hj => h.ok _ (List.getElem_mem hj)
  have HN6 : Hid (A.loose.length ≤ 1000000) := by have := hbd.len; show A.loose.length ≤ 1000000; omega
  clear h hbd hB hcells hfs
  obtain ⟨L, hLe⟩ : ∃ L, A.loose = L := ⟨_, rfl⟩
  obtain ⟨K, hKe⟩ : ∃ K, cutN keep A.loose.length = K := ⟨_, rfl⟩
  rw [hLe] at hk c2 hL HC HOk hcap
  rw [hKe] at HKle HF1 HF2 HF3
  rw [← hLe, hKe, hLe] at hk
  have HLe : Hid (A.loose = L) := hLe
  clear hKe
  obtain ⟨n0, hn0⟩ : ∃ n0, L.length = n0 := ⟨_, rfl⟩
  have HN0 : Hid (L.length = n0) := hn0
  rw [hn0] at hk c2 hL hcap
  rw [hLe, hn0] at HKle
  have HKl : Hid (K ≤ n0) := HKle.out
  have hKl : K ≤ n0 := HKle.out
  clear hn0 hLe HKle
  go_enter Try.func46, Try.ntmps46
  go_wp2
  go_loopw [7, 23] (fun _ i wr => ∃ k : Nat, k ≤ K ∧ i = .int .i64 k ∧ FMap wr b (doneF A.sure (L.take k)) ∧ Fr w wr (fun j => j = b)) (fun _ i _ => K - (intOf i).toNat)
  case atStart => exact ⟨0, Nat.zero_le _, rfl, HM0.out, Fr.refl _ _⟩
  case round =>
    obtain ⟨k, hkK, rfl, hm, hf⟩ := hrel
    have HM : Hid (FMap wr b (doneF A.sure (L.take k))) := hm
    have HF : Hid (Fr w wr (fun j => j = b)) := hf
    have d1 := fr_cellD hf hpb c1
    have d2 := fr_cellD hf hpb c2
    clear hm hf
    by_cases hlt : k < K
    · have HLt : Hid (k < K) := hlt
      have hkl : k < L.length := by have := HN0.out; omega
      obtain ⟨z0, z1, z2, z3⟩ := HC.out k hkl
      replace z0 := fr_cellD HF.out hgb z0
      replace z1 := fr_cellD HF.out hgb z1
      replace z2 := fr_cellD HF.out hgb z2
      replace z3 := fr_cellD HF.out hgb z3
      have HY : Hid (doneF A.sure (L.take (k + 1)) = doF (doneF A.sure (L.take k)) L[k]) := doneF_take _ _ _ hkl
      have HOy : Hid L[k].ok := HOk.out k hkl
      have HBy : Hid ((doneF A.sure (L.take k)).length < maxLen ∧ (ofF L[k].nm (doneF A.sure (L.take k))).length + L[k].s.length ≤ maxLen) := by
        have hb := HBd.out.at k (by rw [HLe.out]; exact hkl)
        simp only [HLe.out] at hb
        exact hb
      generalize L[k] = y at z0 z1 z2 z3 HY HOy HBy
      clear hkl
      go_upto_region 4 with (fail)
      generalize hV : World.alloc _ _ = V
      have hQ : V.heap[wr.heap.size]? = some (.cells #[.int .i64 y.k, .string (str y.nm), .string (str y.to), .string (str y.s)] 104 (0, 0)) := by rw [← hV]; exact heap_alloc_new wr _
      have bV : Below wr.heap.size wr V := by rw [← hV]; exact one_newD wr _
      have bVd : Below wr.heap.size wr V.drew := bV.drew
      have hQd : V.drew.heap[wr.heap.size]? = _ := hQ
      obtain ⟨Vd, hVd⟩ : ∃ Vd, V.drew = Vd := ⟨_, rfl⟩
      rw [hVd] at bVd hQd
      obtain ⟨q, hq⟩ : ∃ q, wr.heap.size = q := ⟨_, rfl⟩
      have HFV : Hid (Fr w Vd (fun j => j = b)) := HF.out.trans (Fr.ofBelow bVd _) (fun _ _ h => h)
      have hMV : FMap Vd b (doneF A.sure (L.take k)) := HM.out.new bVd
      have HDO : Hid (Calls Try.prog 72 #[.agg #[.int .i64 y.k, .string (str y.nm), .string (str y.to), .string (str y.s)], .map (some b)] Vd fun r w' => r = .returned (.tuple #[]) ∧ FMap w' b (doF (doneF A.sure (L.take k)) y) ∧ Fr Vd w' (fun k => k = b)) := do_any hMV y HOy.out HBy.out.1 HBy.out.2
      have y1 := fr_cellD HFV.out hpb c1
      rw [hq] at hQd ⊢
      obtain ⟨x0, x1, x2, x3⟩ := box4 hQd
      clear hQ bV bVd hQd hMV hV hq
      refine wp_calmD ?_
      refine wp_region_L [5] (fun w' : World => w'.cell? ⟨p, 1, none⟩ = some (.map (some b)) ∧ w'.cell? ⟨q, 0, none⟩ = some (.int .i64 y.k) ∧ w'.cell? ⟨q, 1, none⟩ = some (.string (str y.nm)) ∧ w'.cell? ⟨q, 2, none⟩ = some (.string (str y.to)) ∧ w'.cell? ⟨q, 3, none⟩ = some (.string (str y.s))) (by kernel_rfl) ?_
      rw [hVd]
      clear hVd
      have hS : (fun w' : World => w'.cell? ⟨p, 1, none⟩ = some (.map (some b)) ∧ w'.cell? ⟨q, 0, none⟩ = some (.int .i64 y.k) ∧ w'.cell? ⟨q, 1, none⟩ = some (.string (str y.nm)) ∧ w'.cell? ⟨q, 2, none⟩ = some (.string (str y.to)) ∧ w'.cell? ⟨q, 3, none⟩ = some (.string (str y.s))) Vd := ⟨y1, x0, x1, x2, x3⟩
      refine wpAnyL_take (i := 0) 27 (v := .agg #[.int .i64 y.k, .string (str y.nm), .string (str y.to), .string (str y.s)]) rfl rfl (by kernel_rfl) (by kernel_rfl) (by kernel_rfl) (by kernel_rfl) (by kernel_rfl) (by kernel_rfl) (fun _ _ _ h => h) hS (by rfl) (by intro w' hSw; obtain ⟨y1, z0, z1, z2, z3⟩ := hSw; go_simp <;> with_reducible rfl) ?_
      simp only [Act.put, List.setIfInBounds_toArray, List.set_cons_zero, List.set_cons_succ]
      refine wpAnyL_take (i := 1) 28 (v := .pointer (some ⟨p, 0, none⟩)) rfl rfl (by kernel_rfl) (by kernel_rfl) (by kernel_rfl) (by kernel_rfl) (by kernel_rfl) (by kernel_rfl) (fun _ _ _ h => h) hS (by rfl) (by intro w' hSw; obtain ⟨y1, z0, z1, z2, z3⟩ := hSw; go_simp <;> with_reducible rfl) ?_
      simp only [Act.put, List.setIfInBounds_toArray, List.set_cons_zero, List.set_cons_succ]
      refine wpAnyL_take (i := 2) 29 (v := .pointer (some ⟨p, 0, none⟩)) rfl rfl (by kernel_rfl) (by kernel_rfl) (by kernel_rfl) (by kernel_rfl) (by kernel_rfl) (by kernel_rfl) (fun _ _ _ h => h) hS (by rfl) (by intro w' hSw; obtain ⟨y1, z0, z1, z2, z3⟩ := hSw; go_simp <;> with_reducible rfl) ?_
      simp only [Act.put, List.setIfInBounds_toArray, List.set_cons_zero, List.set_cons_succ]
      refine wpAnyL_take (i := 3) 30 (v := .pointer (some ⟨p, 1, none⟩)) rfl rfl (by kernel_rfl) (by kernel_rfl) (by kernel_rfl) (by kernel_rfl) (by kernel_rfl) (by kernel_rfl) (fun _ _ _ h => h) hS (by rfl) (by intro w' hSw; obtain ⟨y1, z0, z1, z2, z3⟩ := hSw; go_simp <;> with_reducible rfl) ?_
      simp only [Act.put, List.setIfInBounds_toArray, List.set_cons_zero, List.set_cons_succ]
      refine wpAnyL_take (i := 4) 31 (v := .map (some b)) rfl rfl (by kernel_rfl) (by kernel_rfl) (by kernel_rfl) (by kernel_rfl) (by kernel_rfl) (by kernel_rfl) (fun _ _ _ h => h) hS (by rfl) (by intro w' hSw; obtain ⟨y1, z0, z1, z2, z3⟩ := hSw; go_simp <;> with_reducible rfl) ?_
      simp only [Act.put, List.setIfInBounds_toArray, List.set_cons_zero, List.set_cons_succ]
      refine wpAnyL_one (i := 5) (by kernel_rfl) rfl (fun Ka hKa => ?_)
      go_simp
      refine Calls.mono HDO.out ?_
      rintro r w7 ⟨rfl, m7, f7⟩
      refine hKa.out _ _ (fun h => absurd h (Bool.eq_false_iff.1 (by kernel_rfl))) ?_
      clear hKa Ka HDO
      refine wpAnyL_done (by kernel_rfl) ?_ _
      have HR : Hid (FMap w7 b (doneF A.sure (L.take (k + 1))) ∧ Fr w w7 (fun j => j = b)) := ⟨by rw [HY.out]; exact m7, HFV.out.trans f7 (fun _ _ h => h)⟩
      clear m7 f7 hS y1 x0 x1 x2 x3 z0 z1 z2 z3 d1 d2
      have hk6 : k ≤ 1000000 := by
        have h1 := HLt.out
        have h2 := HKl.out
        have h3 := HN6.out
        rw [HLe.out, HN0.out] at h3
        omega
      go_wp2
      go_roundw
      case rel => exact ⟨k + 1, HLt.out, by go_num, HR.out.1, HR.out.2⟩
      case measure => have := HLt.out; simp [intOf]; omega
    · obtain rfl : k = K := by omega
      clear hlt hkK
      have hdead := (HF.out.block p HD.out.plt hpb).trans HD.out.blk
      by_cases hc : k < n0 ∧ 0 < tn
      · obtain ⟨hkn, htn⟩ := hc
        have hkl : k < L.length := by have := HN0.out; omega
        obtain ⟨z0, z1, z2, z3⟩ := HC.out k hkl
        replace z0 := fr_cellD HF.out hgb z0
        replace z1 := fr_cellD HF.out hgb z1
        replace z2 := fr_cellD HF.out hgb z2
        replace z3 := fr_cellD HF.out hgb z3
        have hkl' : k < A.loose.length := by rw [HLe.out]; exact hkl
        have HOy : Hid L[k].ok := HOk.out k hkl
        have HBy : Hid ((doneF A.sure (L.take k)).length < maxLen ∧ (ofF L[k].nm (doneF A.sure (L.take k))).length + L[k].s.length ≤ maxLen) := by
          have hb := HBd.out.at k hkl'
          simp only [HLe.out] at hb
          exact hb
        have HG1 : Hid ((L[k].k == 0 || L[k].k == 1) = true → failF A.sure A.loose keep tn = doF (doneF A.sure (L.take k)) (tornC L[k] tn)) := by
          have hh := HF1.out hkl' htn
          simp only [HLe.out] at hh ⊢
          exact hh
        have HG2 : Hid ((L[k].k == 0 || L[k].k == 1) = false → failF A.sure A.loose keep tn = doneF A.sure (L.take k)) := by
          have hh := HF2.out hkl' htn
          simp only [HLe.out] at hh ⊢
          exact hh
        have hdm : ¬ tn ≤ 0 := by omega
        generalize L[k] = y at z0 z1 z2 z3 HOy HBy HG1 HG2
        clear hkl hkl' hdead
        have hpu := puts_any y wr
        cases hpb2 : (y.k == 0 || y.k == 1) with
        | false =>
          rw [hpb2] at hpu
          have HFn : Hid (failF A.sure A.loose keep tn = doneF A.sure (L.take k)) := HG2.out hpb2
          clear hpb2
          have HT : Hid (∀ V, Below wr.heap.size wr V → _) := fun V hV => fail_tail HD.out (HF.out.trans (Fr.ofBelow hV (fun j => j = b)) (fun _ _ h => h)) (HM.out.new hV) HS.out
          have HCL : Hid (∀ V, Below wr.heap.size wr V → Calls Try.prog 66 #[.map (some b)] V fun r w' => r = .returned (.map (some V.heap.size)) ∧ FMap w' V.heap.size (doneF A.sure (L.take k)) ∧ FMap w' b (doneF A.sure (L.take k)) ∧ Below V.heap.size V w') := fun V hV => clone_any (HM.out.new hV)
          go_wp2_with (first
            | (go_at_call 73; refine hpu.mono ?_; rintro r w8 ⟨rfl, hb8⟩; have HB8 : Hid _ := hb8; have d1 := (hb8.cell (p := ⟨p, 1, none⟩) (lt_cellD d1)).trans d1; clear hb8)
            | (go_at_call 66; refine Calls.mono (HCL.out _ HB8.out) ?_; rintro r V' ⟨rfl, m1, m2, mb⟩; obtain ⟨e0, e2, e5, g0, g2, g5, hE⟩ := HT.out _ HB8.out V' m1 m2 mb; have HEE : Hid _ := hE; clear hE m1 m2 mb))
          go_end0
          rw [HFail.out, HFn.out]
          exact ⟨rfl, ⟨_, _, _, HEE.out.1⟩, HEE.out.2⟩
        | true =>
          rw [hpb2] at hpu
          have HFn : Hid (failF A.sure A.loose keep tn = doF (doneF A.sure (L.take k)) (tornC y tn)) := HG1.out hpb2
          clear hpb2
          go_upto_region 7 with (go_at_call 73; refine hpu.mono ?_; rintro r w8 ⟨rfl, hb8⟩; have HB8 : Hid _ := hb8; clear hb8)
          have bVd : Below wr.heap.size wr w8.drew := HB8.out.drew
          obtain ⟨Vd, hVd⟩ : ∃ Vd, w8.drew = Vd := ⟨_, rfl⟩
          rw [hVd] at bVd
          have HFV : Hid (Fr w Vd (fun j => j = b)) := HF.out.trans (Fr.ofBelow bVd _) (fun _ _ h => h)
          have HMV : Hid (FMap Vd b (doneF A.sure (L.take k))) := HM.out.new bVd
          have hto := torn_any y tn Vd htn
          have y1 := fr_cellD HFV.out hpb c1
          have y2 := fr_cellD HFV.out hpb c2
          replace z0 := (bVd.cell (p := ⟨g, k * 4, none⟩) (lt_cellD z0)).trans z0
          replace z1 := (bVd.cell (p := ⟨g, k * 4 + 1, none⟩) (lt_cellD z1)).trans z1
          replace z2 := (bVd.cell (p := ⟨g, k * 4 + 2, none⟩) (lt_cellD z2)).trans z2
          replace z3 := (bVd.cell (p := ⟨g, k * 4 + 3, none⟩) (lt_cellD z3)).trans z3
          have HDO : Hid (∀ V9, Below Vd.heap.size Vd V9 → Calls Try.prog 72 #[.agg #[.int .i64 y.k, .string (str y.nm), .string (str y.to), .string (str (y.s.take tn.toNat))], .map (some b)] V9 fun r w' => r = .returned (.tuple #[]) ∧ FMap w' b (doF (doneF A.sure (L.take k)) (tornC y tn)) ∧ Fr V9 w' (fun k => k = b)) := fun V9 h9 => do_any (HMV.out.new h9) (tornC y tn) ⟨HOy.out.1, HOy.out.2⟩ HBy.out.1 (Nat.le_trans (Nat.add_le_add_left (by show (y.s.take tn.toNat).length ≤ y.s.length; rw [List.length_take]; exact Nat.min_le_right _ _) _) HBy.out.2)
          clear bVd d1 d2
          refine wp_calmD ?_
          refine wp_region_L [13] (fun w' : World => w'.cell? ⟨p, 1, none⟩ = some (.map (some b)) ∧ w'.cell? ⟨p, 2, none⟩ = some (.slice (some ⟨g, 0, none⟩) n0 cp) ∧ w'.cell? ⟨g, k * 4, none⟩ = some (.int .i64 y.k) ∧ w'.cell? ⟨g, k * 4 + 1, none⟩ = some (.string (str y.nm)) ∧ w'.cell? ⟨g, k * 4 + 2, none⟩ = some (.string (str y.to)) ∧ w'.cell? ⟨g, k * 4 + 3, none⟩ = some (.string (str y.s))) (by kernel_rfl) ?_
          rw [hVd]
          clear hVd
          have hS : (fun w' : World => w'.cell? ⟨p, 1, none⟩ = some (.map (some b)) ∧ w'.cell? ⟨p, 2, none⟩ = some (.slice (some ⟨g, 0, none⟩) n0 cp) ∧ w'.cell? ⟨g, k * 4, none⟩ = some (.int .i64 y.k) ∧ w'.cell? ⟨g, k * 4 + 1, none⟩ = some (.string (str y.nm)) ∧ w'.cell? ⟨g, k * 4 + 2, none⟩ = some (.string (str y.to)) ∧ w'.cell? ⟨g, k * 4 + 3, none⟩ = some (.string (str y.s))) Vd := ⟨y1, y2, z0, z1, z2, z3⟩
          refine wpAnyL_take (i := 0) 55 (v := .pointer (some ⟨p, 0, none⟩)) rfl rfl (by kernel_rfl) (by kernel_rfl) (by kernel_rfl) (by kernel_rfl) (by kernel_rfl) (by kernel_rfl) (fun _ _ _ h => h) hS (by rfl) (by intro w' hSw; obtain ⟨y1, y2, z0, z1, z2, z3⟩ := hSw; go_simp <;> with_reducible rfl) ?_
          simp only [Act.put, List.setIfInBounds_toArray, List.set_cons_zero, List.set_cons_succ]
          refine wpAnyL_take (i := 1) 56 (v := .pointer (some ⟨p, 0, none⟩)) rfl rfl (by kernel_rfl) (by kernel_rfl) (by kernel_rfl) (by kernel_rfl) (by kernel_rfl) (by kernel_rfl) (fun _ _ _ h => h) hS (by rfl) (by intro w' hSw; obtain ⟨y1, y2, z0, z1, z2, z3⟩ := hSw; go_simp <;> with_reducible rfl) ?_
          simp only [Act.put, List.setIfInBounds_toArray, List.set_cons_zero, List.set_cons_succ]
          refine wpAnyL_take (i := 2) 57 (v := .pointer (some ⟨p, 2, none⟩)) rfl rfl (by kernel_rfl) (by kernel_rfl) (by kernel_rfl) (by kernel_rfl) (by kernel_rfl) (by kernel_rfl) (fun _ _ _ h => h) hS (by rfl) (by intro w' hSw; obtain ⟨y1, y2, z0, z1, z2, z3⟩ := hSw; go_simp <;> with_reducible rfl) ?_
          simp only [Act.put, List.setIfInBounds_toArray, List.set_cons_zero, List.set_cons_succ]
          refine wpAnyL_take (i := 3) 58 (v := .slice (some ⟨g, 0, none⟩) n0 cp) rfl rfl (by kernel_rfl) (by kernel_rfl) (by kernel_rfl) (by kernel_rfl) (by kernel_rfl) (by kernel_rfl) (fun _ _ _ h => h) hS (by rfl) (by intro w' hSw; obtain ⟨y1, y2, z0, z1, z2, z3⟩ := hSw; go_simp <;> with_reducible rfl) ?_
          simp only [Act.put, List.setIfInBounds_toArray, List.set_cons_zero, List.set_cons_succ]
          refine wpAnyL_take (i := 4) 59 (v := .int .i64 (k : Int)) rfl rfl (by kernel_rfl) (by kernel_rfl) (by kernel_rfl) (by kernel_rfl) (by kernel_rfl) (by kernel_rfl) (fun _ _ _ h => h) hS (by rfl) (by intro w' hSw; obtain ⟨y1, y2, z0, z1, z2, z3⟩ := hSw; go_simp <;> with_reducible rfl) ?_
          simp only [Act.put, List.setIfInBounds_toArray, List.set_cons_zero, List.set_cons_succ]
          refine wpAnyL_take (i := 5) 60 (v := .pointer (some ⟨g, k * 4, none⟩)) rfl rfl (by kernel_rfl) (by kernel_rfl) (by kernel_rfl) (by kernel_rfl) (by kernel_rfl) (by kernel_rfl) (fun _ _ _ h => h) hS (by rfl) (by intro w' hSw; obtain ⟨y1, y2, z0, z1, z2, z3⟩ := hSw; go_simp <;> with_reducible rfl) ?_
          simp only [Act.put, List.setIfInBounds_toArray, List.set_cons_zero, List.set_cons_succ]
          refine wpAnyL_take (i := 6) 61 (v := .agg #[.int .i64 y.k, .string (str y.nm), .string (str y.to), .string (str y.s)]) rfl rfl (by kernel_rfl) (by kernel_rfl) (by kernel_rfl) (by kernel_rfl) (by kernel_rfl) (by kernel_rfl) (fun _ _ _ h => h) hS (by rfl) (by intro w' hSw; obtain ⟨y1, y2, z0, z1, z2, z3⟩ := hSw; go_simp <;> with_reducible rfl) ?_
          simp only [Act.put, List.setIfInBounds_toArray, List.set_cons_zero, List.set_cons_succ]
          refine wpAnyL_take (i := 7) 62 (v := .int .i64 tn) rfl rfl (by kernel_rfl) (by kernel_rfl) (by kernel_rfl) (by kernel_rfl) (by kernel_rfl) (by kernel_rfl) (fun _ _ _ h => h) hS (by rfl) (by intro w' hSw; obtain ⟨y1, y2, z0, z1, z2, z3⟩ := hSw; go_simp <;> with_reducible rfl) ?_
          simp only [Act.put, List.setIfInBounds_toArray, List.set_cons_zero, List.set_cons_succ]
          refine wpAnyL_take (i := 9) 64 (v := .pointer (some ⟨p, 0, none⟩)) rfl rfl (by kernel_rfl) (by kernel_rfl) (by kernel_rfl) (by kernel_rfl) (by kernel_rfl) (by kernel_rfl) (fun _ _ _ h => h) hS (by rfl) (by intro w' hSw; obtain ⟨y1, y2, z0, z1, z2, z3⟩ := hSw; go_simp <;> with_reducible rfl) ?_
          simp only [Act.put, List.setIfInBounds_toArray, List.set_cons_zero, List.set_cons_succ]
          refine wpAnyL_take (i := 10) 65 (v := .pointer (some ⟨p, 0, none⟩)) rfl rfl (by kernel_rfl) (by kernel_rfl) (by kernel_rfl) (by kernel_rfl) (by kernel_rfl) (by kernel_rfl) (fun _ _ _ h => h) hS (by rfl) (by intro w' hSw; obtain ⟨y1, y2, z0, z1, z2, z3⟩ := hSw; go_simp <;> with_reducible rfl) ?_
          simp only [Act.put, List.setIfInBounds_toArray, List.set_cons_zero, List.set_cons_succ]
          refine wpAnyL_take (i := 11) 66 (v := .pointer (some ⟨p, 1, none⟩)) rfl rfl (by kernel_rfl) (by kernel_rfl) (by kernel_rfl) (by kernel_rfl) (by kernel_rfl) (by kernel_rfl) (fun _ _ _ h => h) hS (by rfl) (by intro w' hSw; obtain ⟨y1, y2, z0, z1, z2, z3⟩ := hSw; go_simp <;> with_reducible rfl) ?_
          simp only [Act.put, List.setIfInBounds_toArray, List.set_cons_zero, List.set_cons_succ]
          refine wpAnyL_take (i := 12) 67 (v := .map (some b)) rfl rfl (by kernel_rfl) (by kernel_rfl) (by kernel_rfl) (by kernel_rfl) (by kernel_rfl) (by kernel_rfl) (fun _ _ _ h => h) hS (by rfl) (by intro w' hSw; obtain ⟨y1, y2, z0, z1, z2, z3⟩ := hSw; go_simp <;> with_reducible rfl) ?_
          simp only [Act.put, List.setIfInBounds_toArray, List.set_cons_zero, List.set_cons_succ]
          refine wpAnyL_one (i := 8) (by kernel_rfl) rfl (fun Ka hKa => ?_)
          go_simp
          refine hto.mono ?_
          rintro r w9 ⟨rfl, hb9⟩
          refine hKa.out _ _ (fun _ => ⟨(hb9.cell (p := ⟨p, 1, none⟩) (lt_cellD y1)).trans y1, (hb9.cell (p := ⟨p, 2, none⟩) (lt_cellD y2)).trans y2, (hb9.cell (p := ⟨g, k * 4, none⟩) (lt_cellD z0)).trans z0, (hb9.cell (p := ⟨g, k * 4 + 1, none⟩) (lt_cellD z1)).trans z1, (hb9.cell (p := ⟨g, k * 4 + 2, none⟩) (lt_cellD z2)).trans z2, (hb9.cell (p := ⟨g, k * 4 + 3, none⟩) (lt_cellD z3)).trans z3⟩) ?_
          clear hKa Ka
          try simp only [Act.put, List.setIfInBounds_toArray, List.set_cons_zero, List.set_cons_succ]
          refine wpAnyL_one (i := 13) (by kernel_rfl) rfl (fun Kb hKb => ?_)
          go_simp
          refine Calls.mono (HDO.out w9 hb9) ?_
          rintro r w10 ⟨rfl, m10, f10⟩
          refine hKb.out _ _ (fun h => absurd h (Bool.eq_false_iff.1 (by kernel_rfl))) ?_
          clear hKb Kb HDO
          refine wpAnyL_done (by kernel_rfl) ?_ _
          have f11 : Fr w w10 (fun j => j = b) := (HFV.out.trans (Fr.ofBelow hb9 _) (fun _ _ h => h)).trans f10 (fun _ _ h => h)
          have HT : Hid _ := fail_tail HD.out f11 m10 HS.out
          have hcl := clone_any m10
          have d1 := fr_cellD f11 hpb c1
          clear m10 f10 f11 hb9 hS y1 y2 z0 z1 z2 z3
          go_wp2_with (go_at_call 66; refine hcl.mono ?_; rintro r V' ⟨rfl, m1, m2, mb⟩; obtain ⟨e0, e2, e5, g0, g2, g5, hE⟩ := HT.out V' m1 m2 mb; have HEE : Hid _ := hE; clear hE m1 m2 mb)
          go_end0
          rw [HFail.out, HFn.out]
          exact ⟨rfl, ⟨_, _, _, HEE.out.1⟩, HEE.out.2⟩
      · have HFn : Hid (failF A.sure A.loose keep tn = doneF A.sure (L.take k)) := by
          show _ = _
          rw [← HLe.out]
          exact HF3.out (fun e => hc (by rw [HLe.out, HN0.out] at e; exact e))
        have HT : Hid _ := fail_tail HD.out HF.out HM.out HS.out
        have hcl := clone_any HM.out
        have hcond : k < n0 → tn ≤ 0 := fun e => by omega
        clear hdead
        by_cases hkn : k < n0
        · have htn := hcond hkn
          clear hcond hc
          go_wp2_with (go_at_call 66; refine hcl.mono ?_; rintro r V' ⟨rfl, m1, m2, mb⟩; obtain ⟨e0, e2, e5, g0, g2, g5, hE⟩ := HT.out V' m1 m2 mb; have HEE : Hid _ := hE; clear hE m1 m2 mb)
          go_end0
          rw [HFail.out, HFn.out]
          exact ⟨rfl, ⟨_, _, _, HEE.out.1⟩, HEE.out.2⟩
        · clear hcond hc
          go_wp2_with (go_at_call 66; refine hcl.mono ?_; rintro r V' ⟨rfl, m1, m2, mb⟩; obtain ⟨e0, e2, e5, g0, g2, g5, hE⟩ := HT.out V' m1 m2 mb; have HEE : Hid _ := hE; clear hE m1 m2 mb)
          go_end0
          rw [HFail.out, HFn.out]
          exact ⟨rfl, ⟨_, _, _, HEE.out.1⟩, HEE.out.2⟩
end
end Go.Proofs.Ytdapapnkmicklaa
