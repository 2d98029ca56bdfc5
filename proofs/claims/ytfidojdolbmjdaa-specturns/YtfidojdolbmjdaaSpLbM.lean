import Derived.Test.YtfidojdolbmjdaaSpRkM
import Derived.Test.YtfidojdolbmjdaaSpTcM
/- spec.Labels' turn: what comes of labels by one turn. -/
namespace Go.Proofs.Ytfidojdolbmjdaa
open Go.RowKit Go.Shelf
attribute [local go_sem] Oper.semAt_some
theorem cntE_len (l : List Ed) (i : Nat) : cntE l i ≤ l.length := List.countP_le_length
theorem saidIn_len {O : List (List Ed)} {X : List Int} (h : ∀ k, (O.getD k []).length ≤ 2048) (i : Nat) : ∀ m, (saidIn O X m i).length ≤ m * 2048
  | 0 => by simp [saidIn]
  | m + 1 => by
    show (saidIn O X m i ++ List.replicate (cntE (O.getD m []) i) (X.getD m 0)).length ≤ _
    rw [List.length_append, List.length_replicate]
    have h1 := saidIn_len (X := X) h i m
    have h2 := cntE_len (O.getD m []) i
    have h3 := h m
    omega
theorem midL_same {Fa R : List Int} {n k : Nat} (hF : Fa.length = n) (hR : R.length = n) (hk : k < n) (he : Fa.getD k 0 = R.getD k 0) : midL Fa R k = midL Fa R (k + 1) := by
  rw [← midL_set hF hR hk, he, ← midL_at hF hR hk]
  have hl : k < (midL Fa R k).length := by rw [midL_len hF hR k (by omega)]; exact hk
  apply List.ext_getElem?
  intro i
  rw [List.getElem?_set]
  by_cases e : k = i
  · subst e
    simp [hl, List.getD]
  · simp [e]
theorem infoSSl : (Try.prog.info? 36).map (fun i => (i.zero, i.size, i.bytes)) = some (some (.slice none 0 0), 1, 24) := by kernel_rfl
theorem rwI_of {W : World} {te : TypeId} {base : Nat} {v : Value} {L : List Int} (h : W.ownsRow base te 1 v L.length (L.flatMap encI1)) : RwI W te base v L := by
  unfold RwI
  rw [← flat_I1]
  exact h
/-- The blocks of the first k rows, and one more. -/
def doneB (vs : List Value) (q k b : Nat) : Prop := b = q ∨ ∃ (i : Nat) (v : Value), i < k ∧ vs[i]? = some v ∧ v.ownBlock = some b
set_option linter.unusedSimpArgs false in
set_option maxRecDepth 100000 in
set_option maxHeartbeats 8000000 in
theorem labels1_any {w : World} {wb g1 B0 n lo : Nat} {O : List (List Ed)} {R : List Int} {v : Value} {vs0 : List Value} (hc1 : w.cell? ⟨wb, 1, none⟩ = some (.slice (some ⟨g1, 0, none⟩) n n)) (hM : Mat w 75 73 2 encA2 B0 g1 vs0 O) (hv : RwI w 2 lo v R) (hRn : R.length = n) (hOn : O.length = n) (hOl : ∀ k, ∀ e ∈ O.getD k [], 0 ≤ e.t ∧ e.t < n) (hOs : ∀ k, (O.getD k []).length ≤ 2048) (hn256 : n ≤ 256) :
    Calls Try.prog 29 #[v, .pointer (some ⟨wb, 0, none⟩)] w fun r w' => ∃ u, r = .returned u ∧ RwI w' 2 w.heap.size u (labT O n R) ∧ Below w.heap.size w w' := by
  obtain ⟨ii, hii, hy0, hy1, hy2⟩ := info_parts infoSI
  obtain ⟨is, his, hs0, hs1, hs2⟩ := info_parts infoSSl
  have hmk2 : ∀ W : World, (Instr.makeSlice 36 (.int .i64 (n : Int)) (.int .i64 (n : Int))).run Try.prog W = .ok (.slice (some ⟨W.heap.size, 0, none⟩) n n) (W.alloc (.cells (madeCells #[.int .i64 0] n) 2)) := fun W => by
    have := run_make (P := Try.prog) W 36 2 ii (.int .i64 0) Try.underlying36 hii hy0 .i64 .i64 n n (by omega) (by omega) (by rw [hy2]; omega) (by omega)
    simpa [hy1, Value.cells] using this
  have hmk1 : ∀ W : World, (Instr.makeSlice 77 (.int .i64 (n : Int)) (.int .i64 (n : Int))).run Try.prog W = .ok (.slice (some ⟨W.heap.size, 0, none⟩) n n) (W.alloc (.cells (madeCells #[.slice none 0 0] n) 36)) := fun W => by
    have := run_make (P := Try.prog) W 77 36 is (.slice none 0 0) Try.underlying77 his hs0 .i64 .i64 n n (by omega) (by omega) (by rw [hs2]; omega) (by omega)
    simpa [hs1, Value.cells] using this
  have HMk2 : Hid _ := hmk2
  have HO2 : Hid (∀ k, ∀ e ∈ O.getD k [], e.t.toNat < n) := fun k e he => by have := hOl k e he; omega
  have HOl : Hid _ := hOl
  have HOs : Hid _ := hOs
  have HM : Hid _ := hM
  have HRn : Hid (R.length = n) := hRn
  have HOn : Hid (O.length = n) := hOn
  have HV : Hid _ := hv
  obtain ⟨ao, rc, rfl⟩ := ri_shape hv
  obtain ⟨_, hat⟩ := ri_at hv
  rw [hRn] at HV ⊢
  have HAt : Hid _ := hat
  have hg1 := lt_of_block hM.blk
  have hu64 : Try.prog.underlying 36 = some (.slice 2) := Try.underlying36
  clear hM hv hRn hOn hOl hOs hat hmk2
  go_enter Try.func29, Try.ntmps29
  go_upto_region 2 with (fail)
  obtain ⟨m, hm⟩ : ∃ m, w.heap.size = m := ⟨_, rfl⟩
  generalize hW2 : World.alloc w _ = W2
  have HI0 : Hid (∃ vs, Mat W2 2 36 1 encI1 (m + 1) m vs (saidL O R n 0)) := by
    have h1 := heap_alloc_new w (.cells (madeCells #[.slice none 0 0] n) 36)
    rw [hW2, hm] at h1
    rw [saidL_zero]
    exact ⟨_, Mat.made h1 (by omega)⟩
  have HB0 : Hid (Below w.heap.size w W2) := by rw [← hW2]; exact one_new _ _
  have HZ0 : Hid (m + 1 ≤ W2.heap.size) := by rw [← hW2, ← hm, World.size_alloc]; exact Nat.le_refl _
  have d1 : W2.cell? ⟨wb, 1, none⟩ = some (.slice (some ⟨g1, 0, none⟩) n n) := (HB0.out.cell (lt_cell hc1)).trans hc1
  have HMm : Hid (w.heap.size = m) := hm
  rw [hm]
  clear hW2 hmk1 hc1 hm
  go_wp2
  go_loopw [5, 6, 8, 18] (fun _ _ _ i wr => ∃ j : Nat, j ≤ n ∧ i = .int .i64 j ∧ Hid (∃ vs, Mat wr 2 36 1 encI1 (m + 1) m vs (saidL O R n j)) ∧ Hid (Below w.heap.size w wr) ∧ Hid (m + 1 ≤ wr.heap.size)) (fun _ _ _ i _ => n - (intOf i).toNat)
  case atStart => exact ⟨0, Nat.zero_le _, rfl, HI0.out, HB0.out, HZ0.out⟩
  case round =>
    clear d1
    obtain ⟨j, hj, rfl, HI, HB, HZ⟩ := hrel
    by_cases hlt : j < n
    · have hjO : j < O.length := by rw [HOn.out]; exact hlt
      have hM2 := HM.out.kept (Fr.ofBelow HB.out (fun _ => False)) (fun h => h) (fun _ _ h => h)
      obtain ⟨u0, hu, cu, fu, ou⟩ := hM2.at_ hjO
      have HOj : Hid (∀ e ∈ O[j], 0 ≤ e.t ∧ e.t < n) := by rw [get_dd hjO]; exact HOl.out j
      have HLe : Hid (O[j].length ≤ 2048) := by rw [get_dd hjO]; exact HOs.out j
      have HT : Hid (tellRow (R.getD j 0) (saidL O R n j) O[j] = saidL O R n (j + 1)) := by rw [get_dd hjO]; exact saidL_succ R (HO2.out j)
      have HPt : Hid (∀ i, i < n → ∀ k, ((tellRow (R.getD j 0) (saidL O R n j) (O[j].take k)).getD i []).length ≤ 600000) := by
        rw [get_dd hjO]
        intro i hi k
        rw [tellRow_at _ _ _ (fun e he => by rw [saidL_len]; exact HO2.out j e (List.mem_of_mem_take he)), saidL_at hi, List.length_append, List.length_replicate]
        have h1 := saidIn_len (X := R) HOs.out i j
        have h2 := cntE_len ((O.getD j []).take k) i
        have h3 := HOs.out j
        rw [List.length_take] at h2
        omega
      have HOu : Hid _ := ou
      obtain ⟨row, hrow⟩ : ∃ row, O[j] = row := ⟨_, rfl⟩
      rw [hrow] at HOu HOj HT HPt HLe
      obtain ⟨p, c, rfl⟩ : ∃ p c, u0 = .slice p row.length c := by
        rcases HOu.out.2 with ⟨e1, e2⟩ | ⟨g, cap, cur, e1, _⟩
        · exact ⟨none, 0, by rw [e2]; exact e1⟩
        · exact ⟨_, _, e1⟩
      have HPc : Hid (0 < row.length → ∃ g, p = some ⟨g, 0, none⟩ ∧ g < w.heap.size ∧ ∀ k (hk : k < row.length), w.cell? ⟨g, k * 2, none⟩ = some (.int .i64 row[k].t) ∧ w.cell? ⟨g, k * 2 + 1, none⟩ = some (.int .i64 row[k].w)) := fun h0 => by
        obtain ⟨u', hu', cu', fu', ou'⟩ := HM.out.at_ hjO
        rw [hu] at hu'
        cases hu'
        rw [hrow] at ou'
        obtain ⟨g, cap, e1, e2⟩ := arc_at ou' h0
        cases e1
        exact ⟨g, rfl, (HM.out.lt ⟨j, _, hu, rfl⟩).2, e2⟩
      obtain ⟨L, hL⟩ : ∃ L, row.length = L := ⟨_, rfl⟩
      have HRL : Hid (row.length = L) := hL
      rw [hL] at HLe cu
      clear hM2 ou hrow hu hL HOu fu
      have hL48 := HLe.out
      go_wp2
      go_loopw [8, 25] (fun _ i wy => ∃ k : Nat, k ≤ L ∧ i = .int .i64 k ∧ Hid (∃ vs, Mat wy 2 36 1 encI1 (m + 1) m vs (tellRow (R.getD j 0) (saidL O R n j) (row.take k))) ∧ Hid (Below w.heap.size w wy) ∧ Hid (m + 1 ≤ wy.heap.size)) (fun _ i _ => L - (intOf i).toNat)
      case atStart => exact ⟨0, Nat.zero_le _, rfl, HI.out, HB.out, HZ.out⟩
      case round =>
        clear cu
        obtain ⟨k, hk, rfl, HI1, HB1, HZ1⟩ := hrel
        by_cases hlk : k < L
        · obtain ⟨g, rfl, hg, hc⟩ := HPc.out (by rw [HRL.out]; omega)
          have hkr : k < row.length := by rw [HRL.out]; exact hlk
          obtain ⟨c0, c1⟩ := hc k hkr
          have d0 := (HB1.out.cell (lt_cell c0)).trans c0
          have d1 := (HB1.out.cell (lt_cell c1)).trans c1
          obtain ⟨ht0, ht1⟩ := HOj.out _ (List.getElem_mem hkr)
          have HS : Hid (tellRow (R.getD j 0) (saidL O R n j) (row.take (k + 1)) = tellOne (tellRow (R.getD j 0) (saidL O R n j) (row.take k)) row[k].t.toNat (R.getD j 0)) := by
            show _ = _
            rw [List.take_add_one, List.getElem?_eq_getElem hkr]
            exact tellRow_snoc _ _ _ _
          obtain ⟨t, ht⟩ : ∃ t : Nat, row[k].t = (t : Int) := ⟨row[k].t.toNat, by omega⟩
          rw [ht] at d0 ht1 HS
          rw [Int.toNat_natCast] at HS
          have htn : t < n := by omega
          generalize row[k].w = yw at d1
          have HFew : Hid _ := HPt.out t htn k
          have hXl : (tellRow (R.getD j 0) (saidL O R n j) (row.take k)).length = n := by rw [tellRow_len, saidL_len]
          generalize tellRow (R.getD j 0) (saidL O R n j) (row.take k) = X at HI1 HS HFew hXl
          have HXl : Hid (X.length = n) := hXl
          obtain ⟨gr, rfl, _, hrc⟩ := HAt.out (by rw [HRn.out]; omega)
          have hjR : j < R.length := by rw [HRn.out]; exact hlt
          have y0 := (hrc j hjR).1
          rw [get_d hjR] at y0
          have y1 := (HB1.out.cell (lt_cell y0)).trans y0
          generalize hyy : R.getD j 0 = y at y1 HS
          have HYy : Hid (R.getD j 0 = y) := hyy
          clear hyy
          clear c0 c1 hc y0 hXl
          go_upto_region 8 with (fail)
          generalize hW3 : World.alloc wr _ = W3
          have b3 : Below wr.heap.size wr W3 := by rw [← hW3]; exact one_new _ _
          have q0 : W3.cell? ⟨wr.heap.size, 0, none⟩ = some (.int .i64 (t : Int)) := by rw [← hW3]; exact (box2 (heap_alloc_new _ _)).1
          have HI3 : Hid (∃ vs, Mat W3 2 36 1 encI1 (m + 1) m vs X) := by obtain ⟨vs, h⟩ := HI1.out; exact ⟨vs, h.new b3⟩
          have HB3 : Hid (Below w.heap.size w W3) := HB1.out.trans (b3.mono HB1.out.size)
          have HZ3 : Hid (m + 1 ≤ W3.heap.size) := Nat.le_trans HZ1.out b3.size
          have y3 := (b3.cell (p := ⟨gr, j, none⟩) (lt_cell y1)).trans y1
          have HQn : Hid (wr.heap.size < W3.heap.size) := by rw [← hW3, World.size_alloc]; exact Nat.lt_succ_self _
          obtain ⟨vs, hM3⟩ := HI3.out
          have HNr : Hid (¬ rowsB vs wr.heap.size) := fun h => by
            obtain ⟨vs', hM1⟩ := HI1.out
            have h2 := (hM1.new b3).blk
            rw [hM3.blk] at h2
            injection h2 with h2
            injection h2 with h2 _ _
            have h3 : vs = vs' := by simpa using h2
            subst h3
            have := (hM1.lt h).2
            omega
          obtain ⟨qb, hqb⟩ : ∃ qb, wr.heap.size = qb := ⟨_, rfl⟩
          have hmq : ¬ qb = m := by have := HZ1.out; omega
          have HGr : Hid (gr < w.heap.size) := by
            obtain ⟨_, _, h1⟩ := HV.out.2 |> fun h => (by
              rcases h with ⟨h, _⟩ | ⟨g', cap, cur, e1, e2, e3, _⟩
              · cases h
              · cases e1
                exact ⟨0, 0, (Array.getElem?_eq_some_iff.1 e3).1⟩ : ∃ (_ _ : Nat), gr < w.heap.size)
            exact h1
          rw [hqb] at q0 HNr HQn ⊢
          have htX : t < X.length := by rw [HXl.out]; exact htn
          obtain ⟨u, hu, cu, fu, ou⟩ := hM3.at_ htX
          have HOu : Hid (W3.ownsRow (m + 1) 2 1 u (X.getD t []).length ((X.getD t []).flatMap encI1)) := by rw [getD_of htX]; exact ou
          have HM3 : Hid _ := hM3
          have HU : Hid _ := hu
          have HMl : Hid (m < w.heap.size + 1) := by have := HMm.out; show _ < _; omega
          clear hW3 b3 d0 d1 y1 hqb htX hM3 hu ou
          have hS : (fun w' : World => w'.cell? ⟨qb, 0, none⟩ = some (.int .i64 (t : Int)) ∧ w'.cell? ⟨m, t, none⟩ = some (u) ∧ w'.cell? ⟨gr, j, none⟩ = some (.int .i64 y)) W3.drew := ⟨q0, cu, y3⟩
          clear fu
          refine wp_calm ?_
          refine wp_region_L [15] (fun w' : World => w'.cell? ⟨qb, 0, none⟩ = some (.int .i64 (t : Int)) ∧ w'.cell? ⟨m, t, none⟩ = some (u) ∧ w'.cell? ⟨gr, j, none⟩ = some (.int .i64 y)) (by kernel_rfl) ?_
          refine wpAnyL_take (i := 0) 29 (v := .slice (some ⟨m, 0, none⟩) n n) rfl rfl (by kernel_rfl) (by kernel_rfl) (by kernel_rfl) (by kernel_rfl) (by kernel_rfl) (by kernel_rfl) (fun _ _ _ h => h) hS (by rfl) (by intro w' hSw; obtain ⟨y0, y1, y2⟩ := hSw; go_simp <;> with_reducible rfl) ?_
          simp only [Act.put, List.setIfInBounds_toArray, List.set_cons_zero, List.set_cons_succ]
          refine wpAnyL_take (i := 1) 30 (v := .pointer (some ⟨qb, 0, none⟩)) rfl rfl (by kernel_rfl) (by kernel_rfl) (by kernel_rfl) (by kernel_rfl) (by kernel_rfl) (by kernel_rfl) (fun _ _ _ h => h) hS (by rfl) (by intro w' hSw; obtain ⟨y0, y1, y2⟩ := hSw; go_simp <;> with_reducible rfl) ?_
          simp only [Act.put, List.setIfInBounds_toArray, List.set_cons_zero, List.set_cons_succ]
          refine wpAnyL_take (i := 2) 31 (v := .int .i64 (t : Int)) rfl rfl (by kernel_rfl) (by kernel_rfl) (by kernel_rfl) (by kernel_rfl) (by kernel_rfl) (by kernel_rfl) (fun _ _ _ h => h) hS (by rfl) (by intro w' hSw; obtain ⟨y0, y1, y2⟩ := hSw; go_simp <;> with_reducible rfl) ?_
          simp only [Act.put, List.setIfInBounds_toArray, List.set_cons_zero, List.set_cons_succ]
          refine wpAnyL_take (i := 3) 32 (v := .slice (some ⟨m, 0, none⟩) n n) rfl rfl (by kernel_rfl) (by kernel_rfl) (by kernel_rfl) (by kernel_rfl) (by kernel_rfl) (by kernel_rfl) (fun _ _ _ h => h) hS (by rfl) (by intro w' hSw; obtain ⟨y0, y1, y2⟩ := hSw; go_simp <;> with_reducible rfl) ?_
          simp only [Act.put, List.setIfInBounds_toArray, List.set_cons_zero, List.set_cons_succ]
          refine wpAnyL_take (i := 4) 33 (v := .pointer (some ⟨qb, 0, none⟩)) rfl rfl (by kernel_rfl) (by kernel_rfl) (by kernel_rfl) (by kernel_rfl) (by kernel_rfl) (by kernel_rfl) (fun _ _ _ h => h) hS (by rfl) (by intro w' hSw; obtain ⟨y0, y1, y2⟩ := hSw; go_simp <;> with_reducible rfl) ?_
          simp only [Act.put, List.setIfInBounds_toArray, List.set_cons_zero, List.set_cons_succ]
          refine wpAnyL_take (i := 5) 34 (v := .int .i64 (t : Int)) rfl rfl (by kernel_rfl) (by kernel_rfl) (by kernel_rfl) (by kernel_rfl) (by kernel_rfl) (by kernel_rfl) (fun _ _ _ h => h) hS (by rfl) (by intro w' hSw; obtain ⟨y0, y1, y2⟩ := hSw; go_simp <;> with_reducible rfl) ?_
          simp only [Act.put, List.setIfInBounds_toArray, List.set_cons_zero, List.set_cons_succ]
          refine wpAnyL_take (i := 6) 35 (v := .pointer (some ⟨m, t, none⟩)) rfl rfl (by kernel_rfl) (by kernel_rfl) (by kernel_rfl) (by kernel_rfl) (by kernel_rfl) (by kernel_rfl) (fun _ _ _ h => h) hS (by rfl) (by intro w' hSw; obtain ⟨y0, y1, y2⟩ := hSw; go_simp <;> with_reducible rfl) ?_
          simp only [Act.put, List.setIfInBounds_toArray, List.set_cons_zero, List.set_cons_succ]
          refine wpAnyL_take (i := 7) 36 (v := u) rfl rfl (by kernel_rfl) (by kernel_rfl) (by kernel_rfl) (by kernel_rfl) (by kernel_rfl) (by kernel_rfl) (fun _ _ _ h => h) hS (by rfl) (by intro w' hSw; obtain ⟨y0, y1, y2⟩ := hSw; go_simp <;> with_reducible rfl) ?_
          simp only [Act.put, List.setIfInBounds_toArray, List.set_cons_zero, List.set_cons_succ]
          refine wpAnyL_take (i := 8) 37 (v := .slice (some ⟨gr, 0, none⟩) n rc) rfl rfl (by kernel_rfl) (by kernel_rfl) (by kernel_rfl) (by kernel_rfl) (by kernel_rfl) (by kernel_rfl) (fun _ _ _ h => h) hS (by rfl) (by intro w' hSw; obtain ⟨y0, y1, y2⟩ := hSw; go_simp <;> with_reducible rfl) ?_
          simp only [Act.put, List.setIfInBounds_toArray, List.set_cons_zero, List.set_cons_succ]
          refine wpAnyL_take (i := 9) 38 (v := .int .i64 (j : Int)) rfl rfl (by kernel_rfl) (by kernel_rfl) (by kernel_rfl) (by kernel_rfl) (by kernel_rfl) (by kernel_rfl) (fun _ _ _ h => h) hS (by rfl) (by intro w' hSw; obtain ⟨y0, y1, y2⟩ := hSw; go_simp <;> with_reducible rfl) ?_
          simp only [Act.put, List.setIfInBounds_toArray, List.set_cons_zero, List.set_cons_succ]
          refine wpAnyL_take (i := 10) 39 (v := .pointer (some ⟨gr, j, none⟩)) rfl rfl (by kernel_rfl) (by kernel_rfl) (by kernel_rfl) (by kernel_rfl) (by kernel_rfl) (by kernel_rfl) (fun _ _ _ h => h) hS (by rfl) (by intro w' hSw; obtain ⟨y0, y1, y2⟩ := hSw; go_simp <;> with_reducible rfl) ?_
          simp only [Act.put, List.setIfInBounds_toArray, List.set_cons_zero, List.set_cons_succ]
          refine wpAnyL_take (i := 11) 40 (v := .int .i64 y) rfl rfl (by kernel_rfl) (by kernel_rfl) (by kernel_rfl) (by kernel_rfl) (by kernel_rfl) (by kernel_rfl) (fun _ _ _ h => h) hS (by rfl) (by intro w' hSw; obtain ⟨y0, y1, y2⟩ := hSw; go_simp <;> with_reducible rfl) ?_
          simp only [Act.put, List.setIfInBounds_toArray, List.set_cons_zero, List.set_cons_succ]
          refine wpAnyL_one (i := 12) (by kernel_rfl) rfl (fun Ka hKa => ?_)
          go_simp
          have bel0 : Below W3.heap.size W3 (W3.drew.alloc (.cells #[.int .i64 y] 2)) := ((Below.refl _ W3).drew).alloc (Nat.le_refl _) _
          have hS1 : (fun w' : World => w'.cell? ⟨qb, 0, none⟩ = some (.int .i64 (t : Int)) ∧ w'.cell? ⟨m, t, none⟩ = some (u) ∧ w'.cell? ⟨gr, j, none⟩ = some (.int .i64 y)) (W3.drew.alloc (.cells #[.int .i64 y] 2)) := ⟨(bel0.cell (lt_cell q0)).trans q0, (bel0.cell (lt_cell cu)).trans cu, (bel0.cell (lt_cell y3)).trans y3⟩
          refine hKa.out _ _ (fun _ => hS1) ?_
          clear hKa Ka
          try simp only [Act.put, List.setIfInBounds_toArray, List.set_cons_zero, List.set_cons_succ]
          refine wpAnyL_one (i := 13) (by kernel_rfl) rfl (fun Kb hKb => ?_)
          refine step_append_own rfl (.tmp 36) (.tmp 41) 36 rfl (m + 1) 2 ii (.int .i64 0) 1 8 Try.underlying36 hii hy0 hy1 hy2 rfl (by decide) u _ _ (by simp [Act.eval]) (so_new HOu.out bel0) ⟨W3.heap.size, 0, none⟩ 1 1 [.int .i64 y] (by simp [Act.eval]) rfl (w_one (heap_alloc_new W3.drew (.cells #[.int .i64 y] 2))) (by intro u hu; simp at hu; subst hu; rfl) (by have := HFew.out; unfold maxLen; omega) (by have := HFew.out; omega) (Nat.le_trans HZ3.out bel0.size) ?_
          intro v1 w1 own1 gr1 at1
          obtain ⟨p1, k1, e1, rfl⟩ := own_any own1
          have f1 : Fr (W3.drew.alloc (.cells #[.int .i64 y] 2)) w1 (fun k => u.ownBlock = some k) := Fr.grown gr1 (fun k hk => hk)
          have fu1 : Fr W3 w1 (fun k => u.ownBlock = some k) := ((Fr.ofBelow bel0 (fun _ => False)).mono (fun _ _ h => h.elim)).trans f1 (fun _ _ h => h)
          have hub : ∀ k, u.ownBlock = some k → m + 1 ≤ k := fun k hk => (HM3.out.lt ⟨_, u, HU.out, hk⟩).1
          have hat1 : ∀ k, (Value.slice p1 k1 e1).ownBlock = some k → u.ownBlock = some k ∨ W3.heap.size ≤ k := fun k hk => by
            rcases at1 with e | e
            · exact .inl (e ▸ hk)
            · rw [e] at hk; exact .inr (by simp at hk; omega)
          have hn1 : ¬ u.ownBlock = some qb := fun e => HNr.out ⟨_, u, HU.out, e⟩
          have hn2 : ¬ u.ownBlock = some m := fun e => by have := hub _ e; omega
          have hn3 : ¬ u.ownBlock = some gr := fun e => by have := hub _ e; have := HGr.out; have := HMm.out; omega
          have y4 := fr_cell f1 hn1 hS1.1
          have y5 := fr_cell f1 hn2 hS1.2.1
          have y6 := fr_cell f1 hn3 hS1.2.2
          have y7 : w1.frozen? ⟨m, t, none⟩ = false := by
            have := (fu1.block m (lt_cell cu) hn2).trans HM3.out.blk
            simp [World.frozen?, this]
          have hS2 : (fun w' : World => w'.cell? ⟨qb, 0, none⟩ = some (.int .i64 (t : Int)) ∧ w'.cell? ⟨m, t, none⟩ = some (u) ∧ w'.cell? ⟨gr, j, none⟩ = some (.int .i64 y)) w1 := ⟨y4, y5, y6⟩
          refine hKb.out _ _ (fun _ => hS2) ?_
          clear hKb Kb
          try simp only [Act.put, List.setIfInBounds_toArray, List.set_cons_zero, List.set_cons_succ]
          refine wpAnyL_one (i := 14) (by kernel_rfl) rfl (fun Kc hKc => ?_)
          go_simp
          refine hKc.out _ _ (fun _ => hS2) ?_
          clear hKc Kc
          refine wpAnyL_one (i := 15) (by kernel_rfl) rfl (fun Kd hKd => ?_)
          go_simp
          refine hKd.out _ _ (fun h => absurd h (Bool.eq_false_iff.1 (by kernel_rfl))) ?_
          clear hKd Kd
          refine wpAnyL_done (by kernel_rfl) ?_ _
          have HM9 : Hid _ := HM3.out.put (M := X.getD t [] ++ [y]) HU.out fu1 (by rw [List.length_append, List.flatMap_append]; simpa [encI1] using own1) hat1
          have fs9 : Fr w1 (w1.setCell ⟨m, t, none⟩ (.slice p1 k1 e1)) (fun k => k = m) := Fr.setCell _ _ _ rfl
          generalize hG9 : World.setCell w1 _ _ = W9 at HM9 fs9 ⊢
          have f9 : Fr W3 W9 (fun k => u.ownBlock = some k ∨ k = m) := (fu1.mono (fun _ _ h => .inl h)).trans fs9 (fun _ _ h => .inr h)
          have HB9 : Hid (Below w.heap.size w W9) := HB3.out.trans (f9.below HB3.out.size (fun k hk => by
            rcases hk with e | e
            · have := hub _ e; have := HMm.out; omega
            · have := HMm.out; omega))
          have HZ9 : Hid (m + 1 ≤ W9.heap.size) := Nat.le_trans HZ3.out f9.size
          have HI9 : Hid (∃ vs, Mat W9 2 36 1 encI1 (m + 1) m vs (tellRow (R.getD j 0) (saidL O R n j) (row.take (k + 1)))) := by
            rw [HYy.out, HS.out]
            exact ⟨_, HM9.out⟩
          clear own1 gr1 at1 f1 fu1 hat1 hub hn1 hn2 hn3 y3 y4 y5 y6 y7 hS hS1 hS2 bel0 cu HOu HM3 HU fs9 f9 hG9 q0
          go_wp2
          go_roundw
          case rel => exact ⟨k + 1, by omega, by go_num, (by have h := HI9.out; rw [HYy.out] at h; exact h), HB9, HZ9⟩
          case measure => simp [intOf]; omega
        · obtain rfl : k = L := by omega
          have HI6 : Hid (∃ vs, Mat wr 2 36 1 encI1 (m + 1) m vs (saidL O R n (j + 1))) := by
            rw [← HT.out]
            have := HI1.out
            rw [List.take_of_length_le (by rw [HRL.out]; exact Nat.le_refl _)] at this
            exact this
          go_wp2
          go_roundw
          case rel => exact ⟨j + 1, by omega, by go_num, HI6, HB1, HZ1⟩
          case measure => simp [intOf]; omega
    · obtain rfl : j = n := by omega
      obtain ⟨vs, hMs⟩ := HI.out
      have HMs : Hid _ := hMs
      have hmk2 := HMk2.out
      have hmw := lt_of_block hMs.blk
      have HBa : Hid (Below w.heap.size w (wr.alloc (.cells (madeCells #[.int .i64 0] j) 2))) := HB.out.trans ((one_new wr _).mono HB.out.size)
      obtain ⟨q, hq⟩ : ∃ q, wr.heap.size = q := ⟨_, rfl⟩
      have HQ : Hid (wr.heap.size = q) := hq
      have HRo : Hid (∀ k, rowsB vs k → m + 1 ≤ k ∧ k < q) := fun k hk => by have := hMs.lt hk; omega
      have HW0 : Hid (w.heap.size ≤ q) := by have := HB.out.size; show _ ≤ _; omega
      have hmq : ¬ m = q := by omega
      clear HI hMs hq
      have hvj : RwI w 2 lo (.slice ao j rc) R := by
        have h := HV.out
        unfold RwI
        rw [HRn.out]
        exact h
      obtain ⟨w5, hI5, hF5, hcp⟩ := run_copyI (w := wr.alloc (.cells (madeCells #[.int .i64 0] j) 2)) (m := wr.heap.size) (n := j) (v := .slice ao j rc) (S := List.replicate j 0) (Y := R) (base := lo) (IB.made _ _) (by simp) (ri_new hvj HBa.out) HRn.out
      go_upto_region 13 with (fail)
      have HM5 : Hid (Mat w5 2 36 1 encI1 (m + 1) m vs (saidL O R j j)) := (HMs.out.new (one_new _ _)).kept hF5 (by have := HQ.out; omega) (fun k hk e => by have := HRo.out k hk; have := HQ.out; omega)
      have HB5 : Hid (Below w.heap.size w w5) := HBa.out.trans (hF5.below HBa.out.size (fun k hk => by have := HQ.out; have := HW0.out; omega))
      rw [HQ.out] at hI5
      rw [HQ.out]
      have HI5 : Hid (IB w5 q (midL (labT O j R) R 0)) := by rw [midL_zero]; exact hI5
      have HFl : Hid ((labT O j R).length = j) := labT_len _ _ _
      have HFa : Hid (∀ i, i < j → (labT O j R).getD i 0 = bestOf (saidIn O R j i) (R.getD i 0)) := fun i hi => labT_at hi
      have HSl : Hid (∀ i, i < j → (saidIn O R j i).length ≤ 600000) := fun i hi => by have := saidIn_len (X := R) HOs.out i j; omega
      generalize hFF : labT O j R = FF at HFl HFa HI5
      have HFF : Hid (labT O j R = FF) := hFF
      clear hFF
      clear hI5 hF5 hcp hmk2 hmw HBa hvj
      go_wp2
      go_loopw [10, 11, 54] (fun _ _ i wy => ∃ k : Nat, k ≤ j ∧ i = .int .i64 k ∧ Hid (IB wy q (midL FF R k)) ∧ Hid (Fr w5 wy (doneB vs q k))) (fun _ _ i _ => j - (intOf i).toNat)
      case atStart => exact ⟨0, Nat.zero_le _, rfl, HI5.out, Fr.refl _ _⟩
      case round =>
        obtain ⟨k, hk, rfl, HI1, HF1⟩ := hrel
        by_cases hlk : k < j
        · have hks : k < (saidL O R j j).length := by rw [saidL_len]; exact hlk
          obtain ⟨u, hu, cu, fu, ou⟩ := HM5.out.at_ hks
          have hSk : (saidL O R j j)[k] = saidIn O R j k := by rw [get_dd hks, saidL_at hlk]
          have hrw := rwI_of ou
          rw [hSk] at hrw
          have hnm : ¬ doneB vs q k m := by
            rintro (e | ⟨i, x, _, hx, hb⟩)
            · exact hmq e
            · have := (HRo.out m ⟨i, x, hx, hb⟩).1; omega
          have c1 := fr_cell HF1.out hnm cu
          have hnu : ∀ b, u.ownBlock = some b → ¬ doneB vs q k b := by
            rintro b hb (e | ⟨i, x, hi, hx, hb2⟩)
            · have := (HRo.out b ⟨k, u, hu, hb⟩).2; omega
            · exact HM5.out.dis i k x u b (by omega) hx hu hb2 hb
          have hr1 := ri_fr hrw HF1.out hnu
          obtain ⟨uo, uc, rfl⟩ := ri_shape hr1
          have hFk := HFa.out k hlk
          have hSlk := HSl.out k hlk
          generalize saidIn O R j k = S at hr1 hFk hSlk c1 hu hnu hrw
          clear ou fu hSk hrw cu hks
          have HFkk : Hid (FF.getD k 0 = bestOf S (R.getD k 0)) := hFk
          have HU : Hid (vs[k]? = some (.slice uo S.length uc)) := hu
          have HNu : Hid _ := hnu
          clear hFk hu hnu hnm
          by_cases h0 : 0 < S.length
          · have HR1 : Hid (RwI wr 2 (m + 1) (.slice uo S.length uc) S) := hr1
            clear hr1
            obtain ⟨ls, hls⟩ : ∃ ls, S.length = ls := ⟨_, rfl⟩
            have HLs : Hid (S.length = ls) := hls
            rw [hls] at c1 HU HNu HR1 h0 hSlk
            have HCm : Hid (Calls Try.prog 30 #[.slice uo ls uc] wr fun r w' => (∃ b, r = .returned (.int .i64 b) ∧ b = FF.getD k 0) ∧ Fr wr w' (fun k => (Value.slice uo ls uc).ownBlock = some k)) := by
              refine (commonest_any HR1.out (by rw [HLs.out]; exact h0) (by rw [HLs.out]; omega)).mono ?_
              rintro r w' ⟨⟨b, rfl, hb⟩, hf⟩
              exact ⟨⟨b, rfl, by rw [HFkk.out]; exact best_is (by rw [HLs.out]; exact h0) hb⟩, hf⟩
            have hkl : k < (midL FF R k).length := by rw [midL_len HFl.out HRn.out k hk]; exact hlk
            have HSt : Hid ((midL FF R k).set k (FF.getD k 0) = midL FF R (k + 1)) := midL_set HFl.out HRn.out hlk
            have HQu : Hid (¬ (Value.slice uo ls uc).ownBlock = some q) := fun e => by have := (HRo.out q ⟨k, _, HU.out, e⟩).2; omega
            clear hls
            go_wp2_with (go_at_call 30; refine HCm.out.mono ?_; rintro r w6 ⟨⟨b, rfl, hb⟩, hf6⟩; have HI6 : Hid (IB w6 q (midL FF R k)) := IB.kept HI1.out hf6 HQu.out; have HF6 : Hid (Fr wr w6 (fun k => (Value.slice uo ls uc).ownBlock = some k)) := hf6; have HBb : Hid (b = FF.getD k 0) := hb; obtain ⟨z0, z1⟩ := IB.cell HI6.out hkl; clear hb hf6)
            generalize hW7 : World.setCell w6 _ _ = W7
            have HI7 : Hid (IB W7 q (midL FF R (k + 1))) := by
              rw [← HSt.out, ← hW7, ← HBb.out]
              exact IB.set HI6.out _ _
            have HF7 : Hid (Fr w5 W7 (doneB vs q (k + 1))) := by
              have f7 : Fr w6 W7 (fun k => k = q) := by rw [← hW7]; exact Fr.setCell _ _ _ rfl
              have f8 : Fr wr W7 (doneB vs q (k + 1)) := (HF6.out.mono (fun b _ hb => .inr ⟨k, _, by omega, HU.out, hb⟩)).trans f7 (fun b _ hb => .inl hb)
              refine (HF1.out.mono ?_).trans f8 (fun _ _ h => h)
              rintro b _ (e | ⟨i, x, hi, hx, hb⟩)
              · exact .inl e
              · exact .inr ⟨i, x, by omega, hx, hb⟩
            clear hW7 z0 z1
            go_wp2
            go_roundw
            case rel => exact ⟨k + 1, by omega, by go_num, HI7, HF7⟩
            case measure => simp [intOf]; omega
          · have hS0 : S = [] := List.eq_nil_of_length_eq_zero (by omega)
            have HI7 : Hid (IB wr q (midL FF R (k + 1))) := by
              rw [← midL_same HFl.out HRn.out hlk (by rw [HFkk.out, hS0]; rfl)]
              exact HI1.out
            have HF7 : Hid (Fr w5 wr (doneB vs q (k + 1))) := by
              refine HF1.out.mono ?_
              rintro b _ (e | ⟨i, x, hi, hx, hb⟩)
              · exact .inl e
              · exact .inr ⟨i, x, by omega, hx, hb⟩
            have hl0 : S.length = 0 := by omega
            rw [hl0] at c1
            clear hr1 hS0 h0 hl0 hSlk
            go_wp2
            go_roundw
            case rel => exact ⟨k + 1, by omega, by go_num, HI7, HF7⟩
            case measure => simp [intOf]; omega
        · obtain rfl : k = j := by omega
          have HI6 : Hid (IB wr q FF) := by
            have := HI1.out
            rw [midL_end HFl.out HRn.out] at this
            exact this
          go_wp2
          go_ret
          refine ⟨_, rfl, (by rw [HFF.out]; exact ri_of_ib HI6.out HFl.out HW0.out (by omega)), HB5.out.trans (HF1.out.below HB5.out.size ?_)⟩
          rintro b (e | ⟨i, x, hi, hx, hb⟩)
          · have := HW0.out; omega
          · have := (HRo.out b ⟨i, x, hx, hb⟩).1; have := HMm.out; omega
end Go.Proofs.Ytfidojdolbmjdaa
