import Derived.Test.YtfidojdolbmjdaaSpBhM
import Derived.Test.YtfidojdolbmjdaaSpDegM
/- spec.Ranks' turn: what comes of ranks by one turn. -/
namespace Go.Proofs.Ytfidojdolbmjdaa
open Go.RowKit Go.Shelf
attribute [local go_sem] Oper.semAt_some
theorem get_d {L : List Int} {j : Nat} (h : j < L.length) : L[j] = L.getD j 0 := by simp [List.getD, h]
theorem get_dd {α : Type} {L : List (List α)} {j : Nat} (h : j < L.length) : L[j] = L.getD j [] := by simp [List.getD, h]
/-- The first k as they shall be, the others as they were. -/
def midL (Fa R : List Int) (k : Nat) : List Int := Fa.take k ++ R.drop k
theorem midL_len {Fa R : List Int} {n : Nat} (hF : Fa.length = n) (hR : R.length = n) (k : Nat) (hk : k ≤ n) : (midL Fa R k).length = n := by simp [midL]; omega
theorem midL_at {Fa R : List Int} {n k : Nat} (hF : Fa.length = n) (hR : R.length = n) (hk : k < n) : (midL Fa R k).getD k 0 = R.getD k 0 := by
  unfold midL
  have : (Fa.take k).length = k := by simp; omega
  simp only [List.getD]
  rw [List.getElem?_append_right (by omega), this, Nat.sub_self, List.getElem?_drop]
  rfl
theorem midL_set {Fa R : List Int} {n k : Nat} (hF : Fa.length = n) (hR : R.length = n) (hk : k < n) : (midL Fa R k).set k (Fa.getD k 0) = midL Fa R (k + 1) := by
  have hl : (Fa.take k).length = k := by simp; omega
  have hd : Fa.getD k 0 = Fa[k]'(by omega) := by simp [List.getD, show k < Fa.length by omega]
  unfold midL
  rw [hd, List.set_append_right _ _ (by omega), hl, Nat.sub_self, List.drop_eq_getElem_cons (show k < R.length by omega), List.set_cons_zero, List.take_add_one, List.getElem?_eq_getElem (show k < Fa.length by omega)]
  simp only [Option.toList_some, List.append_assoc, List.cons_append, List.nil_append]
theorem midL_zero (Fa R : List Int) : midL Fa R 0 = R := by simp [midL]
theorem midL_end {Fa R : List Int} {n : Nat} (hF : Fa.length = n) (hR : R.length = n) : midL Fa R n = Fa := by simp [midL, ← hF, hR]
set_option maxRecDepth 100000 in
set_option maxHeartbeats 8000000 in
theorem ranks1_any {w : World} {wb ob g1 B n lo : Nat} {O : List (List Ed)} {R : List Int} {v : Value} {vs : List Value} (hc1 : w.cell? ⟨wb, 1, none⟩ = some (.slice (some ⟨g1, 0, none⟩) n n)) {ox : Int} (hco : w.cell? ⟨ob, 0, none⟩ = some (.int .i64 ox)) (hox : 0 < n → ox = 150000 / (n : Int)) (hM : Mat w 75 73 2 encA2 B g1 vs O) (hv : RwI w 2 lo v R) (hR : RkOk n R) (hOn : O.length = n) (hOl : ∀ k, ∀ e ∈ O.getD k [], 0 ≤ e.t ∧ e.t < n) (hOs : ∀ k, (O.getD k []).length ≤ 2048) (hn256 : n ≤ 256) :
    Calls Try.prog 28 #[v, .pointer (some ⟨wb, 0, none⟩), .pointer (some ⟨ob, 0, none⟩)] w fun r w' => ∃ u, r = .returned u ∧ RwI w' 2 w.heap.size u (rankT O n R) ∧ Below w.heap.size w w' := by
  obtain ⟨i0, hi, hz0, hz1, hz2⟩ := info_parts infoSI
  have hmk : ∀ W : World, (Instr.makeSlice 36 (.int .i64 (n : Int)) (.int .i64 (n : Int))).run Try.prog W = .ok (.slice (some ⟨W.heap.size, 0, none⟩) n n) (W.alloc (.cells (madeCells #[.int .i64 0] n) 2)) := fun W => by
    have := run_make (P := Try.prog) W 36 2 i0 (.int .i64 0) Try.underlying36 hi hz0 .i64 .i64 n n (by omega) (by omega) (by rw [hz2]; omega) (by omega)
    simpa [hz1, Value.cells] using this
  obtain ⟨hRn, hR0, hRs⟩ := hR
  have hO2 : ∀ k, ∀ e ∈ O.getD k [], e.t.toNat < n := fun k e he => by have := hOl k e he; omega
  have HO2 : Hid _ := hO2
  have HR0 : Hid (∀ k, 0 ≤ R.getD k 0) := hR0
  have HRs : Hid (sumI n (fun k => R.getD k 0) ≤ 1000000) := hRs
  have HOl : Hid _ := hOl
  have HOs : Hid _ := hOs
  have HM : Hid _ := hM
  have HRn : Hid (R.length = n) := hRn
  have HOn : Hid (O.length = n) := hOn
  obtain ⟨ao, rc, rfl⟩ := ri_shape hv
  obtain ⟨_, hat⟩ := ri_at hv
  rw [hRn]
  have HAt : Hid _ := hat
  have HCo : Hid (w.cell? ⟨ob, 0, none⟩ = some (.int .i64 ox)) := hco
  have HOx : Hid (0 < n → ox = 150000 / (n : Int)) := hox
  clear hox
  have hg1 := lt_of_block hM.blk
  clear hM hv hR0 hRs hOn hOl hOs hO2 hat hRn hco
  go_enter Try.func28, Try.ntmps28
  go_upto_region 2 with (fail)
  obtain ⟨m, hm⟩ : ∃ m, w.heap.size = m := ⟨_, rfl⟩
  generalize hW2 : World.alloc w _ = W2
  have HI0 : Hid (IB W2 m (givL O R n 0)) := by
    rw [givL_zero, ← hW2, ← hm]
    exact IB.made _ _
  have HF0 : Hid (Fr w W2 (fun k => k = m)) := by rw [← hW2]; exact Fr.alloc _ _ _
  have d1 : W2.cell? ⟨wb, 1, none⟩ = some (.slice (some ⟨g1, 0, none⟩) n n) := by rw [← hW2]; exact (one_new w _).cell (lt_cell hc1) |>.trans hc1
  rw [hm]
  clear hW2 hmk hc1
  go_wp2
  go_loopw [6, 7, 9, 18] (fun _ _ _ i wr => ∃ j : Nat, j ≤ n ∧ i = .int .i64 j ∧ Hid (IB wr m (givL O R n j)) ∧ Hid (Fr w wr (fun k => k = m))) (fun _ _ _ i _ => n - (intOf i).toNat)
  case atStart => exact ⟨0, Nat.zero_le _, rfl, HI0.out, HF0.out⟩
  case round =>
    clear d1
    obtain ⟨j, hj, rfl, HI, HF⟩ := hrel
    by_cases hlt : j < n
    · have hjO : j < O.length := by rw [HOn.out]; exact hlt
      have hM2 := HM.out.kept HF.out (by omega) (fun k hk e => by have := (HM.out.lt hk).2; omega)
      obtain ⟨u, hu, cu, fu, ou⟩ := hM2.at_ hjO
      have HOj : Hid (∀ e ∈ O[j], 0 ≤ e.t ∧ e.t < n) := by rw [get_dd hjO]; exact HOl.out j
      have HLe : Hid (O[j].length ≤ 2048) := by rw [get_dd hjO]; exact HOs.out j
      have HT : Hid (rowAdd (share O R j) (givL O R n j) O[j] = givL O R n (j + 1)) := by rw [get_dd hjO]; exact givL_succ R (HO2.out j)
      have HPt : Hid (∀ i, i < n → ∀ k, 0 ≤ (rowAdd (share O R j) (givL O R n j) (O[j].take k)).getD i 0 ∧ (rowAdd (share O R j) (givL O R n j) (O[j].take k)).getD i 0 ≤ 1000000) := by
        rw [get_dd hjO]
        exact fun i hi k => part_le HR0.out HO2.out HRs.out hlt hi k
      have HSh : Hid (share O R j = R.getD j 0 / ((O[j].length : Nat) : Int)) := by rw [get_dd hjO]; rfl
      have HSl : Hid (0 ≤ share O R j ∧ share O R j ≤ 1000000) := ⟨share_nn HR0.out j, share_le HR0.out HRs.out hlt⟩
      have HRj : Hid (0 ≤ R.getD j 0 ∧ R.getD j 0 ≤ 1000000) := ⟨HR0.out j, Int.le_trans (sumI_one_le (f := fun k => R.getD k 0) (fun i _ => HR0.out i) hlt) HRs.out⟩
      have HOu : Hid _ := ou
      obtain ⟨row, hrow⟩ : ∃ row, O[j] = row := ⟨_, rfl⟩
      rw [hrow] at HOu HOj HT HPt HSh HLe
      obtain ⟨p, c, rfl⟩ : ∃ p c, u = .slice p row.length c := by
        rcases HOu.out.2 with ⟨e1, e2⟩ | ⟨g, cap, cur, e1, _⟩
        · exact ⟨none, 0, by rw [e2]; exact e1⟩
        · exact ⟨_, _, e1⟩
      have HPc : Hid (0 < row.length → ∃ g, p = some ⟨g, 0, none⟩ ∧ g < w.heap.size ∧ ∀ k (hk : k < row.length), w.cell? ⟨g, k * 2, none⟩ = some (.int .i64 row[k].t) ∧ w.cell? ⟨g, k * 2 + 1, none⟩ = some (.int .i64 row[k].w)) := fun h0 => by
        obtain ⟨u', hu', cu', fu', ou'⟩ := HM.out.at_ hjO
        rw [hu] at hu'
        cases hu'
        rw [hrow] at ou'
        obtain ⟨g, cap, e1, e2⟩ := arc_at ou' h0
        cases e1
        exact ⟨g, rfl, (HM.out.lt ⟨j, _, hu, rfl⟩).2, e2⟩
      obtain ⟨L, hL⟩ : ∃ L, row.length = L := ⟨_, rfl⟩
      have HRL : Hid (row.length = L) := hL
      rw [hL] at HSh HLe cu
      clear hM2 ou hrow hu hL HOu fu
      have hL48 := HLe.out
      go_wp2
      go_loopw [9, 25] (fun _ i wy => ∃ k : Nat, k ≤ L ∧ i = .int .i64 k ∧ Hid (IB wy m (rowAdd (share O R j) (givL O R n j) (row.take k))) ∧ Hid (Fr w wy (fun q => q = m))) (fun _ i _ => L - (intOf i).toNat)
      case atStart => exact ⟨0, Nat.zero_le _, rfl, HI.out, HF.out⟩
      case round =>
        clear cu
        obtain ⟨k, hk, rfl, HI1, HF1⟩ := hrel
        by_cases hlk : k < L
        · obtain ⟨g, rfl, hg, hc⟩ := HPc.out (by rw [HRL.out]; omega)
          have hkr : k < row.length := by rw [HRL.out]; exact hlk
          obtain ⟨c0, c1⟩ := hc k hkr
          have d0 := fr_cell HF1.out (by show ¬ _ = _; omega) c0
          have d1 := fr_cell HF1.out (by show ¬ _ = _; omega) c1
          obtain ⟨ht0, ht1⟩ := HOj.out _ (List.getElem_mem hkr)
          have HS : Hid (rowAdd (share O R j) (givL O R n j) (row.take (k + 1)) = addTo (rowAdd (share O R j) (givL O R n j) (row.take k)) row[k].t.toNat (share O R j)) := by
            show _ = _
            rw [List.take_add_one, List.getElem?_eq_getElem hkr]
            exact rowAdd_snoc _ _ _ _
          obtain ⟨t, ht⟩ : ∃ t : Nat, row[k].t = (t : Int) := ⟨row[k].t.toNat, by omega⟩
          rw [ht] at d0 ht1 HS
          rw [Int.toNat_natCast] at HS
          have htn : t < n := by omega
          generalize row[k].w = yw at d1
          obtain ⟨hz0, hz1⟩ := HPt.out t htn k
          generalize hqs : rowAdd (share O R j) (givL O R n j) (row.take k) = X at HI1 HS hz0 hz1
          have hXl : X.length = n := by rw [← hqs, rowAdd_len, givL_len]
          have HXl : Hid (X.length = n) := hXl
          obtain ⟨gr, rfl, _, hrc⟩ := HAt.out (by rw [HRn.out]; omega)
          have hjR : j < R.length := by rw [HRn.out]; exact hlt
          have y0 := (hrc j hjR).1
          rw [get_d hjR] at y0
          have hgrw := lt_cell y0
          have y1 := fr_cell HF1.out (by show ¬ _ = _; have h9 : gr < w.heap.size := hgrw; omega) y0
          obtain ⟨hy0, hy1⟩ := HRj.out
          obtain ⟨hq0, hq1⟩ := HSl.out
          have hqe := HSh.out
          generalize R.getD j 0 = y at y1 hy0 hy1 hqe
          generalize hqq : share O R j = qq at HS hq0 hq1 hqe
          have e2 : y / (L : Int) = qq := hqe.symm
          have e1 : Int.tdiv y (L : Int) = qq := by rw [Int.tdiv_eq_ediv_of_nonneg hy0]; exact e2
          have e3 : IntKind.i64.wrap qq = qq := IntWalk.i64_in _ (by omega)
          have HE1 : Hid _ := e1
          have HE2 : Hid _ := e2
          have HQq : Hid _ := hqq
          clear c0 c1 hc y0 hqs hqe hqq e1 e2 e3
          have hmy : m < wr.heap.size := IB.lt HI1.out
          go_upto_region 8 with (fail)
          generalize hW3 : World.alloc wr _ = W3
          have b3 : Below wr.heap.size wr W3 := by rw [← hW3]; exact one_new _ _
          have q0 : W3.cell? ⟨wr.heap.size, 0, none⟩ = some (.int .i64 (t : Int)) := by rw [← hW3]; exact (box2 (heap_alloc_new _ _)).1
          have HI3 : Hid (IB W3 m X) := IB.new HI1.out b3
          have HF3 : Hid (Fr w W3 (fun q => q = m)) := HF1.out.trans (Fr.ofBelow b3 (fun q => q = m)) (fun _ _ h => h)
          have htX : t < X.length := by rw [HXl.out]; exact htn
          obtain ⟨x0, x1⟩ := IB.cell HI3.out htX
          rw [get_d htX] at x0
          have y3 := (b3.cell (p := ⟨gr, j, none⟩) (lt_cell y1)).trans y1
          obtain ⟨qb, hqb⟩ : ∃ qb, wr.heap.size = qb := ⟨_, rfl⟩
          rw [hqb] at q0 ⊢
          have HAd : Hid (addTo X t qq = X.set t (X.getD t 0 + qq)) := rfl
          generalize X.getD t 0 = z at x0 hz0 hz1 HAd
          clear hW3 b3 d0 d1 y1 hqb hXl htX
          obtain ⟨Wd, hWd⟩ : ∃ Wd, W3.drew = Wd := ⟨_, rfl⟩
          have hS : (fun w' : World => w'.cell? ⟨qb, 0, none⟩ = some (.int .i64 (t : Int)) ∧ w'.cell? ⟨m, t, none⟩ = some (.int .i64 z) ∧ w'.cell? ⟨gr, j, none⟩ = some (.int .i64 y)) Wd := by rw [← hWd]; exact ⟨q0, x0, y3⟩
          have xf : Wd.frozen? ⟨m, t, none⟩ = false := by rw [← hWd]; exact x1
          have HId : Hid (IB Wd m X) := by rw [← hWd]; exact HI3.out
          have HFd : Hid (Fr w Wd (fun q => q = m)) := by rw [← hWd]; exact HF3.out.trans (Fr.ofBelow ((Below.refl _ W3).drew) (fun q => q = m)) (fun _ _ h => h)
          have e1 := HE1.out
          have e2 := HE2.out
          have e3 : IntKind.i64.wrap qq = qq := IntWalk.i64_in _ (by omega)
          have e4 : IntKind.i64.wrap (z + qq) = z + qq := IntWalk.i64_in _ (by omega)
          have e5 : wrap64 (z + qq) = z + qq := by unfold wrap64; omega
          have e6 : ¬ (L : Int) = 0 := by omega
          have e7 : ¬ L = 0 := by omega
          clear q0 x0 x1 y3
          refine wp_calm ?_
          refine wp_region_L [14] (fun w' : World => w'.cell? ⟨qb, 0, none⟩ = some (.int .i64 (t : Int)) ∧ w'.cell? ⟨m, t, none⟩ = some (.int .i64 z) ∧ w'.cell? ⟨gr, j, none⟩ = some (.int .i64 y)) (by kernel_rfl) ?_
          rw [hWd]
          refine wpAnyL_take (i := 0) 29 (v := .slice (some ⟨m, 0, none⟩) n n) rfl rfl (by kernel_rfl) (by kernel_rfl) (by kernel_rfl) (by kernel_rfl) (by kernel_rfl) (by kernel_rfl) (fun _ _ _ h => h) hS (by rfl) (by intro w' hSw; obtain ⟨y0, y1, y2⟩ := hSw; go_simp <;> with_reducible rfl) ?_
          simp only [Act.put, List.setIfInBounds_toArray, List.set_cons_zero, List.set_cons_succ]
          refine wpAnyL_take (i := 1) 30 (v := .pointer (some ⟨qb, 0, none⟩)) rfl rfl (by kernel_rfl) (by kernel_rfl) (by kernel_rfl) (by kernel_rfl) (by kernel_rfl) (by kernel_rfl) (fun _ _ _ h => h) hS (by rfl) (by intro w' hSw; obtain ⟨y0, y1, y2⟩ := hSw; go_simp <;> with_reducible rfl) ?_
          simp only [Act.put, List.setIfInBounds_toArray, List.set_cons_zero, List.set_cons_succ]
          refine wpAnyL_take (i := 2) 31 (v := .int .i64 (t : Int)) rfl rfl (by kernel_rfl) (by kernel_rfl) (by kernel_rfl) (by kernel_rfl) (by kernel_rfl) (by kernel_rfl) (fun _ _ _ h => h) hS (by rfl) (by intro w' hSw; obtain ⟨y0, y1, y2⟩ := hSw; go_simp <;> with_reducible rfl) ?_
          simp only [Act.put, List.setIfInBounds_toArray, List.set_cons_zero, List.set_cons_succ]
          refine wpAnyL_take (i := 3) 32 (v := .pointer (some ⟨m, t, none⟩)) rfl rfl (by kernel_rfl) (by kernel_rfl) (by kernel_rfl) (by kernel_rfl) (by kernel_rfl) (by kernel_rfl) (fun _ _ _ h => h) hS (by rfl) (by intro w' hSw; obtain ⟨y0, y1, y2⟩ := hSw; go_simp <;> with_reducible rfl) ?_
          simp only [Act.put, List.setIfInBounds_toArray, List.set_cons_zero, List.set_cons_succ]
          refine wpAnyL_take (i := 4) 33 (v := .int .i64 z) rfl rfl (by kernel_rfl) (by kernel_rfl) (by kernel_rfl) (by kernel_rfl) (by kernel_rfl) (by kernel_rfl) (fun _ _ _ h => h) hS (by rfl) (by intro w' hSw; obtain ⟨y0, y1, y2⟩ := hSw; go_simp <;> with_reducible rfl) ?_
          simp only [Act.put, List.setIfInBounds_toArray, List.set_cons_zero, List.set_cons_succ]
          refine wpAnyL_take (i := 5) 34 (v := .slice (some ⟨gr, 0, none⟩) n rc) rfl rfl (by kernel_rfl) (by kernel_rfl) (by kernel_rfl) (by kernel_rfl) (by kernel_rfl) (by kernel_rfl) (fun _ _ _ h => h) hS (by rfl) (by intro w' hSw; obtain ⟨y0, y1, y2⟩ := hSw; go_simp <;> with_reducible rfl) ?_
          simp only [Act.put, List.setIfInBounds_toArray, List.set_cons_zero, List.set_cons_succ]
          refine wpAnyL_take (i := 6) 35 (v := .int .i64 (j : Int)) rfl rfl (by kernel_rfl) (by kernel_rfl) (by kernel_rfl) (by kernel_rfl) (by kernel_rfl) (by kernel_rfl) (fun _ _ _ h => h) hS (by rfl) (by intro w' hSw; obtain ⟨y0, y1, y2⟩ := hSw; go_simp <;> with_reducible rfl) ?_
          simp only [Act.put, List.setIfInBounds_toArray, List.set_cons_zero, List.set_cons_succ]
          refine wpAnyL_take (i := 7) 36 (v := .pointer (some ⟨gr, j, none⟩)) rfl rfl (by kernel_rfl) (by kernel_rfl) (by kernel_rfl) (by kernel_rfl) (by kernel_rfl) (by kernel_rfl) (fun _ _ _ h => h) hS (by rfl) (by intro w' hSw; obtain ⟨y0, y1, y2⟩ := hSw; go_simp <;> with_reducible rfl) ?_
          simp only [Act.put, List.setIfInBounds_toArray, List.set_cons_zero, List.set_cons_succ]
          refine wpAnyL_take (i := 8) 37 (v := .int .i64 y) rfl rfl (by kernel_rfl) (by kernel_rfl) (by kernel_rfl) (by kernel_rfl) (by kernel_rfl) (by kernel_rfl) (fun _ _ _ h => h) hS (by rfl) (by intro w' hSw; obtain ⟨y0, y1, y2⟩ := hSw; go_simp <;> with_reducible rfl) ?_
          simp only [Act.put, List.setIfInBounds_toArray, List.set_cons_zero, List.set_cons_succ]
          refine wpAnyL_take (i := 9) 38 (v := .slice (some ⟨g, 0, none⟩) L c) rfl rfl (by kernel_rfl) (by kernel_rfl) (by kernel_rfl) (by kernel_rfl) (by kernel_rfl) (by kernel_rfl) (fun _ _ _ h => h) hS (by rfl) (by intro w' hSw; obtain ⟨y0, y1, y2⟩ := hSw; go_simp <;> with_reducible rfl) ?_
          simp only [Act.put, List.setIfInBounds_toArray, List.set_cons_zero, List.set_cons_succ]
          refine wpAnyL_take (i := 10) 39 (v := .int .i64 (L : Int)) rfl rfl (by kernel_rfl) (by kernel_rfl) (by kernel_rfl) (by kernel_rfl) (by kernel_rfl) (by kernel_rfl) (fun _ _ _ h => h) hS (by rfl) (by intro w' hSw; obtain ⟨y0, y1, y2⟩ := hSw; go_simp <;> with_reducible rfl) ?_
          simp only [Act.put, List.setIfInBounds_toArray, List.set_cons_zero, List.set_cons_succ]
          refine wpAnyL_take (i := 11) 40 (v := .int .i64 qq) rfl rfl (by kernel_rfl) (by kernel_rfl) (by kernel_rfl) (by kernel_rfl) (by kernel_rfl) (by kernel_rfl) (fun _ _ _ h => h) hS (by rfl) (by intro w' hSw; obtain ⟨y0, y1, y2⟩ := hSw; go_simp <;> with_reducible rfl) ?_
          simp only [Act.put, List.setIfInBounds_toArray, List.set_cons_zero, List.set_cons_succ]
          refine wpAnyL_take (i := 12) 41 (v := .int .i64 (z + qq)) rfl rfl (by kernel_rfl) (by kernel_rfl) (by kernel_rfl) (by kernel_rfl) (by kernel_rfl) (by kernel_rfl) (fun _ _ _ h => h) hS (by rfl) (by intro w' hSw; obtain ⟨y0, y1, y2⟩ := hSw; go_simp <;> with_reducible rfl) ?_
          simp only [Act.put, List.setIfInBounds_toArray, List.set_cons_zero, List.set_cons_succ]
          refine wpAnyL_take (i := 13) 42 (v := .pointer (some ⟨m, t, none⟩)) rfl rfl (by kernel_rfl) (by kernel_rfl) (by kernel_rfl) (by kernel_rfl) (by kernel_rfl) (by kernel_rfl) (fun _ _ _ h => h) hS (by rfl) (by intro w' hSw; obtain ⟨y0, y1, y2⟩ := hSw; go_simp <;> with_reducible rfl) ?_
          simp only [Act.put, List.setIfInBounds_toArray, List.set_cons_zero, List.set_cons_succ]
          refine wpAnyL_one (i := 14) (by kernel_rfl) rfl (fun Ka hKa => ?_)
          obtain ⟨_, x0, _⟩ := hS
          go_simp
          refine hKa.out _ _ (fun h => absurd h (Bool.eq_false_iff.1 (by kernel_rfl))) ?_
          clear hKa Ka
          refine wpAnyL_done (by kernel_rfl) ?_ _
          generalize hW5 : World.setCell Wd _ _ = W5
          have HI5 : Hid (IB W5 m (rowAdd (share O R j) (givL O R n j) (row.take (k + 1)))) := by
            rw [HQq.out, HS.out, HAd.out, ← hW5]
            exact IB.set HId.out _ _
          have HF5 : Hid (Fr w W5 (fun q => q = m)) := by rw [← hW5]; exact HFd.out.trans (Fr.setCell (S := fun q => q = m) _ _ _ rfl) (fun _ _ h => h)
          clear e1 e2 e3 e4 e5 e6 e7 x0 xf hW5 hWd
          go_wp2
          go_roundw
          case rel => exact ⟨k + 1, by omega, by go_num, (by have h := HI5.out; rw [HQq.out] at h; exact h), HF5⟩
          case measure => simp [intOf]; omega
        · obtain rfl : k = L := by omega
          have HI6 : Hid (IB wr m (givL O R n (j + 1))) := by
            rw [← HT.out]
            have := HI1.out
            rw [List.take_of_length_le (by rw [HRL.out]; exact Nat.le_refl _)] at this
            exact this
          go_wp2
          go_roundw
          case rel => exact ⟨j + 1, by omega, by go_num, HI6, HF1⟩
          case measure => simp [intOf]; omega
    · obtain rfl : j = n := by omega
      have HFl : Hid ((rankT O j R).length = j) := rankT_len _ _ _
      have HGl : Hid ((givL O R j j).length = j) := givL_len _ _ _ _
      have HFa : Hid (∀ i, i < j → (rankT O j R).getD i 0 = 150000 / (j : Int) + (givL O R j j).getD i 0 * 85 / 100 ∧ 0 ≤ (givL O R j j).getD i 0 ∧ (givL O R j j).getD i 0 ≤ 1000000) := fun i hi => by
        rw [rankT_at hi, givL_at hi]
        exact ⟨rfl, rankIn_nn HR0.out i j, rankIn_le HR0.out HO2.out HRs.out (Nat.le_refl _) hi⟩
      have HI' : Hid (IB wr m (midL (rankT O j R) (givL O R j j) 0)) := by rw [midL_zero]; exact HI.out
      generalize hFF : rankT O j R = FF at HFl HFa HI'
      have HFF : Hid (rankT O j R = FF) := hFF
      clear hFF
      generalize givL O R j j = GG at HGl HFa HI'
      clear HI hj hlt
      have c3 := fr_cell HF.out (by show ¬ _ = _; have h9 : ob < w.heap.size := lt_cell HCo.out; omega) HCo.out
      go_wp2
      go_loopw [10, 11, 47] (fun _ _ i wy => ∃ k : Nat, k ≤ j ∧ i = .int .i64 k ∧ Hid (IB wy m (midL FF GG k)) ∧ Hid (Fr w wy (fun q => q = m))) (fun _ _ i _ => j - (intOf i).toNat)
      case atStart => exact ⟨0, Nat.zero_le _, rfl, HI'.out, HF.out⟩
      case round =>
        clear c3
        obtain ⟨k, hk, rfl, HI1, HF1⟩ := hrel
        by_cases hlk : k < j
        · have hkl : k < (midL FF GG k).length := by rw [midL_len HFl.out HGl.out k hk]; exact hlk
          obtain ⟨a0, a1⟩ := IB.cell HI1.out hkl
          rw [get_d hkl, midL_at HFl.out HGl.out hlk] at a0
          obtain ⟨f0, f1, f2⟩ := HFa.out k hlk
          have HSt : Hid ((midL FF GG k).set k (FF.getD k 0) = midL FF GG (k + 1)) := midL_set HFl.out HGl.out hlk
          have c4 := fr_cell HF1.out (by show ¬ _ = _; have h9 : ob < w.heap.size := lt_cell HCo.out; omega) HCo.out
          rw [HOx.out (by omega)] at c4
          generalize GG.getD k 0 = s at a0 f0 f1 f2
          generalize FF.getD k 0 = fk at f0 HSt
          have ho0 : 0 ≤ 150000 / (j : Int) ∧ 150000 / (j : Int) ≤ 150000 := ⟨Int.ediv_nonneg (by decide) (by omega), Int.ediv_le_self _ (by decide)⟩
          generalize 150000 / (j : Int) = own at c4 f0 ho0
          obtain ⟨ho0, ho1⟩ := ho0
          have e1 : IntKind.i64.wrap (s * 85) = s * 85 := IntWalk.i64_in _ (by omega)
          have e2 : Int.tdiv (s * 85) 100 = s * 85 / 100 := Int.tdiv_eq_ediv_of_nonneg (by omega)
          have e3 : IntKind.i64.wrap (s * 85 / 100) = s * 85 / 100 := IntWalk.i64_in _ (by omega)
          have e4 : IntKind.i64.wrap (own + s * 85 / 100) = own + s * 85 / 100 := IntWalk.i64_in _ (by omega)
          have e5 : wrap64 (s * 85) = s * 85 := by unfold wrap64; omega
          have e6 : wrap64 (own + s * 85 / 100) = own + s * 85 / 100 := by unfold wrap64; omega
          have HF0' : Hid (fk = own + s * 85 / 100) := f0
          clear hkl f0
          go_wp2
          try rw [e6]
          generalize hW5 : World.setCell wr _ _ = W5
          have HI5 : Hid (IB W5 m (midL FF GG (k + 1))) := by
            rw [← HSt.out, ← hW5, HF0'.out]
            exact IB.set HI1.out _ _
          have HF5 : Hid (Fr w W5 (fun q => q = m)) := by rw [← hW5]; exact HF1.out.trans (Fr.setCell (S := fun q => q = m) _ _ _ rfl) (fun _ _ h => h)
          go_roundw
          case rel => exact ⟨k + 1, by omega, by go_num, HI5, HF5⟩
          case measure => simp [intOf]; omega
        · obtain rfl : k = j := by omega
          have HI6 : Hid (IB wr m FF) := by
            have := HI1.out
            rw [midL_end HFl.out HGl.out] at this
            exact this
          go_wp2
          go_ret
          exact ⟨_, rfl, (by rw [HFF.out]; exact ri_of_ib HI6.out HFl.out (by omega) (by omega)), (Below.refl _ w).trans (HF1.out.below (Nat.le_refl _) (fun k hk => by omega))⟩
end Go.Proofs.Ytfidojdolbmjdaa
