/- The law's rising: numbers put one by one, each once. -/
import Derived.Test.YtipopaicehimeaaPlF1
namespace Go.Proofs.Ytipopaicehimeaa
open Go.RowKit
attribute [local go_sem] Oper.semAt_some
theorem wp_calmP {P : Program} {c : Code} {Q : Exit → Act → World → Prop} {a : Act} {w : World} (h : c.wp P (Exit.then (fun a w => Q .normal a w) (fun _ _ _ => False)) a w) : c.wp P Q a w := Code.wp_mono (fun e a w h => by cases e <;> first | exact h | exact h.elim) h
theorem io_front {W : World} {B g c n j : Nat} {M : List Int} (h : IO_ W B (.slice (some ⟨g, 0, none⟩) n c) M) (hj : j ≤ M.length) : IS W (.slice (some ⟨g, 0, none⟩) j c) (M.take j) := by
  have h2 := h
  obtain ⟨ao, c', e, hc, _⟩ := GO.shape h2
  cases e
  have hl : (M.take j).length = j := by rw [List.length_take]; omega
  refine ⟨_, _, by rw [hl], by omega, fun _ => ⟨g, 0, rfl, fun i u hu => ?_⟩⟩
  rw [Nat.zero_add]
  refine GO.raw h i u ?_
  rw [ie_map] at hu ⊢
  rw [List.map_take] at hu
  rw [List.getElem?_take] at hu
  split at hu
  · exact hu
  · cases hu
theorem io_back {W : World} {B g c n j : Nat} {M : List Int} (h : IO_ W B (.slice (some ⟨g, 0, none⟩) n c) M) (hj : j ≤ M.length) : IS W (.slice (some ⟨g, j, none⟩) (M.length - j) (c - j)) (M.drop j) := by
  have h2 := h
  obtain ⟨ao, c', e, hc, _⟩ := GO.shape h2
  cases e
  have hl : (M.drop j).length = M.length - j := List.length_drop
  refine ⟨_, _, by rw [hl], by omega, fun _ => ⟨g, j, rfl, fun i u hu => ?_⟩⟩
  refine GO.raw h (j + i) u ?_
  rw [ie_map] at hu ⊢
  rw [List.map_drop, List.getElem?_drop] at hu
  exact hu
theorem io_none {W : World} {ao : Option Addr} {M : List Int} {j : Nat} (hj : M.length ≤ j) : IS W (.slice ao 0 0) (M.drop j) := by
  rw [List.drop_of_length_le hj]
  exact ⟨ao, 0, rfl, Nat.le_refl _, fun h => by simp at h⟩
set_option linter.unusedSimpArgs false in
set_option linter.unusedVariables false in
set_option maxRecDepth 100000 in
set_option maxHeartbeats 8000000 in
theorem lrising {w : World} {v : Value} {L : List Int} (hv : IS w v L) (hL : L.length * 8 ≤ 140737488355328) : Calls Try.prog 7 #[v] w fun r w' => ∃ v', r = .returned v' ∧ IO_ w' w.heap.size v' (risL L) ∧ Below w.heap.size w w' := by
  obtain ⟨lo, lc, rfl, hlc⟩ := hv.shape
  have HV : Hid (∀ j (h : j < L.length), ∃ b off, lo = some ⟨b, off, none⟩ ∧ w.cell? ⟨b, off + j, none⟩ = some (.int .i64 L[j])) := fun j hj => IS.at_ hv j hj
  obtain ⟨n, hn⟩ : ∃ n, L.length = n := ⟨_, rfl⟩
  have HN : Hid (L.length = n) := hn
  rw [hn] at hL hlc ⊢
  clear hv hn
  go_enter Try.func7, Try.ntmps7
  go_upto_region 2 with (fail)
  generalize hW : World.alloc _ _ = w1
  have hb1 : Below w.heap.size w w1 := by rw [← hW]; exact gone_new _ _
  have hg1 : w1.heap[w.heap.size]? = some (.cells #[] 3 (0, 0)) := by rw [← hW]; exact heap_alloc_new _ _
  have HM1 : Hid (IO_ w1 w.heap.size (.slice (some ⟨w.heap.size, 0, none⟩) 0 0) []) := GO.made hg1
  have HB1 : Hid (Below w.heap.size w w1) := hb1
  clear hW hb1 hg1
  obtain ⟨g0, hg0⟩ : ∃ g0, w.heap.size = g0 := ⟨_, rfl⟩
  have HM1 : Hid (IO_ w1 w.heap.size (.slice (some ⟨g0, 0, none⟩) 0 0) []) := by rw [← hg0]; exact HM1.out
  rw [hg0]
  clear hg0
  go_wp2
  go_loopw [3, 4] (fun mv i wr => ∃ (k g c : Nat) (M : List Int), k ≤ n ∧ i = .int .i64 k ∧ mv = .slice (some ⟨g, 0, none⟩) M.length c ∧ Hid (M = risL (L.take k)) ∧ Hid (IO_ wr w.heap.size (.slice (some ⟨g, 0, none⟩) M.length c) M) ∧ Hid (Below w.heap.size w wr)) (fun _ i _ => n - (intOf i).toNat)
  case atStart => exact ⟨0, g0, 0, [], Nat.zero_le _, rfl, rfl, rfl, HM1, HB1⟩
  case round =>
    clear HM1 HB1
    obtain ⟨k, g, c, M, hk, rfl, rfl, HMr, HM, HB⟩ := hrel
    by_cases hlt : k < n
    · have HLt : Hid (k < n) := hlt
      have hkl : k < L.length := by rw [HN.out]; exact hlt
      obtain ⟨b, o, rfl, c0⟩ := HV.out k hkl
      have d0 : wr.cell? ⟨b, o + k, none⟩ = some (.int .i64 L[k]) := (HB.out.cell (p := ⟨b, o + k, none⟩) (glt_cell c0)).trans c0
      have HMl : Hid (M.length * 8 + 8 ≤ n * 8) := by
        show _ ≤ _
        have h1 := risL_len (L.take k)
        rw [← HMr.out, List.length_take] at h1
        omega
      have HIns : Hid (insI M L[k] = risL (L.take (k + 1))) := by
        show _ = _
        rw [List.take_succ_eq_append_getElem hkl, risL_snoc, ← HMr.out]
      generalize L[k] = x at d0 HIns
      clear c0 hkl
      have hcM : M.length ≤ c := by
        obtain ⟨ao, c', e, hc, _⟩ := GO.shape HM.out
        cases e
        exact hc
      have hMn : M.length ≤ 140737488355328 := by have := HMl.out; omega
      rename World => wo
      go_wp2
      go_loopw [5] (fun a wr2 => ∃ jj q : Nat, jj ≤ M.length ∧ a = .int .i64 jj ∧ Hid (∀ i (h : i < M.length), i < jj → M[i] < x) ∧ Hid (wr2 = wo.drewN q)) (fun a _ => M.length - (intOf a).toNat)
      case atStart => exact ⟨0, 0, Nat.zero_le _, rfl, fun i _ hi => by omega, rfl⟩
      case round =>
        obtain ⟨jj, q, hjj, rfl, HLow, HQ⟩ := hrel
        have HBw : Hid (∀ q, Below w.heap.size w (wr.drewN q)) := fun q2 => by rw [HQ.out]; exact below_drewN (below_drewN HB.out q) q2
        have HMw : Hid (∀ q, IO_ (wr.drewN q) w.heap.size (.slice (some ⟨g, 0, none⟩) M.length c) M) := fun q2 => by rw [HQ.out]; exact HM.out
        have HBw0 : Hid (Below w.heap.size w wr) := HBw.out 0
        have HMw0 : Hid (IO_ wr w.heap.size (.slice (some ⟨g, 0, none⟩) M.length c) M) := HMw.out 0
        have y00 : wr.cell? ⟨b, o + k, none⟩ = some (.int .i64 x) := by rw [HQ.out]; exact d0
        have HJ : Hid (jj ≤ M.length) := hjj
        clear d0 HB HM
        by_cases hj : jj < M.length
        · have m0 := HMw0.out.at_ jj hj
          have HHi : Hid (¬ M[jj] < x → posI M x = jj) := fun h => posI_is (by omega) HLow.out (fun _ => h)
          have HLo2 : Hid (M[jj] < x → ∀ i (h : i < M.length), i < jj + 1 → M[i] < x) := fun h i hi hi2 => by
            rcases Nat.lt_or_ge i jj with h3 | h3
            · exact HLow.out i hi h3
            · obtain rfl : i = jj := by omega
              exact h
          have HGe : Hid (M[jj]? = some M[jj]) := List.getElem?_eq_getElem hj
          generalize M[jj] = y at m0 HHi HLo2 HGe
          by_cases hyx : y < x
          · have HLo4 : Hid (∀ i (h : i < M.length), i < jj + 1 → M[i] < x) := HLo2.out hyx
            have HJl : Hid (jj < M.length) := hj
            go_wp2
            go_quiet (fail)
            go_wp2
            go_roundw
            case rel => exact ⟨jj + 1, _, HJl.out, by go_num, HLo4, by rw [HQ.out]; exact (World.drewN_drewN _ _ _)⟩
            case measure => have := HJl.out; simp [intOf]; omega
          · have HPos : Hid (posI M x = jj) := HHi.out hyx
            have hge : x ≤ y := by omega
            have HJl : Hid (jj < M.length) := hj
            have hcj : ¬ c = jj := by omega
            clear HHi HLo2 hyx
            cases hxe : (y == x) with
            | true =>
              have HSame : Hid (M = risL (L.take (k + 1))) := by
                show M = _
                rw [← HIns.out]
                unfold insI
                rw [HPos.out, HGe.out, if_pos (by simpa using hxe)]
              go_wp2
              go_quiet (fail)
              go_wp2
              go_quiet (fail)
              go_wp2
              go_roundw
              case rel => exact ⟨k + 1, g, c, M, HLt.out, by go_num, rfl, HSame, HMw.out _, HBw.out _⟩
              case measure => have := HLt.out; simp [intOf]; omega
            | false =>
              obtain ⟨M2, hM2⟩ : ∃ M2, M.take jj ++ x :: M.drop jj = M2 := ⟨_, rfl⟩
              have HM2 : Hid (M2 = M.take jj ++ x :: M.drop jj) := hM2.symm
              have HM2l : Hid (0 < M2.length) := by show _ < _; rw [← hM2]; simp; omega
              have HM2r : Hid (M2 = risL (L.take (k + 1))) := by
                show M2 = _
                rw [← HIns.out, ← hM2]
                unfold insI
                rw [HPos.out, HGe.out, if_neg (by simpa using hxe)]
              clear hM2
              go_wp2
              go_quiet (fail)
              go_wp2
              go_quiet (fail)
              go_wp2
              generalize hWq : World.drewN _ _ = Wq
              obtain ⟨Wd, hWd⟩ : ∃ Wd, World.drew Wq = Wd := ⟨_, rfl⟩
              have HBd : Hid (Below w.heap.size w Wd) := by show Below _ _ _; rw [← hWd, ← hWq, World.drewN_drewN, World.drew_drewN]; exact HBw.out _
              have HMd : Hid (IO_ Wd w.heap.size (.slice (some ⟨g, 0, none⟩) M.length c) M) := by show IO_ _ _ _ _; rw [← hWd, ← hWq, World.drewN_drewN, World.drew_drewN]; exact HMw.out _
              have y0 : Wd.cell? ⟨b, o + k, none⟩ = some (.int .i64 x) := by rw [← hWd, ← hWq]; exact y00
              have srcA : ∀ P, Below Wd.heap.size Wd P → IS P (.slice (some ⟨g, 0, none⟩) jj c) (M.take jj) := fun P hP => io_front (GO.new HMd.out hP) HJ.out
              have srcB : ∀ P, Below Wd.heap.size Wd P → IS P (.slice (some ⟨g, jj, none⟩) (M.length - jj) (c - jj)) (M.drop jj) := fun P hP => io_back (GO.new HMd.out hP) HJ.out
              have hjc : jj ≤ c := by omega
              clear m0 y00 hWq
              refine wp_calmP ?_
              refine wp_region_L [] (fun w' : World => w'.cell? ⟨b, o + k, none⟩ = some (.int .i64 x)) (by kernel_rfl) ?_
              rw [hWd]
              clear hWd
              have hS : (fun w' : World => w'.cell? ⟨b, o + k, none⟩ = some (.int .i64 x)) Wd := y0
              have bwWd : Below Wd.heap.size Wd Wd := Below.refl _ _
              refine wpAnyL_take (i := 1) 46 (v := .slice (some ⟨g, 0, none⟩) M.length c) rfl rfl (by kernel_rfl) (by kernel_rfl) (by kernel_rfl) (by kernel_rfl) (by kernel_rfl) (by kernel_rfl) (fun _ _ _ h => h) hS (by rfl) (by intro w' hSw; have y0 := hSw; go_simp <;> with_reducible rfl) ?_
              simp only [Act.put, List.setIfInBounds_toArray, List.set_cons_zero, List.set_cons_succ]
              refine wpAnyL_take (i := 2) 47 (v := .int .i64 jj) rfl rfl (by kernel_rfl) (by kernel_rfl) (by kernel_rfl) (by kernel_rfl) (by kernel_rfl) (by kernel_rfl) (fun _ _ _ h => h) hS (by rfl) (by intro w' hSw; have y0 := hSw; go_simp <;> with_reducible rfl) ?_
              simp only [Act.put, List.setIfInBounds_toArray, List.set_cons_zero, List.set_cons_succ]
              refine wpAnyL_take (i := 3) 48 (v := .slice (some ⟨g, 0, none⟩) jj c) rfl rfl (by kernel_rfl) (by kernel_rfl) (by kernel_rfl) (by kernel_rfl) (by kernel_rfl) (by kernel_rfl) (fun _ _ _ h => h) hS (by rfl) (by intro w' hSw; have y0 := hSw; go_simp <;> with_reducible rfl) ?_
              simp only [Act.put, List.setIfInBounds_toArray, List.set_cons_zero, List.set_cons_succ]
              refine wpAnyL_take (i := 5) 50 (v := .slice (some ⟨b, o, none⟩) n lc) rfl rfl (by kernel_rfl) (by kernel_rfl) (by kernel_rfl) (by kernel_rfl) (by kernel_rfl) (by kernel_rfl) (fun _ _ _ h => h) hS (by rfl) (by intro w' hSw; have y0 := hSw; go_simp <;> with_reducible rfl) ?_
              simp only [Act.put, List.setIfInBounds_toArray, List.set_cons_zero, List.set_cons_succ]
              refine wpAnyL_take (i := 6) 51 (v := .int .i64 k) rfl rfl (by kernel_rfl) (by kernel_rfl) (by kernel_rfl) (by kernel_rfl) (by kernel_rfl) (by kernel_rfl) (fun _ _ _ h => h) hS (by rfl) (by intro w' hSw; have y0 := hSw; go_simp <;> with_reducible rfl) ?_
              simp only [Act.put, List.setIfInBounds_toArray, List.set_cons_zero, List.set_cons_succ]
              refine wpAnyL_take (i := 7) 52 (v := .pointer (some ⟨b, o + k, none⟩)) rfl rfl (by kernel_rfl) (by kernel_rfl) (by kernel_rfl) (by kernel_rfl) (by kernel_rfl) (by kernel_rfl) (fun _ _ _ h => h) hS (by rfl) (by intro w' hSw; have y0 := hSw; go_simp <;> with_reducible rfl) ?_
              simp only [Act.put, List.setIfInBounds_toArray, List.set_cons_zero, List.set_cons_succ]
              refine wpAnyL_take (i := 8) 53 (v := .int .i64 x) rfl rfl (by kernel_rfl) (by kernel_rfl) (by kernel_rfl) (by kernel_rfl) (by kernel_rfl) (by kernel_rfl) (fun _ _ _ h => h) hS (by rfl) (by intro w' hSw; have y0 := hSw; go_simp <;> with_reducible rfl) ?_
              simp only [Act.put, List.setIfInBounds_toArray, List.set_cons_zero, List.set_cons_succ]
              refine wpAnyL_take (i := 11) 56 (v := .slice (some ⟨g, 0, none⟩) M.length c) rfl rfl (by kernel_rfl) (by kernel_rfl) (by kernel_rfl) (by kernel_rfl) (by kernel_rfl) (by kernel_rfl) (fun _ _ _ h => h) hS (by rfl) (by intro w' hSw; have y0 := hSw; go_simp <;> with_reducible rfl) ?_
              simp only [Act.put, List.setIfInBounds_toArray, List.set_cons_zero, List.set_cons_succ]
              refine wpAnyL_take (i := 12) 57 (v := .int .i64 jj) rfl rfl (by kernel_rfl) (by kernel_rfl) (by kernel_rfl) (by kernel_rfl) (by kernel_rfl) (by kernel_rfl) (fun _ _ _ h => h) hS (by rfl) (by intro w' hSw; have y0 := hSw; go_simp <;> with_reducible rfl) ?_
              simp only [Act.put, List.setIfInBounds_toArray, List.set_cons_zero, List.set_cons_succ]
              refine wpAnyL_take (i := 13) 58 (v := .slice (some ⟨g, jj, none⟩) (M.length - jj) (c - jj)) rfl rfl (by kernel_rfl) (by kernel_rfl) (by kernel_rfl) (by kernel_rfl) (by kernel_rfl) (by kernel_rfl) (fun _ _ _ h => h) hS (by rfl) (by intro w' hSw; have y0 := hSw; go_simp <;> with_reducible rfl) ?_
              simp only [Act.put, List.setIfInBounds_toArray, List.set_cons_zero, List.set_cons_succ]
              refine wpAnyL_two (i := 0) (j := 9) (by kernel_rfl) rfl rfl (fun Ka hKa => ?_) (fun Ka hKa => ?_)
              · go_simp
                generalize hqX1 : World.alloc _ _ = X1
                have bbX1 : Below Wd.heap.size Wd X1 := by rw [← hqX1]; exact gone_new _ _
                have hgX1 : X1.heap[Wd.heap.size]? = some (.cells #[] 3 (0, 0)) := by rw [← hqX1]; exact heap_alloc_new _ _
                have bwX1 : Below Wd.heap.size Wd X1 := bwWd.trans (bbX1.mono bwWd.size)
                have hSX1 : (fun w' : World => w'.cell? ⟨b, o + k, none⟩ = some (.int .i64 x)) X1 := (bwX1.cell (p := ⟨b, o + k, none⟩) (glt_cell y0)).trans y0
                refine hKa.out _ _ (fun _ => hSX1) ?_
                clear hKa Ka hqX1
                try simp only [Act.put, List.setIfInBounds_toArray, List.set_cons_zero, List.set_cons_succ]
                have hA : IO_ X1 Wd.heap.size (.slice (some ⟨Wd.heap.size, 0, none⟩) 0 0) [] := (GO.made hgX1).lower bwWd.size
                refine wpAnyL_two (i := 4) (j := 9) (by kernel_rfl) rfl rfl (fun Ka hKa => ?_) (fun Ka hKa => ?_)
                · refine stp_appG gT_int rfl (.tmp 45) (.tmp 48) rfl (R := []) (S := (M.take jj)) rfl rfl hA (srcA X1 bwX1) (by have := HMl.out; simp; omega) bwX1.size ?_
                  intro vhB4 X2 hB4 hfX2 hrX2
                  obtain ⟨LA, eA⟩ : ∃ LA, [] ++ M.take jj = LA := ⟨_, rfl⟩
                  have HLA : Hid ([] ++ M.take jj = LA) := eA
                  rw [eA] at hB4
                  clear eA
                  have bwX2 : Below Wd.heap.size Wd X2 := bwX1.trans (hfX2.below bwX1.size (fun k hk => (GO.lt hA k hk).1))
                  have hSX2 : (fun w' : World => w'.cell? ⟨b, o + k, none⟩ = some (.int .i64 x)) X2 := (bwX2.cell (p := ⟨b, o + k, none⟩) (glt_cell y0)).trans y0
                  obtain ⟨aohB4, chB4, rfl, _, hghB4⟩ := GO.shape hB4
                  refine hKa.out _ _ (fun _ => hSX2) ?_
                  clear hKa Ka
                  try simp only [Act.put, List.setIfInBounds_toArray, List.set_cons_zero, List.set_cons_succ]
                  refine wpAnyL_one (i := 9) (by kernel_rfl) rfl (fun Ka hKa => ?_)
                  go_simp
                  generalize hqX3 : World.alloc _ _ = X3
                  have bbX3 : Below X2.heap.size X2 X3 := by rw [← hqX3]; exact gone_new _ _
                  have hv : X3.heap[X2.heap.size]? = some (.cells #[.int .i64 x] 3 (0, 0)) := by rw [← hqX3]; exact heap_alloc_new _ _
                  have bwX3 : Below Wd.heap.size Wd X3 := bwX2.trans (bbX3.mono bwX2.size)
                  have hSX3 : (fun w' : World => w'.cell? ⟨b, o + k, none⟩ = some (.int .i64 x)) X3 := (bwX3.cell (p := ⟨b, o + k, none⟩) (glt_cell y0)).trans y0
                  refine hKa.out _ _ (fun _ => hSX3) ?_
                  clear hKa Ka hqX3
                  try simp only [Act.put, List.setIfInBounds_toArray, List.set_cons_zero, List.set_cons_succ]
                  have hB4' := GO.new hB4 bbX3
                  have hltb := fun k hk => (GO.lt hB4 k hk).2
                  generalize X2.heap.size = vb at hv hltb ⊢
                  have hLA : LA.length = jj := by rw [← HLA.out]; have := HJ.out; simp; omega
                  have hne7 : ¬ (Value.slice aohB4 LA.length chB4).ownBlock = some vb := fun e => by have := hltb vb e; omega
                  refine wpAnyL_one (i := 10) (by kernel_rfl) rfl (fun Ka hKa => ?_)
                  refine stp_appG gT_int rfl (.tmp 49) (.tmp 54) rfl (R := LA) (S := [x]) rfl rfl hB4' (GS.one hv rfl 1 (Nat.le_refl _)) (by have := HMl.out; have := HJ.out; simp; omega) bwX3.size ?_
                  intro vhC7 Y7 hC7 hfY7 hrY7
                  obtain ⟨LB, eB⟩ : ∃ LB, LA ++ [x] = LB := ⟨_, rfl⟩
                  have HLB : Hid (LA ++ [x] = LB) := eB
                  have hLB : LB.length = jj + 1 := by rw [← eB]; simp; omega
                  rw [eB] at hC7
                  clear eB
                  have bwY7 : Below Wd.heap.size Wd Y7 := bwX3.trans (hfY7.below bwX3.size (fun k hk => (GO.lt hB4' k hk).1))
                  have hSY7 : (fun w' : World => w'.cell? ⟨b, o + k, none⟩ = some (.int .i64 x)) Y7 := (bwY7.cell (p := ⟨b, o + k, none⟩) (glt_cell y0)).trans y0
                  obtain ⟨aohC7, chC7, rfl, _, hghC7⟩ := GO.shape hC7
                  refine hKa.out _ _ (fun _ => hSY7) ?_
                  clear hKa Ka
                  try simp only [Act.put, List.setIfInBounds_toArray, List.set_cons_zero, List.set_cons_succ]
                  refine wpAnyL_one (i := 14) (by kernel_rfl) rfl (fun Ka hKa => ?_)
                  refine stp_appG gT_int rfl (.tmp 55) (.tmp 58) rfl (R := LB) (S := (M.drop jj)) rfl rfl hC7 (srcB Y7 bwY7) (by have := HMl.out; have := HJ.out; simp; omega) bwY7.size ?_
                  intro vhD11 Y11 hD11 hfY11 hrY11
                  have eM : LB ++ M.drop jj = M2 := by rw [HM2.out, ← HLB.out, ← HLA.out]; simp
                  rw [eM] at hD11
                  clear eM
                  have bwY11 : Below Wd.heap.size Wd Y11 := bwY7.trans (hfY11.below bwY7.size (fun k hk => (GO.lt hC7 k hk).1))
                  have hSY11 : (fun w' : World => w'.cell? ⟨b, o + k, none⟩ = some (.int .i64 x)) Y11 := (bwY11.cell (p := ⟨b, o + k, none⟩) (glt_cell y0)).trans y0
                  obtain ⟨aohD11, chD11, rfl, _, hghD11⟩ := GO.shape hD11
                  refine hKa.out _ _ (fun _ => hSY11) ?_
                  clear hKa Ka
                  try simp only [Act.put, List.setIfInBounds_toArray, List.set_cons_zero, List.set_cons_succ]
                  refine wpAnyL_take (i := 15) 3 (v := .slice aohD11 M2.length chD11) rfl rfl (by kernel_rfl) (by kernel_rfl) (by kernel_rfl) (by kernel_rfl) (by kernel_rfl) (by kernel_rfl) (fun _ _ _ h => h) hSY11 (by rfl) (by intro w' hSw; go_simp <;> with_reducible rfl) ?_
                  simp only [Act.put, List.setIfInBounds_toArray, List.set_cons_zero, List.set_cons_succ]
                  refine wpAnyL_done (by kernel_rfl) ?_ _
                  have HMn : Hid (IO_ Y11 w.heap.size (.slice aohD11 M2.length chD11) M2) := GO.lower hD11 HBd.out.size
                  have HBn : Hid (Below w.heap.size w Y11) := HBd.out.trans (bwY11.mono HBd.out.size)
                  obtain ⟨gn, hgn⟩ := hghD11 HM2l.out
                  subst hgn
                  clear hD11
                  go_wp2
                  go_roundw
                  case rel => exact ⟨k + 1, gn, chD11, M2, HLt.out, by go_num, rfl, HM2r.out, HMn, HBn⟩
                  case measure => have := HLt.out; simp [intOf]; omega
                · go_simp
                  generalize hqX2 : World.alloc _ _ = X2
                  have bbX2 : Below X1.heap.size X1 X2 := by rw [← hqX2]; exact gone_new _ _
                  have hv : X2.heap[X1.heap.size]? = some (.cells #[.int .i64 x] 3 (0, 0)) := by rw [← hqX2]; exact heap_alloc_new _ _
                  have bwX2 : Below Wd.heap.size Wd X2 := bwX1.trans (bbX2.mono bwX1.size)
                  have hSX2 : (fun w' : World => w'.cell? ⟨b, o + k, none⟩ = some (.int .i64 x)) X2 := (bwX2.cell (p := ⟨b, o + k, none⟩) (glt_cell y0)).trans y0
                  refine hKa.out _ _ (fun _ => hSX2) ?_
                  clear hKa Ka hqX2
                  try simp only [Act.put, List.setIfInBounds_toArray, List.set_cons_zero, List.set_cons_succ]
                  have hA' := GO.new hA bbX2
                  have hvlt : X1.heap.size < X2.heap.size := glt_blk hv
                  have hglt : Wd.heap.size < X1.heap.size := glt_blk hgX1
                  refine wpAnyL_one (i := 4) (by kernel_rfl) rfl (fun Ka hKa => ?_)
                  refine stp_appG gT_int rfl (.tmp 45) (.tmp 48) rfl (R := []) (S := (M.take jj)) rfl rfl hA' (srcA X2 bwX2) (by have := HMl.out; simp; omega) bwX2.size ?_
                  intro vhB4 X3 hB4 hfX3 hrX3
                  obtain ⟨LA, eA⟩ : ∃ LA, [] ++ M.take jj = LA := ⟨_, rfl⟩
                  have HLA : Hid ([] ++ M.take jj = LA) := eA
                  rw [eA] at hB4
                  clear eA
                  have bwX3 : Below Wd.heap.size Wd X3 := bwX2.trans (hfX3.below bwX2.size (fun k hk => (GO.lt hA' k hk).1))
                  have hSX3 : (fun w' : World => w'.cell? ⟨b, o + k, none⟩ = some (.int .i64 x)) X3 := (bwX3.cell (p := ⟨b, o + k, none⟩) (glt_cell y0)).trans y0
                  obtain ⟨aohB4, chB4, rfl, _, hghB4⟩ := GO.shape hB4
                  refine hKa.out _ _ (fun _ => hSX3) ?_
                  clear hKa Ka
                  try simp only [Act.put, List.setIfInBounds_toArray, List.set_cons_zero, List.set_cons_succ]
                  have hv := (hfX3.block _ hvlt (fun e => by have e4 : Wd.heap.size = X1.heap.size := Option.some.inj e; omega)).trans hv
                  have hrow4 := hrX3
                  generalize X1.heap.size = vb at hv hvlt hglt ⊢
                  have hLA : LA.length = jj := by rw [← HLA.out]; have := HJ.out; simp; omega
                  have hne7 : ¬ (Value.slice aohB4 LA.length chB4).ownBlock = some vb := fun e => by rcases hrow4 with h | ⟨gg, h, h2⟩ <;> first | (have e4 : Wd.heap.size = vb := Option.some.inj (h.symm.trans e); omega) | (have e4 : gg = vb := Option.some.inj (h.symm.trans e); omega)
                  refine wpAnyL_one (i := 10) (by kernel_rfl) rfl (fun Ka hKa => ?_)
                  refine stp_appG gT_int rfl (.tmp 49) (.tmp 54) rfl (R := LA) (S := [x]) rfl rfl hB4 (GS.one hv rfl 1 (Nat.le_refl _)) (by have := HMl.out; have := HJ.out; simp; omega) bwX3.size ?_
                  intro vhC7 Y7 hC7 hfY7 hrY7
                  obtain ⟨LB, eB⟩ : ∃ LB, LA ++ [x] = LB := ⟨_, rfl⟩
                  have HLB : Hid (LA ++ [x] = LB) := eB
                  have hLB : LB.length = jj + 1 := by rw [← eB]; simp; omega
                  rw [eB] at hC7
                  clear eB
                  have bwY7 : Below Wd.heap.size Wd Y7 := bwX3.trans (hfY7.below bwX3.size (fun k hk => (GO.lt hB4 k hk).1))
                  have hSY7 : (fun w' : World => w'.cell? ⟨b, o + k, none⟩ = some (.int .i64 x)) Y7 := (bwY7.cell (p := ⟨b, o + k, none⟩) (glt_cell y0)).trans y0
                  obtain ⟨aohC7, chC7, rfl, _, hghC7⟩ := GO.shape hC7
                  refine hKa.out _ _ (fun _ => hSY7) ?_
                  clear hKa Ka
                  try simp only [Act.put, List.setIfInBounds_toArray, List.set_cons_zero, List.set_cons_succ]
                  refine wpAnyL_one (i := 14) (by kernel_rfl) rfl (fun Ka hKa => ?_)
                  refine stp_appG gT_int rfl (.tmp 55) (.tmp 58) rfl (R := LB) (S := (M.drop jj)) rfl rfl hC7 (srcB Y7 bwY7) (by have := HMl.out; have := HJ.out; simp; omega) bwY7.size ?_
                  intro vhD11 Y11 hD11 hfY11 hrY11
                  have eM : LB ++ M.drop jj = M2 := by rw [HM2.out, ← HLB.out, ← HLA.out]; simp
                  rw [eM] at hD11
                  clear eM
                  have bwY11 : Below Wd.heap.size Wd Y11 := bwY7.trans (hfY11.below bwY7.size (fun k hk => (GO.lt hC7 k hk).1))
                  have hSY11 : (fun w' : World => w'.cell? ⟨b, o + k, none⟩ = some (.int .i64 x)) Y11 := (bwY11.cell (p := ⟨b, o + k, none⟩) (glt_cell y0)).trans y0
                  obtain ⟨aohD11, chD11, rfl, _, hghD11⟩ := GO.shape hD11
                  refine hKa.out _ _ (fun _ => hSY11) ?_
                  clear hKa Ka
                  try simp only [Act.put, List.setIfInBounds_toArray, List.set_cons_zero, List.set_cons_succ]
                  refine wpAnyL_take (i := 15) 3 (v := .slice aohD11 M2.length chD11) rfl rfl (by kernel_rfl) (by kernel_rfl) (by kernel_rfl) (by kernel_rfl) (by kernel_rfl) (by kernel_rfl) (fun _ _ _ h => h) hSY11 (by rfl) (by intro w' hSw; go_simp <;> with_reducible rfl) ?_
                  simp only [Act.put, List.setIfInBounds_toArray, List.set_cons_zero, List.set_cons_succ]
                  refine wpAnyL_done (by kernel_rfl) ?_ _
                  have HMn : Hid (IO_ Y11 w.heap.size (.slice aohD11 M2.length chD11) M2) := GO.lower hD11 HBd.out.size
                  have HBn : Hid (Below w.heap.size w Y11) := HBd.out.trans (bwY11.mono HBd.out.size)
                  obtain ⟨gn, hgn⟩ := hghD11 HM2l.out
                  subst hgn
                  clear hD11
                  go_wp2
                  go_roundw
                  case rel => exact ⟨k + 1, gn, chD11, M2, HLt.out, by go_num, rfl, HM2r.out, HMn, HBn⟩
                  case measure => have := HLt.out; simp [intOf]; omega
              · go_simp
                generalize hqX1 : World.alloc _ _ = X1
                have bbX1 : Below Wd.heap.size Wd X1 := by rw [← hqX1]; exact gone_new _ _
                have hv : X1.heap[Wd.heap.size]? = some (.cells #[.int .i64 x] 3 (0, 0)) := by rw [← hqX1]; exact heap_alloc_new _ _
                have bwX1 : Below Wd.heap.size Wd X1 := bwWd.trans (bbX1.mono bwWd.size)
                have hSX1 : (fun w' : World => w'.cell? ⟨b, o + k, none⟩ = some (.int .i64 x)) X1 := (bwX1.cell (p := ⟨b, o + k, none⟩) (glt_cell y0)).trans y0
                refine hKa.out _ _ (fun _ => hSX1) ?_
                clear hKa Ka hqX1
                try simp only [Act.put, List.setIfInBounds_toArray, List.set_cons_zero, List.set_cons_succ]
                have hvlt : Wd.heap.size < X1.heap.size := glt_blk hv
                refine wpAnyL_one (i := 0) (by kernel_rfl) rfl (fun Ka hKa => ?_)
                go_simp
                generalize hqX2 : World.alloc _ _ = X2
                have bbX2 : Below X1.heap.size X1 X2 := by rw [← hqX2]; exact gone_new _ _
                have hgX2 : X2.heap[X1.heap.size]? = some (.cells #[] 3 (0, 0)) := by rw [← hqX2]; exact heap_alloc_new _ _
                have bwX2 : Below Wd.heap.size Wd X2 := bwX1.trans (bbX2.mono bwX1.size)
                have hSX2 : (fun w' : World => w'.cell? ⟨b, o + k, none⟩ = some (.int .i64 x)) X2 := (bwX2.cell (p := ⟨b, o + k, none⟩) (glt_cell y0)).trans y0
                refine hKa.out _ _ (fun _ => hSX2) ?_
                clear hKa Ka hqX2
                try simp only [Act.put, List.setIfInBounds_toArray, List.set_cons_zero, List.set_cons_succ]
                have hA : IO_ X2 Wd.heap.size (.slice (some ⟨X1.heap.size, 0, none⟩) 0 0) [] := (GO.made hgX2).lower bwX1.size
                have hv := (bbX2.block _ hvlt).trans hv
                have hvlt2 : X1.heap.size < X2.heap.size := glt_blk hgX2
                refine wpAnyL_one (i := 4) (by kernel_rfl) rfl (fun Ka hKa => ?_)
                refine stp_appG gT_int rfl (.tmp 45) (.tmp 48) rfl (R := []) (S := (M.take jj)) rfl rfl hA (srcA X2 bwX2) (by have := HMl.out; simp; omega) bwX2.size ?_
                intro vhB4 X3 hB4 hfX3 hrX3
                obtain ⟨LA, eA⟩ : ∃ LA, [] ++ M.take jj = LA := ⟨_, rfl⟩
                have HLA : Hid ([] ++ M.take jj = LA) := eA
                rw [eA] at hB4
                clear eA
                have bwX3 : Below Wd.heap.size Wd X3 := bwX2.trans (hfX3.below bwX2.size (fun k hk => (GO.lt hA k hk).1))
                have hSX3 : (fun w' : World => w'.cell? ⟨b, o + k, none⟩ = some (.int .i64 x)) X3 := (bwX3.cell (p := ⟨b, o + k, none⟩) (glt_cell y0)).trans y0
                obtain ⟨aohB4, chB4, rfl, _, hghB4⟩ := GO.shape hB4
                refine hKa.out _ _ (fun _ => hSX3) ?_
                clear hKa Ka
                try simp only [Act.put, List.setIfInBounds_toArray, List.set_cons_zero, List.set_cons_succ]
                have hv := (hfX3.block _ (by omega) (fun e => by have e4 : X1.heap.size = Wd.heap.size := Option.some.inj e; omega)).trans hv
                have hrow4 := hrX3
                obtain ⟨vb, hvb⟩ : ∃ vb, Wd.heap.size = vb := ⟨_, rfl⟩
                have hv : X3.heap[vb]? = some (.cells #[.int .i64 x] 3 (0, 0)) := by rw [← hvb]; exact hv
                rw [hvb] at hvlt ⊢
                have hLA : LA.length = jj := by rw [← HLA.out]; have := HJ.out; simp; omega
                have hne7 : ¬ (Value.slice aohB4 LA.length chB4).ownBlock = some vb := fun e => by rcases hrow4 with h | ⟨gg, h, h2⟩ <;> first | (have e4 : X1.heap.size = vb := Option.some.inj (h.symm.trans e); omega) | (have e4 : gg = vb := Option.some.inj (h.symm.trans e); omega)
                refine wpAnyL_one (i := 10) (by kernel_rfl) rfl (fun Ka hKa => ?_)
                refine stp_appG gT_int rfl (.tmp 49) (.tmp 54) rfl (R := LA) (S := [x]) rfl rfl hB4 (GS.one hv rfl 1 (Nat.le_refl _)) (by have := HMl.out; have := HJ.out; simp; omega) bwX3.size ?_
                intro vhC7 Y7 hC7 hfY7 hrY7
                obtain ⟨LB, eB⟩ : ∃ LB, LA ++ [x] = LB := ⟨_, rfl⟩
                have HLB : Hid (LA ++ [x] = LB) := eB
                have hLB : LB.length = jj + 1 := by rw [← eB]; simp; omega
                rw [eB] at hC7
                clear eB
                have bwY7 : Below Wd.heap.size Wd Y7 := bwX3.trans (hfY7.below bwX3.size (fun k hk => (GO.lt hB4 k hk).1))
                have hSY7 : (fun w' : World => w'.cell? ⟨b, o + k, none⟩ = some (.int .i64 x)) Y7 := (bwY7.cell (p := ⟨b, o + k, none⟩) (glt_cell y0)).trans y0
                obtain ⟨aohC7, chC7, rfl, _, hghC7⟩ := GO.shape hC7
                refine hKa.out _ _ (fun _ => hSY7) ?_
                clear hKa Ka
                try simp only [Act.put, List.setIfInBounds_toArray, List.set_cons_zero, List.set_cons_succ]
                refine wpAnyL_one (i := 14) (by kernel_rfl) rfl (fun Ka hKa => ?_)
                refine stp_appG gT_int rfl (.tmp 55) (.tmp 58) rfl (R := LB) (S := (M.drop jj)) rfl rfl hC7 (srcB Y7 bwY7) (by have := HMl.out; have := HJ.out; simp; omega) bwY7.size ?_
                intro vhD11 Y11 hD11 hfY11 hrY11
                have eM : LB ++ M.drop jj = M2 := by rw [HM2.out, ← HLB.out, ← HLA.out]; simp
                rw [eM] at hD11
                clear eM
                have bwY11 : Below Wd.heap.size Wd Y11 := bwY7.trans (hfY11.below bwY7.size (fun k hk => (GO.lt hC7 k hk).1))
                have hSY11 : (fun w' : World => w'.cell? ⟨b, o + k, none⟩ = some (.int .i64 x)) Y11 := (bwY11.cell (p := ⟨b, o + k, none⟩) (glt_cell y0)).trans y0
                obtain ⟨aohD11, chD11, rfl, _, hghD11⟩ := GO.shape hD11
                refine hKa.out _ _ (fun _ => hSY11) ?_
                clear hKa Ka
                try simp only [Act.put, List.setIfInBounds_toArray, List.set_cons_zero, List.set_cons_succ]
                refine wpAnyL_take (i := 15) 3 (v := .slice aohD11 M2.length chD11) rfl rfl (by kernel_rfl) (by kernel_rfl) (by kernel_rfl) (by kernel_rfl) (by kernel_rfl) (by kernel_rfl) (fun _ _ _ h => h) hSY11 (by rfl) (by intro w' hSw; go_simp <;> with_reducible rfl) ?_
                simp only [Act.put, List.setIfInBounds_toArray, List.set_cons_zero, List.set_cons_succ]
                refine wpAnyL_done (by kernel_rfl) ?_ _
                have HMn : Hid (IO_ Y11 w.heap.size (.slice aohD11 M2.length chD11) M2) := GO.lower hD11 HBd.out.size
                have HBn : Hid (Below w.heap.size w Y11) := HBd.out.trans (bwY11.mono HBd.out.size)
                obtain ⟨gn, hgn⟩ := hghD11 HM2l.out
                subst hgn
                clear hD11
                go_wp2
                go_roundw
                case rel => exact ⟨k + 1, gn, chD11, M2, HLt.out, by go_num, rfl, HM2r.out, HMn, HBn⟩
                case measure => have := HLt.out; simp [intOf]; omega
        · have hge : M.length ≤ jj := by omega
          have HPos : Hid (posI M x = jj) := posI_is HJ.out HLow.out (fun h => by omega)
          have HGE : Hid (M.length ≤ jj) := hge
          obtain ⟨M2, hM2⟩ : ∃ M2, M.take jj ++ x :: M.drop jj = M2 := ⟨_, rfl⟩
          have HM2 : Hid (M2 = M.take jj ++ x :: M.drop jj) := hM2.symm
          have HM2l : Hid (0 < M2.length) := by show _ < _; rw [← hM2]; simp; omega
          have HM2r : Hid (M2 = risL (L.take (k + 1))) := by
            show M2 = _
            rw [← HIns.out, ← hM2]
            unfold insI
            rw [HPos.out, List.getElem?_eq_none hge, if_neg (by simp)]
          clear hM2
          by_cases hcj : c = jj
          · subst hcj
            go_wp2
            go_quiet (fail)
            go_wp2
            go_quiet (fail)
            go_wp2
            generalize hWq : World.drewN _ _ = Wq
            obtain ⟨Wd, hWd⟩ : ∃ Wd, World.drew Wq = Wd := ⟨_, rfl⟩
            have HBd : Hid (Below w.heap.size w Wd) := by show Below _ _ _; rw [← hWd, ← hWq, World.drewN_drewN, World.drew_drewN]; exact HBw.out _
            have HMd : Hid (IO_ Wd w.heap.size (.slice (some ⟨g, 0, none⟩) M.length c) M) := by show IO_ _ _ _ _; rw [← hWd, ← hWq, World.drewN_drewN, World.drew_drewN]; exact HMw.out _
            have y0 : Wd.cell? ⟨b, o + k, none⟩ = some (.int .i64 x) := by rw [← hWd, ← hWq]; exact y00
            have srcA : ∀ P, Below Wd.heap.size Wd P → IS P (.slice (some ⟨g, 0, none⟩) c c) (M.take c) := fun P hP => io_front (GO.new HMd.out hP) HJ.out
            have srcB : ∀ P, Below Wd.heap.size Wd P → IS P (.slice (some ⟨g, 0, none⟩) 0 0) (M.drop c) := fun P hP => io_none HGE.out
            clear y00 hge hj hWq
            refine wp_calmP ?_
            refine wp_region_L [] (fun w' : World => w'.cell? ⟨b, o + k, none⟩ = some (.int .i64 x)) (by kernel_rfl) ?_
            rw [hWd]
            clear hWd
            have hS : (fun w' : World => w'.cell? ⟨b, o + k, none⟩ = some (.int .i64 x)) Wd := y0
            have bwWd : Below Wd.heap.size Wd Wd := Below.refl _ _
            refine wpAnyL_take (i := 1) 46 (v := .slice (some ⟨g, 0, none⟩) M.length c) rfl rfl (by kernel_rfl) (by kernel_rfl) (by kernel_rfl) (by kernel_rfl) (by kernel_rfl) (by kernel_rfl) (fun _ _ _ h => h) hS (by rfl) (by intro w' hSw; have y0 := hSw; go_simp <;> with_reducible rfl) ?_
            simp only [Act.put, List.setIfInBounds_toArray, List.set_cons_zero, List.set_cons_succ]
            refine wpAnyL_take (i := 2) 47 (v := .int .i64 c) rfl rfl (by kernel_rfl) (by kernel_rfl) (by kernel_rfl) (by kernel_rfl) (by kernel_rfl) (by kernel_rfl) (fun _ _ _ h => h) hS (by rfl) (by intro w' hSw; have y0 := hSw; go_simp <;> with_reducible rfl) ?_
            simp only [Act.put, List.setIfInBounds_toArray, List.set_cons_zero, List.set_cons_succ]
            refine wpAnyL_take (i := 3) 48 (v := .slice (some ⟨g, 0, none⟩) c c) rfl rfl (by kernel_rfl) (by kernel_rfl) (by kernel_rfl) (by kernel_rfl) (by kernel_rfl) (by kernel_rfl) (fun _ _ _ h => h) hS (by rfl) (by intro w' hSw; have y0 := hSw; go_simp <;> with_reducible rfl) ?_
            simp only [Act.put, List.setIfInBounds_toArray, List.set_cons_zero, List.set_cons_succ]
            refine wpAnyL_take (i := 5) 50 (v := .slice (some ⟨b, o, none⟩) n lc) rfl rfl (by kernel_rfl) (by kernel_rfl) (by kernel_rfl) (by kernel_rfl) (by kernel_rfl) (by kernel_rfl) (fun _ _ _ h => h) hS (by rfl) (by intro w' hSw; have y0 := hSw; go_simp <;> with_reducible rfl) ?_
            simp only [Act.put, List.setIfInBounds_toArray, List.set_cons_zero, List.set_cons_succ]
            refine wpAnyL_take (i := 6) 51 (v := .int .i64 k) rfl rfl (by kernel_rfl) (by kernel_rfl) (by kernel_rfl) (by kernel_rfl) (by kernel_rfl) (by kernel_rfl) (fun _ _ _ h => h) hS (by rfl) (by intro w' hSw; have y0 := hSw; go_simp <;> with_reducible rfl) ?_
            simp only [Act.put, List.setIfInBounds_toArray, List.set_cons_zero, List.set_cons_succ]
            refine wpAnyL_take (i := 7) 52 (v := .pointer (some ⟨b, o + k, none⟩)) rfl rfl (by kernel_rfl) (by kernel_rfl) (by kernel_rfl) (by kernel_rfl) (by kernel_rfl) (by kernel_rfl) (fun _ _ _ h => h) hS (by rfl) (by intro w' hSw; have y0 := hSw; go_simp <;> with_reducible rfl) ?_
            simp only [Act.put, List.setIfInBounds_toArray, List.set_cons_zero, List.set_cons_succ]
            refine wpAnyL_take (i := 8) 53 (v := .int .i64 x) rfl rfl (by kernel_rfl) (by kernel_rfl) (by kernel_rfl) (by kernel_rfl) (by kernel_rfl) (by kernel_rfl) (fun _ _ _ h => h) hS (by rfl) (by intro w' hSw; have y0 := hSw; go_simp <;> with_reducible rfl) ?_
            simp only [Act.put, List.setIfInBounds_toArray, List.set_cons_zero, List.set_cons_succ]
            refine wpAnyL_take (i := 11) 56 (v := .slice (some ⟨g, 0, none⟩) M.length c) rfl rfl (by kernel_rfl) (by kernel_rfl) (by kernel_rfl) (by kernel_rfl) (by kernel_rfl) (by kernel_rfl) (fun _ _ _ h => h) hS (by rfl) (by intro w' hSw; have y0 := hSw; go_simp <;> with_reducible rfl) ?_
            simp only [Act.put, List.setIfInBounds_toArray, List.set_cons_zero, List.set_cons_succ]
            refine wpAnyL_take (i := 12) 57 (v := .int .i64 c) rfl rfl (by kernel_rfl) (by kernel_rfl) (by kernel_rfl) (by kernel_rfl) (by kernel_rfl) (by kernel_rfl) (fun _ _ _ h => h) hS (by rfl) (by intro w' hSw; have y0 := hSw; go_simp <;> with_reducible rfl) ?_
            simp only [Act.put, List.setIfInBounds_toArray, List.set_cons_zero, List.set_cons_succ]
            refine wpAnyL_take (i := 13) 58 (v := .slice (some ⟨g, 0, none⟩) (M.length - c) 0) rfl rfl (by kernel_rfl) (by kernel_rfl) (by kernel_rfl) (by kernel_rfl) (by kernel_rfl) (by kernel_rfl) (fun _ _ _ h => h) hS (by rfl) (by intro w' hSw; have y0 := hSw; go_simp <;> with_reducible rfl) ?_
            simp only [Act.put, List.setIfInBounds_toArray, List.set_cons_zero, List.set_cons_succ]
            refine wpAnyL_two (i := 0) (j := 9) (by kernel_rfl) rfl rfl (fun Ka hKa => ?_) (fun Ka hKa => ?_)
            · go_simp
              generalize hqX1 : World.alloc _ _ = X1
              have bbX1 : Below Wd.heap.size Wd X1 := by rw [← hqX1]; exact gone_new _ _
              have hgX1 : X1.heap[Wd.heap.size]? = some (.cells #[] 3 (0, 0)) := by rw [← hqX1]; exact heap_alloc_new _ _
              have bwX1 : Below Wd.heap.size Wd X1 := bwWd.trans (bbX1.mono bwWd.size)
              have hSX1 : (fun w' : World => w'.cell? ⟨b, o + k, none⟩ = some (.int .i64 x)) X1 := (bwX1.cell (p := ⟨b, o + k, none⟩) (glt_cell y0)).trans y0
              refine hKa.out _ _ (fun _ => hSX1) ?_
              clear hKa Ka hqX1
              try simp only [Act.put, List.setIfInBounds_toArray, List.set_cons_zero, List.set_cons_succ]
              have hA : IO_ X1 Wd.heap.size (.slice (some ⟨Wd.heap.size, 0, none⟩) 0 0) [] := (GO.made hgX1).lower bwWd.size
              refine wpAnyL_two (i := 4) (j := 9) (by kernel_rfl) rfl rfl (fun Ka hKa => ?_) (fun Ka hKa => ?_)
              · refine stp_appG gT_int rfl (.tmp 45) (.tmp 48) rfl (R := []) (S := (M.take c)) rfl rfl hA (srcA X1 bwX1) (by have := HMl.out; simp; omega) bwX1.size ?_
                intro vhB4 X2 hB4 hfX2 hrX2
                obtain ⟨LA, eA⟩ : ∃ LA, [] ++ M.take c = LA := ⟨_, rfl⟩
                have HLA : Hid ([] ++ M.take c = LA) := eA
                rw [eA] at hB4
                clear eA
                have bwX2 : Below Wd.heap.size Wd X2 := bwX1.trans (hfX2.below bwX1.size (fun k hk => (GO.lt hA k hk).1))
                have hSX2 : (fun w' : World => w'.cell? ⟨b, o + k, none⟩ = some (.int .i64 x)) X2 := (bwX2.cell (p := ⟨b, o + k, none⟩) (glt_cell y0)).trans y0
                obtain ⟨aohB4, chB4, rfl, _, hghB4⟩ := GO.shape hB4
                refine hKa.out _ _ (fun _ => hSX2) ?_
                clear hKa Ka
                try simp only [Act.put, List.setIfInBounds_toArray, List.set_cons_zero, List.set_cons_succ]
                refine wpAnyL_one (i := 9) (by kernel_rfl) rfl (fun Ka hKa => ?_)
                go_simp
                generalize hqX3 : World.alloc _ _ = X3
                have bbX3 : Below X2.heap.size X2 X3 := by rw [← hqX3]; exact gone_new _ _
                have hv : X3.heap[X2.heap.size]? = some (.cells #[.int .i64 x] 3 (0, 0)) := by rw [← hqX3]; exact heap_alloc_new _ _
                have bwX3 : Below Wd.heap.size Wd X3 := bwX2.trans (bbX3.mono bwX2.size)
                have hSX3 : (fun w' : World => w'.cell? ⟨b, o + k, none⟩ = some (.int .i64 x)) X3 := (bwX3.cell (p := ⟨b, o + k, none⟩) (glt_cell y0)).trans y0
                refine hKa.out _ _ (fun _ => hSX3) ?_
                clear hKa Ka hqX3
                try simp only [Act.put, List.setIfInBounds_toArray, List.set_cons_zero, List.set_cons_succ]
                have hB4' := GO.new hB4 bbX3
                have hltb := fun k hk => (GO.lt hB4 k hk).2
                generalize X2.heap.size = vb at hv hltb ⊢
                have hLA : LA.length = c := by rw [← HLA.out]; have := HJ.out; simp; omega
                have hne7 : ¬ (Value.slice aohB4 LA.length chB4).ownBlock = some vb := fun e => by have := hltb vb e; omega
                refine wpAnyL_one (i := 10) (by kernel_rfl) rfl (fun Ka hKa => ?_)
                refine stp_appG gT_int rfl (.tmp 49) (.tmp 54) rfl (R := LA) (S := [x]) rfl rfl hB4' (GS.one hv rfl 1 (Nat.le_refl _)) (by have := HMl.out; have := HJ.out; simp; omega) bwX3.size ?_
                intro vhC7 Y7 hC7 hfY7 hrY7
                obtain ⟨LB, eB⟩ : ∃ LB, LA ++ [x] = LB := ⟨_, rfl⟩
                have HLB : Hid (LA ++ [x] = LB) := eB
                have hLB : LB.length = c + 1 := by rw [← eB]; simp; omega
                rw [eB] at hC7
                clear eB
                have bwY7 : Below Wd.heap.size Wd Y7 := bwX3.trans (hfY7.below bwX3.size (fun k hk => (GO.lt hB4' k hk).1))
                have hSY7 : (fun w' : World => w'.cell? ⟨b, o + k, none⟩ = some (.int .i64 x)) Y7 := (bwY7.cell (p := ⟨b, o + k, none⟩) (glt_cell y0)).trans y0
                obtain ⟨aohC7, chC7, rfl, _, hghC7⟩ := GO.shape hC7
                refine hKa.out _ _ (fun _ => hSY7) ?_
                clear hKa Ka
                try simp only [Act.put, List.setIfInBounds_toArray, List.set_cons_zero, List.set_cons_succ]
                refine wpAnyL_one (i := 14) (by kernel_rfl) rfl (fun Ka hKa => ?_)
                refine stp_appG gT_int rfl (.tmp 55) (.tmp 58) rfl (R := LB) (S := (M.drop c)) rfl rfl hC7 (srcB Y7 bwY7) (by have := HMl.out; have := HJ.out; simp; omega) bwY7.size ?_
                intro vhD11 Y11 hD11 hfY11 hrY11
                have eM : LB ++ M.drop c = M2 := by rw [HM2.out, ← HLB.out, ← HLA.out]; simp
                rw [eM] at hD11
                clear eM
                have bwY11 : Below Wd.heap.size Wd Y11 := bwY7.trans (hfY11.below bwY7.size (fun k hk => (GO.lt hC7 k hk).1))
                have hSY11 : (fun w' : World => w'.cell? ⟨b, o + k, none⟩ = some (.int .i64 x)) Y11 := (bwY11.cell (p := ⟨b, o + k, none⟩) (glt_cell y0)).trans y0
                obtain ⟨aohD11, chD11, rfl, _, hghD11⟩ := GO.shape hD11
                refine hKa.out _ _ (fun _ => hSY11) ?_
                clear hKa Ka
                try simp only [Act.put, List.setIfInBounds_toArray, List.set_cons_zero, List.set_cons_succ]
                refine wpAnyL_take (i := 15) 3 (v := .slice aohD11 M2.length chD11) rfl rfl (by kernel_rfl) (by kernel_rfl) (by kernel_rfl) (by kernel_rfl) (by kernel_rfl) (by kernel_rfl) (fun _ _ _ h => h) hSY11 (by rfl) (by intro w' hSw; go_simp <;> with_reducible rfl) ?_
                simp only [Act.put, List.setIfInBounds_toArray, List.set_cons_zero, List.set_cons_succ]
                refine wpAnyL_done (by kernel_rfl) ?_ _
                have HMn : Hid (IO_ Y11 w.heap.size (.slice aohD11 M2.length chD11) M2) := GO.lower hD11 HBd.out.size
                have HBn : Hid (Below w.heap.size w Y11) := HBd.out.trans (bwY11.mono HBd.out.size)
                obtain ⟨gn, hgn⟩ := hghD11 HM2l.out
                subst hgn
                clear hD11
                go_wp2
                go_roundw
                case rel => exact ⟨k + 1, gn, chD11, M2, HLt.out, by go_num, rfl, HM2r.out, HMn, HBn⟩
                case measure => have := HLt.out; simp [intOf]; omega
              · go_simp
                generalize hqX2 : World.alloc _ _ = X2
                have bbX2 : Below X1.heap.size X1 X2 := by rw [← hqX2]; exact gone_new _ _
                have hv : X2.heap[X1.heap.size]? = some (.cells #[.int .i64 x] 3 (0, 0)) := by rw [← hqX2]; exact heap_alloc_new _ _
                have bwX2 : Below Wd.heap.size Wd X2 := bwX1.trans (bbX2.mono bwX1.size)
                have hSX2 : (fun w' : World => w'.cell? ⟨b, o + k, none⟩ = some (.int .i64 x)) X2 := (bwX2.cell (p := ⟨b, o + k, none⟩) (glt_cell y0)).trans y0
                refine hKa.out _ _ (fun _ => hSX2) ?_
                clear hKa Ka hqX2
                try simp only [Act.put, List.setIfInBounds_toArray, List.set_cons_zero, List.set_cons_succ]
                have hA' := GO.new hA bbX2
                have hvlt : X1.heap.size < X2.heap.size := glt_blk hv
                have hglt : Wd.heap.size < X1.heap.size := glt_blk hgX1
                refine wpAnyL_one (i := 4) (by kernel_rfl) rfl (fun Ka hKa => ?_)
                refine stp_appG gT_int rfl (.tmp 45) (.tmp 48) rfl (R := []) (S := (M.take c)) rfl rfl hA' (srcA X2 bwX2) (by have := HMl.out; simp; omega) bwX2.size ?_
                intro vhB4 X3 hB4 hfX3 hrX3
                obtain ⟨LA, eA⟩ : ∃ LA, [] ++ M.take c = LA := ⟨_, rfl⟩
                have HLA : Hid ([] ++ M.take c = LA) := eA
                rw [eA] at hB4
                clear eA
                have bwX3 : Below Wd.heap.size Wd X3 := bwX2.trans (hfX3.below bwX2.size (fun k hk => (GO.lt hA' k hk).1))
                have hSX3 : (fun w' : World => w'.cell? ⟨b, o + k, none⟩ = some (.int .i64 x)) X3 := (bwX3.cell (p := ⟨b, o + k, none⟩) (glt_cell y0)).trans y0
                obtain ⟨aohB4, chB4, rfl, _, hghB4⟩ := GO.shape hB4
                refine hKa.out _ _ (fun _ => hSX3) ?_
                clear hKa Ka
                try simp only [Act.put, List.setIfInBounds_toArray, List.set_cons_zero, List.set_cons_succ]
                have hv := (hfX3.block _ hvlt (fun e => by have e4 : Wd.heap.size = X1.heap.size := Option.some.inj e; omega)).trans hv
                have hrow4 := hrX3
                generalize X1.heap.size = vb at hv hvlt hglt ⊢
                have hLA : LA.length = c := by rw [← HLA.out]; have := HJ.out; simp; omega
                have hne7 : ¬ (Value.slice aohB4 LA.length chB4).ownBlock = some vb := fun e => by rcases hrow4 with h | ⟨gg, h, h2⟩ <;> first | (have e4 : Wd.heap.size = vb := Option.some.inj (h.symm.trans e); omega) | (have e4 : gg = vb := Option.some.inj (h.symm.trans e); omega)
                refine wpAnyL_one (i := 10) (by kernel_rfl) rfl (fun Ka hKa => ?_)
                refine stp_appG gT_int rfl (.tmp 49) (.tmp 54) rfl (R := LA) (S := [x]) rfl rfl hB4 (GS.one hv rfl 1 (Nat.le_refl _)) (by have := HMl.out; have := HJ.out; simp; omega) bwX3.size ?_
                intro vhC7 Y7 hC7 hfY7 hrY7
                obtain ⟨LB, eB⟩ : ∃ LB, LA ++ [x] = LB := ⟨_, rfl⟩
                have HLB : Hid (LA ++ [x] = LB) := eB
                have hLB : LB.length = c + 1 := by rw [← eB]; simp; omega
                rw [eB] at hC7
                clear eB
                have bwY7 : Below Wd.heap.size Wd Y7 := bwX3.trans (hfY7.below bwX3.size (fun k hk => (GO.lt hB4 k hk).1))
                have hSY7 : (fun w' : World => w'.cell? ⟨b, o + k, none⟩ = some (.int .i64 x)) Y7 := (bwY7.cell (p := ⟨b, o + k, none⟩) (glt_cell y0)).trans y0
                obtain ⟨aohC7, chC7, rfl, _, hghC7⟩ := GO.shape hC7
                refine hKa.out _ _ (fun _ => hSY7) ?_
                clear hKa Ka
                try simp only [Act.put, List.setIfInBounds_toArray, List.set_cons_zero, List.set_cons_succ]
                refine wpAnyL_one (i := 14) (by kernel_rfl) rfl (fun Ka hKa => ?_)
                refine stp_appG gT_int rfl (.tmp 55) (.tmp 58) rfl (R := LB) (S := (M.drop c)) rfl rfl hC7 (srcB Y7 bwY7) (by have := HMl.out; have := HJ.out; simp; omega) bwY7.size ?_
                intro vhD11 Y11 hD11 hfY11 hrY11
                have eM : LB ++ M.drop c = M2 := by rw [HM2.out, ← HLB.out, ← HLA.out]; simp
                rw [eM] at hD11
                clear eM
                have bwY11 : Below Wd.heap.size Wd Y11 := bwY7.trans (hfY11.below bwY7.size (fun k hk => (GO.lt hC7 k hk).1))
                have hSY11 : (fun w' : World => w'.cell? ⟨b, o + k, none⟩ = some (.int .i64 x)) Y11 := (bwY11.cell (p := ⟨b, o + k, none⟩) (glt_cell y0)).trans y0
                obtain ⟨aohD11, chD11, rfl, _, hghD11⟩ := GO.shape hD11
                refine hKa.out _ _ (fun _ => hSY11) ?_
                clear hKa Ka
                try simp only [Act.put, List.setIfInBounds_toArray, List.set_cons_zero, List.set_cons_succ]
                refine wpAnyL_take (i := 15) 3 (v := .slice aohD11 M2.length chD11) rfl rfl (by kernel_rfl) (by kernel_rfl) (by kernel_rfl) (by kernel_rfl) (by kernel_rfl) (by kernel_rfl) (fun _ _ _ h => h) hSY11 (by rfl) (by intro w' hSw; go_simp <;> with_reducible rfl) ?_
                simp only [Act.put, List.setIfInBounds_toArray, List.set_cons_zero, List.set_cons_succ]
                refine wpAnyL_done (by kernel_rfl) ?_ _
                have HMn : Hid (IO_ Y11 w.heap.size (.slice aohD11 M2.length chD11) M2) := GO.lower hD11 HBd.out.size
                have HBn : Hid (Below w.heap.size w Y11) := HBd.out.trans (bwY11.mono HBd.out.size)
                obtain ⟨gn, hgn⟩ := hghD11 HM2l.out
                subst hgn
                clear hD11
                go_wp2
                go_roundw
                case rel => exact ⟨k + 1, gn, chD11, M2, HLt.out, by go_num, rfl, HM2r.out, HMn, HBn⟩
                case measure => have := HLt.out; simp [intOf]; omega
            · go_simp
              generalize hqX1 : World.alloc _ _ = X1
              have bbX1 : Below Wd.heap.size Wd X1 := by rw [← hqX1]; exact gone_new _ _
              have hv : X1.heap[Wd.heap.size]? = some (.cells #[.int .i64 x] 3 (0, 0)) := by rw [← hqX1]; exact heap_alloc_new _ _
              have bwX1 : Below Wd.heap.size Wd X1 := bwWd.trans (bbX1.mono bwWd.size)
              have hSX1 : (fun w' : World => w'.cell? ⟨b, o + k, none⟩ = some (.int .i64 x)) X1 := (bwX1.cell (p := ⟨b, o + k, none⟩) (glt_cell y0)).trans y0
              refine hKa.out _ _ (fun _ => hSX1) ?_
              clear hKa Ka hqX1
              try simp only [Act.put, List.setIfInBounds_toArray, List.set_cons_zero, List.set_cons_succ]
              have hvlt : Wd.heap.size < X1.heap.size := glt_blk hv
              refine wpAnyL_one (i := 0) (by kernel_rfl) rfl (fun Ka hKa => ?_)
              go_simp
              generalize hqX2 : World.alloc _ _ = X2
              have bbX2 : Below X1.heap.size X1 X2 := by rw [← hqX2]; exact gone_new _ _
              have hgX2 : X2.heap[X1.heap.size]? = some (.cells #[] 3 (0, 0)) := by rw [← hqX2]; exact heap_alloc_new _ _
              have bwX2 : Below Wd.heap.size Wd X2 := bwX1.trans (bbX2.mono bwX1.size)
              have hSX2 : (fun w' : World => w'.cell? ⟨b, o + k, none⟩ = some (.int .i64 x)) X2 := (bwX2.cell (p := ⟨b, o + k, none⟩) (glt_cell y0)).trans y0
              refine hKa.out _ _ (fun _ => hSX2) ?_
              clear hKa Ka hqX2
              try simp only [Act.put, List.setIfInBounds_toArray, List.set_cons_zero, List.set_cons_succ]
              have hA : IO_ X2 Wd.heap.size (.slice (some ⟨X1.heap.size, 0, none⟩) 0 0) [] := (GO.made hgX2).lower bwX1.size
              have hv := (bbX2.block _ hvlt).trans hv
              have hvlt2 : X1.heap.size < X2.heap.size := glt_blk hgX2
              refine wpAnyL_one (i := 4) (by kernel_rfl) rfl (fun Ka hKa => ?_)
              refine stp_appG gT_int rfl (.tmp 45) (.tmp 48) rfl (R := []) (S := (M.take c)) rfl rfl hA (srcA X2 bwX2) (by have := HMl.out; simp; omega) bwX2.size ?_
              intro vhB4 X3 hB4 hfX3 hrX3
              obtain ⟨LA, eA⟩ : ∃ LA, [] ++ M.take c = LA := ⟨_, rfl⟩
              have HLA : Hid ([] ++ M.take c = LA) := eA
              rw [eA] at hB4
              clear eA
              have bwX3 : Below Wd.heap.size Wd X3 := bwX2.trans (hfX3.below bwX2.size (fun k hk => (GO.lt hA k hk).1))
              have hSX3 : (fun w' : World => w'.cell? ⟨b, o + k, none⟩ = some (.int .i64 x)) X3 := (bwX3.cell (p := ⟨b, o + k, none⟩) (glt_cell y0)).trans y0
              obtain ⟨aohB4, chB4, rfl, _, hghB4⟩ := GO.shape hB4
              refine hKa.out _ _ (fun _ => hSX3) ?_
              clear hKa Ka
              try simp only [Act.put, List.setIfInBounds_toArray, List.set_cons_zero, List.set_cons_succ]
              have hv := (hfX3.block _ (by omega) (fun e => by have e4 : X1.heap.size = Wd.heap.size := Option.some.inj e; omega)).trans hv
              have hrow4 := hrX3
              obtain ⟨vb, hvb⟩ : ∃ vb, Wd.heap.size = vb := ⟨_, rfl⟩
              have hv : X3.heap[vb]? = some (.cells #[.int .i64 x] 3 (0, 0)) := by rw [← hvb]; exact hv
              rw [hvb] at hvlt ⊢
              have hLA : LA.length = c := by rw [← HLA.out]; have := HJ.out; simp; omega
              have hne7 : ¬ (Value.slice aohB4 LA.length chB4).ownBlock = some vb := fun e => by rcases hrow4 with h | ⟨gg, h, h2⟩ <;> first | (have e4 : X1.heap.size = vb := Option.some.inj (h.symm.trans e); omega) | (have e4 : gg = vb := Option.some.inj (h.symm.trans e); omega)
              refine wpAnyL_one (i := 10) (by kernel_rfl) rfl (fun Ka hKa => ?_)
              refine stp_appG gT_int rfl (.tmp 49) (.tmp 54) rfl (R := LA) (S := [x]) rfl rfl hB4 (GS.one hv rfl 1 (Nat.le_refl _)) (by have := HMl.out; have := HJ.out; simp; omega) bwX3.size ?_
              intro vhC7 Y7 hC7 hfY7 hrY7
              obtain ⟨LB, eB⟩ : ∃ LB, LA ++ [x] = LB := ⟨_, rfl⟩
              have HLB : Hid (LA ++ [x] = LB) := eB
              have hLB : LB.length = c + 1 := by rw [← eB]; simp; omega
              rw [eB] at hC7
              clear eB
              have bwY7 : Below Wd.heap.size Wd Y7 := bwX3.trans (hfY7.below bwX3.size (fun k hk => (GO.lt hB4 k hk).1))
              have hSY7 : (fun w' : World => w'.cell? ⟨b, o + k, none⟩ = some (.int .i64 x)) Y7 := (bwY7.cell (p := ⟨b, o + k, none⟩) (glt_cell y0)).trans y0
              obtain ⟨aohC7, chC7, rfl, _, hghC7⟩ := GO.shape hC7
              refine hKa.out _ _ (fun _ => hSY7) ?_
              clear hKa Ka
              try simp only [Act.put, List.setIfInBounds_toArray, List.set_cons_zero, List.set_cons_succ]
              refine wpAnyL_one (i := 14) (by kernel_rfl) rfl (fun Ka hKa => ?_)
              refine stp_appG gT_int rfl (.tmp 55) (.tmp 58) rfl (R := LB) (S := (M.drop c)) rfl rfl hC7 (srcB Y7 bwY7) (by have := HMl.out; have := HJ.out; simp; omega) bwY7.size ?_
              intro vhD11 Y11 hD11 hfY11 hrY11
              have eM : LB ++ M.drop c = M2 := by rw [HM2.out, ← HLB.out, ← HLA.out]; simp
              rw [eM] at hD11
              clear eM
              have bwY11 : Below Wd.heap.size Wd Y11 := bwY7.trans (hfY11.below bwY7.size (fun k hk => (GO.lt hC7 k hk).1))
              have hSY11 : (fun w' : World => w'.cell? ⟨b, o + k, none⟩ = some (.int .i64 x)) Y11 := (bwY11.cell (p := ⟨b, o + k, none⟩) (glt_cell y0)).trans y0
              obtain ⟨aohD11, chD11, rfl, _, hghD11⟩ := GO.shape hD11
              refine hKa.out _ _ (fun _ => hSY11) ?_
              clear hKa Ka
              try simp only [Act.put, List.setIfInBounds_toArray, List.set_cons_zero, List.set_cons_succ]
              refine wpAnyL_take (i := 15) 3 (v := .slice aohD11 M2.length chD11) rfl rfl (by kernel_rfl) (by kernel_rfl) (by kernel_rfl) (by kernel_rfl) (by kernel_rfl) (by kernel_rfl) (fun _ _ _ h => h) hSY11 (by rfl) (by intro w' hSw; go_simp <;> with_reducible rfl) ?_
              simp only [Act.put, List.setIfInBounds_toArray, List.set_cons_zero, List.set_cons_succ]
              refine wpAnyL_done (by kernel_rfl) ?_ _
              have HMn : Hid (IO_ Y11 w.heap.size (.slice aohD11 M2.length chD11) M2) := GO.lower hD11 HBd.out.size
              have HBn : Hid (Below w.heap.size w Y11) := HBd.out.trans (bwY11.mono HBd.out.size)
              obtain ⟨gn, hgn⟩ := hghD11 HM2l.out
              subst hgn
              clear hD11
              go_wp2
              go_roundw
              case rel => exact ⟨k + 1, gn, chD11, M2, HLt.out, by go_num, rfl, HM2r.out, HMn, HBn⟩
              case measure => have := HLt.out; simp [intOf]; omega
          · go_wp2
            go_quiet (fail)
            go_wp2
            go_quiet (fail)
            go_wp2
            generalize hWq : World.drewN _ _ = Wq
            obtain ⟨Wd, hWd⟩ : ∃ Wd, World.drew Wq = Wd := ⟨_, rfl⟩
            have HBd : Hid (Below w.heap.size w Wd) := by show Below _ _ _; rw [← hWd, ← hWq, World.drewN_drewN, World.drew_drewN]; exact HBw.out _
            have HMd : Hid (IO_ Wd w.heap.size (.slice (some ⟨g, 0, none⟩) M.length c) M) := by show IO_ _ _ _ _; rw [← hWd, ← hWq, World.drewN_drewN, World.drew_drewN]; exact HMw.out _
            have y0 : Wd.cell? ⟨b, o + k, none⟩ = some (.int .i64 x) := by rw [← hWd, ← hWq]; exact y00
            have srcA : ∀ P, Below Wd.heap.size Wd P → IS P (.slice (some ⟨g, 0, none⟩) jj c) (M.take jj) := fun P hP => io_front (GO.new HMd.out hP) HJ.out
            have srcB : ∀ P, Below Wd.heap.size Wd P → IS P (.slice (some ⟨g, jj, none⟩) (M.length - jj) (c - jj)) (M.drop jj) := fun P hP => io_back (GO.new HMd.out hP) HJ.out
            have hjc : jj ≤ c := by omega
            clear y00 hge hj hWq
            refine wp_calmP ?_
            refine wp_region_L [] (fun w' : World => w'.cell? ⟨b, o + k, none⟩ = some (.int .i64 x)) (by kernel_rfl) ?_
            rw [hWd]
            clear hWd
            have hS : (fun w' : World => w'.cell? ⟨b, o + k, none⟩ = some (.int .i64 x)) Wd := y0
            have bwWd : Below Wd.heap.size Wd Wd := Below.refl _ _
            refine wpAnyL_take (i := 1) 46 (v := .slice (some ⟨g, 0, none⟩) M.length c) rfl rfl (by kernel_rfl) (by kernel_rfl) (by kernel_rfl) (by kernel_rfl) (by kernel_rfl) (by kernel_rfl) (fun _ _ _ h => h) hS (by rfl) (by intro w' hSw; have y0 := hSw; go_simp <;> with_reducible rfl) ?_
            simp only [Act.put, List.setIfInBounds_toArray, List.set_cons_zero, List.set_cons_succ]
            refine wpAnyL_take (i := 2) 47 (v := .int .i64 jj) rfl rfl (by kernel_rfl) (by kernel_rfl) (by kernel_rfl) (by kernel_rfl) (by kernel_rfl) (by kernel_rfl) (fun _ _ _ h => h) hS (by rfl) (by intro w' hSw; have y0 := hSw; go_simp <;> with_reducible rfl) ?_
            simp only [Act.put, List.setIfInBounds_toArray, List.set_cons_zero, List.set_cons_succ]
            refine wpAnyL_take (i := 3) 48 (v := .slice (some ⟨g, 0, none⟩) jj c) rfl rfl (by kernel_rfl) (by kernel_rfl) (by kernel_rfl) (by kernel_rfl) (by kernel_rfl) (by kernel_rfl) (fun _ _ _ h => h) hS (by rfl) (by intro w' hSw; have y0 := hSw; go_simp <;> with_reducible rfl) ?_
            simp only [Act.put, List.setIfInBounds_toArray, List.set_cons_zero, List.set_cons_succ]
            refine wpAnyL_take (i := 5) 50 (v := .slice (some ⟨b, o, none⟩) n lc) rfl rfl (by kernel_rfl) (by kernel_rfl) (by kernel_rfl) (by kernel_rfl) (by kernel_rfl) (by kernel_rfl) (fun _ _ _ h => h) hS (by rfl) (by intro w' hSw; have y0 := hSw; go_simp <;> with_reducible rfl) ?_
            simp only [Act.put, List.setIfInBounds_toArray, List.set_cons_zero, List.set_cons_succ]
            refine wpAnyL_take (i := 6) 51 (v := .int .i64 k) rfl rfl (by kernel_rfl) (by kernel_rfl) (by kernel_rfl) (by kernel_rfl) (by kernel_rfl) (by kernel_rfl) (fun _ _ _ h => h) hS (by rfl) (by intro w' hSw; have y0 := hSw; go_simp <;> with_reducible rfl) ?_
            simp only [Act.put, List.setIfInBounds_toArray, List.set_cons_zero, List.set_cons_succ]
            refine wpAnyL_take (i := 7) 52 (v := .pointer (some ⟨b, o + k, none⟩)) rfl rfl (by kernel_rfl) (by kernel_rfl) (by kernel_rfl) (by kernel_rfl) (by kernel_rfl) (by kernel_rfl) (fun _ _ _ h => h) hS (by rfl) (by intro w' hSw; have y0 := hSw; go_simp <;> with_reducible rfl) ?_
            simp only [Act.put, List.setIfInBounds_toArray, List.set_cons_zero, List.set_cons_succ]
            refine wpAnyL_take (i := 8) 53 (v := .int .i64 x) rfl rfl (by kernel_rfl) (by kernel_rfl) (by kernel_rfl) (by kernel_rfl) (by kernel_rfl) (by kernel_rfl) (fun _ _ _ h => h) hS (by rfl) (by intro w' hSw; have y0 := hSw; go_simp <;> with_reducible rfl) ?_
            simp only [Act.put, List.setIfInBounds_toArray, List.set_cons_zero, List.set_cons_succ]
            refine wpAnyL_take (i := 11) 56 (v := .slice (some ⟨g, 0, none⟩) M.length c) rfl rfl (by kernel_rfl) (by kernel_rfl) (by kernel_rfl) (by kernel_rfl) (by kernel_rfl) (by kernel_rfl) (fun _ _ _ h => h) hS (by rfl) (by intro w' hSw; have y0 := hSw; go_simp <;> with_reducible rfl) ?_
            simp only [Act.put, List.setIfInBounds_toArray, List.set_cons_zero, List.set_cons_succ]
            refine wpAnyL_take (i := 12) 57 (v := .int .i64 jj) rfl rfl (by kernel_rfl) (by kernel_rfl) (by kernel_rfl) (by kernel_rfl) (by kernel_rfl) (by kernel_rfl) (fun _ _ _ h => h) hS (by rfl) (by intro w' hSw; have y0 := hSw; go_simp <;> with_reducible rfl) ?_
            simp only [Act.put, List.setIfInBounds_toArray, List.set_cons_zero, List.set_cons_succ]
            refine wpAnyL_take (i := 13) 58 (v := .slice (some ⟨g, jj, none⟩) (M.length - jj) (c - jj)) rfl rfl (by kernel_rfl) (by kernel_rfl) (by kernel_rfl) (by kernel_rfl) (by kernel_rfl) (by kernel_rfl) (fun _ _ _ h => h) hS (by rfl) (by intro w' hSw; have y0 := hSw; go_simp <;> with_reducible rfl) ?_
            simp only [Act.put, List.setIfInBounds_toArray, List.set_cons_zero, List.set_cons_succ]
            refine wpAnyL_two (i := 0) (j := 9) (by kernel_rfl) rfl rfl (fun Ka hKa => ?_) (fun Ka hKa => ?_)
            · go_simp
              generalize hqX1 : World.alloc _ _ = X1
              have bbX1 : Below Wd.heap.size Wd X1 := by rw [← hqX1]; exact gone_new _ _
              have hgX1 : X1.heap[Wd.heap.size]? = some (.cells #[] 3 (0, 0)) := by rw [← hqX1]; exact heap_alloc_new _ _
              have bwX1 : Below Wd.heap.size Wd X1 := bwWd.trans (bbX1.mono bwWd.size)
              have hSX1 : (fun w' : World => w'.cell? ⟨b, o + k, none⟩ = some (.int .i64 x)) X1 := (bwX1.cell (p := ⟨b, o + k, none⟩) (glt_cell y0)).trans y0
              refine hKa.out _ _ (fun _ => hSX1) ?_
              clear hKa Ka hqX1
              try simp only [Act.put, List.setIfInBounds_toArray, List.set_cons_zero, List.set_cons_succ]
              have hA : IO_ X1 Wd.heap.size (.slice (some ⟨Wd.heap.size, 0, none⟩) 0 0) [] := (GO.made hgX1).lower bwWd.size
              refine wpAnyL_two (i := 4) (j := 9) (by kernel_rfl) rfl rfl (fun Ka hKa => ?_) (fun Ka hKa => ?_)
              · refine stp_appG gT_int rfl (.tmp 45) (.tmp 48) rfl (R := []) (S := (M.take jj)) rfl rfl hA (srcA X1 bwX1) (by have := HMl.out; simp; omega) bwX1.size ?_
                intro vhB4 X2 hB4 hfX2 hrX2
                obtain ⟨LA, eA⟩ : ∃ LA, [] ++ M.take jj = LA := ⟨_, rfl⟩
                have HLA : Hid ([] ++ M.take jj = LA) := eA
                rw [eA] at hB4
                clear eA
                have bwX2 : Below Wd.heap.size Wd X2 := bwX1.trans (hfX2.below bwX1.size (fun k hk => (GO.lt hA k hk).1))
                have hSX2 : (fun w' : World => w'.cell? ⟨b, o + k, none⟩ = some (.int .i64 x)) X2 := (bwX2.cell (p := ⟨b, o + k, none⟩) (glt_cell y0)).trans y0
                obtain ⟨aohB4, chB4, rfl, _, hghB4⟩ := GO.shape hB4
                refine hKa.out _ _ (fun _ => hSX2) ?_
                clear hKa Ka
                try simp only [Act.put, List.setIfInBounds_toArray, List.set_cons_zero, List.set_cons_succ]
                refine wpAnyL_one (i := 9) (by kernel_rfl) rfl (fun Ka hKa => ?_)
                go_simp
                generalize hqX3 : World.alloc _ _ = X3
                have bbX3 : Below X2.heap.size X2 X3 := by rw [← hqX3]; exact gone_new _ _
                have hv : X3.heap[X2.heap.size]? = some (.cells #[.int .i64 x] 3 (0, 0)) := by rw [← hqX3]; exact heap_alloc_new _ _
                have bwX3 : Below Wd.heap.size Wd X3 := bwX2.trans (bbX3.mono bwX2.size)
                have hSX3 : (fun w' : World => w'.cell? ⟨b, o + k, none⟩ = some (.int .i64 x)) X3 := (bwX3.cell (p := ⟨b, o + k, none⟩) (glt_cell y0)).trans y0
                refine hKa.out _ _ (fun _ => hSX3) ?_
                clear hKa Ka hqX3
                try simp only [Act.put, List.setIfInBounds_toArray, List.set_cons_zero, List.set_cons_succ]
                have hB4' := GO.new hB4 bbX3
                have hltb := fun k hk => (GO.lt hB4 k hk).2
                generalize X2.heap.size = vb at hv hltb ⊢
                have hLA : LA.length = jj := by rw [← HLA.out]; have := HJ.out; simp; omega
                have hne7 : ¬ (Value.slice aohB4 LA.length chB4).ownBlock = some vb := fun e => by have := hltb vb e; omega
                refine wpAnyL_one (i := 10) (by kernel_rfl) rfl (fun Ka hKa => ?_)
                refine stp_appG gT_int rfl (.tmp 49) (.tmp 54) rfl (R := LA) (S := [x]) rfl rfl hB4' (GS.one hv rfl 1 (Nat.le_refl _)) (by have := HMl.out; have := HJ.out; simp; omega) bwX3.size ?_
                intro vhC7 Y7 hC7 hfY7 hrY7
                obtain ⟨LB, eB⟩ : ∃ LB, LA ++ [x] = LB := ⟨_, rfl⟩
                have HLB : Hid (LA ++ [x] = LB) := eB
                have hLB : LB.length = jj + 1 := by rw [← eB]; simp; omega
                rw [eB] at hC7
                clear eB
                have bwY7 : Below Wd.heap.size Wd Y7 := bwX3.trans (hfY7.below bwX3.size (fun k hk => (GO.lt hB4' k hk).1))
                have hSY7 : (fun w' : World => w'.cell? ⟨b, o + k, none⟩ = some (.int .i64 x)) Y7 := (bwY7.cell (p := ⟨b, o + k, none⟩) (glt_cell y0)).trans y0
                obtain ⟨aohC7, chC7, rfl, _, hghC7⟩ := GO.shape hC7
                refine hKa.out _ _ (fun _ => hSY7) ?_
                clear hKa Ka
                try simp only [Act.put, List.setIfInBounds_toArray, List.set_cons_zero, List.set_cons_succ]
                refine wpAnyL_one (i := 14) (by kernel_rfl) rfl (fun Ka hKa => ?_)
                refine stp_appG gT_int rfl (.tmp 55) (.tmp 58) rfl (R := LB) (S := (M.drop jj)) rfl rfl hC7 (srcB Y7 bwY7) (by have := HMl.out; have := HJ.out; simp; omega) bwY7.size ?_
                intro vhD11 Y11 hD11 hfY11 hrY11
                have eM : LB ++ M.drop jj = M2 := by rw [HM2.out, ← HLB.out, ← HLA.out]; simp
                rw [eM] at hD11
                clear eM
                have bwY11 : Below Wd.heap.size Wd Y11 := bwY7.trans (hfY11.below bwY7.size (fun k hk => (GO.lt hC7 k hk).1))
                have hSY11 : (fun w' : World => w'.cell? ⟨b, o + k, none⟩ = some (.int .i64 x)) Y11 := (bwY11.cell (p := ⟨b, o + k, none⟩) (glt_cell y0)).trans y0
                obtain ⟨aohD11, chD11, rfl, _, hghD11⟩ := GO.shape hD11
                refine hKa.out _ _ (fun _ => hSY11) ?_
                clear hKa Ka
                try simp only [Act.put, List.setIfInBounds_toArray, List.set_cons_zero, List.set_cons_succ]
                refine wpAnyL_take (i := 15) 3 (v := .slice aohD11 M2.length chD11) rfl rfl (by kernel_rfl) (by kernel_rfl) (by kernel_rfl) (by kernel_rfl) (by kernel_rfl) (by kernel_rfl) (fun _ _ _ h => h) hSY11 (by rfl) (by intro w' hSw; go_simp <;> with_reducible rfl) ?_
                simp only [Act.put, List.setIfInBounds_toArray, List.set_cons_zero, List.set_cons_succ]
                refine wpAnyL_done (by kernel_rfl) ?_ _
                have HMn : Hid (IO_ Y11 w.heap.size (.slice aohD11 M2.length chD11) M2) := GO.lower hD11 HBd.out.size
                have HBn : Hid (Below w.heap.size w Y11) := HBd.out.trans (bwY11.mono HBd.out.size)
                obtain ⟨gn, hgn⟩ := hghD11 HM2l.out
                subst hgn
                clear hD11
                go_wp2
                go_roundw
                case rel => exact ⟨k + 1, gn, chD11, M2, HLt.out, by go_num, rfl, HM2r.out, HMn, HBn⟩
                case measure => have := HLt.out; simp [intOf]; omega
              · go_simp
                generalize hqX2 : World.alloc _ _ = X2
                have bbX2 : Below X1.heap.size X1 X2 := by rw [← hqX2]; exact gone_new _ _
                have hv : X2.heap[X1.heap.size]? = some (.cells #[.int .i64 x] 3 (0, 0)) := by rw [← hqX2]; exact heap_alloc_new _ _
                have bwX2 : Below Wd.heap.size Wd X2 := bwX1.trans (bbX2.mono bwX1.size)
                have hSX2 : (fun w' : World => w'.cell? ⟨b, o + k, none⟩ = some (.int .i64 x)) X2 := (bwX2.cell (p := ⟨b, o + k, none⟩) (glt_cell y0)).trans y0
                refine hKa.out _ _ (fun _ => hSX2) ?_
                clear hKa Ka hqX2
                try simp only [Act.put, List.setIfInBounds_toArray, List.set_cons_zero, List.set_cons_succ]
                have hA' := GO.new hA bbX2
                have hvlt : X1.heap.size < X2.heap.size := glt_blk hv
                have hglt : Wd.heap.size < X1.heap.size := glt_blk hgX1
                refine wpAnyL_one (i := 4) (by kernel_rfl) rfl (fun Ka hKa => ?_)
                refine stp_appG gT_int rfl (.tmp 45) (.tmp 48) rfl (R := []) (S := (M.take jj)) rfl rfl hA' (srcA X2 bwX2) (by have := HMl.out; simp; omega) bwX2.size ?_
                intro vhB4 X3 hB4 hfX3 hrX3
                obtain ⟨LA, eA⟩ : ∃ LA, [] ++ M.take jj = LA := ⟨_, rfl⟩
                have HLA : Hid ([] ++ M.take jj = LA) := eA
                rw [eA] at hB4
                clear eA
                have bwX3 : Below Wd.heap.size Wd X3 := bwX2.trans (hfX3.below bwX2.size (fun k hk => (GO.lt hA' k hk).1))
                have hSX3 : (fun w' : World => w'.cell? ⟨b, o + k, none⟩ = some (.int .i64 x)) X3 := (bwX3.cell (p := ⟨b, o + k, none⟩) (glt_cell y0)).trans y0
                obtain ⟨aohB4, chB4, rfl, _, hghB4⟩ := GO.shape hB4
                refine hKa.out _ _ (fun _ => hSX3) ?_
                clear hKa Ka
                try simp only [Act.put, List.setIfInBounds_toArray, List.set_cons_zero, List.set_cons_succ]
                have hv := (hfX3.block _ hvlt (fun e => by have e4 : Wd.heap.size = X1.heap.size := Option.some.inj e; omega)).trans hv
                have hrow4 := hrX3
                generalize X1.heap.size = vb at hv hvlt hglt ⊢
                have hLA : LA.length = jj := by rw [← HLA.out]; have := HJ.out; simp; omega
                have hne7 : ¬ (Value.slice aohB4 LA.length chB4).ownBlock = some vb := fun e => by rcases hrow4 with h | ⟨gg, h, h2⟩ <;> first | (have e4 : Wd.heap.size = vb := Option.some.inj (h.symm.trans e); omega) | (have e4 : gg = vb := Option.some.inj (h.symm.trans e); omega)
                refine wpAnyL_one (i := 10) (by kernel_rfl) rfl (fun Ka hKa => ?_)
                refine stp_appG gT_int rfl (.tmp 49) (.tmp 54) rfl (R := LA) (S := [x]) rfl rfl hB4 (GS.one hv rfl 1 (Nat.le_refl _)) (by have := HMl.out; have := HJ.out; simp; omega) bwX3.size ?_
                intro vhC7 Y7 hC7 hfY7 hrY7
                obtain ⟨LB, eB⟩ : ∃ LB, LA ++ [x] = LB := ⟨_, rfl⟩
                have HLB : Hid (LA ++ [x] = LB) := eB
                have hLB : LB.length = jj + 1 := by rw [← eB]; simp; omega
                rw [eB] at hC7
                clear eB
                have bwY7 : Below Wd.heap.size Wd Y7 := bwX3.trans (hfY7.below bwX3.size (fun k hk => (GO.lt hB4 k hk).1))
                have hSY7 : (fun w' : World => w'.cell? ⟨b, o + k, none⟩ = some (.int .i64 x)) Y7 := (bwY7.cell (p := ⟨b, o + k, none⟩) (glt_cell y0)).trans y0
                obtain ⟨aohC7, chC7, rfl, _, hghC7⟩ := GO.shape hC7
                refine hKa.out _ _ (fun _ => hSY7) ?_
                clear hKa Ka
                try simp only [Act.put, List.setIfInBounds_toArray, List.set_cons_zero, List.set_cons_succ]
                refine wpAnyL_one (i := 14) (by kernel_rfl) rfl (fun Ka hKa => ?_)
                refine stp_appG gT_int rfl (.tmp 55) (.tmp 58) rfl (R := LB) (S := (M.drop jj)) rfl rfl hC7 (srcB Y7 bwY7) (by have := HMl.out; have := HJ.out; simp; omega) bwY7.size ?_
                intro vhD11 Y11 hD11 hfY11 hrY11
                have eM : LB ++ M.drop jj = M2 := by rw [HM2.out, ← HLB.out, ← HLA.out]; simp
                rw [eM] at hD11
                clear eM
                have bwY11 : Below Wd.heap.size Wd Y11 := bwY7.trans (hfY11.below bwY7.size (fun k hk => (GO.lt hC7 k hk).1))
                have hSY11 : (fun w' : World => w'.cell? ⟨b, o + k, none⟩ = some (.int .i64 x)) Y11 := (bwY11.cell (p := ⟨b, o + k, none⟩) (glt_cell y0)).trans y0
                obtain ⟨aohD11, chD11, rfl, _, hghD11⟩ := GO.shape hD11
                refine hKa.out _ _ (fun _ => hSY11) ?_
                clear hKa Ka
                try simp only [Act.put, List.setIfInBounds_toArray, List.set_cons_zero, List.set_cons_succ]
                refine wpAnyL_take (i := 15) 3 (v := .slice aohD11 M2.length chD11) rfl rfl (by kernel_rfl) (by kernel_rfl) (by kernel_rfl) (by kernel_rfl) (by kernel_rfl) (by kernel_rfl) (fun _ _ _ h => h) hSY11 (by rfl) (by intro w' hSw; go_simp <;> with_reducible rfl) ?_
                simp only [Act.put, List.setIfInBounds_toArray, List.set_cons_zero, List.set_cons_succ]
                refine wpAnyL_done (by kernel_rfl) ?_ _
                have HMn : Hid (IO_ Y11 w.heap.size (.slice aohD11 M2.length chD11) M2) := GO.lower hD11 HBd.out.size
                have HBn : Hid (Below w.heap.size w Y11) := HBd.out.trans (bwY11.mono HBd.out.size)
                obtain ⟨gn, hgn⟩ := hghD11 HM2l.out
                subst hgn
                clear hD11
                go_wp2
                go_roundw
                case rel => exact ⟨k + 1, gn, chD11, M2, HLt.out, by go_num, rfl, HM2r.out, HMn, HBn⟩
                case measure => have := HLt.out; simp [intOf]; omega
            · go_simp
              generalize hqX1 : World.alloc _ _ = X1
              have bbX1 : Below Wd.heap.size Wd X1 := by rw [← hqX1]; exact gone_new _ _
              have hv : X1.heap[Wd.heap.size]? = some (.cells #[.int .i64 x] 3 (0, 0)) := by rw [← hqX1]; exact heap_alloc_new _ _
              have bwX1 : Below Wd.heap.size Wd X1 := bwWd.trans (bbX1.mono bwWd.size)
              have hSX1 : (fun w' : World => w'.cell? ⟨b, o + k, none⟩ = some (.int .i64 x)) X1 := (bwX1.cell (p := ⟨b, o + k, none⟩) (glt_cell y0)).trans y0
              refine hKa.out _ _ (fun _ => hSX1) ?_
              clear hKa Ka hqX1
              try simp only [Act.put, List.setIfInBounds_toArray, List.set_cons_zero, List.set_cons_succ]
              have hvlt : Wd.heap.size < X1.heap.size := glt_blk hv
              refine wpAnyL_one (i := 0) (by kernel_rfl) rfl (fun Ka hKa => ?_)
              go_simp
              generalize hqX2 : World.alloc _ _ = X2
              have bbX2 : Below X1.heap.size X1 X2 := by rw [← hqX2]; exact gone_new _ _
              have hgX2 : X2.heap[X1.heap.size]? = some (.cells #[] 3 (0, 0)) := by rw [← hqX2]; exact heap_alloc_new _ _
              have bwX2 : Below Wd.heap.size Wd X2 := bwX1.trans (bbX2.mono bwX1.size)
              have hSX2 : (fun w' : World => w'.cell? ⟨b, o + k, none⟩ = some (.int .i64 x)) X2 := (bwX2.cell (p := ⟨b, o + k, none⟩) (glt_cell y0)).trans y0
              refine hKa.out _ _ (fun _ => hSX2) ?_
              clear hKa Ka hqX2
              try simp only [Act.put, List.setIfInBounds_toArray, List.set_cons_zero, List.set_cons_succ]
              have hA : IO_ X2 Wd.heap.size (.slice (some ⟨X1.heap.size, 0, none⟩) 0 0) [] := (GO.made hgX2).lower bwX1.size
              have hv := (bbX2.block _ hvlt).trans hv
              have hvlt2 : X1.heap.size < X2.heap.size := glt_blk hgX2
              refine wpAnyL_one (i := 4) (by kernel_rfl) rfl (fun Ka hKa => ?_)
              refine stp_appG gT_int rfl (.tmp 45) (.tmp 48) rfl (R := []) (S := (M.take jj)) rfl rfl hA (srcA X2 bwX2) (by have := HMl.out; simp; omega) bwX2.size ?_
              intro vhB4 X3 hB4 hfX3 hrX3
              obtain ⟨LA, eA⟩ : ∃ LA, [] ++ M.take jj = LA := ⟨_, rfl⟩
              have HLA : Hid ([] ++ M.take jj = LA) := eA
              rw [eA] at hB4
              clear eA
              have bwX3 : Below Wd.heap.size Wd X3 := bwX2.trans (hfX3.below bwX2.size (fun k hk => (GO.lt hA k hk).1))
              have hSX3 : (fun w' : World => w'.cell? ⟨b, o + k, none⟩ = some (.int .i64 x)) X3 := (bwX3.cell (p := ⟨b, o + k, none⟩) (glt_cell y0)).trans y0
              obtain ⟨aohB4, chB4, rfl, _, hghB4⟩ := GO.shape hB4
              refine hKa.out _ _ (fun _ => hSX3) ?_
              clear hKa Ka
              try simp only [Act.put, List.setIfInBounds_toArray, List.set_cons_zero, List.set_cons_succ]
              have hv := (hfX3.block _ (by omega) (fun e => by have e4 : X1.heap.size = Wd.heap.size := Option.some.inj e; omega)).trans hv
              have hrow4 := hrX3
              obtain ⟨vb, hvb⟩ : ∃ vb, Wd.heap.size = vb := ⟨_, rfl⟩
              have hv : X3.heap[vb]? = some (.cells #[.int .i64 x] 3 (0, 0)) := by rw [← hvb]; exact hv
              rw [hvb] at hvlt ⊢
              have hLA : LA.length = jj := by rw [← HLA.out]; have := HJ.out; simp; omega
              have hne7 : ¬ (Value.slice aohB4 LA.length chB4).ownBlock = some vb := fun e => by rcases hrow4 with h | ⟨gg, h, h2⟩ <;> first | (have e4 : X1.heap.size = vb := Option.some.inj (h.symm.trans e); omega) | (have e4 : gg = vb := Option.some.inj (h.symm.trans e); omega)
              refine wpAnyL_one (i := 10) (by kernel_rfl) rfl (fun Ka hKa => ?_)
              refine stp_appG gT_int rfl (.tmp 49) (.tmp 54) rfl (R := LA) (S := [x]) rfl rfl hB4 (GS.one hv rfl 1 (Nat.le_refl _)) (by have := HMl.out; have := HJ.out; simp; omega) bwX3.size ?_
              intro vhC7 Y7 hC7 hfY7 hrY7
              obtain ⟨LB, eB⟩ : ∃ LB, LA ++ [x] = LB := ⟨_, rfl⟩
              have HLB : Hid (LA ++ [x] = LB) := eB
              have hLB : LB.length = jj + 1 := by rw [← eB]; simp; omega
              rw [eB] at hC7
              clear eB
              have bwY7 : Below Wd.heap.size Wd Y7 := bwX3.trans (hfY7.below bwX3.size (fun k hk => (GO.lt hB4 k hk).1))
              have hSY7 : (fun w' : World => w'.cell? ⟨b, o + k, none⟩ = some (.int .i64 x)) Y7 := (bwY7.cell (p := ⟨b, o + k, none⟩) (glt_cell y0)).trans y0
              obtain ⟨aohC7, chC7, rfl, _, hghC7⟩ := GO.shape hC7
              refine hKa.out _ _ (fun _ => hSY7) ?_
              clear hKa Ka
              try simp only [Act.put, List.setIfInBounds_toArray, List.set_cons_zero, List.set_cons_succ]
              refine wpAnyL_one (i := 14) (by kernel_rfl) rfl (fun Ka hKa => ?_)
              refine stp_appG gT_int rfl (.tmp 55) (.tmp 58) rfl (R := LB) (S := (M.drop jj)) rfl rfl hC7 (srcB Y7 bwY7) (by have := HMl.out; have := HJ.out; simp; omega) bwY7.size ?_
              intro vhD11 Y11 hD11 hfY11 hrY11
              have eM : LB ++ M.drop jj = M2 := by rw [HM2.out, ← HLB.out, ← HLA.out]; simp
              rw [eM] at hD11
              clear eM
              have bwY11 : Below Wd.heap.size Wd Y11 := bwY7.trans (hfY11.below bwY7.size (fun k hk => (GO.lt hC7 k hk).1))
              have hSY11 : (fun w' : World => w'.cell? ⟨b, o + k, none⟩ = some (.int .i64 x)) Y11 := (bwY11.cell (p := ⟨b, o + k, none⟩) (glt_cell y0)).trans y0
              obtain ⟨aohD11, chD11, rfl, _, hghD11⟩ := GO.shape hD11
              refine hKa.out _ _ (fun _ => hSY11) ?_
              clear hKa Ka
              try simp only [Act.put, List.setIfInBounds_toArray, List.set_cons_zero, List.set_cons_succ]
              refine wpAnyL_take (i := 15) 3 (v := .slice aohD11 M2.length chD11) rfl rfl (by kernel_rfl) (by kernel_rfl) (by kernel_rfl) (by kernel_rfl) (by kernel_rfl) (by kernel_rfl) (fun _ _ _ h => h) hSY11 (by rfl) (by intro w' hSw; go_simp <;> with_reducible rfl) ?_
              simp only [Act.put, List.setIfInBounds_toArray, List.set_cons_zero, List.set_cons_succ]
              refine wpAnyL_done (by kernel_rfl) ?_ _
              have HMn : Hid (IO_ Y11 w.heap.size (.slice aohD11 M2.length chD11) M2) := GO.lower hD11 HBd.out.size
              have HBn : Hid (Below w.heap.size w Y11) := HBd.out.trans (bwY11.mono HBd.out.size)
              obtain ⟨gn, hgn⟩ := hghD11 HM2l.out
              subst hgn
              clear hD11
              go_wp2
              go_roundw
              case rel => exact ⟨k + 1, gn, chD11, M2, HLt.out, by go_num, rfl, HM2r.out, HMn, HBn⟩
              case measure => have := HLt.out; simp [intOf]; omega
    · have HF : Hid (M = risL L) := by
        show M = _
        rw [HMr.out, List.take_of_length_le (by rw [HN.out]; omega)]
      obtain rfl : k = n := by omega
      clear hlt
      go_wp2
      go_ret
      exact ⟨_, rfl, by rw [← HF.out]; exact HM.out, HB.out⟩
end Go.Proofs.Ytipopaicehimeaa
