/- PlanAssigns: partitions go to workers in turn; each worker has those that are its own, and no worker two more than another one. -/
import Derived.Test.YtipopaicehimeaaPlAm
namespace Go.Proofs.Ytipopaicehimeaa
open Go.RowKit
attribute [local go_sem] Oper.semAt_some
set_option linter.unusedSimpArgs false in
set_option linter.unusedVariables false in
set_option maxRecDepth 100000 in
set_option maxHeartbeats 8000000 in
theorem law_passigns {w : World} {v : Value} {L : List Int} (p : Int) (h : IS w v L) (hL : L.length * 8 ≤ 140737488355328) : Calls Try.prog 3 #[.int .i64 p, v] w fun r w' => r = .returned (.bool true) ∧ Below w.heap.size w w' := by
  have hA := passign p h hL
  have HV : Hid (IS w v L) := h
  obtain ⟨lo, lc, rfl, _⟩ := h.shape
  clear h
  go_enter Try.func3, Try.ntmps3
  go_upto_region 2 with (go_at_call 6; refine hA.mono ?_; rintro r w1 ⟨v1, rfl, hr1, hb1⟩)
  have hRi := lrising (HV.out.new hb1) hL
  have HA1 : Hid (IO_ w1 w.heap.size v1 (asgn p L)) := hr1
  have HB1 : Hid (Below w.heap.size w w1) := hb1
  clear hA hr1 hb1
  go_upto_region 3 with (go_at_call 7; refine hRi.mono ?_; rintro r w2 ⟨v2, rfl, hr2, hb2⟩)
  have HA2 : Hid (IO_ w2 w.heap.size v1 (asgn p L)) := GO.new HA1.out hb2
  have HR2 : Hid (IO_ w2 w.heap.size v2 (risL L)) := GO.lower hr2 HB1.out.size
  have HB2 : Hid (Below w.heap.size w w2) := HB1.out.trans (hb2.mono HB1.out.size)
  have hAw := awake16 w2
  clear hRi hr2 hb2 HA1 HB1
  go_upto_region 5 with (go_at_call 8; refine hAw.mono ?_; rintro r w3 ⟨rfl, hb3⟩)
  have HA : Hid (IO_ w3 w.heap.size v1 (asgn p L)) := GO.new HA2.out hb3
  have HR : Hid (IO_ w3 w.heap.size v2 (risL L)) := GO.new HR2.out hb3
  have HB : Hid (Below w.heap.size w w3) := HB2.out.trans (hb3.mono HB2.out.size)
  clear hAw hb3 HA2 HR2 HB2
  by_cases hbad : p < 0 ∨ 16 < p ∨ L = []
  · have e : asgn p L = [] := by
      unfold asgn
      rw [if_neg]
      rintro ⟨h1, h2, h3⟩
      rcases hbad with h | h | h
      · omega
      · omega
      · exact h3 h
    rw [e] at HA
    obtain ⟨ao1, c1, rfl, _, _⟩ := GO.shape HA.out
    obtain ⟨ao2, c2, rfl, _, _⟩ := GO.shape HR.out
    rcases hbad with h | h | h
    · go_wp2
      go_ret
      exact ⟨rfl, HB.out⟩
    · by_cases h0 : p < 0
      · go_wp2
        go_ret
        exact ⟨rfl, HB.out⟩
      · go_wp2
        go_ret
        exact ⟨rfl, HB.out⟩
    · have eR : risL L = [] := risL_nil.2 h
      rw [eR]
      clear h e eR
      by_cases h0 : p < 0
      · go_wp2
        go_ret
        exact ⟨rfl, HB.out⟩
      · by_cases h16 : 16 < p
        · go_wp2
          go_ret
          exact ⟨rfl, HB.out⟩
        · go_wp2
          go_ret
          exact ⟨rfl, HB.out⟩
  · have h0 : ¬ p < 0 := fun h => hbad (.inl h)
    have h16 : ¬ 16 < p := fun h => hbad (.inr (.inl h))
    have hne : L ≠ [] := fun h => hbad (.inr (.inr h))
    obtain ⟨n, rfl⟩ : ∃ n : Nat, p = n := ⟨p.toNat, by omega⟩
    have eA : asgn (n : Int) L = turnP (risL L) n n := by unfold asgn; rw [if_pos ⟨by omega, by omega, hne⟩, Int.toNat_natCast]
    rw [eA] at HA
    have hRl : 0 < (risL L).length := by
      rcases Nat.eq_zero_or_pos (risL L).length with h | h
      · exact absurd (risL_nil.1 (List.eq_nil_of_length_eq_zero h)) hne
      · exact h
    have hRm : (risL L).length ≤ 140737488355328 := by have := risL_len L; omega
    have hn : n ≤ 16 := by omega
    have HRise : Hid (RiseI (risL L)) := risL_rise L
    generalize risL L = R at HA HR hRl hRm HRise
    obtain ⟨A, hAe⟩ : ∃ A, turnP R n n = A := ⟨_, rfl⟩
    have HAe : Hid (turnP R n n = A) := hAe
    have HAl : Hid (A.length = n) := by show _ = _; rw [← hAe]; exact turnP_len R n n
    rw [hAe] at HA
    obtain ⟨ao1, c1, rfl, _, hg1⟩ := GO.shape HA.out
    obtain ⟨ao2, c2, rfl, _, hg2⟩ := GO.shape HR.out
    obtain ⟨g2, rfl⟩ := hg2 hRl
    have HG1 : Hid (0 < n → ∃ g, ao1 = some ⟨g, 0, none⟩) := fun h => hg1 (by rw [HAl.out]; exact h)
    rw [HAl.out] at HA ⊢
    obtain ⟨m, hm⟩ : ∃ m, R.length = m := ⟨_, rfl⟩
    have HMm : Hid (R.length = m) := hm
    have HBt : Hid (∀ k (hk : k < R.length), n / m ≤ (plcs A R[k] n).length ∧ (plcs A R[k] n).length ≤ n / m + 1 ∧ (plcs A R[k] n).length ≤ n) := fun k hk => by
      rw [← hm, ← hAe]
      exact ⟨(plcs_between HRise.out hk).1, (plcs_between HRise.out hk).2, plcs_len _ _ _⟩
    rw [hm] at HR hRl hRm ⊢
    have HDiv : Hid (n / m ≤ n) := Nat.div_le_self _ _
    clear hbad hne eA hg1 hg2 hAe hm h0 h16
    have hp1 : ¬ (n : Int) < 0 := by omega
    have hp2 : ¬ 16 < (n : Int) := by omega
    have hm0 : ¬ (m : Int) = 0 := by omega
    go_wp2
    go_loopw [7, 8, 9, 10, 11] (fun le mo i _ _ wr => ∃ (a b k : Nat), k ≤ m ∧ i = .int .i64 k ∧ le = .int .i64 a ∧ mo = .int .i64 b ∧ a ≤ n ∧ b ≤ 16 ∧ Hid (n / m ≤ a ∧ b ≤ n / m + 1) ∧ Hid (Below w3.heap.size w3 wr)) (fun _ _ i _ _ _ => m - (intOf i).toNat)
    case atStart => exact ⟨n, 0, 0, Nat.zero_le _, rfl, rfl, rfl, Nat.le_refl _, Nat.zero_le _, ⟨HDiv.out, Nat.zero_le _⟩, Below.refl _ _⟩
    case round =>
      obtain ⟨a, b, k, hk, rfl, rfl, rfl, han, hbn, HAB, HBr⟩ := hrel
      by_cases hlt : k < m
      · have HLt : Hid (k < m) := hlt
        have hkl : k < R.length := by rw [HMm.out]; exact hlt
        have hR1 : IO_ wr w.heap.size (.slice (some ⟨g2, 0, none⟩) m c2) R := GO.new HR.out HBr.out
        have r0 := hR1.at_ k hkl
        have hA1 : IO_ wr w.heap.size (.slice ao1 n c1) A := GO.new HA.out HBr.out
        have HBt2 : Hid (n / m ≤ (plcs A R[k] n).length ∧ (plcs A R[k] n).length ≤ n / m + 1 ∧ (plcs A R[k] n).length ≤ n) := HBt.out k hkl
        have hPt := pparts R[k] (GO.toS hA1) (by rw [HAl.out]; omega)
        rw [HAl.out] at hPt
        generalize R[k] = x at r0 hPt HBt2
        clear hR1 hA1 hkl
        rename World => wo
        go_upto_region 14 with (go_at_call 9; refine hPt.mono ?_; rintro r w4 ⟨v4, rfl, hr4, hb4⟩)
        obtain ⟨ao4, c4, rfl, _, hg4⟩ := GO.shape hr4
        have HB4 : Hid (Below w3.heap.size w3 w4) := HBr.out.trans (hb4.mono HBr.out.size)
        have HO4 : Hid (IO_ w4 wo.heap.size (.slice ao4 (plcs A x n).length c4) (plcs A x n)) := hr4
        have HG4 : Hid (0 < (plcs A x n).length → ∃ g, ao4 = some ⟨g, 0, none⟩) := hg4
        have HR0 : Hid (wo.cell? ⟨g2, k, none⟩ = some (.int .i64 x)) := r0
        obtain ⟨O, hO⟩ : ∃ O, plcs A x n = O := ⟨_, rfl⟩
        have HOe : Hid (plcs A x n = O) := hO
        rw [hO] at HBt2 HO4 HG4 ⊢
        have hOl : O.length ≤ 16 := by have := HBt2.out.2.2; omega
        obtain ⟨no, hno⟩ : ∃ no, O.length = no := ⟨_, rfl⟩
        have HNo : Hid (O.length = no) := hno
        rw [hno] at hOl HO4 HG4 HBt2 ⊢
        have HW4 : Hid (Below wo.heap.size wo w4) := hb4
        clear hPt hr4 hb4 hg4 r0 hO hno
        go_wp2
        go_loopw [11] (fun i wr => ∃ j q : Nat, j ≤ no ∧ i = .int .i64 j ∧ Hid (wr = w4.drewN q)) (fun i _ => no - (intOf i).toNat)
        case atStart => exact ⟨0, 0, Nat.zero_le _, rfl, rfl⟩
        case round =>
          obtain ⟨j, q, hj, rfl, HQ⟩ := hrel
          by_cases hjl : j < no
          · have HJl : Hid (j < no) := hjl
            have hjo : j < O.length := by rw [HNo.out]; exact hjl
            obtain ⟨g4, rfl⟩ := HG4.out (by omega)
            have o0 : wr.cell? ⟨g4, j, none⟩ = some (.int .i64 O[j]) := by rw [HQ.out]; exact HO4.out.at_ j hjo
            have hpl : ∃ o : Nat, O[j] = (o : Int) ∧ o < n ∧ A[o]? = some x := by
              have hjo2 : j < (plcs A x n).length := by rw [HOe.out]; exact hjo
              have := plcs_at hjo2
              simp only [HOe.out] at this
              exact this
            obtain ⟨o, ho1, ho2, ho3⟩ := hpl
            obtain ⟨g1, rfl⟩ := HG1.out (by omega)
            have hoA : o < A.length := by rw [HAl.out]; exact ho2
            have a0 : wr.cell? ⟨g1, o, none⟩ = some (.int .i64 x) := by
              have h1 := IO_.at_ (GO.new HA.out HB4.out) o hoA
              rw [List.getElem?_eq_getElem hoA] at ho3
              rw [Option.some.inj ho3] at h1
              rw [HQ.out]
              exact h1
            have r1 : wr.cell? ⟨g2, k, none⟩ = some (.int .i64 x) := by rw [HQ.out]; exact gnew_cell HW4.out HR0.out
            by_cases hj0 : j = 0
            · subst hj0
              rw [ho1] at o0
              clear ho1 ho3 hjo hoA
              have ho0 : 0 ≤ (o : Int) := by omega
              have ho4 : (o : Int) < n := by omega
              go_upto_region 17 with (fail)
              obtain ⟨Wd, hWd⟩ : ∃ Wd, World.drew wr = Wd := ⟨_, rfl⟩
              have o0 : Wd.cell? ⟨g4, 0, none⟩ = some (.int .i64 (o : Int)) := by rw [← hWd]; exact o0
              have a0 : Wd.cell? ⟨g1, o, none⟩ = some (.int .i64 x) := by rw [← hWd]; exact a0
              have r1 : Wd.cell? ⟨g2, k, none⟩ = some (.int .i64 x) := by rw [← hWd]; exact r1
              have HQ2 : Hid (Wd = w4.drewN (q + 1)) := by show _ = _; rw [← hWd, HQ.out]; rfl
              refine wp_calmP ?_
              refine wp_region_L [] (fun w' : World => w'.cell? ⟨g4, 0, none⟩ = some (.int .i64 o) ∧ w'.cell? ⟨g1, o, none⟩ = some (.int .i64 x) ∧ w'.cell? ⟨g2, k, none⟩ = some (.int .i64 x)) (by kernel_rfl) ?_
              rw [hWd]
              clear hWd
              have hS : (fun w' : World => w'.cell? ⟨g4, 0, none⟩ = some (.int .i64 o) ∧ w'.cell? ⟨g1, o, none⟩ = some (.int .i64 x) ∧ w'.cell? ⟨g2, k, none⟩ = some (.int .i64 x)) Wd := ⟨o0, a0, r1⟩
              refine wpAnyL_take (i := 0) 57 (v := .slice (some ⟨g4, 0, none⟩) no c4) rfl rfl (by kernel_rfl) (by kernel_rfl) (by kernel_rfl) (by kernel_rfl) (by kernel_rfl) (by kernel_rfl) (fun _ _ _ h => h) hS (by rfl) (by intro w' hSw; obtain ⟨y0, y1, y2⟩ := hSw; go_simp <;> with_reducible rfl) ?_
              simp only [Act.put, List.setIfInBounds_toArray, List.set_cons_zero, List.set_cons_succ]
              refine wpAnyL_take (i := 1) 58 (v := .int .i64 0) rfl rfl (by kernel_rfl) (by kernel_rfl) (by kernel_rfl) (by kernel_rfl) (by kernel_rfl) (by kernel_rfl) (fun _ _ _ h => h) hS (by rfl) (by intro w' hSw; obtain ⟨y0, y1, y2⟩ := hSw; go_simp <;> with_reducible rfl) ?_
              simp only [Act.put, List.setIfInBounds_toArray, List.set_cons_zero, List.set_cons_succ]
              refine wpAnyL_take (i := 2) 59 (v := .pointer (some ⟨g4, 0, none⟩)) rfl rfl (by kernel_rfl) (by kernel_rfl) (by kernel_rfl) (by kernel_rfl) (by kernel_rfl) (by kernel_rfl) (fun _ _ _ h => h) hS (by rfl) (by intro w' hSw; obtain ⟨y0, y1, y2⟩ := hSw; go_simp <;> with_reducible rfl) ?_
              simp only [Act.put, List.setIfInBounds_toArray, List.set_cons_zero, List.set_cons_succ]
              refine wpAnyL_take (i := 3) 60 (v := .int .i64 o) rfl rfl (by kernel_rfl) (by kernel_rfl) (by kernel_rfl) (by kernel_rfl) (by kernel_rfl) (by kernel_rfl) (fun _ _ _ h => h) hS (by rfl) (by intro w' hSw; obtain ⟨y0, y1, y2⟩ := hSw; go_simp <;> with_reducible rfl) ?_
              simp only [Act.put, List.setIfInBounds_toArray, List.set_cons_zero, List.set_cons_succ]
              refine wpAnyL_take (i := 4) 61 (v := .bool false) rfl rfl (by kernel_rfl) (by kernel_rfl) (by kernel_rfl) (by kernel_rfl) (by kernel_rfl) (by kernel_rfl) (fun _ _ _ h => h) hS (by rfl) (by intro w' hSw; obtain ⟨y0, y1, y2⟩ := hSw; go_simp <;> with_reducible rfl) ?_
              simp only [Act.put, List.setIfInBounds_toArray, List.set_cons_zero, List.set_cons_succ]
              refine wpAnyL_take (i := 5) 62 (v := .bool false) rfl rfl (by kernel_rfl) (by kernel_rfl) (by kernel_rfl) (by kernel_rfl) (by kernel_rfl) (by kernel_rfl) (fun _ _ _ h => h) hS (by rfl) (by intro w' hSw; obtain ⟨y0, y1, y2⟩ := hSw; go_simp <;> with_reducible rfl) ?_
              simp only [Act.put, List.setIfInBounds_toArray, List.set_cons_zero, List.set_cons_succ]
              refine wpAnyL_take (i := 6) 63 (v := .slice (some ⟨g4, 0, none⟩) no c4) rfl rfl (by kernel_rfl) (by kernel_rfl) (by kernel_rfl) (by kernel_rfl) (by kernel_rfl) (by kernel_rfl) (fun _ _ _ h => h) hS (by rfl) (by intro w' hSw; obtain ⟨y0, y1, y2⟩ := hSw; go_simp <;> with_reducible rfl) ?_
              simp only [Act.put, List.setIfInBounds_toArray, List.set_cons_zero, List.set_cons_succ]
              refine wpAnyL_take (i := 7) 64 (v := .int .i64 0) rfl rfl (by kernel_rfl) (by kernel_rfl) (by kernel_rfl) (by kernel_rfl) (by kernel_rfl) (by kernel_rfl) (fun _ _ _ h => h) hS (by rfl) (by intro w' hSw; obtain ⟨y0, y1, y2⟩ := hSw; go_simp <;> with_reducible rfl) ?_
              simp only [Act.put, List.setIfInBounds_toArray, List.set_cons_zero, List.set_cons_succ]
              refine wpAnyL_take (i := 8) 65 (v := .pointer (some ⟨g4, 0, none⟩)) rfl rfl (by kernel_rfl) (by kernel_rfl) (by kernel_rfl) (by kernel_rfl) (by kernel_rfl) (by kernel_rfl) (fun _ _ _ h => h) hS (by rfl) (by intro w' hSw; obtain ⟨y0, y1, y2⟩ := hSw; go_simp <;> with_reducible rfl) ?_
              simp only [Act.put, List.setIfInBounds_toArray, List.set_cons_zero, List.set_cons_succ]
              refine wpAnyL_take (i := 9) 66 (v := .int .i64 o) rfl rfl (by kernel_rfl) (by kernel_rfl) (by kernel_rfl) (by kernel_rfl) (by kernel_rfl) (by kernel_rfl) (fun _ _ _ h => h) hS (by rfl) (by intro w' hSw; obtain ⟨y0, y1, y2⟩ := hSw; go_simp <;> with_reducible rfl) ?_
              simp only [Act.put, List.setIfInBounds_toArray, List.set_cons_zero, List.set_cons_succ]
              refine wpAnyL_take (i := 10) 67 (v := .int .i64 n) rfl rfl (by kernel_rfl) (by kernel_rfl) (by kernel_rfl) (by kernel_rfl) (by kernel_rfl) (by kernel_rfl) (fun _ _ _ h => h) hS (by rfl) (by intro w' hSw; obtain ⟨y0, y1, y2⟩ := hSw; go_simp <;> with_reducible rfl) ?_
              simp only [Act.put, List.setIfInBounds_toArray, List.set_cons_zero, List.set_cons_succ]
              refine wpAnyL_take (i := 11) 68 (v := .bool false) rfl rfl (by kernel_rfl) (by kernel_rfl) (by kernel_rfl) (by kernel_rfl) (by kernel_rfl) (by kernel_rfl) (fun _ _ _ h => h) hS (by rfl) (by intro w' hSw; obtain ⟨y0, y1, y2⟩ := hSw; go_simp <;> with_reducible rfl) ?_
              simp only [Act.put, List.setIfInBounds_toArray, List.set_cons_zero, List.set_cons_succ]
              refine wpAnyL_take (i := 12) 69 (v := .bool false) rfl rfl (by kernel_rfl) (by kernel_rfl) (by kernel_rfl) (by kernel_rfl) (by kernel_rfl) (by kernel_rfl) (fun _ _ _ h => h) hS (by rfl) (by intro w' hSw; obtain ⟨y0, y1, y2⟩ := hSw; go_simp <;> with_reducible rfl) ?_
              simp only [Act.put, List.setIfInBounds_toArray, List.set_cons_zero, List.set_cons_succ]
              refine wpAnyL_take (i := 13) 70 (v := .bool false) rfl rfl (by kernel_rfl) (by kernel_rfl) (by kernel_rfl) (by kernel_rfl) (by kernel_rfl) (by kernel_rfl) (fun _ _ _ h => h) hS (by rfl) (by intro w' hSw; obtain ⟨y0, y1, y2⟩ := hSw; go_simp <;> with_reducible rfl) ?_
              simp only [Act.put, List.setIfInBounds_toArray, List.set_cons_zero, List.set_cons_succ]
              refine wpAnyL_take (i := 14) 71 (v := .slice (some ⟨g1, 0, none⟩) n c1) rfl rfl (by kernel_rfl) (by kernel_rfl) (by kernel_rfl) (by kernel_rfl) (by kernel_rfl) (by kernel_rfl) (fun _ _ _ h => h) hS (by rfl) (by intro w' hSw; obtain ⟨y0, y1, y2⟩ := hSw; go_simp <;> with_reducible rfl) ?_
              simp only [Act.put, List.setIfInBounds_toArray, List.set_cons_zero, List.set_cons_succ]
              refine wpAnyL_take (i := 15) 72 (v := .slice (some ⟨g4, 0, none⟩) no c4) rfl rfl (by kernel_rfl) (by kernel_rfl) (by kernel_rfl) (by kernel_rfl) (by kernel_rfl) (by kernel_rfl) (fun _ _ _ h => h) hS (by rfl) (by intro w' hSw; obtain ⟨y0, y1, y2⟩ := hSw; go_simp <;> with_reducible rfl) ?_
              simp only [Act.put, List.setIfInBounds_toArray, List.set_cons_zero, List.set_cons_succ]
              refine wpAnyL_take (i := 16) 73 (v := .int .i64 0) rfl rfl (by kernel_rfl) (by kernel_rfl) (by kernel_rfl) (by kernel_rfl) (by kernel_rfl) (by kernel_rfl) (fun _ _ _ h => h) hS (by rfl) (by intro w' hSw; obtain ⟨y0, y1, y2⟩ := hSw; go_simp <;> with_reducible rfl) ?_
              simp only [Act.put, List.setIfInBounds_toArray, List.set_cons_zero, List.set_cons_succ]
              refine wpAnyL_take (i := 17) 74 (v := .pointer (some ⟨g4, 0, none⟩)) rfl rfl (by kernel_rfl) (by kernel_rfl) (by kernel_rfl) (by kernel_rfl) (by kernel_rfl) (by kernel_rfl) (fun _ _ _ h => h) hS (by rfl) (by intro w' hSw; obtain ⟨y0, y1, y2⟩ := hSw; go_simp <;> with_reducible rfl) ?_
              simp only [Act.put, List.setIfInBounds_toArray, List.set_cons_zero, List.set_cons_succ]
              refine wpAnyL_take (i := 18) 75 (v := .int .i64 o) rfl rfl (by kernel_rfl) (by kernel_rfl) (by kernel_rfl) (by kernel_rfl) (by kernel_rfl) (by kernel_rfl) (fun _ _ _ h => h) hS (by rfl) (by intro w' hSw; obtain ⟨y0, y1, y2⟩ := hSw; go_simp <;> with_reducible rfl) ?_
              simp only [Act.put, List.setIfInBounds_toArray, List.set_cons_zero, List.set_cons_succ]
              refine wpAnyL_take (i := 19) 76 (v := .pointer (some ⟨g1, o, none⟩)) rfl rfl (by kernel_rfl) (by kernel_rfl) (by kernel_rfl) (by kernel_rfl) (by kernel_rfl) (by kernel_rfl) (fun _ _ _ h => h) hS (by rfl) (by intro w' hSw; obtain ⟨y0, y1, y2⟩ := hSw; go_simp <;> with_reducible rfl) ?_
              simp only [Act.put, List.setIfInBounds_toArray, List.set_cons_zero, List.set_cons_succ]
              refine wpAnyL_take (i := 20) 77 (v := .int .i64 x) rfl rfl (by kernel_rfl) (by kernel_rfl) (by kernel_rfl) (by kernel_rfl) (by kernel_rfl) (by kernel_rfl) (fun _ _ _ h => h) hS (by rfl) (by intro w' hSw; obtain ⟨y0, y1, y2⟩ := hSw; go_simp <;> with_reducible rfl) ?_
              simp only [Act.put, List.setIfInBounds_toArray, List.set_cons_zero, List.set_cons_succ]
              refine wpAnyL_take (i := 21) 78 (v := .slice (some ⟨g2, 0, none⟩) m c2) rfl rfl (by kernel_rfl) (by kernel_rfl) (by kernel_rfl) (by kernel_rfl) (by kernel_rfl) (by kernel_rfl) (fun _ _ _ h => h) hS (by rfl) (by intro w' hSw; obtain ⟨y0, y1, y2⟩ := hSw; go_simp <;> with_reducible rfl) ?_
              simp only [Act.put, List.setIfInBounds_toArray, List.set_cons_zero, List.set_cons_succ]
              refine wpAnyL_take (i := 22) 79 (v := .int .i64 k) rfl rfl (by kernel_rfl) (by kernel_rfl) (by kernel_rfl) (by kernel_rfl) (by kernel_rfl) (by kernel_rfl) (fun _ _ _ h => h) hS (by rfl) (by intro w' hSw; obtain ⟨y0, y1, y2⟩ := hSw; go_simp <;> with_reducible rfl) ?_
              simp only [Act.put, List.setIfInBounds_toArray, List.set_cons_zero, List.set_cons_succ]
              refine wpAnyL_take (i := 23) 80 (v := .pointer (some ⟨g2, k, none⟩)) rfl rfl (by kernel_rfl) (by kernel_rfl) (by kernel_rfl) (by kernel_rfl) (by kernel_rfl) (by kernel_rfl) (fun _ _ _ h => h) hS (by rfl) (by intro w' hSw; obtain ⟨y0, y1, y2⟩ := hSw; go_simp <;> with_reducible rfl) ?_
              simp only [Act.put, List.setIfInBounds_toArray, List.set_cons_zero, List.set_cons_succ]
              refine wpAnyL_take (i := 24) 81 (v := .int .i64 x) rfl rfl (by kernel_rfl) (by kernel_rfl) (by kernel_rfl) (by kernel_rfl) (by kernel_rfl) (by kernel_rfl) (fun _ _ _ h => h) hS (by rfl) (by intro w' hSw; obtain ⟨y0, y1, y2⟩ := hSw; go_simp <;> with_reducible rfl) ?_
              simp only [Act.put, List.setIfInBounds_toArray, List.set_cons_zero, List.set_cons_succ]
              refine wpAnyL_take (i := 25) 82 (v := .bool false) rfl rfl (by kernel_rfl) (by kernel_rfl) (by kernel_rfl) (by kernel_rfl) (by kernel_rfl) (by kernel_rfl) (fun _ _ _ h => h) hS (by rfl) (by intro w' hSw; obtain ⟨y0, y1, y2⟩ := hSw; go_simp <;> with_reducible rfl) ?_
              simp only [Act.put, List.setIfInBounds_toArray, List.set_cons_zero, List.set_cons_succ]
              refine wpAnyL_take (i := 26) 83 (v := .bool false) rfl rfl (by kernel_rfl) (by kernel_rfl) (by kernel_rfl) (by kernel_rfl) (by kernel_rfl) (by kernel_rfl) (fun _ _ _ h => h) hS (by rfl) (by intro w' hSw; obtain ⟨y0, y1, y2⟩ := hSw; go_simp <;> with_reducible rfl) ?_
              simp only [Act.put, List.setIfInBounds_toArray, List.set_cons_zero, List.set_cons_succ]
              refine wpAnyL_take (i := 27) 84 (v := .bool false) rfl rfl (by kernel_rfl) (by kernel_rfl) (by kernel_rfl) (by kernel_rfl) (by kernel_rfl) (by kernel_rfl) (fun _ _ _ h => h) hS (by rfl) (by intro w' hSw; obtain ⟨y0, y1, y2⟩ := hSw; go_simp <;> with_reducible rfl) ?_
              simp only [Act.put, List.setIfInBounds_toArray, List.set_cons_zero, List.set_cons_succ]
              refine wpAnyL_take (i := 28) 85 (v := .int .i64 0) rfl rfl (by kernel_rfl) (by kernel_rfl) (by kernel_rfl) (by kernel_rfl) (by kernel_rfl) (by kernel_rfl) (fun _ _ _ h => h) hS (by rfl) (by intro w' hSw; obtain ⟨y0, y1, y2⟩ := hSw; go_simp <;> with_reducible rfl) ?_
              simp only [Act.put, List.setIfInBounds_toArray, List.set_cons_zero, List.set_cons_succ]
              refine wpAnyL_take (i := 29) 86 (v := .bool false) rfl rfl (by kernel_rfl) (by kernel_rfl) (by kernel_rfl) (by kernel_rfl) (by kernel_rfl) (by kernel_rfl) (fun _ _ _ h => h) hS (by rfl) (by intro w' hSw; obtain ⟨y0, y1, y2⟩ := hSw; go_simp <;> with_reducible rfl) ?_
              simp only [Act.put, List.setIfInBounds_toArray, List.set_cons_zero, List.set_cons_succ]
              refine wpAnyL_take (i := 30) 87 (v := .bool false) rfl rfl (by kernel_rfl) (by kernel_rfl) (by kernel_rfl) (by kernel_rfl) (by kernel_rfl) (by kernel_rfl) (fun _ _ _ h => h) hS (by rfl) (by intro w' hSw; obtain ⟨y0, y1, y2⟩ := hSw; go_simp <;> with_reducible rfl) ?_
              simp only [Act.put, List.setIfInBounds_toArray, List.set_cons_zero, List.set_cons_succ]
              refine wpAnyL_skip (i := 31) 88 rfl rfl (by kernel_rfl) (by kernel_rfl) (by kernel_rfl) (by kernel_rfl) (by kernel_rfl) (by kernel_rfl) (fun _ _ _ h => h) hS (by rfl) ?_
              simp only [Act.put, List.setIfInBounds_toArray, List.set_cons_zero, List.set_cons_succ]
              refine wpAnyL_skip (i := 32) 89 rfl rfl (by kernel_rfl) (by kernel_rfl) (by kernel_rfl) (by kernel_rfl) (by kernel_rfl) (by kernel_rfl) (fun _ _ _ h => h) hS (by rfl) ?_
              simp only [Act.put, List.setIfInBounds_toArray, List.set_cons_zero, List.set_cons_succ]
              refine wpAnyL_skip (i := 33) 90 rfl rfl (by kernel_rfl) (by kernel_rfl) (by kernel_rfl) (by kernel_rfl) (by kernel_rfl) (by kernel_rfl) (fun _ _ _ h => h) hS (by rfl) ?_
              simp only [Act.put, List.setIfInBounds_toArray, List.set_cons_zero, List.set_cons_succ]
              refine wpAnyL_skip (i := 34) 91 rfl rfl (by kernel_rfl) (by kernel_rfl) (by kernel_rfl) (by kernel_rfl) (by kernel_rfl) (by kernel_rfl) (fun _ _ _ h => h) hS (by rfl) ?_
              simp only [Act.put, List.setIfInBounds_toArray, List.set_cons_zero, List.set_cons_succ]
              refine wpAnyL_skip (i := 35) 92 rfl rfl (by kernel_rfl) (by kernel_rfl) (by kernel_rfl) (by kernel_rfl) (by kernel_rfl) (by kernel_rfl) (fun _ _ _ h => h) hS (by rfl) ?_
              simp only [Act.put, List.setIfInBounds_toArray, List.set_cons_zero, List.set_cons_succ]
              refine wpAnyL_skip (i := 36) 93 rfl rfl (by kernel_rfl) (by kernel_rfl) (by kernel_rfl) (by kernel_rfl) (by kernel_rfl) (by kernel_rfl) (fun _ _ _ h => h) hS (by rfl) ?_
              simp only [Act.put, List.setIfInBounds_toArray, List.set_cons_zero, List.set_cons_succ]
              refine wpAnyL_skip (i := 37) 94 rfl rfl (by kernel_rfl) (by kernel_rfl) (by kernel_rfl) (by kernel_rfl) (by kernel_rfl) (by kernel_rfl) (fun _ _ _ h => h) hS (by rfl) ?_
              simp only [Act.put, List.setIfInBounds_toArray, List.set_cons_zero, List.set_cons_succ]
              refine wpAnyL_skip (i := 38) 95 rfl rfl (by kernel_rfl) (by kernel_rfl) (by kernel_rfl) (by kernel_rfl) (by kernel_rfl) (by kernel_rfl) (fun _ _ _ h => h) hS (by rfl) ?_
              simp only [Act.put, List.setIfInBounds_toArray, List.set_cons_zero, List.set_cons_succ]
              refine wpAnyL_skip (i := 39) 96 rfl rfl (by kernel_rfl) (by kernel_rfl) (by kernel_rfl) (by kernel_rfl) (by kernel_rfl) (by kernel_rfl) (fun _ _ _ h => h) hS (by rfl) ?_
              simp only [Act.put, List.setIfInBounds_toArray, List.set_cons_zero, List.set_cons_succ]
              refine wpAnyL_skip (i := 40) 97 rfl rfl (by kernel_rfl) (by kernel_rfl) (by kernel_rfl) (by kernel_rfl) (by kernel_rfl) (by kernel_rfl) (fun _ _ _ h => h) hS (by rfl) ?_
              simp only [Act.put, List.setIfInBounds_toArray, List.set_cons_zero, List.set_cons_succ]
              refine wpAnyL_take (i := 41) 98 (v := .bool false) rfl rfl (by kernel_rfl) (by kernel_rfl) (by kernel_rfl) (by kernel_rfl) (by kernel_rfl) (by kernel_rfl) (fun _ _ _ h => h) hS (by rfl) (by intro w' hSw; obtain ⟨y0, y1, y2⟩ := hSw; go_simp <;> with_reducible rfl) ?_
              simp only [Act.put, List.setIfInBounds_toArray, List.set_cons_zero, List.set_cons_succ]
              refine wpAnyL_take (i := 42) 99 (v := .bool false) rfl rfl (by kernel_rfl) (by kernel_rfl) (by kernel_rfl) (by kernel_rfl) (by kernel_rfl) (by kernel_rfl) (fun _ _ _ h => h) hS (by rfl) (by intro w' hSw; obtain ⟨y0, y1, y2⟩ := hSw; go_simp <;> with_reducible rfl) ?_
              simp only [Act.put, List.setIfInBounds_toArray, List.set_cons_zero, List.set_cons_succ]
              refine wpAnyL_done (by kernel_rfl) ?_ _
              go_wp2
              go_roundw
              case rel => exact ⟨1, q + 1, HJl.out, by go_num, HQ2⟩
              case measure => have := HJl.out; simp [intOf]; omega
            · obtain ⟨i, rfl⟩ : ∃ i, j = i + 1 := ⟨j - 1, by omega⟩
              have hio : i < O.length := by omega
              have o1 : wr.cell? ⟨g4, i, none⟩ = some (.int .i64 O[i]) := by rw [HQ.out]; exact HO4.out.at_ i hio
              have hlt2 : O[i] < O[i + 1] := by
                have h1 := plcs_rise A x n
                rw [HOe.out] at h1
                exact List.pairwise_iff_getElem.1 h1 i (i + 1) hio hjo (by omega)
              rw [ho1] at o0 hlt2
              generalize O[i] = z at o1 hlt2
              have hi0 : 0 ≤ (i : Int) + 1 := by omega
              have hi1 : (i : Int) < no := by omega
              have hi2 : (i : Int) + 1 < no := by omega
              have hiw : IntKind.i64.wrap (i : Int) = (i : Int) := IntWalk.i64_in _ (by omega)
              clear ho1 ho3 hjo hoA hio hj0
              have ho0 : 0 ≤ (o : Int) := by omega
              have ho4 : (o : Int) < n := by omega
              go_upto_region 17 with (fail)
              obtain ⟨Wd, hWd⟩ : ∃ Wd, World.drew wr = Wd := ⟨_, rfl⟩
              have o0 : Wd.cell? ⟨g4, i + 1, none⟩ = some (.int .i64 (o : Int)) := by rw [← hWd]; exact o0
              have a0 : Wd.cell? ⟨g1, o, none⟩ = some (.int .i64 x) := by rw [← hWd]; exact a0
              have r1 : Wd.cell? ⟨g2, k, none⟩ = some (.int .i64 x) := by rw [← hWd]; exact r1
              have o1 : Wd.cell? ⟨g4, i, none⟩ = some (.int .i64 z) := by rw [← hWd]; exact o1
              have HQ2 : Hid (Wd = w4.drewN (q + 1)) := by show _ = _; rw [← hWd, HQ.out]; rfl
              refine wp_calmP ?_
              refine wp_region_L [] (fun w' : World => w'.cell? ⟨g4, i + 1, none⟩ = some (.int .i64 o) ∧ w'.cell? ⟨g1, o, none⟩ = some (.int .i64 x) ∧ w'.cell? ⟨g2, k, none⟩ = some (.int .i64 x) ∧ w'.cell? ⟨g4, i, none⟩ = some (.int .i64 z)) (by kernel_rfl) ?_
              rw [hWd]
              clear hWd
              have hS : (fun w' : World => w'.cell? ⟨g4, i + 1, none⟩ = some (.int .i64 o) ∧ w'.cell? ⟨g1, o, none⟩ = some (.int .i64 x) ∧ w'.cell? ⟨g2, k, none⟩ = some (.int .i64 x) ∧ w'.cell? ⟨g4, i, none⟩ = some (.int .i64 z)) Wd := ⟨o0, a0, r1, o1⟩
              refine wpAnyL_take (i := 0) 57 (v := .slice (some ⟨g4, 0, none⟩) no c4) rfl rfl (by kernel_rfl) (by kernel_rfl) (by kernel_rfl) (by kernel_rfl) (by kernel_rfl) (by kernel_rfl) (fun _ _ _ h => h) hS (by rfl) (by intro w' hSw; obtain ⟨y0, y1, y2, y3⟩ := hSw; go_simp <;> with_reducible rfl) ?_
              simp only [Act.put, List.setIfInBounds_toArray, List.set_cons_zero, List.set_cons_succ]
              refine wpAnyL_take (i := 1) 58 (v := .int .i64 ((i : Int) + 1)) rfl rfl (by kernel_rfl) (by kernel_rfl) (by kernel_rfl) (by kernel_rfl) (by kernel_rfl) (by kernel_rfl) (fun _ _ _ h => h) hS (by rfl) (by intro w' hSw; obtain ⟨y0, y1, y2, y3⟩ := hSw; go_simp <;> with_reducible rfl) ?_
              simp only [Act.put, List.setIfInBounds_toArray, List.set_cons_zero, List.set_cons_succ]
              refine wpAnyL_take (i := 2) 59 (v := .pointer (some ⟨g4, i + 1, none⟩)) rfl rfl (by kernel_rfl) (by kernel_rfl) (by kernel_rfl) (by kernel_rfl) (by kernel_rfl) (by kernel_rfl) (fun _ _ _ h => h) hS (by rfl) (by intro w' hSw; obtain ⟨y0, y1, y2, y3⟩ := hSw; go_simp <;> with_reducible rfl) ?_
              simp only [Act.put, List.setIfInBounds_toArray, List.set_cons_zero, List.set_cons_succ]
              refine wpAnyL_take (i := 3) 60 (v := .int .i64 o) rfl rfl (by kernel_rfl) (by kernel_rfl) (by kernel_rfl) (by kernel_rfl) (by kernel_rfl) (by kernel_rfl) (fun _ _ _ h => h) hS (by rfl) (by intro w' hSw; obtain ⟨y0, y1, y2, y3⟩ := hSw; go_simp <;> with_reducible rfl) ?_
              simp only [Act.put, List.setIfInBounds_toArray, List.set_cons_zero, List.set_cons_succ]
              refine wpAnyL_take (i := 4) 61 (v := .bool false) rfl rfl (by kernel_rfl) (by kernel_rfl) (by kernel_rfl) (by kernel_rfl) (by kernel_rfl) (by kernel_rfl) (fun _ _ _ h => h) hS (by rfl) (by intro w' hSw; obtain ⟨y0, y1, y2, y3⟩ := hSw; go_simp <;> with_reducible rfl) ?_
              simp only [Act.put, List.setIfInBounds_toArray, List.set_cons_zero, List.set_cons_succ]
              refine wpAnyL_take (i := 5) 62 (v := .bool false) rfl rfl (by kernel_rfl) (by kernel_rfl) (by kernel_rfl) (by kernel_rfl) (by kernel_rfl) (by kernel_rfl) (fun _ _ _ h => h) hS (by rfl) (by intro w' hSw; obtain ⟨y0, y1, y2, y3⟩ := hSw; go_simp <;> with_reducible rfl) ?_
              simp only [Act.put, List.setIfInBounds_toArray, List.set_cons_zero, List.set_cons_succ]
              refine wpAnyL_take (i := 6) 63 (v := .slice (some ⟨g4, 0, none⟩) no c4) rfl rfl (by kernel_rfl) (by kernel_rfl) (by kernel_rfl) (by kernel_rfl) (by kernel_rfl) (by kernel_rfl) (fun _ _ _ h => h) hS (by rfl) (by intro w' hSw; obtain ⟨y0, y1, y2, y3⟩ := hSw; go_simp <;> with_reducible rfl) ?_
              simp only [Act.put, List.setIfInBounds_toArray, List.set_cons_zero, List.set_cons_succ]
              refine wpAnyL_take (i := 7) 64 (v := .int .i64 ((i : Int) + 1)) rfl rfl (by kernel_rfl) (by kernel_rfl) (by kernel_rfl) (by kernel_rfl) (by kernel_rfl) (by kernel_rfl) (fun _ _ _ h => h) hS (by rfl) (by intro w' hSw; obtain ⟨y0, y1, y2, y3⟩ := hSw; go_simp <;> with_reducible rfl) ?_
              simp only [Act.put, List.setIfInBounds_toArray, List.set_cons_zero, List.set_cons_succ]
              refine wpAnyL_take (i := 8) 65 (v := .pointer (some ⟨g4, i + 1, none⟩)) rfl rfl (by kernel_rfl) (by kernel_rfl) (by kernel_rfl) (by kernel_rfl) (by kernel_rfl) (by kernel_rfl) (fun _ _ _ h => h) hS (by rfl) (by intro w' hSw; obtain ⟨y0, y1, y2, y3⟩ := hSw; go_simp <;> with_reducible rfl) ?_
              simp only [Act.put, List.setIfInBounds_toArray, List.set_cons_zero, List.set_cons_succ]
              refine wpAnyL_take (i := 9) 66 (v := .int .i64 o) rfl rfl (by kernel_rfl) (by kernel_rfl) (by kernel_rfl) (by kernel_rfl) (by kernel_rfl) (by kernel_rfl) (fun _ _ _ h => h) hS (by rfl) (by intro w' hSw; obtain ⟨y0, y1, y2, y3⟩ := hSw; go_simp <;> with_reducible rfl) ?_
              simp only [Act.put, List.setIfInBounds_toArray, List.set_cons_zero, List.set_cons_succ]
              refine wpAnyL_take (i := 10) 67 (v := .int .i64 n) rfl rfl (by kernel_rfl) (by kernel_rfl) (by kernel_rfl) (by kernel_rfl) (by kernel_rfl) (by kernel_rfl) (fun _ _ _ h => h) hS (by rfl) (by intro w' hSw; obtain ⟨y0, y1, y2, y3⟩ := hSw; go_simp <;> with_reducible rfl) ?_
              simp only [Act.put, List.setIfInBounds_toArray, List.set_cons_zero, List.set_cons_succ]
              refine wpAnyL_take (i := 11) 68 (v := .bool false) rfl rfl (by kernel_rfl) (by kernel_rfl) (by kernel_rfl) (by kernel_rfl) (by kernel_rfl) (by kernel_rfl) (fun _ _ _ h => h) hS (by rfl) (by intro w' hSw; obtain ⟨y0, y1, y2, y3⟩ := hSw; go_simp <;> with_reducible rfl) ?_
              simp only [Act.put, List.setIfInBounds_toArray, List.set_cons_zero, List.set_cons_succ]
              refine wpAnyL_take (i := 12) 69 (v := .bool false) rfl rfl (by kernel_rfl) (by kernel_rfl) (by kernel_rfl) (by kernel_rfl) (by kernel_rfl) (by kernel_rfl) (fun _ _ _ h => h) hS (by rfl) (by intro w' hSw; obtain ⟨y0, y1, y2, y3⟩ := hSw; go_simp <;> with_reducible rfl) ?_
              simp only [Act.put, List.setIfInBounds_toArray, List.set_cons_zero, List.set_cons_succ]
              refine wpAnyL_take (i := 13) 70 (v := .bool false) rfl rfl (by kernel_rfl) (by kernel_rfl) (by kernel_rfl) (by kernel_rfl) (by kernel_rfl) (by kernel_rfl) (fun _ _ _ h => h) hS (by rfl) (by intro w' hSw; obtain ⟨y0, y1, y2, y3⟩ := hSw; go_simp <;> with_reducible rfl) ?_
              simp only [Act.put, List.setIfInBounds_toArray, List.set_cons_zero, List.set_cons_succ]
              refine wpAnyL_take (i := 14) 71 (v := .slice (some ⟨g1, 0, none⟩) n c1) rfl rfl (by kernel_rfl) (by kernel_rfl) (by kernel_rfl) (by kernel_rfl) (by kernel_rfl) (by kernel_rfl) (fun _ _ _ h => h) hS (by rfl) (by intro w' hSw; obtain ⟨y0, y1, y2, y3⟩ := hSw; go_simp <;> with_reducible rfl) ?_
              simp only [Act.put, List.setIfInBounds_toArray, List.set_cons_zero, List.set_cons_succ]
              refine wpAnyL_take (i := 15) 72 (v := .slice (some ⟨g4, 0, none⟩) no c4) rfl rfl (by kernel_rfl) (by kernel_rfl) (by kernel_rfl) (by kernel_rfl) (by kernel_rfl) (by kernel_rfl) (fun _ _ _ h => h) hS (by rfl) (by intro w' hSw; obtain ⟨y0, y1, y2, y3⟩ := hSw; go_simp <;> with_reducible rfl) ?_
              simp only [Act.put, List.setIfInBounds_toArray, List.set_cons_zero, List.set_cons_succ]
              refine wpAnyL_take (i := 16) 73 (v := .int .i64 ((i : Int) + 1)) rfl rfl (by kernel_rfl) (by kernel_rfl) (by kernel_rfl) (by kernel_rfl) (by kernel_rfl) (by kernel_rfl) (fun _ _ _ h => h) hS (by rfl) (by intro w' hSw; obtain ⟨y0, y1, y2, y3⟩ := hSw; go_simp <;> with_reducible rfl) ?_
              simp only [Act.put, List.setIfInBounds_toArray, List.set_cons_zero, List.set_cons_succ]
              refine wpAnyL_take (i := 17) 74 (v := .pointer (some ⟨g4, i + 1, none⟩)) rfl rfl (by kernel_rfl) (by kernel_rfl) (by kernel_rfl) (by kernel_rfl) (by kernel_rfl) (by kernel_rfl) (fun _ _ _ h => h) hS (by rfl) (by intro w' hSw; obtain ⟨y0, y1, y2, y3⟩ := hSw; go_simp <;> with_reducible rfl) ?_
              simp only [Act.put, List.setIfInBounds_toArray, List.set_cons_zero, List.set_cons_succ]
              refine wpAnyL_take (i := 18) 75 (v := .int .i64 o) rfl rfl (by kernel_rfl) (by kernel_rfl) (by kernel_rfl) (by kernel_rfl) (by kernel_rfl) (by kernel_rfl) (fun _ _ _ h => h) hS (by rfl) (by intro w' hSw; obtain ⟨y0, y1, y2, y3⟩ := hSw; go_simp <;> with_reducible rfl) ?_
              simp only [Act.put, List.setIfInBounds_toArray, List.set_cons_zero, List.set_cons_succ]
              refine wpAnyL_take (i := 19) 76 (v := .pointer (some ⟨g1, o, none⟩)) rfl rfl (by kernel_rfl) (by kernel_rfl) (by kernel_rfl) (by kernel_rfl) (by kernel_rfl) (by kernel_rfl) (fun _ _ _ h => h) hS (by rfl) (by intro w' hSw; obtain ⟨y0, y1, y2, y3⟩ := hSw; go_simp <;> with_reducible rfl) ?_
              simp only [Act.put, List.setIfInBounds_toArray, List.set_cons_zero, List.set_cons_succ]
              refine wpAnyL_take (i := 20) 77 (v := .int .i64 x) rfl rfl (by kernel_rfl) (by kernel_rfl) (by kernel_rfl) (by kernel_rfl) (by kernel_rfl) (by kernel_rfl) (fun _ _ _ h => h) hS (by rfl) (by intro w' hSw; obtain ⟨y0, y1, y2, y3⟩ := hSw; go_simp <;> with_reducible rfl) ?_
              simp only [Act.put, List.setIfInBounds_toArray, List.set_cons_zero, List.set_cons_succ]
              refine wpAnyL_take (i := 21) 78 (v := .slice (some ⟨g2, 0, none⟩) m c2) rfl rfl (by kernel_rfl) (by kernel_rfl) (by kernel_rfl) (by kernel_rfl) (by kernel_rfl) (by kernel_rfl) (fun _ _ _ h => h) hS (by rfl) (by intro w' hSw; obtain ⟨y0, y1, y2, y3⟩ := hSw; go_simp <;> with_reducible rfl) ?_
              simp only [Act.put, List.setIfInBounds_toArray, List.set_cons_zero, List.set_cons_succ]
              refine wpAnyL_take (i := 22) 79 (v := .int .i64 k) rfl rfl (by kernel_rfl) (by kernel_rfl) (by kernel_rfl) (by kernel_rfl) (by kernel_rfl) (by kernel_rfl) (fun _ _ _ h => h) hS (by rfl) (by intro w' hSw; obtain ⟨y0, y1, y2, y3⟩ := hSw; go_simp <;> with_reducible rfl) ?_
              simp only [Act.put, List.setIfInBounds_toArray, List.set_cons_zero, List.set_cons_succ]
              refine wpAnyL_take (i := 23) 80 (v := .pointer (some ⟨g2, k, none⟩)) rfl rfl (by kernel_rfl) (by kernel_rfl) (by kernel_rfl) (by kernel_rfl) (by kernel_rfl) (by kernel_rfl) (fun _ _ _ h => h) hS (by rfl) (by intro w' hSw; obtain ⟨y0, y1, y2, y3⟩ := hSw; go_simp <;> with_reducible rfl) ?_
              simp only [Act.put, List.setIfInBounds_toArray, List.set_cons_zero, List.set_cons_succ]
              refine wpAnyL_take (i := 24) 81 (v := .int .i64 x) rfl rfl (by kernel_rfl) (by kernel_rfl) (by kernel_rfl) (by kernel_rfl) (by kernel_rfl) (by kernel_rfl) (fun _ _ _ h => h) hS (by rfl) (by intro w' hSw; obtain ⟨y0, y1, y2, y3⟩ := hSw; go_simp <;> with_reducible rfl) ?_
              simp only [Act.put, List.setIfInBounds_toArray, List.set_cons_zero, List.set_cons_succ]
              refine wpAnyL_take (i := 25) 82 (v := .bool false) rfl rfl (by kernel_rfl) (by kernel_rfl) (by kernel_rfl) (by kernel_rfl) (by kernel_rfl) (by kernel_rfl) (fun _ _ _ h => h) hS (by rfl) (by intro w' hSw; obtain ⟨y0, y1, y2, y3⟩ := hSw; go_simp <;> with_reducible rfl) ?_
              simp only [Act.put, List.setIfInBounds_toArray, List.set_cons_zero, List.set_cons_succ]
              refine wpAnyL_take (i := 26) 83 (v := .bool false) rfl rfl (by kernel_rfl) (by kernel_rfl) (by kernel_rfl) (by kernel_rfl) (by kernel_rfl) (by kernel_rfl) (fun _ _ _ h => h) hS (by rfl) (by intro w' hSw; obtain ⟨y0, y1, y2, y3⟩ := hSw; go_simp <;> with_reducible rfl) ?_
              simp only [Act.put, List.setIfInBounds_toArray, List.set_cons_zero, List.set_cons_succ]
              refine wpAnyL_take (i := 27) 84 (v := .bool false) rfl rfl (by kernel_rfl) (by kernel_rfl) (by kernel_rfl) (by kernel_rfl) (by kernel_rfl) (by kernel_rfl) (fun _ _ _ h => h) hS (by rfl) (by intro w' hSw; obtain ⟨y0, y1, y2, y3⟩ := hSw; go_simp <;> with_reducible rfl) ?_
              simp only [Act.put, List.setIfInBounds_toArray, List.set_cons_zero, List.set_cons_succ]
              refine wpAnyL_take (i := 28) 85 (v := .int .i64 ((i : Int) + 1)) rfl rfl (by kernel_rfl) (by kernel_rfl) (by kernel_rfl) (by kernel_rfl) (by kernel_rfl) (by kernel_rfl) (fun _ _ _ h => h) hS (by rfl) (by intro w' hSw; obtain ⟨y0, y1, y2, y3⟩ := hSw; go_simp <;> with_reducible rfl) ?_
              simp only [Act.put, List.setIfInBounds_toArray, List.set_cons_zero, List.set_cons_succ]
              refine wpAnyL_take (i := 29) 86 (v := .bool true) rfl rfl (by kernel_rfl) (by kernel_rfl) (by kernel_rfl) (by kernel_rfl) (by kernel_rfl) (by kernel_rfl) (fun _ _ _ h => h) hS (by rfl) (by intro w' hSw; obtain ⟨y0, y1, y2, y3⟩ := hSw; go_simp <;> with_reducible rfl) ?_
              simp only [Act.put, List.setIfInBounds_toArray, List.set_cons_zero, List.set_cons_succ]
              refine wpAnyL_take (i := 30) 87 (v := .bool true) rfl rfl (by kernel_rfl) (by kernel_rfl) (by kernel_rfl) (by kernel_rfl) (by kernel_rfl) (by kernel_rfl) (fun _ _ _ h => h) hS (by rfl) (by intro w' hSw; obtain ⟨y0, y1, y2, y3⟩ := hSw; go_simp <;> with_reducible rfl) ?_
              simp only [Act.put, List.setIfInBounds_toArray, List.set_cons_zero, List.set_cons_succ]
              refine wpAnyL_take (i := 31) 88 (v := .slice (some ⟨g4, 0, none⟩) no c4) rfl rfl (by kernel_rfl) (by kernel_rfl) (by kernel_rfl) (by kernel_rfl) (by kernel_rfl) (by kernel_rfl) (fun _ _ _ h => h) hS (by rfl) (by intro w' hSw; obtain ⟨y0, y1, y2, y3⟩ := hSw; go_simp <;> with_reducible rfl) ?_
              simp only [Act.put, List.setIfInBounds_toArray, List.set_cons_zero, List.set_cons_succ]
              refine wpAnyL_take (i := 32) 89 (v := .int .i64 ((i : Int) + 1)) rfl rfl (by kernel_rfl) (by kernel_rfl) (by kernel_rfl) (by kernel_rfl) (by kernel_rfl) (by kernel_rfl) (fun _ _ _ h => h) hS (by rfl) (by intro w' hSw; obtain ⟨y0, y1, y2, y3⟩ := hSw; go_simp <;> with_reducible rfl) ?_
              simp only [Act.put, List.setIfInBounds_toArray, List.set_cons_zero, List.set_cons_succ]
              refine wpAnyL_take (i := 33) 90 (v := .pointer (some ⟨g4, i + 1, none⟩)) rfl rfl (by kernel_rfl) (by kernel_rfl) (by kernel_rfl) (by kernel_rfl) (by kernel_rfl) (by kernel_rfl) (fun _ _ _ h => h) hS (by rfl) (by intro w' hSw; obtain ⟨y0, y1, y2, y3⟩ := hSw; go_simp <;> with_reducible rfl) ?_
              simp only [Act.put, List.setIfInBounds_toArray, List.set_cons_zero, List.set_cons_succ]
              refine wpAnyL_take (i := 34) 91 (v := .int .i64 o) rfl rfl (by kernel_rfl) (by kernel_rfl) (by kernel_rfl) (by kernel_rfl) (by kernel_rfl) (by kernel_rfl) (fun _ _ _ h => h) hS (by rfl) (by intro w' hSw; obtain ⟨y0, y1, y2, y3⟩ := hSw; go_simp <;> with_reducible rfl) ?_
              simp only [Act.put, List.setIfInBounds_toArray, List.set_cons_zero, List.set_cons_succ]
              refine wpAnyL_take (i := 35) 92 (v := .slice (some ⟨g4, 0, none⟩) no c4) rfl rfl (by kernel_rfl) (by kernel_rfl) (by kernel_rfl) (by kernel_rfl) (by kernel_rfl) (by kernel_rfl) (fun _ _ _ h => h) hS (by rfl) (by intro w' hSw; obtain ⟨y0, y1, y2, y3⟩ := hSw; go_simp <;> with_reducible rfl) ?_
              simp only [Act.put, List.setIfInBounds_toArray, List.set_cons_zero, List.set_cons_succ]
              refine wpAnyL_take (i := 36) 93 (v := .int .i64 ((i : Int) + 1)) rfl rfl (by kernel_rfl) (by kernel_rfl) (by kernel_rfl) (by kernel_rfl) (by kernel_rfl) (by kernel_rfl) (fun _ _ _ h => h) hS (by rfl) (by intro w' hSw; obtain ⟨y0, y1, y2, y3⟩ := hSw; go_simp <;> with_reducible rfl) ?_
              simp only [Act.put, List.setIfInBounds_toArray, List.set_cons_zero, List.set_cons_succ]
              refine wpAnyL_take (i := 37) 94 (v := .int .i64 i) rfl rfl (by kernel_rfl) (by kernel_rfl) (by kernel_rfl) (by kernel_rfl) (by kernel_rfl) (by kernel_rfl) (fun _ _ _ h => h) hS (by rfl) (by intro w' hSw; obtain ⟨y0, y1, y2, y3⟩ := hSw; go_simp <;> with_reducible rfl) ?_
              simp only [Act.put, List.setIfInBounds_toArray, List.set_cons_zero, List.set_cons_succ]
              refine wpAnyL_take (i := 38) 95 (v := .pointer (some ⟨g4, i, none⟩)) rfl rfl (by kernel_rfl) (by kernel_rfl) (by kernel_rfl) (by kernel_rfl) (by kernel_rfl) (by kernel_rfl) (fun _ _ _ h => h) hS (by rfl) (by intro w' hSw; obtain ⟨y0, y1, y2, y3⟩ := hSw; go_simp <;> with_reducible rfl) ?_
              simp only [Act.put, List.setIfInBounds_toArray, List.set_cons_zero, List.set_cons_succ]
              refine wpAnyL_take (i := 39) 96 (v := .int .i64 z) rfl rfl (by kernel_rfl) (by kernel_rfl) (by kernel_rfl) (by kernel_rfl) (by kernel_rfl) (by kernel_rfl) (fun _ _ _ h => h) hS (by rfl) (by intro w' hSw; obtain ⟨y0, y1, y2, y3⟩ := hSw; go_simp <;> with_reducible rfl) ?_
              simp only [Act.put, List.setIfInBounds_toArray, List.set_cons_zero, List.set_cons_succ]
              refine wpAnyL_take (i := 40) 97 (v := .bool false) rfl rfl (by kernel_rfl) (by kernel_rfl) (by kernel_rfl) (by kernel_rfl) (by kernel_rfl) (by kernel_rfl) (fun _ _ _ h => h) hS (by rfl) (by intro w' hSw; obtain ⟨y0, y1, y2, y3⟩ := hSw; go_simp <;> with_reducible rfl) ?_
              simp only [Act.put, List.setIfInBounds_toArray, List.set_cons_zero, List.set_cons_succ]
              refine wpAnyL_take (i := 41) 98 (v := .bool false) rfl rfl (by kernel_rfl) (by kernel_rfl) (by kernel_rfl) (by kernel_rfl) (by kernel_rfl) (by kernel_rfl) (fun _ _ _ h => h) hS (by rfl) (by intro w' hSw; obtain ⟨y0, y1, y2, y3⟩ := hSw; go_simp <;> with_reducible rfl) ?_
              simp only [Act.put, List.setIfInBounds_toArray, List.set_cons_zero, List.set_cons_succ]
              refine wpAnyL_take (i := 42) 99 (v := .bool false) rfl rfl (by kernel_rfl) (by kernel_rfl) (by kernel_rfl) (by kernel_rfl) (by kernel_rfl) (by kernel_rfl) (fun _ _ _ h => h) hS (by rfl) (by intro w' hSw; obtain ⟨y0, y1, y2, y3⟩ := hSw; go_simp <;> with_reducible rfl) ?_
              simp only [Act.put, List.setIfInBounds_toArray, List.set_cons_zero, List.set_cons_succ]
              refine wpAnyL_done (by kernel_rfl) ?_ _
              go_wp2
              go_roundw
              case rel => exact ⟨i + 2, q + 1, HJl.out, by go_num, HQ2⟩
              case measure => have := HJl.out; simp [intOf]; omega
          · obtain rfl : no = j := by omega
            have HB5 : Hid (Below w3.heap.size w3 wr) := by show Below _ _ _; rw [HQ.out]; exact below_drewN HB4.out q
            clear hjl
            go_wp2
            go_roundw
            case rel =>
              have h1 := HAB.out
              have h2 := HBt2.out
              refine ⟨min a no, max b no, k + 1, HLt.out, by go_num, ?_, ?_, by omega, by omega, ⟨by omega, by omega⟩, HB5⟩
              · exact congrArg _ (show min (a : Int) no = ((min a no : Nat) : Int) by omega)
              · exact congrArg _ (show max (b : Int) no = ((max b no : Nat) : Int) by omega)
            case measure => have := HLt.out; simp [intOf]; omega
      · obtain rfl : k = m := by omega
        have HAB2 := HAB.out
        have hab : b ≤ a + 1 := by omega
        clear hlt HAB2
        rename World => wo
        go_wp2
        go_loopw [12] (fun i wr => ∃ j q : Nat, j ≤ n ∧ i = .int .i64 j ∧ Hid (wr = wo.drewN q)) (fun i _ => n - (intOf i).toNat)
        case atStart => exact ⟨0, 0, Nat.zero_le _, rfl, rfl⟩
        case round =>
          obtain ⟨j, q, hj, rfl, HQ⟩ := hrel
          by_cases hjl : j < n
          · have HJl : Hid (j < n) := hjl
            obtain ⟨g1, rfl⟩ := HG1.out (by omega)
            have hmod : j % k < k := Nat.mod_lt _ hRl
            have hjA : j < A.length := by rw [HAl.out]; exact hjl
            have hjR : j % k < R.length := by rw [HMm.out]; exact hmod
            have a0 : wr.cell? ⟨g1, j, none⟩ = some (.int .i64 A[j]) := by rw [HQ.out]; exact IO_.at_ (GO.new HA.out HBr.out) j hjA
            have r0 : wr.cell? ⟨g2, j % k, none⟩ = some (.int .i64 R[j % k]) := by rw [HQ.out]; exact IO_.at_ (GO.new HR.out HBr.out) (j % k) hjR
            have e : A[j] = R[j % k] := by
              have h1 := turn_at (R := R) (p := n) hjl
              rw [HAe.out, List.getElem?_eq_getElem hjA, HMm.out, List.getD, List.getElem?_eq_getElem hjR] at h1
              exact Option.some.inj h1
            rw [e] at a0
            generalize R[j % k] = x at a0 r0
            clear e hjA hjR
            go_wp2
            go_quiet (fail)
            go_wp2
            go_roundw
            case rel => exact ⟨j + 1, _, HJl.out, by go_num, by rw [HQ.out]; exact (World.drewN_drewN _ _ _)⟩
            case measure => have := HJl.out; simp [intOf]; omega
          · obtain rfl : j = n := by omega
            have HB5 : Hid (Below w3.heap.size w3 wr) := by show Below _ _ _; rw [HQ.out]; exact below_drewN HBr.out q
            clear hjl
            have hW1 := pworkers (GO.toS (GO.new HA.out HB5.out)) (by rw [HAl.out]; omega)
            have HAs : Hid (IS wr (.slice ao1 j c1) A) := GO.toS (GO.new HA.out HB5.out)
            have tk1 : Hid True := trivial
            have hnl : ∀ W, IS W (.slice none 0 0) [] := fun W => GO.toS (GO.nil ie 1 3 W 0)
            have hab2 : (b : Int) - (a : Int) ≤ 1 := by omega
            go_wp2_with (first
              | (go_at_call 11; have _t := tk1; refine hW1.mono ?_; rintro r w5 ⟨v5, rfl, hr5, hb5⟩; clear tk1 _t; have hRs := lrising (HAs.out.new hb5) (by rw [HAl.out]; omega); obtain ⟨ao5, c5, rfl, _, _⟩ := GO.shape hr5)
              | (go_at_call 7; refine hRs.mono ?_; rintro r w6 ⟨v6, rfl, hr6, hb6⟩; have hSm := lsame (GO.toS (GO.new hr5 hb6)) (GO.toS hr6) (by have := risL_len A; have := HAl.out; omega); obtain ⟨ao6, c6, rfl, _, _⟩ := GO.shape hr6; rw [decide_eq_true rfl] at hSm)
              | (go_at_call 10; refine hSm.mono ?_; rintro r w7 ⟨rfl, q7, hq7⟩; have HQ7 : Hid (w7 = w6.drewN q7) := hq7; clear hq7; have hW2 := pworkers (hnl w7) (by decide))
              | (go_at_call 11; refine hW2.mono ?_; rintro r w8 ⟨v8, rfl, hr8, hb8⟩; obtain ⟨ao8, c8, rfl, _, _⟩ := GO.shape hr8))
            go_ret
            refine ⟨by simp [risL], ?_⟩
            have b1 : Below w.heap.size w wr := HB.out.trans (HB5.out.mono HB.out.size)
            have b2 := b1.trans (hb5.mono b1.size)
            have b3 := b2.trans (hb6.mono b2.size)
            have b4 : Below w.heap.size w w7 := by rw [HQ7.out]; exact below_drewN b3 q7
            exact b4.trans (hb8.mono b4.size)
end Go.Proofs.Ytipopaicehimeaa
