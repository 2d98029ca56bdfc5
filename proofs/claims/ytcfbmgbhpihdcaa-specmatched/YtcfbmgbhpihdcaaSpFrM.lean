import Derived.Test.YtcfbmgbhpihdcaaRegUM
import Derived.Test.YtcfbmgbhpihdcaaSpHqM
import Derived.Test.YtcfbmgbhpihdcaaSpDegM
/- spec.Far: its regions that draw their order. -/
namespace Go.Proofs.Ytcfbmgbhpihdcaa
open Go.RowKit Go.Shelf
attribute [local go_sem] Oper.semAt_some
theorem size_arc : (Try.prog.info? 93).map (·.size) = some 2 := by kernel_rfl
set_option maxRecDepth 100000 in
set_option maxHeartbeats 2000000 in
theorem length_any {W : World} {t y : Int} : Calls Try.prog 46 #[.agg #[.int .i64 t, .int .i64 y], .bool false] W fun r w' => r = .returned (.int .i64 y) ∧ Below W.heap.size W w' := by
  go_enter Try.func46, Try.ntmps46
  go_wp2
  go_ret
  exact ⟨rfl, one_new _ _⟩
set_option maxRecDepth 100000 in
set_option maxHeartbeats 2000000 in
theorem add_small {W : World} {a b : Int} (ha : 0 ≤ a ∧ a ≤ 100) (hb : 0 ≤ b ∧ b ≤ 100) : Calls Try.prog 45 #[.int .i64 a, .int .i64 b] W fun r w' => r = .returned (.tuple #[.int .i64 (a + b), .int .i64 0]) ∧ w' = W := by
  have h1 : wrap64 (a + b) = a + b := by unfold wrap64; omega
  have h2 : wrap64 (9223372036854775807 - b) = 9223372036854775807 - b := by unfold wrap64; omega
  have h3 : ¬ (a > 9223372036854775807 - b) := by omega
  have h4 : ¬ b < 0 := by omega
  go_enter Try.func45, Try.ntmps45
  by_cases h5 : b > 0
  all_goals
    go_wp2
    go_ret2
    exact ⟨rfl, rfl⟩
set_option maxRecDepth 100000 in
set_option maxHeartbeats 1000000 in
theorem far_r19 {W0 : World} {A : Act} {sb ab : Nat} {d ta ya : Int} {K : Act → World → Prop} {Q' : Exit → Act → World → Prop} (hsz : A.tmps.size = 108) (hA15 : A.eval (.tmp 15) = .pointer (some ⟨sb, 0, none⟩)) (hA17 : A.eval (.tmp 17) = .pointer (some ⟨ab, 0, none⟩)) (hA2 : A.eval (.tmp 2) = .bool false) (hs1 : W0.cell? ⟨sb, 1, none⟩ = some (.int .i64 d)) (hab : W0.heap[ab]? = some (.cells #[.int .i64 ta, .int .i64 ya] 93 (0, 0))) (hdd : 0 ≤ d ∧ d ≤ 100) (hyy : 0 ≤ ya ∧ ya ≤ 100)
    (HK : ∀ X W, Below W0.heap.size W0 W → X 18 = .int .i64 (d + ya) ∧ X 19 = .int .i64 0 → K (puts A X [87, 88, 89, 90, 91, 92, 86, 93, 94, 18, 19]) W) :
    Code.wp Try.prog ((Try.f17.body.bind (regionJ 19)).getD .skip) (Exit.then K Q') A W0 := by
  obtain ⟨ds, hds⟩ : ∃ ds, [87, 88, 89, 90, 91, 92, 86, 93, 94, 18, 19] = ds := ⟨_, rfl⟩
  have hin : ∀ {X : Nat → Value} {k : Nat}, k ∈ [87, 88, 89, 90, 91, 92, 86, 93, 94, 18, 19] → (puts A X ds).eval (.tmp k) = X k := fun hk => by rw [← hds]; exact eval_in hk (by rw [hsz]; revert hk; simp only [List.mem_cons, List.not_mem_nil, or_false]; omega)
  have hout : ∀ {X : Nat → Value} {k : Nat}, k ∉ [87, 88, 89, 90, 91, 92, 86, 93, 94, 18, 19] → (puts A X ds).eval (.tmp k) = A.eval (.tmp k) := fun hk => by rw [← hds]; exact eval_out hk
  have g0 : ds.getD 0 0 = 87 := by rw [← hds]; rfl
  have g1 : ds.getD 1 0 = 88 := by rw [← hds]; rfl
  have g2 : ds.getD 2 0 = 89 := by rw [← hds]; rfl
  have g3 : ds.getD 3 0 = 90 := by rw [← hds]; rfl
  have g4 : ds.getD 4 0 = 91 := by rw [← hds]; rfl
  have g5 : ds.getD 5 0 = 92 := by rw [← hds]; rfl
  have g6 : ds.getD 6 0 = 86 := by rw [← hds]; rfl
  have g7 : ds.getD 7 0 = 93 := by rw [← hds]; rfl
  have g8 : ds.getD 8 0 = 94 := by rw [← hds]; rfl
  have g9 : ds.getD 9 0 = 18 := by rw [← hds]; rfl
  have g10 : ds.getD 10 0 = 19 := by rw [← hds]; rfl
  obtain ⟨V, hV, e0, e1, e2, e3, e4, e5, e6, e7, e8, e9, e10⟩ : ∃ V : Nat → Value → World → Prop, (∀ i v W W', V i v W → Below W.heap.size W W' → V i v W') ∧ (∀ v W, V 0 v W = (v = .pointer (some ⟨sb, 1, none⟩))) ∧ (∀ v W, V 1 v W = (v = .int .i64 d)) ∧ (∀ v W, V 2 v W = (v = .agg #[.int .i64 ta, .int .i64 ya])) ∧ (∀ v W, V 3 v W = (v = .bool false)) ∧ (∀ v W, V 4 v W = (v = .int .i64 ya)) ∧ (∀ v W, V 5 v W = (v = .tuple #[.int .i64 (d + ya), .int .i64 0])) ∧ (∀ v W, V 6 v W = (v = .tuple #[.int .i64 (d + ya), .int .i64 0])) ∧ (∀ v W, V 7 v W = (v = .int .i64 (d + ya))) ∧ (∀ v W, V 8 v W = (v = .int .i64 0)) ∧ (∀ v W, V 9 v W = (v = .int .i64 (d + ya))) ∧ (∀ v W, V 10 v W = (v = .int .i64 0)) := by
    refine ⟨fun i v W => match i with
      | 0 => v = .pointer (some ⟨sb, 1, none⟩)
      | 1 => v = .int .i64 d
      | 2 => v = .agg #[.int .i64 ta, .int .i64 ya]
      | 3 => v = .bool false
      | 4 => v = .int .i64 ya
      | 5 => v = .tuple #[.int .i64 (d + ya), .int .i64 0]
      | 6 => v = .tuple #[.int .i64 (d + ya), .int .i64 0]
      | 7 => v = .int .i64 (d + ya)
      | 8 => v = .int .i64 0
      | 9 => v = .int .i64 (d + ya)
      | 10 => v = .int .i64 0
      | _ => True, ?_, fun _ _ => rfl, fun _ _ => rfl, fun _ _ => rfl, fun _ _ => rfl, fun _ _ => rfl, fun _ _ => rfl, fun _ _ => rfl, fun _ _ => rfl, fun _ _ => rfl, fun _ _ => rfl, fun _ _ => rfl⟩
    intro i v W W' h hb
    match i, h with
    | 0, h => exact h
    | 1, h => exact h
    | 2, h => exact h
    | 3, h => exact h
    | 4, h => exact h
    | 5, h => exact h
    | 6, h => exact h
    | 7, h => exact h
    | 8, h => exact h
    | 9, h => exact h
    | 10, h => exact h
    | _ + 11, _ => trivial
  conv => arg 2; whnf
  refine wp_region_V ds V (by kernel_rfl) (by kernel_rfl) (by rw [← hds]; kernel_rfl) hV ?_ ?_
  · refine ⟨?_, ?_, ?_, ?_, ?_, ?_, ?_, ?_, ?_, ?_, ?_, trivial⟩
    all_goals intro X W hb hd
    · have h0 := hout (X := X) (k := 15) (by decide)
      rw [hA15] at h0
      refine v_value (V := V 0) (v := .pointer (some ⟨sb, 1, none⟩)) ?_ (by rw [e0])
      generalize (puts A X ds).eval = ρ at h0 ⊢
      go_simp
    · have d0 := hd 0 (by kernel_rfl)
      rw [e0, g0] at d0
      have h0 := (hin (X := X) (k := 87) (by decide)).trans d0
      have cs1 := (hb.cell (p := ⟨sb, 1, none⟩) (lt_cell hs1)).trans hs1
      refine v_value (V := V 1) (v := .int .i64 d) ?_ (by rw [e1])
      generalize (puts A X ds).eval = ρ at h0 ⊢
      go_simp
    · have h0 := hout (X := X) (k := 17) (by decide)
      rw [hA17] at h0
      exact wp_load_row 93 _ rfl ab h0 93 #[.int .i64 ta, .int .i64 ya] (0, 0) _ ((hb.block _ (lt_of_block hab)).trans hab) Try.underlying93 rfl size_arc ⟨_, rfl, by rw [e2], Below.refl _ _⟩
    · have h0 := hout (X := X) (k := 2) (by decide)
      rw [hA2] at h0
      refine v_value (V := V 3) (v := .bool false) ?_ (by rw [e3])
      generalize (puts A X ds).eval = ρ at h0 ⊢
      go_simp
    · have d0 := hd 2 (by kernel_rfl)
      rw [e2, g2] at d0
      have h0 := (hin (X := X) (k := 89) (by decide)).trans d0
      have d1 := hd 3 (by kernel_rfl)
      rw [e3, g3] at d1
      have h1 := (hin (X := X) (k := 90) (by decide)).trans d1
      have hf : (puts A X ds).eval (.func 46) = .func (.func 46) #[] #[] := rfl
      refine v_call (V := V 4) (f := 46) (vs := #[.agg #[.int .i64 ta, .int .i64 ya], .bool false]) ?_ ?_
      · generalize (puts A X ds).eval = ρ at h0 h1 hf ⊢
        go_simp
      · refine (length_any).mono ?_
        rintro r W' ⟨rfl, hb'⟩
        exact ⟨_, rfl, by rw [e4], hb'⟩
    · have d0 := hd 1 (by kernel_rfl)
      rw [e1, g1] at d0
      have h0 := (hin (X := X) (k := 88) (by decide)).trans d0
      have d1 := hd 4 (by kernel_rfl)
      rw [e4, g4] at d1
      have h1 := (hin (X := X) (k := 91) (by decide)).trans d1
      have hf : (puts A X ds).eval (.func 45) = .func (.func 45) #[] #[] := rfl
      refine v_call (V := V 5) (f := 45) (vs := #[.int .i64 d, .int .i64 ya]) ?_ ?_
      · generalize (puts A X ds).eval = ρ at h0 h1 hf ⊢
        go_simp
      · refine (add_small hdd hyy).mono ?_
        rintro r W' ⟨rfl, rfl⟩
        exact ⟨_, rfl, by rw [e5], Below.refl _ _⟩
    · have d0 := hd 5 (by kernel_rfl)
      rw [e5, g5] at d0
      have h0 := (hin (X := X) (k := 92) (by decide)).trans d0
      refine v_value (V := V 6) (v := .tuple #[.int .i64 (d + ya), .int .i64 0]) ?_ (by rw [e6])
      generalize (puts A X ds).eval = ρ at h0 ⊢
      go_simp
    · have d0 := hd 6 (by kernel_rfl)
      rw [e6, g6] at d0
      have h0 := (hin (X := X) (k := 86) (by decide)).trans d0
      refine v_value (V := V 7) (v := .int .i64 (d + ya)) ?_ (by rw [e7])
      generalize (puts A X ds).eval = ρ at h0 ⊢
      go_simp
    · have d0 := hd 6 (by kernel_rfl)
      rw [e6, g6] at d0
      have h0 := (hin (X := X) (k := 86) (by decide)).trans d0
      refine v_value (V := V 8) (v := .int .i64 0) ?_ (by rw [e8])
      generalize (puts A X ds).eval = ρ at h0 ⊢
      go_simp
    · have d0 := hd 7 (by kernel_rfl)
      rw [e7, g7] at d0
      have h0 := (hin (X := X) (k := 93) (by decide)).trans d0
      refine v_value (V := V 9) (v := .int .i64 (d + ya)) ?_ (by rw [e9])
      generalize (puts A X ds).eval = ρ at h0 ⊢
      go_simp
    · have d0 := hd 8 (by kernel_rfl)
      rw [e8, g8] at d0
      have h0 := (hin (X := X) (k := 94) (by decide)).trans d0
      refine v_value (V := V 10) (v := .int .i64 0) ?_ (by rw [e10])
      generalize (puts A X ds).eval = ρ at h0 ⊢
      go_simp
  · intro X W hb hall
    have r0 := hall 0 (by decide)
    rw [e0, g0] at r0
    have r1 := hall 1 (by decide)
    rw [e1, g1] at r1
    have r2 := hall 2 (by decide)
    rw [e2, g2] at r2
    have r3 := hall 3 (by decide)
    rw [e3, g3] at r3
    have r4 := hall 4 (by decide)
    rw [e4, g4] at r4
    have r5 := hall 5 (by decide)
    rw [e5, g5] at r5
    have r6 := hall 6 (by decide)
    rw [e6, g6] at r6
    have r7 := hall 7 (by decide)
    rw [e7, g7] at r7
    have r8 := hall 8 (by decide)
    rw [e8, g8] at r8
    have r9 := hall 9 (by decide)
    rw [e9, g9] at r9
    have r10 := hall 10 (by decide)
    rw [e10, g10] at r10
    have := HK X W hb (by first | assumption | exact ⟨by assumption, by assumption⟩ | exact ⟨by assumption, by assumption, by assumption⟩ | simp_all)
    rw [hds] at this
    exact this
set_option maxRecDepth 100000 in
set_option maxHeartbeats 1000000 in
theorem far_r5 {W0 : World} {A : Act} {wb gi n ci : Nat} {K : Act → World → Prop} {Q' : Exit → Act → World → Prop} (hsz : A.tmps.size = 108) (hA8 : A.eval (.tmp 8) = .pointer (some ⟨wb, 0, none⟩)) (hcw : W0.cell? ⟨wb, 0, none⟩ = some (.slice (some ⟨gi, 0, none⟩) n ci)) (hm1 : ∀ W : World, (Instr.makeSlice 38 (.int .i64 (n : Int)) (.int .i64 (n : Int))).run Try.prog W = .ok (.slice (some ⟨W.heap.size, 0, none⟩) n n) (W.alloc (.cells (madeCells #[.int .i64 0] n) 2))) (hm2 : ∀ W : World, (Instr.makeSlice 41 (.int .i64 (n : Int)) (.int .i64 (n : Int))).run Try.prog W = .ok (.slice (some ⟨W.heap.size, 0, none⟩) n n) (W.alloc (.cells (madeCells #[.bool false] n) 4)))
    (HK : ∀ X W, Below W0.heap.size W0 W → (∃ g, X 11 = .slice (some ⟨g, 0, none⟩) n n ∧ W.heap[g]? = some (.cells (madeCells #[.int .i64 0] n) 2 (0, 0)) ∧ W0.heap.size ≤ g) ∧ (∃ g, X 12 = .slice (some ⟨g, 0, none⟩) n n ∧ W.heap[g]? = some (.cells (madeCells #[.bool false] n) 4 (0, 0)) ∧ W0.heap.size ≤ g) → K (puts A X [30, 31, 32, 33, 34, 35, 36, 37, 11, 12]) W) :
    Code.wp Try.prog ((Try.f17.body.bind (regionJ 5)).getD .skip) (Exit.then K Q') A W0 := by
  obtain ⟨ds, hds⟩ : ∃ ds, [30, 31, 32, 33, 34, 35, 36, 37, 11, 12] = ds := ⟨_, rfl⟩
  have hin : ∀ {X : Nat → Value} {k : Nat}, k ∈ [30, 31, 32, 33, 34, 35, 36, 37, 11, 12] → (puts A X ds).eval (.tmp k) = X k := fun hk => by rw [← hds]; exact eval_in hk (by rw [hsz]; revert hk; simp only [List.mem_cons, List.not_mem_nil, or_false]; omega)
  have hout : ∀ {X : Nat → Value} {k : Nat}, k ∉ [30, 31, 32, 33, 34, 35, 36, 37, 11, 12] → (puts A X ds).eval (.tmp k) = A.eval (.tmp k) := fun hk => by rw [← hds]; exact eval_out hk
  have g0 : ds.getD 0 0 = 30 := by rw [← hds]; rfl
  have g1 : ds.getD 1 0 = 31 := by rw [← hds]; rfl
  have g2 : ds.getD 2 0 = 32 := by rw [← hds]; rfl
  have g3 : ds.getD 3 0 = 33 := by rw [← hds]; rfl
  have g4 : ds.getD 4 0 = 34 := by rw [← hds]; rfl
  have g5 : ds.getD 5 0 = 35 := by rw [← hds]; rfl
  have g6 : ds.getD 6 0 = 36 := by rw [← hds]; rfl
  have g7 : ds.getD 7 0 = 37 := by rw [← hds]; rfl
  have g8 : ds.getD 8 0 = 11 := by rw [← hds]; rfl
  have g9 : ds.getD 9 0 = 12 := by rw [← hds]; rfl
  obtain ⟨V, hV, e0, e1, e2, e3, e4, e5, e6, e7, e8, e9⟩ : ∃ V : Nat → Value → World → Prop, (∀ i v W W', V i v W → Below W.heap.size W W' → V i v W') ∧ (∀ v W, V 0 v W = (v = .pointer (some ⟨wb, 0, none⟩))) ∧ (∀ v W, V 1 v W = (v = .slice (some ⟨gi, 0, none⟩) n ci)) ∧ (∀ v W, V 2 v W = (v = .int .i64 (n : Int))) ∧ (∀ v W, V 3 v W = (∃ g, v = .slice (some ⟨g, 0, none⟩) n n ∧ W.heap[g]? = some (.cells (madeCells #[.int .i64 0] n) 2 (0, 0)) ∧ W0.heap.size ≤ g)) ∧ (∀ v W, V 4 v W = (v = .pointer (some ⟨wb, 0, none⟩))) ∧ (∀ v W, V 5 v W = (v = .slice (some ⟨gi, 0, none⟩) n ci)) ∧ (∀ v W, V 6 v W = (v = .int .i64 (n : Int))) ∧ (∀ v W, V 7 v W = (∃ g, v = .slice (some ⟨g, 0, none⟩) n n ∧ W.heap[g]? = some (.cells (madeCells #[.bool false] n) 4 (0, 0)) ∧ W0.heap.size ≤ g)) ∧ (∀ v W, V 8 v W = (∃ g, v = .slice (some ⟨g, 0, none⟩) n n ∧ W.heap[g]? = some (.cells (madeCells #[.int .i64 0] n) 2 (0, 0)) ∧ W0.heap.size ≤ g)) ∧ (∀ v W, V 9 v W = (∃ g, v = .slice (some ⟨g, 0, none⟩) n n ∧ W.heap[g]? = some (.cells (madeCells #[.bool false] n) 4 (0, 0)) ∧ W0.heap.size ≤ g)) := by
    refine ⟨fun i v W => match i with
      | 0 => v = .pointer (some ⟨wb, 0, none⟩)
      | 1 => v = .slice (some ⟨gi, 0, none⟩) n ci
      | 2 => v = .int .i64 (n : Int)
      | 3 => ∃ g, v = .slice (some ⟨g, 0, none⟩) n n ∧ W.heap[g]? = some (.cells (madeCells #[.int .i64 0] n) 2 (0, 0)) ∧ W0.heap.size ≤ g
      | 4 => v = .pointer (some ⟨wb, 0, none⟩)
      | 5 => v = .slice (some ⟨gi, 0, none⟩) n ci
      | 6 => v = .int .i64 (n : Int)
      | 7 => ∃ g, v = .slice (some ⟨g, 0, none⟩) n n ∧ W.heap[g]? = some (.cells (madeCells #[.bool false] n) 4 (0, 0)) ∧ W0.heap.size ≤ g
      | 8 => ∃ g, v = .slice (some ⟨g, 0, none⟩) n n ∧ W.heap[g]? = some (.cells (madeCells #[.int .i64 0] n) 2 (0, 0)) ∧ W0.heap.size ≤ g
      | 9 => ∃ g, v = .slice (some ⟨g, 0, none⟩) n n ∧ W.heap[g]? = some (.cells (madeCells #[.bool false] n) 4 (0, 0)) ∧ W0.heap.size ≤ g
      | _ => True, ?_, fun _ _ => rfl, fun _ _ => rfl, fun _ _ => rfl, fun _ _ => rfl, fun _ _ => rfl, fun _ _ => rfl, fun _ _ => rfl, fun _ _ => rfl, fun _ _ => rfl, fun _ _ => rfl⟩
    intro i v W W' h hb
    match i, h with
    | 0, h => exact h
    | 1, h => exact h
    | 2, h => exact h
    | 3, h => exact (by obtain ⟨g, h1, h2, h3⟩ := h; exact ⟨g, h1, (hb.block _ (Array.getElem?_eq_some_iff.1 h2).1).trans h2, h3⟩)
    | 4, h => exact h
    | 5, h => exact h
    | 6, h => exact h
    | 7, h => exact (by obtain ⟨g, h1, h2, h3⟩ := h; exact ⟨g, h1, (hb.block _ (Array.getElem?_eq_some_iff.1 h2).1).trans h2, h3⟩)
    | 8, h => exact (by obtain ⟨g, h1, h2, h3⟩ := h; exact ⟨g, h1, (hb.block _ (Array.getElem?_eq_some_iff.1 h2).1).trans h2, h3⟩)
    | 9, h => exact (by obtain ⟨g, h1, h2, h3⟩ := h; exact ⟨g, h1, (hb.block _ (Array.getElem?_eq_some_iff.1 h2).1).trans h2, h3⟩)
    | _ + 10, _ => trivial
  conv => arg 2; whnf
  refine wp_region_V ds V (by kernel_rfl) (by kernel_rfl) (by rw [← hds]; kernel_rfl) hV ?_ ?_
  · refine ⟨?_, ?_, ?_, ?_, ?_, ?_, ?_, ?_, ?_, ?_, trivial⟩
    all_goals intro X W hb hd
    · have h0 := hout (X := X) (k := 8) (by decide)
      rw [hA8] at h0
      refine v_value (V := V 0) (v := .pointer (some ⟨wb, 0, none⟩)) ?_ (by rw [e0])
      generalize (puts A X ds).eval = ρ at h0 ⊢
      go_simp
    · have d0 := hd 0 (by kernel_rfl)
      rw [e0, g0] at d0
      have h0 := (hin (X := X) (k := 30) (by decide)).trans d0
      have cw := (hb.cell (p := ⟨wb, 0, none⟩) (lt_cell hcw)).trans hcw
      refine v_value (V := V 1) (v := .slice (some ⟨gi, 0, none⟩) n ci) ?_ (by rw [e1])
      generalize (puts A X ds).eval = ρ at h0 ⊢
      go_simp
    · have d0 := hd 1 (by kernel_rfl)
      rw [e1, g1] at d0
      have h0 := (hin (X := X) (k := 31) (by decide)).trans d0
      refine v_value (V := V 2) (v := .int .i64 (n : Int)) ?_ (by rw [e2])
      generalize (puts A X ds).eval = ρ at h0 ⊢
      go_simp
    · have d0 := hd 2 (by kernel_rfl)
      rw [e2, g2] at d0
      have h0 := (hin (X := X) (k := 32) (by decide)).trans d0
      refine v_new (V := V 3) (v := .slice (some ⟨W.heap.size, 0, none⟩) n n) (w' := W.alloc (.cells (madeCells #[.int .i64 0] n) 2)) ?_ (by rw [e3]; exact ⟨_, rfl, heap_alloc_new _ _, hb.size⟩) (one_new _ _)
      have hmm := hm1 W
      generalize (puts A X ds).eval = ρ at h0 ⊢
      go_simp
    · have h0 := hout (X := X) (k := 8) (by decide)
      rw [hA8] at h0
      refine v_value (V := V 4) (v := .pointer (some ⟨wb, 0, none⟩)) ?_ (by rw [e4])
      generalize (puts A X ds).eval = ρ at h0 ⊢
      go_simp
    · have d0 := hd 4 (by kernel_rfl)
      rw [e4, g4] at d0
      have h0 := (hin (X := X) (k := 34) (by decide)).trans d0
      have cw := (hb.cell (p := ⟨wb, 0, none⟩) (lt_cell hcw)).trans hcw
      refine v_value (V := V 5) (v := .slice (some ⟨gi, 0, none⟩) n ci) ?_ (by rw [e5])
      generalize (puts A X ds).eval = ρ at h0 ⊢
      go_simp
    · have d0 := hd 5 (by kernel_rfl)
      rw [e5, g5] at d0
      have h0 := (hin (X := X) (k := 35) (by decide)).trans d0
      refine v_value (V := V 6) (v := .int .i64 (n : Int)) ?_ (by rw [e6])
      generalize (puts A X ds).eval = ρ at h0 ⊢
      go_simp
    · have d0 := hd 6 (by kernel_rfl)
      rw [e6, g6] at d0
      have h0 := (hin (X := X) (k := 36) (by decide)).trans d0
      refine v_new (V := V 7) (v := .slice (some ⟨W.heap.size, 0, none⟩) n n) (w' := W.alloc (.cells (madeCells #[.bool false] n) 4)) ?_ (by rw [e7]; exact ⟨_, rfl, heap_alloc_new _ _, hb.size⟩) (one_new _ _)
      have hmm := hm2 W
      generalize (puts A X ds).eval = ρ at h0 ⊢
      go_simp
    · have d0 := hd 3 (by kernel_rfl)
      rw [e3, g3] at d0
      obtain ⟨g, d0, p0⟩ := d0
      have h0 := (hin (X := X) (k := 33) (by decide)).trans d0
      refine v_value (V := V 8) (v := .slice (some ⟨g, 0, none⟩) n n) ?_ (by rw [e8]; exact ⟨g, rfl, p0⟩)
      generalize (puts A X ds).eval = ρ at h0 ⊢
      go_simp
    · have d0 := hd 7 (by kernel_rfl)
      rw [e7, g7] at d0
      obtain ⟨g, d0, p0⟩ := d0
      have h0 := (hin (X := X) (k := 37) (by decide)).trans d0
      refine v_value (V := V 9) (v := .slice (some ⟨g, 0, none⟩) n n) ?_ (by rw [e9]; exact ⟨g, rfl, p0⟩)
      generalize (puts A X ds).eval = ρ at h0 ⊢
      go_simp
  · intro X W hb hall
    have r0 := hall 0 (by decide)
    rw [e0, g0] at r0
    have r1 := hall 1 (by decide)
    rw [e1, g1] at r1
    have r2 := hall 2 (by decide)
    rw [e2, g2] at r2
    have r3 := hall 3 (by decide)
    rw [e3, g3] at r3
    have r4 := hall 4 (by decide)
    rw [e4, g4] at r4
    have r5 := hall 5 (by decide)
    rw [e5, g5] at r5
    have r6 := hall 6 (by decide)
    rw [e6, g6] at r6
    have r7 := hall 7 (by decide)
    rw [e7, g7] at r7
    have r8 := hall 8 (by decide)
    rw [e8, g8] at r8
    have r9 := hall 9 (by decide)
    rw [e9, g9] at r9
    have := HK X W hb (by first | assumption | exact ⟨by assumption, by assumption⟩ | exact ⟨by assumption, by assumption, by assumption⟩ | simp_all)
    rw [hds] at this
    exact this
end Go.Proofs.Ytcfbmgbhpihdcaa
