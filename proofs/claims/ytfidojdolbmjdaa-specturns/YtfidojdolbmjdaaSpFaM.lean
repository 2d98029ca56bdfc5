import Derived.Test.YtfidojdolbmjdaaRegUM
import Derived.Test.YtfidojdolbmjdaaSpHqM
import Derived.Test.YtfidojdolbmjdaaSpDegM
import Derived.Scope
section
/- spec.Far: its regions that draw their order. -/
namespace Go.Proofs.Ytfidojdolbmjdaa
open Go.RowKit Go.Shelf
attribute [local go_sem] Oper.semAt_some
theorem size_arc : (Try.prog.info? 75).map (·.size) = some 2 := by kernel_rfl
set_option maxRecDepth 100000 in
set_option maxHeartbeats 2000000 in
theorem length_any {W : World} {t y : Int} : Calls Try.prog 51 #[.agg #[.int .i64 t, .int .i64 y], .bool false] W fun r w' => r = .returned (.int .i64 y) ∧ Below W.heap.size W w' := by
  go_enter Try.func51, Try.ntmps51
  go_wp2
  go_ret
  exact ⟨rfl, one_new _ _⟩
set_option maxRecDepth 100000 in
set_option maxHeartbeats 2000000 in
theorem add_small {W : World} {a b : Int} (ha : 0 ≤ a ∧ a ≤ 100) (hb : 0 ≤ b ∧ b ≤ 100) : Calls Try.prog 50 #[.int .i64 a, .int .i64 b] W fun r w' => r = .returned (.tuple #[.int .i64 (a + b), .int .i64 0]) ∧ w' = W := by
  have h1 : wrap64 (a + b) = a + b := by unfold wrap64; omega
  have h2 : wrap64 (9223372036854775807 - b) = 9223372036854775807 - b := by unfold wrap64; omega
  have h3 : ¬ (a > 9223372036854775807 - b) := by omega
  have h4 : ¬ b < 0 := by omega
  go_enter Try.func50, Try.ntmps50
  by_cases h5 : b > 0
  all_goals
    go_wp2
    go_ret2
    exact ⟨rfl, rfl⟩
set_option maxRecDepth 100000 in
set_option maxHeartbeats 1000000 in
theorem far_r19 {W0 : World} {A : Act} {sb ab : Nat} {d ta ya : Int} {K : Act → World → Prop} {Q' : Exit → Act → World → Prop} (hsz : A.tmps.size = 108) (hA15 : A.eval (.tmp 15) = .pointer (some ⟨sb, 0, none⟩)) (hA17 : A.eval (.tmp 17) = .pointer (some ⟨ab, 0, none⟩)) (hA2 : A.eval (.tmp 2) = .bool false) (hs1 : W0.cell? ⟨sb, 1, none⟩ = some (.int .i64 d)) (hab : W0.heap[ab]? = some (.cells #[.int .i64 ta, .int .i64 ya] 75 (0, 0))) (hdd : 0 ≤ d ∧ d ≤ 100) (hyy : 0 ≤ ya ∧ ya ≤ 100)
    (HK : ∀ X W, Below W0.heap.size W0 W → X 18 = .int .i64 (d + ya) ∧ X 19 = .int .i64 0 → K (puts A X [87, 88, 89, 90, 91, 92, 86, 93, 94, 18, 19]) W) :
    Code.wp Try.prog ((Try.f25.body.bind (regionJ 19)).getD .skip) (Exit.then K Q') A W0 := by
  obtain ⟨ds, hds⟩ : ∃ ds, [87, 88, 89, 90, 91, 92, 86, 93, 94, 18, 19] = ds := ⟨_, rfl⟩
  have hin : ∀ {X : Nat → Value} {k : Nat}, k ∈ [87, 88, 89, 90, 91, 92, 86, 93, 94, 18, 19] → (puts A X ds).eval (.tmp k) = X k := fun hk => by rw [← hds]; exact eval_in hk (by rw [hsz]; revert hk; simp only [List.mem_cons, List.not_mem_nil, or_false]; omega)
  have hout : ∀ {X : Nat → Value} {k : Nat}, k ∉ [87, 88, 89, 90, 91, 92, 86, 93, 94, 18, 19] → (puts A X ds).eval (.tmp k) = A.eval (.tmp k) := fun hk => by rw [← hds]; exact eval_out hk
  have g0 : ds.getD 0 0 = 87 := by rw [← hds]; rfl
  have g1 : ds.getD 1 0 = 88 := by rw [← hds]; rfl
  have g2 : ds.getD 2 0 = 89 := by rw [← hds]; rfl
  have g3 : ds.getD 3 0 = 90 := by rw [← hds]; rfl
  have g4 : ds.getD 4 0 = 91 := by rw [← hds]; rfl
  have g5 : ds.getD 5 0 = 92 := by rw [← hds]; rfl
  have g6 : ds.getD 6 0 = 86 := by rw [← hds]; rfl
  have g7 : ds.getD 7 0 = 93 := by rw [← hds]; rfl
  have g8 : ds.getD 8 0 = 94 := by rw [← hds]; rfl
  have g9 : ds.getD 9 0 = 18 := by rw [← hds]; rfl
  have g10 : ds.getD 10 0 = 19 := by rw [← hds]; rfl
  obtain ⟨V, hV, e0, e1, e2, e3, e4, e5, e6, e7, e8, e9, e10⟩ : ∃ V : Nat → Value → World → Prop, (∀ i v W W', V i v W → Below W.heap.size W W' → V i v W') ∧ (∀ v W, V 0 v W = (v = .pointer (some ⟨sb, 1, none⟩))) ∧ (∀ v W, V 1 v W = (v = .int .i64 d)) ∧ (∀ v W, V 2 v W = (v = .agg #[.int .i64 ta, .int .i64 ya])) ∧ (∀ v W, V 3 v W = (v = .bool false)) ∧ (∀ v W, V 4 v W = (v = .int .i64 ya)) ∧ (∀ v W, V 5 v W = (v = .tuple #[.int .i64 (d + ya), .int .i64 0])) ∧ (∀ v W, V 6 v W = (v = .tuple #[.int .i64 (d + ya), .int .i64 0])) ∧ (∀ v W, V 7 v W = (v = .int .i64 (d + ya))) ∧ (∀ v W, V 8 v W = (v = .int .i64 0)) ∧ (∀ v W, V 9 v W = (v = .int .i64 (d + ya))) ∧ (∀ v W, V 10 v W = (v = .int .i64 0)) := by
    refine ⟨fun i v W => match i with
      | 0 => v = .pointer (some ⟨sb, 1, none⟩)
      | 1 => v = .int .i64 d
      | 2 => v = .agg #[.int .i64 ta, .int .i64 ya]
      | 3 => v = .bool false
      | 4 => v = .int .i64 ya
      | 5 => v = .tuple #[.int .i64 (d + ya), .int .i64 0]
      | 6 => v = .tuple #[.int .i64 (d + ya), .int .i64 0]
      | 7 => v = .int .i64 (d + ya)
      | 8 => v = .int .i64 0
      | 9 => v = .int .i64 (d + ya)
      | 10 => v = .int .i64 0
      | _ => True, ?_, fun _ _ => rfl, fun _ _ => rfl, fun _ _ => rfl, fun _ _ => rfl, fun _ _ => rfl, fun _ _ => rfl, fun _ _ => rfl, fun _ _ => rfl, fun _ _ => rfl, fun _ _ => rfl, fun _ _ => rfl⟩
    intro i v W W' h hb
    match i, h with
    | 0, h => exact h
    | 1, h => exact h
    | 2, h => exact h
    | 3, h => exact h
    | 4, h => exact h
    | 5, h => exact h
    | 6, h => exact h
    | 7, h => exact h
    | 8, h => exact h
    | 9, h => exact h
    | 10, h => exact h
    | _ + 11, _ => trivial
  conv => arg 2; whnf
  refine wp_region_V ds V (by kernel_rfl) (by kernel_rfl) (by rw [← hds]; kernel_rfl) hV ?_ ?_
  · refine ⟨?_, ?_, ?_, ?_, ?_, ?_, ?_, ?_, ?_, ?_, ?_, trivial⟩
    all_goals intro X W hb hd
    · have h0 := hout (X := X) (k := 15) (by decide)
      rw [hA15] at h0
      refine v_value (V := V 0) (v := .pointer (some ⟨sb, 1, none⟩)) ?_ (by rw [e0])
      generalize (puts A X ds).eval = ρ at h0 ⊢
      go_simp
    · have d0 := hd 0 (by kernel_rfl)
      rw [e0, g0] at d0
      have h0 := (hin (X := X) (k := 87) (by decide)).trans d0
      have cs1 := (hb.cell (p := ⟨sb, 1, none⟩) (lt_cell hs1)).trans hs1
      refine v_value (V := V 1) (v := .int .i64 d) ?_ (by rw [e1])
      generalize (puts A X ds).eval = ρ at h0 ⊢
      go_simp
    · have h0 := hout (X := X) (k := 17) (by decide)
      rw [hA17] at h0
      exact wp_load_row 75 _ rfl ab h0 75 #[.int .i64 ta, .int .i64 ya] (0, 0) _ ((hb.block _ (lt_of_block hab)).trans hab) Try.underlying75 rfl size_arc ⟨_, rfl, by rw [e2], Below.refl _ _⟩
    · have h0 := hout (X := X) (k := 2) (by decide)
      rw [hA2] at h0
      refine v_value (V := V 3) (v := .bool false) ?_ (by rw [e3])
      generalize (puts A X ds).eval = ρ at h0 ⊢
      go_simp
    · have d0 := hd 2 (by kernel_rfl)
      rw [e2, g2] at d0
      have h0 := (hin (X := X) (k := 89) (by decide)).trans d0
      have d1 := hd 3 (by kernel_rfl)
      rw [e3, g3] at d1
      have h1 := (hin (X := X) (k := 90) (by decide)).trans d1
      have hf : (puts A X ds).eval (.func 51) = .func (.func 51) #[] #[] := rfl
      refine v_call (V := V 4) (f := 51) (vs := #[.agg #[.int .i64 ta, .int .i64 ya], .bool false]) ?_ ?_
      · generalize (puts A X ds).eval = ρ at h0 h1 hf ⊢
        go_simp
      · refine (length_any).mono ?_
        rintro r W' ⟨rfl, hb'⟩
        exact ⟨_, rfl, by rw [e4], hb'⟩
    · have d0 := hd 1 (by kernel_rfl)
      rw [e1, g1] at d0
      have h0 := (hin (X := X) (k := 88) (by decide)).trans d0
      have d1 := hd 4 (by kernel_rfl)
      rw [e4, g4] at d1
      have h1 := (hin (X := X) (k := 91) (by decide)).trans d1
      have hf : (puts A X ds).eval (.func 50) = .func (.func 50) #[] #[] := rfl
      refine v_call (V := V 5) (f := 50) (vs := #[.int .i64 d, .int .i64 ya]) ?_ ?_
      · generalize (puts A X ds).eval = ρ at h0 h1 hf ⊢
        go_simp
      · refine (add_small hdd hyy).mono ?_
        rintro r W' ⟨rfl, rfl⟩
        exact ⟨_, rfl, by rw [e5], Below.refl _ _⟩
    · have d0 := hd 5 (by kernel_rfl)
      rw [e5, g5] at d0
      have h0 := (hin (X := X) (k := 92) (by decide)).trans d0
      refine v_value (V := V 6) (v := .tuple #[.int .i64 (d + ya), .int .i64 0]) ?_ (by rw [e6])
      generalize (puts A X ds).eval = ρ at h0 ⊢
      go_simp
    · have d0 := hd 6 (by kernel_rfl)
      rw [e6, g6] at d0
      have h0 := (hin (X := X) (k := 86) (by decide)).trans d0
      refine v_value (V := V 7) (v := .int .i64 (d + ya)) ?_ (by rw [e7])
      generalize (puts A X ds).eval = ρ at h0 ⊢
      go_simp
    · have d0 := hd 6 (by kernel_rfl)
      rw [e6, g6] at d0
      have h0 := (hin (X := X) (k := 86) (by decide)).trans d0
      refine v_value (V := V 8) (v := .int .i64 0) ?_ (by rw [e8])
      generalize (puts A X ds).eval = ρ at h0 ⊢
      go_simp
    · have d0 := hd 7 (by kernel_rfl)
      rw [e7, g7] at d0
      have h0 := (hin (X := X) (k := 93) (by decide)).trans d0
      refine v_value (V := V 9) (v := .int .i64 (d + ya)) ?_ (by rw [e9])
      generalize (puts A X ds).eval = ρ at h0 ⊢
      go_simp
    · have d0 := hd 8 (by kernel_rfl)
      rw [e8, g8] at d0
      have h0 := (hin (X := X) (k := 94) (by decide)).trans d0
      refine v_value (V := V 10) (v := .int .i64 0) ?_ (by rw [e10])
      generalize (puts A X ds).eval = ρ at h0 ⊢
      go_simp
  · intro X W hb hall
    have r0 := hall 0 (by decide)
    rw [e0, g0] at r0
    have r1 := hall 1 (by decide)
    rw [e1, g1] at r1
    have r2 := hall 2 (by decide)
    rw [e2, g2] at r2
    have r3 := hall 3 (by decide)
    rw [e3, g3] at r3
    have r4 := hall 4 (by decide)
    rw [e4, g4] at r4
    have r5 := hall 5 (by decide)
    rw [e5, g5] at r5
    have r6 := hall 6 (by decide)
    rw [e6, g6] at r6
    have r7 := hall 7 (by decide)
    rw [e7, g7] at r7
    have r8 := hall 8 (by decide)
    rw [e8, g8] at r8
    have r9 := hall 9 (by decide)
    rw [e9, g9] at r9
    have r10 := hall 10 (by decide)
    rw [e10, g10] at r10
    have := HK X W hb (by first | assumption | exact ⟨by assumption, by assumption⟩ | exact ⟨by assumption, by assumption, by assumption⟩ | simp_all)
    rw [hds] at this
    exact this
set_option maxRecDepth 100000 in
set_option maxHeartbeats 1000000 in
theorem far_r5 {W0 : World} {A : Act} {wb gi n ci : Nat} {K : Act → World → Prop} {Q' : Exit → Act → World → Prop} (hsz : A.tmps.size = 108) (hA8 : A.eval (.tmp 8) = .pointer (some ⟨wb, 0, none⟩)) (hcw : W0.cell? ⟨wb, 0, none⟩ = some (.slice (some ⟨gi, 0, none⟩) n ci)) (hm1 : ∀ W : World, (Instr.makeSlice 36 (.int .i64 (n : Int)) (.int .i64 (n : Int))).run Try.prog W = .ok (.slice (some ⟨W.heap.size, 0, none⟩) n n) (W.alloc (.cells (madeCells #[.int .i64 0] n) 2))) (hm2 : ∀ W : World, (Instr.makeSlice 101 (.int .i64 (n : Int)) (.int .i64 (n : Int))).run Try.prog W = .ok (.slice (some ⟨W.heap.size, 0, none⟩) n n) (W.alloc (.cells (madeCells #[.bool false] n) 4)))
    (HK : ∀ X W, Below W0.heap.size W0 W → (∃ g, X 11 = .slice (some ⟨g, 0, none⟩) n n ∧ W.heap[g]? = some (.cells (madeCells #[.int .i64 0] n) 2 (0, 0)) ∧ W0.heap.size ≤ g) ∧ (∃ g, X 12 = .slice (some ⟨g, 0, none⟩) n n ∧ W.heap[g]? = some (.cells (madeCells #[.bool false] n) 4 (0, 0)) ∧ W0.heap.size ≤ g) → K (puts A X [30, 31, 32, 33, 34, 35, 36, 37, 11, 12]) W) :
    Code.wp Try.prog ((Try.f25.body.bind (regionJ 5)).getD .skip) (Exit.then K Q') A W0 := by
  obtain ⟨ds, hds⟩ : ∃ ds, [30, 31, 32, 33, 34, 35, 36, 37, 11, 12] = ds := ⟨_, rfl⟩
  have hin : ∀ {X : Nat → Value} {k : Nat}, k ∈ [30, 31, 32, 33, 34, 35, 36, 37, 11, 12] → (puts A X ds).eval (.tmp k) = X k := fun hk => by rw [← hds]; exact eval_in hk (by rw [hsz]; revert hk; simp only [List.mem_cons, List.not_mem_nil, or_false]; omega)
  have hout : ∀ {X : Nat → Value} {k : Nat}, k ∉ [30, 31, 32, 33, 34, 35, 36, 37, 11, 12] → (puts A X ds).eval (.tmp k) = A.eval (.tmp k) := fun hk => by rw [← hds]; exact eval_out hk
  have g0 : ds.getD 0 0 = 30 := by rw [← hds]; rfl
  have g1 : ds.getD 1 0 = 31 := by rw [← hds]; rfl
  have g2 : ds.getD 2 0 = 32 := by rw [← hds]; rfl
  have g3 : ds.getD 3 0 = 33 := by rw [← hds]; rfl
  have g4 : ds.getD 4 0 = 34 := by rw [← hds]; rfl
  have g5 : ds.getD 5 0 = 35 := by rw [← hds]; rfl
  have g6 : ds.getD 6 0 = 36 := by rw [← hds]; rfl
  have g7 : ds.getD 7 0 = 37 := by rw [← hds]; rfl
  have g8 : ds.getD 8 0 = 11 := by rw [← hds]; rfl
  have g9 : ds.getD 9 0 = 12 := by rw [← hds]; rfl
  obtain ⟨V, hV, e0, e1, e2, e3, e4, e5, e6, e7, e8, e9⟩ : ∃ V : Nat → Value → World → Prop, (∀ i v W W', V i v W → Below W.heap.size W W' → V i v W') ∧ (∀ v W, V 0 v W = (v = .pointer (some ⟨wb, 0, none⟩))) ∧ (∀ v W, V 1 v W = (v = .slice (some ⟨gi, 0, none⟩) n ci)) ∧ (∀ v W, V 2 v W = (v = .int .i64 (n : Int))) ∧ (∀ v W, V 3 v W = (∃ g, v = .slice (some ⟨g, 0, none⟩) n n ∧ W.heap[g]? = some (.cells (madeCells #[.int .i64 0] n) 2 (0, 0)) ∧ W0.heap.size ≤ g)) ∧ (∀ v W, V 4 v W = (v = .pointer (some ⟨wb, 0, none⟩))) ∧ (∀ v W, V 5 v W = (v = .slice (some ⟨gi, 0, none⟩) n ci)) ∧ (∀ v W, V 6 v W = (v = .int .i64 (n : Int))) ∧ (∀ v W, V 7 v W = (∃ g, v = .slice (some ⟨g, 0, none⟩) n n ∧ W.heap[g]? = some (.cells (madeCells #[.bool false] n) 4 (0, 0)) ∧ W0.heap.size ≤ g)) ∧ (∀ v W, V 8 v W = (∃ g, v = .slice (some ⟨g, 0, none⟩) n n ∧ W.heap[g]? = some (.cells (madeCells #[.int .i64 0] n) 2 (0, 0)) ∧ W0.heap.size ≤ g)) ∧ (∀ v W, V 9 v W = (∃ g, v = .slice (some ⟨g, 0, none⟩) n n ∧ W.heap[g]? = some (.cells (madeCells #[.bool false] n) 4 (0, 0)) ∧ W0.heap.size ≤ g)) := by
    refine ⟨fun i v W => match i with
      | 0 => v = .pointer (some ⟨wb, 0, none⟩)
      | 1 => v = .slice (some ⟨gi, 0, none⟩) n ci
      | 2 => v = .int .i64 (n : Int)
      | 3 => ∃ g, v = .slice (some ⟨g, 0, none⟩) n n ∧ W.heap[g]? = some (.cells (madeCells #[.int .i64 0] n) 2 (0, 0)) ∧ W0.heap.size ≤ g
      | 4 => v = .pointer (some ⟨wb, 0, none⟩)
      | 5 => v = .slice (some ⟨gi, 0, none⟩) n ci
      | 6 => v = .int .i64 (n : Int)
      | 7 => ∃ g, v = .slice (some ⟨g, 0, none⟩) n n ∧ W.heap[g]? = some (.cells (madeCells #[.bool false] n) 4 (0, 0)) ∧ W0.heap.size ≤ g
      | 8 => ∃ g, v = .slice (some ⟨g, 0, none⟩) n n ∧ W.heap[g]? = some (.cells (madeCells #[.int .i64 0] n) 2 (0, 0)) ∧ W0.heap.size ≤ g
      | 9 => ∃ g, v = .slice (some ⟨g, 0, none⟩) n n ∧ W.heap[g]? = some (.cells (madeCells #[.bool false] n) 4 (0, 0)) ∧ W0.heap.size ≤ g
      | _ => True, ?_, fun _ _ => rfl, fun _ _ => rfl, fun _ _ => rfl, fun _ _ => rfl, fun _ _ => rfl, fun _ _ => rfl, fun _ _ => rfl, fun _ _ => rfl, fun _ _ => rfl, fun _ _ => rfl⟩
    intro i v W W' h hb
    match i, h with
    | 0, h => exact h
    | 1, h => exact h
    | 2, h => exact h
    | 3, h => exact (by obtain ⟨g, h1, h2, h3⟩ := h; exact ⟨g, h1, (hb.block _ (Array.getElem?_eq_some_iff.1 h2).1).trans h2, h3⟩)
    | 4, h => exact h
    | 5, h => exact h
    | 6, h => exact h
    | 7, h => exact (by obtain ⟨g, h1, h2, h3⟩ := h; exact ⟨g, h1, (hb.block _ (Array.getElem?_eq_some_iff.1 h2).1).trans h2, h3⟩)
    | 8, h => exact (by obtain ⟨g, h1, h2, h3⟩ := h; exact ⟨g, h1, (hb.block _ (Array.getElem?_eq_some_iff.1 h2).1).trans h2, h3⟩)
    | 9, h => exact (by obtain ⟨g, h1, h2, h3⟩ := h; exact ⟨g, h1, (hb.block _ (Array.getElem?_eq_some_iff.1 h2).1).trans h2, h3⟩)
    | _ + 10, _ => trivial
  conv => arg 2; whnf
  refine wp_region_V ds V (by kernel_rfl) (by kernel_rfl) (by rw [← hds]; kernel_rfl) hV ?_ ?_
  · refine ⟨?_, ?_, ?_, ?_, ?_, ?_, ?_, ?_, ?_, ?_, trivial⟩
    all_goals intro X W hb hd
    · have h0 := hout (X := X) (k := 8) (by decide)
      rw [hA8] at h0
      refine v_value (V := V 0) (v := .pointer (some ⟨wb, 0, none⟩)) ?_ (by rw [e0])
      generalize (puts A X ds).eval = ρ at h0 ⊢
      go_simp
    · have d0 := hd 0 (by kernel_rfl)
      rw [e0, g0] at d0
      have h0 := (hin (X := X) (k := 30) (by decide)).trans d0
      have cw := (hb.cell (p := ⟨wb, 0, none⟩) (lt_cell hcw)).trans hcw
      refine v_value (V := V 1) (v := .slice (some ⟨gi, 0, none⟩) n ci) ?_ (by rw [e1])
      generalize (puts A X ds).eval = ρ at h0 ⊢
      go_simp
    · have d0 := hd 1 (by kernel_rfl)
      rw [e1, g1] at d0
      have h0 := (hin (X := X) (k := 31) (by decide)).trans d0
      refine v_value (V := V 2) (v := .int .i64 (n : Int)) ?_ (by rw [e2])
      generalize (puts A X ds).eval = ρ at h0 ⊢
      go_simp
    · have d0 := hd 2 (by kernel_rfl)
      rw [e2, g2] at d0
      have h0 := (hin (X := X) (k := 32) (by decide)).trans d0
      refine v_new (V := V 3) (v := .slice (some ⟨W.heap.size, 0, none⟩) n n) (w' := W.alloc (.cells (madeCells #[.int .i64 0] n) 2)) ?_ (by rw [e3]; exact ⟨_, rfl, heap_alloc_new _ _, hb.size⟩) (one_new _ _)
      have hmm := hm1 W
      generalize (puts A X ds).eval = ρ at h0 ⊢
      go_simp
    · have h0 := hout (X := X) (k := 8) (by decide)
      rw [hA8] at h0
      refine v_value (V := V 4) (v := .pointer (some ⟨wb, 0, none⟩)) ?_ (by rw [e4])
      generalize (puts A X ds).eval = ρ at h0 ⊢
      go_simp
    · have d0 := hd 4 (by kernel_rfl)
      rw [e4, g4] at d0
      have h0 := (hin (X := X) (k := 34) (by decide)).trans d0
      have cw := (hb.cell (p := ⟨wb, 0, none⟩) (lt_cell hcw)).trans hcw
      refine v_value (V := V 5) (v := .slice (some ⟨gi, 0, none⟩) n ci) ?_ (by rw [e5])
      generalize (puts A X ds).eval = ρ at h0 ⊢
      go_simp
    · have d0 := hd 5 (by kernel_rfl)
      rw [e5, g5] at d0
      have h0 := (hin (X := X) (k := 35) (by decide)).trans d0
      refine v_value (V := V 6) (v := .int .i64 (n : Int)) ?_ (by rw [e6])
      generalize (puts A X ds).eval = ρ at h0 ⊢
      go_simp
    · have d0 := hd 6 (by kernel_rfl)
      rw [e6, g6] at d0
      have h0 := (hin (X := X) (k := 36) (by decide)).trans d0
      refine v_new (V := V 7) (v := .slice (some ⟨W.heap.size, 0, none⟩) n n) (w' := W.alloc (.cells (madeCells #[.bool false] n) 4)) ?_ (by rw [e7]; exact ⟨_, rfl, heap_alloc_new _ _, hb.size⟩) (one_new _ _)
      have hmm := hm2 W
      generalize (puts A X ds).eval = ρ at h0 ⊢
      go_simp
    · have d0 := hd 3 (by kernel_rfl)
      rw [e3, g3] at d0
      obtain ⟨g, d0, p0⟩ := d0
      have h0 := (hin (X := X) (k := 33) (by decide)).trans d0
      refine v_value (V := V 8) (v := .slice (some ⟨g, 0, none⟩) n n) ?_ (by rw [e8]; exact ⟨g, rfl, p0⟩)
      generalize (puts A X ds).eval = ρ at h0 ⊢
      go_simp
    · have d0 := hd 7 (by kernel_rfl)
      rw [e7, g7] at d0
      obtain ⟨g, d0, p0⟩ := d0
      have h0 := (hin (X := X) (k := 37) (by decide)).trans d0
      refine v_value (V := V 9) (v := .slice (some ⟨g, 0, none⟩) n n) ?_ (by rw [e9]; exact ⟨g, rfl, p0⟩)
      generalize (puts A X ds).eval = ρ at h0 ⊢
      go_simp
  · intro X W hb hall
    have r0 := hall 0 (by decide)
    rw [e0, g0] at r0
    have r1 := hall 1 (by decide)
    rw [e1, g1] at r1
    have r2 := hall 2 (by decide)
    rw [e2, g2] at r2
    have r3 := hall 3 (by decide)
    rw [e3, g3] at r3
    have r4 := hall 4 (by decide)
    rw [e4, g4] at r4
    have r5 := hall 5 (by decide)
    rw [e5, g5] at r5
    have r6 := hall 6 (by decide)
    rw [e6, g6] at r6
    have r7 := hall 7 (by decide)
    rw [e7, g7] at r7
    have r8 := hall 8 (by decide)
    rw [e8, g8] at r8
    have r9 := hall 9 (by decide)
    rw [e9, g9] at r9
    have := HK X W hb (by first | assumption | exact ⟨by assumption, by assumption⟩ | exact ⟨by assumption, by assumption, by assumption⟩ | simp_all)
    rw [hds] at this
    exact this
end Go.Proofs.Ytfidojdolbmjdaa
end

section
/- spec.Far at the way of two edges. -/
namespace Go.Proofs.Ytfidojdolbmjdaa
open Go.RowKit Go.Shelf
attribute [local go_sem] Oper.semAt_some
/-- A block of truths, of one's own. -/
def SB (W : World) (m : Nat) (L : List Bool) : Prop := W.heap[m]? = some (.cells (L.map Value.bool).toArray 4 (0, 0))
theorem SB.lt {W : World} {m : Nat} {L : List Bool} (h : SB W m L) : m < W.heap.size := lt_of_block h
theorem SB.cell {W : World} {m : Nat} {L : List Bool} (h : SB W m L) {j : Nat} (hj : j < L.length) : W.cell? ⟨m, j, none⟩ = some (.bool L[j]) ∧ W.frozen? ⟨m, j, none⟩ = false := by
  unfold SB at h
  constructor
  · simp [World.cell?, h, hj]
  · simp [World.frozen?, h]
theorem SB.set {W : World} {m : Nat} {L : List Bool} (h : SB W m L) (j : Nat) (x : Bool) : SB (W.setCell ⟨m, j, none⟩ (.bool x)) m (L.set j x) := by
  unfold SB at h ⊢
  rw [set_heap h, List.setIfInBounds_toArray, List.map_set]
theorem SB.kept {W W' : World} {m : Nat} {L : List Bool} {S : Nat → Prop} (h : SB W m L) (f : Fr W W' S) (hs : ¬ S m) : SB W' m L := (f.block m h.lt hs).trans h
def farL : Nat → List Int
  | 0 => [0, 0, 0]
  | 1 => [-1, 0, 0]
  | 2 => [-1, -1, 0]
  | _ => [-1, -1, -1]
theorem rise123 : Rise [1, 2, 3] := by
  intro j h
  match j, h with
  | 0, _ => simp
  | 1, _ => simp
  | j + 2, h => simp at h; omega
/-- The rows that are made, as lists. -/
theorem made_eq (v : Value) (n : Nat) : madeCells #[v] n = (List.replicate n v).toArray := by
  apply Array.ext
  · rw [size_madeCells]; simp
  · intro i h1 h2
    simp [madeCells, Nat.mod_one]
theorem ib_made {W : World} {g : Nat} (h : W.heap[g]? = some (.cells (madeCells #[.int .i64 0] 3) 2 (0, 0))) : IB W g [0, 0, 0] := by
  rw [made_eq] at h
  exact h
theorem sb_made {W : World} {g : Nat} (h : W.heap[g]? = some (.cells (madeCells #[.bool false] 3) 4 (0, 0))) : SB W g [false, false, false] := by
  rw [made_eq] at h
  exact h
theorem farL_len (k : Nat) : (farL k).length = 3 := by
  match k with
  | 0 => rfl
  | 1 => rfl
  | 2 => rfl
  | _ + 3 => rfl
theorem farL_set {k : Nat} (h : k < 3) : (farL k).set k (-1) = farL (k + 1) := by
  match k, h with
  | 0, _ => rfl
  | 1, _ => rfl
  | 2, _ => rfl
/-- The loop's states: behind j rounds. -/
def wayF : Nat → List Int
  | 0 => [-1, -1, -1]
  | 1 => [0, -1, -1]
  | 2 => [0, 5, -1]
  | _ => [0, 5, 7]
def wayS : Nat → List Bool
  | 0 => [false, false, false]
  | 1 => [true, false, false]
  | 2 => [true, true, false]
  | _ => [true, true, true]
def wayD : Nat → Int
  | 0 => 0
  | 1 => 5
  | _ => 7
def wayO : Nat → List Ed
  | 0 => [⟨1, 5⟩]
  | 1 => [⟨2, 2⟩]
  | _ => []
/-- The queue: empty, or one stop. -/
def QO (W : World) (qb base : Nat) (q : Option (Nat × Int)) : Prop := ∃ v, W.heap[qb]? = some (.cells #[v] 106 (0, 0)) ∧ match q with
  | none => W.ownsRow base 104 2 v 0 []
  | some (i, d) => W.ownsRow base 104 2 v 1 [.int .i64 (i : Int), .int .i64 d]
def wayQ (j : Nat) : Option (Nat × Int) := if j < 3 then some (j, wayD j) else none
structure FaS (w3 W : World) (mf ms qb base : Nat) (F : List Int) (S : List Bool) (q : Option (Nat × Int)) : Prop where
  low : Below w3.heap.size w3 W
  fi : IB W mf F
  si : SB W ms S
  qi : QO W qb base q
  lf : w3.heap.size ≤ mf ∧ mf < base
  ls : w3.heap.size ≤ ms ∧ ms < base
  lq : base ≤ qb
  lb : base ≤ W.heap.size
theorem QO.kept {W W' : World} {qb base : Nat} {q : Option (Nat × Int)} {S : Nat → Prop} (h : QO W qb base q) (f : Fr W W' S) (hs : ∀ k, base ≤ k → k < W.heap.size → ¬ S k) (hq : base ≤ qb) : QO W' qb base q := by
  obtain ⟨v, h1, h2⟩ := h
  refine ⟨v, (f.block qb (lt_of_block h1) (hs _ hq (lt_of_block h1))).trans h1, ?_⟩
  cases q with
  | none => exact so_fr h2 f (fun k hk => hs k (World.ownsRow.lt h2 k hk).1 (World.ownsRow.lt h2 k hk).2)
  | some p => exact so_fr h2 f (fun k hk => hs k (World.ownsRow.lt h2 k hk).1 (World.ownsRow.lt h2 k hk).2)
theorem FaS.new {w3 W W' : World} {mf ms qb base : Nat} {F : List Int} {S : List Bool} {q : Option (Nat × Int)} (h : FaS w3 W mf ms qb base F S q) (hb : Below W.heap.size W W') : FaS w3 W' mf ms qb base F S q :=
  ⟨h.low.trans (hb.mono h.low.size), h.fi.new hb, h.si.kept (Fr.ofBelow hb (fun _ => False)) (fun h => h), h.qi.kept (Fr.ofBelow hb (fun _ => False)) (fun _ _ _ h => h) h.lq, h.lf, h.ls, h.lq, Nat.le_trans h.lb hb.size⟩
/-- The queue changes. -/
theorem FaS.queue {w3 W W' : World} {mf ms qb base : Nat} {F : List Int} {S : List Bool} {q q' : Option (Nat × Int)} {T : Nat → Prop} (h : FaS w3 W mf ms qb base F S q) (f : Fr W W' T) (hT : ∀ k, T k → base ≤ k) (hq : QO W' qb base q') : FaS w3 W' mf ms qb base F S q' := by
  have h1 := h.lf
  have h2 := h.ls
  exact ⟨h.low.trans (f.below h.low.size (fun k hk => by have := hT k hk; omega)), h.fi.kept f (fun e => by have := hT _ e; omega), h.si.kept f (fun e => by have := hT _ e; omega), hq, h.lf, h.ls, h.lq, Nat.le_trans h.lb f.size⟩
def ftV : Option Value → Nat
  | some (.bool false) => 1
  | _ => 0
def muW (W : World) (ms : Nat) : Nat := ftV (W.cell? ⟨ms, 0, none⟩) + ftV (W.cell? ⟨ms, 1, none⟩) + ftV (W.cell? ⟨ms, 2, none⟩)
theorem muW_way {W : World} {ms j : Nat} (h : SB W ms (wayS j)) (hj : j ≤ 3) : muW W ms = 3 - j := by
  unfold muW
  match j, hj with
  | 0, _ => rw [(SB.cell h (j := 0) (by decide)).1, (SB.cell h (j := 1) (by decide)).1, (SB.cell h (j := 2) (by decide)).1]; rfl
  | 1, _ => rw [(SB.cell h (j := 0) (by decide)).1, (SB.cell h (j := 1) (by decide)).1, (SB.cell h (j := 2) (by decide)).1]; rfl
  | 2, _ => rw [(SB.cell h (j := 0) (by decide)).1, (SB.cell h (j := 1) (by decide)).1, (SB.cell h (j := 2) (by decide)).1]; rfl
  | 3, _ => rw [(SB.cell h (j := 0) (by decide)).1, (SB.cell h (j := 1) (by decide)).1, (SB.cell h (j := 2) (by decide)).1]; rfl
theorem wayS_at {j : Nat} (h : j < 3) : ∃ hh : j < (wayS j).length, (wayS j)[j] = false := by
  match j, h with
  | 0, _ => exact ⟨by decide, rfl⟩
  | 1, _ => exact ⟨by decide, rfl⟩
  | 2, _ => exact ⟨by decide, rfl⟩
theorem wayF_at {j : Nat} (h : j < 3) : j < (wayF j).length := by
  match j, h with
  | 0, _ => decide
  | 1, _ => decide
  | 2, _ => decide
theorem way_set {j : Nat} (h : j < 3) : (wayF j).set j (wayD j) = wayF (j + 1) ∧ (wayS j).set j true = wayS (j + 1) := by
  match j, h with
  | 0, _ => exact ⟨rfl, rfl⟩
  | 1, _ => exact ⟨rfl, rfl⟩
  | 2, _ => exact ⟨rfl, rfl⟩
theorem way_row {j k : Nat} (h : k < (wayO j).length) : k = 0 ∧ (wayO j).length = 1 ∧ (wayO j)[k].t = ((j + 1 : Nat) : Int) ∧ wayD j + (wayO j)[k].w = wayD (j + 1) ∧ (0 ≤ (wayO j)[k].w ∧ (wayO j)[k].w ≤ 100) ∧ (0 ≤ wayD j ∧ wayD j ≤ 100) ∧ wayQ (j + 1) = some (j + 1, wayD (j + 1)) := by
  match j, k, h with
  | 0, 0, _ => exact ⟨rfl, rfl, rfl, rfl, by simp [wayO], by decide, rfl⟩
  | 1, 0, _ => exact ⟨rfl, rfl, rfl, rfl, by simp [wayO], by decide, rfl⟩
  | 0, k + 1, h => simp [wayO] at h
  | 1, k + 1, h => simp [wayO] at h
  | j + 2, k, h => simp [wayO] at h
theorem way_end {j : Nat} (h : j < 3) : (if (wayO j).length = 0 then none else wayQ (j + 1)) = wayQ (j + 1) := by
  match j, h with
  | 0, _ => rfl
  | 1, _ => rfl
  | 2, _ => rfl
theorem way_out {j : Nat} (h : j < 3) : ∃ hh : j < ([[⟨1, 5⟩], [⟨2, 2⟩], []] : List (List Ed)).length, ([[⟨1, 5⟩], [⟨2, 2⟩], []] : List (List Ed))[j] = wayO j := by
  match j, h with
  | 0, _ => exact ⟨by decide, rfl⟩
  | 1, _ => exact ⟨by decide, rfl⟩
  | 2, _ => exact ⟨by decide, rfl⟩
theorem noGoto_ret {Q : Exit → Act → World → Prop} {a : Act} {w : World} (h : Q .ret a w) : Exit.noGoto Q .ret a w := h
theorem infoBo : (Try.prog.info? 4).map (fun i => (i.zero, i.size, i.bytes)) = some (some (.bool false), 1, 1) := by kernel_rfl
set_option maxRecDepth 100000 in
set_option maxHeartbeats 8000000 in
theorem far_way {w : World} {P : Nat → Prop} {ao : Option Addr} (cap : Nat) (G : List Vx) (hG : G.length = 3) (h : VxAt w P ao G) (hok : ∀ v ∈ G, v.ok) (hi : ids G = [1, 2, 3]) (hth : thereE G = true) (he : (evs G).length ≤ 2048) (hO : (foldW (ids G) 3 (evs G)).1 = [[⟨1, 5⟩], [⟨2, 2⟩], []]) :
    Calls Try.prog 25 #[.agg #[.slice ao 3 cap], .int .i64 1, .bool false] w fun r w' => (∃ m, r = .returned (.tuple #[.slice (some ⟨m, 0, none⟩) 3 3, .int .i64 0]) ∧ IB w' m [0, 5, 7]) ∧ Below w.heap.size w w' := by
  have hR : Rise [1, 2, 3] := rise123
  have HWv : Hid (∀ W, Below w.heap.size w W → Calls Try.prog 26 #[.agg #[.slice ao 3 cap]] W fun r w' => (∃ gi ci g1 g2 B, r = .returned (.agg #[.slice (some ⟨gi, 0, none⟩) 3 ci, .slice (some ⟨g1, 0, none⟩) 3 3, .slice (some ⟨g2, 0, none⟩) 3 3]) ∧ WebAt w' W.heap.size gi ci g1 g2 B 3 [1, 2, 3] [[⟨1, 5⟩], [⟨2, 2⟩], []] ((foldW (ids G) 3 (evs G)).2.map nearL)) ∧ Below W.heap.size W w') := fun W hb => by
    have := weave_any cap (h.new hb) hok (by rw [hi]; exact hR) hth (by omega) he
    rw [hG, hO, hi] at this
    rw [hi]
    exact this
  obtain ⟨i0, hii, hz0, hz1, hz2⟩ := info_parts infoSI
  obtain ⟨ib, hib, hy0, hy1, hy2⟩ := info_parts infoBo
  have hm1 : ∀ W : World, (Instr.makeSlice 36 (.int .i64 ((3 : Nat) : Int)) (.int .i64 ((3 : Nat) : Int))).run Try.prog W = .ok (.slice (some ⟨W.heap.size, 0, none⟩) 3 3) (W.alloc (.cells (madeCells #[.int .i64 0] 3) 2)) := fun W => by
    have := run_make (P := Try.prog) W 36 2 i0 (.int .i64 0) Try.underlying36 hii hz0 .i64 .i64 ((3 : Nat) : Int) ((3 : Nat) : Int) (by omega) (by omega) (by rw [hz2]; omega) (by omega)
    simpa [hz1, Value.cells] using this
  have hm2 : ∀ W : World, (Instr.makeSlice 101 (.int .i64 ((3 : Nat) : Int)) (.int .i64 ((3 : Nat) : Int))).run Try.prog W = .ok (.slice (some ⟨W.heap.size, 0, none⟩) 3 3) (W.alloc (.cells (madeCells #[.bool false] 3) 4)) := fun W => by
    have := run_make (P := Try.prog) W 101 4 ib (.bool false) Try.underlying101 hib hy0 .i64 .i64 ((3 : Nat) : Int) ((3 : Nat) : Int) (by omega) (by omega) (by rw [hy2]; omega) (by omega)
    simpa [hy1, Value.cells] using this
  have HM1 : Hid _ := hm1
  have HM2 : Hid _ := hm2
  clear h hok hi hth he hO hG hm1 hm2
  go_enter Try.func25, Try.ntmps25
  go_wp2
  refine wp_scope_straight ?_
  go_upto_region 2 with (go_at_call 26; refine (HWv.out _ (one_new _ _)).mono ?_; rintro r w1 ⟨⟨gi, ci, g1, g2, B, rfl, hw1⟩, hb1⟩)
  generalize hW2 : World.alloc w1 _ = W2
  have b2 : Below w1.heap.size w1 W2 := by rw [← hW2]; exact one_new _ _
  have k2 : W2.heap[w1.heap.size]? = some (.cells #[.slice (some ⟨gi, 0, none⟩) 3 ci, .slice (some ⟨g1, 0, none⟩) 3 3, .slice (some ⟨g2, 0, none⟩) 3 3] 70 (0, 0)) := by rw [← hW2]; exact heap_alloc_new _ _
  have hw2 := hw1.new b2
  have HW2 : Hid _ := hw2
  obtain ⟨d0, d1, d2⟩ := box3 k2
  obtain ⟨wb, hwb⟩ : ∃ wb, w1.heap.size = wb := ⟨_, rfl⟩
  have HBe : Hid (Below w.heap.size w W2) := ((one_new w _).trans (hb1.mono (by rw [World.size_alloc]; omega))).trans (b2.mono (by have := hb1.size; rw [World.size_alloc] at this; omega))
  rw [hwb] at d0 d1 d2 k2 ⊢
  have HK2 : Hid _ := k2
  clear hW2 b2 hw1 hb1 hw2 HWv
  go_upto_region 5 with (go_at_call 47; refine (place_any (L := [1, 2, 3]) 1 (HW2.out.idr) hR (by decide)).mono ?_; rintro r w3 ⟨rfl, hb3⟩; rw [show foundB [1, 2, 3] 1 = true by decide, show findN [1, 2, 3] 1 = 0 by decide])
  have HW3 : Hid _ := HW2.out.new hb3
  have HK3 : Hid _ := (hb3.block _ (lt_of_block HK2.out)).trans HK2.out
  have e0 := (box3 HK3.out).1
  have HB3 : Hid (Below w.heap.size w w3) := HBe.out.trans (hb3.mono HBe.out.size)
  clear HW2 HK2 HBe d0 d1 d2 k2 hb3
  refine far_r5 (wb := wb) (gi := gi) (n := 3) (ci := ci) rfl rfl e0 HM1.out HM2.out ?_
  rintro X W4 hb4 ⟨⟨mf, hx11, hf4, hlf⟩, ⟨ms, hx12, hs4, hls⟩⟩
  have HF4 : Hid (IB W4 mf [0, 0, 0]) := ib_made hf4
  have HS4 : Hid (SB W4 ms [false, false, false]) := sb_made hs4
  have hne : mf ≠ ms := fun e => by rw [e, hs4] at hf4; injection hf4 with e1; injection e1 with _ e2 _; exact absurd e2 (by decide)
  have HB4 : Hid (Below w.heap.size w W4) := HB3.out.trans (hb4.mono HB3.out.size)
  have HBw : Hid (Below w3.heap.size w3 W4) := hb4
  clear hf4 hs4 hb4 HM1 HM2 e0
  simp only [puts]
  rw [hx11, hx12]
  generalize X 30 = x30
  generalize X 31 = x31
  generalize X 32 = x32
  generalize X 33 = x33
  generalize X 34 = x34
  generalize X 35 = x35
  generalize X 36 = x36
  generalize X 37 = x37
  simp only [Act.put, List.setIfInBounds_toArray, List.set_cons_succ, List.set_cons_zero]
  clear hx11 hx12
  go_wp2
  go_loopw [13, 40] (fun _ i wr => ∃ k : Nat, k ≤ 3 ∧ i = .int .i64 k ∧ Hid (IB wr mf (farL k)) ∧ Hid (Fr W4 wr (fun q => q = mf))) (fun _ i _ => 3 - (intOf i).toNat)
  case atStart => exact ⟨0, Nat.zero_le _, rfl, HF4.out, Fr.refl _ _⟩
  case round =>
    obtain ⟨k, hk, rfl, HI, HF⟩ := hrel
    by_cases hlt : k < 3
    · have hkl : k < (farL k).length := by rw [farL_len]; exact hlt
      obtain ⟨c0, c1⟩ := IB.cell HI.out hkl
      generalize (farL k)[k] = y at c0
      go_wp2
      generalize hW5 : World.setCell wr _ _ = W5
      have HI5 : Hid (IB W5 mf (farL (k + 1))) := by rw [← farL_set hlt, ← hW5]; exact IB.set HI.out _ _
      have HF5 : Hid (Fr W4 W5 (fun q => q = mf)) := by rw [← hW5]; exact HF.out.trans (Fr.setCell (S := fun q => q = mf) _ _ _ rfl) (fun _ _ h => h)
      go_roundw
      case rel => exact ⟨k + 1, by omega, by go_num, HI5, HF5⟩
      case measure => simp [intOf]; omega
    · obtain rfl : k = 3 := by omega
      go_wp2
      refine wp_label ?_
      have hsz4 := HBw.out.size
      have hszr := HF.out.size
      have lmf := IB.lt HF4.out
      have lms := SB.lt HS4.out
      have hnq : True := trivial
      generalize hW6 : World.alloc (World.alloc wr _) _ = W6
      obtain ⟨base, hbs⟩ : ∃ base, wr.heap.size = base := ⟨_, rfl⟩
      have HFS : Hid (FaS w3 W6 mf ms (base + 1) base (wayF 0) (wayS 0) (wayQ 0)) := by
        have b1 := one_new wr (.cells #[.int .i64 0, .int .i64 0] 104)
        have b2 := one_new (wr.alloc (.cells #[.int .i64 0, .int .i64 0] 104)) (.cells #[.slice (some ⟨wr.heap.size, 0, none⟩) 1 1] 106)
        have bb := b1.trans (b2.mono b1.size)
        rw [hW6] at b2 bb
        have lw : Below w3.heap.size w3 wr := HBw.out.trans (HF.out.below hsz4 (fun k hk => by omega))
        refine ⟨lw.trans (bb.mono lw.size), IB.new HI.out bb, SB.kept (SB.kept HS4.out HF.out (fun e => hne e.symm)) (Fr.ofBelow bb (fun _ => False)) (fun h => h), ?_, ⟨hlf, by omega⟩, ⟨hls, by omega⟩, by omega, by rw [← hbs]; exact bb.size⟩
        have h1 : W6.heap[base]? = some (.cells #[.int .i64 0, .int .i64 0] 104 (0, 0)) := by
          rw [← hbs]
          exact (b2.block _ (by rw [World.size_alloc]; omega)).trans (heap_alloc_new _ _)
        have h2 : W6.heap[base + 1]? = some (.cells #[.slice (some ⟨base, 0, none⟩) 1 1] 106 (0, 0)) := by
          have := heap_alloc_new (wr.alloc (.cells #[.int .i64 0, .int .i64 0] 104)) (.cells #[.slice (some ⟨wr.heap.size, 0, none⟩) 1 1] 106)
          rw [hW6, World.size_alloc, hbs] at this
          exact this
        exact ⟨_, h2, rfl, .inr ⟨base, 1, _, rfl, Nat.le_refl _, h1, Nat.le_refl _, by unfold maxLen; omega, rfl, rfl⟩⟩
      rw [hbs]
      obtain ⟨qb, hqb⟩ : ∃ qb, base + 1 = qb := ⟨_, rfl⟩
      rw [hqb] at HFS ⊢
      clear hW6 HI HF hbs hsz4 hszr lmf lms HF4 HS4 hnq
      go_wp2
      go_loopw [15, 17, 18, 19] (fun _ _ _ _ wr => ∃ j : Nat, j ≤ 3 ∧ Hid (FaS w3 wr mf ms qb base (wayF j) (wayS j) (wayQ j))) (fun _ _ _ _ wr => muW wr ms)
      case atStart => exact ⟨0, by decide, HFS⟩
      case round =>
        obtain ⟨j, hj, HS⟩ := hrel
        by_cases hlt : j < 3
        · obtain ⟨v, hq, ho⟩ := HS.out.qi
          have hwq : wayQ j = some (j, wayD j) := by unfold wayQ; rw [if_pos hlt]
          rw [hwq] at ho
          dsimp only at ho
          obtain ⟨g, cp, cur, rfl, hcp, hblk, htk⟩ := own_blk ho (by decide)
          have c0 : cur.toArray[0]? = some (.int .i64 (j : Int)) := by
            have : (cur.take (1 * 2))[0]? = some (.int .i64 (j : Int)) := by rw [htk]; rfl
            rw [List.getElem?_take] at this
            simpa using this
          have c1 : cur.toArray[1]? = some (.int .i64 (wayD j)) := by
            have : (cur.take (1 * 2))[1]? = some (.int .i64 (wayD j)) := by rw [htk]; rfl
            rw [List.getElem?_take] at this
            simpa using this
          have b0 := cell_of_one hq
          have HQ : Hid _ := hq
          have HBl : Hid _ := hblk
          have HC0 : Hid _ := c0
          have HC1 : Hid _ := c1
          obtain ⟨dj, hdj⟩ : ∃ dj, wayD j = dj := ⟨_, rfl⟩
          have ta := fun t w' => ta_stop (.int .i64 (j : Int)) (.int .i64 dj) t w'
          clear hq ho hblk htk c0 c1
          go_upto_region 14 with (first
            | (go_at_call 48; refine (len_any).mono ?_; rintro r w5 ⟨rfl, rfl⟩)
            | (go_at_call 49; refine (hpop_one HQ.out HBl.out.heap HC0.out HC1.out hcp).mono ?_; rw [hdj]; rintro r w6 ⟨rfl, hq6, f6⟩))
          generalize hW7 : World.alloc w6 _ = W7
          have f6' : FaS w3 w6 mf ms qb base (wayF j) (wayS j) none := by
            refine FaS.queue HS.out f6 (fun k hk => by subst hk; exact HS.out.lq) ⟨_, hq6, ?_⟩
            have hgq : g ≠ qb := fun e => by have h1 := HBl.out.heap; rw [e, HQ.out] at h1; injection h1 with e1; injection e1 with _ e2 _; exact absurd e2 (by decide)
            have hb6 : Blk w6 base 104 2 g cp cur := ⟨HBl.out.low, (f6.block g HBl.out.lt hgq).trans HBl.out.heap, HBl.out.max, HBl.out.size⟩
            have := hb6.own (n := 0) (Nat.zero_le _)
            simpa using this
          have b7 : Below w6.heap.size w6 W7 := by rw [← hW7]; exact one_new _ _
          have HS7 : Hid (FaS w3 W7 mf ms qb base (wayF j) (wayS j) none) := f6'.new b7
          obtain ⟨sb, hsb⟩ : ∃ sb, w6.heap.size = sb := ⟨_, rfl⟩
          have hlb6 : base ≤ sb := by rw [← hsb]; exact f6'.lb
          have HSb : Hid (W7.heap[sb]? = some (.cells #[.int .i64 (j : Int), .int .i64 dj] 104 (0, 0))) := by rw [← hsb, ← hW7]; exact heap_alloc_new _ _
          rw [hsb]
          have hmu := muW_way HS.out.si hj
          clear hW7 b7 f6 hq6 HQ HBl HC0 HC1 HS b0 f6'
          obtain ⟨s0, s1⟩ := box2 HSb.out
          have hji : (j : Int) < 3 := by omega
          have hjn : ¬ (3 ≤ j) := by omega
          obtain ⟨hsl, hsf⟩ := wayS_at hlt
          obtain ⟨z0, z1⟩ := SB.cell HS7.out.si hsl
          rw [hsf] at z0
          go_upto_region 15 with (fail)
          obtain ⟨y0, y1⟩ := IB.cell HS7.out.fi (wayF_at hlt)
          generalize (wayF j)[j]'(wayF_at hlt) = yy at y0
          obtain ⟨Wd, hWd⟩ : ∃ Wd, W7.drew = Wd := ⟨_, rfl⟩
          have bd : Below W7.heap.size W7 Wd := by rw [← hWd]; exact Below.drew (Below.refl _ _)
          have HSd : Hid (FaS w3 Wd mf ms qb base (wayF j) (wayS j) none) := HS7.out.new bd
          have HSbd : Hid (Wd.heap[sb]? = _) := (bd.block _ (lt_of_block HSb.out)).trans HSb.out
          have m0 := (bd.cell (p := ⟨mf, j, none⟩) (lt_cell y0)).trans y0
          have m1 : Wd.frozen? ⟨mf, j, none⟩ = false := (IB.cell HSd.out.fi (wayF_at hlt)).2
          have hmf := HSd.out.lf
          have hms := HSd.out.ls
          have hS0 : (fun w' : World => w'.cell? ⟨sb, 0, none⟩ = some (.int .i64 (j : Int)) ∧ w'.cell? ⟨sb, 1, none⟩ = some (.int .i64 dj)) Wd := box2 HSbd.out
          refine wp_calm ?_
          refine wp_region_L [11] (fun w' : World => w'.cell? ⟨sb, 0, none⟩ = some (.int .i64 (j : Int)) ∧ w'.cell? ⟨sb, 1, none⟩ = some (.int .i64 dj)) (by kernel_rfl) ?_
          rw [hWd]
          clear hWd bd HS7 HSb s0 s1 y0 y1
          refine wpAnyL_take (i := 0) 65 (v := .slice (some ⟨mf, 0, none⟩) 3 3) rfl rfl (by kernel_rfl) (by kernel_rfl) (by kernel_rfl) (by kernel_rfl) (by kernel_rfl) (by kernel_rfl) (fun _ _ _ h => h) hS0 (by rfl) (by intro w' hSw; (try dsimp only at hSw); obtain ⟨hSa, hSb⟩ := hSw; go_simp <;> with_reducible rfl) ?_
          simp only [Act.put, List.setIfInBounds_toArray, List.set_cons_zero, List.set_cons_succ]
          refine wpAnyL_take (i := 1) 66 (v := .pointer (some ⟨sb, 0, none⟩)) rfl rfl (by kernel_rfl) (by kernel_rfl) (by kernel_rfl) (by kernel_rfl) (by kernel_rfl) (by kernel_rfl) (fun _ _ _ h => h) hS0 (by rfl) (by intro w' hSw; (try dsimp only at hSw); obtain ⟨hSa, hSb⟩ := hSw; go_simp <;> with_reducible rfl) ?_
          simp only [Act.put, List.setIfInBounds_toArray, List.set_cons_zero, List.set_cons_succ]
          refine wpAnyL_take (i := 2) 67 (v := .int .i64 (j : Int)) rfl rfl (by kernel_rfl) (by kernel_rfl) (by kernel_rfl) (by kernel_rfl) (by kernel_rfl) (by kernel_rfl) (fun _ _ _ h => h) hS0 (by rfl) (by intro w' hSw; (try dsimp only at hSw); obtain ⟨hSa, hSb⟩ := hSw; go_simp <;> with_reducible rfl) ?_
          simp only [Act.put, List.setIfInBounds_toArray, List.set_cons_zero, List.set_cons_succ]
          refine wpAnyL_take (i := 3) 68 (v := .slice (some ⟨ms, 0, none⟩) 3 3) rfl rfl (by kernel_rfl) (by kernel_rfl) (by kernel_rfl) (by kernel_rfl) (by kernel_rfl) (by kernel_rfl) (fun _ _ _ h => h) hS0 (by rfl) (by intro w' hSw; (try dsimp only at hSw); obtain ⟨hSa, hSb⟩ := hSw; go_simp <;> with_reducible rfl) ?_
          simp only [Act.put, List.setIfInBounds_toArray, List.set_cons_zero, List.set_cons_succ]
          refine wpAnyL_take (i := 4) 69 (v := .pointer (some ⟨sb, 0, none⟩)) rfl rfl (by kernel_rfl) (by kernel_rfl) (by kernel_rfl) (by kernel_rfl) (by kernel_rfl) (by kernel_rfl) (fun _ _ _ h => h) hS0 (by rfl) (by intro w' hSw; (try dsimp only at hSw); obtain ⟨hSa, hSb⟩ := hSw; go_simp <;> with_reducible rfl) ?_
          simp only [Act.put, List.setIfInBounds_toArray, List.set_cons_zero, List.set_cons_succ]
          refine wpAnyL_take (i := 5) 70 (v := .int .i64 (j : Int)) rfl rfl (by kernel_rfl) (by kernel_rfl) (by kernel_rfl) (by kernel_rfl) (by kernel_rfl) (by kernel_rfl) (fun _ _ _ h => h) hS0 (by rfl) (by intro w' hSw; (try dsimp only at hSw); obtain ⟨hSa, hSb⟩ := hSw; go_simp <;> with_reducible rfl) ?_
          simp only [Act.put, List.setIfInBounds_toArray, List.set_cons_zero, List.set_cons_succ]
          refine wpAnyL_take (i := 6) 71 (v := .pointer (some ⟨sb, 1, none⟩)) rfl rfl (by kernel_rfl) (by kernel_rfl) (by kernel_rfl) (by kernel_rfl) (by kernel_rfl) (by kernel_rfl) (fun _ _ _ h => h) hS0 (by rfl) (by intro w' hSw; (try dsimp only at hSw); obtain ⟨hSa, hSb⟩ := hSw; go_simp <;> with_reducible rfl) ?_
          simp only [Act.put, List.setIfInBounds_toArray, List.set_cons_zero, List.set_cons_succ]
          refine wpAnyL_take (i := 7) 72 (v := .int .i64 dj) rfl rfl (by kernel_rfl) (by kernel_rfl) (by kernel_rfl) (by kernel_rfl) (by kernel_rfl) (by kernel_rfl) (fun _ _ _ h => h) hS0 (by rfl) (by intro w' hSw; (try dsimp only at hSw); obtain ⟨hSa, hSb⟩ := hSw; go_simp <;> with_reducible rfl) ?_
          simp only [Act.put, List.setIfInBounds_toArray, List.set_cons_zero, List.set_cons_succ]
          refine wpAnyL_one (i := 8) (by kernel_rfl) rfl (fun Ka hKa => ?_)
          go_simp
          refine hKa.out _ _ (fun _ => hS0) ?_
          clear hKa Ka
          try simp only [Act.put, List.setIfInBounds_toArray, List.set_cons_zero, List.set_cons_succ]
          refine wpAnyL_one (i := 9) (by kernel_rfl) rfl (fun Kb hKb => ?_)
          go_simp
          generalize hV8 : World.setCell Wd _ _ = V8
          have f8 : Fr Wd V8 (fun k => k = mf) := by rw [← hV8]; exact Fr.setCell _ _ _ rfl
          have HI8 : Hid (IB V8 mf ((wayF j).set j dj)) := by rw [← hV8]; exact IB.set HSd.out.fi _ _
          have HS8 : Hid (SB V8 ms (wayS j)) := SB.kept HSd.out.si f8 (fun e => hne e.symm)
          have HQ8 : Hid (QO V8 qb base none) := HSd.out.qi.kept f8 (fun k hk _ e => by omega) HSd.out.lq
          have HB8 : Hid (V8.heap[sb]? = _) := (f8.block _ (lt_of_block HSbd.out) (fun e => by omega)).trans HSbd.out
          have hS1 : (fun w' : World => w'.cell? ⟨sb, 0, none⟩ = some (.int .i64 (j : Int)) ∧ w'.cell? ⟨sb, 1, none⟩ = some (.int .i64 dj)) V8 := box2 HB8.out
          obtain ⟨n0, n1⟩ := SB.cell HS8.out hsl
          rw [hsf] at n0
          refine hKb.out _ _ (fun _ => hS1) ?_
          clear hKb Kb hV8 m0 m1
          try simp only [Act.put, List.setIfInBounds_toArray, List.set_cons_zero, List.set_cons_succ]
          refine wpAnyL_one (i := 10) (by kernel_rfl) rfl (fun Kc hKc => ?_)
          go_simp
          refine hKc.out _ _ (fun _ => hS1) ?_
          clear hKc Kc
          try simp only [Act.put, List.setIfInBounds_toArray, List.set_cons_zero, List.set_cons_succ]
          refine wpAnyL_one (i := 11) (by kernel_rfl) rfl (fun Kd hKd => ?_)
          go_simp
          refine hKd.out _ _ (fun h => absurd h (Bool.eq_false_iff.1 (by kernel_rfl))) ?_
          clear hKd Kd
          refine wpAnyL_done (by kernel_rfl) ?_ _
          generalize hV9 : World.setCell V8 _ _ = V9
          have f9 : Fr V8 V9 (fun k => k = ms) := by rw [← hV9]; exact Fr.setCell _ _ _ rfl
          have HS9 : Hid (FaS w3 V9 mf ms qb base (wayF (j + 1)) (wayS (j + 1)) none) := by
            rw [← (way_set hlt).1, ← (way_set hlt).2, hdj]
            have l8 := HSd.out.low.trans (f8.below HSd.out.low.size (fun k hk => by omega))
            have hs8 := f8.size
            have hs9 := f9.size
            exact ⟨l8.trans (f9.below l8.size (fun k hk => by omega)), IB.kept HI8.out f9 hne, by rw [← hV9]; exact SB.set HS8.out _ _, QO.kept HQ8.out f9 (fun k hk _ e => by omega) HSd.out.lq, hmf, hms, HSd.out.lq, by have := HSd.out.lb; omega⟩
          have HB9 : Hid (V9.heap[sb]? = _) := (f9.block _ (lt_of_block HB8.out) (fun e => by omega)).trans HB8.out
          clear hV9 f9 f8 HI8 HS8 HQ8 HB8 hS1 hS0 n0 n1 HSd HSbd z0 z1
          obtain ⟨hoj, hoe⟩ := way_out hlt
          obtain ⟨vs, hM⟩ := HW3.out.om
          obtain ⟨u, hu, cu, fu, ou⟩ := hM.at_ hoj
          rw [hoe] at ou
          obtain ⟨pr, cr, rfl⟩ : ∃ p c, u = .slice p (wayO j).length c := by
            rcases ou.2 with ⟨e1, e2⟩ | ⟨g, cap, cur, e1, _⟩
            · exact ⟨none, 0, by rw [e2]; exact e1⟩
            · exact ⟨_, _, e1⟩
          have HOu : Hid (w3.ownsRow B 75 2 (.slice pr (wayO j).length cr) (wayO j).length ((wayO j).flatMap encA2)) := ou
          have k1 := (HS9.out.low.cell (p := ⟨g1, j, none⟩) (lt_cell cu)).trans cu
          obtain ⟨e0, e1, e2⟩ := box3 ((HS9.out.low.block _ (lt_of_block HK3.out)).trans HK3.out)
          obtain ⟨q0, q1⟩ := box2 HB9.out
          clear hM hu cu fu ou
          go_wp2
          go_loopw [17, 18, 19, 82] (fun _ _ _ i wr => ∃ k : Nat, k ≤ (wayO j).length ∧ i = .int .i64 k ∧ Hid (FaS w3 wr mf ms qb base (wayF (j + 1)) (wayS (j + 1)) (if k = 0 then none else wayQ (j + 1))) ∧ Hid (k = 0 → wr.heap[sb]? = some (.cells #[.int .i64 (j : Int), .int .i64 dj] 104 (0, 0)))) (fun _ _ _ i _ => (wayO j).length - (intOf i).toNat)
          case atStart => exact ⟨0, Nat.zero_le _, rfl, HS9.out, fun _ => HB9.out⟩
          case round =>
            obtain ⟨k, hk, rfl, HSk, HBk'⟩ := hrel
            by_cases hlk : k < (wayO j).length
            · obtain ⟨hk0, hl1, ht, hdy, hyy, hdd, hqq'⟩ := way_row hlk
              have HBk : Hid (wr.heap[sb]? = some (.cells #[.int .i64 (j : Int), .int .i64 dj] 104 (0, 0))) := HBk'.out hk0
              have HQq : Hid _ := hqq'
              have HLk : Hid (k < (wayO j).length) := hlk
              have HK0 : Hid (k = 0) := hk0
              clear hqq' hl1 HBk'
              obtain ⟨ga, ca, e3, hca⟩ := arc_at HOu.out (by omega)
              cases e3
              obtain ⟨a0, a1⟩ := hca k hlk
              have a2 := (HSk.out.low.cell (p := ⟨ga, k * 2, none⟩) (lt_cell a0)).trans a0
              have a3 := (HSk.out.low.cell (p := ⟨ga, k * 2 + 1, none⟩) (lt_cell a1)).trans a1
              rw [ht] at a2
              rw [hdj] at hdy hdd
              generalize ((wayO j)[k]'hlk).w = y at a3 hdy hyy
              have HSk0 : Hid (FaS w3 wr mf ms qb base (wayF (j + 1)) (wayS (j + 1)) none) := by have := HSk.out; rw [if_pos hk0] at this; exact this
              clear HSk a0 a1 hca ht hk0
              go_upto_region 19 with (fail)
              generalize hWa : World.alloc wr _ = Wa
              have ba : Below wr.heap.size wr Wa := by rw [← hWa]; exact one_new _ _
              have HAb : Hid (Wa.heap[wr.heap.size]? = some (.cells #[.int .i64 ((j + 1 : Nat) : Int), .int .i64 y] 75 (0, 0))) := by rw [← hWa]; exact heap_alloc_new _ _
              have HSa : Hid (FaS w3 Wa mf ms qb base (wayF (j + 1)) (wayS (j + 1)) none) := HSk0.out.new ba
              have HBa : Hid (Wa.heap[sb]? = _) := (ba.block _ (lt_of_block HBk.out)).trans HBk.out
              obtain ⟨ab, hab⟩ : ∃ ab, wr.heap.size = ab := ⟨_, rfl⟩
              rw [hab] at HAb ⊢
              clear hWa ba HSk0 HBk a2 a3
              refine far_r19 (sb := sb) (ab := ab) (d := dj) (ta := ((j + 1 : Nat) : Int)) (ya := y) rfl rfl rfl rfl (box2 HBa.out).2 HAb.out hdd hyy ?_
              rintro X Wb hbb ⟨hx18, hx19⟩
              have HSb2 : Hid (FaS w3 Wb mf ms qb base (wayF (j + 1)) (wayS (j + 1)) none) := HSa.out.new hbb
              have HBb : Hid (Wb.heap[sb]? = _) := (hbb.block _ (lt_of_block HBa.out)).trans HBa.out
              have l0 := (box2 ((hbb.block _ (lt_of_block HAb.out)).trans HAb.out)).1
              simp only [puts]
              rw [hx18, hx19]
              generalize X 87 = t87
              generalize X 88 = t88
              generalize X 89 = t89
              generalize X 90 = t90
              generalize X 91 = t91
              generalize X 92 = t92
              generalize X 86 = t86
              generalize X 93 = t93
              generalize X 94 = t94
              simp only [Act.put, List.setIfInBounds_toArray, List.set_cons_succ, List.set_cons_zero]
              rw [hdy]
              clear hx18 hx19 hbb HSa HBa HAb
              obtain ⟨vq, hvq, hoq⟩ := HSb2.out.qi
              dsimp only at hoq
              have HVq : Hid _ := hvq
              have HOq : Hid (Wb.ownsRow base 104 2 vq 0 []) := hoq
              clear hvq hoq
              go_wp2_with (go_at_call 52; refine (hpush_none HVq.out HOq.out HSb2.out.lb).mono ?_; rintro r Wc ⟨rfl, v', hvc, hoc, fc⟩)
              have HSc : Hid (FaS w3 Wc mf ms qb base (wayF (j + 1)) (wayS (j + 1)) (if k + 1 = 0 then none else wayQ (j + 1))) := by
                rw [if_neg (by omega), HQq.out]
                exact FaS.queue HSb2.out fc (fun q hq => by
                  rcases hq with e | e
                  · rw [e]; exact HSb2.out.lq
                  · exact (World.ownsRow.lt HOq.out q e).1) ⟨v', hvc, hoc⟩
              go_roundw
              case rel =>
                have hk0 := HK0.out
                exact ⟨k + 1, Nat.succ_le_of_lt HLk.out, by first | (subst hk0; rfl) | (rw [hk0]; rfl) | simp [hk0, wrap64], HSc, fun h => absurd h (by omega)⟩
              case measure =>
                have := HLk.out
                have hk0 := HK0.out
                clear HSc HQq HK0 HLk
                subst hk0
                have e1 : (intOf (Value.int .i64 (wrap64 (((0 : Nat) : Int) + 1)))).toNat = 1 := by simp [intOf, wrap64]
                have e2 : (intOf (Value.int .i64 ((0 : Nat) : Int))).toNat = 0 := rfl
                rw [e1, e2]
                omega
            · obtain rfl : k = (wayO j).length := by omega
              rw [way_end hlt] at HSk
              go_wp2
              go_roundw
              case rel =>
                refine ⟨_, _, _, _, _, _, _, _, _, _, _, _, _, _, _, _, _, _, _, _, _, _, _, _, _, _, _, _, _, _, _, _, _, _, _, _, _, _, _, _, _, _, _, _, _, _, _, _, _, _, _, _, _, _, _, _, _, _, _, _, _, _, ⟨j + 1, by omega, HSk⟩, rfl⟩
              case measure => rw [hmu, muW_way HSk.out.si (by omega)]; omega
        · obtain rfl : j = 3 := by omega
          obtain ⟨v, hq, ho⟩ := HS.out.qi
          have hwq : wayQ 3 = none := rfl
          rw [hwq] at ho
          dsimp only at ho
          obtain ⟨p, m, c, rfl⟩ := own_any ho
          have hm0 : m = 0 := by
            rcases ho.2 with ⟨e1, _⟩ | ⟨g, cap, cur, e1, _⟩
            · cases e1; rfl
            · cases e1; rfl
          subst hm0
          have b0 := cell_of_one hq
          have HF3 : Hid (IB wr mf [0, 5, 7]) := HS.out.fi
          have HL3 : Hid (Below w3.heap.size w3 wr) := HS.out.low
          clear hq ho
          go_wp2_with (go_at_call 48; refine (len_any).mono ?_; rintro r w5 ⟨rfl, rfl⟩)
          refine noGoto_ret ?_
          go_wp2
          go_ret2
          exact ⟨⟨mf, rfl, HF3.out⟩, HB3.out.trans (HL3.out.mono HB3.out.size)⟩
end Go.Proofs.Ytfidojdolbmjdaa
end
