import Derived.Test.YtfidojdolbmjdaaRegMM
import Derived.Test.YtfidojdolbmjdaaGrCheckM
import Derived.Laws.MakeOwn
import Derived.Laws.Tables
/- Region 2 of weave: the web's rows are made. -/
namespace Go.Proofs.Ytfidojdolbmjdaa
open Go.RowKit
theorem size_web : (Try.prog.info? 70).map (·.size) = some 3 := by kernel_rfl
theorem v_new {P : Program} {Q : Exit → Act → World → Prop} {o : Oper} {a : Act} {w w' : World} {v : Value} {V : Value → World → Prop} (h : (execOp a.eval o).run P w = .ok (.value v) w') (hV : V v w') (hb : Below w.heap.size w w') : o.wp P a w (fun a' W' => ∃ v, a' = a.put o.dst v ∧ V v W' ∧ Below w.heap.size w W') Q :=
  op_value h ⟨v, rfl, hV, hb⟩
set_option maxRecDepth 100000 in
set_option maxHeartbeats 4000000 in
theorem weave_r2 {W0 : World} {A : Act} {gi n ci : Nat} {K : Act → World → Prop} {Q' : Exit → Act → World → Prop} (hsz : A.tmps.size = 102) (hA3 : A.eval (.tmp 3) = .slice (some ⟨gi, 0, none⟩) n ci) (hm1 : ∀ W : World, (Instr.makeSlice 67 (.int .i64 (n : Int)) (.int .i64 (n : Int))).run Try.prog W = .ok (.slice (some ⟨W.heap.size, 0, none⟩) n n) (W.alloc (.cells (madeCells #[.slice none 0 0] n) 73))) (hm2 : ∀ W : World, (Instr.makeSlice 68 (.int .i64 (n : Int)) (.int .i64 (n : Int))).run Try.prog W = .ok (.slice (some ⟨W.heap.size, 0, none⟩) n n) (W.alloc (.cells (madeCells #[.slice none 0 0] n) 116)))
    (HK : ∀ X W W1 g1 g2 gb, Below W0.heap.size W0 W → W1 = W.setRow gb #[.slice (some ⟨gi, 0, none⟩) n ci, .slice (some ⟨g1, 0, none⟩) n n, .slice (some ⟨g2, 0, none⟩) n n] → (W.heap[g1]? = some (.cells (madeCells #[.slice none 0 0] n) 73 (0, 0)) ∧ W0.heap.size ≤ g1) → (W.heap[g2]? = some (.cells (madeCells #[.slice none 0 0] n) 116 (0, 0)) ∧ W0.heap.size ≤ g2) → (W.heap[gb]? = some (.cells #[.slice none 0 0, .slice none 0 0, .slice none 0 0] 70 (0, 0)) ∧ W0.heap.size ≤ gb) → X 4 = .pointer (some ⟨gb, 0, none⟩) → K (puts A X [15, 16, 17, 18, 19, 20, 21, 22, 4]) W1) :
    Code.wp Try.prog ((Try.f26.body.bind (regionJ 2)).getD .skip) (Exit.then K Q') A W0 := by
  obtain ⟨ds, hds⟩ : ∃ ds, [15, 16, 17, 18, 19, 20, 21, 22, 4] = ds := ⟨_, rfl⟩
  have hlt : ∀ d ∈ [15, 16, 17, 18, 19, 20, 21, 22, 4], d < A.tmps.size := by rw [hsz]; decide
  have hin : ∀ {X : Nat → Value} {k : Nat}, k ∈ [15, 16, 17, 18, 19, 20, 21, 22, 4] → (puts A X ds).eval (.tmp k) = X k := fun hk => by rw [← hds]; exact eval_in hk (hlt _ hk)
  have hout : ∀ {X : Nat → Value} {k : Nat}, k ∉ [15, 16, 17, 18, 19, 20, 21, 22, 4] → (puts A X ds).eval (.tmp k) = A.eval (.tmp k) := fun hk => by rw [← hds]; exact eval_out hk
  have g0 : ds.getD 0 0 = 15 := by rw [← hds]; rfl
  have g1 : ds.getD 1 0 = 16 := by rw [← hds]; rfl
  have g2 : ds.getD 2 0 = 17 := by rw [← hds]; rfl
  have g3 : ds.getD 3 0 = 18 := by rw [← hds]; rfl
  have g4 : ds.getD 4 0 = 19 := by rw [← hds]; rfl
  have g5 : ds.getD 5 0 = 20 := by rw [← hds]; rfl
  have g6 : ds.getD 6 0 = 21 := by rw [← hds]; rfl
  have g7 : ds.getD 7 0 = 22 := by rw [← hds]; rfl
  have g8 : ds.getD 8 0 = 4 := by rw [← hds]; rfl
  obtain ⟨gb, hgbE⟩ : ∃ gb : Nat → Bool, (fun j => true) = gb := ⟨_, rfl⟩
  obtain ⟨V, hV, e0, e1, e2, e3, e4, e5, e6, e7, e8⟩ : ∃ V : Nat → Value → World → Prop, (∀ i v W W', V i v W → Below W.heap.size W W' → V i v W') ∧ (∀ v W, V 0 v W = (v = .slice (some ⟨gi, 0, none⟩) n ci)) ∧ (∀ v W, V 1 v W = (v = .slice (some ⟨gi, 0, none⟩) n ci)) ∧ (∀ v W, V 2 v W = (v = .int .i64 (n : Int))) ∧ (∀ v W, V 3 v W = (∃ g, v = .slice (some ⟨g, 0, none⟩) n n ∧ W.heap[g]? = some (.cells (madeCells #[.slice none 0 0] n) 73 (0, 0)) ∧ W0.heap.size ≤ g)) ∧ (∀ v W, V 4 v W = (v = .slice (some ⟨gi, 0, none⟩) n ci)) ∧ (∀ v W, V 5 v W = (v = .int .i64 (n : Int))) ∧ (∀ v W, V 6 v W = (∃ g, v = .slice (some ⟨g, 0, none⟩) n n ∧ W.heap[g]? = some (.cells (madeCells #[.slice none 0 0] n) 116 (0, 0)) ∧ W0.heap.size ≤ g)) ∧ (∀ v W, V 7 v W = (∃ g1 g2, v = .agg #[.slice (some ⟨gi, 0, none⟩) n ci, .slice (some ⟨g1, 0, none⟩) n n, .slice (some ⟨g2, 0, none⟩) n n] ∧ (W.heap[g1]? = some (.cells (madeCells #[.slice none 0 0] n) 73 (0, 0)) ∧ W0.heap.size ≤ g1) ∧ (W.heap[g2]? = some (.cells (madeCells #[.slice none 0 0] n) 116 (0, 0)) ∧ W0.heap.size ≤ g2))) ∧ (∀ v W, V 8 v W = (∃ gb, v = .pointer (some ⟨gb, 0, none⟩) ∧ W.heap[gb]? = some (.cells #[.slice none 0 0, .slice none 0 0, .slice none 0 0] 70 (0, 0)) ∧ W0.heap.size ≤ gb)) := by
    refine ⟨fun i v W => match i with
      | 0 => v = .slice (some ⟨gi, 0, none⟩) n ci
      | 1 => v = .slice (some ⟨gi, 0, none⟩) n ci
      | 2 => v = .int .i64 (n : Int)
      | 3 => ∃ g, v = .slice (some ⟨g, 0, none⟩) n n ∧ W.heap[g]? = some (.cells (madeCells #[.slice none 0 0] n) 73 (0, 0)) ∧ W0.heap.size ≤ g
      | 4 => v = .slice (some ⟨gi, 0, none⟩) n ci
      | 5 => v = .int .i64 (n : Int)
      | 6 => ∃ g, v = .slice (some ⟨g, 0, none⟩) n n ∧ W.heap[g]? = some (.cells (madeCells #[.slice none 0 0] n) 116 (0, 0)) ∧ W0.heap.size ≤ g
      | 7 => ∃ g1 g2, v = .agg #[.slice (some ⟨gi, 0, none⟩) n ci, .slice (some ⟨g1, 0, none⟩) n n, .slice (some ⟨g2, 0, none⟩) n n] ∧ (W.heap[g1]? = some (.cells (madeCells #[.slice none 0 0] n) 73 (0, 0)) ∧ W0.heap.size ≤ g1) ∧ (W.heap[g2]? = some (.cells (madeCells #[.slice none 0 0] n) 116 (0, 0)) ∧ W0.heap.size ≤ g2)
      | 8 => ∃ gb, v = .pointer (some ⟨gb, 0, none⟩) ∧ W.heap[gb]? = some (.cells #[.slice none 0 0, .slice none 0 0, .slice none 0 0] 70 (0, 0)) ∧ W0.heap.size ≤ gb
      | _ => True, ?_, fun _ _ => rfl, fun _ _ => rfl, fun _ _ => rfl, fun _ _ => rfl, fun _ _ => rfl, fun _ _ => rfl, fun _ _ => rfl, fun _ _ => rfl, fun _ _ => rfl⟩
    intro i v W W' h hb
    match i, h with
    | 0, h => exact h
    | 1, h => exact h
    | 2, h => exact h
    | 3, h => exact (by obtain ⟨g, h1, h2, h3⟩ := h; exact ⟨g, h1, (hb.block _ (Array.getElem?_eq_some_iff.1 h2).1).trans h2, h3⟩)
    | 4, h => exact h
    | 5, h => exact h
    | 6, h => exact (by obtain ⟨g, h1, h2, h3⟩ := h; exact ⟨g, h1, (hb.block _ (Array.getElem?_eq_some_iff.1 h2).1).trans h2, h3⟩)
    | 7, h => exact (by obtain ⟨g1, g2, h1, ⟨h2, h3⟩, ⟨h4, h5⟩⟩ := h; exact ⟨g1, g2, h1, ⟨(hb.block _ (Array.getElem?_eq_some_iff.1 h2).1).trans h2, h3⟩, ⟨(hb.block _ (Array.getElem?_eq_some_iff.1 h4).1).trans h4, h5⟩⟩)
    | 8, h => exact (by obtain ⟨g, h1, h2, h3⟩ := h; exact ⟨g, h1, (hb.block _ (Array.getElem?_eq_some_iff.1 h2).1).trans h2, h3⟩)
    | _ + 9, _ => trivial
  conv => arg 2; whnf
  refine wp_region_M 9 rfl ds V gb (by kernel_rfl) (by kernel_rfl) (by kernel_rfl) (by rw [← hds]; kernel_rfl) (by rw [← hds]; exact hlt) hV ?_ ?_ ?_
  · intro i o j want ho hg v W hv
    have hj : j ∈ ([] : List Nat) := guards_at (by kernel_rfl) ho hg
    cases hj
  · refine ⟨?_, ?_, ?_, ?_, ?_, ?_, ?_, ?_, ?_, trivial⟩
    · refine ⟨fun _ X W hb hd hu => ?_, fun h => absurd (show true = false from h) (by decide)⟩
      have h0 := hout (X := X) (k := 3) (by decide)
      rw [hA3] at h0
      refine v_value (V := V 0) (v := .slice (some ⟨gi, 0, none⟩) n ci) ?_ (by rw [e0])
      generalize (puts A X ds).eval = ρ at h0 ⊢
      go_simp
    · refine ⟨fun _ X W hb hd hu => ?_, fun h => absurd (show true = false from h) (by decide)⟩
      have h0 := hout (X := X) (k := 3) (by decide)
      rw [hA3] at h0
      refine v_value (V := V 1) (v := .slice (some ⟨gi, 0, none⟩) n ci) ?_ (by rw [e1])
      generalize (puts A X ds).eval = ρ at h0 ⊢
      go_simp
    · refine ⟨fun _ X W hb hd hu => ?_, fun h => absurd (show true = false from h) (by decide)⟩
      have d0 := hd 1 (by kernel_rfl)
      rw [e1, g1] at d0
      have h0 := (hin (X := X) (k := 16) (by decide)).trans d0
      refine v_value (V := V 2) (v := .int .i64 (n : Int)) ?_ (by rw [e2])
      generalize (puts A X ds).eval = ρ at h0 ⊢
      go_simp
    · refine ⟨fun _ X W hb hd hu => ?_, fun h => absurd (show true = false from h) (by decide)⟩
      have d0 := hd 2 (by kernel_rfl)
      rw [e2, g2] at d0
      have h0 := (hin (X := X) (k := 17) (by decide)).trans d0
      refine v_new (V := V 3) (v := .slice (some ⟨W.heap.size, 0, none⟩) n n) (w' := W.alloc (.cells (madeCells #[.slice none 0 0] n) 73)) ?_ (by rw [e3]; exact ⟨_, rfl, heap_alloc_new _ _, hb.size⟩) (one_new _ _)
      have hmm := hm1 W
      generalize (puts A X ds).eval = ρ at h0 ⊢
      go_simp
    · refine ⟨fun _ X W hb hd hu => ?_, fun h => absurd (show true = false from h) (by decide)⟩
      have h0 := hout (X := X) (k := 3) (by decide)
      rw [hA3] at h0
      refine v_value (V := V 4) (v := .slice (some ⟨gi, 0, none⟩) n ci) ?_ (by rw [e4])
      generalize (puts A X ds).eval = ρ at h0 ⊢
      go_simp
    · refine ⟨fun _ X W hb hd hu => ?_, fun h => absurd (show true = false from h) (by decide)⟩
      have d0 := hd 4 (by kernel_rfl)
      rw [e4, g4] at d0
      have h0 := (hin (X := X) (k := 19) (by decide)).trans d0
      refine v_value (V := V 5) (v := .int .i64 (n : Int)) ?_ (by rw [e5])
      generalize (puts A X ds).eval = ρ at h0 ⊢
      go_simp
    · refine ⟨fun _ X W hb hd hu => ?_, fun h => absurd (show true = false from h) (by decide)⟩
      have d0 := hd 5 (by kernel_rfl)
      rw [e5, g5] at d0
      have h0 := (hin (X := X) (k := 20) (by decide)).trans d0
      refine v_new (V := V 6) (v := .slice (some ⟨W.heap.size, 0, none⟩) n n) (w' := W.alloc (.cells (madeCells #[.slice none 0 0] n) 116)) ?_ (by rw [e6]; exact ⟨_, rfl, heap_alloc_new _ _, hb.size⟩) (one_new _ _)
      have hmm := hm2 W
      generalize (puts A X ds).eval = ρ at h0 ⊢
      go_simp
    · refine ⟨fun _ X W hb hd hu => ?_, fun h => absurd (show true = false from h) (by decide)⟩
      have d0 := hd 0 (by kernel_rfl)
      rw [e0, g0] at d0
      have h0 := (hin (X := X) (k := 15) (by decide)).trans d0
      have d1 := hd 3 (by kernel_rfl)
      rw [e3, g3] at d1
      obtain ⟨g1, d1, p1⟩ := d1
      have h1 := (hin (X := X) (k := 18) (by decide)).trans d1
      have d2 := hd 6 (by kernel_rfl)
      rw [e6, g6] at d2
      obtain ⟨g2, d2, p2⟩ := d2
      have h2 := (hin (X := X) (k := 21) (by decide)).trans d2
      refine v_value (V := V 7) (v := .agg #[.slice (some ⟨gi, 0, none⟩) n ci, .slice (some ⟨g1, 0, none⟩) n n, .slice (some ⟨g2, 0, none⟩) n n]) ?_ (by rw [e7]; exact ⟨g1, g2, rfl, p1, p2⟩)
      generalize (puts A X ds).eval = ρ at h0 h1 h2 ⊢
      go_simp
    · refine ⟨fun _ X W hb hd hu => ?_, fun h => absurd (show true = false from h) (by decide)⟩
      refine v_new (V := V 8) (v := .pointer (some ⟨W.heap.size, 0, none⟩)) (w' := W.alloc (.cells #[.slice none 0 0, .slice none 0 0, .slice none 0 0] 70)) ?_ (by rw [e8]; exact ⟨_, rfl, heap_alloc_new _ _, hb.size⟩) (one_new _ _)
      generalize (puts A X ds).eval = ρ
      go_simp
  · intro X W hb hall
    have r7 := hall 7 (by decide)
    rw [e7, g7] at r7
    have r8 := hall 8 (by decide)
    rw [e8, g8] at r8
    obtain ⟨g1, g2, r7, p1, p2⟩ := r7
    obtain ⟨gb, r8, p3⟩ := r8
    have h7 := (hin (X := X) (k := 22) (by decide)).trans r7
    have h8 := (hin (X := X) (k := 4) (by decide)).trans r8
    refine wp_store_row 70 _ _ rfl gb #[.slice (some ⟨gi, 0, none⟩) n ci, .slice (some ⟨g1, 0, none⟩) n n, .slice (some ⟨g2, 0, none⟩) n n] h8 h7 70 _ p3.1 size_web rfl (by simp [Value.oneCell']) ?_
    have := HK X W _ g1 g2 gb hb rfl p1 p2 p3 r8
    rw [hds] at this
    exact this
end Go.Proofs.Ytfidojdolbmjdaa
