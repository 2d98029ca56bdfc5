/- Region 3 of MoreChecks: all of it together. -/
import Derived.Test.YtnijacbfcffnpaaRegG
import Derived.Test.YtnijacbfcffnpaaKcSource
namespace Go.Proofs.Ytnijacbfcffnpaa
open Go.RowKit
set_option maxRecDepth 100000 in
set_option maxHeartbeats 4000000 in
theorem mchecks_r3 {W0 : World} {A : Act} {s : ByteArray} {ao po : Option Addr} {n cap pn pc bx : Nat} {kb : Bool} {er : Int} {G : List Vx} {K : Act → World → Prop} {Q' : Exit → Act → World → Prop} (hsz : A.tmps.size = 32) (hA0 : A.eval (.tmp 0) = .string s) (hA2 : A.eval (.tmp 2) = .slice po pn pc) (hA4 : A.eval (.tmp 4) = .pointer (some ⟨bx, 0, none⟩)) (hB : W0.cell? ⟨bx, 0, none⟩ = some (.slice ao n cap)) (hAw : ∀ W, Below W0.heap.size W0 W → Calls Try.prog 11 #[] W fun r w' => r = .returned (.bool true) ∧ Below W.heap.size W w') (hK1 : ∀ W, Below W0.heap.size W0 W → Calls Try.prog 12 #[.string s] W fun r w' => r = .returned (.bool kb) ∧ Below W.heap.size W w') (hK2 : ∀ W, Below W0.heap.size W0 W → Calls Try.prog 13 #[.string s] W fun r w' => r = .returned (.bool kb) ∧ Below W.heap.size W w') (hCk : ∀ W, Below W0.heap.size W0 W → Calls Try.prog 14 #[.string s, .agg #[.slice ao n cap], .slice po pn pc] W fun r w' => r = .returned (.int .i64 er) ∧ Below W.heap.size W w') (hRf : ∀ W, Below W0.heap.size W0 W → Calls Try.prog 9 #[.agg #[.slice ao n cap]] W fun r w' => ∃ bo c, r = .returned (.slice bo n c) ∧ VxAt w' (fun _ => True) bo G ∧ Below W.heap.size W w') (hRc : ∀ W bo c, Below W0.heap.size W0 W → VxAt W (fun _ => True) bo G → Calls Try.prog 15 #[.string s, .slice bo n c, .slice po pn pc] W fun r w' => r = .returned (.int .i64 er) ∧ Below W.heap.size W w')
    (HK : ∀ X W, Below W0.heap.size W0 W → X 6 = .bool true → K (puts A X [12, 13, 14, 15, 16, 17, 18, 19, 20, 21, 22, 23, 24, 25, 26, 27, 28, 29, 30, 31, 6]) W) :
    Code.wp Try.prog ((Try.f4.body.bind (regionJ 3)).getD .skip) (Exit.then K Q') A W0 := by
  obtain ⟨ds, hds⟩ : ∃ ds, [12, 13, 14, 15, 16, 17, 18, 19, 20, 21, 22, 23, 24, 25, 26, 27, 28, 29, 30, 31, 6] = ds := ⟨_, rfl⟩
  have hlt : ∀ d ∈ [12, 13, 14, 15, 16, 17, 18, 19, 20, 21, 22, 23, 24, 25, 26, 27, 28, 29, 30, 31, 6], d < A.tmps.size := by rw [hsz]; decide
  have hin : ∀ {X : Nat → Value} {k : Nat}, k ∈ [12, 13, 14, 15, 16, 17, 18, 19, 20, 21, 22, 23, 24, 25, 26, 27, 28, 29, 30, 31, 6] → (puts A X ds).eval (.tmp k) = X k := fun hk => by rw [← hds]; exact eval_in hk (hlt _ hk)
  have hout : ∀ {X : Nat → Value} {k : Nat}, k ∉ [12, 13, 14, 15, 16, 17, 18, 19, 20, 21, 22, 23, 24, 25, 26, 27, 28, 29, 30, 31, 6] → (puts A X ds).eval (.tmp k) = A.eval (.tmp k) := fun hk => by rw [← hds]; exact eval_out hk
  have g0 : ds.getD 0 0 = 12 := by rw [← hds]; rfl
  have g1 : ds.getD 1 0 = 13 := by rw [← hds]; rfl
  have g2 : ds.getD 2 0 = 14 := by rw [← hds]; rfl
  have g3 : ds.getD 3 0 = 15 := by rw [← hds]; rfl
  have g4 : ds.getD 4 0 = 16 := by rw [← hds]; rfl
  have g5 : ds.getD 5 0 = 17 := by rw [← hds]; rfl
  have g6 : ds.getD 6 0 = 18 := by rw [← hds]; rfl
  have g7 : ds.getD 7 0 = 19 := by rw [← hds]; rfl
  have g8 : ds.getD 8 0 = 20 := by rw [← hds]; rfl
  have g9 : ds.getD 9 0 = 21 := by rw [← hds]; rfl
  have g10 : ds.getD 10 0 = 22 := by rw [← hds]; rfl
  have g11 : ds.getD 11 0 = 23 := by rw [← hds]; rfl
  have g12 : ds.getD 12 0 = 24 := by rw [← hds]; rfl
  have g13 : ds.getD 13 0 = 25 := by rw [← hds]; rfl
  have g14 : ds.getD 14 0 = 26 := by rw [← hds]; rfl
  have g15 : ds.getD 15 0 = 27 := by rw [← hds]; rfl
  have g16 : ds.getD 16 0 = 28 := by rw [← hds]; rfl
  have g17 : ds.getD 17 0 = 29 := by rw [← hds]; rfl
  have g18 : ds.getD 18 0 = 30 := by rw [← hds]; rfl
  have g19 : ds.getD 19 0 = 31 := by rw [← hds]; rfl
  have g20 : ds.getD 20 0 = 6 := by rw [← hds]; rfl
  obtain ⟨gb, hgbE⟩ : ∃ gb : Nat → Bool, (fun j => if j = 1 then true else if j = 8 then true else true) = gb := ⟨_, rfl⟩
  have gb1 : gb 1 = true := by rw [← hgbE]; rfl
  have gb8 : gb 8 = true := by rw [← hgbE]; rfl
  obtain ⟨V, hV, e0, e1, e2, e3, e4, e5, e6, e7, e8, e9, e10, e11, e12, e13, e14, e15, e16, e17, e18, e19, e20⟩ : ∃ V : Nat → Value → World → Prop, (∀ i v W W', V i v W → Below W.heap.size W W' → V i v W') ∧ (∀ v W, V 0 v W = (v = .bool true)) ∧ (∀ v W, V 1 v W = (v = .bool true)) ∧ (∀ v W, V 2 v W = (v = .string s)) ∧ (∀ v W, V 3 v W = (v = .bool kb)) ∧ (∀ v W, V 4 v W = (v = .string s)) ∧ (∀ v W, V 5 v W = (v = .bool kb)) ∧ (∀ v W, V 6 v W = (v = .bool true)) ∧ (∀ v W, V 7 v W = (v = .bool true)) ∧ (∀ v W, V 8 v W = (v = .bool true)) ∧ (∀ v W, V 9 v W = (v = .string s)) ∧ (∀ v W, V 10 v W = (v = .agg #[.slice ao n cap])) ∧ (∀ v W, V 11 v W = (v = .slice po pn pc)) ∧ (∀ v W, V 12 v W = (v = .int .i64 er)) ∧ (∀ v W, V 13 v W = (v = .string s)) ∧ (∀ v W, V 14 v W = (v = .agg #[.slice ao n cap])) ∧ (∀ v W, V 15 v W = (∃ bo c, v = .slice bo n c ∧ VxAt W (fun _ => True) bo G)) ∧ (∀ v W, V 16 v W = (v = .slice po pn pc)) ∧ (∀ v W, V 17 v W = (v = .int .i64 er)) ∧ (∀ v W, V 18 v W = (v = .bool true)) ∧ (∀ v W, V 19 v W = (v = .bool true)) ∧ (∀ v W, V 20 v W = (v = .bool true)) := by
    refine ⟨fun i v W => match i with
      | 0 => v = .bool true
      | 1 => v = .bool true
      | 2 => v = .string s
      | 3 => v = .bool kb
      | 4 => v = .string s
      | 5 => v = .bool kb
      | 6 => v = .bool true
      | 7 => v = .bool true
      | 8 => v = .bool true
      | 9 => v = .string s
      | 10 => v = .agg #[.slice ao n cap]
      | 11 => v = .slice po pn pc
      | 12 => v = .int .i64 er
      | 13 => v = .string s
      | 14 => v = .agg #[.slice ao n cap]
      | 15 => ∃ bo c, v = .slice bo n c ∧ VxAt W (fun _ => True) bo G
      | 16 => v = .slice po pn pc
      | 17 => v = .int .i64 er
      | 18 => v = .bool true
      | 19 => v = .bool true
      | 20 => v = .bool true
      | _ => True, ?_, fun _ _ => rfl, fun _ _ => rfl, fun _ _ => rfl, fun _ _ => rfl, fun _ _ => rfl, fun _ _ => rfl, fun _ _ => rfl, fun _ _ => rfl, fun _ _ => rfl, fun _ _ => rfl, fun _ _ => rfl, fun _ _ => rfl, fun _ _ => rfl, fun _ _ => rfl, fun _ _ => rfl, fun _ _ => rfl, fun _ _ => rfl, fun _ _ => rfl, fun _ _ => rfl, fun _ _ => rfl, fun _ _ => rfl⟩
    intro i v W W' h hb
    match i, h with
    | 0, h => exact h
    | 1, h => exact h
    | 2, h => exact h
    | 3, h => exact h
    | 4, h => exact h
    | 5, h => exact h
    | 6, h => exact h
    | 7, h => exact h
    | 8, h => exact h
    | 9, h => exact h
    | 10, h => exact h
    | 11, h => exact h
    | 12, h => exact h
    | 13, h => exact h
    | 14, h => exact h
    | 15, h => exact (by obtain ⟨bo, c, h1, h2⟩ := h; exact ⟨bo, c, h1, kc_new h2 hb⟩)
    | 16, h => exact h
    | 17, h => exact h
    | 18, h => exact h
    | 19, h => exact h
    | 20, h => exact h
    | _ + 21, _ => trivial
  conv => arg 2; whnf
  refine wp_region_G ds V gb (by kernel_rfl) (by kernel_rfl) (by rw [← hds]; kernel_rfl) (by rw [← hds]; exact hlt) hV ?_ ?_ ?_
  · intro i o j want ho hg v W hv
    have hj : j ∈ [1, 8] := guards_at (by kernel_rfl) ho hg
    simp only [List.mem_cons, List.not_mem_nil, or_false] at hj
    rcases hj with rfl | rfl
    · rw [gb1]; rw [e1] at hv; exact hv
    · rw [gb8]; rw [e8] at hv; exact hv
  · refine ⟨?_, ?_, ?_, ?_, ?_, ?_, ?_, ?_, ?_, ?_, ?_, ?_, ?_, ?_, ?_, ?_, ?_, ?_, ?_, ?_, ?_, trivial⟩
    · refine ⟨fun _ X W hb hd hu => ?_, fun h => absurd (show true = false from h) (by decide)⟩
      have hf : (puts A X ds).eval (.func 11) = .func (.func 11) #[] #[] := rfl
      refine v_call (V := V 0) (f := 11) (vs := #[]) ?_ ?_
      · generalize (puts A X ds).eval = ρ at hf ⊢
        go_simp
      · refine (hAw W hb).mono ?_
        rintro r W' ⟨rfl, hb'⟩
        exact ⟨_, rfl, by rw [e0], hb'⟩
    · refine ⟨fun _ X W hb hd hu => ?_, fun h => absurd (show true = false from h) (by decide)⟩
      have d0 := hd 0 (by kernel_rfl)
      rw [e0, g0] at d0
      have h0 := (hin (X := X) (k := 12) (by decide)).trans d0
      refine v_value (V := V 1) (v := .bool true) ?_ (by rw [e1])
      generalize (puts A X ds).eval = ρ at h0 ⊢
      go_simp
    · refine ⟨fun _ X W hb hd hu => ?_, fun h => (by have h' : (gb 1 == true) = false := h; rw [gb1] at h'; cases h')⟩
      have h0 := hout (X := X) (k := 0) (by decide)
      rw [hA0] at h0
      refine v_value (V := V 2) (v := .string s) ?_ (by rw [e2])
      generalize (puts A X ds).eval = ρ at h0 ⊢
      go_simp
    · refine ⟨fun _ X W hb hd hu => ?_, fun h => (by have h' : (gb 1 == true) = false := h; rw [gb1] at h'; cases h')⟩
      have d0 := hd 2 (by kernel_rfl)
      rw [e2, g2] at d0
      have h0 := (hin (X := X) (k := 14) (by decide)).trans d0
      have hf : (puts A X ds).eval (.func 12) = .func (.func 12) #[] #[] := rfl
      refine v_call (V := V 3) (f := 12) (vs := #[.string s]) ?_ ?_
      · generalize (puts A X ds).eval = ρ at h0 hf ⊢
        go_simp
      · refine (hK1 W hb).mono ?_
        rintro r W' ⟨rfl, hb'⟩
        exact ⟨_, rfl, by rw [e3], hb'⟩
    · refine ⟨fun _ X W hb hd hu => ?_, fun h => (by have h' : (gb 1 == true) = false := h; rw [gb1] at h'; cases h')⟩
      have h0 := hout (X := X) (k := 0) (by decide)
      rw [hA0] at h0
      refine v_value (V := V 4) (v := .string s) ?_ (by rw [e4])
      generalize (puts A X ds).eval = ρ at h0 ⊢
      go_simp
    · refine ⟨fun _ X W hb hd hu => ?_, fun h => (by have h' : (gb 1 == true) = false := h; rw [gb1] at h'; cases h')⟩
      have d0 := hd 4 (by kernel_rfl)
      rw [e4, g4] at d0
      have h0 := (hin (X := X) (k := 16) (by decide)).trans d0
      have hf : (puts A X ds).eval (.func 13) = .func (.func 13) #[] #[] := rfl
      refine v_call (V := V 5) (f := 13) (vs := #[.string s]) ?_ ?_
      · generalize (puts A X ds).eval = ρ at h0 hf ⊢
        go_simp
      · refine (hK2 W hb).mono ?_
        rintro r W' ⟨rfl, hb'⟩
        exact ⟨_, rfl, by rw [e5], hb'⟩
    · refine ⟨fun _ X W hb hd hu => ?_, fun h => (by have h' : (gb 1 == true) = false := h; rw [gb1] at h'; cases h')⟩
      have d0 := hd 3 (by kernel_rfl)
      rw [e3, g3] at d0
      have h0 := (hin (X := X) (k := 15) (by decide)).trans d0
      have d1 := hd 5 (by kernel_rfl)
      rw [e5, g5] at d1
      have h1 := (hin (X := X) (k := 17) (by decide)).trans d1
      refine v_value (V := V 6) (v := .bool true) ?_ (by rw [e6])
      generalize (puts A X ds).eval = ρ at h0 h1 ⊢
      go_simp
    · refine ⟨fun _ X W hb hd hu => ?_, fun h => absurd (show true = false from h) (by decide)⟩
      have d0 := hd 1 (by kernel_rfl)
      rw [e1, g1] at d0
      have h0 := (hin (X := X) (k := 13) (by decide)).trans d0
      have d1 := hd 6 (by kernel_rfl)
      rw [e6, g6] at d1
      have h1 := (hin (X := X) (k := 18) (by decide)).trans d1
      have h2 : (puts A X ds).eval (.const (.bool false)) = .bool false := rfl
      refine v_value (V := V 7) (v := .bool true) ?_ (by rw [e7])
      generalize (puts A X ds).eval = ρ at h0 h1 h2 ⊢
      go_simp
    · refine ⟨fun _ X W hb hd hu => ?_, fun h => absurd (show true = false from h) (by decide)⟩
      have d0 := hd 7 (by kernel_rfl)
      rw [e7, g7] at d0
      have h0 := (hin (X := X) (k := 19) (by decide)).trans d0
      refine v_value (V := V 8) (v := .bool true) ?_ (by rw [e8])
      generalize (puts A X ds).eval = ρ at h0 ⊢
      go_simp
    · refine ⟨fun _ X W hb hd hu => ?_, fun h => (by have h' : (gb 8 == true) = false := h; rw [gb8] at h'; cases h')⟩
      have h0 := hout (X := X) (k := 0) (by decide)
      rw [hA0] at h0
      refine v_value (V := V 9) (v := .string s) ?_ (by rw [e9])
      generalize (puts A X ds).eval = ρ at h0 ⊢
      go_simp
    · refine ⟨fun _ X W hb hd hu => ?_, fun h => (by have h' : (gb 8 == true) = false := h; rw [gb8] at h'; cases h')⟩
      have h0 := hout (X := X) (k := 4) (by decide)
      rw [hA4] at h0
      have c0 := (hb.cell (p := ⟨bx, 0, none⟩) (lt_cell hB)).trans hB
      refine v_value (V := V 10) (v := .agg #[.slice ao n cap]) ?_ (by rw [e10])
      generalize (puts A X ds).eval = ρ at h0 ⊢
      go_simp
    · refine ⟨fun _ X W hb hd hu => ?_, fun h => (by have h' : (gb 8 == true) = false := h; rw [gb8] at h'; cases h')⟩
      have h0 := hout (X := X) (k := 2) (by decide)
      rw [hA2] at h0
      refine v_value (V := V 11) (v := .slice po pn pc) ?_ (by rw [e11])
      generalize (puts A X ds).eval = ρ at h0 ⊢
      go_simp
    · refine ⟨fun _ X W hb hd hu => ?_, fun h => (by have h' : (gb 8 == true) = false := h; rw [gb8] at h'; cases h')⟩
      have d0 := hd 9 (by kernel_rfl)
      rw [e9, g9] at d0
      have h0 := (hin (X := X) (k := 21) (by decide)).trans d0
      have d1 := hd 10 (by kernel_rfl)
      rw [e10, g10] at d1
      have h1 := (hin (X := X) (k := 22) (by decide)).trans d1
      have d2 := hd 11 (by kernel_rfl)
      rw [e11, g11] at d2
      have h2 := (hin (X := X) (k := 23) (by decide)).trans d2
      have hf : (puts A X ds).eval (.func 14) = .func (.func 14) #[] #[] := rfl
      refine v_call (V := V 12) (f := 14) (vs := #[.string s, .agg #[.slice ao n cap], .slice po pn pc]) ?_ ?_
      · generalize (puts A X ds).eval = ρ at h0 h1 h2 hf ⊢
        go_simp
      · refine (hCk W hb).mono ?_
        rintro r W' ⟨rfl, hb'⟩
        exact ⟨_, rfl, by rw [e12], hb'⟩
    · refine ⟨fun _ X W hb hd hu => ?_, fun h => (by have h' : (gb 8 == true) = false := h; rw [gb8] at h'; cases h')⟩
      have h0 := hout (X := X) (k := 0) (by decide)
      rw [hA0] at h0
      refine v_value (V := V 13) (v := .string s) ?_ (by rw [e13])
      generalize (puts A X ds).eval = ρ at h0 ⊢
      go_simp
    · refine ⟨fun _ X W hb hd hu => ?_, fun h => (by have h' : (gb 8 == true) = false := h; rw [gb8] at h'; cases h')⟩
      have h0 := hout (X := X) (k := 4) (by decide)
      rw [hA4] at h0
      have c0 := (hb.cell (p := ⟨bx, 0, none⟩) (lt_cell hB)).trans hB
      refine v_value (V := V 14) (v := .agg #[.slice ao n cap]) ?_ (by rw [e14])
      generalize (puts A X ds).eval = ρ at h0 ⊢
      go_simp
    · refine ⟨fun _ X W hb hd hu => ?_, fun h => (by have h' : (gb 8 == true) = false := h; rw [gb8] at h'; cases h')⟩
      have d0 := hd 14 (by kernel_rfl)
      rw [e14, g14] at d0
      have h0 := (hin (X := X) (k := 26) (by decide)).trans d0
      have hf : (puts A X ds).eval (.func 9) = .func (.func 9) #[] #[] := rfl
      refine v_call (V := V 15) (f := 9) (vs := #[.agg #[.slice ao n cap]]) ?_ ?_
      · generalize (puts A X ds).eval = ρ at h0 hf ⊢
        go_simp
      · refine (hRf W hb).mono ?_
        rintro r W' ⟨bo, c, rfl, hVx, hb'⟩
        exact ⟨_, rfl, by rw [e15]; exact ⟨bo, c, rfl, hVx⟩, hb'⟩
    · refine ⟨fun _ X W hb hd hu => ?_, fun h => (by have h' : (gb 8 == true) = false := h; rw [gb8] at h'; cases h')⟩
      have h0 := hout (X := X) (k := 2) (by decide)
      rw [hA2] at h0
      refine v_value (V := V 16) (v := .slice po pn pc) ?_ (by rw [e16])
      generalize (puts A X ds).eval = ρ at h0 ⊢
      go_simp
    · refine ⟨fun _ X W hb hd hu => ?_, fun h => (by have h' : (gb 8 == true) = false := h; rw [gb8] at h'; cases h')⟩
      have d0 := hd 13 (by kernel_rfl)
      rw [e13, g13] at d0
      have h0 := (hin (X := X) (k := 25) (by decide)).trans d0
      have d1 := hd 15 (by kernel_rfl)
      rw [e15, g15] at d1
      obtain ⟨bo, c, d1, hVx⟩ := d1
      have h1 := (hin (X := X) (k := 27) (by decide)).trans d1
      have d2 := hd 16 (by kernel_rfl)
      rw [e16, g16] at d2
      have h2 := (hin (X := X) (k := 28) (by decide)).trans d2
      have hf : (puts A X ds).eval (.func 15) = .func (.func 15) #[] #[] := rfl
      refine v_call (V := V 17) (f := 15) (vs := #[.string s, .slice bo n c, .slice po pn pc]) ?_ ?_
      · generalize (puts A X ds).eval = ρ at h0 h1 h2 hf ⊢
        go_simp
      · refine (hRc W bo c hb hVx).mono ?_
        rintro r W' ⟨rfl, hb'⟩
        exact ⟨_, rfl, by rw [e17], hb'⟩
    · refine ⟨fun _ X W hb hd hu => ?_, fun h => (by have h' : (gb 8 == true) = false := h; rw [gb8] at h'; cases h')⟩
      have d0 := hd 12 (by kernel_rfl)
      rw [e12, g12] at d0
      have h0 := (hin (X := X) (k := 24) (by decide)).trans d0
      have d1 := hd 17 (by kernel_rfl)
      rw [e17, g17] at d1
      have h1 := (hin (X := X) (k := 29) (by decide)).trans d1
      refine v_value (V := V 18) (v := .bool true) ?_ (by rw [e18])
      generalize (puts A X ds).eval = ρ at h0 h1 ⊢
      go_simp
    · refine ⟨fun _ X W hb hd hu => ?_, fun h => absurd (show true = false from h) (by decide)⟩
      have d0 := hd 8 (by kernel_rfl)
      rw [e8, g8] at d0
      have h0 := (hin (X := X) (k := 20) (by decide)).trans d0
      have d1 := hd 18 (by kernel_rfl)
      rw [e18, g18] at d1
      have h1 := (hin (X := X) (k := 30) (by decide)).trans d1
      have h2 : (puts A X ds).eval (.const (.bool false)) = .bool false := rfl
      refine v_value (V := V 19) (v := .bool true) ?_ (by rw [e19])
      generalize (puts A X ds).eval = ρ at h0 h1 h2 ⊢
      go_simp
    · refine ⟨fun _ X W hb hd hu => ?_, fun h => absurd (show true = false from h) (by decide)⟩
      have d0 := hd 19 (by kernel_rfl)
      rw [e19, g19] at d0
      have h0 := (hin (X := X) (k := 31) (by decide)).trans d0
      refine v_value (V := V 20) (v := .bool true) ?_ (by rw [e20])
      generalize (puts A X ds).eval = ρ at h0 ⊢
      go_simp
  · intro X W hb hall
    have r20 := hall 20 (by decide)
    rw [e20, g20] at r20
    have := HK X W hb r20
    rw [hds] at this
    exact this
end Go.Proofs.Ytnijacbfcffnpaa
