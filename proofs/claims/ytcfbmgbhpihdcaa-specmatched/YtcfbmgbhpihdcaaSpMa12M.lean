import Derived.Test.YtcfbmgbhpihdcaaSpFreeM
import Derived.Test.YtcfbmgbhpihdcaaRegGM
/- Region 12 of Matched: whether a partner is not there, no neighbour, or of another. -/
namespace Go.Proofs.Ytcfbmgbhpihdcaa
open Go.RowKit
set_option maxRecDepth 100000 in
set_option maxHeartbeats 4000000 in
theorem match_r12n {W0 : World} {A : Act}  {K : Act → World → Prop} {Q' : Exit → Act → World → Prop} (hsz : A.tmps.size = 65) (hA10 : A.eval (.tmp 10) = .bool false) 
    (HK : ∀ X W, Below W0.heap.size W0 W → X 63 = .bool true → K (puts A X [43, 44, 45, 46, 47, 48, 49, 50, 51, 52, 53, 54, 55, 56, 57, 58, 59, 60, 61, 62, 63]) W) :
    Code.wp Try.prog ((Try.f25.body.bind (regionJ 12)).getD .skip) (Exit.then K Q') A W0 := by
  obtain ⟨ds, hds⟩ : ∃ ds, [43, 44, 45, 46, 47, 48, 49, 50, 51, 52, 53, 54, 55, 56, 57, 58, 59, 60, 61, 62, 63] = ds := ⟨_, rfl⟩
  have hlt : ∀ d ∈ [43, 44, 45, 46, 47, 48, 49, 50, 51, 52, 53, 54, 55, 56, 57, 58, 59, 60, 61, 62, 63], d < A.tmps.size := by rw [hsz]; decide
  have hin : ∀ {X : Nat → Value} {k : Nat}, k ∈ [43, 44, 45, 46, 47, 48, 49, 50, 51, 52, 53, 54, 55, 56, 57, 58, 59, 60, 61, 62, 63] → (puts A X ds).eval (.tmp k) = X k := fun hk => by rw [← hds]; exact eval_in hk (hlt _ hk)
  have hout : ∀ {X : Nat → Value} {k : Nat}, k ∉ [43, 44, 45, 46, 47, 48, 49, 50, 51, 52, 53, 54, 55, 56, 57, 58, 59, 60, 61, 62, 63] → (puts A X ds).eval (.tmp k) = A.eval (.tmp k) := fun hk => by rw [← hds]; exact eval_out hk
  have g0 : ds.getD 0 0 = 43 := by rw [← hds]; rfl
  have g1 : ds.getD 1 0 = 44 := by rw [← hds]; rfl
  have g2 : ds.getD 2 0 = 45 := by rw [← hds]; rfl
  have g3 : ds.getD 3 0 = 46 := by rw [← hds]; rfl
  have g4 : ds.getD 4 0 = 47 := by rw [← hds]; rfl
  have g5 : ds.getD 5 0 = 48 := by rw [← hds]; rfl
  have g6 : ds.getD 6 0 = 49 := by rw [← hds]; rfl
  have g7 : ds.getD 7 0 = 50 := by rw [← hds]; rfl
  have g8 : ds.getD 8 0 = 51 := by rw [← hds]; rfl
  have g9 : ds.getD 9 0 = 52 := by rw [← hds]; rfl
  have g10 : ds.getD 10 0 = 53 := by rw [← hds]; rfl
  have g11 : ds.getD 11 0 = 54 := by rw [← hds]; rfl
  have g12 : ds.getD 12 0 = 55 := by rw [← hds]; rfl
  have g13 : ds.getD 13 0 = 56 := by rw [← hds]; rfl
  have g14 : ds.getD 14 0 = 57 := by rw [← hds]; rfl
  have g15 : ds.getD 15 0 = 58 := by rw [← hds]; rfl
  have g16 : ds.getD 16 0 = 59 := by rw [← hds]; rfl
  have g17 : ds.getD 17 0 = 60 := by rw [← hds]; rfl
  have g18 : ds.getD 18 0 = 61 := by rw [← hds]; rfl
  have g19 : ds.getD 19 0 = 62 := by rw [← hds]; rfl
  have g20 : ds.getD 20 0 = 63 := by rw [← hds]; rfl
  obtain ⟨gb, hgbE⟩ : ∃ gb : Nat → Bool, (fun j => if j = 2 then true else if j = 9 then true else true) = gb := ⟨_, rfl⟩
  have gb2 : gb 2 = true := by rw [← hgbE]; rfl
  have gb9 : gb 9 = true := by rw [← hgbE]; rfl
  obtain ⟨V, hV, e0, e1, e2, e3, e4, e5, e6, e7, e8, e9, e10, e11, e12, e13, e14, e15, e16, e17, e18, e19, e20⟩ : ∃ V : Nat → Value → World → Prop, (∀ i v W W', V i v W → Below W.heap.size W W' → V i v W') ∧ (∀ v W, V 0 v W = (v = .bool false)) ∧ (∀ v W, V 1 v W = (v = .bool true)) ∧ (∀ v W, V 2 v W = (v = .bool true)) ∧ (∀ v W, V 3 v W = (True)) ∧ (∀ v W, V 4 v W = (True)) ∧ (∀ v W, V 5 v W = (True)) ∧ (∀ v W, V 6 v W = (True)) ∧ (∀ v W, V 7 v W = (True)) ∧ (∀ v W, V 8 v W = (v = .bool true)) ∧ (∀ v W, V 9 v W = (v = .bool true)) ∧ (∀ v W, V 10 v W = (True)) ∧ (∀ v W, V 11 v W = (True)) ∧ (∀ v W, V 12 v W = (True)) ∧ (∀ v W, V 13 v W = (True)) ∧ (∀ v W, V 14 v W = (True)) ∧ (∀ v W, V 15 v W = (True)) ∧ (∀ v W, V 16 v W = (True)) ∧ (∀ v W, V 17 v W = (True)) ∧ (∀ v W, V 18 v W = (True)) ∧ (∀ v W, V 19 v W = (True)) ∧ (∀ v W, V 20 v W = (v = .bool true)) := by
    refine ⟨fun i v W => match i with
      | 0 => v = .bool false
      | 1 => v = .bool true
      | 2 => v = .bool true
      | 3 => True
      | 4 => True
      | 5 => True
      | 6 => True
      | 7 => True
      | 8 => v = .bool true
      | 9 => v = .bool true
      | 10 => True
      | 11 => True
      | 12 => True
      | 13 => True
      | 14 => True
      | 15 => True
      | 16 => True
      | 17 => True
      | 18 => True
      | 19 => True
      | 20 => v = .bool true
      | _ => True, ?_, fun _ _ => rfl, fun _ _ => rfl, fun _ _ => rfl, fun _ _ => rfl, fun _ _ => rfl, fun _ _ => rfl, fun _ _ => rfl, fun _ _ => rfl, fun _ _ => rfl, fun _ _ => rfl, fun _ _ => rfl, fun _ _ => rfl, fun _ _ => rfl, fun _ _ => rfl, fun _ _ => rfl, fun _ _ => rfl, fun _ _ => rfl, fun _ _ => rfl, fun _ _ => rfl, fun _ _ => rfl, fun _ _ => rfl⟩
    intro i v W W' h hb
    match i, h with
    | 0, h => exact h
    | 1, h => exact h
    | 2, h => exact h
    | 3, h => exact h
    | 4, h => exact h
    | 5, h => exact h
    | 6, h => exact h
    | 7, h => exact h
    | 8, h => exact h
    | 9, h => exact h
    | 10, h => exact h
    | 11, h => exact h
    | 12, h => exact h
    | 13, h => exact h
    | 14, h => exact h
    | 15, h => exact h
    | 16, h => exact h
    | 17, h => exact h
    | 18, h => exact h
    | 19, h => exact h
    | 20, h => exact h
    | _ + 21, _ => trivial
  conv => arg 2; whnf
  refine wp_region_G ds V gb (by kernel_rfl) (by kernel_rfl) (by rw [← hds]; kernel_rfl) (by rw [← hds]; exact hlt) hV ?_ ?_ ?_
  · intro i o j want ho hg v W hv
    have hj : j ∈ [2, 9] := guards_at (by kernel_rfl) ho hg
    simp only [List.mem_cons, List.not_mem_nil, or_false] at hj
    rcases hj with rfl | rfl
    · rw [gb2]; rw [e2] at hv; exact hv
    · rw [gb9]; rw [e9] at hv; exact hv
  · refine ⟨?_, ?_, ?_, ?_, ?_, ?_, ?_, ?_, ?_, ?_, ?_, ?_, ?_, ?_, ?_, ?_, ?_, ?_, ?_, ?_, ?_, trivial⟩
    · refine ⟨fun _ X W hb hd hu => ?_, fun h => absurd (show true = false from h) (by decide)⟩
      have h0 := hout (X := X) (k := 10) (by decide)
      rw [hA10] at h0
      refine v_value (V := V 0) (v := .bool false) ?_ (by rw [e0])
      generalize (puts A X ds).eval = ρ at h0 ⊢
      go_simp
    · refine ⟨fun _ X W hb hd hu => ?_, fun h => absurd (show true = false from h) (by decide)⟩
      have d0 := hd 0 (by kernel_rfl)
      rw [e0, g0] at d0
      have h0 := (hin (X := X) (k := 43) (by decide)).trans d0
      refine v_value (V := V 1) (v := .bool true) ?_ (by rw [e1])
      generalize (puts A X ds).eval = ρ at h0 ⊢
      go_simp
    · refine ⟨fun _ X W hb hd hu => ?_, fun h => absurd (show true = false from h) (by decide)⟩
      have d0 := hd 1 (by kernel_rfl)
      rw [e1, g1] at d0
      have h0 := (hin (X := X) (k := 44) (by decide)).trans d0
      refine v_value (V := V 2) (v := .bool true) ?_ (by rw [e2])
      generalize (puts A X ds).eval = ρ at h0 ⊢
      go_simp
    · refine ⟨fun h => (by have h' : (gb 2 == false) = true := h; rw [gb2] at h'; cases h'), fun _ W => (by rw [e3]; trivial)⟩
    · refine ⟨fun h => (by have h' : (gb 2 == false) = true := h; rw [gb2] at h'; cases h'), fun _ W => (by rw [e4]; trivial)⟩
    · refine ⟨fun h => (by have h' : (gb 2 == false) = true := h; rw [gb2] at h'; cases h'), fun _ W => (by rw [e5]; trivial)⟩
    · refine ⟨fun h => (by have h' : (gb 2 == false) = true := h; rw [gb2] at h'; cases h'), fun _ W => (by rw [e6]; trivial)⟩
    · refine ⟨fun h => (by have h' : (gb 2 == false) = true := h; rw [gb2] at h'; cases h'), fun _ W => (by rw [e7]; trivial)⟩
    · refine ⟨fun _ X W hb hd hu => ?_, fun h => absurd (show true = false from h) (by decide)⟩
      have d0 := hd 2 (by kernel_rfl)
      rw [e2, g2] at d0
      have h0 := (hin (X := X) (k := 45) (by decide)).trans d0
      have h1 : (puts A X ds).eval (.const (.bool true)) = .bool true := rfl
      refine v_value (V := V 8) (v := .bool true) ?_ (by rw [e8])
      generalize (puts A X ds).eval = ρ at h0 h1 ⊢
      go_simp
    · refine ⟨fun _ X W hb hd hu => ?_, fun h => absurd (show true = false from h) (by decide)⟩
      have d0 := hd 8 (by kernel_rfl)
      rw [e8, g8] at d0
      have h0 := (hin (X := X) (k := 51) (by decide)).trans d0
      refine v_value (V := V 9) (v := .bool true) ?_ (by rw [e9])
      generalize (puts A X ds).eval = ρ at h0 ⊢
      go_simp
    · refine ⟨fun h => (by have h' : (gb 9 == false) = true := h; rw [gb9] at h'; cases h'), fun _ W => (by rw [e10]; trivial)⟩
    · refine ⟨fun h => (by have h' : (gb 9 == false) = true := h; rw [gb9] at h'; cases h'), fun _ W => (by rw [e11]; trivial)⟩
    · refine ⟨fun h => (by have h' : (gb 9 == false) = true := h; rw [gb9] at h'; cases h'), fun _ W => (by rw [e12]; trivial)⟩
    · refine ⟨fun h => (by have h' : (gb 9 == false) = true := h; rw [gb9] at h'; cases h'), fun _ W => (by rw [e13]; trivial)⟩
    · refine ⟨fun h => (by have h' : (gb 9 == false) = true := h; rw [gb9] at h'; cases h'), fun _ W => (by rw [e14]; trivial)⟩
    · refine ⟨fun h => (by have h' : (gb 9 == false) = true := h; rw [gb9] at h'; cases h'), fun _ W => (by rw [e15]; trivial)⟩
    · refine ⟨fun h => (by have h' : (gb 9 == false) = true := h; rw [gb9] at h'; cases h'), fun _ W => (by rw [e16]; trivial)⟩
    · refine ⟨fun h => (by have h' : (gb 9 == false) = true := h; rw [gb9] at h'; cases h'), fun _ W => (by rw [e17]; trivial)⟩
    · refine ⟨fun h => (by have h' : (gb 9 == false) = true := h; rw [gb9] at h'; cases h'), fun _ W => (by rw [e18]; trivial)⟩
    · refine ⟨fun h => (by have h' : (gb 9 == false) = true := h; rw [gb9] at h'; cases h'), fun _ W => (by rw [e19]; trivial)⟩
    · refine ⟨fun _ X W hb hd hu => ?_, fun h => absurd (show true = false from h) (by decide)⟩
      have d0 := hd 9 (by kernel_rfl)
      rw [e9, g9] at d0
      have h0 := (hin (X := X) (k := 52) (by decide)).trans d0
      have h1 : (puts A X ds).eval (.const (.bool true)) = .bool true := rfl
      refine v_value (V := V 20) (v := .bool true) ?_ (by rw [e20])
      generalize (puts A X ds).eval = ρ at h0 h1 ⊢
      go_simp
  · intro X W hb hall
    have r20 := hall 20 (by decide)
    rw [e20, g20] at r20
    have := HK X W hb r20
    rw [hds] at this
    exact this
set_option maxRecDepth 100000 in
set_option maxHeartbeats 4000000 in
theorem match_r12f {W0 : World} {A : Act} {bw gi n ci m p : Nat} {so sn : Value} {K : Act → World → Prop} {Q' : Exit → Act → World → Prop} (hsz : A.tmps.size = 65) (hA10 : A.eval (.tmp 10) = .bool true) (hA5 : A.eval (.tmp 5) = .pointer (some ⟨bw, 0, none⟩)) (hA7 : A.eval (.tmp 7) = .int .i64 (m : Nat)) (hA9 : A.eval (.tmp 9) = .int .i64 (p : Nat)) (hW : W0.heap[bw]? = some (.cells #[.slice (some ⟨gi, 0, none⟩) n ci, so, sn] 81 (0, 0))) (hN : ∀ W, Below W0.heap.size W0 W → Calls Try.prog 49 #[.agg #[.slice (some ⟨gi, 0, none⟩) n ci, so, sn], .int .i64 (m : Nat), .int .i64 (p : Nat)] W fun r w' => r = .returned (.bool false) ∧ Below W.heap.size W w') 
    (HK : ∀ X W, Below W0.heap.size W0 W → X 63 = .bool true → K (puts A X [43, 44, 45, 46, 47, 48, 49, 50, 51, 52, 53, 54, 55, 56, 57, 58, 59, 60, 61, 62, 63]) W) :
    Code.wp Try.prog ((Try.f25.body.bind (regionJ 12)).getD .skip) (Exit.then K Q') A W0 := by
  obtain ⟨ds, hds⟩ : ∃ ds, [43, 44, 45, 46, 47, 48, 49, 50, 51, 52, 53, 54, 55, 56, 57, 58, 59, 60, 61, 62, 63] = ds := ⟨_, rfl⟩
  have hlt : ∀ d ∈ [43, 44, 45, 46, 47, 48, 49, 50, 51, 52, 53, 54, 55, 56, 57, 58, 59, 60, 61, 62, 63], d < A.tmps.size := by rw [hsz]; decide
  have hin : ∀ {X : Nat → Value} {k : Nat}, k ∈ [43, 44, 45, 46, 47, 48, 49, 50, 51, 52, 53, 54, 55, 56, 57, 58, 59, 60, 61, 62, 63] → (puts A X ds).eval (.tmp k) = X k := fun hk => by rw [← hds]; exact eval_in hk (hlt _ hk)
  have hout : ∀ {X : Nat → Value} {k : Nat}, k ∉ [43, 44, 45, 46, 47, 48, 49, 50, 51, 52, 53, 54, 55, 56, 57, 58, 59, 60, 61, 62, 63] → (puts A X ds).eval (.tmp k) = A.eval (.tmp k) := fun hk => by rw [← hds]; exact eval_out hk
  have g0 : ds.getD 0 0 = 43 := by rw [← hds]; rfl
  have g1 : ds.getD 1 0 = 44 := by rw [← hds]; rfl
  have g2 : ds.getD 2 0 = 45 := by rw [← hds]; rfl
  have g3 : ds.getD 3 0 = 46 := by rw [← hds]; rfl
  have g4 : ds.getD 4 0 = 47 := by rw [← hds]; rfl
  have g5 : ds.getD 5 0 = 48 := by rw [← hds]; rfl
  have g6 : ds.getD 6 0 = 49 := by rw [← hds]; rfl
  have g7 : ds.getD 7 0 = 50 := by rw [← hds]; rfl
  have g8 : ds.getD 8 0 = 51 := by rw [← hds]; rfl
  have g9 : ds.getD 9 0 = 52 := by rw [← hds]; rfl
  have g10 : ds.getD 10 0 = 53 := by rw [← hds]; rfl
  have g11 : ds.getD 11 0 = 54 := by rw [← hds]; rfl
  have g12 : ds.getD 12 0 = 55 := by rw [← hds]; rfl
  have g13 : ds.getD 13 0 = 56 := by rw [← hds]; rfl
  have g14 : ds.getD 14 0 = 57 := by rw [← hds]; rfl
  have g15 : ds.getD 15 0 = 58 := by rw [← hds]; rfl
  have g16 : ds.getD 16 0 = 59 := by rw [← hds]; rfl
  have g17 : ds.getD 17 0 = 60 := by rw [← hds]; rfl
  have g18 : ds.getD 18 0 = 61 := by rw [← hds]; rfl
  have g19 : ds.getD 19 0 = 62 := by rw [← hds]; rfl
  have g20 : ds.getD 20 0 = 63 := by rw [← hds]; rfl
  obtain ⟨gb, hgbE⟩ : ∃ gb : Nat → Bool, (fun j => if j = 2 then false else if j = 9 then true else true) = gb := ⟨_, rfl⟩
  have gb2 : gb 2 = false := by rw [← hgbE]; rfl
  have gb9 : gb 9 = true := by rw [← hgbE]; rfl
  obtain ⟨V, hV, e0, e1, e2, e3, e4, e5, e6, e7, e8, e9, e10, e11, e12, e13, e14, e15, e16, e17, e18, e19, e20⟩ : ∃ V : Nat → Value → World → Prop, (∀ i v W W', V i v W → Below W.heap.size W W' → V i v W') ∧ (∀ v W, V 0 v W = (v = .bool true)) ∧ (∀ v W, V 1 v W = (v = .bool false)) ∧ (∀ v W, V 2 v W = (v = .bool false)) ∧ (∀ v W, V 3 v W = (v = .agg #[.slice (some ⟨gi, 0, none⟩) n ci, so, sn])) ∧ (∀ v W, V 4 v W = (v = .int .i64 (m : Nat))) ∧ (∀ v W, V 5 v W = (v = .int .i64 (p : Nat))) ∧ (∀ v W, V 6 v W = (v = .bool false)) ∧ (∀ v W, V 7 v W = (v = .bool true)) ∧ (∀ v W, V 8 v W = (v = .bool true)) ∧ (∀ v W, V 9 v W = (v = .bool true)) ∧ (∀ v W, V 10 v W = (True)) ∧ (∀ v W, V 11 v W = (True)) ∧ (∀ v W, V 12 v W = (True)) ∧ (∀ v W, V 13 v W = (True)) ∧ (∀ v W, V 14 v W = (True)) ∧ (∀ v W, V 15 v W = (True)) ∧ (∀ v W, V 16 v W = (True)) ∧ (∀ v W, V 17 v W = (True)) ∧ (∀ v W, V 18 v W = (True)) ∧ (∀ v W, V 19 v W = (True)) ∧ (∀ v W, V 20 v W = (v = .bool true)) := by
    refine ⟨fun i v W => match i with
      | 0 => v = .bool true
      | 1 => v = .bool false
      | 2 => v = .bool false
      | 3 => v = .agg #[.slice (some ⟨gi, 0, none⟩) n ci, so, sn]
      | 4 => v = .int .i64 (m : Nat)
      | 5 => v = .int .i64 (p : Nat)
      | 6 => v = .bool false
      | 7 => v = .bool true
      | 8 => v = .bool true
      | 9 => v = .bool true
      | 10 => True
      | 11 => True
      | 12 => True
      | 13 => True
      | 14 => True
      | 15 => True
      | 16 => True
      | 17 => True
      | 18 => True
      | 19 => True
      | 20 => v = .bool true
      | _ => True, ?_, fun _ _ => rfl, fun _ _ => rfl, fun _ _ => rfl, fun _ _ => rfl, fun _ _ => rfl, fun _ _ => rfl, fun _ _ => rfl, fun _ _ => rfl, fun _ _ => rfl, fun _ _ => rfl, fun _ _ => rfl, fun _ _ => rfl, fun _ _ => rfl, fun _ _ => rfl, fun _ _ => rfl, fun _ _ => rfl, fun _ _ => rfl, fun _ _ => rfl, fun _ _ => rfl, fun _ _ => rfl, fun _ _ => rfl⟩
    intro i v W W' h hb
    match i, h with
    | 0, h => exact h
    | 1, h => exact h
    | 2, h => exact h
    | 3, h => exact h
    | 4, h => exact h
    | 5, h => exact h
    | 6, h => exact h
    | 7, h => exact h
    | 8, h => exact h
    | 9, h => exact h
    | 10, h => exact h
    | 11, h => exact h
    | 12, h => exact h
    | 13, h => exact h
    | 14, h => exact h
    | 15, h => exact h
    | 16, h => exact h
    | 17, h => exact h
    | 18, h => exact h
    | 19, h => exact h
    | 20, h => exact h
    | _ + 21, _ => trivial
  conv => arg 2; whnf
  refine wp_region_G ds V gb (by kernel_rfl) (by kernel_rfl) (by rw [← hds]; kernel_rfl) (by rw [← hds]; exact hlt) hV ?_ ?_ ?_
  · intro i o j want ho hg v W hv
    have hj : j ∈ [2, 9] := guards_at (by kernel_rfl) ho hg
    simp only [List.mem_cons, List.not_mem_nil, or_false] at hj
    rcases hj with rfl | rfl
    · rw [gb2]; rw [e2] at hv; exact hv
    · rw [gb9]; rw [e9] at hv; exact hv
  · refine ⟨?_, ?_, ?_, ?_, ?_, ?_, ?_, ?_, ?_, ?_, ?_, ?_, ?_, ?_, ?_, ?_, ?_, ?_, ?_, ?_, ?_, trivial⟩
    · refine ⟨fun _ X W hb hd hu => ?_, fun h => absurd (show true = false from h) (by decide)⟩
      have h0 := hout (X := X) (k := 10) (by decide)
      rw [hA10] at h0
      refine v_value (V := V 0) (v := .bool true) ?_ (by rw [e0])
      generalize (puts A X ds).eval = ρ at h0 ⊢
      go_simp
    · refine ⟨fun _ X W hb hd hu => ?_, fun h => absurd (show true = false from h) (by decide)⟩
      have d0 := hd 0 (by kernel_rfl)
      rw [e0, g0] at d0
      have h0 := (hin (X := X) (k := 43) (by decide)).trans d0
      refine v_value (V := V 1) (v := .bool false) ?_ (by rw [e1])
      generalize (puts A X ds).eval = ρ at h0 ⊢
      go_simp
    · refine ⟨fun _ X W hb hd hu => ?_, fun h => absurd (show true = false from h) (by decide)⟩
      have d0 := hd 1 (by kernel_rfl)
      rw [e1, g1] at d0
      have h0 := (hin (X := X) (k := 44) (by decide)).trans d0
      refine v_value (V := V 2) (v := .bool false) ?_ (by rw [e2])
      generalize (puts A X ds).eval = ρ at h0 ⊢
      go_simp
    · refine ⟨fun _ X W hb hd hu => ?_, fun h => (by have h' : (gb 2 == false) = false := h; rw [gb2] at h'; cases h')⟩
      have h0 := hout (X := X) (k := 5) (by decide)
      rw [hA5] at h0
      exact wp_load_row 81 _ rfl bw h0 81 #[.slice (some ⟨gi, 0, none⟩) n ci, so, sn] (0, 0) _ ((hb.block _ (Array.getElem?_eq_some_iff.1 hW).1).trans hW) Try.underlying81 rfl size_web ⟨_, rfl, by rw [e3], Below.refl _ _⟩
    · refine ⟨fun _ X W hb hd hu => ?_, fun h => (by have h' : (gb 2 == false) = false := h; rw [gb2] at h'; cases h')⟩
      have h0 := hout (X := X) (k := 7) (by decide)
      rw [hA7] at h0
      refine v_value (V := V 4) (v := .int .i64 (m : Nat)) ?_ (by rw [e4])
      generalize (puts A X ds).eval = ρ at h0 ⊢
      go_simp
    · refine ⟨fun _ X W hb hd hu => ?_, fun h => (by have h' : (gb 2 == false) = false := h; rw [gb2] at h'; cases h')⟩
      have h0 := hout (X := X) (k := 9) (by decide)
      rw [hA9] at h0
      refine v_value (V := V 5) (v := .int .i64 (p : Nat)) ?_ (by rw [e5])
      generalize (puts A X ds).eval = ρ at h0 ⊢
      go_simp
    · refine ⟨fun _ X W hb hd hu => ?_, fun h => (by have h' : (gb 2 == false) = false := h; rw [gb2] at h'; cases h')⟩
      have d0 := hd 3 (by kernel_rfl)
      rw [e3, g3] at d0
      have h0 := (hin (X := X) (k := 46) (by decide)).trans d0
      have d1 := hd 4 (by kernel_rfl)
      rw [e4, g4] at d1
      have h1 := (hin (X := X) (k := 47) (by decide)).trans d1
      have d2 := hd 5 (by kernel_rfl)
      rw [e5, g5] at d2
      have h2 := (hin (X := X) (k := 48) (by decide)).trans d2
      have hf : (puts A X ds).eval (.func 49) = .func (.func 49) #[] #[] := rfl
      refine v_call (V := V 6) (f := 49) (vs := #[.agg #[.slice (some ⟨gi, 0, none⟩) n ci, so, sn], .int .i64 (m : Nat), .int .i64 (p : Nat)]) ?_ ?_
      · generalize (puts A X ds).eval = ρ at h0 h1 h2 hf ⊢
        go_simp
      · refine (hN W hb).mono ?_
        rintro r W' ⟨rfl, hb'⟩
        exact ⟨_, rfl, by rw [e6], hb'⟩
    · refine ⟨fun _ X W hb hd hu => ?_, fun h => (by have h' : (gb 2 == false) = false := h; rw [gb2] at h'; cases h')⟩
      have d0 := hd 6 (by kernel_rfl)
      rw [e6, g6] at d0
      have h0 := (hin (X := X) (k := 49) (by decide)).trans d0
      refine v_value (V := V 7) (v := .bool true) ?_ (by rw [e7])
      generalize (puts A X ds).eval = ρ at h0 ⊢
      go_simp
    · refine ⟨fun _ X W hb hd hu => ?_, fun h => absurd (show true = false from h) (by decide)⟩
      have d0 := hd 2 (by kernel_rfl)
      rw [e2, g2] at d0
      have h0 := (hin (X := X) (k := 45) (by decide)).trans d0
      have d1 := hd 7 (by kernel_rfl)
      rw [e7, g7] at d1
      have h1 := (hin (X := X) (k := 50) (by decide)).trans d1
      have h2 : (puts A X ds).eval (.const (.bool true)) = .bool true := rfl
      refine v_value (V := V 8) (v := .bool true) ?_ (by rw [e8])
      generalize (puts A X ds).eval = ρ at h0 h1 h2 ⊢
      go_simp
    · refine ⟨fun _ X W hb hd hu => ?_, fun h => absurd (show true = false from h) (by decide)⟩
      have d0 := hd 8 (by kernel_rfl)
      rw [e8, g8] at d0
      have h0 := (hin (X := X) (k := 51) (by decide)).trans d0
      refine v_value (V := V 9) (v := .bool true) ?_ (by rw [e9])
      generalize (puts A X ds).eval = ρ at h0 ⊢
      go_simp
    · refine ⟨fun h => (by have h' : (gb 9 == false) = true := h; rw [gb9] at h'; cases h'), fun _ W => (by rw [e10]; trivial)⟩
    · refine ⟨fun h => (by have h' : (gb 9 == false) = true := h; rw [gb9] at h'; cases h'), fun _ W => (by rw [e11]; trivial)⟩
    · refine ⟨fun h => (by have h' : (gb 9 == false) = true := h; rw [gb9] at h'; cases h'), fun _ W => (by rw [e12]; trivial)⟩
    · refine ⟨fun h => (by have h' : (gb 9 == false) = true := h; rw [gb9] at h'; cases h'), fun _ W => (by rw [e13]; trivial)⟩
    · refine ⟨fun h => (by have h' : (gb 9 == false) = true := h; rw [gb9] at h'; cases h'), fun _ W => (by rw [e14]; trivial)⟩
    · refine ⟨fun h => (by have h' : (gb 9 == false) = true := h; rw [gb9] at h'; cases h'), fun _ W => (by rw [e15]; trivial)⟩
    · refine ⟨fun h => (by have h' : (gb 9 == false) = true := h; rw [gb9] at h'; cases h'), fun _ W => (by rw [e16]; trivial)⟩
    · refine ⟨fun h => (by have h' : (gb 9 == false) = true := h; rw [gb9] at h'; cases h'), fun _ W => (by rw [e17]; trivial)⟩
    · refine ⟨fun h => (by have h' : (gb 9 == false) = true := h; rw [gb9] at h'; cases h'), fun _ W => (by rw [e18]; trivial)⟩
    · refine ⟨fun h => (by have h' : (gb 9 == false) = true := h; rw [gb9] at h'; cases h'), fun _ W => (by rw [e19]; trivial)⟩
    · refine ⟨fun _ X W hb hd hu => ?_, fun h => absurd (show true = false from h) (by decide)⟩
      have d0 := hd 9 (by kernel_rfl)
      rw [e9, g9] at d0
      have h0 := (hin (X := X) (k := 52) (by decide)).trans d0
      have h1 : (puts A X ds).eval (.const (.bool true)) = .bool true := rfl
      refine v_value (V := V 20) (v := .bool true) ?_ (by rw [e20])
      generalize (puts A X ds).eval = ρ at h0 h1 ⊢
      go_simp
  · intro X W hb hall
    have r20 := hall 20 (by decide)
    rw [e20, g20] at r20
    have := HK X W hb r20
    rw [hds] at this
    exact this
set_option maxRecDepth 100000 in
set_option maxHeartbeats 4000000 in
theorem match_r12t {W0 : World} {A : Act} {bw gi n ci m p : Nat} {so sn : Value} {bl g o lc : Nat} {x y : Int} {K : Act → World → Prop} {Q' : Exit → Act → World → Prop} (hsz : A.tmps.size = 65) (hA10 : A.eval (.tmp 10) = .bool true) (hA5 : A.eval (.tmp 5) = .pointer (some ⟨bw, 0, none⟩)) (hA7 : A.eval (.tmp 7) = .int .i64 (m : Nat)) (hA9 : A.eval (.tmp 9) = .int .i64 (p : Nat)) (hW : W0.heap[bw]? = some (.cells #[.slice (some ⟨gi, 0, none⟩) n ci, so, sn] 81 (0, 0))) (hN : ∀ W, Below W0.heap.size W0 W → Calls Try.prog 49 #[.agg #[.slice (some ⟨gi, 0, none⟩) n ci, so, sn], .int .i64 (m : Nat), .int .i64 (p : Nat)] W fun r w' => r = .returned (.bool true) ∧ Below W.heap.size W w') (hA3 : A.eval (.tmp 3) = .pointer (some ⟨bl, 0, none⟩)) (hL : W0.cell? ⟨bl, 0, none⟩ = some (.slice (some ⟨g, o, none⟩) n lc)) (hx : W0.cell? ⟨g, o + p, none⟩ = some (.int .i64 x)) (hS : W0.cell? ⟨bw, 0, none⟩ = some (.slice (some ⟨gi, 0, none⟩) n ci)) (hy : W0.cell? ⟨gi, m, none⟩ = some (.int .i64 y)) (hpn : p < n) (hin' : m < n)
    (HK : ∀ X W, Below W0.heap.size W0 W → X 63 = .bool (x != y) → K (puts A X [43, 44, 45, 46, 47, 48, 49, 50, 51, 52, 53, 54, 55, 56, 57, 58, 59, 60, 61, 62, 63]) W) :
    Code.wp Try.prog ((Try.f25.body.bind (regionJ 12)).getD .skip) (Exit.then K Q') A W0 := by
  obtain ⟨ds, hds⟩ : ∃ ds, [43, 44, 45, 46, 47, 48, 49, 50, 51, 52, 53, 54, 55, 56, 57, 58, 59, 60, 61, 62, 63] = ds := ⟨_, rfl⟩
  have hlt : ∀ d ∈ [43, 44, 45, 46, 47, 48, 49, 50, 51, 52, 53, 54, 55, 56, 57, 58, 59, 60, 61, 62, 63], d < A.tmps.size := by rw [hsz]; decide
  have hin : ∀ {X : Nat → Value} {k : Nat}, k ∈ [43, 44, 45, 46, 47, 48, 49, 50, 51, 52, 53, 54, 55, 56, 57, 58, 59, 60, 61, 62, 63] → (puts A X ds).eval (.tmp k) = X k := fun hk => by rw [← hds]; exact eval_in hk (hlt _ hk)
  have hout : ∀ {X : Nat → Value} {k : Nat}, k ∉ [43, 44, 45, 46, 47, 48, 49, 50, 51, 52, 53, 54, 55, 56, 57, 58, 59, 60, 61, 62, 63] → (puts A X ds).eval (.tmp k) = A.eval (.tmp k) := fun hk => by rw [← hds]; exact eval_out hk
  have g0 : ds.getD 0 0 = 43 := by rw [← hds]; rfl
  have g1 : ds.getD 1 0 = 44 := by rw [← hds]; rfl
  have g2 : ds.getD 2 0 = 45 := by rw [← hds]; rfl
  have g3 : ds.getD 3 0 = 46 := by rw [← hds]; rfl
  have g4 : ds.getD 4 0 = 47 := by rw [← hds]; rfl
  have g5 : ds.getD 5 0 = 48 := by rw [← hds]; rfl
  have g6 : ds.getD 6 0 = 49 := by rw [← hds]; rfl
  have g7 : ds.getD 7 0 = 50 := by rw [← hds]; rfl
  have g8 : ds.getD 8 0 = 51 := by rw [← hds]; rfl
  have g9 : ds.getD 9 0 = 52 := by rw [← hds]; rfl
  have g10 : ds.getD 10 0 = 53 := by rw [← hds]; rfl
  have g11 : ds.getD 11 0 = 54 := by rw [← hds]; rfl
  have g12 : ds.getD 12 0 = 55 := by rw [← hds]; rfl
  have g13 : ds.getD 13 0 = 56 := by rw [← hds]; rfl
  have g14 : ds.getD 14 0 = 57 := by rw [← hds]; rfl
  have g15 : ds.getD 15 0 = 58 := by rw [← hds]; rfl
  have g16 : ds.getD 16 0 = 59 := by rw [← hds]; rfl
  have g17 : ds.getD 17 0 = 60 := by rw [← hds]; rfl
  have g18 : ds.getD 18 0 = 61 := by rw [← hds]; rfl
  have g19 : ds.getD 19 0 = 62 := by rw [← hds]; rfl
  have g20 : ds.getD 20 0 = 63 := by rw [← hds]; rfl
  obtain ⟨gb, hgbE⟩ : ∃ gb : Nat → Bool, (fun j => if j = 2 then false else if j = 9 then false else true) = gb := ⟨_, rfl⟩
  have gb2 : gb 2 = false := by rw [← hgbE]; rfl
  have gb9 : gb 9 = false := by rw [← hgbE]; rfl
  obtain ⟨V, hV, e0, e1, e2, e3, e4, e5, e6, e7, e8, e9, e10, e11, e12, e13, e14, e15, e16, e17, e18, e19, e20⟩ : ∃ V : Nat → Value → World → Prop, (∀ i v W W', V i v W → Below W.heap.size W W' → V i v W') ∧ (∀ v W, V 0 v W = (v = .bool true)) ∧ (∀ v W, V 1 v W = (v = .bool false)) ∧ (∀ v W, V 2 v W = (v = .bool false)) ∧ (∀ v W, V 3 v W = (v = .agg #[.slice (some ⟨gi, 0, none⟩) n ci, so, sn])) ∧ (∀ v W, V 4 v W = (v = .int .i64 (m : Nat))) ∧ (∀ v W, V 5 v W = (v = .int .i64 (p : Nat))) ∧ (∀ v W, V 6 v W = (v = .bool true)) ∧ (∀ v W, V 7 v W = (v = .bool false)) ∧ (∀ v W, V 8 v W = (v = .bool false)) ∧ (∀ v W, V 9 v W = (v = .bool false)) ∧ (∀ v W, V 10 v W = (v = .slice (some ⟨g, o, none⟩) n lc)) ∧ (∀ v W, V 11 v W = (v = .int .i64 (p : Nat))) ∧ (∀ v W, V 12 v W = (v = .pointer (some ⟨g, o + p, none⟩))) ∧ (∀ v W, V 13 v W = (v = .int .i64 x)) ∧ (∀ v W, V 14 v W = (v = .pointer (some ⟨bw, 0, none⟩))) ∧ (∀ v W, V 15 v W = (v = .slice (some ⟨gi, 0, none⟩) n ci)) ∧ (∀ v W, V 16 v W = (v = .int .i64 (m : Nat))) ∧ (∀ v W, V 17 v W = (v = .pointer (some ⟨gi, m, none⟩))) ∧ (∀ v W, V 18 v W = (v = .int .i64 y)) ∧ (∀ v W, V 19 v W = (v = .bool (x != y))) ∧ (∀ v W, V 20 v W = (v = .bool (x != y))) := by
    refine ⟨fun i v W => match i with
      | 0 => v = .bool true
      | 1 => v = .bool false
      | 2 => v = .bool false
      | 3 => v = .agg #[.slice (some ⟨gi, 0, none⟩) n ci, so, sn]
      | 4 => v = .int .i64 (m : Nat)
      | 5 => v = .int .i64 (p : Nat)
      | 6 => v = .bool true
      | 7 => v = .bool false
      | 8 => v = .bool false
      | 9 => v = .bool false
      | 10 => v = .slice (some ⟨g, o, none⟩) n lc
      | 11 => v = .int .i64 (p : Nat)
      | 12 => v = .pointer (some ⟨g, o + p, none⟩)
      | 13 => v = .int .i64 x
      | 14 => v = .pointer (some ⟨bw, 0, none⟩)
      | 15 => v = .slice (some ⟨gi, 0, none⟩) n ci
      | 16 => v = .int .i64 (m : Nat)
      | 17 => v = .pointer (some ⟨gi, m, none⟩)
      | 18 => v = .int .i64 y
      | 19 => v = .bool (x != y)
      | 20 => v = .bool (x != y)
      | _ => True, ?_, fun _ _ => rfl, fun _ _ => rfl, fun _ _ => rfl, fun _ _ => rfl, fun _ _ => rfl, fun _ _ => rfl, fun _ _ => rfl, fun _ _ => rfl, fun _ _ => rfl, fun _ _ => rfl, fun _ _ => rfl, fun _ _ => rfl, fun _ _ => rfl, fun _ _ => rfl, fun _ _ => rfl, fun _ _ => rfl, fun _ _ => rfl, fun _ _ => rfl, fun _ _ => rfl, fun _ _ => rfl, fun _ _ => rfl⟩
    intro i v W W' h hb
    match i, h with
    | 0, h => exact h
    | 1, h => exact h
    | 2, h => exact h
    | 3, h => exact h
    | 4, h => exact h
    | 5, h => exact h
    | 6, h => exact h
    | 7, h => exact h
    | 8, h => exact h
    | 9, h => exact h
    | 10, h => exact h
    | 11, h => exact h
    | 12, h => exact h
    | 13, h => exact h
    | 14, h => exact h
    | 15, h => exact h
    | 16, h => exact h
    | 17, h => exact h
    | 18, h => exact h
    | 19, h => exact h
    | 20, h => exact h
    | _ + 21, _ => trivial
  conv => arg 2; whnf
  refine wp_region_G ds V gb (by kernel_rfl) (by kernel_rfl) (by rw [← hds]; kernel_rfl) (by rw [← hds]; exact hlt) hV ?_ ?_ ?_
  · intro i o j want ho hg v W hv
    have hj : j ∈ [2, 9] := guards_at (by kernel_rfl) ho hg
    simp only [List.mem_cons, List.not_mem_nil, or_false] at hj
    rcases hj with rfl | rfl
    · rw [gb2]; rw [e2] at hv; exact hv
    · rw [gb9]; rw [e9] at hv; exact hv
  · refine ⟨?_, ?_, ?_, ?_, ?_, ?_, ?_, ?_, ?_, ?_, ?_, ?_, ?_, ?_, ?_, ?_, ?_, ?_, ?_, ?_, ?_, trivial⟩
    · refine ⟨fun _ X W hb hd hu => ?_, fun h => absurd (show true = false from h) (by decide)⟩
      have h0 := hout (X := X) (k := 10) (by decide)
      rw [hA10] at h0
      refine v_value (V := V 0) (v := .bool true) ?_ (by rw [e0])
      generalize (puts A X ds).eval = ρ at h0 ⊢
      go_simp
    · refine ⟨fun _ X W hb hd hu => ?_, fun h => absurd (show true = false from h) (by decide)⟩
      have d0 := hd 0 (by kernel_rfl)
      rw [e0, g0] at d0
      have h0 := (hin (X := X) (k := 43) (by decide)).trans d0
      refine v_value (V := V 1) (v := .bool false) ?_ (by rw [e1])
      generalize (puts A X ds).eval = ρ at h0 ⊢
      go_simp
    · refine ⟨fun _ X W hb hd hu => ?_, fun h => absurd (show true = false from h) (by decide)⟩
      have d0 := hd 1 (by kernel_rfl)
      rw [e1, g1] at d0
      have h0 := (hin (X := X) (k := 44) (by decide)).trans d0
      refine v_value (V := V 2) (v := .bool false) ?_ (by rw [e2])
      generalize (puts A X ds).eval = ρ at h0 ⊢
      go_simp
    · refine ⟨fun _ X W hb hd hu => ?_, fun h => (by have h' : (gb 2 == false) = false := h; rw [gb2] at h'; cases h')⟩
      have h0 := hout (X := X) (k := 5) (by decide)
      rw [hA5] at h0
      exact wp_load_row 81 _ rfl bw h0 81 #[.slice (some ⟨gi, 0, none⟩) n ci, so, sn] (0, 0) _ ((hb.block _ (Array.getElem?_eq_some_iff.1 hW).1).trans hW) Try.underlying81 rfl size_web ⟨_, rfl, by rw [e3], Below.refl _ _⟩
    · refine ⟨fun _ X W hb hd hu => ?_, fun h => (by have h' : (gb 2 == false) = false := h; rw [gb2] at h'; cases h')⟩
      have h0 := hout (X := X) (k := 7) (by decide)
      rw [hA7] at h0
      refine v_value (V := V 4) (v := .int .i64 (m : Nat)) ?_ (by rw [e4])
      generalize (puts A X ds).eval = ρ at h0 ⊢
      go_simp
    · refine ⟨fun _ X W hb hd hu => ?_, fun h => (by have h' : (gb 2 == false) = false := h; rw [gb2] at h'; cases h')⟩
      have h0 := hout (X := X) (k := 9) (by decide)
      rw [hA9] at h0
      refine v_value (V := V 5) (v := .int .i64 (p : Nat)) ?_ (by rw [e5])
      generalize (puts A X ds).eval = ρ at h0 ⊢
      go_simp
    · refine ⟨fun _ X W hb hd hu => ?_, fun h => (by have h' : (gb 2 == false) = false := h; rw [gb2] at h'; cases h')⟩
      have d0 := hd 3 (by kernel_rfl)
      rw [e3, g3] at d0
      have h0 := (hin (X := X) (k := 46) (by decide)).trans d0
      have d1 := hd 4 (by kernel_rfl)
      rw [e4, g4] at d1
      have h1 := (hin (X := X) (k := 47) (by decide)).trans d1
      have d2 := hd 5 (by kernel_rfl)
      rw [e5, g5] at d2
      have h2 := (hin (X := X) (k := 48) (by decide)).trans d2
      have hf : (puts A X ds).eval (.func 49) = .func (.func 49) #[] #[] := rfl
      refine v_call (V := V 6) (f := 49) (vs := #[.agg #[.slice (some ⟨gi, 0, none⟩) n ci, so, sn], .int .i64 (m : Nat), .int .i64 (p : Nat)]) ?_ ?_
      · generalize (puts A X ds).eval = ρ at h0 h1 h2 hf ⊢
        go_simp
      · refine (hN W hb).mono ?_
        rintro r W' ⟨rfl, hb'⟩
        exact ⟨_, rfl, by rw [e6], hb'⟩
    · refine ⟨fun _ X W hb hd hu => ?_, fun h => (by have h' : (gb 2 == false) = false := h; rw [gb2] at h'; cases h')⟩
      have d0 := hd 6 (by kernel_rfl)
      rw [e6, g6] at d0
      have h0 := (hin (X := X) (k := 49) (by decide)).trans d0
      refine v_value (V := V 7) (v := .bool false) ?_ (by rw [e7])
      generalize (puts A X ds).eval = ρ at h0 ⊢
      go_simp
    · refine ⟨fun _ X W hb hd hu => ?_, fun h => absurd (show true = false from h) (by decide)⟩
      have d0 := hd 2 (by kernel_rfl)
      rw [e2, g2] at d0
      have h0 := (hin (X := X) (k := 45) (by decide)).trans d0
      have d1 := hd 7 (by kernel_rfl)
      rw [e7, g7] at d1
      have h1 := (hin (X := X) (k := 50) (by decide)).trans d1
      have h2 : (puts A X ds).eval (.const (.bool true)) = .bool true := rfl
      refine v_value (V := V 8) (v := .bool false) ?_ (by rw [e8])
      generalize (puts A X ds).eval = ρ at h0 h1 h2 ⊢
      go_simp
    · refine ⟨fun _ X W hb hd hu => ?_, fun h => absurd (show true = false from h) (by decide)⟩
      have d0 := hd 8 (by kernel_rfl)
      rw [e8, g8] at d0
      have h0 := (hin (X := X) (k := 51) (by decide)).trans d0
      refine v_value (V := V 9) (v := .bool false) ?_ (by rw [e9])
      generalize (puts A X ds).eval = ρ at h0 ⊢
      go_simp
    · refine ⟨fun _ X W hb hd hu => ?_, fun h => (by have h' : (gb 9 == false) = false := h; rw [gb9] at h'; cases h')⟩
      have h0 := hout (X := X) (k := 3) (by decide)
      rw [hA3] at h0
      have c0 := (hb.cell (p := ⟨bl, 0, none⟩) (lt_cell hL)).trans hL
      refine v_value (V := V 10) (v := .slice (some ⟨g, o, none⟩) n lc) ?_ (by rw [e10])
      generalize (puts A X ds).eval = ρ at h0 ⊢
      go_simp
    · refine ⟨fun _ X W hb hd hu => ?_, fun h => (by have h' : (gb 9 == false) = false := h; rw [gb9] at h'; cases h')⟩
      have h0 := hout (X := X) (k := 9) (by decide)
      rw [hA9] at h0
      refine v_value (V := V 11) (v := .int .i64 (p : Nat)) ?_ (by rw [e11])
      generalize (puts A X ds).eval = ρ at h0 ⊢
      go_simp
    · refine ⟨fun _ X W hb hd hu => ?_, fun h => (by have h' : (gb 9 == false) = false := h; rw [gb9] at h'; cases h')⟩
      have d0 := hd 10 (by kernel_rfl)
      rw [e10, g10] at d0
      have h0 := (hin (X := X) (k := 53) (by decide)).trans d0
      have d1 := hd 11 (by kernel_rfl)
      rw [e11, g11] at d1
      have h1 := (hin (X := X) (k := 54) (by decide)).trans d1
      have hj1 : (0:Int) ≤ p := by omega
      have hj2 : (p : Int) < n := by omega
      refine v_value (V := V 12) (v := .pointer (some ⟨g, o + p, none⟩)) ?_ (by rw [e12])
      generalize (puts A X ds).eval = ρ at h0 h1 ⊢
      go_simp
    · refine ⟨fun _ X W hb hd hu => ?_, fun h => (by have h' : (gb 9 == false) = false := h; rw [gb9] at h'; cases h')⟩
      have d0 := hd 12 (by kernel_rfl)
      rw [e12, g12] at d0
      have h0 := (hin (X := X) (k := 55) (by decide)).trans d0
      have c0 := (hb.cell (p := ⟨g, o + p, none⟩) (lt_cell hx)).trans hx
      refine v_value (V := V 13) (v := .int .i64 x) ?_ (by rw [e13])
      generalize (puts A X ds).eval = ρ at h0 ⊢
      go_simp
    · refine ⟨fun _ X W hb hd hu => ?_, fun h => (by have h' : (gb 9 == false) = false := h; rw [gb9] at h'; cases h')⟩
      have h0 := hout (X := X) (k := 5) (by decide)
      rw [hA5] at h0
      refine v_value (V := V 14) (v := .pointer (some ⟨bw, 0, none⟩)) ?_ (by rw [e14])
      generalize (puts A X ds).eval = ρ at h0 ⊢
      go_simp
    · refine ⟨fun _ X W hb hd hu => ?_, fun h => (by have h' : (gb 9 == false) = false := h; rw [gb9] at h'; cases h')⟩
      have d0 := hd 14 (by kernel_rfl)
      rw [e14, g14] at d0
      have h0 := (hin (X := X) (k := 57) (by decide)).trans d0
      have c0 := (hb.cell (p := ⟨bw, 0, none⟩) (lt_cell hS)).trans hS
      refine v_value (V := V 15) (v := .slice (some ⟨gi, 0, none⟩) n ci) ?_ (by rw [e15])
      generalize (puts A X ds).eval = ρ at h0 ⊢
      go_simp
    · refine ⟨fun _ X W hb hd hu => ?_, fun h => (by have h' : (gb 9 == false) = false := h; rw [gb9] at h'; cases h')⟩
      have h0 := hout (X := X) (k := 7) (by decide)
      rw [hA7] at h0
      refine v_value (V := V 16) (v := .int .i64 (m : Nat)) ?_ (by rw [e16])
      generalize (puts A X ds).eval = ρ at h0 ⊢
      go_simp
    · refine ⟨fun _ X W hb hd hu => ?_, fun h => (by have h' : (gb 9 == false) = false := h; rw [gb9] at h'; cases h')⟩
      have d0 := hd 15 (by kernel_rfl)
      rw [e15, g15] at d0
      have h0 := (hin (X := X) (k := 58) (by decide)).trans d0
      have d1 := hd 16 (by kernel_rfl)
      rw [e16, g16] at d1
      have h1 := (hin (X := X) (k := 59) (by decide)).trans d1
      have hj1 : (0:Int) ≤ m := by omega
      have hj2 : (m : Int) < n := by omega
      refine v_value (V := V 17) (v := .pointer (some ⟨gi, m, none⟩)) ?_ (by rw [e17])
      generalize (puts A X ds).eval = ρ at h0 h1 ⊢
      go_simp
    · refine ⟨fun _ X W hb hd hu => ?_, fun h => (by have h' : (gb 9 == false) = false := h; rw [gb9] at h'; cases h')⟩
      have d0 := hd 17 (by kernel_rfl)
      rw [e17, g17] at d0
      have h0 := (hin (X := X) (k := 60) (by decide)).trans d0
      have c0 := (hb.cell (p := ⟨gi, m, none⟩) (lt_cell hy)).trans hy
      refine v_value (V := V 18) (v := .int .i64 y) ?_ (by rw [e18])
      generalize (puts A X ds).eval = ρ at h0 ⊢
      go_simp
    · refine ⟨fun _ X W hb hd hu => ?_, fun h => (by have h' : (gb 9 == false) = false := h; rw [gb9] at h'; cases h')⟩
      have d0 := hd 13 (by kernel_rfl)
      rw [e13, g13] at d0
      have h0 := (hin (X := X) (k := 56) (by decide)).trans d0
      have d1 := hd 18 (by kernel_rfl)
      rw [e18, g18] at d1
      have h1 := (hin (X := X) (k := 61) (by decide)).trans d1
      refine v_value (V := V 19) (v := .bool (x != y)) ?_ (by rw [e19])
      generalize (puts A X ds).eval = ρ at h0 h1 ⊢
      go_simp
    · refine ⟨fun _ X W hb hd hu => ?_, fun h => absurd (show true = false from h) (by decide)⟩
      have d0 := hd 9 (by kernel_rfl)
      rw [e9, g9] at d0
      have h0 := (hin (X := X) (k := 52) (by decide)).trans d0
      have d1 := hd 19 (by kernel_rfl)
      rw [e19, g19] at d1
      have h1 := (hin (X := X) (k := 62) (by decide)).trans d1
      have h2 : (puts A X ds).eval (.const (.bool true)) = .bool true := rfl
      refine v_value (V := V 20) (v := .bool (x != y)) ?_ (by rw [e20])
      generalize (puts A X ds).eval = ρ at h0 h1 h2 ⊢
      go_simp
  · intro X W hb hall
    have r20 := hall 20 (by decide)
    rw [e20, g20] at r20
    have := HK X W hb r20
    rw [hds] at this
    exact this
end Go.Proofs.Ytcfbmgbhpihdcaa
